/-
  Texts in one: SlOne, SlSeq, SlSortA, SlInsort, SlSorted, SlCerts.
-/
import Derived.Test.YtbpbcmbcoffdlaaSlotsCertsQFL
import Derived.Test.YtbpbcmbcoffdlaaSlotsCertsQ0
import Derived.Test.YtbpbcmbcoffdlaaSlotsCertsQ5
import Derived.Test.YtbpbcmbcoffdlaaSlotsCertsQ6
import Derived.Maps.AppendAt
import Derived.Test.YtbpbcmbcoffdlaaSlotsCertsQ2
namespace Go.Proofs.Ytbpbcmbcoffdlaa
open Go.RowKit
def litO (l : List OA) (n : Nat) : Bool := decide (l.length ≤ n) && l.all fun o => decide (o.b.n ≤ 100)
theorem litO_of {l : List OA} {n : Nat} (h : litO l n = true) : l.length ≤ n ∧ ∀ o ∈ l, o.b.n ≤ 100 := by
  unfold litO at h
  simp only [Bool.and_eq_true, decide_eq_true_eq, List.all_eq_true] at h
  exact h
def svO (o : OA) : SV := ⟨o.fr, [o.k % 256], o.b.xs⟩
def oneG (g : GT) (o : OA) : GT × Int :=
  if o.k = 0 then preG g (svO o) o.seq (strOfNums o.b.xs)
  else if o.k = 1 then parG g (svO o) o.seq (strOfNums o.b.xs)
  else if o.k = 2 then comG g (svO o) o.seq (strOfNums o.b.xs)
  else if o.k = 3 then entG g o.seq
  else if o.k = 4 then advG g o.seq
  else (g, 0)
set_option maxRecDepth 100000 in
set_option maxHeartbeats 4000000 in
theorem light15 (w : World) (ao : Option Addr) (n cap : Nat) (l : List OA) (h : GL elO w ao n cap l) (m : Nat) (hm : m ≤ 100) : Calls Try.prog 9 #[.slice ao n cap, .int .i64 (m : Nat)] w fun e w' => e = .returned (.bool (litO l m)) ∧ Below w.heap.size w w' := by
  have hl := h.len
  by_cases hb : n ≤ m
  · have i1 : ¬ (m : Int) < (n : Int) := by omega
    have HL : Hid (litO l m = l.all fun o => decide (o.b.n ≤ 100)) := by show _ = _; unfold litO; rw [decide_eq_true (by omega), Bool.true_and]
    rw [HL.out]
    obtain ⟨R, hR⟩ : ∃ R, R = l.all fun o => decide (o.b.n ≤ 100) := ⟨_, rfl⟩
    rw [← hR]
    have HR : Hid (R = _) := hR
    clear hR HL
    go_enter Try.func9, Try.ntmps9
    go_wp2
    go_loopw [5] (fun i wr => ∃ k : Nat, k ≤ n ∧ i = .int .i64 (k : Nat) ∧ Below w.heap.size w wr ∧ Hid (∀ j (hj : j < l.length), j < k → l[j].b.n ≤ 100)) (fun i _ => n - (intOf i).toNat)
    case atStart => exact ⟨0, Nat.zero_le _, rfl, Below.refl _ _, fun j hj h0 => absurd h0 (Nat.not_lt_zero _)⟩
    case round =>
      obtain ⟨k, hk, rfl, BR, HK⟩ := hrel
      by_cases hlt : k < n
      · have hki : (k : Int) < (n : Int) := by omega
        obtain ⟨b, off, rfl, hX⟩ := h.atO (by omega)
        have hkx : k < l.length := by omega
        have HX := hX k hkx
        obtain ⟨o, ho⟩ : ∃ o, o = l[k] := ⟨_, rfl⟩
        rw [← ho] at HX
        have c3 := (BR.cell (World.block_lt_of_cell? _ _ HX.c3)).trans HX.c3
        have HO : Hid (o = l[k]) := ho
        clear hX HX ho
        by_cases h100 : o.b.n ≤ 100
        · have i2 : ¬ (100 : Int) < (o.b.n : Int) := by omega
          have HK2 : Hid (∀ j (hj : j < l.length), j < k + 1 → l[j].b.n ≤ 100) := fun j hj h1 => by
            by_cases e : j = k
            · subst e
              rw [← HO.out]
              exact h100
            · exact HK.out j hj (by omega)
          clear h100
          go_wp2
          go_roundw
          case rel => exact ⟨k + 1, by omega, by go_num, BR, HK2⟩
          case measure => simp [intOf]; omega
        · have i2 : (100 : Int) < (o.b.n : Int) := by omega
          have hf : (l.all fun o => decide (o.b.n ≤ 100)) = false := by
            rw [List.all_eq_false]
            exact ⟨o, by rw [HO.out]; exact List.getElem_mem hkx, by simpa using h100⟩
          have hR2 : Hid (R = false) := HR.out.trans hf
          clear h100 hf
          go_wp2
          go_ret
          exact ⟨by rw [hR2.out] <;> rfl, BR⟩
      · have hge : ¬ (k : Int) < (n : Int) := by omega
        have ht : (l.all fun o => decide (o.b.n ≤ 100)) = true := by
          rw [List.all_eq_true]
          intro o ho
          obtain ⟨j, hj, rfl⟩ := List.getElem_of_mem ho
          exact decide_eq_true (HK.out j hj (by omega))
        have hR2 : Hid (R = true) := HR.out.trans ht
        clear ht
        go_wp2
        go_ret
        exact ⟨by rw [hR2.out] <;> rfl, BR⟩
  · have i1 : (m : Int) < (n : Int) := by omega
    have HL : Hid (litO l m = false) := by show _ = _; unfold litO; rw [decide_eq_false (by omega), Bool.false_and]
    rw [HL.out]
    clear hb
    go_enter Try.func9, Try.ntmps9
    go_wp2
    go_ret
    exact ⟨rfl, Below.refl _ _⟩
set_option maxRecDepth 100000 in
set_option maxHeartbeats 4000000 in
theorem one_0 (w : World) (base L M n : Nat) (g : GT) (F : Value → Option Value) (B : Nat → SB) (ρ : Nat → Nat) (h : LG w base L M n g F B ρ) (hn : n < maxLen) (fr seq : Nat) (b : Bs) (ok : OA.ok ⟨0, fr, seq, b⟩ w) (hr : ∀ z, b.blk z → ρ z = 0) (hz : b.n ≤ 1000000) :
    Calls Try.prog 12 #[.pointer (some ⟨L, 0, none⟩), .agg #[.int .i64 0, .int .u64 (fr : Nat), .int .u64 (seq : Nat), .slice b.ao b.n b.cap]] w (MsgPost w base L M n ρ (oneG g ⟨0, fr, seq, b⟩)) := by
  have b1 : Below w.heap.size w (((w.alloc (.cells #[.int .i64 0, .int .u64 (fr : Nat), .int .u64 (seq : Nat), .slice b.ao b.n b.cap] 37)).alloc (.cells #[.int .u8 0] 5)).alloc (.cells #[.int .u64 (fr : Nat), .slice (some ⟨w.heap.size + 1, 0, none⟩) 1 1, .slice b.ao b.n b.cap] 62)) := (((Below.refl _ w).alloc (Nat.le_refl _) _).alloc (by simp) _).alloc (by simp; omega) _
  obtain ⟨K1, T1⟩ := h.below b1
  have S2 : Sl (((w.alloc (.cells #[.int .i64 0, .int .u64 (fr : Nat), .int .u64 (seq : Nat), .slice b.ao b.n b.cap] 37)).alloc (.cells #[.int .u8 0] 5)).alloc (.cells #[.int .u64 (fr : Nat), .slice (some ⟨w.heap.size + 1, 0, none⟩) 1 1, .slice b.ao b.n b.cap] 62)) (some ⟨w.heap.size + 1, 0, none⟩) 1 1 [0] := by
    have e : (w.alloc (.cells #[.int .i64 0, .int .u64 (fr : Nat), .int .u64 (seq : Nat), .slice b.ao b.n b.cap] 37)).heap.size = w.heap.size + 1 := by simp
    have S := Sl.new (w.alloc (.cells #[.int .i64 0, .int .u64 (fr : Nat), .int .u64 (seq : Nat), .slice b.ao b.n b.cap] 37)) [0] (fun x hx => by rw [List.mem_singleton.1 hx]; omega) (by decide)
    rw [e] at S
    exact Sl.below S ((Below.refl _ _).alloc (Nat.le_refl _) _)
  have CA := pre_any _ _ _ _ _ _ _ _ _ K1 hn ⟨fr, ⟨some ⟨w.heap.size + 1, 0, none⟩, 1, 1, [0]⟩, b⟩ ⟨ok.fr, S2, ok.b.below b1⟩ (fun z hz => by
    rcases hz with ⟨a, ha, _, e⟩ | hz
    · cases ha
      rw [← e]
      exact rho_new (by show w.heap.size ≤ w.heap.size + 1; omega)
    · rw [rho_old (ok.b.blk_lt hz)]
      exact hr z hz) ⟨by show 1 ≤ _; omega, hz⟩ seq ok.seq b.ao b.n b.cap b.xs (ok.b.below b1) (fun z hz => by
    have hz : b.blk z := hz
    rw [rho_old (ok.b.blk_lt hz)]
    exact hr z hz) hz
  have HV : Hid (oneG g ⟨0, fr, seq, b⟩ = preG g (SA.v ⟨fr, ⟨some ⟨w.heap.size + 1, 0, none⟩, 1, 1, [0]⟩, b⟩) seq (strOfNums b.xs)) := rfl
  have HT : Hid (Stp base w _ ρ _) := T1
  rw [HV.out]
  unfold SA.val at CA
  clear h K1 T1 S2 b1 ok hr HV
  go_enter Try.func12, Try.ntmps12
  go_wp2_with (go_at_call 27; refine CA.mono ?_; rintro x w5 ⟨n5, F5, B5, ρ5, rfl, K5, T5, h5⟩)
  go_ret
  exact ⟨n5, F5, B5, ρ5, rfl, K5, HT.out.trans T5, h5⟩
set_option maxRecDepth 100000 in
set_option maxHeartbeats 4000000 in
theorem one_1 (w : World) (base L M n : Nat) (g : GT) (F : Value → Option Value) (B : Nat → SB) (ρ : Nat → Nat) (h : LG w base L M n g F B ρ) (hn : n < maxLen) (fr seq : Nat) (b : Bs) (ok : OA.ok ⟨1, fr, seq, b⟩ w) (hr : ∀ z, b.blk z → ρ z = 0) (hz : b.n ≤ 1000000) :
    Calls Try.prog 12 #[.pointer (some ⟨L, 0, none⟩), .agg #[.int .i64 1, .int .u64 (fr : Nat), .int .u64 (seq : Nat), .slice b.ao b.n b.cap]] w (MsgPost w base L M n ρ (oneG g ⟨1, fr, seq, b⟩)) := by
  have b1 : Below w.heap.size w (((w.alloc (.cells #[.int .i64 1, .int .u64 (fr : Nat), .int .u64 (seq : Nat), .slice b.ao b.n b.cap] 37)).alloc (.cells #[.int .u8 1] 5)).alloc (.cells #[.int .u64 (fr : Nat), .slice (some ⟨w.heap.size + 1, 0, none⟩) 1 1, .slice b.ao b.n b.cap] 62)) := (((Below.refl _ w).alloc (Nat.le_refl _) _).alloc (by simp) _).alloc (by simp; omega) _
  obtain ⟨K1, T1⟩ := h.below b1
  have S2 : Sl (((w.alloc (.cells #[.int .i64 1, .int .u64 (fr : Nat), .int .u64 (seq : Nat), .slice b.ao b.n b.cap] 37)).alloc (.cells #[.int .u8 1] 5)).alloc (.cells #[.int .u64 (fr : Nat), .slice (some ⟨w.heap.size + 1, 0, none⟩) 1 1, .slice b.ao b.n b.cap] 62)) (some ⟨w.heap.size + 1, 0, none⟩) 1 1 [1] := by
    have e : (w.alloc (.cells #[.int .i64 1, .int .u64 (fr : Nat), .int .u64 (seq : Nat), .slice b.ao b.n b.cap] 37)).heap.size = w.heap.size + 1 := by simp
    have S := Sl.new (w.alloc (.cells #[.int .i64 1, .int .u64 (fr : Nat), .int .u64 (seq : Nat), .slice b.ao b.n b.cap] 37)) [1] (fun x hx => by rw [List.mem_singleton.1 hx]; omega) (by decide)
    rw [e] at S
    exact Sl.below S ((Below.refl _ _).alloc (Nat.le_refl _) _)
  have CA := prepare_any _ _ _ _ _ _ _ _ _ K1 hn ⟨fr, ⟨some ⟨w.heap.size + 1, 0, none⟩, 1, 1, [1]⟩, b⟩ ⟨ok.fr, S2, ok.b.below b1⟩ (fun z hz => by
    rcases hz with ⟨a, ha, _, e⟩ | hz
    · cases ha
      rw [← e]
      exact rho_new (by show w.heap.size ≤ w.heap.size + 1; omega)
    · rw [rho_old (ok.b.blk_lt hz)]
      exact hr z hz) ⟨by show 1 ≤ _; omega, hz⟩ seq ok.seq b.ao b.n b.cap b.xs (ok.b.below b1) (fun z hz => by
    have hz : b.blk z := hz
    rw [rho_old (ok.b.blk_lt hz)]
    exact hr z hz) hz
  have HV : Hid (oneG g ⟨1, fr, seq, b⟩ = parG g (SA.v ⟨fr, ⟨some ⟨w.heap.size + 1, 0, none⟩, 1, 1, [1]⟩, b⟩) seq (strOfNums b.xs)) := rfl
  have HT : Hid (Stp base w _ ρ _) := T1
  rw [HV.out]
  unfold SA.val at CA
  clear h K1 T1 S2 b1 ok hr HV
  go_enter Try.func12, Try.ntmps12
  go_wp2_with (go_at_call 28; refine CA.mono ?_; rintro x w5 ⟨n5, F5, B5, ρ5, rfl, K5, T5, h5⟩)
  go_ret
  exact ⟨n5, F5, B5, ρ5, rfl, K5, HT.out.trans T5, h5⟩
set_option maxRecDepth 100000 in
set_option maxHeartbeats 4000000 in
theorem one_2 (w : World) (base L M n : Nat) (g : GT) (F : Value → Option Value) (B : Nat → SB) (ρ : Nat → Nat) (h : LG w base L M n g F B ρ) (hn : n < maxLen) (fr seq : Nat) (b : Bs) (ok : OA.ok ⟨2, fr, seq, b⟩ w) (hr : ∀ z, b.blk z → ρ z = 0) (hz : b.n ≤ 1000000) :
    Calls Try.prog 12 #[.pointer (some ⟨L, 0, none⟩), .agg #[.int .i64 2, .int .u64 (fr : Nat), .int .u64 (seq : Nat), .slice b.ao b.n b.cap]] w (MsgPost w base L M n ρ (oneG g ⟨2, fr, seq, b⟩)) := by
  have b1 : Below w.heap.size w (((w.alloc (.cells #[.int .i64 2, .int .u64 (fr : Nat), .int .u64 (seq : Nat), .slice b.ao b.n b.cap] 37)).alloc (.cells #[.int .u8 2] 5)).alloc (.cells #[.int .u64 (fr : Nat), .slice (some ⟨w.heap.size + 1, 0, none⟩) 1 1, .slice b.ao b.n b.cap] 62)) := (((Below.refl _ w).alloc (Nat.le_refl _) _).alloc (by simp) _).alloc (by simp; omega) _
  obtain ⟨K1, T1⟩ := h.below b1
  have S2 : Sl (((w.alloc (.cells #[.int .i64 2, .int .u64 (fr : Nat), .int .u64 (seq : Nat), .slice b.ao b.n b.cap] 37)).alloc (.cells #[.int .u8 2] 5)).alloc (.cells #[.int .u64 (fr : Nat), .slice (some ⟨w.heap.size + 1, 0, none⟩) 1 1, .slice b.ao b.n b.cap] 62)) (some ⟨w.heap.size + 1, 0, none⟩) 1 1 [2] := by
    have e : (w.alloc (.cells #[.int .i64 2, .int .u64 (fr : Nat), .int .u64 (seq : Nat), .slice b.ao b.n b.cap] 37)).heap.size = w.heap.size + 1 := by simp
    have S := Sl.new (w.alloc (.cells #[.int .i64 2, .int .u64 (fr : Nat), .int .u64 (seq : Nat), .slice b.ao b.n b.cap] 37)) [2] (fun x hx => by rw [List.mem_singleton.1 hx]; omega) (by decide)
    rw [e] at S
    exact Sl.below S ((Below.refl _ _).alloc (Nat.le_refl _) _)
  have CA := commit_any _ _ _ _ _ _ _ _ _ K1 hn ⟨fr, ⟨some ⟨w.heap.size + 1, 0, none⟩, 1, 1, [2]⟩, b⟩ ⟨ok.fr, S2, ok.b.below b1⟩ (fun z hz => by
    rcases hz with ⟨a, ha, _, e⟩ | hz
    · cases ha
      rw [← e]
      exact rho_new (by show w.heap.size ≤ w.heap.size + 1; omega)
    · rw [rho_old (ok.b.blk_lt hz)]
      exact hr z hz) ⟨by show 1 ≤ _; omega, hz⟩ seq ok.seq b.ao b.n b.cap b.xs (ok.b.below b1) (fun z hz => by
    have hz : b.blk z := hz
    rw [rho_old (ok.b.blk_lt hz)]
    exact hr z hz) hz
  have HV : Hid (oneG g ⟨2, fr, seq, b⟩ = comG g (SA.v ⟨fr, ⟨some ⟨w.heap.size + 1, 0, none⟩, 1, 1, [2]⟩, b⟩) seq (strOfNums b.xs)) := rfl
  have HT : Hid (Stp base w _ ρ _) := T1
  rw [HV.out]
  unfold SA.val at CA
  clear h K1 T1 S2 b1 ok hr HV
  go_enter Try.func12, Try.ntmps12
  go_wp2_with (go_at_call 29; refine CA.mono ?_; rintro x w5 ⟨n5, F5, B5, ρ5, rfl, K5, T5, h5⟩)
  go_ret
  exact ⟨n5, F5, B5, ρ5, rfl, K5, HT.out.trans T5, h5⟩
set_option maxRecDepth 100000 in
set_option maxHeartbeats 4000000 in
theorem one_3 (w : World) (base L M n : Nat) (g : GT) (F : Value → Option Value) (B : Nat → SB) (ρ : Nat → Nat) (h : LG w base L M n g F B ρ) (fr seq : Nat) (b : Bs) (_ : OA.ok ⟨3, fr, seq, b⟩ w) (_ : ∀ z, b.blk z → ρ z = 0) (_ : b.n ≤ 1000000) :
    Calls Try.prog 12 #[.pointer (some ⟨L, 0, none⟩), .agg #[.int .i64 3, .int .u64 (fr : Nat), .int .u64 (seq : Nat), .slice b.ao b.n b.cap]] w (MsgPost w base L M n ρ (oneG g ⟨3, fr, seq, b⟩)) := by
  have b1 : Below w.heap.size w (((w.alloc (.cells #[.int .i64 3, .int .u64 (fr : Nat), .int .u64 (seq : Nat), .slice b.ao b.n b.cap] 37)).alloc (.cells #[.int .u8 3] 5)).alloc (.cells #[.int .u64 (fr : Nat), .slice (some ⟨w.heap.size + 1, 0, none⟩) 1 1, .slice b.ao b.n b.cap] 62)) := (((Below.refl _ w).alloc (Nat.le_refl _) _).alloc (by simp) _).alloc (by simp; omega) _
  obtain ⟨K1, T1⟩ := h.below b1
  have CA := enter_any _ _ _ _ _ _ _ _ _ K1 seq
  have HV : Hid (oneG g ⟨3, fr, seq, b⟩ = entG g seq) := rfl
  have HT : Hid (Stp base w _ ρ _) := T1
  rw [HV.out]
  clear h K1 T1 b1 HV
  go_enter Try.func12, Try.ntmps12
  go_wp2_with (go_at_call 30; refine CA.mono ?_; rintro x w5 ⟨n5, F5, B5, ρ5, rfl, K5, T5, h5⟩)
  go_ret
  exact ⟨n5, F5, B5, ρ5, rfl, K5, HT.out.trans T5, h5⟩
set_option maxRecDepth 100000 in
set_option maxHeartbeats 4000000 in
theorem one_4 (w : World) (base L M n : Nat) (g : GT) (F : Value → Option Value) (B : Nat → SB) (ρ : Nat → Nat) (h : LG w base L M n g F B ρ) (fr seq : Nat) (b : Bs) (_ : OA.ok ⟨4, fr, seq, b⟩ w) (_ : ∀ z, b.blk z → ρ z = 0) (_ : b.n ≤ 1000000) :
    Calls Try.prog 12 #[.pointer (some ⟨L, 0, none⟩), .agg #[.int .i64 4, .int .u64 (fr : Nat), .int .u64 (seq : Nat), .slice b.ao b.n b.cap]] w (MsgPost w base L M n ρ (oneG g ⟨4, fr, seq, b⟩)) := by
  have b1 : Below w.heap.size w (((w.alloc (.cells #[.int .i64 4, .int .u64 (fr : Nat), .int .u64 (seq : Nat), .slice b.ao b.n b.cap] 37)).alloc (.cells #[.int .u8 4] 5)).alloc (.cells #[.int .u64 (fr : Nat), .slice (some ⟨w.heap.size + 1, 0, none⟩) 1 1, .slice b.ao b.n b.cap] 62)) := (((Below.refl _ w).alloc (Nat.le_refl _) _).alloc (by simp) _).alloc (by simp; omega) _
  obtain ⟨K1, T1⟩ := h.below b1
  have CA := advance_any _ _ _ _ _ _ _ _ _ K1 seq
  have HV : Hid (oneG g ⟨4, fr, seq, b⟩ = advG g seq) := rfl
  have HT : Hid (Stp base w _ ρ _) := T1
  rw [HV.out]
  clear h K1 T1 b1 HV
  go_enter Try.func12, Try.ntmps12
  go_wp2_with (go_at_call 31; refine CA.mono ?_; rintro x w5 ⟨n5, F5, B5, ρ5, rfl, K5, T5, h5⟩)
  go_ret
  exact ⟨n5, F5, B5, ρ5, rfl, K5, HT.out.trans T5, h5⟩
set_option maxRecDepth 100000 in
set_option maxHeartbeats 4000000 in
theorem one_x (w : World) (base L M n : Nat) (g : GT) (F : Value → Option Value) (B : Nat → SB) (ρ : Nat → Nat) (h : LG w base L M n g F B ρ) (fr seq : Nat) (b : Bs) (kk : Int) (k0 : kk ≠ 0) (k1 : kk ≠ 1) (k2 : kk ≠ 2) (k3 : kk ≠ 3) (k4 : kk ≠ 4) (_ : OA.ok ⟨kk, fr, seq, b⟩ w) (_ : ∀ z, b.blk z → ρ z = 0) (_ : b.n ≤ 1000000) :
    Calls Try.prog 12 #[.pointer (some ⟨L, 0, none⟩), .agg #[.int .i64 kk, .int .u64 (fr : Nat), .int .u64 (seq : Nat), .slice b.ao b.n b.cap]] w (MsgPost w base L M n ρ (oneG g ⟨kk, fr, seq, b⟩)) := by
  have b1 : Below w.heap.size w (((w.alloc (.cells #[.int .i64 kk, .int .u64 (fr : Nat), .int .u64 (seq : Nat), .slice b.ao b.n b.cap] 37)).alloc (.cells #[.int .u8 (IntKind.u8.wrap kk)] 5)).alloc (.cells #[.int .u64 (fr : Nat), .slice (some ⟨w.heap.size + 1, 0, none⟩) 1 1, .slice b.ao b.n b.cap] 62)) := (((Below.refl _ w).alloc (Nat.le_refl _) _).alloc (by simp) _).alloc (by simp; omega) _
  obtain ⟨K1, T1⟩ := h.below b1
  have HV : Hid (oneG g ⟨kk, fr, seq, b⟩ = (g, 0)) := (if_neg k0).trans ((if_neg k1).trans ((if_neg k2).trans ((if_neg k3).trans (if_neg k4))))
  have HT : Hid (LG _ base L M n g F B _ ∧ Stp base w _ ρ _) := ⟨K1, T1⟩
  rw [HV.out]
  clear h K1 T1 b1 HV
  go_enter Try.func12, Try.ntmps12
  go_wp2
  go_ret
  exact ⟨n, F, B, _, rfl, HT.out.1, HT.out.2, by omega⟩
theorem one_any (w : World) (base L M n : Nat) (g : GT) (F : Value → Option Value) (B : Nat → SB) (ρ : Nat → Nat) (h : LG w base L M n g F B ρ) (hn : n < maxLen) (o : OA) (ok : o.ok w) (hr : ∀ z, o.b.blk z → ρ z = 0) (hz : o.b.n ≤ 1000000) :
    Calls Try.prog 12 #[.pointer (some ⟨L, 0, none⟩), .agg #[.int .i64 o.k, .int .u64 (o.fr : Nat), .int .u64 (o.seq : Nat), .slice o.b.ao o.b.n o.b.cap]] w (MsgPost w base L M n ρ (oneG g o)) := by
  obtain ⟨kk, fr, seq, b⟩ := o
  by_cases k0 : kk = 0
  · subst k0
    exact one_0 w base L M n g F B ρ h hn fr seq b ok hr hz
  by_cases k1 : kk = 1
  · subst k1
    exact one_1 w base L M n g F B ρ h hn fr seq b ok hr hz
  by_cases k2 : kk = 2
  · subst k2
    exact one_2 w base L M n g F B ρ h hn fr seq b ok hr hz
  by_cases k3 : kk = 3
  · subst k3
    exact one_3 w base L M n g F B ρ h fr seq b ok hr hz
  by_cases k4 : kk = 4
  · subst k4
    exact one_4 w base L M n g F B ρ h fr seq b ok hr hz
  exact one_x w base L M n g F B ρ h fr seq b kk k0 k1 k2 k3 k4 ok hr hz
open Go.RowKit Go.Shelf
attribute [local go_sem] Oper.semAt_some
theorem u64info : (Try.prog.info? 30).map (fun i => (i.zero, i.size, i.bytes)) = some (some (.int .u64 0), 1, 8) := by kernel_rfl
def uv (ss : List Nat) : List Value := ss.map eU
theorem uv_len (ss : List Nat) : (uv ss).length = ss.length := by simp [uv]
theorem uv_app (ss : List Nat) (x : Nat) : uv (ss ++ [x]) = uv ss ++ [eU x] := by simp [uv]
theorem walks_of {W W' : World} (h : KeepsOthers W W') : KeepsWalks W W' := ⟨h.size, fun k o hk hw => h.same k o hk (Obj.not_cells_of_walk hw)⟩
def CollPost (w : World) (D : DataW Value) (e : Ending) (w' : World) : Prop := ∃ v ss, e = .returned v ∧ ColU D (fun _ => false) ss ∧ w'.ownsRow w.heap.size 30 1 v ss.length (uv ss) ∧ Below w.heap.size w w'
set_option maxRecDepth 100000 in
set_option maxHeartbeats 4000000 in
theorem appendSeq_u (n : Nat) (hn : 3 ≤ n) (Bm b nn : Nat) (D : DataW Value) (G : Value → Option Value)
    (hG : ∀ v l, keyOf Try.prog 30 v = some l → (G v = none ∧ Maps.has D l = false ∧ ∀ z, D.atKey l z = z) ∨ ∃ u, G v = some u ∧ Maps.has D l = true ∧ ∀ z, D.atKey l z = .held u)
    (hsz : Maps.size D ≤ 1000000) (w : World) (hBm : w.cell? ⟨Bm, 0, none⟩ = some (.map (some b))) (hown : w.ownsMap Try.prog 30 vElem b nn D) :
    CallsIn Fence.wide n Try.prog 76 #[.slice none 0 0, .func (.func 66) #[] #[.pointer (some ⟨Bm, 0, none⟩)]] w (CollPost w D) := by
  have h1 : 1 ≤ n := by omega
  obtain ⟨i0, hi, hz0, hz1, hz2⟩ := info_parts u64info
  have hBl : Bm < w.heap.size := World.block_lt_of_cell? w _ hBm
  have hbl := hown.lt
  refine callsIn_of_wp_marks Try.func76 rfl trivial ?_ rfl
  simp only [Try.ntmps76, List.size_toArray, List.length_cons, List.length_nil, Nat.reduceAdd, Nat.reduceSub, Array.replicate_succ, Array.replicate_zero, List.push_toArray, List.append_toArray, List.nil_append, List.cons_append]
  gi_wp2
  have bO := Boxed.new w 59 (.slice none 0 0)
  have hB0 : Below w.heap.size w (w.alloc (.cells #[.slice none 0 0] 59)) := (Below.refl _ w).alloc (Nat.le_refl _) _
  have hown1 : (w.alloc (.cells #[.slice none 0 0] 59)).ownsMap Try.prog 30 vElem b nn D := by
    obtain ⟨es, clock, hb, Ft, hs, hD⟩ := hown
    exact ⟨es, clock, (hB0.block b hbl).trans hb, Ft, hs, hD⟩
  refine wpIn_rangeFunc_ownG rfl h1 (gf := 66) (lb := #[.pointer (some ⟨Bm, 0, none⟩)]) rfl trivial (enters_of Try.func66 (by kernel_rfl) rfl)
    (keys_stopsU Fence.wide (n - 1) trivial rfl (by omega) Bm b nn D G hG _ ((hB0.cell (p := ⟨Bm, 0, none⟩) hBl).trans hBm) hown1) walksK_t walksK_b (Below.refl _ _) (fun _ => rfl)
    (fun pre W => (∃ v, Boxed W w.heap.size 59 v ∧ W.ownsRow w.heap.size 30 1 v pre.length (uv pre) ∧ True) ∧ Below w.heap.size w W)
    (fun _ _ _ => False)
    (OwnFrom.and (Own.from (holdsRow_own w.heap.size w.heap.size 59 30 1 (fun pre => List.length pre) (fun pre => uv pre) (fun _ _ => True)) _) (ownFrom_below (Nat.le_refl _) (by simp)))
    (fun _ _ _ _ _ hs _ _ => hs)
    ⟨⟨_, bO, World.ownsRow_nil _ _ _ _, trivial⟩, hB0⟩
    (fun x => { tmps := #[.slice none 0 0, .func (.func 66) #[] #[.pointer (some ⟨Bm, 0, none⟩)], .pointer (some ⟨w.heap.size, 0, none⟩), undef, .slice none 0 0, eU x, .func (.func 66) #[] #[.pointer (some ⟨Bm, 0, none⟩)], eU x, undef, undef, undef, undef, undef], defers := [] }) ?assign ?body ?done ?stop
  case assign =>
    intro l x W K hK
    gi_wp2
    exact hK
  case body =>
    rintro l pre x W ⟨⟨v, hv, hrow, _⟩, hB⟩ hlt
    have hc := hv.cell
    have hn0 : w.heap.size ≤ W.heap.size := hB.size
    gi_wp2_with (gi_at_builtin; refine wpListIn_append_own _ rfl _ _ 59 rfl w.heap.size 30 i0 (.int .u64 0) 1 8 Try.underlying59 hi hz0 hz1 hz2 rfl (by decide) _ _ _ rfl (hrow.alloc _) ⟨W.heap.size, 0, none⟩ 1 1 [eU x] rfl rfl (cell_one_new _ _ _) (by simp [Value.oneCell', eU]) (by unfold maxLen; omega) (by omega) (by simp; omega) ?_; intro v' w2 hown' hgrow _; obtain ⟨g', cap', rfl⟩ := ownsRow_succ hown'; obtain ⟨hv1, hv2, hr2, hk2, hb2⟩ := hv.appended (by decide) hrow hB.size (Nat.le_refl _) hown' hgrow; have hc1 := hv1.cell; have hf1 := hv1.frozen)
    exact ⟨hk2.from _, walks_of hk2, ⟨_, hv2, by rw [uv_app, List.length_append]; exact hr2, trivial⟩, hB.trans hb2⟩
  case done =>
    rintro E ys W hE hys ⟨⟨v, hv, hrow, _⟩, hB⟩ hK
    have hc := hv.cell
    gi_wp2
    refine ⟨by simp, .inl ⟨_, _, rfl, run_takeDeferred hK, ?_⟩⟩
    exact ⟨_, results_tmp rfl _ _ _, _, ys, rfl, hys, ownsRow_putObj hrow _ hK rfl, hB.trans (belowK_b (w := w) (Nat.le_refl _) W E _ _ (by simp at hE; omega) hK rfl rfl)⟩
  case stop =>
    rintro E c pre W _ _ h _
    exact h.elim
theorem collect_u (n : Nat) (hn : 4 ≤ n) (Bm b nn : Nat) (D : DataW Value) (G : Value → Option Value)
    (hG : ∀ v l, keyOf Try.prog 30 v = some l → (G v = none ∧ Maps.has D l = false ∧ ∀ z, D.atKey l z = z) ∨ ∃ u, G v = some u ∧ Maps.has D l = true ∧ ∀ z, D.atKey l z = .held u)
    (hsz : Maps.size D ≤ 1000000) (w : World) (hBm : w.cell? ⟨Bm, 0, none⟩ = some (.map (some b))) (hown : w.ownsMap Try.prog 30 vElem b nn D) :
    CallsIn Fence.wide n Try.prog 64 #[.func (.func 66) #[] #[.pointer (some ⟨Bm, 0, none⟩)]] w (CollPost w D) := by
  have CA := appendSeq_u (n - 1) (by omega) Bm b nn D G hG hsz w hBm hown
  refine callsIn_of_wp Try.func64 rfl trivial ?_ rfl
  simp only [Try.ntmps64, List.size_toArray, List.length_cons, List.length_nil, Nat.reduceAdd, Nat.reduceSub, Array.replicate_succ, Array.replicate_zero, List.push_toArray, List.append_toArray, List.nil_append, List.cons_append]
  gi_wp2_with fail
  refine ⟨trivial, fun _ => by omega, CA.mono ?_⟩
  rintro e w1 ⟨v, ss, rfl, h2, h3, h4⟩
  gi_wp2
  go_ret
  exact ⟨v, ss, rfl, h2, h3, h4⟩
open Go.RowKit
theorem nan_u (x : Nat) (w : World) : Calls Try.prog 97 #[.int .u64 (x : Nat)] w fun e w' => e = .returned (.bool false) ∧ w' = w := by
  go_enter Try.func97, Try.ntmps97
  go_wp2
  go_ret
  exact ⟨rfl, rfl⟩
theorem less_u (x y : Nat) (w : World) : Calls Try.prog 87 #[.int .u64 (x : Nat), .int .u64 (y : Nat)] w fun e w' => e = .returned (.bool (decide (x < y))) ∧ w' = w := by
  have CN := fun v => nan_u v w
  go_enter Try.func87, Try.ntmps87
  go_wp2_with (go_at_call 97; refine (CN _).mono ?_; rintro e w1 ⟨rfl, hw1⟩; have hw1 := hw1.symm; subst hw1)
  go_ret
  exact ⟨rfl, rfl⟩
set_option maxRecDepth 100000 in
set_option maxHeartbeats 4000000 in
theorem len64_u (n : Nat) (hn : n ≤ 8) (w : World) : Calls Try.prog 91 #[.int .u64 (n : Nat)] w fun e w' => (∃ x : Int, e = .returned (.int .i64 x)) ∧ w' = w := by
  have h1 : ¬ (4294967296 : Int) ≤ (n : Int) := by omega
  have h2 : ¬ (65536 : Int) ≤ (n : Int) := by omega
  have h3 : ¬ (256 : Int) ≤ (n : Int) := by omega
  go_enter Try.func91, Try.ntmps91
  go_wp2
  go_ret
  exact ⟨⟨_, rfl⟩, rfl⟩
set_option maxRecDepth 100000 in
theorem len_u (n : Nat) (hn : n ≤ 8) (w : World) : Calls Try.prog 78 #[.int .u64 (n : Nat)] w fun e w' => (∃ x : Int, e = .returned (.int .i64 x)) ∧ w' = w := by
  have CL := len64_u n hn w
  go_enter Try.func78, Try.ntmps78
  go_wp2_with (go_at_call 91; refine CL.mono ?_; rintro e w1 ⟨⟨x, rfl⟩, hw1⟩; have hw1 := hw1.symm; subst hw1)
  go_ret
  exact ⟨⟨_, rfl⟩, rfl⟩
def SoTo (L : List Nat) (k : Nat) : Prop := ∀ a b, a < b → b < k → L.getD a 0 ≤ L.getD b 0
def Ins (L : List Nat) (k j : Nat) : Prop := (∀ a b, a < b → b ≤ k → a ≠ j → b ≠ j → L.getD a 0 ≤ L.getD b 0) ∧ ∀ b, j < b → b ≤ k → L.getD j 0 ≤ L.getD b 0
theorem SoTo.ins {L : List Nat} {k : Nat} (h : SoTo L k) : Ins L k k := ⟨fun a b hab hb _ hn => h a b hab (by omega), fun b h1 h2 => by omega⟩
theorem Ins.done {L : List Nat} {k j : Nat} (h : Ins L k j) (he : j = 0 ∨ ¬ L.getD j 0 < L.getD (j - 1) 0) : SoTo L (k + 1) := fun a b hab hb => by
  by_cases e1 : b = j
  · subst e1
    rcases he with rfl | he
    · omega
    · by_cases e2 : a = b - 1
      · subst e2
        omega
      · have := h.1 a (b - 1) (by omega) (by omega) (by omega) (by omega)
        omega
  · by_cases e2 : a = j
    · subst e2
      exact h.2 b hab (by omega)
    · exact h.1 a b hab (by omega) e2 e1
def swp (L : List Nat) (j : Nat) : List Nat := (L.set j (L.getD (j - 1) 0)).set (j - 1) (L.getD j 0)
theorem gset (L : List Nat) (i v a : Nat) (h : i < L.length) : (L.set i v).getD a 0 = if a = i then v else L.getD a 0 := by
  simp only [List.getD, List.getElem?_set]
  by_cases e : a = i
  · subst e
    simp [h]
  · rw [if_neg e, if_neg (fun q => e q.symm)]
theorem swp_at (L : List Nat) (j a : Nat) (h0 : 0 < j) (h : j < L.length) : (swp L j).getD a 0 = if a = j - 1 then L.getD j 0 else if a = j then L.getD (j - 1) 0 else L.getD a 0 := by
  unfold swp
  rw [gset _ _ _ _ (by rw [List.length_set]; omega), gset _ _ _ _ h]
theorem Ins.step {L : List Nat} {k j : Nat} (h : Ins L k j) (h0 : 0 < j) (hj : j ≤ k) (hk : k < L.length) (hlt : L.getD j 0 < L.getD (j - 1) 0) : Ins (swp L j) k (j - 1) := by
  refine ⟨fun a b hab hb ha hb' => ?_, fun b hb hbk => ?_⟩
  · rw [swp_at L j a h0 (by omega), swp_at L j b h0 (by omega), if_neg ha, if_neg hb']
    by_cases e1 : a = j
    · rw [if_pos e1, if_neg (by omega)]
      exact h.1 (j - 1) b (by omega) hb (by omega) (by omega)
    · rw [if_neg e1]
      by_cases e2 : b = j
      · rw [if_pos e2]
        exact h.1 a (j - 1) (by omega) (by omega) e1 (by omega)
      · rw [if_neg e2]
        exact h.1 a b hab hb e1 e2
  · rw [swp_at L j (j - 1) h0 (by omega), if_pos rfl, swp_at L j b h0 (by omega), if_neg (by omega)]
    by_cases e : b = j
    · rw [if_pos e]
      omega
    · rw [if_neg e]
      exact h.2 b (by omega) hbk
theorem swp_perm (L : List Nat) (j : Nat) (h0 : 0 < j) (h : j < L.length) : (swp L j).Perm L := by
  have e1 : L.getD (j - 1) 0 = L[j - 1]'(by omega) := by simp [List.getD, show j - 1 < L.length by omega]
  have e2 : L.getD j 0 = L[j] := by simp [List.getD, h]
  unfold swp
  rw [e1, e2]
  exact List.set_set_perm h (by omega)
theorem SoTo.pair {L : List Nat} (h : SoTo L L.length) : L.Pairwise (· ≤ ·) := by
  rw [List.pairwise_iff_getElem]
  intro i j hi hj hij
  have := h i j hij hj
  simpa [List.getD, hi, hj] using this
open Go.RowKit
theorem uvr_at {w : World} {gb : Nat} {L : List Nat} {rest : List Value} (h : Arr w gb 30 (uv L ++ rest)) (j : Nat) (hj : j < L.length) : w.cell? ⟨gb, j, none⟩ = some (.int .u64 (L.getD j 0 : Nat)) := by
  rw [h.cell, List.getElem?_append_left (by rw [uv_len]; exact hj)]
  simp [uv, List.getD, hj]
theorem uv_set (L : List Nat) (rest : List Value) (j v : Nat) (h : j < L.length) : (uv L ++ rest).set j (.int .u64 (v : Nat)) = uv (L.set j v) ++ rest := by
  rw [List.set_append_left _ _ (by rw [uv_len]; exact h)]
  simp [uv, List.map_set]
theorem less_at (w : World) (x y : Nat) {b : Bool} (h : decide (x < y) = b) : Calls Try.prog 87 #[.int .u64 (x : Nat), .int .u64 (y : Nat)] w fun e w' => e = .returned (.bool b) ∧ Below w.heap.size w w' := by
  refine (less_u x y w).mono ?_
  rintro e w' ⟨rfl, rfl⟩
  exact ⟨by rw [h], Below.refl _ _⟩
def SortPost (w : World) (gb : Nat) (L : List Nat) (rest : List Value) (e : Ending) (w' : World) : Prop := ∃ L', e = .returned (.tuple #[]) ∧ L'.Perm L ∧ L'.Pairwise (· ≤ ·) ∧ Arr w' gb 30 (uv L' ++ rest) ∧ w.grownBy w' (some gb)
set_option maxRecDepth 100000 in
set_option maxHeartbeats 4000000 in
theorem insort_u (w : World) (gb n cap : Nat) (L0 : List Nat) (rest : List Value) (hA : Arr w gb 30 (uv L0 ++ rest)) (hl : L0.length = n) (hn : n ≤ 8) :
    Calls Try.prog 81 #[.slice (some ⟨gb, 0, none⟩) n cap, .int .i64 0, .int .i64 (n : Nat)] w (SortPost w gb L0 rest) := by
  go_enter Try.func81, Try.ntmps81
  go_wp2
  go_loopw [6] (fun i wr => ∃ (k : Nat) (L : List Nat), i = .int .i64 (k : Nat) ∧ 1 ≤ k ∧ (k ≤ n ∨ k = 1) ∧ L.Perm L0 ∧ SoTo L k ∧ Arr wr gb 30 (uv L ++ rest) ∧ w.grownBy wr (some gb)) (fun i _ => 10 - (intOf i).toNat)
  case atStart => exact ⟨1, L0, rfl, Nat.le_refl _, .inr rfl, List.Perm.refl _, fun a b h1 h2 => by omega, hA, bel_grown (Below.refl _ _) _⟩
  case round =>
    obtain ⟨k, L, rfl, hk1, hk2, hP, hS, HA0, HG0⟩ := hrel
    have hL := hP.length_eq
    by_cases hlt : k < n
    · have hki : (k : Int) < (n : Int) := by omega
      have hS2 : Hid (Ins L k k) := hS.ins
      clear hS
      go_wp2
      go_loopw [7] (fun jv wr => ∃ (j : Nat) (L : List Nat), jv = .int .i64 (j : Nat) ∧ j ≤ k ∧ L.Perm L0 ∧ Hid (Ins L k j) ∧ Arr wr gb 30 (uv L ++ rest) ∧ w.grownBy wr (some gb)) (fun j _ => (intOf j).toNat)
      case atStart => exact ⟨k, L, rfl, Nat.le_refl _, hP, hS2, HA0, HG0⟩
      case round =>
        obtain ⟨j, L, rfl, hjk, hP, hI, HA, HG⟩ := hrel
        have hL := hP.length_eq
        by_cases hj0 : 0 < j
        · have hj1 : (0 : Int) < (j : Int) := by omega
          have iw : IntKind.i64.wrap ((j : Int) - 1) = (j : Int) - 1 := by rw [IntKind.wrap_i64]; omega
          have jn : ((j : Int) - 1).toNat = j - 1 := by omega
          have q1 : ¬ n ≤ j := by omega
          have q2 : ¬ (n : Int) ≤ (j : Int) - 1 := by omega
          have q3 : (1 : Int) ≤ (j : Int) := by omega
          by_cases hlt2 : L.getD j 0 < L.getD (j - 1) 0
          · have hless : decide (L.getD j 0 < L.getD (j - 1) 0) = true := decide_eq_true hlt2
            have hIn2 : Hid (Ins (swp L j) k (j - 1)) := hI.out.step hj0 hjk (by omega) hlt2
            clear hlt2
            go_wp2_with fail
            have tHS : Hid (∀ V, Below wr.heap.size wr V → V.cell? ⟨gb, j, none⟩ = some (.int .u64 (L.getD j 0 : Nat)) ∧ V.cell? ⟨gb, j - 1, none⟩ = some (.int .u64 (L.getD (j - 1) 0 : Nat))) := fun V hV => by have K := Arr.below HA hV HA.lt; exact ⟨uvr_at K j (by omega), uvr_at K (j - 1) (by omega)⟩
            have tE0 : Below wr.heap.size wr wr.drew := (Below.refl _ _).drew
            refine wp_region_noPanic ?_
            refine wp_region_held_drew (S := fun V => V.cell? ⟨gb, j, none⟩ = some (.int .u64 (L.getD j 0 : Nat)) ∧ V.cell? ⟨gb, j - 1, none⟩ = some (.int .u64 (L.getD (j - 1) 0 : Nat))) (by kernel_rfl) (tHS.out _ tE0) (fun tH0 => ?_)
            obtain ⟨tv0, hv0⟩ : ∃ v, v = wr.drew := ⟨_, rfl⟩
            rw [← hv0] at tH0 tE0 ⊢
            clear hv0
            refine hr_take_w 0 (some 16) (.int .i64 (j : Nat)) rfl rfl (by kernel_rfl) (by kernel_rfl) (by kernel_rfl) rfl (fun W hW => by obtain ⟨h0, h1⟩ := hW; go_simp) tH0 ?_
            simp only [FL]
            refine hr_take_w 1 (some 17) (.int .i64 0) rfl rfl (by kernel_rfl) (by kernel_rfl) (by kernel_rfl) rfl (fun W hW => by obtain ⟨h0, h1⟩ := hW; go_simp) tH0 ?_
            simp only [FL]
            refine hr_take_w 2 (some 18) (.bool true) rfl rfl (by kernel_rfl) (by kernel_rfl) (by kernel_rfl) rfl (fun W hW => by obtain ⟨h0, h1⟩ := hW; go_simp) tH0 ?_
            simp only [FL]
            refine hr_take_w 3 (some 19) (.bool true) rfl rfl (by kernel_rfl) (by kernel_rfl) (by kernel_rfl) rfl (fun W hW => by obtain ⟨h0, h1⟩ := hW; go_simp) tH0 ?_
            simp only [FL]
            refine hr_take_w 4 (some 20) (.slice (some ⟨gb, 0, none⟩) n cap) rfl rfl (by kernel_rfl) (by kernel_rfl) (by kernel_rfl) rfl (fun W hW => by obtain ⟨h0, h1⟩ := hW; go_simp) tH0 ?_
            simp only [FL]
            refine hr_take_w 5 (some 21) (.int .i64 (j : Nat)) rfl rfl (by kernel_rfl) (by kernel_rfl) (by kernel_rfl) rfl (fun W hW => by obtain ⟨h0, h1⟩ := hW; go_simp) tH0 ?_
            simp only [FL]
            refine hr_take_w 6 (some 22) (.pointer (some ⟨gb, j, none⟩)) rfl rfl (by kernel_rfl) (by kernel_rfl) (by kernel_rfl) rfl (fun W hW => by obtain ⟨h0, h1⟩ := hW; go_simp) tH0 ?_
            simp only [FL]
            refine hr_take_w 7 (some 23) (.int .u64 (L.getD j 0 : Nat)) rfl rfl (by kernel_rfl) (by kernel_rfl) (by kernel_rfl) rfl (fun W hW => by obtain ⟨h0, h1⟩ := hW; go_simp) tH0 ?_
            simp only [FL]
            refine hr_take_w 8 (some 24) (.slice (some ⟨gb, 0, none⟩) n cap) rfl rfl (by kernel_rfl) (by kernel_rfl) (by kernel_rfl) rfl (fun W hW => by obtain ⟨h0, h1⟩ := hW; go_simp) tH0 ?_
            simp only [FL]
            refine hr_take_w 9 (some 25) (.int .i64 (j : Nat)) rfl rfl (by kernel_rfl) (by kernel_rfl) (by kernel_rfl) rfl (fun W hW => by obtain ⟨h0, h1⟩ := hW; go_simp) tH0 ?_
            simp only [FL]
            refine hr_take_w 10 (some 26) (.int .i64 ((j : Int) - 1)) rfl rfl (by kernel_rfl) (by kernel_rfl) (by kernel_rfl) rfl (fun W hW => by obtain ⟨h0, h1⟩ := hW; go_simp) tH0 ?_
            simp only [FL]
            refine hr_take_w 11 (some 27) (.pointer (some ⟨gb, j - 1, none⟩)) rfl rfl (by kernel_rfl) (by kernel_rfl) (by kernel_rfl) rfl (fun W hW => by obtain ⟨h0, h1⟩ := hW; go_simp) tH0 ?_
            simp only [FL]
            refine hr_take_w 12 (some 28) (.int .u64 (L.getD (j - 1) 0 : Nat)) rfl rfl (by kernel_rfl) (by kernel_rfl) (by kernel_rfl) rfl (fun W hW => by obtain ⟨h0, h1⟩ := hW; go_simp) tH0 ?_
            simp only [FL]
            refine hr_call_w 13 (some 29) 87 #[.int .u64 (L.getD j 0 : Nat), .int .u64 (L.getD (j - 1) 0 : Nat)] rfl rfl (by kernel_rfl) rfl (by go_simp) (fun v w' => v = .bool true ∧ Below tv0.heap.size tv0 w') ((less_at tv0 _ _ hless).mono (by
              rintro e w' ⟨rfl, C⟩
              exact ⟨_, rfl, rfl, C⟩)) ?_
            rintro v tv1 ⟨rfl, tC0⟩
            have tE1 := tE0.trans (tC0.mono tE0.size)
            have tH1 := tHS.out tv1 tE1
            refine ⟨tH1, ?_⟩
            simp only [FL]
            refine hr_take_w 14 (some 30) (.bool true) rfl rfl (by kernel_rfl) (by kernel_rfl) (by kernel_rfl) rfl (fun W hW => by obtain ⟨h0, h1⟩ := hW; go_simp) tH1 ?_
            simp only [FL]
            refine wpAnyH_done (by kernel_rfl) ?_ _
            refine NoPanic.normal ?_
            have HA1 := Arr.below HA tE1 HA.lt
            go_wp2_with fail
            have uE0 : Below tv1.heap.size tv1 tv1.drew := (Below.refl _ _).drew
            refine wp_region_noPanic ?_
            refine wp_region_held_drew (S := fun _ => True) (by kernel_rfl) trivial (fun _ => ?_)
            obtain ⟨uv0, hv0⟩ : ∃ v, v = tv1.drew := ⟨_, rfl⟩
            rw [← hv0] at uE0 ⊢
            clear hv0
            have A1 := Arr.below HA1 uE0 HA1.lt
            have c0 := uvr_at A1 j (by omega)
            have c1 := uvr_at A1 (j - 1) (by omega)
            refine hr_take_w 0 (some 33) (.slice (some ⟨gb, 0, none⟩) n cap) rfl rfl (by kernel_rfl) (by kernel_rfl) (by kernel_rfl) rfl (fun W hW => by go_simp) trivial ?_
            simp only [FL]
            refine hr_take_w 1 (some 34) (.int .i64 (j : Nat)) rfl rfl (by kernel_rfl) (by kernel_rfl) (by kernel_rfl) rfl (fun W hW => by go_simp) trivial ?_
            simp only [FL]
            refine hr_take_w 2 (some 35) (.slice (some ⟨gb, 0, none⟩) n cap) rfl rfl (by kernel_rfl) (by kernel_rfl) (by kernel_rfl) rfl (fun W hW => by go_simp) trivial ?_
            simp only [FL]
            refine hr_take_w 3 (some 36) (.int .i64 (j : Nat)) rfl rfl (by kernel_rfl) (by kernel_rfl) (by kernel_rfl) rfl (fun W hW => by go_simp) trivial ?_
            simp only [FL]
            refine hr_take_w 4 (some 37) (.int .i64 ((j : Int) - 1)) rfl rfl (by kernel_rfl) (by kernel_rfl) (by kernel_rfl) rfl (fun W hW => by go_simp) trivial ?_
            simp only [FL]
            refine hr_take_w 5 (some 38) (.slice (some ⟨gb, 0, none⟩) n cap) rfl rfl (by kernel_rfl) (by kernel_rfl) (by kernel_rfl) rfl (fun W hW => by go_simp) trivial ?_
            simp only [FL]
            refine hr_take_w 6 (some 39) (.int .i64 (j : Nat)) rfl rfl (by kernel_rfl) (by kernel_rfl) (by kernel_rfl) rfl (fun W hW => by go_simp) trivial ?_
            simp only [FL]
            refine hr_take_w 7 (some 40) (.int .i64 ((j : Int) - 1)) rfl rfl (by kernel_rfl) (by kernel_rfl) (by kernel_rfl) rfl (fun W hW => by go_simp) trivial ?_
            simp only [FL]
            refine hr_take_w 10 (some 43) (.slice (some ⟨gb, 0, none⟩) n cap) rfl rfl (by kernel_rfl) (by kernel_rfl) (by kernel_rfl) rfl (fun W hW => by go_simp) trivial ?_
            simp only [FL]
            refine hr_take_w 11 (some 44) (.int .i64 (j : Nat)) rfl rfl (by kernel_rfl) (by kernel_rfl) (by kernel_rfl) rfl (fun W hW => by go_simp) trivial ?_
            simp only [FL]
            refine hr_take_w 8 (some 41) (.pointer (some ⟨gb, j - 1, none⟩)) rfl rfl (by kernel_rfl) (by kernel_rfl) (by kernel_rfl) rfl (fun W hW => by go_simp) trivial ?_
            simp only [FL]
            refine hr_take_w 12 (some 45) (.pointer (some ⟨gb, j, none⟩)) rfl rfl (by kernel_rfl) (by kernel_rfl) (by kernel_rfl) rfl (fun W hW => by go_simp) trivial ?_
            simp only [FL]
            refine hr_two (i := 9) (j := 13) (by kernel_rfl) ?_ ?_
            · refine op_ex 9 (some 42) rfl rfl rfl (R := fun v w' => v = .int .u64 (L.getD (j - 1) 0 : Nat) ∧ w' = uv0) ⟨_, _, by go_simp, rfl, rfl⟩ ?_
              rintro v w' ⟨rfl, rfl⟩
              refine ⟨trivial, ?_⟩
              simp only [FL]
              refine hr_do 13 (some 46) (.int .u64 (L.getD j 0 : Nat)) rfl rfl (by kernel_rfl) rfl (w' := w') (by go_simp) trivial ?_
              simp only [FL]
              refine hr_take_w 14 (some 47) (.pointer (some ⟨gb, j, none⟩)) rfl rfl (by kernel_rfl) (by kernel_rfl) (by kernel_rfl) rfl (fun W hW => by go_simp) trivial ?_
              simp only [FL]
              have f0 := A1.free j
              have A2 := A1.set j (.int .u64 (L.getD (j - 1) 0 : Nat))
              have c2 : (w'.setCell ⟨gb, j, none⟩ (.int .u64 (L.getD (j - 1) 0 : Nat))).cell? ⟨gb, j - 1, none⟩ = some (.int .u64 (L.getD (j - 1) 0 : Nat)) := by
                have := uvr_at (rest := rest) (L := L.set j (L.getD (j - 1) 0)) (by rw [uv_set L rest j _ (by omega)] at A2; exact A2) (j - 1) (by rw [List.length_set]; omega)
                rw [gset _ _ _ _ (by omega), if_neg (by omega)] at this
                exact this
              have f2 := A2.free (j - 1)
              have A3 := A2.set (j - 1) (.int .u64 (L.getD j 0 : Nat))
              have G2 : w'.grownBy (w'.setCell ⟨gb, j, none⟩ (.int .u64 (L.getD (j - 1) 0 : Nat))) (some gb) := grown_set (bel_grown (Below.refl _ w') (some gb)) j _
              obtain ⟨w2, hw2⟩ : ∃ v, v = w'.setCell ⟨gb, j, none⟩ (.int .u64 (L.getD (j - 1) 0 : Nat)) := ⟨_, rfl⟩
              refine hr_skip 15 none (w' := w2) rfl rfl (by kernel_rfl) rfl (by rw [hw2]; clear hw2; go_simp) trivial ?_
              rw [← hw2] at A2 A3 G2 c2 f2
              clear hw2
              simp only [Act.put]
              refine hr_take_w 16 (some 48) (.pointer (some ⟨gb, j - 1, none⟩)) rfl rfl (by kernel_rfl) (by kernel_rfl) (by kernel_rfl) rfl (fun W hW => by go_simp) trivial ?_
              simp only [FL]
              have G3 : w2.grownBy (w2.setCell ⟨gb, j - 1, none⟩ (.int .u64 (L.getD j 0 : Nat))) (some gb) := grown_set (bel_grown (Below.refl _ w2) (some gb)) (j - 1) _
              obtain ⟨w3, hw3⟩ : ∃ v, v = w2.setCell ⟨gb, j - 1, none⟩ (.int .u64 (L.getD j 0 : Nat)) := ⟨_, rfl⟩
              refine hr_skip 17 none (w' := w3) rfl rfl (by kernel_rfl) rfl (by rw [hw3]; clear hw3; go_simp) trivial ?_
              rw [← hw3] at A3 G3
              clear hw3
              simp only [Act.put]
              refine wpAnyH_done (by kernel_rfl) ?_ _
              refine NoPanic.normal ?_
              have A4 : Arr w3 gb 30 (uv (swp L j) ++ rest) := by
                rw [uv_set L rest j _ (by omega), uv_set _ rest (j - 1) _ (by rw [List.length_set]; omega)] at A3
                exact A3
              have G4 : w.grownBy w3 (some gb) := gro_trans (gro_trans (gro_trans (gro_trans HG (bel_grown tE1 _)) (bel_grown uE0 _)) G2) G3
              clear A1 A2 A3 c0 c1 c2 f0 f2
              go_wp2
              go_roundw
              case rel => exact ⟨j - 1, swp L j, by go_num, by omega, (swp_perm L j hj0 (by omega)).trans hP, hIn2, A4, G4⟩
              case measure => simp [intOf]; omega
            · refine op_ex 13 (some 46) rfl rfl rfl (R := fun v w' => v = .int .u64 (L.getD j 0 : Nat) ∧ w' = uv0) ⟨_, _, by go_simp, rfl, rfl⟩ ?_
              rintro v w' ⟨rfl, rfl⟩
              refine ⟨trivial, ?_⟩
              simp only [FL]
              refine hr_do 9 (some 42) (.int .u64 (L.getD (j - 1) 0 : Nat)) rfl rfl (by kernel_rfl) rfl (w' := w') (by go_simp) trivial ?_
              simp only [FL]
              refine hr_take_w 14 (some 47) (.pointer (some ⟨gb, j, none⟩)) rfl rfl (by kernel_rfl) (by kernel_rfl) (by kernel_rfl) rfl (fun W hW => by go_simp) trivial ?_
              simp only [FL]
              have f0 := A1.free j
              have A2 := A1.set j (.int .u64 (L.getD (j - 1) 0 : Nat))
              have c2 : (w'.setCell ⟨gb, j, none⟩ (.int .u64 (L.getD (j - 1) 0 : Nat))).cell? ⟨gb, j - 1, none⟩ = some (.int .u64 (L.getD (j - 1) 0 : Nat)) := by
                have := uvr_at (rest := rest) (L := L.set j (L.getD (j - 1) 0)) (by rw [uv_set L rest j _ (by omega)] at A2; exact A2) (j - 1) (by rw [List.length_set]; omega)
                rw [gset _ _ _ _ (by omega), if_neg (by omega)] at this
                exact this
              have f2 := A2.free (j - 1)
              have A3 := A2.set (j - 1) (.int .u64 (L.getD j 0 : Nat))
              have G2 : w'.grownBy (w'.setCell ⟨gb, j, none⟩ (.int .u64 (L.getD (j - 1) 0 : Nat))) (some gb) := grown_set (bel_grown (Below.refl _ w') (some gb)) j _
              obtain ⟨w2, hw2⟩ : ∃ v, v = w'.setCell ⟨gb, j, none⟩ (.int .u64 (L.getD (j - 1) 0 : Nat)) := ⟨_, rfl⟩
              refine hr_skip 15 none (w' := w2) rfl rfl (by kernel_rfl) rfl (by rw [hw2]; clear hw2; go_simp) trivial ?_
              rw [← hw2] at A2 A3 G2 c2 f2
              clear hw2
              simp only [Act.put]
              refine hr_take_w 16 (some 48) (.pointer (some ⟨gb, j - 1, none⟩)) rfl rfl (by kernel_rfl) (by kernel_rfl) (by kernel_rfl) rfl (fun W hW => by go_simp) trivial ?_
              simp only [FL]
              have G3 : w2.grownBy (w2.setCell ⟨gb, j - 1, none⟩ (.int .u64 (L.getD j 0 : Nat))) (some gb) := grown_set (bel_grown (Below.refl _ w2) (some gb)) (j - 1) _
              obtain ⟨w3, hw3⟩ : ∃ v, v = w2.setCell ⟨gb, j - 1, none⟩ (.int .u64 (L.getD j 0 : Nat)) := ⟨_, rfl⟩
              refine hr_skip 17 none (w' := w3) rfl rfl (by kernel_rfl) rfl (by rw [hw3]; clear hw3; go_simp) trivial ?_
              rw [← hw3] at A3 G3
              clear hw3
              simp only [Act.put]
              refine wpAnyH_done (by kernel_rfl) ?_ _
              refine NoPanic.normal ?_
              have A4 : Arr w3 gb 30 (uv (swp L j) ++ rest) := by
                rw [uv_set L rest j _ (by omega), uv_set _ rest (j - 1) _ (by rw [List.length_set]; omega)] at A3
                exact A3
              have G4 : w.grownBy w3 (some gb) := gro_trans (gro_trans (gro_trans (gro_trans HG (bel_grown tE1 _)) (bel_grown uE0 _)) G2) G3
              clear A1 A2 A3 c0 c1 c2 f0 f2
              go_wp2
              go_roundw
              case rel => exact ⟨j - 1, swp L j, by go_num, by omega, (swp_perm L j hj0 (by omega)).trans hP, hIn2, A4, G4⟩
              case measure => simp [intOf]; omega
          · have hless : decide (L.getD j 0 < L.getD (j - 1) 0) = false := decide_eq_false hlt2
            have hD : Hid (SoTo L (k + 1)) := hI.out.done (.inr hlt2)
            clear hlt2
            go_wp2_with fail
            have tHS : Hid (∀ V, Below wr.heap.size wr V → V.cell? ⟨gb, j, none⟩ = some (.int .u64 (L.getD j 0 : Nat)) ∧ V.cell? ⟨gb, j - 1, none⟩ = some (.int .u64 (L.getD (j - 1) 0 : Nat))) := fun V hV => by have K := Arr.below HA hV HA.lt; exact ⟨uvr_at K j (by omega), uvr_at K (j - 1) (by omega)⟩
            have tE0 : Below wr.heap.size wr wr.drew := (Below.refl _ _).drew
            refine wp_region_noPanic ?_
            refine wp_region_held_drew (S := fun V => V.cell? ⟨gb, j, none⟩ = some (.int .u64 (L.getD j 0 : Nat)) ∧ V.cell? ⟨gb, j - 1, none⟩ = some (.int .u64 (L.getD (j - 1) 0 : Nat))) (by kernel_rfl) (tHS.out _ tE0) (fun tH0 => ?_)
            obtain ⟨tv0, hv0⟩ : ∃ v, v = wr.drew := ⟨_, rfl⟩
            rw [← hv0] at tH0 tE0 ⊢
            clear hv0
            refine hr_take_w 0 (some 16) (.int .i64 (j : Nat)) rfl rfl (by kernel_rfl) (by kernel_rfl) (by kernel_rfl) rfl (fun W hW => by obtain ⟨h0, h1⟩ := hW; go_simp) tH0 ?_
            simp only [FL]
            refine hr_take_w 1 (some 17) (.int .i64 0) rfl rfl (by kernel_rfl) (by kernel_rfl) (by kernel_rfl) rfl (fun W hW => by obtain ⟨h0, h1⟩ := hW; go_simp) tH0 ?_
            simp only [FL]
            refine hr_take_w 2 (some 18) (.bool true) rfl rfl (by kernel_rfl) (by kernel_rfl) (by kernel_rfl) rfl (fun W hW => by obtain ⟨h0, h1⟩ := hW; go_simp) tH0 ?_
            simp only [FL]
            refine hr_take_w 3 (some 19) (.bool true) rfl rfl (by kernel_rfl) (by kernel_rfl) (by kernel_rfl) rfl (fun W hW => by obtain ⟨h0, h1⟩ := hW; go_simp) tH0 ?_
            simp only [FL]
            refine hr_take_w 4 (some 20) (.slice (some ⟨gb, 0, none⟩) n cap) rfl rfl (by kernel_rfl) (by kernel_rfl) (by kernel_rfl) rfl (fun W hW => by obtain ⟨h0, h1⟩ := hW; go_simp) tH0 ?_
            simp only [FL]
            refine hr_take_w 5 (some 21) (.int .i64 (j : Nat)) rfl rfl (by kernel_rfl) (by kernel_rfl) (by kernel_rfl) rfl (fun W hW => by obtain ⟨h0, h1⟩ := hW; go_simp) tH0 ?_
            simp only [FL]
            refine hr_take_w 6 (some 22) (.pointer (some ⟨gb, j, none⟩)) rfl rfl (by kernel_rfl) (by kernel_rfl) (by kernel_rfl) rfl (fun W hW => by obtain ⟨h0, h1⟩ := hW; go_simp) tH0 ?_
            simp only [FL]
            refine hr_take_w 7 (some 23) (.int .u64 (L.getD j 0 : Nat)) rfl rfl (by kernel_rfl) (by kernel_rfl) (by kernel_rfl) rfl (fun W hW => by obtain ⟨h0, h1⟩ := hW; go_simp) tH0 ?_
            simp only [FL]
            refine hr_take_w 8 (some 24) (.slice (some ⟨gb, 0, none⟩) n cap) rfl rfl (by kernel_rfl) (by kernel_rfl) (by kernel_rfl) rfl (fun W hW => by obtain ⟨h0, h1⟩ := hW; go_simp) tH0 ?_
            simp only [FL]
            refine hr_take_w 9 (some 25) (.int .i64 (j : Nat)) rfl rfl (by kernel_rfl) (by kernel_rfl) (by kernel_rfl) rfl (fun W hW => by obtain ⟨h0, h1⟩ := hW; go_simp) tH0 ?_
            simp only [FL]
            refine hr_take_w 10 (some 26) (.int .i64 ((j : Int) - 1)) rfl rfl (by kernel_rfl) (by kernel_rfl) (by kernel_rfl) rfl (fun W hW => by obtain ⟨h0, h1⟩ := hW; go_simp) tH0 ?_
            simp only [FL]
            refine hr_take_w 11 (some 27) (.pointer (some ⟨gb, j - 1, none⟩)) rfl rfl (by kernel_rfl) (by kernel_rfl) (by kernel_rfl) rfl (fun W hW => by obtain ⟨h0, h1⟩ := hW; go_simp) tH0 ?_
            simp only [FL]
            refine hr_take_w 12 (some 28) (.int .u64 (L.getD (j - 1) 0 : Nat)) rfl rfl (by kernel_rfl) (by kernel_rfl) (by kernel_rfl) rfl (fun W hW => by obtain ⟨h0, h1⟩ := hW; go_simp) tH0 ?_
            simp only [FL]
            refine hr_call_w 13 (some 29) 87 #[.int .u64 (L.getD j 0 : Nat), .int .u64 (L.getD (j - 1) 0 : Nat)] rfl rfl (by kernel_rfl) rfl (by go_simp) (fun v w' => v = .bool false ∧ Below tv0.heap.size tv0 w') ((less_at tv0 _ _ hless).mono (by
              rintro e w' ⟨rfl, C⟩
              exact ⟨_, rfl, rfl, C⟩)) ?_
            rintro v tv1 ⟨rfl, tC0⟩
            have tE1 := tE0.trans (tC0.mono tE0.size)
            have tH1 := tHS.out tv1 tE1
            refine ⟨tH1, ?_⟩
            simp only [FL]
            refine hr_take_w 14 (some 30) (.bool false) rfl rfl (by kernel_rfl) (by kernel_rfl) (by kernel_rfl) rfl (fun W hW => by obtain ⟨h0, h1⟩ := hW; go_simp) tH1 ?_
            simp only [FL]
            refine wpAnyH_done (by kernel_rfl) ?_ _
            refine NoPanic.normal ?_
            have HA1 := Arr.below HA tE1 HA.lt
            go_wp2
            go_roundw
            case rel => exact ⟨k + 1, L, by go_num, by omega, .inl (by omega), hP, hD.out, HA1, gro_trans HG (bel_grown tE1 _)⟩
            case measure => simp [intOf]; omega
        · obtain rfl : j = 0 := by omega
          have hD : Hid (SoTo L (k + 1)) := hI.out.done (.inl rfl)
          go_wp2_with fail
          have tHS : Hid (∀ V, Below wr.heap.size wr V → True) := fun _ _ => trivial
          have tE0 : Below wr.heap.size wr wr.drew := (Below.refl _ _).drew
          refine wp_region_noPanic ?_
          refine wp_region_held_drew (S := fun V => True) (by kernel_rfl) (tHS.out _ tE0) (fun tH0 => ?_)
          obtain ⟨tv0, hv0⟩ : ∃ v, v = wr.drew := ⟨_, rfl⟩
          rw [← hv0] at tE0 ⊢
          clear hv0
          refine hr_take_w 0 (some 16) (.int .i64 ((0 : Nat) : Int)) rfl rfl (by kernel_rfl) (by kernel_rfl) (by kernel_rfl) rfl (fun W hW => by go_simp) tH0 ?_
          simp only [FL]
          refine hr_take_w 1 (some 17) (.int .i64 0) rfl rfl (by kernel_rfl) (by kernel_rfl) (by kernel_rfl) rfl (fun W hW => by go_simp) tH0 ?_
          simp only [FL]
          refine hr_take_w 2 (some 18) (.bool false) rfl rfl (by kernel_rfl) (by kernel_rfl) (by kernel_rfl) rfl (fun W hW => by go_simp) tH0 ?_
          simp only [FL]
          refine hr_take_w 3 (some 19) (.bool false) rfl rfl (by kernel_rfl) (by kernel_rfl) (by kernel_rfl) rfl (fun W hW => by go_simp) tH0 ?_
          simp only [FL]
          refine hr_none 4 (some 20) rfl rfl (by kernel_rfl) (by kernel_rfl) (by kernel_rfl) rfl tH0 ?_
          simp only [FL]
          refine hr_none 5 (some 21) rfl rfl (by kernel_rfl) (by kernel_rfl) (by kernel_rfl) rfl tH0 ?_
          simp only [FL]
          refine hr_none 6 (some 22) rfl rfl (by kernel_rfl) (by kernel_rfl) (by kernel_rfl) rfl tH0 ?_
          simp only [FL]
          refine hr_none 7 (some 23) rfl rfl (by kernel_rfl) (by kernel_rfl) (by kernel_rfl) rfl tH0 ?_
          simp only [FL]
          refine hr_none 8 (some 24) rfl rfl (by kernel_rfl) (by kernel_rfl) (by kernel_rfl) rfl tH0 ?_
          simp only [FL]
          refine hr_none 9 (some 25) rfl rfl (by kernel_rfl) (by kernel_rfl) (by kernel_rfl) rfl tH0 ?_
          simp only [FL]
          refine hr_none 10 (some 26) rfl rfl (by kernel_rfl) (by kernel_rfl) (by kernel_rfl) rfl tH0 ?_
          simp only [FL]
          refine hr_none 11 (some 27) rfl rfl (by kernel_rfl) (by kernel_rfl) (by kernel_rfl) rfl tH0 ?_
          simp only [FL]
          refine hr_none 12 (some 28) rfl rfl (by kernel_rfl) (by kernel_rfl) (by kernel_rfl) rfl tH0 ?_
          simp only [FL]
          refine hr_none 13 (some 29) rfl rfl (by kernel_rfl) (by kernel_rfl) (by kernel_rfl) rfl tH0 ?_
          simp only [FL]
          refine hr_take_w 14 (some 30) (.bool false) rfl rfl (by kernel_rfl) (by kernel_rfl) (by kernel_rfl) rfl (fun W hW => by go_simp) tH0 ?_
          simp only [FL]
          refine wpAnyH_done (by kernel_rfl) ?_ _
          refine NoPanic.normal ?_
          have HA1 := Arr.below HA tE0 HA.lt
          go_wp2
          go_roundw
          case rel => exact ⟨k + 1, L, by go_num, by omega, .inl (by omega), hP, hD.out, HA1, gro_trans HG (bel_grown tE0 _)⟩
          case measure => simp [intOf]; omega
    · have hge : ¬ (k : Int) < (n : Int) := by omega
      have hS3 : L.Pairwise (· ≤ ·) := SoTo.pair fun a b hab hb => hS a b hab (by omega)
      go_wp2
      go_end0
      exact ⟨L, rfl, hP, hS3, HA0, HG0⟩
open Go.RowKit Go.Shelf
attribute [local go_sem] Oper.semAt_some
theorem insort_nil (w : World) : Calls Try.prog 81 #[.slice none 0 0, .int .i64 0, .int .i64 0] w fun e w' => e = .returned (.tuple #[]) ∧ w' = w := by
  go_enter Try.func81, Try.ntmps81
  go_wp2
  refine wp_loop_rounds 1 ?_
  rw [rounds_succ]
  go_wp2
  go_end0
  exact ⟨rfl, rfl⟩
set_option maxRecDepth 100000 in
set_option maxHeartbeats 4000000 in
theorem pdq_nil (w : World) (lim : Int) : Calls Try.prog 77 #[.slice none 0 0, .int .i64 0, .int .i64 0, .int .i64 lim] w fun e w' => e = .returned (.tuple #[]) ∧ w' = w := by
  have CI := insort_nil w
  go_enter Try.func77, Try.ntmps77
  go_wp2
  refine wp_loop_rounds 1 ?_
  rw [rounds_succ]
  go_wp2_with (go_at_call 81; refine CI.mono ?_; rintro e w1 ⟨rfl, hw1⟩; have hw1 := hw1.symm; subst hw1)
  refine bodyPost_ret (results_none rfl _ _ _) rfl ?_
  exact ⟨rfl, rfl⟩
set_option maxRecDepth 100000 in
set_option maxHeartbeats 4000000 in
theorem pdq_u (w : World) (gb n cap : Nat) (L : List Nat) (rest : List Value) (hA : Arr w gb 30 (uv L ++ rest)) (hl : L.length = n) (hn : n ≤ 8) (lim : Int) :
    Calls Try.prog 77 #[.slice (some ⟨gb, 0, none⟩) n cap, .int .i64 0, .int .i64 (n : Nat), .int .i64 lim] w (SortPost w gb L rest) := by
  have CI := insort_u w gb n cap L rest hA hl hn
  have h12 : (n : Int) ≤ 12 := by omega
  clear hA hl
  go_enter Try.func77, Try.ntmps77
  go_wp2
  refine wp_loop_rounds 1 ?_
  rw [rounds_succ]
  go_wp2_with (go_at_call 81; refine CI.mono ?_; rintro e w1 ⟨L', rfl, h1⟩)
  go_end0
  exact ⟨L', rfl, h1⟩
set_option maxRecDepth 100000 in
set_option maxHeartbeats 4000000 in
theorem sort_nil (w : World) : Calls Try.prog 65 #[.slice none 0 0] w fun e w' => e = .returned (.tuple #[]) ∧ w' = w := by
  have CL := len_u 0 (by omega) w
  have CP := fun lim => pdq_nil w lim
  go_enter Try.func65, Try.ntmps65
  go_wp2_with (first
    | (go_at_call 78; refine CL.mono ?_; rintro e w1 ⟨⟨x, rfl⟩, hw1⟩; have hw1 := hw1.symm; subst hw1)
    | (go_at_call 77; refine (CP _).mono ?_; rintro e w1 ⟨rfl, hw1⟩; have hw1 := hw1.symm; subst hw1))
  go_end0
  exact ⟨rfl, rfl⟩
set_option maxRecDepth 100000 in
set_option maxHeartbeats 4000000 in
theorem sort_u (w : World) (gb n cap : Nat) (L : List Nat) (rest : List Value) (hA : Arr w gb 30 (uv L ++ rest)) (hl : L.length = n) (hn : n ≤ 8) :
    Calls Try.prog 65 #[.slice (some ⟨gb, 0, none⟩) n cap] w (SortPost w gb L rest) := by
  have CL := len_u n hn w
  have CP := fun lim => pdq_u w gb n cap L rest hA hl hn lim
  have wr64 : IntKind.u64.wrap (n : Int) = (n : Int) := by rw [IntKind.wrap_u64]; omega
  clear hA hl
  go_enter Try.func65, Try.ntmps65
  go_wp2_with (first
    | (go_at_call 78; refine CL.mono ?_; rintro e w1 ⟨⟨x, rfl⟩, hw1⟩; have hw1 := hw1.symm; subst hw1)
    | (go_at_call 77; refine (CP _).mono ?_; rintro e w1 ⟨L', rfl, h1⟩))
  go_end0
  exact ⟨L', rfl, h1⟩
def keysG (g : GT) : List Nat := (List.range' (g.low + 1) 8).filter fun k => (g.s k).isSome
theorem keysG_len (g : GT) : (keysG g).length ≤ 8 := by
  unfold keysG
  have := List.length_filter_le (fun k => (g.s k).isSome) (List.range' (g.low + 1) 8)
  rwa [List.length_range'] at this
theorem keysG_lt (g : GT) : (keysG g).Pairwise (· < ·) := List.Pairwise.filter _ (List.pairwise_lt_range' 1)
theorem nodup_lt {l : List Nat} (h : l.Pairwise (· < ·)) : l.Nodup := h.imp fun h => Nat.ne_of_lt h
theorem perm_col {w : World} {base L M n : Nat} {g : GT} {F : Value → Option Value} {B : Nat → SB} {ρ : Nat → Nat} (h : LG w base L M n g F B ρ) {D : DataW Value}
    (hF : ∀ v l, keyOf Try.prog 30 v = some l → (F v = none ∧ Maps.has D l = false ∧ ∀ z, D.atKey l z = z) ∨ ∃ u, F v = some u ∧ Maps.has D l = true ∧ ∀ z, D.atKey l z = .held u)
    {ss : List Nat} (hC : ColU D (fun _ => false) ss) : ss.Perm (keysG g) := by
  refine (List.perm_ext_iff_of_nodup hC.1 (nodup_lt (keysG_lt g))).2 fun a => ?_
  have lz := h.lowz
  have key : ∀ x : Nat, x < 18446744073709551616 → (Maps.has D (.int .u64 (x : Nat)) = true ↔ (g.s x).isSome = true) := fun x hx => by
    have hk := keyU x hx
    have hk2 : keyOf Try.prog 30 (.int .u64 (x : Nat)) = some (.int .u64 (x : Nat)) := hk
    rcases hF _ _ hk2 with ⟨h1, h2, _⟩ | ⟨u, h1, h2, _⟩
    · rw [h2]
      cases hs : g.s x with
      | none => simp
      | some y =>
        rw [(h.here x y hs).1] at h1
        cases h1
    · rw [h2]
      obtain ⟨j, e, hj⟩ := h.no _ (by rw [h1]; simp)
      simp only [Value.int.injEq, true_and] at e
      obtain rfl : j = x := by omega
      cases hs : g.s j with
      | none => exact absurd hs hj
      | some y => simp
  unfold keysG
  rw [List.mem_filter, List.mem_range'_1]
  constructor
  · intro ha
    have h64 := hC.2.1 a ha
    have := (key a h64).1 ((hC.2.2 a h64).1 ha).1
    refine ⟨?_, this⟩
    cases hs : g.s a with
    | none => rw [hs] at this; cases this
    | some y =>
      have := h.win a y hs
      omega
  · rintro ⟨h1, h2⟩
    have h64 : a < 18446744073709551616 := by omega
    exact (hC.2.2 a h64).2 ⟨(key a h64).2 h2, rfl⟩
theorem sorted_eq {g : GT} {L : List Nat} (hp : L.Perm (keysG g)) (hs : L.Pairwise (· ≤ ·)) : L = keysG g :=
  List.Perm.eq_of_pairwise (fun _ _ _ _ h1 h2 => Nat.le_antisymm h1 h2) hs ((keysG_lt g).imp fun h => Nat.le_of_lt h) hp
def KeysPost (w : World) (g : GT) (e : Ending) (w' : World) : Prop := ∃ ao cap, e = .returned (.slice ao (keysG g).length cap) ∧ (∀ j, j < (keysG g).length → ∃ gb, ao = some ⟨gb, 0, none⟩ ∧ w.heap.size ≤ gb ∧ w'.cell? ⟨gb, j, none⟩ = some (.int .u64 ((keysG g).getD j 0 : Nat))) ∧ (keysG g).length ≤ cap ∧ cap ≤ maxLen ∧ Below w.heap.size w w'
set_option maxRecDepth 100000 in
set_option maxHeartbeats 4000000 in
theorem sorted_any (w : World) (base L M n : Nat) (g : GT) (F : Value → Option Value) (B : Nat → SB) (ρ : Nat → Nat) (h : LG w base L M n g F B ρ) (hn : n ≤ 1000000) (Bm : Nat) (hBm : w.cell? ⟨Bm, 0, none⟩ = some (.map (some M))) :
    Calls Try.prog 40 #[.func (.func 66) #[] #[.pointer (some ⟨Bm, 0, none⟩)]] w (KeysPost w g) := by
  obtain ⟨D, hown, hsz, hF⟩ := h.mf
  have CC := (callsIn_wide (n := 4)).1 (collect_u 4 (Nat.le_refl _) Bm M n D F hF (by omega) w hBm hown)
  have HP : Hid (∀ ss, ColU D (fun _ => false) ss → ss.Perm (keysG g)) := fun ss hC => perm_col h hF hC
  have HL : Hid ((keysG g).length ≤ 8) := keysG_len g
  clear h hown hF hBm hsz
  go_enter Try.func40, Try.ntmps40
  go_wp2_with fail
  refine CC.mono ?_
  rintro e w1 ⟨v, ss, rfl, hC, hrow, hB⟩
  have hp := HP.out ss hC
  have hlen := hp.length_eq
  rcases hrow.2 with ⟨rfl, hz⟩ | ⟨gb, cap, cur, rfl, hbase, hgb, r1, r2, r3, r4⟩
  · have h0 : Hid ((keysG g).length = 0) := by show _ = _; omega
    have CS := sort_nil w1
    clear hlen hrow hC hp HP
    go_wp2_with (go_at_call 65; refine CS.mono ?_; rintro e w2 ⟨rfl, hw2⟩; have hw2 := hw2.symm; subst hw2)
    go_ret
    have h0 := h0.out
    exact ⟨none, 0, by rw [h0]; rfl, fun j hj => by omega, by omega, by decide, hB⟩
  · have hA : Arr w1 gb 30 (uv ss ++ cur.toList.drop ss.length) := by
      rw [Nat.mul_one] at r4
      rw [← r4, List.take_append_drop]
      exact hgb
    have hl8 := HL.out
    have CS := sort_u w1 gb ss.length cap ss _ hA rfl (by omega)
    have HLEN : Hid (ss.length = (keysG g).length) := hlen
    have HH : Hid (ss.Perm (keysG g) ∧ w.heap.size ≤ gb ∧ ss.length ≤ cap ∧ cap ≤ maxLen ∧ Below w.heap.size w w1) := ⟨hp, hbase, r1, r2, hB⟩
    clear hA hgb hlen r3 r4 hp hbase r1 r2 hl8 hrow hC hB HP
    go_wp2_with (go_at_call 65; refine CS.mono ?_; rintro e w2 ⟨L', rfl, p1, p2, p3, p4⟩)
    go_ret
    obtain ⟨hp, hbase, r1, r2, hB⟩ := HH.out
    have hlen := HLEN.out
    obtain rfl := sorted_eq (p1.trans hp) p2
    have q1 : Ending.returned (.slice (some ⟨gb, 0, none⟩) ss.length cap) = .returned (.slice (some ⟨gb, 0, none⟩) (keysG g).length cap) := by simp only [hlen]
    have q2 : ∀ j, j < (keysG g).length → w2.cell? ⟨gb, j, none⟩ = some (.int .u64 ((keysG g).getD j 0 : Nat)) := fun j hj => uvr_at p3 j hj
    have q3 : Below w.heap.size w w2 := hB.grown p4 hB.size fun j hj => by cases hj; exact hbase
    exact ⟨some ⟨gb, 0, none⟩, cap, q1, fun j hj => ⟨gb, rfl, hbase, q2 j hj⟩, by omega, r2, q3⟩
open Go.RowKit
theorem lty15 : GTy elS.lists.sz 24 (.slice none 0 0) 47 40 := ⟨by kernel_rfl, rfl, Try.underlying40⟩
def certK (g : GT) (k : Nat) : Option (List SV) := ((g.s k).bind ST.cert).map CT.texts
def certsG (g : GT) : List (List SV) := (keysG g).filterMap (certK g)
theorem filterMap_snoc {α β : Type} (f : α → Option β) (l : List α) (x : α) : (l ++ [x]).filterMap f = l.filterMap f ++ (match f x with | none => [] | some y => [y]) := by
  rw [List.filterMap_append]
  cases h : f x with
  | none => simp [h]
  | some y => simp [h]
theorem keysG_at {g : GT} {j : Nat} (h : j < (keysG g).length) : ∃ x, g.s ((keysG g).getD j 0) = some x := by
  have e : (keysG g).getD j 0 = (keysG g)[j] := by simp [List.getD, h]
  rw [e]
  have hm : (keysG g)[j] ∈ keysG g := List.getElem_mem h
  unfold keysG at hm
  rw [List.mem_filter] at hm
  have := hm.2
  cases hs : g.s (keysG g)[j] with
  | none =>
    have h2 : (g.s (keysG g)[j]).isSome = true := this
    rw [hs] at h2
    cases h2
  | some x => exact ⟨x, rfl⟩
def CertsPost (w : World) (g : GT) (e : Ending) (w' : World) : Prop := ∃ ao cap ls, e = .returned (.slice ao (certsG g).length cap) ∧ GL elS.lists w' ao (certsG g).length cap ls ∧ ls.map (fun s => s.l.map SA.v) = certsG g ∧ Below w.heap.size w w'
set_option maxRecDepth 100000 in
set_option maxHeartbeats 4000000 in
theorem certs_any15 (w : World) (base L M n : Nat) (g : GT) (F : Value → Option Value) (B : Nat → SB) (ρ : Nat → Nat) (h : LG w base L M n g F B ρ) (hn : n ≤ 1000000) :
    Calls Try.prog 15 #[.pointer (some ⟨L, 0, none⟩)] w (CertsPost w g) := by
  have x3 : w.cell? ⟨L, 3, none⟩ = some (.map (some M)) := h.lc.cell 3
  obtain ⟨W1, hW1⟩ : ∃ W1, W1 = w.alloc (.cells #[.map (some M)] 67) := ⟨_, rfl⟩
  have CK := (callsIn_wide (n := 1)).1 (keys_u Fence.wide 1 trivial rfl (some M) w)
  rw [← hW1] at CK
  have b1 : Below w.heap.size w W1 := by rw [hW1]; exact (Below.refl _ _).alloc (Nat.le_refl _) _
  have cM : W1.cell? ⟨w.heap.size, 0, none⟩ = some (.map (some M)) := by rw [hW1]; exact cell_of_row _ _ 0 _ _ _ (heap_alloc_new w _)
  have CS := sorted_any W1 base L M n g F B _ (h.below b1).1 hn w.heap.size cM
  have HLG : Hid (LG w base L M n g F B ρ) := h
  have HL8 : Hid ((keysG g).length ≤ 8) := keysG_len g
  have HB1 : Hid (Below w.heap.size w W1) := b1
  clear h hW1 cM b1
  go_enter Try.func15, Try.ntmps15
  go_wp2_with (first
    | (go_at_call 41; refine CK.mono ?_; rintro e w1 ⟨rfl, hw1⟩; have hw1 := hw1.symm; subst hw1)
    | (go_at_call 40; refine CS.mono ?_; rintro e w2 ⟨ao, cap, rfl, q1, q2, q3, B2⟩))
  have HQ : Hid (∀ j, j < (keysG g).length → ∃ gb, ao = some ⟨gb, 0, none⟩ ∧ w2.cell? ⟨gb, j, none⟩ = some (.int .u64 ((keysG g).getD j 0 : Nat))) := fun j hj => by
    obtain ⟨gb, h1, _, h2⟩ := q1 j hj
    exact ⟨gb, h1, h2⟩
  have E2 : Below w.heap.size w w2 := HB1.out.trans (B2.mono HB1.out.size)
  have HE2 : Hid (Below w.heap.size w w2) := E2
  clear CK CS q1 x3 B2 HB1 E2
  obtain ⟨kn, hkn⟩ : ∃ n, n = (keysG g).length := ⟨_, rfl⟩
  have HKN : Hid (kn = (keysG g).length) := hkn
  rw [← hkn] at q2 HQ HL8 ⊢
  clear hkn
  go_loopw [3, 16] (fun v i wr => ∃ (k : Nat) (u : Value) (ls : List (LS SA)), k ≤ kn ∧ i = .int .i64 (k : Nat) ∧ u = v ∧ GI elS.lists 47 wr w2.heap.size u ls ∧ Hid (ls.map (fun s => s.l.map SA.v) = ((keysG g).take k).filterMap (certK g)) ∧ Below w2.heap.size w2 wr) (fun _ i _ => 10 - (intOf i).toNat)
  case atStart => exact ⟨0, _, [], Nat.zero_le _, rfl, rfl, GI.nil _ _ _ _, by show _ = _; simp, Below.refl _ _⟩
  case round =>
    obtain ⟨k, u, ls, hk, rfl, rfl, GR, HV, BR⟩ := hrel
    obtain ⟨vao, vcap, rfl⟩ := GR.slice
    by_cases hlt : k < kn
    · have HKL : Hid (k + 1 ≤ kn ∧ k < 8) := ⟨hlt, by have := HL8.out; omega⟩
      have hk8 : k < 8 := HKL.out.2
      have hki : (k : Int) < (kn : Int) := by omega
      obtain ⟨gb, rfl, ck0⟩ := HQ.out k hlt
      obtain ⟨x, hx⟩ := keysG_at (g := g) (j := k) (by rw [← HKN.out]; exact hlt)
      obtain ⟨q, hq⟩ : ∃ q, q = (keysG g).getD k 0 := ⟨_, rfl⟩
      rw [← hq] at hx ck0
      have ck : wr.cell? ⟨gb, k, none⟩ = some (.int .u64 (q : Nat)) := (BR.cell (World.block_lt_of_cell? _ _ ck0)).trans ck0
      have HT : Hid (((keysG g).take (k + 1)).filterMap (certK g) = ((keysG g).take k).filterMap (certK g) ++ (match x.cert with | none => [] | some c => [c.texts])) := by
        show _ = _
        have hkl : k < (keysG g).length := by rw [← HKN.out]; exact hlt
        have e2 : (keysG g)[k] = q := by rw [hq]; simp [List.getD, hkl]
        rw [List.take_succ_eq_append_getElem hkl, filterMap_snoc, e2]
        congr 1
        unfold certK
        rw [hx]
        rw [show (some x).bind ST.cert = x.cert from rfl]
        cases x.cert <;> rfl
      obtain ⟨KR, -⟩ := HLG.out.below (HE2.out.trans (BR.mono HE2.out.size))
      obtain ⟨fX, HX⟩ := KR.here q x hx
      have hw := KR.win q x hx
      have lz := KR.lowz
      have hl := KR.mf.look1 kU Try.underlying67 (zSlot wr) (keyU q (by omega))
      rw [fX] at hl
      simp only [Option.getD_some] at hl
      have x3 : wr.cell? ⟨L, 3, none⟩ = some (.map (some M)) := KR.lc.cell 3
      have y7 : wr.cell? ⟨(B q).X, 7, none⟩ = some (.bool x.cert.isSome) := HX.cell 7
      have y8 : wr.cell? ⟨(B q).X, 8, none⟩ = some (.int .u64 (cvw x.cert : Nat)) := HX.cell 8
      have y9 : wr.cell? ⟨(B q).X, 9, none⟩ = some (.string (csm x.cert)) := HX.cell 9
      have y10 : wr.cell? ⟨(B q).X, 10, none⟩ = some (.slice (B q).ao (B q).n (B q).cap) := HX.cell 10
      have C5 : Below wr.heap.size wr (wr.alloc (.cells #[.bool x.cert.isSome, .int .u64 (cvw x.cert : Nat), .string (csm x.cert), .slice (B q).ao (B q).n (B q).cap] 85)) := (Below.refl _ _).alloc (Nat.le_refl _) _
      have B5 := BR.trans (C5.mono BR.size)
      have GR5 := GR.below elS_fine.lists C5
      have HSA : Hid (SlotAt wr g.f (B q) x) := HX
      have HOWN : Hid (∀ z, (Value.slice vao ls.length vcap).ownBlock = some z → z < wr.heap.size) := fun z hz => (GR.own.lt z hz).2
      have hs5 : wr.heap.size ≤ (wr.alloc (.cells #[.bool x.cert.isSome, .int .u64 (cvw x.cert : Nat), .string (csm x.cert), .slice (B q).ao (B q).n (B q).cap] 85)).heap.size := C5.size
      clear fX KR HX hw lz ck0
      cases hc : x.cert with
      | none =>
        have hi : x.cert.isSome = false := by rw [hc]; rfl
        have HV2 : Hid (ls.map (fun s => s.l.map SA.v) = ((keysG g).take (k + 1)).filterMap (certK g)) := by
          show _ = _
          rw [HT.out, hc, HV.out]
          simp
        rw [hi] at y7 B5 GR5
        clear hc hi HT HV HSA GR BR C5 hq hx
        go_wp2
        go_roundw
        case rel => exact ⟨k + 1, _, ls, HKL.out.1, by go_num, rfl, GR5, HV2, B5⟩
        case measure => have := HKL.out.2; simp [intOf]; omega
      | some c =>
        have hi : x.cert.isSome = true := by rw [hc]; rfl
        have HV2 : Hid (∀ ys : List SA, ys.map SA.v = ctx x.cert → ∀ ro n rc, (ls ++ ([⟨ro, n, rc, ys⟩] : List (LS SA))).map (fun s : LS SA => s.l.map SA.v) = ((keysG g).take (k + 1)).filterMap (certK g)) := fun ys e ro n rc => by
          rw [HT.out, hc, List.map_append, HV.out]
          show _ ++ [ys.map SA.v] = _
          rw [e, hc]
          rfl
        have CA := cloneAll_any (wr.alloc (.cells #[.bool x.cert.isSome, .int .u64 (cvw x.cert : Nat), .string (csm x.cert), .slice (B q).ao (B q).n (B q).cap] 85)) (B q).ao (B q).n (B q).cap (B q).l (HSA.out.L.below elS_fine C5) HSA.out.ln HSA.out.tz
        have HLV : Hid ((B q).l.map SA.v = ctx x.cert ∧ (B q).l.length ≤ 100) := ⟨HSA.out.lv, by rw [HSA.out.L.len]; exact HSA.out.ln⟩
        have hll : ls.length ≤ k := by
          have e := congrArg List.length HV.out
          rw [List.length_map] at e
          have := List.length_filterMap_le (certK g) ((keysG g).take k)
          rw [List.length_take] at this
          omega
        have HLL : Hid (ls.length ≤ 8) := by have := HL8.out; show ls.length ≤ 8; omega
        have b5 := B5.size
        rw [hi] at y7 B5 GR5 CA b5 hs5
        clear hc hi HT HV HSA GR BR C5 hq hx hll
        go_wp2_with (first
          | (go_at_call 42; refine CA.mono ?_; rintro e w4 ⟨ro, rc, ys, rfl, GY, YV, C4, HY⟩
             have GR6 := GR5.below elS_fine.lists C4
             have B6 := B5.trans (C4.mono b5)
             have s6 := C4.size
             clear CA GR5 B5)
          | (refine stop_at (.call { callee := .builtin .append, args := #[Operand.tmp 31, Operand.tmp 35], argTypes := #[40, 40] }) rfl ?_))
        refine ⟨?_⟩
        have C7 : Below w4.heap.size w4 (w4.alloc (.cells #[.slice ro (B q).l.length rc] 47)) := (Below.refl _ _).alloc (Nat.le_refl _) _
        have GR7 := GR6.below elS_fine.lists C7
        have B7 := B6.trans (C7.mono B6.size)
        have yok : elS.lists.ok ⟨ro, (B q).l.length, rc, ys⟩ (w4.alloc (.cells #[.slice ro (B q).l.length rc] 47)) := GY.below elS_fine C7
        have HG : ∀ j t, (elS.lists.c (⟨ro, (B q).l.length, rc, ys⟩ : LS SA))[j]? = some t → (w4.alloc (.cells #[.slice ro (B q).l.length rc] 47)).cell? ((⟨w4.heap.size, 0, none⟩ : Addr).add j) = some t := fun j t ht => by
          rw [Addr.add_lit, Nat.zero_add, cell_of_row _ _ j _ _ _ (heap_alloc_new _ _)]
          simpa [El.lists] using ht
        have HF : ∀ z, elS.lists.blk (⟨ro, (B q).l.length, rc, ys⟩ : LS SA) z → (Value.slice vao ls.length vcap).ownBlock ≠ some z := fun z hz e => by
          have h1 := HY z hz
          have h2 := HOWN.out z e
          omega
        refine wpList_appG elS_fine.lists lty15 rfl (.tmp 31) (.tmp 35) rfl GR7 rfl rfl HG yok HF (by have := HLL.out; omega) (by have := HLL.out; unfold maxLen; omega) B7.size ?_
        intro v8 w8 GR8 B8
        have HV3 := HV2.out ys (YV.trans HLV.out.1) ro (B q).l.length rc
        have HV4 : Hid _ := HV3
        have B9 := B7.trans B8
        clear HV3 HG HF yok GR7 GR6 B7 B6 C7 C4 GY
        go_wp2
        go_roundw
        case rel => exact ⟨k + 1, v8, ls ++ [⟨ro, (B q).l.length, rc, ys⟩], HKL.out.1, by go_num, rfl, GR8, HV4, B9⟩
        case measure => have := HKL.out.2; simp [intOf]; omega
    · have hge : ¬ (k : Int) < (kn : Int) := by omega
      have HT : Hid ((keysG g).take k = keysG g) := List.take_of_length_le (by rw [← HKN.out]; omega)
      obtain ⟨ao2, cap2, e, GLx, _⟩ := GR.gl elS_fine.lists
      simp only [Value.slice.injEq] at e
      obtain ⟨rfl, -, rfl⟩ := e
      have HV2 : ls.map (fun s => s.l.map SA.v) = certsG g := by rw [HV.out, HT.out]; rfl
      have HLN : Hid (ls.length = (certsG g).length) := by show _ = _; rw [← HV2, List.length_map]
      have HVV : Hid (ls.map (fun s => s.l.map SA.v) = certsG g) := HV2
      clear HV HT GR HV2
      go_wp2
      go_ret
      have E9 := HE2.out.trans (BR.mono HE2.out.size)
      have hl := HLN.out
      rw [hl] at GLx
      exact ⟨vao, vcap, ls, by rw [hl]; rfl, GLx, HVV.out, E9⟩
end Go.Proofs.Ytbpbcmbcoffdlaa

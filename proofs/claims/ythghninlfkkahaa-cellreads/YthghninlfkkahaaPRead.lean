/-
  The program's Read.
-/
import Derived.Test.YthghninlfkkahaaPCut
import Derived.Test.YthghninlfkkahaaCKeys
import Derived.Laws.Bits64b
namespace Go.Proofs.Ythghninlfkkahaa
open Go.RowKit

/-- The number of some bytes, the great ones first. -/
def beN : List Int → Nat → Nat
  | [], t => t
  | c :: r, t => beN r (t * 256 + c.toNat)
theorem beN_ofBe : ∀ (l : List Int), Byt l → ∀ t u, beN l t + ofBe l u + 1 = (t + u + 1) * 256 ^ l.length
  | [], _, t, u => by simp [beN, ofBe]
  | c :: r, h, t, u => by
    have hc := h c (List.mem_cons_self ..)
    have ih := beN_ofBe r (fun x hx => h x (List.mem_cons_of_mem _ hx)) (t * 256 + c.toNat) (u * 256 + (255 - c).toNat)
    have e : t * 256 + c.toNat + (u * 256 + (255 - c).toNat) + 1 = (t + u + 1) * 256 := by omega
    rw [beN, ofBe, ih, e, List.length_cons, Nat.pow_succ, Nat.mul_assoc, Nat.mul_comm 256]
theorem beN_append : ∀ (l : List Int) (c : Int) (t : Nat), beN (l ++ [c]) t = beN l t * 256 + c.toNat
  | [], c, t => rfl
  | a :: l, c, t => by rw [List.cons_append, beN, beN, beN_append l c]
theorem beN_lt (l : List Int) (h : Byt l) : beN l 0 < 256 ^ l.length := by
  have := beN_ofBe l h 0 0
  omega
theorem readL_cutN (b : List Int) : readL b = (cutN 3 b).bind fun q => match q.1 with
    | [r, f, g] => if q.2.length = 8 ∧ KV.right ⟨r, f, g, ofBe q.2 0⟩ then some ⟨r, f, g, ofBe q.2 0⟩ else none
    | _ => none := by
  unfold readL
  simp only [cutN]
  cases h1 : cutL b with
  | none => rfl
  | some p =>
    simp only [Option.bind_some]
    cases h2 : cutL p.2 with
    | none => rfl
    | some q =>
      simp only [Option.bind_some]
      cases h3 : cutL q.2 with
      | none => rfl
      | some r => rfl

theorem or_byte (L x : Nat) (hL : L < 72057594037927936) (hx : x < 256) : bits BinOp.or IntKind.u64 ((L : Int) * 256) (x : Int) = ((L * 256 + x : Nat) : Int) := by
  have h := bits_or_u64_nat (L * 256) x (by omega) (by omega)
  have e : L * 256 ||| x = L * 256 + x := by
    have := Nat.two_pow_add_eq_or_of_lt (i := 8) (b := x) (by omega) L
    rw [Nat.mul_comm]
    exact this.symm
  rw [← e]
  exact h

def zeroK : KA := ⟨⟨#[]⟩, ⟨#[]⟩, ⟨#[]⟩, 0⟩
def ReadPost (e : Ending) : Option KV → Prop
  | none => e = .returned (.tuple #[zeroK.val, .int .i64 5])
  | some kv => ∃ k : KA, e = .returned (.tuple #[k.val, .int .i64 0]) ∧ k.kv = kv ∧ k.ok

set_option maxHeartbeats 4000000 in
set_option maxRecDepth 100000 in
theorem pread_any (w : World) (ao : Option Addr) (n cap : Nat) (xs : List Int) (h : Sl w ao n cap xs) (hn : n ≤ 1000000) :
    Calls Try.prog 6 #[.slice ao n cap] w fun e w' => ReadPost e (readL xs) ∧ Below w.heap.size w w' := by
  have k1 : KC (w.alloc (.cells #[.string ⟨#[]⟩, .string ⟨#[]⟩, .string ⟨#[]⟩, .int .u64 0] 26)) w.heap.size zeroK := heap_alloc_new w _
  have B1 : Below w.heap.size w (w.alloc (.cells #[.string ⟨#[]⟩, .string ⟨#[]⟩, .string ⟨#[]⟩, .int .u64 0] 26)) := (Below.refl _ w).alloc (Nat.le_refl _) _
  obtain ⟨N, hN⟩ : ∃ N, N = w.heap.size := ⟨_, rfl⟩
  go_enter Try.func6, Try.ntmps6
  go_wp2_with fail
  obtain ⟨w1, hw1⟩ : ∃ W, W = (w.alloc (.cells #[.string ⟨#[]⟩, .string ⟨#[]⟩, .string ⟨#[]⟩, .int .u64 0] 26)) := ⟨_, rfl⟩
  rw [← hw1] at k1 B1 ⊢
  have S1 := h.below B1
  rw [← hN] at k1 B1 ⊢
  refine (pcut_any w1 ao n cap xs S1 hn).mono ?_
  rintro e w2 ⟨P2, C⟩
  have HN : Hid (N = w.heap.size) := hN
  have B2 := B1.trans (C.mono (by have := B1.size; omega))
  have k2 := k1.keep C
  clear hN hw1 k1 B1 C S1
  have q0 := k2.c0
  have q1 := k2.c1
  have q2 := k2.c2
  have q3 := k2.c3
  have f0 : w2.frozen? ⟨N, 0, none⟩ = false := frozen_of_row w2 N 0 _ _ k2
  have f1 : w2.frozen? ⟨N, 1, none⟩ = false := frozen_of_row w2 N 1 _ _ k2
  have f2 : w2.frozen? ⟨N, 2, none⟩ = false := frozen_of_row w2 N 2 _ _ k2
  have f3 : w2.frozen? ⟨N, 3, none⟩ = false := frozen_of_row w2 N 3 _ _ k2
  have lt := k2.lt
  cases hc : cutN 3 xs with
  | none =>
    have HR : Hid (readL xs = none) := by show _ = _; rw [readL_cutN, hc]; rfl
    rw [hc] at P2
    obtain rfl : e = .returned (.tuple #[.agg #[.string ⟨#[]⟩, .string ⟨#[]⟩, .string ⟨#[]⟩], .slice none 0 0]) := P2
    clear hc
    have BX : Below N w (((((w2.setCell ⟨N, 0, none⟩ (.string ⟨#[]⟩)).setCell ⟨N, 1, none⟩ (.string ⟨#[]⟩)).setCell ⟨N, 2, none⟩ (.string ⟨#[]⟩)).setCell ⟨N, 3, none⟩ (.int .u64 0)).alloc (Obj.cells #[.string ⟨#[]⟩, .string ⟨#[]⟩, .string ⟨#[]⟩] 37)) := ((((B2.setCell (Nat.le_refl _) _).setCell (Nat.le_refl _) _).setCell (Nat.le_refl _) _).setCell (Nat.le_refl _) _).alloc (by simp; omega) _
    go_wp2
    exact bodyPost_ret (v := .tuple #[zeroK.val, .int .i64 5]) (by unfold KA.val zeroK; simp [results, Try.results6, go_sem, q0, q1, q2, q3, lt]) rfl ⟨by rw [HR.out]; rfl, by rw [← HN.out]; exact BX⟩
  | some q =>
    rw [hc] at P2
    obtain ⟨ss, bo, m, c, rfl, hss, hm, S2⟩ := P2
    obtain ⟨s0, s1, s2, rfl⟩ : ∃ s0 s1 s2, ss = [s0, s1, s2] := by
      match ss, hss with
      | [a, b, c], _ => exact ⟨a, b, c, rfl⟩
    obtain ⟨nm3, ys⟩ := q
    simp only [List.map_cons, List.map_nil] at hm
    subst hm
    have hl := S2.len
    rw [show (namesV [s0, s1, s2]).toArray = #[.string s0, .string s1, .string s2] from rfl]
    by_cases h8 : m = 8
    · subst h8
      obtain ⟨b2, off2, rfl, hcell0⟩ := S2.at (by omega)
      have hb2 : b2 < w2.heap.size := World.block_lt_of_cell? w2 _ (hcell0 0 (by omega))
      obtain ⟨w3, hw3⟩ : ∃ W, W = w2.alloc (Obj.cells #[.string s0, .string s1, .string s2] 37) := ⟨_, rfl⟩
      have C3 : Below w2.heap.size w2 w3 := by rw [hw3]; exact (Below.refl _ _).alloc (Nat.le_refl _) _
      have hcell : Hid (∀ i, i < 8 → w3.cell? ⟨b2, off2 + i, none⟩ = some (.int .u8 (ys.getD i 0))) := fun i hi => (C3.cell (by exact hb2)).trans (hcell0 i hi)
      clear hcell0
      have HY : Hid (Byt ys) := S2.byte
      obtain ⟨M, hM⟩ : ∃ M, M = w2.heap.size := ⟨_, rfl⟩
      have e3 : w3.heap[M]? = some (.cells #[.string s0, .string s1, .string s2] 37) := by rw [hw3, hM]; exact heap_alloc_new w2 _
      have k3 := k2.keep C3
      have B3 := B2.trans (C3.mono (by have := B2.size; have := HN.out; omega))
      go_wp2_with fail
      rw [← hw3, ← hM]
      clear hw3 hM q0 q1 q2 q3 f0 f1 f2 f3 k2 B2 C3
      go_loopw [6, 8, 22] (fun lk _ i wr => wr = w3 ∧ ∃ j : Nat, j ≤ 8 ∧ i = .int .i64 j ∧ lk = .int .u64 (beN (ys.take j) 0)) (fun _ _ i _ => 8 - (intOf i).toNat)
      case atStart => exact ⟨rfl, 0, by omega, rfl, rfl⟩
      case round =>
        obtain ⟨rfl, j, hj, rfl, rfl⟩ := hrel
        by_cases l : j < 8
        · have il : (j : Int) < 8 := by omega
          obtain ⟨x, hx⟩ : ∃ x : Nat, x = (ys.getD j 0).toNat := ⟨_, rfl⟩
          have hxb := HY.out.at j
          have hxe : ys.getD j 0 = (x : Int) := by rw [hx, Int.toNat_of_nonneg]; simpa [List.getD] using hxb.1
          have hx8 : x < 256 := by have : ys.getD j 0 ≤ 255 := by simpa [List.getD] using hxb.2
                                   omega
          have cj := hcell.out j l
          rw [hxe] at cj
          have hjl : j < ys.length := by omega
          have htk : Hid (beN (ys.take (j + 1)) 0 = beN (ys.take j) 0 * 256 + x) := by
            show _ = _
            rw [List.take_succ_eq_append_getElem hjl, beN_append, hx]
            simp [List.getD, hjl]
          have hlt : beN (ys.take j) 0 < 256 ^ j := by
            have := beN_lt (ys.take j) (HY.out.take j)
            rwa [List.length_take, Nat.min_eq_left (by omega)] at this
          have hlt2 : 256 ^ j ≤ 72057594037927936 := Nat.le_trans (Nat.pow_le_pow_right (by omega) (show j ≤ 7 by omega)) (by decide)
          obtain ⟨L, hL⟩ : ∃ L, L = beN (ys.take j) 0 := ⟨_, rfl⟩
          rw [← hL] at htk hlt ⊢
          have L7 : L < 72057594037927936 := by omega
          clear hL hlt hlt2 hx hxb hxe
          have hor : bits BinOp.or IntKind.u64 ((L : Int) * 256) (x : Int) = ((L * 256 + x : Nat) : Int) := or_byte L x L7 hx8
          go_wp2
          go_roundw
          case rel => exact ⟨trivial, j + 1, by omega, by go_num, by rw [htk.out] <;> go_num⟩
          case measure => simp [intOf]; omega
        · obtain rfl : j = 8 := by omega
          have htk : ys.take 8 = ys := List.take_of_length_le (by omega)
          rw [htk]
          have hsum := beN_ofBe ys HY.out 0 0
          rw [hl] at hsum
          obtain ⟨L, hL⟩ : ∃ L, L = beN ys 0 := ⟨_, rfl⟩
          obtain ⟨T, hT⟩ : ∃ T, T = ofBe ys 0 := ⟨_, rfl⟩
          rw [← hL] at hsum ⊢
          rw [← hT] at hsum
          have hT2 : T < 18446744073709551616 := by simp at hsum; omega
          have hLT : 18446744073709551615 - (L : Int) = (T : Int) := by simp at hsum; omega
          have HT : Hid (T = ofBe ys 0) := hT
          clear hsum hT hL htk hcell
          have q0 : wr.cell? ⟨M, 0, none⟩ = some (.string s0) := cell_of_row wr M 0 _ _ _ e3
          have q1 : wr.cell? ⟨M, 1, none⟩ = some (.string s1) := cell_of_row wr M 1 _ _ _ e3
          have q2 : wr.cell? ⟨M, 2, none⟩ = some (.string s2) := cell_of_row wr M 2 _ _ _ e3
          obtain ⟨k, hk⟩ : ∃ k : KA, k = ⟨s0, s1, s2, T⟩ := ⟨_, rfl⟩
          have k4 : KC (wr.alloc (.cells #[.string s0, .string s1, .string s2, .int .u64 T] 26)) wr.heap.size k := by rw [hk]; exact heap_alloc_new wr _
          have z4 := k3.alloc (.cells #[.string s0, .string s1, .string s2, .int .u64 T] 26)
          have B4 := B3.alloc (by have := k3.lt; omega) (.cells #[.string s0, .string s1, .string s2, .int .u64 T] 26)
          have HV : Hid (k.val = .agg #[.string s0, .string s1, .string s2, .int .u64 T]) := by rw [hk]; rfl
          have HKV : Hid (k.kv = ⟨sb s0, sb s1, sb s2, ofBe ys 0⟩) := by rw [hk, ← HT.out]; rfl
          have HR : Hid (readL xs = if k.isRight = true then some k.kv else none) := by
            show _ = _
            rw [readL_cutN, hc, KA.isRight_kv, HKV.out]
            show (if ys.length = 8 ∧ KV.right ⟨sb s0, sb s1, sb s2, ofBe ys 0⟩ then some _ else none) = _
            by_cases hr : KV.right ⟨sb s0, sb s1, sb s2, ofBe ys 0⟩
            · rw [if_pos ⟨hl, hr⟩, decide_eq_true hr]; rfl
            · rw [if_neg (fun h => hr h.2), decide_eq_false hr]; rfl
          have HOK : Hid (k.isRight = true → k.ok) := fun hr => by
            have hsz := of_decide_eq_true hr
            have ht : k.time = T := by rw [hk]
            exact ⟨by unfold maxLen; omega, by unfold maxLen; omega, by unfold maxLen; omega, by omega⟩
          obtain ⟨P, hP⟩ : ∃ P, P = wr.heap.size := ⟨_, rfl⟩
          have hPN : N < P := by rw [hP]; exact k3.lt
          go_wp2_with fail
          rw [← HV.out]
          refine (pright_any _ k).mono ?_
          rintro e w5 ⟨rfl, C⟩
          have k5 := k4.keep C
          have z5 := z4.keep C
          have B5 := B4.trans (C.mono (by have := B4.size; have := HN.out; omega))
          rw [← hP] at k5 ⊢
          clear C k4 z4 B4 k3 B3 e3 q0 q1 q2 hc hP hLT
          rw [HV.out]
          have r0 := z5.c0
          have r1 := z5.c1
          have r2 := z5.c2
          have r3 := z5.c3
          have f0 : w5.frozen? ⟨N, 0, none⟩ = false := frozen_of_row w5 N 0 _ _ z5
          have f1 : w5.frozen? ⟨N, 1, none⟩ = false := frozen_of_row w5 N 1 _ _ z5
          have f2 : w5.frozen? ⟨N, 2, none⟩ = false := frozen_of_row w5 N 2 _ _ z5
          have f3 : w5.frozen? ⟨N, 3, none⟩ = false := frozen_of_row w5 N 3 _ _ z5
          by_cases hr : k.isRight = true
          · have hk0 : k.kind = 0 := by unfold KA.kind; rw [hr]; rfl
            have HR2 : Hid (readL xs = some k.kv) := by rw [HR.out, if_pos hr]; rfl
            have ok := HOK.out hr
            have p0 : w5.cell? ⟨P, 0, none⟩ = some (.string s0) := by have := k5.c0; rwa [hk] at this
            have p1 : w5.cell? ⟨P, 1, none⟩ = some (.string s1) := by have := k5.c1; rwa [hk] at this
            have p2 : w5.cell? ⟨P, 2, none⟩ = some (.string s2) := by have := k5.c2; rwa [hk] at this
            have p3 : w5.cell? ⟨P, 3, none⟩ = some (.int .u64 T) := by have := k5.c3; rwa [hk] at this
            rw [hk0]
            clear hk0 HR HOK hr hk
            have BX : Below N w ((((w5.setCell ⟨N, 0, none⟩ (.string s0)).setCell ⟨N, 1, none⟩ (.string s1)).setCell ⟨N, 2, none⟩ (.string s2)).setCell ⟨N, 3, none⟩ (.int .u64 T)) := (((B5.setCell (Nat.le_refl _) _).setCell (Nat.le_refl _) _).setCell (Nat.le_refl _) _).setCell (Nat.le_refl _) _
            go_wp2
            exact bodyPost_ret (v := .tuple #[.agg #[.string s0, .string s1, .string s2, .int .u64 T], .int .i64 0]) (by simp [results, Try.results6, go_sem, r0, r1, r2, r3]) rfl ⟨by rw [HR2.out]; exact ⟨k, by rw [HV.out], rfl, ok⟩, by rw [← HN.out]; exact BX⟩
          · have hk0 : k.kind = 5 := by unfold KA.kind; rw [if_neg hr]
            have HR2 : Hid (readL xs = none) := by rw [HR.out, if_neg hr]; rfl
            rw [hk0]
            clear hk0 HR HOK hr hk
            have BX : Below N w ((((w5.setCell ⟨N, 0, none⟩ (.string ⟨#[]⟩)).setCell ⟨N, 1, none⟩ (.string ⟨#[]⟩)).setCell ⟨N, 2, none⟩ (.string ⟨#[]⟩)).setCell ⟨N, 3, none⟩ (.int .u64 0)) := (((B5.setCell (Nat.le_refl _) _).setCell (Nat.le_refl _) _).setCell (Nat.le_refl _) _).setCell (Nat.le_refl _) _
            go_wp2
            exact bodyPost_ret (v := .tuple #[zeroK.val, .int .i64 5]) (by unfold KA.val zeroK; simp [results, Try.results6, go_sem, r0, r1, r2, r3]) rfl ⟨by rw [HR2.out]; rfl, by rw [← HN.out]; exact BX⟩
    · have HR : Hid (readL xs = none) := by
        show _ = _
        rw [readL_cutN, hc]
        exact if_neg (fun h => h8 (by rw [← hl]; exact h.1))
      have e8 : ((m : Int) == 8) = false := by simp; omega
      have e9 : ((m : Int) != 8) = true := by simp; omega
      clear hc
      have BX : Below N w (((((w2.setCell ⟨N, 0, none⟩ (.string ⟨#[]⟩)).setCell ⟨N, 1, none⟩ (.string ⟨#[]⟩)).setCell ⟨N, 2, none⟩ (.string ⟨#[]⟩)).setCell ⟨N, 3, none⟩ (.int .u64 0)).alloc (Obj.cells #[.string s0, .string s1, .string s2] 37)) := ((((B2.setCell (Nat.le_refl _) _).setCell (Nat.le_refl _) _).setCell (Nat.le_refl _) _).setCell (Nat.le_refl _) _).alloc (by simp; omega) _
      go_wp2
      exact bodyPost_ret (v := .tuple #[zeroK.val, .int .i64 5]) (by unfold KA.val zeroK; simp [results, Try.results6, go_sem, q0, q1, q2, q3, lt]) rfl ⟨by rw [HR.out]; rfl, by rw [← HN.out]; exact BX⟩
end Go.Proofs.Ythghninlfkkahaa

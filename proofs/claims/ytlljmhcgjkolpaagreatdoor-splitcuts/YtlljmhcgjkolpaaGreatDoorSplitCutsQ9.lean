/-
  Texts in one: PRead, TbCell, PRep, PRows, Own2, CellRow.
-/
import Derived.Test.YtlljmhcgjkolpaaGreatDoorSplitCutsQFL
import Derived.Test.YtlljmhcgjkolpaaGreatDoorSplitCutsQ8
import Derived.Laws.Bits64b
import Derived.Test.YtlljmhcgjkolpaaGreatDoorSplitCutsQ3
import Derived.Lib.SliceRun
import Derived.Test.YtlljmhcgjkolpaaGreatDoorSplitCutsQ5
import Derived.Test.YtlljmhcgjkolpaaGreatDoorSplitCutsQ4
import Derived.Laws.CopyOwn
import Derived.Lib.MakeNoZero
import Derived.WalkLawsBesides
import Derived.Test.YtlljmhcgjkolpaaGreatDoorSplitCutsQ7
import Derived.Test.YtlljmhcgjkolpaaGreatDoorSplitCutsQ0
namespace Go.Proofs.YtlljmhcgjkolpaaGreatDoor
open Go.RowKit
def beN : List Int → Nat → Nat
  | [], t => t
  | c :: r, t => beN r (t * 256 + c.toNat)
theorem beN_ofBe : ∀ (l : List Int), Byt l → ∀ t u, beN l t + ofBe l u + 1 = (t + u + 1) * 256 ^ l.length
  | [], _, t, u => by simp [beN, ofBe]
  | c :: r, h, t, u => by
    have hc := h c (List.mem_cons_self ..)
    have ih := beN_ofBe r (fun x hx => h x (List.mem_cons_of_mem _ hx)) (t * 256 + c.toNat) (u * 256 + (255 - c).toNat)
    have e : t * 256 + c.toNat + (u * 256 + (255 - c).toNat) + 1 = (t + u + 1) * 256 := by omega
    rw [beN, ofBe, ih, e, List.length_cons, Nat.pow_succ, Nat.mul_assoc, Nat.mul_comm 256]
theorem beN_append : ∀ (l : List Int) (c : Int) (t : Nat), beN (l ++ [c]) t = beN l t * 256 + c.toNat
  | [], c, t => rfl
  | a :: l, c, t => by rw [List.cons_append, beN, beN, beN_append l c]
theorem beN_lt (l : List Int) (h : Byt l) : beN l 0 < 256 ^ l.length := by
  have := beN_ofBe l h 0 0
  omega
theorem readL_cutN (b : List Int) : readL b = (cutN 3 b).bind fun q => match q.1 with
    | [r, f, g] => if q.2.length = 8 ∧ KV.right ⟨r, f, g, ofBe q.2 0⟩ then some ⟨r, f, g, ofBe q.2 0⟩ else none
    | _ => none := by
  unfold readL
  simp only [cutN]
  cases h1 : cutL b with
  | none => rfl
  | some p =>
    simp only [Option.bind_some]
    cases h2 : cutL p.2 with
    | none => rfl
    | some q =>
      simp only [Option.bind_some]
      cases h3 : cutL q.2 with
      | none => rfl
      | some r => rfl
theorem or_byte (L x : Nat) (hL : L < 72057594037927936) (hx : x < 256) : bits BinOp.or IntKind.u64 ((L : Int) * 256) (x : Int) = ((L * 256 + x : Nat) : Int) := by
  have h := bits_or_u64_nat (L * 256) x (by omega) (by omega)
  have e : L * 256 ||| x = L * 256 + x := by
    have := Nat.two_pow_add_eq_or_of_lt (i := 8) (b := x) (by omega) L
    rw [Nat.mul_comm]
    exact this.symm
  rw [← e]
  exact h
def zeroK : KA := ⟨⟨#[]⟩, ⟨#[]⟩, ⟨#[]⟩, 0⟩
def ReadPost (e : Ending) : Option KV → Prop
  | none => e = .returned (.tuple #[zeroK.val, .int .i64 5])
  | some kv => ∃ k : KA, e = .returned (.tuple #[k.val, .int .i64 0]) ∧ k.kv = kv ∧ k.ok
set_option maxHeartbeats 4000000 in
set_option maxRecDepth 100000 in
theorem pread_any (w : World) (ao : Option Addr) (n cap : Nat) (xs : List Int) (h : Sl w ao n cap xs) (hn : n ≤ 1000000) :
    Calls Tryz.prog 125 #[.slice ao n cap] w fun e w' => ReadPost e (readL xs) ∧ Below w.heap.size w w' := by
  have k1 : KyC (w.alloc (.cells #[.string ⟨#[]⟩, .string ⟨#[]⟩, .string ⟨#[]⟩, .int .u64 0] 24)) w.heap.size zeroK := heap_alloc_new w _
  have B1 : Below w.heap.size w (w.alloc (.cells #[.string ⟨#[]⟩, .string ⟨#[]⟩, .string ⟨#[]⟩, .int .u64 0] 24)) := (Below.refl _ w).alloc (Nat.le_refl _) _
  obtain ⟨N, hN⟩ : ∃ N, N = w.heap.size := ⟨_, rfl⟩
  go_enter Tryz.func125, Tryz.ntmps125
  go_wp2_with fail
  obtain ⟨w1, hw1⟩ : ∃ W, W = (w.alloc (.cells #[.string ⟨#[]⟩, .string ⟨#[]⟩, .string ⟨#[]⟩, .int .u64 0] 24)) := ⟨_, rfl⟩
  rw [← hw1] at k1 B1 ⊢
  have S1 := h.below B1
  rw [← hN] at k1 B1 ⊢
  refine (pcut_any w1 ao n cap xs S1 hn).mono ?_
  rintro e w2 ⟨P2, C⟩
  have HN : Hid (N = w.heap.size) := hN
  have B2 := B1.trans (C.mono (by have := B1.size; omega))
  have k2 := k1.keep C
  clear hN hw1 k1 B1 C S1
  have q0 := k2.c0
  have q1 := k2.c1
  have q2 := k2.c2
  have q3 := k2.c3
  have f0 : w2.frozen? ⟨N, 0, none⟩ = false := frozen_of_row w2 N 0 _ _ k2
  have f1 : w2.frozen? ⟨N, 1, none⟩ = false := frozen_of_row w2 N 1 _ _ k2
  have f2 : w2.frozen? ⟨N, 2, none⟩ = false := frozen_of_row w2 N 2 _ _ k2
  have f3 : w2.frozen? ⟨N, 3, none⟩ = false := frozen_of_row w2 N 3 _ _ k2
  have lt := k2.lt
  cases hc : cutN 3 xs with
  | none =>
    have HR : Hid (readL xs = none) := by show _ = _; rw [readL_cutN, hc]; rfl
    rw [hc] at P2
    obtain rfl : e = .returned (.tuple #[.agg #[.string ⟨#[]⟩, .string ⟨#[]⟩, .string ⟨#[]⟩], .slice none 0 0]) := P2
    clear hc
    have BX : Below N w (((((w2.setCell ⟨N, 0, none⟩ (.string ⟨#[]⟩)).setCell ⟨N, 1, none⟩ (.string ⟨#[]⟩)).setCell ⟨N, 2, none⟩ (.string ⟨#[]⟩)).setCell ⟨N, 3, none⟩ (.int .u64 0)).alloc (Obj.cells #[.string ⟨#[]⟩, .string ⟨#[]⟩, .string ⟨#[]⟩] 139)) := ((((B2.setCell (Nat.le_refl _) _).setCell (Nat.le_refl _) _).setCell (Nat.le_refl _) _).setCell (Nat.le_refl _) _).alloc (by simp; omega) _
    go_wp2
    exact bodyPost_ret (v := .tuple #[zeroK.val, .int .i64 5]) (by unfold KA.val zeroK; simp [results, Tryz.results125, go_sem, q0, q1, q2, q3, lt]) rfl ⟨by rw [HR.out]; rfl, by rw [← HN.out]; exact BX⟩
  | some q =>
    rw [hc] at P2
    obtain ⟨ss, bo, m, c, rfl, hss, hm, S2⟩ := P2
    obtain ⟨s0, s1, s2, rfl⟩ : ∃ s0 s1 s2, ss = [s0, s1, s2] := by
      match ss, hss with
      | [a, b, c], _ => exact ⟨a, b, c, rfl⟩
    obtain ⟨nm3, ys⟩ := q
    simp only [List.map_cons, List.map_nil] at hm
    subst hm
    have hl := S2.len
    rw [show (namesV [s0, s1, s2]).toArray = #[.string s0, .string s1, .string s2] from rfl]
    by_cases h8 : m = 8
    · subst h8
      obtain ⟨b2, off2, rfl, hcell0⟩ := S2.at (by omega)
      have hb2 : b2 < w2.heap.size := World.block_lt_of_cell? w2 _ (hcell0 0 (by omega))
      obtain ⟨w3, hw3⟩ : ∃ W, W = w2.alloc (Obj.cells #[.string s0, .string s1, .string s2] 139) := ⟨_, rfl⟩
      have C3 : Below w2.heap.size w2 w3 := by rw [hw3]; exact (Below.refl _ _).alloc (Nat.le_refl _) _
      have hcell : Hid (∀ i, i < 8 → w3.cell? ⟨b2, off2 + i, none⟩ = some (.int .u8 (ys.getD i 0))) := fun i hi => (C3.cell (by exact hb2)).trans (hcell0 i hi)
      clear hcell0
      have HY : Hid (Byt ys) := S2.byte
      obtain ⟨M, hM⟩ : ∃ M, M = w2.heap.size := ⟨_, rfl⟩
      have e3 : w3.heap[M]? = some (.cells #[.string s0, .string s1, .string s2] 139) := by rw [hw3, hM]; exact heap_alloc_new w2 _
      have k3 := k2.keep C3
      have B3 := B2.trans (C3.mono (by have := B2.size; have := HN.out; omega))
      go_wp2_with fail
      rw [← hw3, ← hM]
      clear hw3 hM q0 q1 q2 q3 f0 f1 f2 f3 k2 B2 C3
      go_loopw [6, 8, 22] (fun lk _ i wr => wr = w3 ∧ ∃ j : Nat, j ≤ 8 ∧ i = .int .i64 j ∧ lk = .int .u64 (beN (ys.take j) 0)) (fun _ _ i _ => 8 - (intOf i).toNat)
      case atStart => exact ⟨rfl, 0, by omega, rfl, rfl⟩
      case round =>
        obtain ⟨rfl, j, hj, rfl, rfl⟩ := hrel
        by_cases l : j < 8
        · have il : (j : Int) < 8 := by omega
          obtain ⟨x, hx⟩ : ∃ x : Nat, x = (ys.getD j 0).toNat := ⟨_, rfl⟩
          have hxb := HY.out.at j
          have hxe : ys.getD j 0 = (x : Int) := by rw [hx, Int.toNat_of_nonneg]; simpa [List.getD] using hxb.1
          have hx8 : x < 256 := by have : ys.getD j 0 ≤ 255 := by simpa [List.getD] using hxb.2
                                   omega
          have cj := hcell.out j l
          rw [hxe] at cj
          have hjl : j < ys.length := by omega
          have htk : Hid (beN (ys.take (j + 1)) 0 = beN (ys.take j) 0 * 256 + x) := by
            show _ = _
            rw [List.take_succ_eq_append_getElem hjl, beN_append, hx]
            simp [List.getD, hjl]
          have hlt : beN (ys.take j) 0 < 256 ^ j := by
            have := beN_lt (ys.take j) (HY.out.take j)
            rwa [List.length_take, Nat.min_eq_left (by omega)] at this
          have hlt2 : 256 ^ j ≤ 72057594037927936 := Nat.le_trans (Nat.pow_le_pow_right (by omega) (show j ≤ 7 by omega)) (by decide)
          obtain ⟨L, hL⟩ : ∃ L, L = beN (ys.take j) 0 := ⟨_, rfl⟩
          rw [← hL] at htk hlt ⊢
          have L7 : L < 72057594037927936 := by omega
          clear hL hlt hlt2 hx hxb hxe
          have hor : bits BinOp.or IntKind.u64 ((L : Int) * 256) (x : Int) = ((L * 256 + x : Nat) : Int) := or_byte L x L7 hx8
          go_wp2
          go_roundw
          case rel => exact ⟨trivial, j + 1, by omega, by go_num, by rw [htk.out] <;> go_num⟩
          case measure => simp [intOf]; omega
        · obtain rfl : j = 8 := by omega
          have htk : ys.take 8 = ys := List.take_of_length_le (by omega)
          rw [htk]
          have hsum := beN_ofBe ys HY.out 0 0
          rw [hl] at hsum
          obtain ⟨L, hL⟩ : ∃ L, L = beN ys 0 := ⟨_, rfl⟩
          obtain ⟨T, hT⟩ : ∃ T, T = ofBe ys 0 := ⟨_, rfl⟩
          rw [← hL] at hsum ⊢
          rw [← hT] at hsum
          have hT2 : T < 18446744073709551616 := by simp at hsum; omega
          have hLT : 18446744073709551615 - (L : Int) = (T : Int) := by simp at hsum; omega
          have HT : Hid (T = ofBe ys 0) := hT
          clear hsum hT hL htk hcell
          have q0 : wr.cell? ⟨M, 0, none⟩ = some (.string s0) := cell_of_row wr M 0 _ _ _ e3
          have q1 : wr.cell? ⟨M, 1, none⟩ = some (.string s1) := cell_of_row wr M 1 _ _ _ e3
          have q2 : wr.cell? ⟨M, 2, none⟩ = some (.string s2) := cell_of_row wr M 2 _ _ _ e3
          obtain ⟨k, hk⟩ : ∃ k : KA, k = ⟨s0, s1, s2, T⟩ := ⟨_, rfl⟩
          have k4 : KyC (wr.alloc (.cells #[.string s0, .string s1, .string s2, .int .u64 T] 24)) wr.heap.size k := by rw [hk]; exact heap_alloc_new wr _
          have z4 := k3.alloc (.cells #[.string s0, .string s1, .string s2, .int .u64 T] 24)
          have B4 := B3.alloc (by have := k3.lt; omega) (.cells #[.string s0, .string s1, .string s2, .int .u64 T] 24)
          have HV : Hid (k.val = .agg #[.string s0, .string s1, .string s2, .int .u64 T]) := by rw [hk]; rfl
          have HKV : Hid (k.kv = ⟨sb s0, sb s1, sb s2, ofBe ys 0⟩) := by rw [hk, ← HT.out]; rfl
          have HR : Hid (readL xs = if k.isRight = true then some k.kv else none) := by
            show _ = _
            rw [readL_cutN, hc, KA.isRight_kv, HKV.out]
            show (if ys.length = 8 ∧ KV.right ⟨sb s0, sb s1, sb s2, ofBe ys 0⟩ then some _ else none) = _
            by_cases hr : KV.right ⟨sb s0, sb s1, sb s2, ofBe ys 0⟩
            · rw [if_pos ⟨hl, hr⟩, decide_eq_true hr]; rfl
            · rw [if_neg (fun h => hr h.2), decide_eq_false hr]; rfl
          have HOK : Hid (k.isRight = true → k.ok) := fun hr => by
            have hsz := of_decide_eq_true hr
            have ht : k.time = T := by rw [hk]
            exact ⟨by unfold maxLen; omega, by unfold maxLen; omega, by unfold maxLen; omega, by omega⟩
          obtain ⟨P, hP⟩ : ∃ P, P = wr.heap.size := ⟨_, rfl⟩
          have hPN : N < P := by rw [hP]; exact k3.lt
          go_wp2_with fail
          rw [← HV.out]
          refine (pright_any _ k).mono ?_
          rintro e w5 ⟨rfl, C⟩
          have k5 := k4.keep C
          have z5 := z4.keep C
          have B5 := B4.trans (C.mono (by have := B4.size; have := HN.out; omega))
          rw [← hP] at k5 ⊢
          clear C k4 z4 B4 k3 B3 e3 q0 q1 q2 hc hP hLT
          rw [HV.out]
          have r0 := z5.c0
          have r1 := z5.c1
          have r2 := z5.c2
          have r3 := z5.c3
          have f0 : w5.frozen? ⟨N, 0, none⟩ = false := frozen_of_row w5 N 0 _ _ z5
          have f1 : w5.frozen? ⟨N, 1, none⟩ = false := frozen_of_row w5 N 1 _ _ z5
          have f2 : w5.frozen? ⟨N, 2, none⟩ = false := frozen_of_row w5 N 2 _ _ z5
          have f3 : w5.frozen? ⟨N, 3, none⟩ = false := frozen_of_row w5 N 3 _ _ z5
          by_cases hr : k.isRight = true
          · have hk0 : k.kind = 0 := by unfold KA.kind; rw [hr]; rfl
            have HR2 : Hid (readL xs = some k.kv) := by rw [HR.out, if_pos hr]; rfl
            have ok := HOK.out hr
            have p0 : w5.cell? ⟨P, 0, none⟩ = some (.string s0) := by have := k5.c0; rwa [hk] at this
            have p1 : w5.cell? ⟨P, 1, none⟩ = some (.string s1) := by have := k5.c1; rwa [hk] at this
            have p2 : w5.cell? ⟨P, 2, none⟩ = some (.string s2) := by have := k5.c2; rwa [hk] at this
            have p3 : w5.cell? ⟨P, 3, none⟩ = some (.int .u64 T) := by have := k5.c3; rwa [hk] at this
            rw [hk0]
            clear hk0 HR HOK hr hk
            have BX : Below N w ((((w5.setCell ⟨N, 0, none⟩ (.string s0)).setCell ⟨N, 1, none⟩ (.string s1)).setCell ⟨N, 2, none⟩ (.string s2)).setCell ⟨N, 3, none⟩ (.int .u64 T)) := (((B5.setCell (Nat.le_refl _) _).setCell (Nat.le_refl _) _).setCell (Nat.le_refl _) _).setCell (Nat.le_refl _) _
            go_wp2
            exact bodyPost_ret (v := .tuple #[.agg #[.string s0, .string s1, .string s2, .int .u64 T], .int .i64 0]) (by simp [results, Tryz.results125, go_sem, r0, r1, r2, r3]) rfl ⟨by rw [HR2.out]; exact ⟨k, by rw [HV.out], rfl, ok⟩, by rw [← HN.out]; exact BX⟩
          · have hk0 : k.kind = 5 := by unfold KA.kind; rw [if_neg hr]
            have HR2 : Hid (readL xs = none) := by rw [HR.out, if_neg hr]; rfl
            rw [hk0]
            clear hk0 HR HOK hr hk
            have BX : Below N w ((((w5.setCell ⟨N, 0, none⟩ (.string ⟨#[]⟩)).setCell ⟨N, 1, none⟩ (.string ⟨#[]⟩)).setCell ⟨N, 2, none⟩ (.string ⟨#[]⟩)).setCell ⟨N, 3, none⟩ (.int .u64 0)) := (((B5.setCell (Nat.le_refl _) _).setCell (Nat.le_refl _) _).setCell (Nat.le_refl _) _).setCell (Nat.le_refl _) _
            go_wp2
            exact bodyPost_ret (v := .tuple #[zeroK.val, .int .i64 5]) (by unfold KA.val zeroK; simp [results, Tryz.results125, go_sem, r0, r1, r2, r3]) rfl ⟨by rw [HR2.out]; rfl, by rw [← HN.out]; exact BX⟩
    · have HR : Hid (readL xs = none) := by
        show _ = _
        rw [readL_cutN, hc]
        exact if_neg (fun h => h8 (by rw [← hl]; exact h.1))
      have e8 : ((m : Int) == 8) = false := by simp; omega
      have e9 : ((m : Int) != 8) = true := by simp; omega
      clear hc
      have BX : Below N w (((((w2.setCell ⟨N, 0, none⟩ (.string ⟨#[]⟩)).setCell ⟨N, 1, none⟩ (.string ⟨#[]⟩)).setCell ⟨N, 2, none⟩ (.string ⟨#[]⟩)).setCell ⟨N, 3, none⟩ (.int .u64 0)).alloc (Obj.cells #[.string s0, .string s1, .string s2] 139)) := ((((B2.setCell (Nat.le_refl _) _).setCell (Nat.le_refl _) _).setCell (Nat.le_refl _) _).setCell (Nat.le_refl _) _).alloc (by simp; omega) _
      go_wp2
      exact bodyPost_ret (v := .tuple #[zeroK.val, .int .i64 5]) (by unfold KA.val zeroK; simp [results, Tryz.results125, go_sem, q0, q1, q2, q3, lt]) rfl ⟨by rw [HR.out]; rfl, by rw [← HN.out]; exact BX⟩
open Go.RowKit
def isValB : List Int → Bool
  | [] => false
  | b :: v => decide (b = 0 ∧ v.length ≤ 256)
theorem KpB.wr {w w' : World} {p : Nat} {t : TypeId} {cs : List Value} (h : Arr w p t cs) (ht : t ≠ 5) (k : Wr p w w') : KpB w w' := fun b cur hb => by
  refine (k.block b (Array.getElem?_eq_some_iff.1 hb).1 fun e => ?_).trans hb
  subst e
  have := (show w.heap[b]? = _ from h).symm.trans hb
  simp only [Option.some.injEq, Obj.cells.injEq] at this
  exact ht this.2.1
set_option maxHeartbeats 400000 in
set_option maxRecDepth 100000 in
theorem bcloneT_any (w : World) (ao : Option Addr) (n cap : Nat) (xs : List Int) (h : Sl w ao n cap xs) (hn : n ≤ 1000000) :
    Calls Tryz.prog 127 #[.slice ao n cap] w fun e w' => ∃ ro rc, e = .returned (.slice ro n rc) ∧ SlT w' ⟨ro, n, rc, xs⟩ ∧ Below w.heap.size w w' := by
  cases ao with
  | none =>
    obtain ⟨rfl, rfl⟩ := h.nil rfl
    obtain rfl : xs = [] := List.eq_nil_of_length_eq_zero h.len
    have hq : ∀ W, _ := fun W => Lib.run_eql_slice_nil (P := Tryz.prog) W 25 5 none 0 0 0 0 Tryz.underlying25
    go_enter Tryz.func127, Tryz.ntmps127
    go_wp2
    go_ret
    exact ⟨none, 0, rfl, ⟨Sl.nothing w, fun a ha => by simp at ha⟩, Below.refl _ _⟩
  | some a =>
    have B0 : Below w.heap.size w (w.alloc (.cells #[] 5)) := (Below.refl _ w).alloc (Nat.le_refl _) _
    have h0 := h.below B0
    have o0 := own_nothing w
    have hb := h.byte
    have hq : ∀ W, _ := fun W => Lib.run_eql_slice_nil (P := Tryz.prog) W 25 5 (some a) n cap 0 0 Tryz.underlying25
    go_enter Tryz.func127, Tryz.ntmps127
    go_wp2_with (at_builtin; refine wpList_app rfl _ _ rfl w.heap.size _ _ _ rfl o0 _ _ _ _ rfl h0 (by omega) (by simp) ?_; intro v1 w1 own1 B1)
    simp only [Nat.zero_add, List.nil_append] at own1
    obtain ⟨ro, rc, rfl, S⟩ := SlT.own own1 hb
    go_wp2
    go_ret
    exact ⟨ro, rc, rfl, S, B0.trans B1⟩
set_option maxHeartbeats 1000000 in
theorem isval_any (w : World) (ao : Option Addr) (n cap : Nat) (xs : List Int) (h : Sl w ao n cap xs) (hn : n ≤ 1000000) :
    Calls Tryz.prog 126 #[.slice ao n cap] w fun e w' => e = .returned (.bool (isValB xs)) ∧ w' = w := by
  have hl := h.len
  cases xs with
  | nil =>
    obtain rfl : n = 0 := by simpa using hl.symm
    go_enter Tryz.func126, Tryz.ntmps126
    go_wp2
    go_ret
    exact ⟨rfl, rfl⟩
  | cons b v =>
    have hv : v.length + 1 = n := by simpa using hl
    obtain ⟨ab, off, rfl, hc⟩ := h.at (by omega)
    have c0 := hc 0 (by omega)
    rw [Nat.add_zero, show (b :: v).getD 0 0 = b from rfl] at c0
    have hpos : (0 : Int) < (n : Int) := by omega
    have hnw : IntKind.i64.wrap ((n : Int) - 1) = (n : Int) - 1 := by simp [IntKind.wrap, IntKind.bits, IntKind.signed]; omega
    clear hc hl
    by_cases e0 : b = 0
    · have t0 : (b == 0) = true := by simp [e0]
      by_cases e1 : v.length ≤ 256
      · have HR : Hid (isValB (b :: v) = true) := decide_eq_true ⟨e0, e1⟩
        have t1 : (n : Int) - 1 ≤ 256 := by omega
        clear e0 e1
        go_enter Tryz.func126, Tryz.ntmps126
        go_wp2
        go_ret
        exact ⟨by rw [HR.out] <;> rfl, rfl⟩
      · have HR : Hid (isValB (b :: v) = false) := decide_eq_false fun h => e1 h.2
        have t1 : ¬ ((n : Int) - 1 ≤ 256) := by omega
        clear e0 e1
        go_enter Tryz.func126, Tryz.ntmps126
        go_wp2
        go_ret
        exact ⟨by rw [HR.out] <;> rfl, rfl⟩
    · have t0 : (b == 0) = false := by simp [e0]
      have HR : Hid (isValB (b :: v) = false) := decide_eq_false fun h => e0 h.1
      clear e0
      go_enter Tryz.func126, Tryz.ntmps126
      go_wp2
      go_ret
      exact ⟨by rw [HR.out] <;> rfl, rfl⟩
theorem size1u (w : World) : (sizeOf 5).run Tryz.prog w = .ok 1 w := by
  have hI := u8info
  cases hi : Tryz.prog.info? 5 with
  | none => rw [hi] at hI; simp at hI
  | some i =>
    rw [hi] at hI
    simp only [Option.map_some, Option.some.injEq, Prod.mk.injEq] at hI
    simp [sizeOf, typeInfo, hi, hI.2.1]
theorem run_tail1 {W : World} {a : Addr} {n cap : Nat} (h1 : 1 ≤ n) :
    (Instr.sliceAt 25 (.slice (some a) n cap) (some (.int .i64 1)) none none).run Tryz.prog W = .ok (.slice (some (if cap = 1 then a else a.add 1)) (n - 1) (cap - 1)) W := by
  have ht := Tryz.underlying25
  have he : Tryz.prog.elem 25 = 5 := by simp [Program.elem, ht]
  have := run_slice_l W 25 (some a) n cap (by rw [he]; exact ht) .i64 1 (by omega) (by omega)
  rw [run_sliceAt_slice W 25 _ _ _ _ (by rw [he]; exact ht), this, he, size1u]
  simp only [Result.andThen_ok, sliced]
  by_cases hc : cap = 1
  · simp [hc]
  · simp [hc]
def zeroC : CV := ⟨⟨#[]⟩, ⟨#[]⟩, ⟨#[]⟩, 0, [], false⟩
def CellAns (x : It) (c : CV) (kd : Int) : Prop :=
  (readL x.k = none ∧ c = zeroC ∧ kd = 5) ∨
  (readL x.k = some c.kv ∧ c.time < 18446744073709551616 ∧ kd = 0 ∧ ((x.v = [1] ∧ c.gone = true ∧ c.value = []) ∨ (x.v = 0 :: c.value ∧ c.value.length ≤ 256 ∧ c.gone = false))) ∨
  (readL x.k ≠ none ∧ x.v ≠ [1] ∧ isValB x.v = false ∧ c = zeroC ∧ kd = 3)
def CellPost (w : World) (x : It) (e : Ending) (w' : World) : Prop := ∃ (c : CA) (kd : Int), e = .returned (.tuple #[c.val, .int .i64 kd]) ∧ CellAns x c.c kd ∧ c.ok w' ∧ SlT w' ⟨c.va.ao, c.va.n, c.va.cap, c.va.xs⟩ ∧ Below w.heap.size w w'
theorem CellAns.unique {x : It} {c d : CV} {i j : Int} (h : CellAns x c i) (k : CellAns x d j) : c = d ∧ i = j := by
  rcases h with ⟨a1, rfl, rfl⟩ | ⟨a1, -, rfl, a2⟩ | ⟨a1, a2, a3, rfl, rfl⟩ <;> rcases k with ⟨b1, rfl, rfl⟩ | ⟨b1, -, rfl, b2⟩ | ⟨b1, b2, b3, rfl, rfl⟩
  · exact ⟨rfl, rfl⟩
  · rw [a1] at b1; simp at b1
  · exact absurd a1 b1
  · rw [a1] at b1; simp at b1
  · rw [a1] at b1
    obtain ⟨h1, h2, h3, h4⟩ := CV.kv_eq (Option.some.inj b1)
    have hh : c.gone = d.gone ∧ c.value = d.value := by
      rcases a2 with ⟨e1, e2, e3⟩ | ⟨e1, e2, e3⟩ <;> rcases b2 with ⟨g1, g2, g3⟩ | ⟨g1, g2, g3⟩
      · exact ⟨by rw [e2, g2], by rw [e3, g3]⟩
      · rw [e1] at g1; simp at g1
      · rw [e1] at g1; simp at g1
      · rw [e1] at g1; exact ⟨by rw [e3, g3], by simpa using g1⟩
    obtain ⟨h5, h6⟩ := hh
    refine ⟨?_, rfl⟩
    cases c; cases d
    simp only at h1 h2 h3 h4 h5 h6
    subst h1 h2 h3 h4 h5 h6
    rfl
  · rcases a2 with ⟨e1, -, -⟩ | ⟨e1, e2, -⟩
    · exact absurd e1 b2
    · rw [e1] at b3; simp [isValB] at b3; omega
  · exact absurd b1 a1
  · rcases b2 with ⟨e1, -, -⟩ | ⟨e1, e2, -⟩
    · exact absurd e1 a2
    · rw [e1] at a3; simp [isValB] at a3; omega
  · exact ⟨rfl, rfl⟩
theorem CellAns.itm {c : CV} (h : c.good) : CellAns (itm c) c 0 := by
  refine .inr (.inl ⟨readL_keyL c.kv (CV.kvByt h.time) h.right, h.time, rfl, ?_⟩)
  show (itV c = [1] ∧ _) ∨ _
  unfold itV
  cases hg : c.gone
  · exact .inr ⟨by show (if c.gone then _ else _) = _; rw [hg]; rfl, h.val, rfl⟩
  · exact .inl ⟨rfl, rfl, h.gone hg⟩
set_option maxHeartbeats 4000000 in
set_option maxRecDepth 100000 in
theorem tcell_any (w : World) (x : It) (ko vo : Option Addr) (kn kc vn vc : Nat) (hk : Sl w ko kn kc x.k) (hv : Sl w vo vn vc x.v) (hkn : kn ≤ 1000000) (hvn : vn ≤ 1000000) :
    Calls Tryz.prog 89 #[.agg #[.slice ko kn kc, .slice vo vn vc]] w (CellPost w x) := by
  obtain ⟨W1, hW1⟩ : ∃ V, V = w.alloc (.cells #[.slice ko kn kc, .slice vo vn vc] 105) := ⟨_, rfl⟩
  obtain ⟨W2, hW2⟩ : ∃ V, V = W1.alloc (.cells #[.string ⟨#[]⟩, .string ⟨#[]⟩, .string ⟨#[]⟩, .int .u64 0, .slice none 0 0, .bool false] 33) := ⟨_, rfl⟩
  have B1 : Below w.heap.size w W1 := by rw [hW1]; exact (Below.refl _ _).alloc (Nat.le_refl _) _
  have C2 : Below W1.heap.size W1 W2 := by rw [hW2]; exact (Below.refl _ _).alloc (Nat.le_refl _) _
  have B2 := B1.trans (C2.mono B1.size)
  have s1 : W1.heap.size = w.heap.size + 1 := by rw [hW1]; exact Array.size_push ..
  have A1' : Arr W1 w.heap.size 105 [.slice ko kn kc, .slice vo vn vc] := by rw [hW1]; exact heap_alloc_new w _
  have I2 := arr_below A1' C2
  have R2 : Arr W2 (w.heap.size + 1) 33 [.string ⟨#[]⟩, .string ⟨#[]⟩, .string ⟨#[]⟩, .int .u64 0, .slice none 0 0, .bool false] := by rw [hW2, ← s1]; exact heap_alloc_new W1 _
  have CR := pread_any W2 ko kn kc x.k (hk.below B2) hkn
  clear A1' s1 C2 B1
  go_enter Tryz.func89, Tryz.ntmps89
  go_wp2_with fail
  rw [← hW1, ← hW2]
  clear hW1 hW2
  refine CR.mono ?_
  rintro e w3 ⟨RP, C3⟩
  have B3 := B2.trans (C3.mono B2.size)
  have I3 := arr_below I2 C3
  have R3 := arr_below R2 C3
  have lt3 := R3.lt
  clear CR I2 R2
  cases hrd : readL x.k with
  | none =>
    rw [hrd] at RP
    obtain rfl : e = .returned (.tuple #[zeroK.val, .int .i64 5]) := RP
    unfold KA.val zeroK
    have R4 := R3
    have r0 : w3.cell? ⟨w.heap.size + 1, 0, none⟩ = some (.string ⟨#[]⟩) := R4.cell 0
    have f0 := R4.free 0
    have r1 : w3.cell? ⟨w.heap.size + 1, 1, none⟩ = some (.string ⟨#[]⟩) := R4.cell 1
    have f1 := R4.free 1
    have r2 : w3.cell? ⟨w.heap.size + 1, 2, none⟩ = some (.string ⟨#[]⟩) := R4.cell 2
    have f2 := R4.free 2
    have r3 : w3.cell? ⟨w.heap.size + 1, 3, none⟩ = some (.int .u64 0) := R4.cell 3
    have f3 := R4.free 3
    have r4 : w3.cell? ⟨w.heap.size + 1, 4, none⟩ = some (.slice none 0 0) := R4.cell 4
    have f4 := R4.free 4
    have r5 : w3.cell? ⟨w.heap.size + 1, 5, none⟩ = some (.bool false) := R4.cell 5
    have f5 := R4.free 5
    have HRD : Hid (readL x.k = none) := hrd
    clear hrd
    go_wp2
    exact bodyPost_ret (v := .tuple #[.agg #[.string ⟨#[]⟩, .string ⟨#[]⟩, .string ⟨#[]⟩, .int .u64 0, .slice none 0 0, .bool false], .int .i64 5]) (by simp [results, Tryz.results89, go_sem, r0, r1, r2, r3, r4, r5, lt3]) rfl ⟨⟨⟨#[]⟩, ⟨#[]⟩, ⟨#[]⟩, 0, ⟨none, 0, 0, []⟩, false⟩, 5, rfl, .inl ⟨HRD.out, rfl, rfl⟩, ⟨Nat.zero_le _, Nat.zero_le _, Nat.zero_le _, by decide, Sl.nothing _⟩, ⟨Sl.nothing _, fun a ha => by simp at ha⟩, Wr.below B3 ((((((((Wr.refl _ _).set 0 _).set 1 _).set 2 _).set 3 _).set 4 _).set 5 _).alloc _) B3.size (Nat.le_succ _)⟩
  | some kv =>
    rw [hrd] at RP
    obtain ⟨k, rfl, hkv, hko⟩ : ∃ k : KA, e = .returned (.tuple #[k.val, .int .i64 0]) ∧ k.kv = kv ∧ k.ok := RP
    have HRD : Hid (readL x.k = some k.kv) := by show _ = _; rw [hrd, hkv]
    clear hrd hkv
    unfold KA.val
    obtain ⟨w4, hw4⟩ : ∃ V, V = w3.alloc (.cells #[.string k.row, .string k.fam, .string k.qual, .int .u64 k.time] 24) := ⟨_, rfl⟩
    have C4 : Below w3.heap.size w3 w4 := by rw [hw4]; exact (Below.refl _ _).alloc (Nat.le_refl _) _
    have I4 := arr_below I3 C4
    have R4 := arr_below R3 C4
    have K4 : Arr w4 w3.heap.size 24 [.string k.row, .string k.fam, .string k.qual, .int .u64 k.time] := by rw [hw4]; exact heap_alloc_new w3 _
    have i1 : (w3.alloc (.cells #[.string k.row, .string k.fam, .string k.qual, .int .u64 k.time] 24)).cell? ⟨w.heap.size, 1, none⟩ = some (.slice vo vn vc) := by rw [← hw4]; exact I4.cell 1
    have s4 : w4.heap.size = w3.heap.size + 1 := by rw [hw4]; exact Array.size_push ..
    obtain ⟨w5, hw5⟩ : ∃ V, V = w4.alloc (.cells #[.int .u8 1] 5) := ⟨_, rfl⟩
    have C5 : Below w4.heap.size w4 w5 := by rw [hw5]; exact (Below.refl _ _).alloc (Nat.le_refl _) _
    have S5 : Sl w5 (some ⟨w3.heap.size + 1, 0, none⟩) 1 1 [1] := by rw [hw5, ← s4]; exact Sl.one w4 1 (by omega)
    have B5 := (B3.trans (C4.mono B3.size)).trans (C5.mono (by have := B3.size; have := C4.size; omega))
    have I5 := arr_below I4 C5
    have R5 := arr_below R4 C5
    have K5 := arr_below K4 C5
    have CE := pequal_any w5 vo (some ⟨w3.heap.size + 1, 0, none⟩) vn vc 1 1 x.v [1] (hv.below B5) S5
    go_wp2_with fail
    rw [← hw4, ← hw5]
    refine CE.mono ?_
    rintro e w6 ⟨rfl, hw6⟩
    obtain rfl := hw6.symm
    clear CE hw4 hw5 S5 s4 I4 R4 K4 C4 C5 i1 I3 R3
    have i1 : w5.cell? ⟨w.heap.size, 1, none⟩ = some (.slice vo vn vc) := I5.cell 1
    have q0 : w5.cell? ⟨w3.heap.size, 0, none⟩ = some (.string k.row) := K5.cell 0
    have q1 : w5.cell? ⟨w3.heap.size, 1, none⟩ = some (.string k.fam) := K5.cell 1
    have q2 : w5.cell? ⟨w3.heap.size, 2, none⟩ = some (.string k.qual) := K5.cell 2
    have q3 : w5.cell? ⟨w3.heap.size, 3, none⟩ = some (.int .u64 k.time) := K5.cell 3
    have lt5 := R5.lt
    by_cases hx : x.v = [1]
    · have HX : Hid (x.v = [1]) := hx
      rw [decide_eq_true hx]
      clear hx
      have r0 : w5.cell? ⟨w.heap.size + 1, 0, none⟩ = some (.string ⟨#[]⟩) := R5.cell 0
      have f0 := R5.free 0
      have r1 : w5.cell? ⟨w.heap.size + 1, 1, none⟩ = some (.string ⟨#[]⟩) := R5.cell 1
      have f1 := R5.free 1
      have r2 : w5.cell? ⟨w.heap.size + 1, 2, none⟩ = some (.string ⟨#[]⟩) := R5.cell 2
      have f2 := R5.free 2
      have r3 : w5.cell? ⟨w.heap.size + 1, 3, none⟩ = some (.int .u64 0) := R5.cell 3
      have f3 := R5.free 3
      have r4 : w5.cell? ⟨w.heap.size + 1, 4, none⟩ = some (.slice none 0 0) := R5.cell 4
      have f4 := R5.free 4
      have r5 : w5.cell? ⟨w.heap.size + 1, 5, none⟩ = some (.bool false) := R5.cell 5
      have f5 := R5.free 5
      go_wp2
      exact bodyPost_ret (v := .tuple #[.agg #[.string k.row, .string k.fam, .string k.qual, .int .u64 k.time, .slice none 0 0, .bool true], .int .i64 0]) (by simp [results, Tryz.results89, go_sem, r0, r1, r2, r3, r4, r5]) rfl ⟨⟨k.row, k.fam, k.qual, k.time, ⟨none, 0, 0, []⟩, true⟩, 0, rfl, .inr (.inl ⟨HRD.out, hko.time, rfl, .inl ⟨HX.out, rfl, rfl⟩⟩), ⟨hko.row, hko.fam, hko.qual, hko.time, Sl.nothing _⟩, ⟨Sl.nothing _, fun a ha => by simp at ha⟩, Wr.below B5 ((((((((Wr.refl _ _).set 0 _).set 1 _).set 2 _).set 3 _).set 4 _).set 5 _)) B5.size (Nat.le_succ _)⟩
    · have HX : Hid (¬ x.v = [1]) := hx
      rw [decide_eq_false hx]
      clear hx
      have CV := isval_any w5 vo vn vc x.v (hv.below B5) hvn
      go_wp2_with fail
      refine CV.mono ?_
      rintro e w6 ⟨rfl, hw6⟩
      obtain rfl := hw6.symm
      clear CV
      cases hb : isValB x.v with
      | false =>
        have HB : Hid (isValB x.v = false) := hb
        clear hb
        have r0 : w5.cell? ⟨w.heap.size + 1, 0, none⟩ = some (.string ⟨#[]⟩) := R5.cell 0
        have f0 := R5.free 0
        have r1 : w5.cell? ⟨w.heap.size + 1, 1, none⟩ = some (.string ⟨#[]⟩) := R5.cell 1
        have f1 := R5.free 1
        have r2 : w5.cell? ⟨w.heap.size + 1, 2, none⟩ = some (.string ⟨#[]⟩) := R5.cell 2
        have f2 := R5.free 2
        have r3 : w5.cell? ⟨w.heap.size + 1, 3, none⟩ = some (.int .u64 0) := R5.cell 3
        have f3 := R5.free 3
        have r4 : w5.cell? ⟨w.heap.size + 1, 4, none⟩ = some (.slice none 0 0) := R5.cell 4
        have f4 := R5.free 4
        have r5 : w5.cell? ⟨w.heap.size + 1, 5, none⟩ = some (.bool false) := R5.cell 5
        have f5 := R5.free 5
        go_wp2
        exact bodyPost_ret (v := .tuple #[.agg #[.string ⟨#[]⟩, .string ⟨#[]⟩, .string ⟨#[]⟩, .int .u64 0, .slice none 0 0, .bool false], .int .i64 3]) (by simp [results, Tryz.results89, go_sem, r0, r1, r2, r3, r4, r5]) rfl ⟨⟨⟨#[]⟩, ⟨#[]⟩, ⟨#[]⟩, 0, ⟨none, 0, 0, []⟩, false⟩, 3, rfl, .inr (.inr ⟨by rw [HRD.out]; simp, HX.out, HB.out, rfl, rfl⟩), ⟨Nat.zero_le _, Nat.zero_le _, Nat.zero_le _, by decide, Sl.nothing _⟩, ⟨Sl.nothing _, fun a ha => by simp at ha⟩, Wr.below B5 ((((((((Wr.refl _ _).set 0 _).set 1 _).set 2 _).set 3 _).set 4 _).set 5 _)) B5.size (Nat.le_succ _)⟩
      | true =>
        obtain ⟨ys, hxy, hyl⟩ : ∃ ys, x.v = 0 :: ys ∧ ys.length ≤ 256 := by
          cases hxv : x.v with
          | nil => rw [hxv] at hb; simp [isValB] at hb
          | cons b v =>
            rw [hxv] at hb
            have := of_decide_eq_true hb
            exact ⟨v, by rw [this.1], this.2⟩
        have HY : Hid (x.v = 0 :: ys) := hxy
        have hv5 := hv.below B5
        have hvl := hv5.len
        rw [hxy] at hv5 hvl
        have hv1 : 1 ≤ vn := by simp at hvl; omega
        obtain ⟨vb, vf, rfl, -⟩ := hv5.at (by omega)
        have SS := hv5.cut 1 hv1
        rw [show (0 :: ys).drop 1 = ys from rfl] at SS
        obtain ⟨so, hso⟩ : ∃ so, so = some (if vc = 1 then (⟨vb, vf, none⟩ : Addr) else (⟨vb, vf, none⟩ : Addr).add 1) := ⟨_, rfl⟩
        have HSL : Hid (∀ W, (Instr.sliceAt 25 (.slice (some ⟨vb, vf, none⟩) vn vc) (some (.int .i64 1)) none none).run Tryz.prog W = .ok (.slice so (vn - 1) (vc - 1)) W) := fun W => by rw [hso]; exact run_tail1 hv1
        rw [← hso] at SS
        obtain ⟨sc, hsc⟩ : ∃ sc, sc = vc - 1 := ⟨_, rfl⟩
        rw [← hsc] at SS HSL
        clear hb hxy hvl hv5 hso hsc
        go_wp2
        have zHS : Hid (∀ V, Below w5.heap.size w5 V → V.cell? ⟨w.heap.size, 1, none⟩ = some (.slice (some ⟨vb, vf, none⟩) vn vc) ∧ V.cell? ⟨w3.heap.size, 0, none⟩ = some (.string k.row) ∧ V.cell? ⟨w3.heap.size, 1, none⟩ = some (.string k.fam) ∧ V.cell? ⟨w3.heap.size, 2, none⟩ = some (.string k.qual) ∧ V.cell? ⟨w3.heap.size, 3, none⟩ = some (.int .u64 k.time)) := fun V hV => ⟨(hV.cell (World.block_lt_of_cell? _ _ i1)).trans i1, (hV.cell (World.block_lt_of_cell? _ _ q0)).trans q0, (hV.cell (World.block_lt_of_cell? _ _ q1)).trans q1, (hV.cell (World.block_lt_of_cell? _ _ q2)).trans q2, (hV.cell (World.block_lt_of_cell? _ _ q3)).trans q3⟩
        have zE0 : Below w5.heap.size w5 w5.drew := (Below.refl _ _).drew
        refine wp_region_noPanic ?_
        refine wp_region_held_drew (S := fun V => V.cell? ⟨w.heap.size, 1, none⟩ = some (.slice (some ⟨vb, vf, none⟩) vn vc) ∧ V.cell? ⟨w3.heap.size, 0, none⟩ = some (.string k.row) ∧ V.cell? ⟨w3.heap.size, 1, none⟩ = some (.string k.fam) ∧ V.cell? ⟨w3.heap.size, 2, none⟩ = some (.string k.qual) ∧ V.cell? ⟨w3.heap.size, 3, none⟩ = some (.int .u64 k.time)) (by kernel_rfl) (zHS.out _ zE0) (fun zH0 => ?_)
        obtain ⟨zv0, hv0⟩ : ∃ v, v = w5.drew := ⟨_, rfl⟩
        rw [← hv0] at zH0 zE0 ⊢
        clear hv0
        refine hr_take_w 0 (some 27) (.agg #[.string k.row, .string k.fam, .string k.qual, .int .u64 k.time]) rfl rfl (by kernel_rfl) (by kernel_rfl) (by kernel_rfl) rfl (fun W hW => by obtain ⟨h0, h1, h2, h3, h4⟩ := hW; go_simp) zH0 ?_
        simp only [FL]
        refine hr_take_w 1 (some 28) (.pointer (some ⟨w.heap.size, 1, none⟩)) rfl rfl (by kernel_rfl) (by kernel_rfl) (by kernel_rfl) rfl (fun W hW => by obtain ⟨h0, h1, h2, h3, h4⟩ := hW; go_simp) zH0 ?_
        simp only [FL]
        refine hr_take_w 2 (some 29) (.slice (some ⟨vb, vf, none⟩) vn vc) rfl rfl (by kernel_rfl) (by kernel_rfl) (by kernel_rfl) rfl (fun W hW => by obtain ⟨h0, h1, h2, h3, h4⟩ := hW; go_simp) zH0 ?_
        simp only [FL]
        refine hr_take_w 3 (some 30) (.slice so (vn - 1) sc) rfl rfl (by kernel_rfl) (by kernel_rfl) (by kernel_rfl) rfl (fun W hW => by obtain ⟨h0, h1, h2, h3, h4⟩ := hW; simp [execOp, Act.eval, HSL.out]) zH0 ?_
        simp only [FL]
        refine hr_call_w 4 (some 31) 127 #[.slice so (vn - 1) sc] rfl rfl (by kernel_rfl) rfl (by go_simp) (fun v w' => ∃ ro rc, v = .slice ro (vn - 1) rc ∧ (SlT w' ⟨ro, vn - 1, rc, ys⟩) ∧ Below zv0.heap.size zv0 w') ((bcloneT_any zv0 so (vn - 1) sc ys (SS.below zE0) (by omega)).mono (by
          rintro e w' ⟨ro, rc, rfl, F, C⟩
          exact ⟨_, rfl, ro, rc, rfl, F, C⟩)) ?_
        rintro v zv1 ⟨ro, rc, rfl, zF0, zC0⟩
        have zE1 := zE0.trans (zC0.mono zE0.size)
        have zH1 := zHS.out zv1 zE1
        refine ⟨zH1, ?_⟩
        simp only [FL]
        refine hr_take_w 5 (some 32) (.agg #[.string k.row, .string k.fam, .string k.qual, .int .u64 k.time, .slice ro (vn - 1) rc, .bool false]) rfl rfl (by kernel_rfl) (by kernel_rfl) (by kernel_rfl) rfl (fun W hW => by obtain ⟨h0, h1, h2, h3, h4⟩ := hW; go_simp) zH1 ?_
        simp only [FL]
        have B6 := B5.trans (zE1.mono B5.size)
        have R6 := arr_below R5 zE1
        have r0 : zv1.cell? ⟨w.heap.size + 1, 0, none⟩ = some (.string ⟨#[]⟩) := R6.cell 0
        have f0 := R6.free 0
        have r1 : zv1.cell? ⟨w.heap.size + 1, 1, none⟩ = some (.string ⟨#[]⟩) := R6.cell 1
        have f1 := R6.free 1
        have r2 : zv1.cell? ⟨w.heap.size + 1, 2, none⟩ = some (.string ⟨#[]⟩) := R6.cell 2
        have f2 := R6.free 2
        have r3 : zv1.cell? ⟨w.heap.size + 1, 3, none⟩ = some (.int .u64 0) := R6.cell 3
        have f3 := R6.free 3
        have r4 : zv1.cell? ⟨w.heap.size + 1, 4, none⟩ = some (.slice none 0 0) := R6.cell 4
        have f4 := R6.free 4
        have r5 : zv1.cell? ⟨w.heap.size + 1, 5, none⟩ = some (.bool false) := R6.cell 5
        have f5 := R6.free 5
        have KW : Wr (w.heap.size + 1) zv1 ((((((zv1.setCell ⟨w.heap.size + 1, 0, none⟩ (.string k.row)).setCell ⟨w.heap.size + 1, 1, none⟩ (.string k.fam)).setCell ⟨w.heap.size + 1, 2, none⟩ (.string k.qual)).setCell ⟨w.heap.size + 1, 3, none⟩ (.int .u64 k.time)).setCell ⟨w.heap.size + 1, 4, none⟩ (.slice ro (vn - 1) rc)).setCell ⟨w.heap.size + 1, 5, none⟩ (.bool false)) := ((((((((Wr.refl _ _).set 0 _).set 1 _).set 2 _).set 3 _).set 4 _).set 5 _))
        have zH2 : ((((((zv1.setCell ⟨w.heap.size + 1, 0, none⟩ (.string k.row)).setCell ⟨w.heap.size + 1, 1, none⟩ (.string k.fam)).setCell ⟨w.heap.size + 1, 2, none⟩ (.string k.qual)).setCell ⟨w.heap.size + 1, 3, none⟩ (.int .u64 k.time)).setCell ⟨w.heap.size + 1, 4, none⟩ (.slice ro (vn - 1) rc)).setCell ⟨w.heap.size + 1, 5, none⟩ (.bool false)).cell? ⟨w.heap.size, 1, none⟩ = some (.slice (some ⟨vb, vf, none⟩) vn vc) ∧ ((((((zv1.setCell ⟨w.heap.size + 1, 0, none⟩ (.string k.row)).setCell ⟨w.heap.size + 1, 1, none⟩ (.string k.fam)).setCell ⟨w.heap.size + 1, 2, none⟩ (.string k.qual)).setCell ⟨w.heap.size + 1, 3, none⟩ (.int .u64 k.time)).setCell ⟨w.heap.size + 1, 4, none⟩ (.slice ro (vn - 1) rc)).setCell ⟨w.heap.size + 1, 5, none⟩ (.bool false)).cell? ⟨w3.heap.size, 0, none⟩ = some (.string k.row) ∧ ((((((zv1.setCell ⟨w.heap.size + 1, 0, none⟩ (.string k.row)).setCell ⟨w.heap.size + 1, 1, none⟩ (.string k.fam)).setCell ⟨w.heap.size + 1, 2, none⟩ (.string k.qual)).setCell ⟨w.heap.size + 1, 3, none⟩ (.int .u64 k.time)).setCell ⟨w.heap.size + 1, 4, none⟩ (.slice ro (vn - 1) rc)).setCell ⟨w.heap.size + 1, 5, none⟩ (.bool false)).cell? ⟨w3.heap.size, 1, none⟩ = some (.string k.fam) ∧ ((((((zv1.setCell ⟨w.heap.size + 1, 0, none⟩ (.string k.row)).setCell ⟨w.heap.size + 1, 1, none⟩ (.string k.fam)).setCell ⟨w.heap.size + 1, 2, none⟩ (.string k.qual)).setCell ⟨w.heap.size + 1, 3, none⟩ (.int .u64 k.time)).setCell ⟨w.heap.size + 1, 4, none⟩ (.slice ro (vn - 1) rc)).setCell ⟨w.heap.size + 1, 5, none⟩ (.bool false)).cell? ⟨w3.heap.size, 2, none⟩ = some (.string k.qual) ∧ ((((((zv1.setCell ⟨w.heap.size + 1, 0, none⟩ (.string k.row)).setCell ⟨w.heap.size + 1, 1, none⟩ (.string k.fam)).setCell ⟨w.heap.size + 1, 2, none⟩ (.string k.qual)).setCell ⟨w.heap.size + 1, 3, none⟩ (.int .u64 k.time)).setCell ⟨w.heap.size + 1, 4, none⟩ (.slice ro (vn - 1) rc)).setCell ⟨w.heap.size + 1, 5, none⟩ (.bool false)).cell? ⟨w3.heap.size, 3, none⟩ = some (.int .u64 k.time) := ⟨KW.cell zH1.1 (by show w.heap.size ≠ _; omega), KW.cell zH1.2.1 (by show w3.heap.size ≠ _; omega), KW.cell zH1.2.2.1 (by show w3.heap.size ≠ _; omega), KW.cell zH1.2.2.2.1 (by show w3.heap.size ≠ _; omega), KW.cell zH1.2.2.2.2 (by show w3.heap.size ≠ _; omega)⟩
        refine hr_skip 6 none (w' := ((((((zv1.setCell ⟨w.heap.size + 1, 0, none⟩ (.string k.row)).setCell ⟨w.heap.size + 1, 1, none⟩ (.string k.fam)).setCell ⟨w.heap.size + 1, 2, none⟩ (.string k.qual)).setCell ⟨w.heap.size + 1, 3, none⟩ (.int .u64 k.time)).setCell ⟨w.heap.size + 1, 4, none⟩ (.slice ro (vn - 1) rc)).setCell ⟨w.heap.size + 1, 5, none⟩ (.bool false))) rfl rfl (by kernel_rfl) rfl (by go_simp) zH2 ?_
        simp only [Act.put]
        refine hr_take_w 7 (some 3) (.int .i64 0) rfl rfl (by kernel_rfl) (by kernel_rfl) (by kernel_rfl) rfl (fun W hW => by obtain ⟨h0, h1, h2, h3, h4⟩ := hW; go_simp) zH2 ?_
        simp only [FL]
        refine wpAnyH_done (by kernel_rfl) ?_ _
        refine NoPanic.normal ?_
        have SY := zF0.kp (KpB.wr R6 (by decide) KW)
        have BX := Wr.below B6 KW B6.size (Nat.le_succ _)
        go_wp2
        exact bodyPost_ret (v := .tuple #[.agg #[.string k.row, .string k.fam, .string k.qual, .int .u64 k.time, .slice ro (vn - 1) rc, .bool false], .int .i64 0]) (by simp [results, Tryz.results89, go_sem, r0, r1, r2, r3, r4, r5]) rfl ⟨⟨k.row, k.fam, k.qual, k.time, ⟨ro, vn - 1, rc, ys⟩, false⟩, 0, rfl, .inr (.inl ⟨HRD.out, hko.time, rfl, .inr ⟨HY.out, hyl, rfl⟩⟩), ⟨hko.row, hko.fam, hko.qual, hko.time, SY.1⟩, SY, BX⟩
end Go.Proofs.YtlljmhcgjkolpaaGreatDoor
namespace Go
theorem exec_copy {P : Program} {a : Act} {w w' : World} {o : Oper} {d s : Operand} {t t' ty : TypeId} {v u v' : Value} (ho : o.op = .call { callee := .builtin .copy, args := #[d, s], argTypes := #[t, t'] }) (hd : a.eval d = v) (hs : a.eval s = u) (ht : o.type = ty)
    (hr : (Builtin.copy_ #[t, t'] ty #[v, u]).run P w = .ok v' w') : (execOp a.eval o).run P w = .ok (.value v') w' := by
  unfold execOp
  simp only [ho, ht, resolve, invoke, builtin, Sem.run_bind, Sem.run_pure, Result.andThen_ok, List.map_toArray, List.map_cons, List.map_nil, hd, hs, hr]
end Go
namespace Go.Proofs.YtlljmhcgjkolpaaGreatDoor
open Go.RowKit
set_option maxRecDepth 100000 in
set_option maxHeartbeats 4000000 in
theorem pmul64_one (w : World) : Calls Tryz.prog 168 #[.int .u64 1, .int .u64 33] w fun e w' => e = .returned (.tuple #[.int .u64 0, .int .u64 33]) ∧ w' = w := by
  go_enter Tryz.func168, Tryz.ntmps168
  go_wp2
  go_ret2
  exact ⟨rfl, rfl⟩
set_option maxRecDepth 100000 in
set_option maxHeartbeats 4000000 in
theorem pmul_one (w : World) : Calls Tryz.prog 149 #[.int .u64 1, .int .u64 33] w fun e w' => e = .returned (.tuple #[.int .u64 0, .int .u64 33]) ∧ w' = w := by
  go_enter Tryz.func149, Tryz.ntmps149
  go_wp2_with fail
  refine (pmul64_one w).mono ?_
  rintro e w' ⟨rfl, hw⟩
  obtain rfl := hw.symm
  go_wp2
  go_ret2
  exact ⟨rfl, rfl⟩
set_option maxRecDepth 100000 in
set_option maxHeartbeats 4000000 in
theorem prep_any (w : World) (ad : Addr) (h : Sl w (some ad) 1 1 [255]) :
    Calls Tryz.prog 121 #[.slice (some ad) 1 1, .int .i64 33] w fun e w' => ∃ ao n c, e = .returned (.slice ao n c) ∧ Sl w' ao n c (List.replicate 33 255) ∧ Below w.heap.size w w' := by
  obtain ⟨cs, hrunM, hle, _⟩ := Lib.run_makeNoZero (P := Tryz.prog) w #[3] 25 5 Tryz.underlying25 33 (by omega)
  have hcall : (callFunc 150 #[.int .i64 33]).run Tryz.prog w = .ok (.value (.slice (some ⟨w.heap.size, 0, none⟩) 33 cs.size)) ((w.alloc (.cells cs 5)).drewN 2) := by
    rw [run_callFunc_extern Tryz.func150 (by kernel_rfl) (by kernel_rfl) (by kernel_rfl) (e := Extern.BytealgMakeNoZero.makeNoZero #[3] #[25]) (by kernel_rfl)]
    have e33 : ((33 : Nat) : Int) = 33 := rfl
    rw [e33] at hrunM
    rw [hrunM]
    rfl
  clear hrunM
  have hle2 : (33 : Int) ≤ (cs.size : Int) := by omega
  go_enter Tryz.func121, Tryz.ntmps121
  go_wp2_with fail
  refine (pmul_one w).mono ?_
  rintro e w' ⟨rfl, hw⟩
  obtain rfl := hw.symm
  have e0 : ((w.alloc (.cells cs 5)).drewN 2).heap[w.heap.size]? = some (.cells cs.toList.toArray 5 (0, 0)) := by simpa using heap_alloc_new w (.cells cs 5)
  have B0 : Below w.heap.size w ((w.alloc (.cells cs 5)).drewN 2) := belN ((Below.refl _ w).alloc (Nat.le_refl _) _) 2
  have c0 : ((w.alloc (.cells cs 5)).drewN 2).cell? (ad.add 0) = some (.int .u8 255) := by
    have := (h.below B0).cell ad rfl 0 (by omega)
    simpa using this
  obtain ⟨w3, hr, H3, B3⟩ : ∃ w3, (Builtin.copy_ #[25, 25] 3 #[.slice (some ⟨w.heap.size, 0, none⟩) 33 33, .slice (some ad) 1 1]).run Tryz.prog ((w.alloc (.cells cs 5)).drewN 2) = .ok (.int .i64 1) w3 ∧ Hid (w3.heap[w.heap.size]? = some (.cells (splice cs.toList 0 [Value.int .u8 255]).toArray 5 (0, 0))) ∧ Below w.heap.size w w3 := by
    have hrun := run_copy_row (P := Tryz.prog) ((w.alloc (.cells cs 5)).drewN 2) 25 25 3 5 w.heap.size 0 33 33 ad 1 1 cs.toList.toArray 5 [.int .u8 255] Tryz.underlying25 (by kernel_rfl) e0 rfl (fun j v hj => by
      cases j with
      | zero => simp at hj; subst hj; exact c0
      | succ j => simp at hj) (by simp; omega) (by intro v hv; rw [List.mem_singleton.1 hv]; rfl)
    exact ⟨_, hrun, (show _ = _ by simpa [splice] using setRow_heap _ w.heap.size _ _ 5 _ e0), below_setRow B0 (Nat.le_refl _) _⟩
  have L3 : (splice cs.toList 0 [Value.int .u8 255]).length = cs.size := by rw [length_splice _ _ _ (by simp; omega)]; simp
  have T3 : (splice cs.toList 0 [Value.int .u8 255]).take 1 = List.replicate 1 (.int .u8 255) := by simp [splice]
  obtain ⟨cur3, hcur⟩ : ∃ c, c = splice cs.toList 0 [Value.int .u8 255] := ⟨_, rfl⟩
  rw [← hcur] at H3 L3 T3
  have HT3 : Hid (cur3.take 1 = List.replicate 1 (.int .u8 255)) := T3
  clear hcur T3 c0 e0 B0
  obtain ⟨N, hN⟩ : ∃ N, N = w.heap.size := ⟨_, rfl⟩
  go_wp2_with fail
  clear hr hcall
  rw [← hN] at H3 B3 ⊢
  have HN : Hid (N = w.heap.size) := hN
  clear hN
  go_loopw [10, 11] (fun i _ wr => ∃ (j : Nat) (cur : List Value), 1 ≤ j ∧ j ≤ 33 ∧ i = .int .i64 j ∧ Hid (wr.heap[N]? = some (.cells cur.toArray 5 (0, 0))) ∧ 33 ≤ cur.length ∧ Hid (cur.take j = List.replicate j (.int .u8 255)) ∧ Below N w wr) (fun i _ _ => 33 - (intOf i).toNat)
  case atStart => exact ⟨1, cur3, by omega, by omega, rfl, H3, by omega, HT3, B3⟩
  case round =>
    clear H3 HT3 B3
    obtain ⟨j, cur, h1, h33, rfl, H, hl, T, B⟩ := hrel
    by_cases l : j < 33
    · have il : (j : Int) < 33 := by omega
      have il2 : (j : Int) ≤ 33 := by omega
      obtain ⟨m, hm⟩ : ∃ m, m = Nat.min j (33 - j) := ⟨_, rfl⟩
      have hm1 : 1 ≤ m ∧ m ≤ j ∧ j + m ≤ 33 := by rw [hm]; simp only [Nat.min_def]; split <;> omega
      have HH := H.out
      have HT := T.out
      have q : ∀ i, i < j → wr.drew.cell? ⟨N, i, none⟩ = some (.int .u8 255) := fun i hi => by
        have e : wr.drew.heap[N]? = some (.cells cur.toArray 5 (0, 0)) := HH
        rw [cell_of_row wr.drew N i _ _ _ e]
        have h2 : (cur.take j)[i]? = (List.replicate j (Value.int .u8 255))[i]? := by rw [HT]
        rw [List.getElem?_take_of_lt hi] at h2
        simpa [hi] using h2
      obtain ⟨w4, hr, H4, B4⟩ : ∃ w4, (Builtin.copy_ #[25, 25] 3 #[.slice (some ⟨N, j, none⟩) (33 - j) (33 - j), .slice (some ⟨N, 0, none⟩) j 33]).run Tryz.prog wr.drew = .ok (.int .i64 m) w4 ∧ Hid (w4.heap[N]? = some (.cells (splice cur j (List.replicate m (Value.int .u8 255))).toArray 5 (0, 0))) ∧ Below N w w4 := by
        have e : wr.drew.heap[N]? = some (.cells cur.toArray 5 (0, 0)) := HH
        have hrun := run_copy_row (P := Tryz.prog) wr.drew 25 25 3 5 N j (33 - j) (33 - j) ⟨N, 0, none⟩ j 33 cur.toArray 5 (List.replicate m (Value.int .u8 255)) Tryz.underlying25 (by kernel_rfl) e (by rw [List.length_replicate]; exact hm) (fun i v hi => by
          have hi2 : i < m := by
            have := (List.getElem?_eq_some_iff.1 hi).1
            simpa using this
          have hv : v = .int .u8 255 := by simpa [hi2] using hi.symm
          rw [hv, Addr.add_lit, Nat.zero_add]
          exact q i (by omega)) (by simp; omega) (by intro v hv; rw [List.eq_of_mem_replicate hv]; rfl)
        rw [List.length_replicate] at hrun
        exact ⟨_, hrun, (show _ = _ by simpa [splice] using setRow_heap _ N _ _ 5 _ e), below_setRow B.drew (Nat.le_refl _) _⟩
      have L4 : 33 ≤ (splice cur j (List.replicate m (Value.int .u8 255))).length := by rw [length_splice _ _ _ (by simp; omega)]; omega
      have T4 : Hid ((splice cur j (List.replicate m (Value.int .u8 255))).take (j + m) = List.replicate (j + m) (.int .u8 255)) := by
        show _ = _
        have hjl : (cur.take j).length = j := by rw [List.length_take]; omega
        unfold splice
        rw [HT, ← List.append_assoc, List.replicate_append_replicate, List.take_append_of_le_length (by simp), List.take_of_length_le (by simp)]
      obtain ⟨cur4, hc4⟩ : ∃ c, c = splice cur j (List.replicate m (Value.int .u8 255)) := ⟨_, rfl⟩
      rw [← hc4] at H4 L4 T4
      clear hc4 H T q HH HT hm
      have e1 : ((j : Int) + (m : Int)) ≤ 33 := by omega
      have e0 : (0 : Int) ≤ (j : Int) := by omega
      have z1 : ¬ 33 = j := by omega
      have z2 : ¬ j = 0 := by omega
      go_wp2_with fail
      refine wp_region_noPanic ?_
      refine wp_region_held_drew (S := fun _ => True) (by kernel_rfl) trivial (fun _ => ?_)
      refine hr_take 0 (some 67) (.int .i64 j) rfl rfl (by kernel_rfl) (by kernel_rfl) (by kernel_rfl) rfl (fun W _ => by go_simp) trivial ?_
      simp only [FL]
      refine hr_take 1 (some 68) (.slice (some ⟨N, 0, none⟩) 33 33) rfl rfl (by kernel_rfl) (by kernel_rfl) (by kernel_rfl) rfl (fun W _ => by go_simp) trivial ?_
      simp only [FL]
      refine hr_take 2 (some 69) (.int .i64 j) rfl rfl (by kernel_rfl) (by kernel_rfl) (by kernel_rfl) rfl (fun W _ => by go_simp) trivial ?_
      simp only [FL]
      refine hr_take 3 (some 70) (.slice (some ⟨N, j, none⟩) (33 - j) (33 - j)) rfl rfl (by kernel_rfl) (by kernel_rfl) (by kernel_rfl) rfl (fun W _ => by go_simp) trivial ?_
      simp only [FL]
      refine hr_take 4 (some 71) (.slice (some ⟨N, 0, none⟩) 33 33) rfl rfl (by kernel_rfl) (by kernel_rfl) (by kernel_rfl) rfl (fun W _ => by go_simp) trivial ?_
      simp only [FL]
      refine hr_take 5 (some 72) (.int .i64 j) rfl rfl (by kernel_rfl) (by kernel_rfl) (by kernel_rfl) rfl (fun W _ => by go_simp) trivial ?_
      simp only [FL]
      refine hr_take 6 (some 73) (.slice (some ⟨N, 0, none⟩) j 33) rfl rfl (by kernel_rfl) (by kernel_rfl) (by kernel_rfl) rfl (fun W _ => by go_simp) trivial ?_
      simp only [FL]
      refine hr_do 7 (some 74) (.int .i64 m) rfl rfl (by kernel_rfl) rfl (w' := w4) (exec_copy rfl rfl rfl rfl hr) trivial ?_
      simp only [FL]
      refine hr_take 8 (some 75) (.int .i64 ((j + m : Nat) : Int)) rfl rfl (by kernel_rfl) (by kernel_rfl) (by kernel_rfl) rfl (fun W _ => by (go_simp; rw [IntKind.wrap_i64]; omega)) trivial ?_
      simp only [FL]
      refine hr_take 9 (some 10) (.int .i64 ((j + m : Nat) : Int)) rfl rfl (by kernel_rfl) (by kernel_rfl) (by kernel_rfl) rfl (fun W _ => by go_simp) trivial ?_
      simp only [FL]
      refine wpAnyH_done (by kernel_rfl) ?_ _
      refine NoPanic.normal ?_
      go_wp2
      go_roundw
      case rel => exact ⟨j + m, cur4, by omega, by omega, rfl, H4, L4, T4, B4⟩
      case measure => simp [intOf]; omega
    · obtain rfl : j = 33 := by omega
      have S : Sl wr (some ⟨N, 0, none⟩) 33 33 (List.replicate 33 255) := by
        refine ⟨by simp, Nat.le_refl _, by decide, fun h => by simp at h, fun a ha i hi => ?_, fun x hx => by have := List.eq_of_mem_replicate hx; omega⟩
        obtain rfl := Option.some.inj ha
        rw [Addr.add_lit, Nat.zero_add, cell_of_row wr N i _ _ _ H.out]
        have h2 : (cur.take 33)[i]? = (List.replicate 33 (Value.int .u8 255))[i]? := by rw [T.out]
        have h3 : (List.replicate 33 (255 : Int)).getD i 0 = 255 := by rw [List.getD, List.getElem?_replicate, if_pos hi]; rfl
        rw [List.getElem?_take_of_lt hi, List.getElem?_replicate, if_pos hi] at h2
        rw [h3, ← h2]
        simp
      clear H T
      go_wp2
      go_ret
      exact ⟨_, _, _, rfl, S, by rw [← HN.out]; exact B⟩
open Go.RowKit
set_option maxHeartbeats 2000000 in
set_option maxRecDepth 100000 in
theorem prows_any (w : World) (f t : ByteArray) (h1 : f.size ≤ 32) (h2 : t.size ≤ 32) :
    Calls Tryz.prog 87 #[.string f, .string t] w fun e w' => ∃ ao n c bo m d, e = .returned (.tuple #[.slice ao n c, .slice bo m d, .int .i64 0]) ∧ Sl w' ao n c (nm (sb f)) ∧ Sl w' bo m d (hiL (sb t)) ∧ Below w.heap.size w w' := by
  have i1 : (f.size : Int) ≤ 32 := by omega
  have i2 : (t.size : Int) ≤ 32 := by omega
  go_enter Tryz.func87, Tryz.ntmps87
  go_wp2_with fail
  refine (pname_any w w.heap.size _ 0 [] f (World.ownsRow_nil _ _ _ _) (Nat.le_refl _) (by omega) (by omega)).mono ?_
  rintro e w1 ⟨v1, rfl, O1, B1⟩
  rw [Nat.zero_add, List.nil_append] at O1
  obtain ⟨ao, c, rfl, S1, -⟩ := Sl.own O1 (nm_byte _ (sb_byte f))
  clear O1
  have s1 := B1.size
  go_wp2_with fail
  refine (pname_any w1 w1.heap.size _ 0 [] t (World.ownsRow_nil _ _ _ _) (Nat.le_refl _) (by omega) (by omega)).mono ?_
  rintro e w2 ⟨v2, rfl, O2, C2⟩
  rw [Nat.zero_add, List.nil_append] at O2
  obtain ⟨bo, d, rfl, S2, -⟩ := Sl.own O2 (nm_byte _ (sb_byte t))
  have S1' := S1.below C2
  have B2 := B1.trans (C2.mono s1)
  have s2 := B2.size
  clear O2 C2 S1 B1
  by_cases ht : t.size = 0
  · have et := empty_of ht
    have e0 : (t.toList == (ByteArray.mk #[]).toList) = true := by rw [et]; simp
    have ee : t.toList.isEmpty = true := by rw [toE]; exact decide_eq_true ht
    have hh : hiL (sb t) = List.replicate 33 255 := by unfold hiL; rw [if_pos (sb_nil ht)]
    have HH : Hid (hiL (sb t) = List.replicate 33 255) := hh
    have S0 : Sl (w2.alloc (.cells #[.int .u8 255] 5)) (some ⟨w2.heap.size, 0, none⟩) 1 1 [255] := Sl.one w2 255 (by omega)
    clear et e0 hh
    go_wp2_with fail
    refine (prep_any _ _ S0).mono ?_
    rintro e w3 ⟨go, gn, gc, rfl, S3, C3⟩
    have C0 : Below w2.heap.size w2 (w2.alloc (.cells #[.int .u8 255] 5)) := (Below.refl _ w2).alloc (Nat.le_refl _) _
    have B : Below w2.heap.size w2 w3 := C0.trans (C3.mono C0.size)
    have S4 : Sl w3 go gn gc (hiL (sb t)) := by rw [HH.out]; exact S3
    clear S3 HH
    go_wp2
    go_ret3
    exact ⟨_, _, _, _, _, _, rfl, S1'.below B, S4, B2.trans (B.mono s2)⟩
  · have e0 : (t.toList == (ByteArray.mk #[]).toList) = false := toL_ne (fun h => ht (by rw [h]; rfl))
    have e1 : (t.toList == []) = false := by rw [← e0]; congr 1; simp
    have ee : t.toList.isEmpty = false := by rw [toE]; exact decide_eq_false ht
    have hh : hiL (sb t) = nm (sb t) := by
      unfold hiL
      rw [if_neg (fun h => ht (by rw [← sb_len, h]; rfl))]
    have S3 : Sl w2 bo (nm (sb t)).length d (hiL (sb t)) := by rw [hh]; exact S2
    go_wp2
    go_ret3
    exact ⟨_, _, _, _, _, _, rfl, S1', S3, B2⟩
open Go.RowKit
theorem run_append_own2 {P : Program} (w : World) (base : Nat) (t ty e : TypeId) (i : TypeInfo) (z : Value) (size bytes : Nat) (ht : P.underlying t = some (.slice e)) (hi : P.info? e = some i) (hz : i.zero = some z)
    (hsize : i.size = size) (hby : i.bytes = bytes) (hzs : z.cells.size = size) (hsz : 0 < size)
    (v : Value) (n : Nat) (xs : List Value) (hown : w.ownsRow base e size v n xs)
    (a : Addr) (m c : Nat) (news : List Value) (hl : news.length = m * size) (hnews : ∀ j u, news[j]? = some u → w.cell? (a.add j) = some u) (h1 : ∀ u ∈ news, u.oneCell' = true)
    (h63 : n + m ≤ maxLen) (hbytes : (n + m) * bytes ≤ 140737488355328) (hbase : base ≤ w.heap.size) :
    ∃ v' w', (Builtin.append_ #[t, t] ty #[v, .slice (some a) m c]).run P w = .ok v' w' ∧ w'.ownsRow base e size v' (n + m) (xs ++ news) ∧ w.grownBy w' v.ownBlock ∧
      ∀ g, v'.ownBlock = some g → v.ownBlock = some g ∨ w.heap.size ≤ g := by
  obtain ⟨v', w', hr, ho, hg, _⟩ := run_append_own (P := P) w base t ty e i z size bytes ht hi hz hsize hby hzs hsz v n xs hown a m c news hl hnews h1 h63 hbytes hbase
  refine ⟨v', w', hr, ho, hg, ?_⟩
  have hsmall : n + m ≤ 9223372036854775807 := by simp only [maxLen] at h63; omega
  subst hsize
  subst hby
  rcases hown.2 with ⟨rfl, rfl⟩ | ⟨g, cap, cur, rfl, hbg, hgc, hnc, hcm, hcs, htake⟩
  · have hown2 : w.ownsRow w.heap.size e i.size (.slice none 0 0) 0 xs := ⟨hown.1, .inl ⟨rfl, rfl⟩⟩
    obtain ⟨v2, w2, hr2, ho2, _, _⟩ := run_append_own (P := P) w w.heap.size t ty e i z i.size i.bytes ht hi hz rfl rfl hzs hsz _ 0 xs hown2 a m c news hl hnews h1 h63 hbytes (Nat.le_refl _)
    rw [hr] at hr2
    simp only [Result.ok.injEq] at hr2
    obtain ⟨rfl, rfl⟩ := hr2
    intro g hgv
    exact .inr (ho2.lt g hgv).1
  · by_cases hroom : n + m ≤ cap
    · have hfit : n * i.size + news.length ≤ cur.size := by rw [hl, hcs, ← Nat.add_mul]; exact Nat.mul_le_mul_right _ hroom
      have hr2 := run_append_room (P := P) w t ty e i ht hi g n cap cur hgc a m c news hl hnews h1 hroom hfit
      rw [hr] at hr2
      simp only [Result.ok.injEq] at hr2
      obtain ⟨rfl, rfl⟩ := hr2
      intro g' hg'
      exact .inl hg'
    · have holds : ∀ j u, xs[j]? = some u → w.cell? ((⟨g, 0, none⟩ : Addr).add j) = some u := hown.cells (g := g) rfl
      have hr2 := run_append_grow (P := P) w t ty e i z ht hi hz ⟨g, 0, none⟩ n cap xs hown.1 holds a m c news hl hnews (by omega) (by omega) (growslice_fits (by omega) hbytes)
      rw [hr] at hr2
      simp only [Result.ok.injEq] at hr2
      obtain ⟨rfl, rfl⟩ := hr2
      intro g' hg'
      simp only [Value.ownBlock, Option.some.injEq] at hg'
      exact .inr (by omega)
theorem own_kept {w w' : World} {base : Nat} {e : TypeId} {size : Nat} {v : Value} {n : Nat} {xs : List Value} (h : w.ownsRow base e size v n xs) (hb : ∀ g, v.ownBlock = some g → w'.heap[g]? = w.heap[g]?) : w'.ownsRow base e size v n xs := by
  refine ⟨h.1, ?_⟩
  rcases h.2 with c | ⟨g, cap, cur, rfl, a1, a2, a3, a4, a5, a6⟩
  · exact .inl c
  · exact .inr ⟨g, cap, cur, rfl, a1, (hb g rfl).trans a2, a3, a4, a5, a6⟩
open Go.RowKit
theorem cellInfo : (Tryz.prog.info? 33).map (fun i => (i.zero, i.size, i.bytes)) = some (some (.agg #[.string ⟨#[]⟩, .string ⟨#[]⟩, .string ⟨#[]⟩, .int .u64 0, .slice none 0 0, .bool false]), 6, 88) := by kernel_rfl
theorem flat_get {α : Type} (f : α → List Value) (s : Nat) (hs : ∀ x, (f x).length = s) : ∀ (l : List α) (i j : Nat) (hi : i < l.length), j < s → (l.map f).flatten[i * s + j]? = (f l[i])[j]?
  | [], i, _, hi, _ => by simp at hi
  | a :: l, 0, j, _, hj => by
    rw [List.map_cons, List.flatten_cons, Nat.zero_mul, Nat.zero_add, List.getElem?_append_left (by rw [hs]; exact hj)]
    rfl
  | a :: l, i + 1, j, hi, hj => by
    have e : (i + 1) * s + j = s + (i * s + j) := by rw [Nat.add_mul]; omega
    rw [List.map_cons, List.flatten_cons, e, List.getElem?_append_right (by rw [hs]; omega), hs, Nat.add_sub_cancel_left]
    exact flat_get f s hs l i j (by simpa using hi) hj
theorem flat_len {α : Type} (f : α → List Value) (s : Nat) (hs : ∀ x, (f x).length = s) : ∀ l : List α, (l.map f).flatten.length = l.length * s
  | [] => by simp
  | a :: l => by
    rw [List.map_cons, List.flatten_cons, List.length_append, hs, flat_len f s hs l, List.length_cons, Nat.add_mul]
    omega
def cellsC (l : List CA) : List Value := (l.map CA.cells).flatten
theorem CL.own {w : World} {base : Nat} {v : Value} {n : Nat} {l : List CA} (h : w.ownsRow base 33 6 v n (cellsC l)) (hok : ∀ o ∈ l, o.ok w) : ∃ ao cap, v = .slice ao n cap ∧ CL w ao n cap l := by
  have hl : l.length = n := by
    have := h.1
    unfold cellsC at this
    rw [flat_len CA.cells 6 (fun _ => rfl)] at this
    omega
  rcases h.2 with ⟨rfl, rfl⟩ | ⟨g, cap, cur, rfl, a1, a2, a3, a4, a5, a6⟩
  · exact ⟨none, 0, rfl, hl, Nat.le_refl _, Nat.zero_le _, fun _ => ⟨rfl, rfl⟩, fun _ h => by simp at h, fun y hy => hok y hy⟩
  · refine ⟨some ⟨g, 0, none⟩, cap, rfl, hl, a3, a4, fun h => by simp at h, fun a ha i hi j u hu => ?_, fun y hy => hok y hy⟩
    obtain rfl := Option.some.inj ha
    have hj : j < 6 := (List.getElem?_eq_some_iff.1 hu).1
    refine h.cells (g := g) rfl (i * 6 + j) u ?_
    unfold cellsC
    rw [flat_get CA.cells 6 (fun _ => rfl) l i j hi hj]
    exact hu
theorem c_one (y : CA) : ∀ u ∈ y.cells, u.oneCell' = true := by
  intro u hu
  unfold CA.cells at hu
  simp only [List.mem_cons, List.not_mem_nil, or_false] at hu
  rcases hu with rfl | rfl | rfl | rfl | rfl | rfl <;> rfl
end Go.Proofs.YtlljmhcgjkolpaaGreatDoor

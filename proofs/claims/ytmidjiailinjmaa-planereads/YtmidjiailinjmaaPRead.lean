/-
  The program's Read.
-/
import Derived.Test.YtmidjiailinjmaaPRow
namespace Go.Proofs.Ytmidjiailinjmaa
open Go.RowKit

/-- The place of a text, or none. -/
def rdL (xs : List Int) : Option (Nat × Nat) :=
  if xs.length = 7 ∧ xs.getD 0 0 = 112 ∧ beN (xs.drop 1) 0 < 17592186044416 ∧ gat 22 (beN (xs.drop 1) 0 / 2) ≤ 2097152 ∧ gat 22 (beN (xs.drop 1) 0) ≤ 2097152 then some (gat 22 (beN (xs.drop 1) 0 / 2), gat 22 (beN (xs.drop 1) 0)) else none
def RdPost (e : Ending) : Option (Nat × Nat) → Prop
  | none => e = .returned (.tuple #[.complex .f64 0 0, .int .i64 5])
  | some p => e = .returned (.tuple #[.complex .f64 (fw ((p.1 : Int) - 1048576)) (fw ((p.2 : Int) - 1048576)), .int .i64 0])

theorem or_byte (L x : Nat) (hL : L < 72057594037927936) (hx : x < 256) : bits BinOp.or IntKind.u64 (IntKind.u64.wrap ((L : Int) * 256)) (IntKind.u64.wrap (x : Int)) = ((L * 256 + x : Nat) : Int) := by
  have h := bits_or_u64_nat (L * 256) x (by omega) (by omega)
  have e : L * 256 ||| x = L * 256 + x := by
    have := Nat.two_pow_add_eq_or_of_lt (i := 8) (b := x) (by omega) L
    rw [Nat.mul_comm]
    exact this.symm
  have e2 : (L : Int) * 256 = ((L * 256 : Nat) : Int) := by omega
  rw [← e, e2, IntKind.wrap_u64, IntKind.wrap_u64, Int.emod_eq_of_lt (by omega) (by omega), Int.emod_eq_of_lt (by omega) (by omega)]
  exact h
theorem rd_take (row : ByteArray) (j : Nat) (h : 1 + j < row.size) : ((sb row).drop 1).take (j + 1) = ((sb row).drop 1).take j ++ [(row[1 + j].toNat : Int)] := by
  have hl : j < ((sb row).drop 1).length := by rw [List.length_drop, sb_len]; omega
  rw [List.take_succ_eq_append_getElem hl]
  congr 2
  rw [List.getElem_drop]
  simp [sb, ByteArray.getElem_eq_getElem_data]
theorem rd_step (row : ByteArray) (j : Nat) (h7 : row.size = 7) (h : 1 + j < row.size) : bits BinOp.or IntKind.u64 (IntKind.u64.wrap (((beN (((sb row).drop 1).take j) 0 : Nat) : Int) * 256)) (IntKind.u64.wrap ((row[1 + j].toNat : Nat) : Int)) = ((beN (((sb row).drop 1).take (j + 1)) 0 : Nat) : Int) := by
  have hlt := beN_lt (((sb row).drop 1).take j) (((sb_byte row).drop 1).take j) 0
  have hl : (((sb row).drop 1).take j).length = j := by rw [List.length_take, List.length_drop, sb_len]; omega
  rw [hl] at hlt
  have hp : 256 ^ j ≤ 256 ^ 6 := Nat.pow_le_pow_right (by omega) (by omega)
  have hb : row[1 + j].toNat < 256 := by have := row[1 + j].toNat_lt; omega
  rw [or_byte _ _ (by omega) hb, rd_take row j h, beN_append]
  rfl
theorem rd_end (row : ByteArray) (h7 : row.size = 7) : ((sb row).drop 1).take 6 = (sb row).drop 1 := List.take_of_length_le (by rw [List.length_drop, sb_len]; omega)
theorem toL_ne {s t : ByteArray} (h : s ≠ t) : (s.toList == t.toList) = false := by
  rw [beq_eq_false_iff_ne]
  intro e
  apply h
  rw [ByteArray.toList_eq, ByteArray.toList_eq] at e
  exact ByteArray.ext (Array.toList_inj.1 e)
theorem num_gat (N : Nat) : num (gat 22 (N / 2)) (gat 22 N) = N % 17592186044416 := spr_gat 22 N
theorem rd_row (row : ByteArray) (h7 : row.size = 7) : sb row = (sb row).getD 0 0 :: be 6 (beN ((sb row).drop 1) 0) := by
  have hl : ((sb row).drop 1).length = 6 := by rw [List.length_drop, sb_len]; omega
  have := be_beN ((sb row).drop 1) ((sb_byte row).drop 1) 0
  rw [hl] at this
  rw [this]
  have h0 : 0 < (sb row).length := by rw [sb_len]; omega
  rw [List.getD_eq_getElem?_getD, List.getElem?_eq_getElem h0, Option.getD_some]
  exact List.drop_eq_getElem_cons h0
theorem rd_lt (row : ByteArray) (h7 : row.size = 7) : beN ((sb row).drop 1) 0 < 281474976710656 := by
  have hl : ((sb row).drop 1).length = 6 := by rw [List.length_drop, sb_len]; omega
  have := beN_lt ((sb row).drop 1) ((sb_byte row).drop 1) 0
  rw [hl] at this
  simpa using this
/-- The row of what was read is the row that was read, just where that is one. -/
theorem rd_own (row r : ByteArray) (h7 : row.size = 7) (N : Nat) (hN : N = beN ((sb row).drop 1) 0) (hr : sb r = 112 :: be 6 (num (gat 22 (N / 2)) (gat 22 N))) : r = row ↔ (sb row).getD 0 0 = 112 ∧ N < 17592186044416 := by
  have hrow := rd_row row h7
  have hlt := rd_lt row h7
  rw [← hN] at hrow hlt
  rw [num_gat] at hr
  constructor
  · intro h
    rw [h, hrow] at hr
    have e := List.cons.inj hr
    refine ⟨e.1, ?_⟩
    have := be_inj 6 _ _ e.2
    rw [show (256 : Nat) ^ 6 = 281474976710656 from rfl] at this
    omega
  · rintro ⟨h0, h1⟩
    refine sb_inj ?_
    rw [hr, hrow, h0, Nat.mod_eq_of_lt h1]
theorem rdL_none {xs : List Int} (h : xs.length ≠ 7) : rdL xs = none := if_neg (fun c => h c.1)

set_option maxHeartbeats 2000000 in
set_option maxRecDepth 100000 in
theorem pread_any (w : World) (row : ByteArray) :
    Calls Try.prog 5 #[.string row] w fun e w' => RdPost e (rdL (sb row)) ∧ Below w.heap.size w w' := by
  by_cases h7 : row.size = 7
  · have hz : (row.size : Int) = 7 := by omega
    obtain ⟨N, hN⟩ : ∃ N, N = beN ((sb row).drop 1) 0 := ⟨_, rfl⟩
    have HN : Hid (N = beN ((sb row).drop 1) 0) := hN
    have hlt : N < 281474976710656 := by rw [hN]; exact rd_lt row h7
    clear hN
    obtain ⟨X, hX⟩ : ∃ X, X = gat 22 (N / 2) := ⟨_, rfl⟩
    obtain ⟨Y, hY⟩ : ∃ Y, Y = gat 22 N := ⟨_, rfl⟩
    have HO : Hid (∀ r, sb r = 112 :: be 6 (num X Y) → (r = row ↔ (sb row).getD 0 0 = 112 ∧ N < 17592186044416)) := fun r hr => by
      rw [hX, hY] at hr
      exact rd_own row r h7 N HN.out hr
    have hXl : X < 4194304 := by rw [hX]; exact gat_lt 22 _
    have hYl : Y < 4194304 := by rw [hY]; exact gat_lt 22 _
    have G1 : Hid (∀ W, Calls Try.prog 10 #[.int .u64 ((N : Int) / 2)] W fun e w' => e = .returned (.float .f64 (fw ((X : Int) - 1048576))) ∧ w' = W) := fun W => by rw [hX, show (N : Int) / 2 = ((N / 2 : Nat) : Int) by omega]; exact pgather_any W (N / 2) (by omega)
    have G2 : Hid (∀ W, Calls Try.prog 10 #[.int .u64 (N : Int)] W fun e w' => e = .returned (.float .f64 (fw ((Y : Int) - 1048576))) ∧ w' = W) := fun W => by rw [hY]; exact pgather_any W N (by omega)
    have HR : Hid (rdL (sb row) = if (sb row).getD 0 0 = 112 ∧ N < 17592186044416 ∧ X ≤ 2097152 ∧ Y ≤ 2097152 then some (X, Y) else none) := by
      show _ = _
      unfold rdL
      rw [← HN.out, ← hX, ← hY, sb_len, h7]
      simp
    clear hX hY
    have HST : Hid (∀ j, ∀ h : 1 + j < row.size, j < 6 → bits BinOp.or IntKind.u64 (IntKind.u64.wrap (((beN (((sb row).drop 1).take j) 0 : Nat) : Int) * 256)) (IntKind.u64.wrap ((row[1 + j].toNat : Nat) : Int)) = ((beN (((sb row).drop 1).take (j + 1)) 0 : Nat) : Int)) := fun j h _ => rd_step row j h7 h
    have HE : Hid (beN (((sb row).drop 1).take 6) 0 = N) := by show _ = _; rw [rd_end row h7, HN.out]
    go_enter Try.func5, Try.ntmps5
    go_wp2_with fail
    go_loopw [4, 5, 12] (fun x _ i wr => wr = w ∧ ∃ j : Nat, j ≤ 6 ∧ i = .int .i64 j ∧ x = .int .u64 (beN (((sb row).drop 1).take j) 0 : Nat)) (fun _ _ i _ => 6 - (intOf i).toNat)
    case atStart => exact ⟨rfl, 0, by omega, rfl, rfl⟩
    case round =>
      obtain ⟨rfl, j, hj, rfl, rfl⟩ := hrel
      by_cases l : j < 6
      · have il : (j : Int) < 6 := by omega
        have i1 : (1 : Int) + j < row.size := by omega
        have HS0 := HST.out j (by omega) l
        obtain ⟨G, hG⟩ : ∃ G, G = beN (((sb row).drop 1).take j) 0 := ⟨_, rfl⟩
        rw [← hG] at HS0 ⊢
        have HS : Hid (bits BinOp.or IntKind.u64 (IntKind.u64.wrap ((G : Int) * 256)) (IntKind.u64.wrap ((row[1 + j].toNat : Nat) : Int)) = ((beN (((sb row).drop 1).take (j + 1)) 0 : Nat) : Int)) := HS0
        clear hG HS0
        go_wp2
        go_roundw
        case rel => exact ⟨trivial, j + 1, by omega, by go_num, by rw [HS.out]⟩
        case measure => simp [intOf]; omega
      · obtain rfl : j = 6 := by omega
        rw [HE.out]
        clear HE HST hj l
        go_wp2_with fail
        refine (G1.out wr).mono ?_
        rintro e w' ⟨rfl, hw⟩
        obtain rfl := hw.symm
        go_wp2_with fail
        refine (G2.out wr).mono ?_
        rintro e w' ⟨rfl, hw⟩
        obtain rfl := hw.symm
        have F1 := fv ((X : Int) - 1048576) (by omega)
        have F2 := fv ((Y : Int) - 1048576) (by omega)
        have HXY : Hid (inP ((X : Int) - 1048576) = decide (X ≤ 2097152) ∧ inP ((Y : Int) - 1048576) = decide (Y ≤ 2097152)) := by
          refine ⟨decide_eq_decide.2 ?_, decide_eq_decide.2 ?_⟩ <;> omega
        have HX2 : Hid (((X : Int) - 1048576 + 1048576).toNat = X ∧ ((Y : Int) - 1048576 + 1048576).toNat = Y) := by
          constructor <;> omega
        obtain ⟨m, hm⟩ : ∃ m, m = (X : Int) - 1048576 := ⟨_, rfl⟩
        obtain ⟨n, hn⟩ : ∃ n, n = (Y : Int) - 1048576 := ⟨_, rfl⟩
        rw [← hm, ← hn] at HXY HX2
        rw [← hm] at F1
        rw [← hn] at F2
        have HMN : Hid ((X : Int) - 1048576 = m ∧ (Y : Int) - 1048576 = n) := ⟨hm.symm, hn.symm⟩
        rw [← hm, ← hn]
        clear hm hn G1 G2
        obtain ⟨a, ha⟩ : ∃ a, a = fw m := ⟨_, rfl⟩
        obtain ⟨b, hb⟩ : ∃ b, b = fw n := ⟨_, rfl⟩
        rw [← ha] at F1 ⊢
        rw [← hb] at F2 ⊢
        have HAB : Hid (a = fw m ∧ b = fw n) := ⟨ha, hb⟩
        clear ha hb
        go_wp2_with fail
        by_cases hc : X ≤ 2097152 ∧ Y ≤ 2097152
        · refine (prow_any wr a b _ _ m n F1 F2 (by rw [HXY.out.1, HXY.out.2, decide_eq_true hc.1, decide_eq_true hc.2]; rfl)).mono ?_
          rintro e w2 ⟨⟨r, rfl, hr⟩, B2⟩
          rw [HX2.out.1, HX2.out.2] at hr
          have ho := HO.out r hr
          clear hr HO HX2 HXY F1 F2
          by_cases hq : r = row
          · have HR2 : Hid (rdL (sb row) = some (X, Y)) := by
              show _ = _
              rw [HR.out, if_pos ⟨(ho.1 hq).1, (ho.1 hq).2, hc.1, hc.2⟩]
            clear ho HR
            go_wp2
            go_ret2
            refine ⟨?_, B2⟩
            rw [HR2.out]
            show _ = _
            rw [HMN.out.1, HMN.out.2, ← HAB.out.1, ← HAB.out.2]
            rfl
          · have HR2 : Hid (rdL (sb row) = none) := by
              show _ = _
              rw [HR.out, if_neg (fun c => hq (ho.2 ⟨c.1, c.2.1⟩))]
            have hne := toL_ne hq
            clear ho HR
            go_wp2
            go_ret2
            exact ⟨by rw [HR2.out]; rfl, B2⟩
        · have HR2 : Hid (rdL (sb row) = none) := by
            show _ = _
            rw [HR.out, if_neg (fun c => hc ⟨c.2.2.1, c.2.2.2⟩)]
          have hbad : (inP m && inP n) = false := by
            rw [HXY.out.1, HXY.out.2]
            by_cases c : X ≤ 2097152
            · rw [decide_eq_true c, decide_eq_false (fun y => hc ⟨c, y⟩)]; rfl
            · rw [decide_eq_false c]; rfl
          refine (prow_bad wr a b _ _ m n F1 F2 hbad).mono ?_
          rintro e w2 ⟨rfl, hw⟩
          obtain rfl := hw.symm
          clear hbad HR
          go_wp2
          go_ret2
          exact ⟨by rw [HR2.out]; rfl, Below.refl _ _⟩
  · have HR : Hid (rdL (sb row) = none) := rdL_none (by rw [sb_len]; exact h7)
    have hz : ((row.size : Int) != 7) = true := by simp; omega
    go_enter Try.func5, Try.ntmps5
    go_wp2
    go_ret2
    exact ⟨by rw [HR.out]; rfl, Below.refl _ _⟩
end Go.Proofs.Ytmidjiailinjmaa

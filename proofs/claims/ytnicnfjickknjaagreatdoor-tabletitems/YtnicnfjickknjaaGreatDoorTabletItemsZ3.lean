/-
  Texts in one: PAdd, CBe, PName, PBytes, TbItem, Same, CCut, PCut, CKeys, PRead, PClone, TbCell, PRep, PRows, Own2, CellRow.
-/
import Derived.Test.YtnicnfjickknjaaGreatDoorTabletItemsZ2
import Derived.Deep.RegionLaw
import Derived.ChangeAlike
import Derived.Laws.Bits64b
import Derived.Test.YtnicnfjickknjaaGreatDoorTabletItemsZ0
import Derived.Deep.QuietTactic
import Derived.BigQuiet
import Derived.Test.YtnicnfjickknjaaGreatDoorTabletItemsZ1
import Derived.Deep.LoopGhost
import Derived.Lib.SliceRun
import Derived.Laws.CopyOwn
import Derived.Lib.MakeNoZero
import Derived.WalkLawsBesides
namespace Go.Proofs.YtnicnfjickknjaaGreatDoor
open Go.RowKit

/-- append(out, x...) as a step of a region that draws, out the call's own. -/
theorem step_app {ops : Array Oper} {o : Oper} {a : Act} {w : World} {K : Act → World → Prop} {Q : Exit → Act → World → Prop} {E : Prop} (hgd : o.guard = none) (s x : Operand)
    (ho : o.op = .call { callee := .builtin .append, args := #[s, x], argTypes := #[25, 25] })
    (base : Nat) (v : Value) (n : Nat) (xs : List Int) (hs : a.eval s = v) (hown : w.ownsRow base 5 1 v n (bv xs))
    (ad : Addr) (m c : Nat) (ys : List Int) (hx : a.eval x = .slice (some ad) m c) (hsl : Sl w (some ad) m c ys) (hb : n + m ≤ 140737488355328) (hbase : base ≤ w.heap.size)
    (h : ∀ v' w', w'.ownsRow base 5 1 v' (n + m) (bv (xs ++ ys)) → w.grownBy w' v.ownBlock → K (a.put o.dst v') w') :
    if Region.wanted o (yielded ops a.tmps) = true then Oper.wp Tryz.prog o a w K Q else E := by
  obtain ⟨i0, hi, hz0, hz1, hz2⟩ := info_parts u8info
  have hw : Region.wanted o (yielded ops a.tmps) = true := by simp [Region.wanted, hgd]
  rw [if_pos hw]
  refine wp_append_own w s x 25 ho base 5 i0 (.int .u8 0) 1 1 Tryz.underlying25 hi hz0 hz1 hz2 rfl (by decide) v n (bv xs) hs hown ad m c (bv ys) hx (by rw [bv_length, hsl.len, Nat.mul_one]) (hsl.cells ad rfl) (bv_one ys) (by unfold maxLen; omega) (by omega) hbase ?_
  intro v' w' h1 h2 _
  rw [← bv_append] at h1
  exact h v' w' h1 h2

set_option maxHeartbeats 4000000 in
set_option maxRecDepth 100000 in
theorem padd_any (w : World) (pb pl base : Nat) (v : Value) (n : Nat) (xs : List Int) (L m : Nat)
    (hb : w.heap[pb]? = some (.cells #[v] 25)) (hl : w.heap[pl]? = some (.cells #[.int .u64 L] 22)) (O : w.ownsRow base 5 1 v n (bv xs)) (hpb : pb < base) (hbase : base ≤ w.heap.size) (hn : n ≤ 1000000) (hm : m ≤ 7) (hxs : Byt xs) (s : Int) (hs : s = 8 * (m : Int)) :
    Calls Tryz.prog 55 #[.int .i64 s, .pointer (some ⟨pb, 0, none⟩), .pointer (some ⟨pl, 0, none⟩)] w fun e w' =>
      e = .returned (.tuple #[]) ∧ ∃ v', w'.heap[pb]? = some (.cells #[v'] 25) ∧ w'.heap[pl]? = some (.cells #[.int .u64 L] 22) ∧ w'.ownsRow base 5 1 v' (n + 1) (bv (xs ++ [((L / 256 ^ m % 256 : Nat) : Int)])) ∧ Below pb w w' := by
  subst hs
  have q1 : w.cell? ⟨pb, 0, none⟩ = some v := by rw [cell_of_row w pb 0 _ _ _ hb]; rfl
  have q2 : w.cell? ⟨pl, 0, none⟩ = some (.int .u64 L) := by rw [cell_of_row w pl 0 _ _ _ hl]; rfl
  have hlt : pb < w.heap.size := (Array.getElem?_eq_some_iff.1 hb).1
  have hll : pl < w.heap.size := (Array.getElem?_eq_some_iff.1 hl).1
  have n1 : some pb ≠ v.ownBlock := fun e => by have := (O.lt _ e.symm).1; omega
  have n2 : some pl ≠ v.ownBlock := fun e => by
    rcases O.2 with ⟨rfl, _⟩ | ⟨g, cap, cur, rfl, _, hh, _⟩
    · simp [Value.ownBlock] at e
    · simp only [Value.ownBlock, Option.some.injEq] at e
      subst e
      rw [hl] at hh
      simp at hh
  obtain ⟨x, hx⟩ : ∃ x, x = L / 256 ^ m % 256 := ⟨_, rfl⟩
  have hx8 : x < 256 := by rw [hx]; exact Nat.mod_lt _ (by omega)
  obtain ⟨y, hy⟩ : ∃ y, y = IntKind.u8.wrap ((L : Int) / 2 ^ (8 * (m : Int)).toNat) := ⟨_, rfl⟩
  have hxe : Hid (y = (x : Int)) := by
    show _ = _
    rw [hy, hx]
    have h2 : (2 : Nat) ^ (8 * m) = 256 ^ m := by rw [Nat.pow_mul]
    have h3 : (8 * (m : Int)).toNat = 8 * m := by omega
    rw [← h2, h3, IntKind.wrap_u8]
    push_cast
    rfl
  have hy8 : 0 ≤ y ∧ y ≤ 255 := by have := hxe.out; omega
  have hy' := hy.symm
  have hz : (8 * (m : Int)).toNat < 64 := by omega
  clear hy
  rw [← hx]
  clear hx
  have HB : Hid (w.heap[pb]? = some (.cells #[v] 25)) := hb
  have HL : Hid (w.heap[pl]? = some (.cells #[.int .u64 L] 22)) := hl
  have HN1 : Hid (some pb ≠ v.ownBlock) := n1
  have HN2 : Hid (some pl ≠ v.ownBlock) := n2
  clear hb hl n1 n2
  have BX : Byt (xs ++ [y]) := hxs.append (by intro z hz; simp at hz; omega)
  go_enter Tryz.func55, Tryz.ntmps55
  go_wp2
  go_region_law (refine step_app rfl (.tmp 4) (.tmp 9) rfl base v n xs rfl (by exact O.alloc _) _ 1 1 [y] rfl (by exact (Sl.one w y hy8).below (Below.refl _ _).drew) (by omega) (by simp; omega) ?_; intro v2 w2 O2 G2; obtain ⟨so, sc, hv2, S2, -⟩ := Sl.own O2 BX; have e2 : w2.heap[pb]? = some (.cells #[v] 25) := (G2.block pb (by simp; omega) HN1.out).trans ((heap_alloc_old w _ hlt).trans HB.out); subst hv2; have c2 := cell_of_row w2 pb 0 _ _ _ e2; have f2 := frozen_of_row w2 pb 0 _ _ e2)
  all_goals
    have e3 : w2.heap[pl]? = some (.cells #[.int .u64 L] 22) := (G2.block pl (by simp; omega) HN2.out).trans ((heap_alloc_old w _ hll).trans HL.out)
    have ne : pl ≠ pb := fun e => by rw [e, e2] at e3; simp at e3
    have z2 := G2.size
    have O3 : (w2.setCell ⟨pb, 0, none⟩ (.slice so (n + 1) sc)).ownsRow base 5 1 (.slice so (n + 1) sc) (n + 1) (bv (xs ++ [(x : Int)])) := by
      rw [← hxe.out]
      refine O2.kept (row := some pb) ⟨rfl, rfl, rfl, by simp, fun k _ hk => heap_setCell_other w2 _ k _ (fun e => hk (by rw [e]))⟩ (.inr fun e => ?_)
      have := (O2.lt _ e).1
      omega
    have B2 : Below pb w (w2.setCell ⟨pb, 0, none⟩ (.slice so (n + 1) sc)) := by
      refine ((((Below.refl pb w).alloc (by omega) _).drew.grown G2 (by simp; omega) (fun k hk => ?_)).setCell ?_ _)
      · have := (O.lt k hk).1
        omega
      · exact Nat.le_refl _
    go_wp2
    go_end0
    refine ⟨rfl, _, ?_, ?_, O3, B2⟩
    · rw [heap_setCell_same w2 pb 0 _ _ _ e2]; rfl
    · rw [heap_setCell_other w2 _ pl _ ne]; exact e3
end Go.Proofs.YtnicnfjickknjaaGreatDoor

namespace Go.Proofs.YtnicnfjickknjaaGreatDoor
open Go.RowKit

theorem byte_at (T m : Nat) (hT : T < 18446744073709551616) : bits BinOp.and IntKind.u64 ((T : Int) / 2 ^ (8 * m)) 255 = ((T / 256 ^ m % 256 : Nat) : Int) := by
  have h2 : (2 : Nat) ^ (8 * m) = 256 ^ m := by rw [Nat.pow_mul]
  have e : (T : Int) / 2 ^ (8 * m) = ((T / 256 ^ m : Nat) : Int) := by
    rw [← h2]
    push_cast
    rfl
  rw [e]
  have h := bits_and_u64_nat (T / 256 ^ m) 255 (Nat.lt_of_le_of_lt (Nat.div_le_self _ _) hT) (by omega)
  have a := Nat.and_two_pow_sub_one_eq_mod (T / 256 ^ m) 8
  exact h.trans (by rw [show (255 : Nat) = 2 ^ 8 - 1 from rfl, a])
theorem beL_take : ∀ n T j, j < n → (beL n T).take (j + 1) = (beL n T).take j ++ [255 - ((T / 256 ^ (n - 1 - j) % 256 : Nat) : Int)]
  | 0, _, _, h => by omega
  | n + 1, T, 0, _ => by simp [beL]
  | n + 1, T, j + 1, h => by
    rw [beL, List.take_succ_cons, List.take_succ_cons, beL_take n T j (by omega), List.cons_append]
    rw [show n + 1 - 1 - (j + 1) = n - 1 - j by omega]
end Go.Proofs.YtnicnfjickknjaaGreatDoor

namespace Go.Proofs.YtnicnfjickknjaaGreatDoor
open Go.RowKit

set_option maxHeartbeats 2000000 in
set_option maxRecDepth 100000 in
theorem pname_any (w : World) (base : Nat) (v : Value) (n : Nat) (xs : List Int) (s : ByteArray) (hown : w.ownsRow base 5 1 v n (bv xs)) (hbase : base ≤ w.heap.size) (hn : n ≤ 1000000) (hs : s.size ≤ 1000000) :
    Calls Tryz.prog 54 #[v, .string s] w fun e w' =>
      ∃ v', e = .returned v' ∧ w'.ownsRow base 5 1 v' (n + (nm (sb s)).length) (bv (xs ++ nm (sb s))) ∧ Below base w w' := by
  go_enter Tryz.func54, Tryz.ntmps54
  go_wp2_with fail
  go_loopw [0, 8] (fun b i wr => ∃ k : Nat, k ≤ s.size ∧ i = .int .i64 k ∧ wr.ownsRow base 5 1 b (n + (esc ((sb s).take k)).length) (bv (xs ++ esc ((sb s).take k))) ∧ Below base w wr) (fun _ i _ => s.size - (intOf i).toNat)
  case atStart => exact ⟨0, by omega, rfl, by simpa [esc] using hown, Below.refl _ _⟩
  case round =>
    clear hown
    obtain ⟨k, hk, rfl, O, B⟩ := hrel
    have hsz := B.size
    have hl : (esc ((sb s).take k)).length ≤ 2 * k := by
      have h1 := esc_len ((sb s).take k)
      have h2 : ((sb s).take k).length ≤ k := by simp; omega
      omega
    by_cases l1 : k < s.size
    · have i1 : (k : Int) < (s.size : Int) := by omega
      obtain ⟨x, hx⟩ : ∃ x : Nat, x = s[k].toNat := ⟨_, rfl⟩
      have hx8 : x < 256 := by rw [hx]; exact s[k].toNat_lt
      have r1 : ∀ W : World, (Instr.index 9 (.string s) (.int .i64 k)).run Tryz.prog W = .ok (.int .u8 x) W := fun W => by
        rw [run_index_string W _ s _ _ Tryz.underlying9, dif_pos ⟨by omega, i1⟩, hx]
        rfl
      have ht : Hid (esc ((sb s).take (k + 1)) = esc ((sb s).take k) ++ (if (x : Int) = 0 then [0, 255] else [(x : Int)])) := by
        show _ = _
        rw [sb_take s k l1, esc_append, ← hx]
        simp [esc]
      clear hx
      obtain ⟨p, hp⟩ : ∃ p, p = esc ((sb s).take k) := ⟨_, rfl⟩
      rw [← hp] at O hl ht
      clear hp
      by_cases hz : x = 0
      · subst hz
        go_wp2_with (first
          | (at_builtin; refine wpList_app rfl (.tmp 11) (.tmp 15) rfl base _ _ _ rfl (O.alloc _) _ 1 1 [0] rfl (Sl.one wr _ (by omega)) (by omega) (by simp; omega) ?_; intro v2 w2 O2 C2; have D2 : Below base w w2 := (B.alloc (by omega) _).trans C2; have s2 := D2.size; clear C2 O)
          | (at_builtin; refine wpList_app rfl (.tmp 21) (.tmp 22) rfl base _ _ _ rfl (O2.alloc _) _ 1 1 [255] rfl (Sl.one w2 _ (by omega)) (by omega) (by simp; omega) ?_; intro v3 w3 O3 C3; have D3 : Below base w w3 := (D2.alloc (by omega) _).trans C3; clear C3 O2))
        have O4 : w3.ownsRow base 5 1 v3 (n + (esc ((sb s).take (k + 1))).length) (bv (xs ++ esc ((sb s).take (k + 1)))) := by
          rw [ht.out]
          simpa [Nat.add_assoc] using O3
        go_roundw
        case rel => exact ⟨k + 1, by omega, by go_num, O4, D3⟩
        case measure => simp [intOf]; omega
      · have f1 : ((x : Int) == 0) = false := by simp; omega
        have hz' : ¬ (x : Int) = 0 := by omega
        go_wp2_with (at_builtin; refine wpList_app rfl (.tmp 11) (.tmp 15) rfl base _ _ _ rfl (O.alloc _) _ 1 1 [(x : Int)] rfl (Sl.one wr _ (by omega)) (by omega) (by simp; omega) ?_; intro v2 w2 O2 C2; have D2 : Below base w w2 := (B.alloc (by omega) _).trans C2; clear C2 O)
        have O4 : w2.ownsRow base 5 1 v2 (n + (esc ((sb s).take (k + 1))).length) (bv (xs ++ esc ((sb s).take (k + 1)))) := by
          rw [ht.out, if_neg hz']
          simpa [Nat.add_assoc] using O2
        go_roundw
        case rel => exact ⟨k + 1, by omega, by go_num, O4, D2⟩
        case measure => simp [intOf]; omega
    · have i1 : (s.size : Int) ≤ (k : Int) := by omega
      have ht : (sb s).take k = sb s := List.take_of_length_le (by rw [sb_len]; omega)
      rw [ht] at O hl
      clear ht
      go_wp2_with (at_builtin; refine wpList_app rfl (.tmp 25) (.tmp 26) rfl base _ _ _ rfl (O.alloc _) _ 2 2 [0, 1] rfl (Sl.new wr [0, 1] (by intro y hy; simp at hy; omega) (by simp [maxLen])) (by omega) (by simp; omega) ?_; intro v2 w2 O2 C2; have D2 : Below base w w2 := (B.alloc (by omega) _).trans C2; clear C2 O)
      have O3 : w2.ownsRow base 5 1 v2 (n + (nm (sb s)).length) (bv (xs ++ nm (sb s))) := by
        rw [nm_esc]
        simpa [Nat.add_assoc] using O2
      clear O2
      go_ret
      exact ⟨v2, rfl, O3, D2⟩

end Go.Proofs.YtnicnfjickknjaaGreatDoor

namespace Go.Proofs.YtnicnfjickknjaaGreatDoor
open Go.RowKit

theorem lack_byte (T m : Nat) (hT : T < 18446744073709551616) (hm : m ≤ 7) : (18446744073709551615 - T) / 256 ^ m % 256 = 255 - T / 256 ^ m % 256 := by
  obtain rfl | rfl | rfl | rfl | rfl | rfl | rfl | rfl : m = 0 ∨ m = 1 ∨ m = 2 ∨ m = 3 ∨ m = 4 ∨ m = 5 ∨ m = 6 ∨ m = 7 := by omega
  all_goals simp only [Nat.reducePow]
  all_goals omega

/-- A key's bytes, the first j names of them. -/
def KA.pre (k : KA) (j : Nat) : List Int := (if 0 < j then nm (sb k.row) else []) ++ ((if 1 < j then nm (sb k.fam) else []) ++ (if 2 < j then nm (sb k.qual) else []))
theorem KA.pre_len {k : KA} (hr : k.isRight = true) (j : Nat) : (k.pre j).length ≤ 300 := by
  have hsz := of_decide_eq_true hr
  have l1 := (nm_len (sb k.row)).2
  have l2 := (nm_len (sb k.fam)).2
  have l3 := (nm_len (sb k.qual)).2
  rw [sb_len] at l1 l2 l3
  unfold KA.pre
  rw [List.length_append, List.length_append]
  split <;> split <;> split <;> simp <;> omega
theorem KA.pre_byt (k : KA) (j : Nat) : Byt (k.pre j) := by
  have h1 := nm_byte _ (sb_byte k.row)
  have h2 := nm_byte _ (sb_byte k.fam)
  have h3 := nm_byte _ (sb_byte k.qual)
  have h0 : Byt [] := fun x hx => by simp at hx
  unfold KA.pre
  refine Byt.append ?_ (Byt.append ?_ ?_)
  all_goals split
  all_goals assumption
theorem KA.names_at {k : KA} (hr : k.isRight = true) (j : Nat) (hj : j < 3) : ∃ s : ByteArray, (∀ W : World, (Instr.index 88 (.agg #[.string k.row, .string k.fam, .string k.qual]) (.int .i64 j)).run Tryz.prog W = .ok (.string s) W) ∧ k.pre (j + 1) = k.pre j ++ nm (sb s) ∧ s.size ≤ 32 := by
  have hsz := of_decide_eq_true hr
  obtain rfl | rfl | rfl : j = 0 ∨ j = 1 ∨ j = 2 := by omega
  · exact ⟨k.row, fun _ => by kernel_rfl, by simp [KA.pre], by omega⟩
  · exact ⟨k.fam, fun _ => by kernel_rfl, by simp [KA.pre], by omega⟩
  · exact ⟨k.qual, fun _ => by kernel_rfl, by simp [KA.pre], by omega⟩

set_option maxHeartbeats 4000000 in
set_option maxRecDepth 100000 in
theorem pbytes_any (w : World) (k : KA) (hk : k.ok) (hr : k.isRight = true) :
    Calls Tryz.prog 32 #[k.val] w fun e w' => ∃ ao n c, e = .returned (.tuple #[.slice ao n c, .int .i64 0]) ∧ Sl w' ao n c (keyL k.kv) ∧ Below w.heap.size w w' := by
  have B1' : Below w.heap.size w (w.alloc (Obj.cells #[.string k.row, .string k.fam, .string k.qual, .int .u64 k.time] 24)) := (Below.refl _ w).alloc (Nat.le_refl _) _
  have K1' : ∀ i, (w.alloc (Obj.cells #[.string k.row, .string k.fam, .string k.qual, .int .u64 k.time] 24)).cell? ⟨w.heap.size, i, none⟩ = #[Value.string k.row, .string k.fam, .string k.qual, .int .u64 k.time][i]? := fun i => World.cell?_alloc_at _ _ _ _ rfl
  have hk0 : k.kind = 0 := by unfold KA.kind; rw [hr]; rfl
  have hti := hk.time
  obtain ⟨N, hN⟩ : ∃ N, N = w.heap.size := ⟨_, rfl⟩
  unfold KA.val
  go_enter Tryz.func32, Tryz.ntmps32
  go_wp2_with fail
  refine (pright_any _ k).mono ?_
  obtain ⟨w1, hw1⟩ : ∃ W, W = (w.alloc (Obj.cells #[.string k.row, .string k.fam, .string k.qual, .int .u64 k.time] 24)) := ⟨_, rfl⟩
  have z1 : w1.heap.size = w.heap.size + 1 := by rw [hw1]; simp
  rw [← hw1] at B1' K1' ⊢
  have B1 : Below w.heap.size w w1 := B1'
  rw [← hN] at K1'
  have HK : Hid (∀ V, Below w1.heap.size w1 V → ∀ i, V.cell? ⟨N, i, none⟩ = #[Value.string k.row, .string k.fam, .string k.qual, .int .u64 k.time][i]?) := by
    intro V hV i
    rw [hV.cell (by show N < _; omega)]
    exact K1' i
  clear hw1 B1' K1'
  rintro e w2 ⟨rfl, C2⟩
  rw [hk0, ← hN]
  have hNl : N < w1.heap.size := by omega
  have b1 := B1.size
  clear hk0 hN z1
  have s2 := C2.size
  have q2 : ∀ i, (w2.alloc (Obj.cells #[.slice none 0 0] 25)).cell? ⟨N, i, none⟩ = #[Value.string k.row, .string k.fam, .string k.qual, .int .u64 k.time][i]? := HK.out _ (C2.alloc (by omega) _)
  have r0 := q2 0
  have r1 := q2 1
  have r2 := q2 2
  have r3 := q2 3
  simp at r0 r1 r2 r3
  clear q2
  go_wp2_with fail
  refine (pnames_any _ k).mono ?_
  clear r0 r1 r2 r3
  obtain ⟨w3, hw3⟩ : ∃ W, W = w2.alloc (Obj.cells #[.slice none 0 0] 25) := ⟨_, rfl⟩
  obtain ⟨pb, hpb⟩ : ∃ p, p = w2.heap.size := ⟨_, rfl⟩
  have e3 : w3.heap[pb]? = some (.cells #[.slice none 0 0] 25) := by rw [hw3, hpb]; exact heap_alloc_new w2 _
  have z3 : w3.heap.size = pb + 1 := by rw [hw3, hpb]; simp
  have E3 : Below w1.heap.size w1 w3 := by rw [hw3]; exact C2.alloc (by omega) _
  rw [← hw3, ← hpb]
  have s3 : w1.heap.size ≤ pb := by omega
  clear hw3 hpb C2 s2
  rintro e w4 ⟨rfl, C4⟩
  have e4 : w4.heap[pb]? = some (.cells #[.slice none 0 0] 25) := (C4.block pb (by omega)).trans e3
  have E4 : Below w1.heap.size w1 w4 := E3.trans (C4.mono E3.size)
  have s4 := C4.size
  have z4 : pb + 1 ≤ w4.heap.size := by omega
  have HT : Hid (∀ V, Below pb w4 V → V.cell? ⟨N, 3, none⟩ = some (.int .u64 k.time)) := fun V hV => (hV.cell (by show N < pb; omega)).trans (HK.out w4 E4 3)
  have HW : Hid (∀ V, Below pb w4 V → Below w.heap.size w V) := fun V hV => B1.trans ((E4.trans (hV.mono s3)).mono b1)
  clear HK E3 e3 s4 C4 E4 B1 z3 hNl
  unfold KA.nv
  go_wp2_with fail
  have at0 : w4.ownsRow (pb + 1) 5 1 (.slice none 0 0) (k.pre 0).length (bv (k.pre 0)) := World.ownsRow_nil _ _ _ _
  have HE4 : Hid (w4.heap[pb]? = some (.cells #[.slice none 0 0] 25)) := e4
  clear e4
  go_loopw [7, 18] (fun _ i wr => ∃ (j : Nat) (v : Value), j ≤ 3 ∧ i = .int .i64 j ∧ wr.heap[pb]? = some (.cells #[v] 25) ∧ wr.ownsRow (pb + 1) 5 1 v (k.pre j).length (bv (k.pre j)) ∧ Below pb w4 wr) (fun _ i _ => 3 - (intOf i).toNat)
  case atStart => exact ⟨0, _, by omega, rfl, HE4.out, at0, Below.refl _ _⟩
  case round =>
    clear at0 HE4
    obtain ⟨j, v, hj, rfl, hv, O, B⟩ := hrel
    have bs := B.size
    have ple := KA.pre_len hr j
    by_cases l : j < 3
    · have il : (j : Int) < 3 := by omega
      obtain ⟨s, hidx, hpre, hs⟩ := KA.names_at hr j l
      have HP : Hid (k.pre (j + 1) = k.pre j ++ nm (sb s)) := hpre
      clear hpre
      have c0 : wr.cell? ⟨pb, 0, none⟩ = some v := by rw [cell_of_row wr pb 0 _ _ _ hv]; rfl
      go_wp2_with fail
      refine (pname_any wr (pb + 1) v _ _ s O (by omega) (by omega) (by omega)).mono ?_
      rintro e w5 ⟨v5, rfl, O5, C5⟩
      have e5 : w5.heap[pb]? = some (.cells #[v] 25) := (C5.block pb (by omega)).trans hv
      have c5 := cell_of_row w5 pb 0 _ _ _ e5
      have f5 := frozen_of_row w5 pb 0 _ _ e5
      have len : (k.pre j).length + (nm (sb s)).length = (k.pre (j + 1)).length := by rw [HP.out, List.length_append]
      rw [len, ← HP.out] at O5
      obtain ⟨so, sc, rfl, S5, -⟩ := Sl.own O5 (KA.pre_byt k (j + 1))
      have D5 : Below pb w4 (w5.setCell ⟨pb, 0, none⟩ (.slice so (k.pre (j + 1)).length sc)) := (B.trans (C5.mono (by omega))).setCell (Nat.le_refl _) _
      have O6 : (w5.setCell ⟨pb, 0, none⟩ (.slice so (k.pre (j + 1)).length sc)).ownsRow (pb + 1) 5 1 (.slice so (k.pre (j + 1)).length sc) (k.pre (j + 1)).length (bv (k.pre (j + 1))) := by
        refine O5.kept (row := some pb) ⟨rfl, rfl, rfl, by simp, fun k _ hk => heap_setCell_other w5 _ k _ (fun e => hk (by rw [e]))⟩ (.inr fun e => ?_)
        have := (O5.lt _ e).1
        omega
      have h6 : (w5.setCell ⟨pb, 0, none⟩ (.slice so (k.pre (j + 1)).length sc)).heap[pb]? = some (.cells #[.slice so (k.pre (j + 1)).length sc] 25) := by rw [heap_setCell_same w5 pb 0 _ _ _ e5]; rfl
      clear O5 S5 len O hv c0 B C5 hidx HP
      go_wp2
      go_roundw
      case rel => exact ⟨j + 1, _, by omega, by go_num, h6, O6, D5⟩
      case measure => simp [intOf]; omega
    · obtain rfl : j = 3 := by omega
      have t0 := HT.out wr B
      go_wp2_with fail
      obtain ⟨L, hL⟩ : ∃ L : Nat, L = 18446744073709551615 - k.time := ⟨_, rfl⟩
      have hLi : 18446744073709551615 - (k.time : Int) = (L : Int) := by omega
      obtain ⟨p, hp⟩ : ∃ p, p = wr.heap.size := ⟨_, rfl⟩
      obtain ⟨w6, hw6⟩ : ∃ W, W = wr.alloc (Obj.cells #[Value.int IntKind.u64 (L : Int)] 22) := ⟨_, rfl⟩
      rw [hLi, ← hw6, ← hp]
      have e6 : w6.heap[pb]? = some (.cells #[v] 25) := by rw [hw6, heap_alloc_old wr _ (by omega)]; exact hv
      have l6 : w6.heap[p]? = some (.cells #[.int .u64 (L : Int)] 22) := by rw [hw6, hp]; exact heap_alloc_new wr _
      have O6 : w6.ownsRow (pb + 1) 5 1 v (k.pre 3).length (bv (k.pre 3)) := by rw [hw6]; exact O.alloc _
      have B6 : Below pb w4 w6 := by rw [hw6]; exact B.alloc (by omega) _
      have HL : Hid (L = 18446744073709551615 - k.time) := hL
      have HE6 : Hid (w6.heap[pb]? = some (.cells #[v] 25)) := e6
      have HL6 : Hid (w6.heap[p]? = some (.cells #[.int .u64 (L : Int)] 22)) := l6
      have O6' : w6.ownsRow (pb + 1) 5 1 v ((k.pre 3).length + 0) (bv (k.pre 3 ++ (beL 8 k.time).take 0)) := by simpa using O6
      clear hL hLi hw6 hp O hv t0 B e6 l6 O6
      go_loopw [10, 29] (fun _ i wr => ∃ (j : Nat) (v : Value), j ≤ 8 ∧ i = .int .i64 j ∧ wr.heap[pb]? = some (.cells #[v] 25) ∧ wr.heap[p]? = some (.cells #[.int .u64 (L : Int)] 22) ∧ wr.ownsRow (pb + 1) 5 1 v ((k.pre 3).length + j) (bv (k.pre 3 ++ (beL 8 k.time).take j)) ∧ Below pb w4 wr) (fun _ i _ => 8 - (intOf i).toNat)
      case atStart => exact ⟨0, _, by omega, rfl, HE6.out, HL6.out, O6', B6⟩
      case round =>
        clear O6' HE6 HL6 B6 bs
        obtain ⟨j, v7, hj7, rfl, h7, l7, O7, B7⟩ := hrel
        have bs := B7.size
        by_cases l : j < 8
        · have il : (j : Int) < 8 := by omega
          have ht : Hid ((beL 8 k.time).take (j + 1) = (beL 8 k.time).take j ++ [((L / 256 ^ (7 - j) % 256 : Nat) : Int)]) := by
            show _ = _
            have hb := lack_byte k.time (7 - j) hti (by omega)
            have hx8 : k.time / 256 ^ (7 - j) % 256 < 256 := Nat.mod_lt _ (by omega)
            rw [HL.out, hb, beL_take 8 k.time j l]
            congr 2
            show (255 : Int) - ((k.time / 256 ^ (7 - j) % 256 : Nat) : Int) = _
            omega
          have hby : Byt (k.pre 3 ++ (beL 8 k.time).take j) := (KA.pre_byt k 3).append ((beL_byte 8 k.time).take j)
          go_wp2_with fail
          refine (padd_any wr pb p (pb + 1) v7 _ _ L (7 - j) h7 l7 O7 (by omega) (by omega) (by omega) (by omega) hby _ (by omega)).mono ?_
          rintro e w8 ⟨rfl, v8, h8, l8, O8, C8⟩
          have B8 : Below pb w4 w8 := B7.trans C8
          have O9 : w8.ownsRow (pb + 1) 5 1 v8 ((k.pre 3).length + (j + 1)) (bv (k.pre 3 ++ (beL 8 k.time).take (j + 1))) := by
            rw [ht.out, ← List.append_assoc]
            exact O8
          clear h7 l7 O7 B7 O8 C8 ht
          go_wp2
          go_roundw
          case rel => first | exact ⟨j + 1, _, by omega, by go_num, h8, l8, O9, B8⟩ | ((repeat apply Exists.intro); exact ⟨⟨j + 1, _, by omega, by go_num, h8, l8, O9, B8⟩, rfl⟩)
          case measure => simp [intOf]; omega
        · obtain rfl : j = 8 := by omega
          have ht : (beL 8 k.time).take 8 = beL 8 k.time := List.take_of_length_le (by rw [beL_len]; omega)
          have hkey : k.pre 3 ++ beL 8 k.time = keyL k.kv := by
            simp [KA.pre, keyL, KA.kv, List.append_assoc]
          rw [ht, hkey] at O7
          obtain ⟨go, gc, rfl, S9, -⟩ := Sl.own O7 (keyL_byte _ (KA.kv_byt hk))
          have c0 : wr.cell? ⟨pb, 0, none⟩ = some _ := cell_of_row wr pb 0 _ _ _ h7
          have BF := HW.out wr B7
          clear ht hkey O7 HL h7 l7 B7
          go_wp2
          go_ret2
          exact ⟨_, _, _, rfl, S9, BF⟩

set_option maxHeartbeats 2000000 in
set_option maxRecDepth 100000 in
theorem pbytes_bad (w : World) (k : KA) (hr : k.isRight = false) :
    Calls Tryz.prog 32 #[k.val] w fun e w' => e = .returned (.tuple #[.slice none 0 0, .int .i64 5]) ∧ Below w.heap.size w w' := by
  have B1 : Below w.heap.size w (w.alloc (Obj.cells #[.string k.row, .string k.fam, .string k.qual, .int .u64 k.time] 24)) := (Below.refl _ w).alloc (Nat.le_refl _) _
  have hk0 : k.kind = 5 := by unfold KA.kind; rw [hr]; rfl
  unfold KA.val
  go_enter Tryz.func32, Tryz.ntmps32
  go_wp2_with fail
  refine (pright_any _ k).mono ?_
  rintro e w2 ⟨rfl, C2⟩
  rw [hk0]
  clear hk0
  have B2 := B1.trans (C2.mono B1.size)
  go_wp2
  go_ret2
  exact ⟨rfl, B2⟩
end Go.Proofs.YtnicnfjickknjaaGreatDoor

namespace Go.Proofs.YtnicnfjickknjaaGreatDoor
open Go.RowKit

def CA.val (c : CA) : Value := .agg #[.string c.row, .string c.fam, .string c.qual, .int .u64 c.time, .slice c.va.ao c.va.n c.va.cap, .bool c.gone]
/-- The key's bytes of whatever cell. -/
def itK (c : CA) : List Int := if c.key.isRight then keyL c.c.kv else []

set_option maxHeartbeats 2000000 in
set_option maxRecDepth 100000 in
theorem titem_any (w : World) (c : CA) (h : c.ok w) (hn : c.va.n ≤ 100000) :
    Calls Tryz.prog 10 #[c.val] w fun e w' => ∃ ko kn kc vo vn vc, e = .returned (.agg #[.slice ko kn kc, .slice vo vn vc]) ∧ Sl w' ko kn kc (itK c) ∧ Sl w' vo vn vc (itV c.c) ∧ Below w.heap.size w w' := by
  obtain ⟨W1, hW1⟩ : ∃ V, V = w.alloc (.cells #[.string c.row, .string c.fam, .string c.qual, .int .u64 c.time, .slice c.va.ao c.va.n c.va.cap, .bool c.gone] 27) := ⟨_, rfl⟩
  obtain ⟨W2, hW2⟩ : ∃ V, V = W1.alloc (.cells #[.slice none 0 0, .slice none 0 0] 29) := ⟨_, rfl⟩
  have B1 : Below w.heap.size w W1 := by rw [hW1]; exact (Below.refl _ _).alloc (Nat.le_refl _) _
  have C2 : Below W1.heap.size W1 W2 := by rw [hW2]; exact (Below.refl _ _).alloc (Nat.le_refl _) _
  have B2 := B1.trans (C2.mono B1.size)
  have s1 : W1.heap.size = w.heap.size + 1 := by rw [hW1]; exact Array.size_push ..
  have A1' : Arr W1 w.heap.size 27 (#[.string c.row, .string c.fam, .string c.qual, .int .u64 c.time, .slice c.va.ao c.va.n c.va.cap, .bool c.gone]).toList := by rw [hW1]; exact heap_alloc_new w _
  have A1 := arr_below A1' C2
  have A2 : Arr W2 (w.heap.size + 1) 29 [.slice none 0 0, .slice none 0 0] := by rw [hW2, ← s1]; exact heap_alloc_new W1 _
  clear A1'
  unfold CA.val
  by_cases hr : c.key.isRight = true
  · have HK : Hid (itK c = keyL c.key.kv) := by show _ = _; unfold itK; rw [hr]; rfl
    have CB := pbytes_any W2 c.key ⟨h.row, h.fam, h.qual, h.time⟩ hr
    rw [show c.key.val = .agg #[.string c.row, .string c.fam, .string c.qual, .int .u64 c.time] from rfl] at CB
    go_enter Tryz.func10, Tryz.ntmps10
    go_wp2_with fail
    rw [← hW1, ← hW2]
    refine CB.mono ?_
    rintro e w3 ⟨ko, kn, kc, rfl, S3, C3⟩
    have B3 := B2.trans (C3.mono B2.size)
    have A3 := arr_below A1 C3
    have R3 := arr_below A2 C3
    have c4 : w3.cell? ⟨w.heap.size, 4, none⟩ = some (.slice c.va.ao c.va.n c.va.cap) := A3.cell 4
    have c5 : w3.cell? ⟨w.heap.size, 5, none⟩ = some (.bool c.gone) := A3.cell 5
    have r0 : w3.cell? ⟨w.heap.size + 1, 0, none⟩ = some (.slice none 0 0) := R3.cell 0
    have r1 : w3.cell? ⟨w.heap.size + 1, 1, none⟩ = some (.slice none 0 0) := R3.cell 1
    have f0 := R3.free 0
    have f1 := R3.free 1
    have lt := R3.lt
    clear CB
    cases hg : c.gone with
    | true =>
      have HV : Hid (itV c.c = [1]) := by show (if c.gone then _ else _) = _; rw [hg]; rfl
      rw [hg] at c5
      have S4 := Sl.one w3 1 (by omega)
      have KW : Wr (w.heap.size + 1) w3 (((w3.setCell ⟨w.heap.size + 1, 0, none⟩ (.slice ko kn kc)).setCell ⟨w.heap.size + 1, 1, none⟩ (.slice (some ⟨w3.heap.size, 0, none⟩) 1 1)).alloc (.cells #[.int .u8 1] 5)) := (((Wr.refl _ _).set 0 _).set 1 _).alloc _
      have BX : Below w.heap.size w (((w3.setCell ⟨w.heap.size + 1, 0, none⟩ (.slice ko kn kc)).setCell ⟨w.heap.size + 1, 1, none⟩ (.slice (some ⟨w3.heap.size, 0, none⟩) 1 1)).alloc (.cells #[.int .u8 1] 5)) := KW.below B3 B3.size (Nat.le_succ _)
      have SK : Sl _ ko kn kc _ := (S3).wr R3 (by simp) KW
      have SV : Sl (((w3.setCell ⟨w.heap.size + 1, 0, none⟩ (.slice ko kn kc)).setCell ⟨w.heap.size + 1, 1, none⟩ (.slice (some ⟨w3.heap.size, 0, none⟩) 1 1)).alloc (.cells #[.int .u8 1] 5)) (some ⟨w3.heap.size, 0, none⟩) 1 1 [1] := by
        have := Sl.one ((w3.setCell ⟨w.heap.size + 1, 0, none⟩ (.slice ko kn kc)).setCell ⟨w.heap.size + 1, 1, none⟩ (.slice (some ⟨w3.heap.size, 0, none⟩) 1 1)) 1 (by omega)
        simpa using this
      clear S4
      go_wp2
      exact bodyPost_ret (v := .agg #[.slice ko kn kc, .slice (some ⟨w3.heap.size, 0, none⟩) 1 1]) (by simp [results, Tryz.results10, go_sem, r0, r1, lt]) rfl ⟨_, _, _, _, _, _, rfl, by rw [HK.out]; exact SK, by rw [HV.out]; exact SV, BX⟩
    | false =>
      have HV : Hid (itV c.c = 0 :: c.va.xs) := by show (if c.gone then _ else _) = _; rw [hg]; rfl
      rw [hg] at c5
      obtain ⟨W4, hW4⟩ : ∃ V, V = w3.alloc (.cells #[.int .u8 0] 5) := ⟨_, rfl⟩
      have C4 : Below w3.heap.size w3 W4 := by rw [hW4]; exact (Below.refl _ _).alloc (Nat.le_refl _) _
      have O4 : W4.ownsRow w3.heap.size 5 1 (.slice (some ⟨w3.heap.size, 0, none⟩) 1 1) 1 (bv [0]) := by rw [hW4]; exact ⟨rfl, .inr ⟨w3.heap.size, 1, #[.int .u8 0], rfl, Nat.le_refl _, heap_alloc_new w3 _, Nat.le_refl _, by decide, rfl, rfl⟩⟩
      have hva := h.va.below (B3.trans (C4.mono B3.size))
      have B4 := B3.trans (C4.mono B3.size)
      have c4' : (w3.alloc (.cells #[.int .u8 0] 5)).cell? ⟨w.heap.size, 4, none⟩ = some (.slice c.va.ao c.va.n c.va.cap) := by rw [← hW4]; exact (C4.cell (World.block_lt_of_cell? _ _ c4)).trans c4
      have s4 := C4.size
      have HBZ : Hid (Byt (0 :: c.va.xs)) := fun x hx => (List.mem_cons.1 hx).elim (fun e => by rw [e]; omega) (h.va.byte x)
      go_wp2_with (at_builtin; rw [← hW4]; refine wpList_app rfl (.tmp 17) (.tmp 19) rfl w3.heap.size _ _ _ rfl O4 _ _ _ _ rfl hva (by omega) s4 ?_; intro v5 w5 O5 D5; have O5' : w5.ownsRow w3.heap.size 5 1 v5 (1 + c.va.n) (bv (0 :: c.va.xs)) := O5; obtain ⟨vo, vc, rfl, S5, -⟩ := Sl.own O5' HBZ.out; have C5 := C4.trans D5; have B5 := B3.trans (C5.mono B3.size); have R5 := arr_below R3 C5; have r0 : w5.cell? ⟨w.heap.size + 1, 0, none⟩ = some (.slice none 0 0) := R5.cell 0; have r1 : w5.cell? ⟨w.heap.size + 1, 1, none⟩ = some (.slice none 0 0) := R5.cell 1; have f0 := R5.free 0; have f1 := R5.free 1; have lt := R5.lt; clear O5 O5' c4' O4)
      have KW : Wr (w.heap.size + 1) w5 ((w5.setCell ⟨w.heap.size + 1, 0, none⟩ (.slice ko kn kc)).setCell ⟨w.heap.size + 1, 1, none⟩ (.slice vo (1 + c.va.n) vc)) := ((Wr.refl _ _).set 0 _).set 1 _
      have BX := KW.below B5 B5.size (Nat.le_succ _)
      have SK : Sl _ ko kn kc _ := ((S3).below C5).wr R5 (by simp) KW
      have SV := S5.wr R5 (by simp) KW
      exact bodyPost_ret (v := .agg #[.slice ko kn kc, .slice vo (1 + c.va.n) vc]) (by simp [results, Tryz.results10, go_sem, r0, r1]) rfl ⟨_, _, _, _, _, _, rfl, by rw [HK.out]; exact SK, by rw [HV.out]; exact SV, BX⟩
  · have hr : c.key.isRight = false := by simpa using hr
    have HK : Hid (itK c = []) := by show _ = _; unfold itK; rw [hr]; rfl
    have CB := pbytes_bad W2 c.key hr
    rw [show c.key.val = .agg #[.string c.row, .string c.fam, .string c.qual, .int .u64 c.time] from rfl] at CB
    go_enter Tryz.func10, Tryz.ntmps10
    go_wp2_with fail
    rw [← hW1, ← hW2]
    refine CB.mono ?_
    rintro e w3 ⟨rfl, C3⟩
    have B3 := B2.trans (C3.mono B2.size)
    have A3 := arr_below A1 C3
    have R3 := arr_below A2 C3
    have c4 : w3.cell? ⟨w.heap.size, 4, none⟩ = some (.slice c.va.ao c.va.n c.va.cap) := A3.cell 4
    have c5 : w3.cell? ⟨w.heap.size, 5, none⟩ = some (.bool c.gone) := A3.cell 5
    have r0 : w3.cell? ⟨w.heap.size + 1, 0, none⟩ = some (.slice none 0 0) := R3.cell 0
    have r1 : w3.cell? ⟨w.heap.size + 1, 1, none⟩ = some (.slice none 0 0) := R3.cell 1
    have f0 := R3.free 0
    have f1 := R3.free 1
    have lt := R3.lt
    clear CB
    cases hg : c.gone with
    | true =>
      have HV : Hid (itV c.c = [1]) := by show (if c.gone then _ else _) = _; rw [hg]; rfl
      rw [hg] at c5
      have S4 := Sl.one w3 1 (by omega)
      have KW : Wr (w.heap.size + 1) w3 (((w3.setCell ⟨w.heap.size + 1, 0, none⟩ (.slice none 0 0)).setCell ⟨w.heap.size + 1, 1, none⟩ (.slice (some ⟨w3.heap.size, 0, none⟩) 1 1)).alloc (.cells #[.int .u8 1] 5)) := (((Wr.refl _ _).set 0 _).set 1 _).alloc _
      have BX : Below w.heap.size w (((w3.setCell ⟨w.heap.size + 1, 0, none⟩ (.slice none 0 0)).setCell ⟨w.heap.size + 1, 1, none⟩ (.slice (some ⟨w3.heap.size, 0, none⟩) 1 1)).alloc (.cells #[.int .u8 1] 5)) := KW.below B3 B3.size (Nat.le_succ _)
      have SK : Sl _ none 0 0 _ := ((Sl.nothing w3)).wr R3 (by simp) KW
      have SV : Sl (((w3.setCell ⟨w.heap.size + 1, 0, none⟩ (.slice none 0 0)).setCell ⟨w.heap.size + 1, 1, none⟩ (.slice (some ⟨w3.heap.size, 0, none⟩) 1 1)).alloc (.cells #[.int .u8 1] 5)) (some ⟨w3.heap.size, 0, none⟩) 1 1 [1] := by
        have := Sl.one ((w3.setCell ⟨w.heap.size + 1, 0, none⟩ (.slice none 0 0)).setCell ⟨w.heap.size + 1, 1, none⟩ (.slice (some ⟨w3.heap.size, 0, none⟩) 1 1)) 1 (by omega)
        simpa using this
      clear S4
      go_wp2
      exact bodyPost_ret (v := .agg #[.slice none 0 0, .slice (some ⟨w3.heap.size, 0, none⟩) 1 1]) (by simp [results, Tryz.results10, go_sem, r0, r1, lt]) rfl ⟨_, _, _, _, _, _, rfl, by rw [HK.out]; exact SK, by rw [HV.out]; exact SV, BX⟩
    | false =>
      have HV : Hid (itV c.c = 0 :: c.va.xs) := by show (if c.gone then _ else _) = _; rw [hg]; rfl
      rw [hg] at c5
      obtain ⟨W4, hW4⟩ : ∃ V, V = w3.alloc (.cells #[.int .u8 0] 5) := ⟨_, rfl⟩
      have C4 : Below w3.heap.size w3 W4 := by rw [hW4]; exact (Below.refl _ _).alloc (Nat.le_refl _) _
      have O4 : W4.ownsRow w3.heap.size 5 1 (.slice (some ⟨w3.heap.size, 0, none⟩) 1 1) 1 (bv [0]) := by rw [hW4]; exact ⟨rfl, .inr ⟨w3.heap.size, 1, #[.int .u8 0], rfl, Nat.le_refl _, heap_alloc_new w3 _, Nat.le_refl _, by decide, rfl, rfl⟩⟩
      have hva := h.va.below (B3.trans (C4.mono B3.size))
      have B4 := B3.trans (C4.mono B3.size)
      have c4' : (w3.alloc (.cells #[.int .u8 0] 5)).cell? ⟨w.heap.size, 4, none⟩ = some (.slice c.va.ao c.va.n c.va.cap) := by rw [← hW4]; exact (C4.cell (World.block_lt_of_cell? _ _ c4)).trans c4
      have s4 := C4.size
      have HBZ : Hid (Byt (0 :: c.va.xs)) := fun x hx => (List.mem_cons.1 hx).elim (fun e => by rw [e]; omega) (h.va.byte x)
      go_wp2_with (at_builtin; rw [← hW4]; refine wpList_app rfl (.tmp 17) (.tmp 19) rfl w3.heap.size _ _ _ rfl O4 _ _ _ _ rfl hva (by omega) s4 ?_; intro v5 w5 O5 D5; have O5' : w5.ownsRow w3.heap.size 5 1 v5 (1 + c.va.n) (bv (0 :: c.va.xs)) := O5; obtain ⟨vo, vc, rfl, S5, -⟩ := Sl.own O5' HBZ.out; have C5 := C4.trans D5; have B5 := B3.trans (C5.mono B3.size); have R5 := arr_below R3 C5; have r0 : w5.cell? ⟨w.heap.size + 1, 0, none⟩ = some (.slice none 0 0) := R5.cell 0; have r1 : w5.cell? ⟨w.heap.size + 1, 1, none⟩ = some (.slice none 0 0) := R5.cell 1; have f0 := R5.free 0; have f1 := R5.free 1; have lt := R5.lt; clear O5 O5' c4' O4)
      have KW : Wr (w.heap.size + 1) w5 ((w5.setCell ⟨w.heap.size + 1, 0, none⟩ (.slice none 0 0)).setCell ⟨w.heap.size + 1, 1, none⟩ (.slice vo (1 + c.va.n) vc)) := ((Wr.refl _ _).set 0 _).set 1 _
      have BX := KW.below B5 B5.size (Nat.le_succ _)
      have SK : Sl _ none 0 0 _ := (((Sl.nothing w3)).below C5).wr R5 (by simp) KW
      have SV := S5.wr R5 (by simp) KW
      exact bodyPost_ret (v := .agg #[.slice none 0 0, .slice vo (1 + c.va.n) vc]) (by simp [results, Tryz.results10, go_sem, r0, r1]) rfl ⟨_, _, _, _, _, _, rfl, by rw [HK.out]; exact SK, by rw [HV.out]; exact SV, BX⟩
end Go.Proofs.YtnicnfjickknjaaGreatDoor

namespace Go.Proofs.YtnicnfjickknjaaGreatDoor
open Go.RowKit

theorem below_drewN (w : World) (q B : Nat) : Below B w (w.drewN q) := ⟨rfl, rfl, rfl, Nat.le_refl _, fun _ _ => rfl⟩

theorem lists_of (n : Nat) (xs ys : List Int) (h1 : xs.length = n) (h2 : ys.length = n) (h : ∀ j, j < n → xs.getD j 0 = ys.getD j 0) : xs = ys := by
  apply List.ext_getElem (by omega)
  intro j hj hj2
  have := h j (by omega)
  simpa [List.getD, hj, hj2] using this

/-- Where an element is read the slice has an address without a spot. -/
theorem Sl.at {w : World} {ao : Option Addr} {n cap : Nat} {xs : List Int} (h : Sl w ao n cap xs) (hn : 0 < n) :
    ∃ b off, ao = some ⟨b, off, none⟩ ∧ ∀ i, i < n → w.cell? ⟨b, off + i, none⟩ = some (.int .u8 (xs.getD i 0)) := by
  cases ao with
  | none => have := (h.nil rfl).1; omega
  | some a =>
    obtain ⟨b, off, spot⟩ := a
    have hc := h.cell _ rfl 0 hn
    have hs : spot = none := by simpa [Addr.add] using World.cell?_spot hc
    subst hs
    exact ⟨b, off, rfl, fun i hi => by have := h.cell _ rfl i hi; rw [Addr.add_lit] at this; exact this⟩

set_option maxHeartbeats 800000 in
theorem same_any (w : World) (ao bo : Option Addr) (n cap m cap2 : Nat) (xs ys : List Int) (h : Sl w ao n cap xs) (h2 : Sl w bo m cap2 ys) :
    Calls Tryz.prog 24 #[.slice ao n cap, .slice bo m cap2] w fun e w' =>
      e = .returned (.bool (decide (xs = ys))) ∧ ∃ q, w' = w.drewN q := by
  have hl := h.len
  have hl2 := h2.len
  have hle := h.le
  have hmx := h.mx
  unfold maxLen at hmx
  by_cases hnm : n = m
  · subst hnm
    have hne : ((n : Int) != (n : Int)) = false := by simp
    go_enter Tryz.func24, Tryz.ntmps24
    go_wp2
    go_loopw [5] (fun i wr => ∃ k q : Nat, k ≤ n ∧ i = .int .i64 k ∧ wr = w.drewN q ∧ ∀ j, j < k → xs.getD j 0 = ys.getD j 0) (fun i _ => n - (intOf i).toNat)
    case atStart => exact ⟨0, 0, Nat.zero_le _, rfl, rfl, fun j hj => by omega⟩
    case round =>
      obtain ⟨k, q, hk, rfl, rfl, heq⟩ := hrel
      by_cases hlt : k < n
      · obtain ⟨b, off, rfl, hc⟩ := h.at (by omega)
        obtain ⟨b2, off2, rfl, hc2⟩ := h2.at (by omega)
        have c1 := hc k hlt
        have c2 := hc2 k hlt
        have hlt1 : (k : Int) < (n : Int) := by omega
        clear hc hc2
        have k1 : k < xs.length := by omega
        have k2 : k < ys.length := by omega
        by_cases he : xs[k] = ys[k]
        · have hb : (xs[k] != ys[k]) = false := by simp [he]
          have hE : Hid (xs[k] = ys[k]) := he
          clear he
          go_wp2
          go_quiet (fail)
          go_wp2
          go_roundw
          case rel =>
            refine ⟨k + 1, _, by omega, by go_num, rfl, fun j hj => ?_⟩
            by_cases hjk : j < k
            · exact heq j hjk
            · obtain rfl : j = k := by omega
              simpa [List.getD, k1, k2] using hE.out
          case measure => simp [intOf]; omega
        · have hb : (xs[k] != ys[k]) = true := by simp [he]
          have hE : Hid (¬ xs[k] = ys[k]) := he
          clear he
          go_wp2
          go_quiet (fail)
          go_wp2
          go_ret
          have hd : decide (xs = ys) = false := decide_eq_false (fun hx => by subst hx; exact hE.out rfl)
          rw [hd, World.drewN_drewN]
          exact ⟨rfl, _, rfl⟩
      · obtain rfl : k = n := by omega
        go_wp2
        go_ret
        have hd : decide (xs = ys) = true := decide_eq_true (lists_of k xs ys hl hl2 heq)
        rw [hd]
        exact ⟨rfl, _, rfl⟩
  · have hne : ((n : Int) != (m : Int)) = true := by simp; omega
    go_enter Tryz.func24, Tryz.ntmps24
    go_wp2
    go_ret
    have hd : decide (xs = ys) = false := decide_eq_false (fun hx => by subst hx; omega)
    rw [hd]
    exact ⟨rfl, 0, rfl⟩
end Go.Proofs.YtnicnfjickknjaaGreatDoor

namespace Go.Proofs.YtnicnfjickknjaaGreatDoor
open Go.RowKit

theorem cutL_ne {c : Int} (r : List Int) (h : c ≠ 0) : cutL (c :: r) = (cutL r).map fun p => (c :: p.1, p.2) := by
  cases r with
  | nil => simp [cutL]
  | cons d r => rw [cutL, if_neg h]
theorem cutL_one (r : List Int) : cutL (0 :: 1 :: r) = some ([], r) := by simp [cutL]
theorem cutL_255 (r : List Int) : cutL (0 :: 255 :: r) = (cutL r).map fun p => (0 :: p.1, p.2) := by simp [cutL]
theorem cutL_other {d : Int} (r : List Int) (h1 : d ≠ 1) (h2 : d ≠ 255) : cutL (0 :: d :: r) = none := by simp [cutL, h1, h2]
theorem drop_at (xs : List Int) (k : Nat) (h : k < xs.length) : xs.drop k = xs.getD k 0 :: xs.drop (k + 1) := by
  rw [List.drop_eq_getElem_cons h]
  simp [List.getD, h]
theorem map_more {α : Type} (o : Option (List Int × α)) (acc ys : List Int) : (o.map fun p => (ys ++ p.1, p.2)).map (fun p => (acc ++ p.1, p.2)) = o.map fun p => ((acc ++ ys) ++ p.1, p.2) := by
  cases o <;> simp

/-- A slice of bytes from a place on. -/
theorem cutC {w : World} {b off : Nat} {n cap : Nat} {xs : List Int} (h : Sl w (some ⟨b, off, none⟩) n cap xs) (u : Nat) (hu : u ≤ n) : Sl w (some (if cap = u then ⟨b, off, none⟩ else ⟨b, off + u, none⟩)) (n - u) (cap - u) (xs.drop u) := by
  refine ⟨by simp [h.len], by have := h.le; omega, by have := h.mx; omega, fun e => by simp at e, fun a ha i hi => ?_, h.byte.drop u⟩
  have hle := h.le
  rw [if_neg (by omega)] at ha
  obtain rfl := Option.some.inj ha
  have := h.cell _ rfl (u + i) (by omega)
  rw [Addr.add_lit] at this ⊢
  rw [Nat.add_assoc, this]
  simp [List.getD]

/-- What cut leaves. -/
def CutPost (w' : World) (e : Ending) (o : Option (List Int × List Int)) : Prop :=
  match o with
  | none => e = .returned (.tuple #[.string ⟨#[]⟩, .slice none 0 0, .bool false])
  | some p => ∃ st bo m c, e = .returned (.tuple #[.string st, .slice bo m c, .bool true]) ∧ sb st = p.1 ∧ Sl w' bo m c p.2

set_option maxHeartbeats 4000000 in
set_option maxRecDepth 100000 in
theorem rcut_any (w : World) (ao : Option Addr) (n cap : Nat) (xs : List Int) (h : Sl w ao n cap xs) (hn : n ≤ 1000000) :
    Calls Tryz.prog 58 #[.slice ao n cap] w fun e w' => CutPost w' e (cutL xs) ∧ Below w.heap.size w w' := by
  have hl := h.len
  have hle := h.le
  have hmx := h.mx
  go_enter Tryz.func58, Tryz.ntmps58
  go_wp2_with fail
  go_loopw [5, 6] (fun s i wr => ∃ (k : Nat) (acc : List Int), k ≤ n ∧ acc.length ≤ k ∧ i = .int .i64 k ∧ wr.ownsRow w.heap.size 5 1 s acc.length (bv acc) ∧ Byt acc ∧ Below w.heap.size w wr ∧ cutL xs = (cutL (xs.drop k)).map fun p => (acc ++ p.1, p.2)) (fun _ i _ => n - (intOf i).toNat)
  case atStart => exact ⟨0, [], by omega, by simp, rfl, World.ownsRow_nil _ _ _ _, fun x hx => by simp at hx, Below.refl _ _, by simp⟩
  case round =>
    obtain ⟨k, acc, hk, ha, rfl, O, hb, B, hc⟩ := hrel
    have sz := B.size
    by_cases l : k < n
    · have il : (k : Int) < (n : Int) := by omega
      obtain ⟨b, off, rfl, hcell⟩ := (h.below B).at (by omega)
      have hx0 := h.byte.at k
      obtain ⟨c, hcc⟩ : ∃ c, c = xs.getD k 0 := ⟨_, rfl⟩
      have HCL : Hid (∀ i, i < n → wr.cell? ⟨b, off + i, none⟩ = some (.int .u8 (xs.getD i 0))) := hcell
      clear hcell
      have c0 := HCL.out k l
      rw [drop_at xs k (by omega)] at hc
      rw [← hcc] at c0 hc
      have hx0' : 0 ≤ c ∧ c ≤ 255 := by rw [hcc]; simpa [List.getD] using hx0
      clear hcc hx0
      by_cases z : c = 0
      · subst z
        by_cases lst : k + 1 = n
        · have f1 : ((k : Int) == (n : Int) - 1) = true := by simp; omega
          have f2 : IntKind.i64.wrap ((n : Int) - 1) = (k : Int) := by rw [IntKind.wrap_i64]; omega
          have hc' : Hid (cutL xs = none) := by
            show _ = _
            rw [hc, List.drop_eq_nil_of_le (by omega)]
            simp [cutL]
          clear hc
          go_wp2
          go_ret3
          exact ⟨by rw [hc'.out]; rfl, B⟩
        · have c1 := HCL.out (k + 1) (by omega)
          have hy0 := h.byte.at (k + 1)
          obtain ⟨d, hd⟩ : ∃ d, d = xs.getD (k + 1) 0 := ⟨_, rfl⟩
          rw [drop_at xs (k + 1) (by omega)] at hc
          rw [← hd] at c1 hc
          have hy0' : 0 ≤ d ∧ d ≤ 255 := by rw [hd]; simpa [List.getD] using hy0
          clear hd hy0
          have il1 : (k : Int) + 1 < (n : Int) := by omega
          have f1 : ((k : Int) == (n : Int) - 1) = false := by simp; omega
          by_cases d1 : d = 1
          · subst d1
            obtain ⟨so, sc, rfl, SS, -⟩ := Sl.own O hb
            clear O
            have hc' : Hid (cutL xs = some (acc, xs.drop (k + 2))) := by
              show _ = _
              rw [hc, cutL_one]
              simp
            clear hc
            have SR := h.below B
            go_wp2_with fail
            obtain ⟨wd, hwd⟩ : ∃ wd, wd = wr.drew := ⟨_, rfl⟩
            have BW : Below wr.heap.size wr wr.drew := (Below.refl _ wr).drew
            have SS' := conv_str (SS.below BW)
            have SR' := SR.below BW
            have BD : Below w.heap.size w wr.drew := B.drew
            refine wp_region_noPanic ?_
            refine wp_region_held_drew (S := fun V => (convert 25 9 (.slice so acc.length sc)).run Tryz.prog V = .ok (.string (strOfNums acc)) V) (by kernel_rfl) SS' (fun hH => ?_)
            rw [← hwd] at hH SR' BD ⊢
            clear hwd SS' BW SS SR
            obtain ⟨ad, had⟩ : ∃ ad : Addr, ad = (if cap = k + 2 then ⟨b, off, none⟩ else ⟨b, off + (k + 2), none⟩) := ⟨_, rfl⟩
            have SC : Sl wd (some ad) (n - (k + 2)) (cap - (k + 2)) (xs.drop (k + 2)) := by rw [had]; exact cutC SR' (k + 2) (by omega)
            have HAD : Hid (ad = (if cap = k + 2 then ⟨b, off, none⟩ else ⟨b, off + (k + 2), none⟩)) := had
            clear had SR'
            refine hr_take 0 (some 36) (.slice so acc.length sc) rfl rfl (by kernel_rfl) (by kernel_rfl) (by kernel_rfl) rfl (fun W hW => by go_simp) hH ?_
            simp only [Act.put, List.setIfInBounds_toArray, List.set_cons_zero, List.set_cons_succ]
            refine hr_take 1 (some 37) (.string (strOfNums acc)) rfl rfl (by kernel_rfl) (by kernel_rfl) (by kernel_rfl) rfl (fun W hW => by go_simp) hH ?_
            simp only [Act.put, List.setIfInBounds_toArray, List.set_cons_zero, List.set_cons_succ]
            refine hr_take 2 (some 38) (.slice (some ⟨b, off, none⟩) n cap) rfl rfl (by kernel_rfl) (by kernel_rfl) (by kernel_rfl) rfl (fun W hW => by go_simp) hH ?_
            simp only [Act.put, List.setIfInBounds_toArray, List.set_cons_zero, List.set_cons_succ]
            refine hr_take 3 (some 39) (.int .i64 k) rfl rfl (by kernel_rfl) (by kernel_rfl) (by kernel_rfl) rfl (fun W hW => by go_simp) hH ?_
            simp only [Act.put, List.setIfInBounds_toArray, List.set_cons_zero, List.set_cons_succ]
            refine hr_take 4 (some 40) (.int .i64 ((k : Int) + 2)) rfl rfl (by kernel_rfl) (by kernel_rfl) (by kernel_rfl) rfl (fun W hW => by go_simp; rw [IntKind.wrap_i64]; omega) hH ?_
            simp only [Act.put, List.setIfInBounds_toArray, List.set_cons_zero, List.set_cons_succ]
            refine hr_take 5 (some 41) (.slice (some ad) (n - (k + 2)) (cap - (k + 2))) rfl rfl (by kernel_rfl) (by kernel_rfl) (by kernel_rfl) rfl (fun W hW => by
              go_simp
              have e2 : ((k : Int) + 2).toNat = k + 2 := by omega
              rw [if_pos ⟨by omega, by omega⟩, e2, HAD.out]
              by_cases hh : cap = k + 2 <;> simp [hh]) hH ?_
            simp only [Act.put, List.setIfInBounds_toArray, List.set_cons_zero, List.set_cons_succ]
            refine hr_take 6 (some 2) (.string (strOfNums acc)) rfl rfl (by kernel_rfl) (by kernel_rfl) (by kernel_rfl) rfl (fun W hW => by go_simp) hH ?_
            simp only [Act.put, List.setIfInBounds_toArray, List.set_cons_zero, List.set_cons_succ]
            refine hr_take 7 (some 3) (.slice (some ad) (n - (k + 2)) (cap - (k + 2))) rfl rfl (by kernel_rfl) (by kernel_rfl) (by kernel_rfl) rfl (fun W hW => by go_simp) hH ?_
            simp only [Act.put, List.setIfInBounds_toArray, List.set_cons_zero, List.set_cons_succ]
            refine hr_take 8 (some 4) (.bool true) rfl rfl (by kernel_rfl) (by kernel_rfl) (by kernel_rfl) rfl (fun W hW => by go_simp) hH ?_
            simp only [Act.put, List.setIfInBounds_toArray, List.set_cons_zero, List.set_cons_succ]
            refine wpAnyH_done (by kernel_rfl) ?_ _
            refine NoPanic.normal ?_
            go_wp2
            go_ret3
            refine ⟨?_, BD⟩
            rw [hc'.out]
            exact ⟨_, _, _, _, rfl, sb_str hb, SC⟩
          · have g1 : (d == 1) = false := by simp [d1]
            by_cases d2 : d = 255
            · subst d2
              have hc' : Hid (cutL xs = (cutL (xs.drop (k + 2))).map fun p => ((acc ++ [0]) ++ p.1, p.2)) := by
                show _ = _
                rw [hc, cutL_255]
                exact map_more _ acc [0]
              clear hc
              go_wp2_with (at_builtin; refine wpList_app rfl (.tmp 48) (.tmp 49) rfl w.heap.size _ _ _ rfl (O.alloc _) _ 1 1 [0] rfl (Sl.one wr _ (by omega)) (by omega) (by simp; omega) ?_; intro v2 w2 O2 C2; have D2 : Below w.heap.size w w2 := (B.alloc (by omega) _).trans C2; clear C2 O)
              have O3 : w2.ownsRow w.heap.size 5 1 v2 (acc ++ [0]).length (bv (acc ++ [0])) := by
                simpa using O2
              go_roundw
              case rel => exact ⟨k + 2, acc ++ [0], by omega, by simp; omega, by go_num, O3, hb.append (by intro y hy; simp at hy; omega), D2, hc'.out⟩
              case measure => simp [intOf] <;> omega
            · have g2 : (d == 255) = false := by simp [d2]
              have hc' : Hid (cutL xs = none) := by
                show _ = _
                rw [hc, cutL_other _ d1 d2]
                rfl
              clear hc
              go_wp2
              go_ret3
              exact ⟨by rw [hc'.out]; rfl, B⟩
      · have g0 : (c == 0) = false := by simp [z]
        have hc' : Hid (cutL xs = (cutL (xs.drop (k + 1))).map fun p => ((acc ++ [c]) ++ p.1, p.2)) := by
          show _ = _
          rw [hc, cutL_ne _ z]
          exact map_more _ acc [c]
        clear hc
        go_wp2_with (at_builtin; refine wpList_app rfl (.tmp 18) (.tmp 23) rfl w.heap.size _ _ _ rfl (O.alloc _) _ 1 1 [c] rfl (Sl.one wr _ hx0') (by omega) (by simp; omega) ?_; intro v2 w2 O2 C2; have D2 : Below w.heap.size w w2 := (B.alloc (by omega) _).trans C2; clear C2 O)
        have O3 : w2.ownsRow w.heap.size 5 1 v2 (acc ++ [c]).length (bv (acc ++ [c])) := by
          simpa using O2
        go_roundw
        case rel => exact ⟨k + 1, acc ++ [c], by omega, by simp; omega, by go_num, O3, hb.append (by intro y hy; simp at hy; omega), D2, hc'.out⟩
        case measure => simp [intOf] <;> omega
    · have il : (n : Int) ≤ (k : Int) := by omega
      have hc' : Hid (cutL xs = none) := by
        show _ = _
        rw [hc, List.drop_eq_nil_of_le (by omega)]
        simp [cutL]
      clear hc
      go_wp2
      go_ret3
      exact ⟨by rw [hc'.out]; rfl, B⟩
end Go.Proofs.YtnicnfjickknjaaGreatDoor

namespace Go.Proofs.YtnicnfjickknjaaGreatDoor
open Go.RowKit

/-- Some names off the front. -/
def cutN : Nat → List Int → Option (List (List Int) × List Int)
  | 0, xs => some ([], xs)
  | n + 1, xs => (cutL xs).bind fun p => (cutN n p.2).map fun q => (p.1 :: q.1, q.2)
def namesV (ss : List ByteArray) : List Value := ss.map Value.string
def NamesPost (w' : World) (e : Ending) : Option (List (List Int) × List Int) → Prop
  | none => e = .returned (.tuple #[.agg (namesV [⟨#[]⟩, ⟨#[]⟩, ⟨#[]⟩]).toArray, .slice none 0 0])
  | some q => ∃ ss bo m c, e = .returned (.tuple #[.agg (namesV ss).toArray, .slice bo m c]) ∧ ss.length = 3 ∧ ss.map sb = q.1 ∧ Sl w' bo m c q.2

/-- append carried out in a region that draws, out the call's own. -/
theorem hr_app {ops : Array Oper} {S : World → Prop} {Q : Exit → Act → World → Prop} {fuel : Nat} {listed : Array Bool} {a : Act} {w : World} (i : Nat) (d : Option Tmp) {oi : Oper} (hi : ops[i]? = some oi) (hd : oi.dst = d) (hr : Region.ready .any ops listed = [i]) (hg : oi.guard = none) (s x : Operand)
    (ho : oi.op = .call { callee := .builtin .append, args := #[s, x], argTypes := #[25, 25] })
    (base : Nat) (v : Value) (n : Nat) (xs : List Int) (hs : a.eval s = v) (hown : w.ownsRow base 5 1 v n (bv xs))
    (ad : Addr) (m c : Nat) (ys : List Int) (hx : a.eval x = .slice (some ad) m c) (hsl : Sl w (some ad) m c ys) (hb : n + m ≤ 140737488355328) (hbase : base ≤ w.heap.size)
    (h : ∀ v' w', w'.ownsRow base 5 1 v' (n + m) (bv (xs ++ ys)) → w.grownBy w' v.ownBlock → S w' ∧ wpAnyH Tryz.prog .any ops (NoPanic Q) S fuel (listed.setIfInBounds i true) (a.put d v') w') : wpAnyH Tryz.prog .any ops (NoPanic Q) S (fuel + 1) listed a w := by
  refine wpAnyH_all hr (by simp) fun j hj => ?_
  obtain rfl := List.mem_singleton.1 hj
  have hw : Region.wanted oi (yielded ops a.tmps) = true := by simp [Region.wanted, hg]
  obtain ⟨i0, hi0, hz0, hz1, hz2⟩ := info_parts u8info
  unfold wpOp
  simp only [hi, hw, if_true]
  refine .inl ?_
  refine wp_append_own w s x 25 ho base 5 i0 (.int .u8 0) 1 1 Tryz.underlying25 hi0 hz0 hz1 hz2 rfl (by decide) v n (bv xs) hs hown ad m c (bv ys) hx (by rw [bv_length, hsl.len, Nat.mul_one]) (hsl.cells ad rfl) (bv_one ys) (by unfold maxLen; omega) (by omega) hbase ?_
  intro v' w' h1 h2 _
  rw [← bv_append] at h1
  rw [hd]
  exact h v' w' h1 h2

set_option maxHeartbeats 4000000 in
set_option maxRecDepth 100000 in
theorem pcut_any (w : World) (ao : Option Addr) (n cap : Nat) (xs : List Int) (h : Sl w ao n cap xs) (hn : n ≤ 1000000) :
    Calls Tryz.prog 57 #[.slice ao n cap] w fun e w' => NamesPost w' e (cutN 3 xs) ∧ Below w.heap.size w w' := by
  have e1 : (w.alloc (.cells #[.string ⟨#[]⟩, .string ⟨#[]⟩, .string ⟨#[]⟩] 88)).heap[w.heap.size]? = some (.cells (namesV [⟨#[]⟩, ⟨#[]⟩, ⟨#[]⟩]).toArray 88) := heap_alloc_new w _
  have B1 : Below w.heap.size w (w.alloc (.cells #[.string ⟨#[]⟩, .string ⟨#[]⟩, .string ⟨#[]⟩] 88)) := (Below.refl _ w).alloc (Nat.le_refl _) _
  obtain ⟨p, hp⟩ : ∃ p, p = w.heap.size := ⟨_, rfl⟩
  go_enter Tryz.func57, Tryz.ntmps57
  go_wp2_with fail
  go_step3
  go_wp2_with fail
  go_step3
  obtain ⟨w1, hw1⟩ : ∃ W, W = (w.alloc (.cells #[.string ⟨#[]⟩, .string ⟨#[]⟩, .string ⟨#[]⟩] 88)) := ⟨_, rfl⟩
  rw [← hw1] at e1 B1 ⊢
  have z1 : w1.heap.size = w.heap.size + 1 := by rw [hw1]; simp
  rw [← hp] at e1 B1 z1 ⊢
  clear hw1
  have HP : Hid (p = w.heap.size) := hp
  clear hp
  have E1 : Hid (w1.heap[p]? = some (.cells (namesV [⟨#[]⟩, ⟨#[]⟩, ⟨#[]⟩]).toArray 88)) := e1
  clear e1
  go_wp2_with fail
  go_loopg [0, 4, 5, 6] 3 (fun g b _ _ i wr => ∃ (j : Nat) (ss : List ByteArray) (bo : Option Addr) (m c : Nat) (ys : List Int), j + g = 3 ∧ i = .int .i64 j ∧ b = .slice bo m c ∧ m ≤ n ∧ Sl w bo m c ys ∧ ss.length = 3 ∧ Hid (wr.heap[p]? = some (.cells (namesV ss).toArray 88)) ∧ Below p w wr ∧ Hid (cutN 3 xs = (cutN g ys).map fun q => ((ss.take j).map sb ++ q.1, q.2)))
  case atStart => exact ⟨0, _, _, _, _, xs, rfl, rfl, rfl, Nat.le_refl _, h, rfl, E1, B1, by show _ = _; simp⟩
  case round =>
    clear E1 B1
    obtain ⟨j, ss, bo, m, c, ys, hjg, rfl, rfl, hmn, S, hss, A, B, HC⟩ := hrel
    have bs := B.size
    cases gk with
    | zero =>
      obtain rfl : j = 3 := by omega
      obtain ⟨s0, s1, s2, rfl⟩ : ∃ s0 s1 s2, ss = [s0, s1, s2] := by
        match ss, hss with
        | [a, b, c], _ => exact ⟨a, b, c, rfl⟩
      have q0 : wr.cell? ⟨p, 0, none⟩ = some (.string s0) := cell_of_row wr p 0 _ _ _ A.out
      have q1 : wr.cell? ⟨p, 1, none⟩ = some (.string s1) := cell_of_row wr p 1 _ _ _ A.out
      have q2 : wr.cell? ⟨p, 2, none⟩ = some (.string s2) := cell_of_row wr p 2 _ _ _ A.out
      have f0 : wr.frozen? ⟨p, 0, none⟩ = false := frozen_of_row wr p 0 _ _ A.out
      have f1 : wr.frozen? ⟨p, 1, none⟩ = false := frozen_of_row wr p 1 _ _ A.out
      have f2 : wr.frozen? ⟨p, 2, none⟩ = false := frozen_of_row wr p 2 _ _ A.out
      have B2 : Below p w (((wr.setCell ⟨p, 0, none⟩ (.string s0)).setCell ⟨p, 1, none⟩ (.string s1)).setCell ⟨p, 2, none⟩ (.string s2)) := ((B.setCell (Nat.le_refl _) _).setCell (Nat.le_refl _) _).setCell (Nat.le_refl _) _
      rw [HP.out] at B2
      go_wp2
      refine bodyPost_ret (v := .tuple #[.agg #[.string s0, .string s1, .string s2], .slice bo m c]) (by simp [results, Tryz.results57, go_sem, q0, q1, q2]) rfl ⟨?_, ?_⟩
      · rw [HC.out]
        exact ⟨[s0, s1, s2], bo, m, c, rfl, rfl, by simp, S.below (by rw [HP.out]; exact B2)⟩
      · rw [HP.out]; exact B2
    | succ g =>
      have il : (j : Int) < 3 := by omega
      go_wp2_with fail
      go_loopg [0, 5] m (fun g2 b nv wx => ∃ (bo2 : Option Addr) (m2 c2 : Nat) (zs acc : List Int), b = .slice bo2 m2 c2 ∧ m2 = g2 ∧ Sl w bo2 m2 c2 zs ∧ wx.ownsRow (p + 1) 5 1 nv acc.length (bv acc) ∧ Byt acc ∧ acc.length + m2 ≤ n ∧ Hid (wx.heap[p]? = some (.cells (namesV ss).toArray 88)) ∧ Below p w wx ∧ Hid (cutL ys = (cutL zs).map fun q => (acc ++ q.1, q.2)))
      case atStart => exact ⟨bo, m, c, ys, [], rfl, rfl, S, World.ownsRow_nil _ _ _ _, fun x hx => by simp at hx, by simpa using hmn, A, B, by show _ = _; simp⟩
      case round =>
        clear A B bs
        obtain ⟨bo2, m2, c2, zs, acc, rfl, rfl, S2, O, hby, hle, A, B2, HC2⟩ := hrel
        have bs := B2.size
        have bp : p < wr.heap.size := (Array.getElem?_eq_some_iff.1 A.out).1
        have l2 := S2.len
        have lc := S2.le
        obtain ⟨s0, s1, s2, hs3⟩ : ∃ s0 s1 s2, ss = [s0, s1, s2] := by
          match ss, hss with
          | [a, b, c], _ => exact ⟨a, b, c, rfl⟩
        have AA := A.out
        rw [hs3] at AA
        have q0 : wr.cell? ⟨p, 0, none⟩ = some (.string s0) := cell_of_row wr p 0 _ _ _ AA
        have q1 : wr.cell? ⟨p, 1, none⟩ = some (.string s1) := cell_of_row wr p 1 _ _ _ AA
        have q2 : wr.cell? ⟨p, 2, none⟩ = some (.string s2) := cell_of_row wr p 2 _ _ _ AA
        have f0 : wr.frozen? ⟨p, 0, none⟩ = false := frozen_of_row wr p 0 _ _ AA
        have f1 : wr.frozen? ⟨p, 1, none⟩ = false := frozen_of_row wr p 1 _ _ AA
        have f2 : wr.frozen? ⟨p, 2, none⟩ = false := frozen_of_row wr p 2 _ _ AA
        have BZ : Below p w (((wr.setCell ⟨p, 0, none⟩ (.string ⟨#[]⟩)).setCell ⟨p, 1, none⟩ (.string ⟨#[]⟩)).setCell ⟨p, 2, none⟩ (.string ⟨#[]⟩)) := ((B2.setCell (Nat.le_refl _) _).setCell (Nat.le_refl _) _).setCell (Nat.le_refl _) _
        clear hs3 AA
        by_cases hm0 : m2 = 0
        · subst hm0
          have hzs : zs = [] := List.eq_nil_of_length_eq_zero l2
          have hnone : Hid (cutN 3 xs = none) := by
            have e1 : cutL ys = none := by rw [HC2.out, hzs]; simp [cutL]
            show _ = _
            rw [HC.out, cutN, e1]
            rfl
          clear O  hzs l2 S2 hle
          go_wp2
          rw [Exit.noGoto_ret]
          refine bodyPost_ret (v := .tuple #[.agg #[.string ⟨#[]⟩, .string ⟨#[]⟩, .string ⟨#[]⟩], .slice none 0 0]) (by simp [results, Tryz.results57, go_sem, q0, q1, q2]) rfl ⟨?_, ?_⟩
          · rw [hnone.out]; rfl
          · rw [← HP.out]; exact BZ
        · obtain ⟨b2, off2, rfl, hcell0⟩ := S2.at (by omega)
          have hcell : Hid (∀ i, i < m2 → w.cell? ⟨b2, off2 + i, none⟩ = some (.int .u8 (zs.getD i 0))) := hcell0
          clear hcell0
          have i0 : (0 : Int) < (m2 : Int) := by omega
          have i1 : (1 : Int) ≤ (m2 : Int) := by omega
          obtain ⟨z, hzz⟩ : ∃ z, z = zs.getD 0 0 := ⟨_, rfl⟩
          have hzs : Hid (zs = z :: zs.drop 1) := by
            show _ = _
            have := drop_at zs 0 (by omega)
            rw [List.drop_zero] at this
            rw [hzz]; exact this
          have hz8 : 0 ≤ z ∧ z ≤ 255 := by
            have := S2.byte.at 0
            rw [hzz]; simpa [List.getD] using this
          have CELL0 : ∀ V : World, Below p w V → V.cell? ⟨b2, off2, none⟩ = some (.int .u8 z) := fun V hV => by
            have h0 := hcell.out 0 (by omega)
            rw [Nat.add_zero, ← hzz] at h0
            have hb := World.block_lt_of_cell? w _ h0
            exact (hV.cell (by show b2 < p; rw [HP.out]; exact hb)).trans h0
          have HC0 : Hid (∀ V : World, Below p w V → V.cell? ⟨b2, off2, none⟩ = some (.int .u8 z)) := CELL0
          have c0 := CELL0 wr B2
          have c0d : wr.drew.cell? ⟨b2, off2, none⟩ = some (.int .u8 z) := c0
          clear CELL0 hzz
          by_cases hz : z ≠ 0
          · have gz : (z == 0) = false := by simp [hz]
            have gz2 : (z != 0) = true := by simp [hz]
            have HC3 : Hid (cutL ys = (cutL (zs.drop 1)).map fun q => ((acc ++ [z]) ++ q.1, q.2)) := by
              show _ = _
              rw [HC2.out, hzs.out, cutL_ne _ hz]
              exact map_more _ acc [z]
            obtain ⟨ad, had⟩ : ∃ ad : Addr, ad = (if c2 = 1 then ⟨b2, off2, none⟩ else ⟨b2, off2 + 1, none⟩) := ⟨_, rfl⟩
            have SC : Sl w (some ad) (m2 - 1) (c2 - 1) (zs.drop 1) := by rw [had]; exact cutC S2 1 (by omega)
            have HAD : Hid (ad = (if c2 = 1 then ⟨b2, off2, none⟩ else ⟨b2, off2 + 1, none⟩)) := had
            clear had
            go_wp2_with fail
            have E0 : Below wr.heap.size wr wr.drew := (Below.refl _ _).drew
            refine wp_region_noPanic ?_
            refine wp_region_held_drew (S := fun V => V.cell? ⟨b2, off2, none⟩ = some (.int .u8 z)) (by kernel_rfl) (c0d) (fun H0 => ?_)
            obtain ⟨v0, hv0⟩ : ∃ v, v = wr.drew := ⟨_, rfl⟩
            rw [← hv0] at H0 E0 ⊢
            have hv0h : v0.heap = wr.heap := by rw [hv0]; rfl
            clear hv0
            refine hr_take 0 (some 20) (u5) rfl rfl (by kernel_rfl) (by kernel_rfl) (by kernel_rfl) rfl (fun W hW => by go_simp) H0 ?_
            simp only [Act.put, List.setIfInBounds_toArray, List.set_cons_zero, List.set_cons_succ]
            refine hr_take 1 (some 21) (.slice (some ⟨b2, off2, none⟩) m2 c2) rfl rfl (by kernel_rfl) (by kernel_rfl) (by kernel_rfl) rfl (fun W hW => by go_simp) H0 ?_
            simp only [Act.put, List.setIfInBounds_toArray, List.set_cons_zero, List.set_cons_succ]
            refine hr_take 2 (some 22) (.pointer (some ⟨b2, off2, none⟩)) rfl rfl (by kernel_rfl) (by kernel_rfl) (by kernel_rfl) rfl (fun W hW => by go_simp) H0 ?_
            simp only [Act.put, List.setIfInBounds_toArray, List.set_cons_zero, List.set_cons_succ]
            refine hr_take 3 (some 23) (.int .u8 z) rfl rfl (by kernel_rfl) (by kernel_rfl) (by kernel_rfl) rfl (fun W hW => by go_simp) H0 ?_
            simp only [Act.put, List.setIfInBounds_toArray, List.set_cons_zero, List.set_cons_succ]
            refine hr_take 6 (some 26) (.slice (some ⟨b2, off2, none⟩) m2 c2) rfl rfl (by kernel_rfl) (by kernel_rfl) (by kernel_rfl) rfl (fun W hW => by go_simp) H0 ?_
            simp only [Act.put, List.setIfInBounds_toArray, List.set_cons_zero, List.set_cons_succ]
            refine hr_take 7 (some 27) (.slice (some ad) (m2 - 1) (c2 - 1)) rfl rfl (by kernel_rfl) (by kernel_rfl) (by kernel_rfl) rfl (fun W hW => by (go_simp <;> (rw [HAD.out]; by_cases hh : c2 = 1 <;> simp [hh]))) H0 ?_
            simp only [Act.put, List.setIfInBounds_toArray, List.set_cons_zero, List.set_cons_succ]
            obtain ⟨v1, hv1⟩ : ∃ v, v = v0.alloc (.cells #[.int .u8 z] 5) := ⟨_, rfl⟩
            obtain ⟨g1, hg1⟩ : ∃ g, g = v0.heap.size := ⟨_, rfl⟩
            have F1 : Below wr.heap.size wr v1 := by rw [hv1]; exact E0.alloc (E0.size) _
            have O1 : v1.ownsRow (p + 1) 5 1 u5 acc.length (bv acc) := by rw [hv1]; exact World.ownsRow.alloc (by unfold World.ownsRow; rw [hv0h]; exact O) _
            have X1 : Sl v1 (some ⟨g1, 0, none⟩) 1 1 [z] := by rw [hv1, hg1]; exact Sl.one v0 _ hz8
            have D1 : Below p w v1 := B2.trans (F1.mono (by omega))
            have H1 : v1.cell? ⟨b2, off2, none⟩ = some (.int .u8 z) := HC0.out _ D1
            have y1 := F1.size
            refine hr_do 4 (some 24) (.slice (some ⟨g1, 0, none⟩) 1 1) rfl rfl (by kernel_rfl) rfl (w' := v1) (by rw [hv1, hg1]; go_simp) H1 ?_
            simp only [Act.put, List.setIfInBounds_toArray, List.set_cons_zero, List.set_cons_succ]
            clear hv1 hg1
            refine hr_app 5 (some 25) rfl rfl (by kernel_rfl) rfl (.tmp 20) (.tmp 24) rfl (p + 1) u5 acc.length acc rfl O1 _ 1 1 [z] rfl X1 (by omega) (by omega) ?_
            intro nv2 v2 O2 G2
            have D2 : Below p w v2 := D1.grown G2 (by omega) (fun k hk => by have := (O1.lt k hk).1; omega)
            have H2 : v2.cell? ⟨b2, off2, none⟩ = some (.int .u8 z) := HC0.out _ D2
            have A2 : Hid (v2.heap[p]? = some (.cells (namesV ss).toArray 88)) := by
              show _ = _
              rw [G2.block p (by omega) (fun e => by have := (O1.lt p e.symm).1; omega), F1.block p (by omega)]
              exact A.out
            refine ⟨H2, ?_⟩
            simp only [Act.put, List.setIfInBounds_toArray, List.set_cons_zero, List.set_cons_succ]
            refine hr_take 8 (some 5) (nv2) rfl rfl (by kernel_rfl) (by kernel_rfl) (by kernel_rfl) rfl (fun W hW => by go_simp) H2 ?_
            simp only [Act.put, List.setIfInBounds_toArray, List.set_cons_zero, List.set_cons_succ]
            refine hr_take 9 (some 0) (.slice (some ad) (m2 - 1) (c2 - 1)) rfl rfl (by kernel_rfl) (by kernel_rfl) (by kernel_rfl) rfl (fun W hW => by go_simp) H2 ?_
            simp only [Act.put, List.setIfInBounds_toArray, List.set_cons_zero]
            refine wpAnyH_done (by kernel_rfl) ?_ _
            refine NoPanic.normal ?_
            have O3 : v2.ownsRow (p + 1) 5 1 nv2 (acc ++ [z]).length (bv (acc ++ [z])) := by simpa using O2
            clear O O1 O2 A G2 H0 H1 H2 E0 F1 X1 D1 hv0h c0 c0d
            go_wp2
            go_roundg (m2 - 1)
            case measure => omega
            case rel => exact ⟨some ad, m2 - 1, c2 - 1, zs.drop 1, acc ++ [z], rfl, rfl, SC, O3, hby.append (by intro y hy; simp at hy; omega), by simp; omega, A2, D2, HC3⟩
          · obtain rfl : z = 0 := by omega
            by_cases hm1 : m2 = 1
            · subst hm1
              have hzs2 : zs.drop 1 = [] := List.drop_eq_nil_of_le (by omega)
              have hnone : Hid (cutN 3 xs = none) := by
                have e1 : cutL ys = none := by rw [HC2.out, hzs.out, hzs2]; simp [cutL]
                show _ = _
                rw [HC.out, cutN, e1]
                rfl
              clear O HC0  hzs hzs2 l2 S2 hle
              go_wp2
              rw [Exit.noGoto_ret]
              refine bodyPost_ret (v := .tuple #[.agg #[.string ⟨#[]⟩, .string ⟨#[]⟩, .string ⟨#[]⟩], .slice none 0 0]) (by simp [results, Tryz.results57, go_sem, q0, q1, q2]) rfl ⟨?_, ?_⟩
              · rw [hnone.out]; rfl
              · rw [← HP.out]; exact BZ
            · have i2 : (1 : Int) < (m2 : Int) := by omega
              have i3 : (2 : Int) ≤ (m2 : Int) := by omega
              obtain ⟨d, hdd⟩ : ∃ d, d = zs.getD 1 0 := ⟨_, rfl⟩
              have hzs2 : Hid (zs = 0 :: d :: zs.drop 2) := by
                show _ = _
                have := drop_at zs 1 (by omega)
                rw [← hdd] at this
                rw [← this]
                exact hzs.out
              have c1 : wr.cell? ⟨b2, off2 + 1, none⟩ = some (.int .u8 d) := by
                have h0 := hcell.out 1 (by omega)
                rw [← hdd] at h0
                have hb := World.block_lt_of_cell? w _ h0
                exact (B2.cell (by show b2 < p; rw [HP.out]; exact hb)).trans h0
              clear hdd hzs
              by_cases d255 : d = 255
              · subst d255
                have HC3 : Hid (cutL ys = (cutL (zs.drop 2)).map fun q => ((acc ++ [0]) ++ q.1, q.2)) := by
                  show _ = _
                  rw [HC2.out, hzs2.out, cutL_255]
                  exact map_more _ acc [0]
                obtain ⟨ad, had⟩ : ∃ ad : Addr, ad = (if c2 = 2 then ⟨b2, off2, none⟩ else ⟨b2, off2 + 2, none⟩) := ⟨_, rfl⟩
                have SC : Sl w (some ad) (m2 - 2) (c2 - 2) (zs.drop 2) := by rw [had]; exact cutC S2 2 (by omega)
                have HAD : Hid (ad = (if c2 = 2 then ⟨b2, off2, none⟩ else ⟨b2, off2 + 2, none⟩)) := had
                clear had
                go_wp2_with fail
                have E0 : Below wr.heap.size wr wr.drew := (Below.refl _ _).drew
                refine wp_region_noPanic ?_
                refine wp_region_held_drew (S := fun _ => True) (by kernel_rfl) (trivial) (fun H0 => ?_)
                obtain ⟨v0, hv0⟩ : ∃ v, v = wr.drew := ⟨_, rfl⟩
                rw [← hv0] at E0 ⊢
                have hv0h : v0.heap = wr.heap := by rw [hv0]; rfl
                clear hv0
                refine hr_take 0 (some 38) (u5) rfl rfl (by kernel_rfl) (by kernel_rfl) (by kernel_rfl) rfl (fun W hW => by go_simp) H0 ?_
                simp only [Act.put, List.setIfInBounds_toArray, List.set_cons_zero, List.set_cons_succ]
                refine hr_take 3 (some 41) (.slice (some ⟨b2, off2, none⟩) m2 c2) rfl rfl (by kernel_rfl) (by kernel_rfl) (by kernel_rfl) rfl (fun W hW => by go_simp) H0 ?_
                simp only [Act.put, List.setIfInBounds_toArray, List.set_cons_zero, List.set_cons_succ]
                refine hr_take 4 (some 42) (.slice (some ad) (m2 - 2) (c2 - 2)) rfl rfl (by kernel_rfl) (by kernel_rfl) (by kernel_rfl) rfl (fun W hW => by (go_simp <;> (rw [HAD.out]; by_cases hh : c2 = 2 <;> simp [hh]))) H0 ?_
                simp only [Act.put, List.setIfInBounds_toArray, List.set_cons_zero, List.set_cons_succ]
                obtain ⟨v1, hv1⟩ : ∃ v, v = v0.alloc (.cells #[.int .u8 0] 5) := ⟨_, rfl⟩
                obtain ⟨g1, hg1⟩ : ∃ g, g = v0.heap.size := ⟨_, rfl⟩
                have F1 : Below wr.heap.size wr v1 := by rw [hv1]; exact E0.alloc (E0.size) _
                have O1 : v1.ownsRow (p + 1) 5 1 u5 acc.length (bv acc) := by rw [hv1]; exact World.ownsRow.alloc (by unfold World.ownsRow; rw [hv0h]; exact O) _
                have X1 : Sl v1 (some ⟨g1, 0, none⟩) 1 1 [0] := by rw [hv1, hg1]; exact Sl.one v0 _ (by omega)
                have D1 : Below p w v1 := B2.trans (F1.mono (by omega))
                have H1 : True := trivial
                have y1 := F1.size
                refine hr_do 1 (some 39) (.slice (some ⟨g1, 0, none⟩) 1 1) rfl rfl (by kernel_rfl) rfl (w' := v1) (by rw [hv1, hg1]; go_simp) H1 ?_
                simp only [Act.put, List.setIfInBounds_toArray, List.set_cons_zero, List.set_cons_succ]
                clear hv1 hg1
                refine hr_app 2 (some 40) rfl rfl (by kernel_rfl) rfl (.tmp 38) (.tmp 39) rfl (p + 1) u5 acc.length acc rfl O1 _ 1 1 [0] rfl X1 (by omega) (by omega) ?_
                intro nv2 v2 O2 G2
                have D2 : Below p w v2 := D1.grown G2 (by omega) (fun k hk => by have := (O1.lt k hk).1; omega)
                have H2 : True := trivial
                have A2 : Hid (v2.heap[p]? = some (.cells (namesV ss).toArray 88)) := by
                  show _ = _
                  rw [G2.block p (by omega) (fun e => by have := (O1.lt p e.symm).1; omega), F1.block p (by omega)]
                  exact A.out
                refine ⟨H2, ?_⟩
                simp only [Act.put, List.setIfInBounds_toArray, List.set_cons_zero, List.set_cons_succ]
                refine hr_take 5 (some 5) (nv2) rfl rfl (by kernel_rfl) (by kernel_rfl) (by kernel_rfl) rfl (fun W hW => by go_simp) H2 ?_
                simp only [Act.put, List.setIfInBounds_toArray, List.set_cons_zero, List.set_cons_succ]
                refine hr_take 6 (some 0) (.slice (some ad) (m2 - 2) (c2 - 2)) rfl rfl (by kernel_rfl) (by kernel_rfl) (by kernel_rfl) rfl (fun W hW => by go_simp) H2 ?_
                simp only [Act.put, List.setIfInBounds_toArray, List.set_cons_zero]
                refine wpAnyH_done (by kernel_rfl) ?_ _
                refine NoPanic.normal ?_
                have O3 : v2.ownsRow (p + 1) 5 1 nv2 (acc ++ [0]).length (bv (acc ++ [0])) := by simpa using O2
                clear O O1 O2 A G2 H0 H1 H2 E0 F1 X1 D1 hv0h c0 c0d
                go_wp2
                go_roundg (m2 - 2)
                case measure => omega
                case rel => exact ⟨some ad, m2 - 2, c2 - 2, zs.drop 2, acc ++ [0], rfl, rfl, SC, O3, hby.append (by intro y hy; simp at hy; omega), by simp; omega, A2, D2, HC3⟩
              · have g255 : (d == 255) = false := by simp [d255]
                by_cases d1 : d = 1
                · subst d1
                  have HC3 : Hid (cutL ys = some (acc, zs.drop 2)) := by
                    show _ = _
                    rw [HC2.out, hzs2.out, cutL_one]
                    simp
                  obtain ⟨so, sc, rfl, SS, -⟩ := Sl.own O hby
                  obtain ⟨ad, had⟩ : ∃ ad : Addr, ad = (if c2 = 2 then ⟨b2, off2, none⟩ else ⟨b2, off2 + 2, none⟩) := ⟨_, rfl⟩
                  have SC : Sl w (some ad) (m2 - 2) (c2 - 2) (zs.drop 2) := by rw [had]; exact cutC S2 2 (by omega)
                  have HAD : Hid (ad = (if c2 = 2 then ⟨b2, off2, none⟩ else ⟨b2, off2 + 2, none⟩)) := had
                  clear had
                  have CD : (convert 25 9 (.slice so acc.length sc)).run Tryz.prog wr.drew = .ok (.string (strOfNums acc)) wr.drew := conv_str (SS.below (Below.refl _ _).drew)
                  go_wp2_with fail
                  have E0 : Below wr.heap.size wr wr.drew := (Below.refl _ _).drew
                  refine wp_region_noPanic ?_
                  refine wp_region_held_drew (S := fun V => (convert 25 9 (.slice so acc.length sc)).run Tryz.prog V = .ok (.string (strOfNums acc)) V) (by kernel_rfl) (CD) (fun H0 => ?_)
                  obtain ⟨v0, hv0⟩ : ∃ v, v = wr.drew := ⟨_, rfl⟩
                  rw [← hv0] at H0 E0 ⊢
                  have hv0h : v0.heap = wr.heap := by rw [hv0]; rfl
                  clear hv0
                  refine hr_take 0 (some 53) (.int .i64 j) rfl rfl (by kernel_rfl) (by kernel_rfl) (by kernel_rfl) rfl (fun W hW => by go_simp) H0 ?_
                  simp only [Act.put, List.setIfInBounds_toArray, List.set_cons_zero, List.set_cons_succ]
                  refine hr_take 1 (some 54) (.slice so acc.length sc) rfl rfl (by kernel_rfl) (by kernel_rfl) (by kernel_rfl) rfl (fun W hW => by go_simp) H0 ?_
                  simp only [Act.put, List.setIfInBounds_toArray, List.set_cons_zero, List.set_cons_succ]
                  refine hr_take 2 (some 55) (.string (strOfNums acc)) rfl rfl (by kernel_rfl) (by kernel_rfl) (by kernel_rfl) rfl (fun W hW => by go_simp) H0 ?_
                  simp only [Act.put, List.setIfInBounds_toArray, List.set_cons_zero, List.set_cons_succ]
                  refine hr_take 3 (some 56) (.slice (some ⟨b2, off2, none⟩) m2 c2) rfl rfl (by kernel_rfl) (by kernel_rfl) (by kernel_rfl) rfl (fun W hW => by go_simp) H0 ?_
                  simp only [Act.put, List.setIfInBounds_toArray, List.set_cons_zero, List.set_cons_succ]
                  refine hr_take 4 (some 57) (.slice (some ad) (m2 - 2) (c2 - 2)) rfl rfl (by kernel_rfl) (by kernel_rfl) (by kernel_rfl) rfl (fun W hW => by (go_simp <;> (rw [HAD.out]; by_cases hh : c2 = 2 <;> simp [hh]))) H0 ?_
                  simp only [Act.put, List.setIfInBounds_toArray, List.set_cons_zero, List.set_cons_succ]
                  refine hr_take 5 (some 58) (.pointer (some ⟨p, j, none⟩)) rfl rfl (by kernel_rfl) (by kernel_rfl) (by kernel_rfl) rfl (fun W hW => by go_simp) H0 ?_
                  simp only [Act.put, List.setIfInBounds_toArray, List.set_cons_zero, List.set_cons_succ]
                  have A0 : v0.heap[p]? = some (.cells (namesV ss).toArray 88) := by rw [hv0h]; exact A.out
                  have kj : v0.cell? ⟨p, j, none⟩ = some (.string (ss.getD j ⟨#[]⟩)) := by
                    rw [cell_of_row v0 p j _ _ _ A0]
                    have hjl : j < ss.length := by omega
                    simp [namesV, hjl, List.getD]
                  have fj : v0.frozen? ⟨p, j, none⟩ = false := frozen_of_row v0 p j _ _ A0
                  obtain ⟨v1, hv1⟩ : ∃ v, v = v0.setCell ⟨p, j, none⟩ (.string (strOfNums acc)) := ⟨_, rfl⟩
                  have A1 : Hid (v1.heap[p]? = some (.cells (namesV (ss.set j (strOfNums acc))).toArray 88)) := by
                    show _ = _
                    rw [hv1, heap_setCell_same v0 p j _ _ _ A0]
                    simp [namesV, List.map_set]
                  have G1 : v0.grownBy v1 (some p) := by
                    rw [hv1]
                    exact ⟨rfl, rfl, rfl, by simp, fun k _ hk => heap_setCell_other v0 _ k _ (fun e => hk (by rw [e]))⟩
                  have O1 : v1.ownsRow (p + 1) 5 1 (.slice so acc.length sc) acc.length (bv acc) := by
                    refine World.ownsRow.kept (w := v0) (by unfold World.ownsRow; rw [hv0h]; exact O) G1 (.inr fun e => ?_)
                    have := (O.lt _ e).1
                    omega
                  have H1 : (convert 25 9 (.slice so acc.length sc)).run Tryz.prog v1 = .ok (.string (strOfNums acc)) v1 := by
                    obtain ⟨so', sc', e', SS', -⟩ := Sl.own O1 hby
                    simp only [Value.slice.injEq] at e'
                    rw [e'.1, e'.2.2]
                    exact conv_str SS'
                  refine hr_skip 6 none rfl rfl (by kernel_rfl) rfl (w' := v1) (by rw [hv1]; go_simp) H1 ?_
                  simp only [Act.put]
                  have D1 : Below p w v1 := (B2.trans (E0.mono (by omega))).grown G1 (by have := E0.size; omega) (fun k hk => by have := Option.some.inj hk; omega)
                  clear hv1
                  refine hr_take 7 (some 0) (.slice (some ad) (m2 - 2) (c2 - 2)) rfl rfl (by kernel_rfl) (by kernel_rfl) (by kernel_rfl) rfl (fun W hW => by go_simp) H1 ?_
                  simp only [Act.put, List.setIfInBounds_toArray, List.set_cons_zero]
                  refine wpAnyH_done (by kernel_rfl) ?_ _
                  refine NoPanic.normal ?_
                  have HC4 : Hid (cutN 3 xs = (cutN g (zs.drop 2)).map fun q => (((ss.set j (strOfNums acc)).take (j + 1)).map sb ++ q.1, q.2)) := by
                    show _ = _
                    rw [HC.out, cutN, HC3.out]
                    have hjl : j < ss.length := by omega
                    have ht : ((ss.set j (strOfNums acc)).take (j + 1)).map sb = (ss.take j).map sb ++ [acc] := by
                      rw [List.take_succ_eq_append_getElem (by simpa using hjl), List.map_append, List.take_set_of_le (Nat.le_refl _)]
                      simp [sb_str hby]
                    rw [ht, Option.bind_some]
                    generalize cutN g (zs.drop 2) = o
                    cases o <;> simp
                  clear O O1 A A0 G1 H0 H1 E0 hv0h CD kj fj SS c0 c0d
                  go_wp2
                  go_roundg g
                  case measure => omega
                  case rel => exact ⟨j + 1, ss.set j (strOfNums acc), some ad, m2 - 2, c2 - 2, zs.drop 2, by omega, by go_num, rfl, by omega, SC, by simpa using hss, A1, D1, HC4⟩
                · have g1 : (d == 1) = false := by simp [d1]
                  have hnone : Hid (cutN 3 xs = none) := by
                    have e1 : cutL ys = none := by rw [HC2.out, hzs2.out, cutL_other _ d1 d255]; rfl
                    show _ = _
                    rw [HC.out, cutN, e1]
                    rfl
                  clear O HC0  hzs2
                  go_wp2
                  rw [Exit.noGoto_ret]
                  refine bodyPost_ret (v := .tuple #[.agg #[.string ⟨#[]⟩, .string ⟨#[]⟩, .string ⟨#[]⟩], .slice none 0 0]) (by simp [results, Tryz.results57, go_sem, q0, q1, q2]) rfl ⟨?_, ?_⟩
                  · rw [hnone.out]; rfl
                  · rw [← HP.out]; exact BZ
end Go.Proofs.YtnicnfjickknjaaGreatDoor

namespace Go.Proofs.YtnicnfjickknjaaGreatDoor
open Go.RowKit

/-- The key k lies in block p. -/
def KyC (V : World) (p : Nat) (k : KA) : Prop := V.heap[p]? = some (.cells #[.string k.row, .string k.fam, .string k.qual, .int .u64 k.time] 24)
theorem KyC.lt {V : World} {p : Nat} {k : KA} (h : KyC V p k) : p < V.heap.size := (Array.getElem?_eq_some_iff.1 h).1
theorem KyC.below {V V' : World} {p n : Nat} {k : KA} (h : KyC V p k) (hb : Below n V V') (hp : p < n) : KyC V' p k := (hb.block p hp).trans h
theorem KyC.keep {V V' : World} {p : Nat} {k : KA} (h : KyC V p k) (hb : Below V.heap.size V V') : KyC V' p k := h.below hb h.lt
theorem KyC.new (w : World) (k : KA) : KyC (w.alloc (.cells #[.string k.row, .string k.fam, .string k.qual, .int .u64 k.time] 24)) w.heap.size k := heap_alloc_new w _
theorem KyC.alloc {V : World} {p : Nat} {k : KA} (h : KyC V p k) (o : Obj) : KyC (V.alloc o) p k := (heap_alloc_old V o h.lt).trans h
theorem KyC.c0 {V : World} {p : Nat} {k : KA} (h : KyC V p k) : V.cell? ⟨p, 0, none⟩ = some (.string k.row) := cell_of_row V p 0 _ _ _ h
theorem KyC.c1 {V : World} {p : Nat} {k : KA} (h : KyC V p k) : V.cell? ⟨p, 1, none⟩ = some (.string k.fam) := cell_of_row V p 1 _ _ _ h
theorem KyC.c2 {V : World} {p : Nat} {k : KA} (h : KyC V p k) : V.cell? ⟨p, 2, none⟩ = some (.string k.qual) := cell_of_row V p 2 _ _ _ h
theorem KyC.c3 {V : World} {p : Nat} {k : KA} (h : KyC V p k) : V.cell? ⟨p, 3, none⟩ = some (.int .u64 k.time) := cell_of_row V p 3 _ _ _ h
end Go.Proofs.YtnicnfjickknjaaGreatDoor

namespace Go.Proofs.YtnicnfjickknjaaGreatDoor
open Go.RowKit

/-- The number of some bytes, the great ones first. -/
def beN : List Int → Nat → Nat
  | [], t => t
  | c :: r, t => beN r (t * 256 + c.toNat)
theorem beN_ofBe : ∀ (l : List Int), Byt l → ∀ t u, beN l t + ofBe l u + 1 = (t + u + 1) * 256 ^ l.length
  | [], _, t, u => by simp [beN, ofBe]
  | c :: r, h, t, u => by
    have hc := h c (List.mem_cons_self ..)
    have ih := beN_ofBe r (fun x hx => h x (List.mem_cons_of_mem _ hx)) (t * 256 + c.toNat) (u * 256 + (255 - c).toNat)
    have e : t * 256 + c.toNat + (u * 256 + (255 - c).toNat) + 1 = (t + u + 1) * 256 := by omega
    rw [beN, ofBe, ih, e, List.length_cons, Nat.pow_succ, Nat.mul_assoc, Nat.mul_comm 256]
theorem beN_append : ∀ (l : List Int) (c : Int) (t : Nat), beN (l ++ [c]) t = beN l t * 256 + c.toNat
  | [], c, t => rfl
  | a :: l, c, t => by rw [List.cons_append, beN, beN, beN_append l c]
theorem beN_lt (l : List Int) (h : Byt l) : beN l 0 < 256 ^ l.length := by
  have := beN_ofBe l h 0 0
  omega
theorem readL_cutN (b : List Int) : readL b = (cutN 3 b).bind fun q => match q.1 with
    | [r, f, g] => if q.2.length = 8 ∧ KV.right ⟨r, f, g, ofBe q.2 0⟩ then some ⟨r, f, g, ofBe q.2 0⟩ else none
    | _ => none := by
  unfold readL
  simp only [cutN]
  cases h1 : cutL b with
  | none => rfl
  | some p =>
    simp only [Option.bind_some]
    cases h2 : cutL p.2 with
    | none => rfl
    | some q =>
      simp only [Option.bind_some]
      cases h3 : cutL q.2 with
      | none => rfl
      | some r => rfl

theorem or_byte (L x : Nat) (hL : L < 72057594037927936) (hx : x < 256) : bits BinOp.or IntKind.u64 ((L : Int) * 256) (x : Int) = ((L * 256 + x : Nat) : Int) := by
  have h := bits_or_u64_nat (L * 256) x (by omega) (by omega)
  have e : L * 256 ||| x = L * 256 + x := by
    have := Nat.two_pow_add_eq_or_of_lt (i := 8) (b := x) (by omega) L
    rw [Nat.mul_comm]
    exact this.symm
  rw [← e]
  exact h

def zeroK : KA := ⟨⟨#[]⟩, ⟨#[]⟩, ⟨#[]⟩, 0⟩
def ReadPost (e : Ending) : Option KV → Prop
  | none => e = .returned (.tuple #[zeroK.val, .int .i64 5])
  | some kv => ∃ k : KA, e = .returned (.tuple #[k.val, .int .i64 0]) ∧ k.kv = kv ∧ k.ok

set_option maxHeartbeats 4000000 in
set_option maxRecDepth 100000 in
theorem pread_any (w : World) (ao : Option Addr) (n cap : Nat) (xs : List Int) (h : Sl w ao n cap xs) (hn : n ≤ 1000000) :
    Calls Tryz.prog 34 #[.slice ao n cap] w fun e w' => ReadPost e (readL xs) ∧ Below w.heap.size w w' := by
  have k1 : KyC (w.alloc (.cells #[.string ⟨#[]⟩, .string ⟨#[]⟩, .string ⟨#[]⟩, .int .u64 0] 24)) w.heap.size zeroK := heap_alloc_new w _
  have B1 : Below w.heap.size w (w.alloc (.cells #[.string ⟨#[]⟩, .string ⟨#[]⟩, .string ⟨#[]⟩, .int .u64 0] 24)) := (Below.refl _ w).alloc (Nat.le_refl _) _
  obtain ⟨N, hN⟩ : ∃ N, N = w.heap.size := ⟨_, rfl⟩
  go_enter Tryz.func34, Tryz.ntmps34
  go_wp2_with fail
  obtain ⟨w1, hw1⟩ : ∃ W, W = (w.alloc (.cells #[.string ⟨#[]⟩, .string ⟨#[]⟩, .string ⟨#[]⟩, .int .u64 0] 24)) := ⟨_, rfl⟩
  rw [← hw1] at k1 B1 ⊢
  have S1 := h.below B1
  rw [← hN] at k1 B1 ⊢
  refine (pcut_any w1 ao n cap xs S1 hn).mono ?_
  rintro e w2 ⟨P2, C⟩
  have HN : Hid (N = w.heap.size) := hN
  have B2 := B1.trans (C.mono (by have := B1.size; omega))
  have k2 := k1.keep C
  clear hN hw1 k1 B1 C S1
  have q0 := k2.c0
  have q1 := k2.c1
  have q2 := k2.c2
  have q3 := k2.c3
  have f0 : w2.frozen? ⟨N, 0, none⟩ = false := frozen_of_row w2 N 0 _ _ k2
  have f1 : w2.frozen? ⟨N, 1, none⟩ = false := frozen_of_row w2 N 1 _ _ k2
  have f2 : w2.frozen? ⟨N, 2, none⟩ = false := frozen_of_row w2 N 2 _ _ k2
  have f3 : w2.frozen? ⟨N, 3, none⟩ = false := frozen_of_row w2 N 3 _ _ k2
  have lt := k2.lt
  cases hc : cutN 3 xs with
  | none =>
    have HR : Hid (readL xs = none) := by show _ = _; rw [readL_cutN, hc]; rfl
    rw [hc] at P2
    obtain rfl : e = .returned (.tuple #[.agg #[.string ⟨#[]⟩, .string ⟨#[]⟩, .string ⟨#[]⟩], .slice none 0 0]) := P2
    clear hc
    have BX : Below N w (((((w2.setCell ⟨N, 0, none⟩ (.string ⟨#[]⟩)).setCell ⟨N, 1, none⟩ (.string ⟨#[]⟩)).setCell ⟨N, 2, none⟩ (.string ⟨#[]⟩)).setCell ⟨N, 3, none⟩ (.int .u64 0)).alloc (Obj.cells #[.string ⟨#[]⟩, .string ⟨#[]⟩, .string ⟨#[]⟩] 88)) := ((((B2.setCell (Nat.le_refl _) _).setCell (Nat.le_refl _) _).setCell (Nat.le_refl _) _).setCell (Nat.le_refl _) _).alloc (by simp; omega) _
    go_wp2
    exact bodyPost_ret (v := .tuple #[zeroK.val, .int .i64 5]) (by unfold KA.val zeroK; simp [results, Tryz.results34, go_sem, q0, q1, q2, q3, lt]) rfl ⟨by rw [HR.out]; rfl, by rw [← HN.out]; exact BX⟩
  | some q =>
    rw [hc] at P2
    obtain ⟨ss, bo, m, c, rfl, hss, hm, S2⟩ := P2
    obtain ⟨s0, s1, s2, rfl⟩ : ∃ s0 s1 s2, ss = [s0, s1, s2] := by
      match ss, hss with
      | [a, b, c], _ => exact ⟨a, b, c, rfl⟩
    obtain ⟨nm3, ys⟩ := q
    simp only [List.map_cons, List.map_nil] at hm
    subst hm
    have hl := S2.len
    rw [show (namesV [s0, s1, s2]).toArray = #[.string s0, .string s1, .string s2] from rfl]
    by_cases h8 : m = 8
    · subst h8
      obtain ⟨b2, off2, rfl, hcell0⟩ := S2.at (by omega)
      have hb2 : b2 < w2.heap.size := World.block_lt_of_cell? w2 _ (hcell0 0 (by omega))
      obtain ⟨w3, hw3⟩ : ∃ W, W = w2.alloc (Obj.cells #[.string s0, .string s1, .string s2] 88) := ⟨_, rfl⟩
      have C3 : Below w2.heap.size w2 w3 := by rw [hw3]; exact (Below.refl _ _).alloc (Nat.le_refl _) _
      have hcell : Hid (∀ i, i < 8 → w3.cell? ⟨b2, off2 + i, none⟩ = some (.int .u8 (ys.getD i 0))) := fun i hi => (C3.cell (by exact hb2)).trans (hcell0 i hi)
      clear hcell0
      have HY : Hid (Byt ys) := S2.byte
      obtain ⟨M, hM⟩ : ∃ M, M = w2.heap.size := ⟨_, rfl⟩
      have e3 : w3.heap[M]? = some (.cells #[.string s0, .string s1, .string s2] 88) := by rw [hw3, hM]; exact heap_alloc_new w2 _
      have k3 := k2.keep C3
      have B3 := B2.trans (C3.mono (by have := B2.size; have := HN.out; omega))
      go_wp2_with fail
      rw [← hw3, ← hM]
      clear hw3 hM q0 q1 q2 q3 f0 f1 f2 f3 k2 B2 C3
      go_loopw [6, 8, 22] (fun lk _ i wr => wr = w3 ∧ ∃ j : Nat, j ≤ 8 ∧ i = .int .i64 j ∧ lk = .int .u64 (beN (ys.take j) 0)) (fun _ _ i _ => 8 - (intOf i).toNat)
      case atStart => exact ⟨rfl, 0, by omega, rfl, rfl⟩
      case round =>
        obtain ⟨rfl, j, hj, rfl, rfl⟩ := hrel
        by_cases l : j < 8
        · have il : (j : Int) < 8 := by omega
          obtain ⟨x, hx⟩ : ∃ x : Nat, x = (ys.getD j 0).toNat := ⟨_, rfl⟩
          have hxb := HY.out.at j
          have hxe : ys.getD j 0 = (x : Int) := by rw [hx, Int.toNat_of_nonneg]; simpa [List.getD] using hxb.1
          have hx8 : x < 256 := by have : ys.getD j 0 ≤ 255 := by simpa [List.getD] using hxb.2
                                   omega
          have cj := hcell.out j l
          rw [hxe] at cj
          have hjl : j < ys.length := by omega
          have htk : Hid (beN (ys.take (j + 1)) 0 = beN (ys.take j) 0 * 256 + x) := by
            show _ = _
            rw [List.take_succ_eq_append_getElem hjl, beN_append, hx]
            simp [List.getD, hjl]
          have hlt : beN (ys.take j) 0 < 256 ^ j := by
            have := beN_lt (ys.take j) (HY.out.take j)
            rwa [List.length_take, Nat.min_eq_left (by omega)] at this
          have hlt2 : 256 ^ j ≤ 72057594037927936 := Nat.le_trans (Nat.pow_le_pow_right (by omega) (show j ≤ 7 by omega)) (by decide)
          obtain ⟨L, hL⟩ : ∃ L, L = beN (ys.take j) 0 := ⟨_, rfl⟩
          rw [← hL] at htk hlt ⊢
          have L7 : L < 72057594037927936 := by omega
          clear hL hlt hlt2 hx hxb hxe
          have hor : bits BinOp.or IntKind.u64 ((L : Int) * 256) (x : Int) = ((L * 256 + x : Nat) : Int) := or_byte L x L7 hx8
          go_wp2
          go_roundw
          case rel => exact ⟨trivial, j + 1, by omega, by go_num, by rw [htk.out] <;> go_num⟩
          case measure => simp [intOf]; omega
        · obtain rfl : j = 8 := by omega
          have htk : ys.take 8 = ys := List.take_of_length_le (by omega)
          rw [htk]
          have hsum := beN_ofBe ys HY.out 0 0
          rw [hl] at hsum
          obtain ⟨L, hL⟩ : ∃ L, L = beN ys 0 := ⟨_, rfl⟩
          obtain ⟨T, hT⟩ : ∃ T, T = ofBe ys 0 := ⟨_, rfl⟩
          rw [← hL] at hsum ⊢
          rw [← hT] at hsum
          have hT2 : T < 18446744073709551616 := by simp at hsum; omega
          have hLT : 18446744073709551615 - (L : Int) = (T : Int) := by simp at hsum; omega
          have HT : Hid (T = ofBe ys 0) := hT
          clear hsum hT hL htk hcell
          have q0 : wr.cell? ⟨M, 0, none⟩ = some (.string s0) := cell_of_row wr M 0 _ _ _ e3
          have q1 : wr.cell? ⟨M, 1, none⟩ = some (.string s1) := cell_of_row wr M 1 _ _ _ e3
          have q2 : wr.cell? ⟨M, 2, none⟩ = some (.string s2) := cell_of_row wr M 2 _ _ _ e3
          obtain ⟨k, hk⟩ : ∃ k : KA, k = ⟨s0, s1, s2, T⟩ := ⟨_, rfl⟩
          have k4 : KyC (wr.alloc (.cells #[.string s0, .string s1, .string s2, .int .u64 T] 24)) wr.heap.size k := by rw [hk]; exact heap_alloc_new wr _
          have z4 := k3.alloc (.cells #[.string s0, .string s1, .string s2, .int .u64 T] 24)
          have B4 := B3.alloc (by have := k3.lt; omega) (.cells #[.string s0, .string s1, .string s2, .int .u64 T] 24)
          have HV : Hid (k.val = .agg #[.string s0, .string s1, .string s2, .int .u64 T]) := by rw [hk]; rfl
          have HKV : Hid (k.kv = ⟨sb s0, sb s1, sb s2, ofBe ys 0⟩) := by rw [hk, ← HT.out]; rfl
          have HR : Hid (readL xs = if k.isRight = true then some k.kv else none) := by
            show _ = _
            rw [readL_cutN, hc, KA.isRight_kv, HKV.out]
            show (if ys.length = 8 ∧ KV.right ⟨sb s0, sb s1, sb s2, ofBe ys 0⟩ then some _ else none) = _
            by_cases hr : KV.right ⟨sb s0, sb s1, sb s2, ofBe ys 0⟩
            · rw [if_pos ⟨hl, hr⟩, decide_eq_true hr]; rfl
            · rw [if_neg (fun h => hr h.2), decide_eq_false hr]; rfl
          have HOK : Hid (k.isRight = true → k.ok) := fun hr => by
            have hsz := of_decide_eq_true hr
            have ht : k.time = T := by rw [hk]
            exact ⟨by unfold maxLen; omega, by unfold maxLen; omega, by unfold maxLen; omega, by omega⟩
          obtain ⟨P, hP⟩ : ∃ P, P = wr.heap.size := ⟨_, rfl⟩
          have hPN : N < P := by rw [hP]; exact k3.lt
          go_wp2_with fail
          rw [← HV.out]
          refine (pright_any _ k).mono ?_
          rintro e w5 ⟨rfl, C⟩
          have k5 := k4.keep C
          have z5 := z4.keep C
          have B5 := B4.trans (C.mono (by have := B4.size; have := HN.out; omega))
          rw [← hP] at k5 ⊢
          clear C k4 z4 B4 k3 B3 e3 q0 q1 q2 hc hP hLT
          rw [HV.out]
          have r0 := z5.c0
          have r1 := z5.c1
          have r2 := z5.c2
          have r3 := z5.c3
          have f0 : w5.frozen? ⟨N, 0, none⟩ = false := frozen_of_row w5 N 0 _ _ z5
          have f1 : w5.frozen? ⟨N, 1, none⟩ = false := frozen_of_row w5 N 1 _ _ z5
          have f2 : w5.frozen? ⟨N, 2, none⟩ = false := frozen_of_row w5 N 2 _ _ z5
          have f3 : w5.frozen? ⟨N, 3, none⟩ = false := frozen_of_row w5 N 3 _ _ z5
          by_cases hr : k.isRight = true
          · have hk0 : k.kind = 0 := by unfold KA.kind; rw [hr]; rfl
            have HR2 : Hid (readL xs = some k.kv) := by rw [HR.out, if_pos hr]; rfl
            have ok := HOK.out hr
            have p0 : w5.cell? ⟨P, 0, none⟩ = some (.string s0) := by have := k5.c0; rwa [hk] at this
            have p1 : w5.cell? ⟨P, 1, none⟩ = some (.string s1) := by have := k5.c1; rwa [hk] at this
            have p2 : w5.cell? ⟨P, 2, none⟩ = some (.string s2) := by have := k5.c2; rwa [hk] at this
            have p3 : w5.cell? ⟨P, 3, none⟩ = some (.int .u64 T) := by have := k5.c3; rwa [hk] at this
            rw [hk0]
            clear hk0 HR HOK hr hk
            have BX : Below N w ((((w5.setCell ⟨N, 0, none⟩ (.string s0)).setCell ⟨N, 1, none⟩ (.string s1)).setCell ⟨N, 2, none⟩ (.string s2)).setCell ⟨N, 3, none⟩ (.int .u64 T)) := (((B5.setCell (Nat.le_refl _) _).setCell (Nat.le_refl _) _).setCell (Nat.le_refl _) _).setCell (Nat.le_refl _) _
            go_wp2
            exact bodyPost_ret (v := .tuple #[.agg #[.string s0, .string s1, .string s2, .int .u64 T], .int .i64 0]) (by simp [results, Tryz.results34, go_sem, r0, r1, r2, r3]) rfl ⟨by rw [HR2.out]; exact ⟨k, by rw [HV.out], rfl, ok⟩, by rw [← HN.out]; exact BX⟩
          · have hk0 : k.kind = 5 := by unfold KA.kind; rw [if_neg hr]
            have HR2 : Hid (readL xs = none) := by rw [HR.out, if_neg hr]; rfl
            rw [hk0]
            clear hk0 HR HOK hr hk
            have BX : Below N w ((((w5.setCell ⟨N, 0, none⟩ (.string ⟨#[]⟩)).setCell ⟨N, 1, none⟩ (.string ⟨#[]⟩)).setCell ⟨N, 2, none⟩ (.string ⟨#[]⟩)).setCell ⟨N, 3, none⟩ (.int .u64 0)) := (((B5.setCell (Nat.le_refl _) _).setCell (Nat.le_refl _) _).setCell (Nat.le_refl _) _).setCell (Nat.le_refl _) _
            go_wp2
            exact bodyPost_ret (v := .tuple #[zeroK.val, .int .i64 5]) (by unfold KA.val zeroK; simp [results, Tryz.results34, go_sem, r0, r1, r2, r3]) rfl ⟨by rw [HR2.out]; rfl, by rw [← HN.out]; exact BX⟩
    · have HR : Hid (readL xs = none) := by
        show _ = _
        rw [readL_cutN, hc]
        exact if_neg (fun h => h8 (by rw [← hl]; exact h.1))
      have e8 : ((m : Int) == 8) = false := by simp; omega
      have e9 : ((m : Int) != 8) = true := by simp; omega
      clear hc
      have BX : Below N w (((((w2.setCell ⟨N, 0, none⟩ (.string ⟨#[]⟩)).setCell ⟨N, 1, none⟩ (.string ⟨#[]⟩)).setCell ⟨N, 2, none⟩ (.string ⟨#[]⟩)).setCell ⟨N, 3, none⟩ (.int .u64 0)).alloc (Obj.cells #[.string s0, .string s1, .string s2] 88)) := ((((B2.setCell (Nat.le_refl _) _).setCell (Nat.le_refl _) _).setCell (Nat.le_refl _) _).setCell (Nat.le_refl _) _).alloc (by simp; omega) _
      go_wp2
      exact bodyPost_ret (v := .tuple #[zeroK.val, .int .i64 5]) (by unfold KA.val zeroK; simp [results, Tryz.results34, go_sem, q0, q1, q2, q3, lt]) rfl ⟨by rw [HR.out]; rfl, by rw [← HN.out]; exact BX⟩
end Go.Proofs.YtnicnfjickknjaaGreatDoor

namespace Go.Proofs.YtnicnfjickknjaaGreatDoor
open Go.RowKit

set_option maxHeartbeats 400000 in
set_option maxRecDepth 100000 in
theorem bclone_any (w : World) (ao : Option Addr) (n cap : Nat) (xs : List Int) (h : Sl w ao n cap xs) (hn : n ≤ 1000000) :
    Calls Tryz.prog 37 #[.slice ao n cap] w (RetB w n xs) := by
  cases ao with
  | none =>
    obtain ⟨rfl, rfl⟩ := h.nil rfl
    obtain rfl : xs = [] := List.eq_nil_of_length_eq_zero h.len
    have hq : ∀ W, _ := fun W => Lib.run_eql_slice_nil (P := Tryz.prog) W 25 5 none 0 0 0 0 Tryz.underlying25
    go_enter Tryz.func37, Tryz.ntmps37
    go_wp2
    go_ret
    exact ⟨none, 0, rfl, Sl.nothing w, Below.refl _ _⟩
  | some a =>
    have B0 : Below w.heap.size w (w.alloc (.cells #[] 5)) := (Below.refl _ w).alloc (Nat.le_refl _) _
    have h0 := h.below B0
    have o0 := own_nothing w
    have hb := h.byte
    have hq : ∀ W, _ := fun W => Lib.run_eql_slice_nil (P := Tryz.prog) W 25 5 (some a) n cap 0 0 Tryz.underlying25
    go_enter Tryz.func37, Tryz.ntmps37
    go_wp2_with (at_builtin; refine wpList_app rfl _ _ rfl w.heap.size _ _ _ rfl o0 _ _ _ _ rfl h0 (by omega) (by simp) ?_; intro v1 w1 own1 B1)
    simp only [Nat.zero_add, List.nil_append] at own1
    obtain ⟨ro, rc, rfl, S, -⟩ := Sl.own own1 hb
    go_wp2
    go_ret
    exact ⟨ro, rc, rfl, S, B0.trans B1⟩
end Go.Proofs.YtnicnfjickknjaaGreatDoor

namespace Go.Proofs.YtnicnfjickknjaaGreatDoor
open Go.RowKit

/-- Is it a value's form? -/
def isValB : List Int → Bool
  | [] => false
  | b :: v => decide (b = 0 ∧ v.length ≤ 256)

theorem KpB.wr {w w' : World} {p : Nat} {t : TypeId} {cs : List Value} (h : Arr w p t cs) (ht : t ≠ 5) (k : Wr p w w') : KpB w w' := fun b cur hb => by
  refine (k.block b (Array.getElem?_eq_some_iff.1 hb).1 fun e => ?_).trans hb
  subst e
  have := (show w.heap[b]? = _ from h).symm.trans hb
  simp only [Option.some.injEq, Obj.cells.injEq] at this
  exact ht this.2.1
set_option maxHeartbeats 400000 in
set_option maxRecDepth 100000 in
theorem bcloneT_any (w : World) (ao : Option Addr) (n cap : Nat) (xs : List Int) (h : Sl w ao n cap xs) (hn : n ≤ 1000000) :
    Calls Tryz.prog 37 #[.slice ao n cap] w fun e w' => ∃ ro rc, e = .returned (.slice ro n rc) ∧ SlT w' ⟨ro, n, rc, xs⟩ ∧ Below w.heap.size w w' := by
  cases ao with
  | none =>
    obtain ⟨rfl, rfl⟩ := h.nil rfl
    obtain rfl : xs = [] := List.eq_nil_of_length_eq_zero h.len
    have hq : ∀ W, _ := fun W => Lib.run_eql_slice_nil (P := Tryz.prog) W 25 5 none 0 0 0 0 Tryz.underlying25
    go_enter Tryz.func37, Tryz.ntmps37
    go_wp2
    go_ret
    exact ⟨none, 0, rfl, ⟨Sl.nothing w, fun a ha => by simp at ha⟩, Below.refl _ _⟩
  | some a =>
    have B0 : Below w.heap.size w (w.alloc (.cells #[] 5)) := (Below.refl _ w).alloc (Nat.le_refl _) _
    have h0 := h.below B0
    have o0 := own_nothing w
    have hb := h.byte
    have hq : ∀ W, _ := fun W => Lib.run_eql_slice_nil (P := Tryz.prog) W 25 5 (some a) n cap 0 0 Tryz.underlying25
    go_enter Tryz.func37, Tryz.ntmps37
    go_wp2_with (at_builtin; refine wpList_app rfl _ _ rfl w.heap.size _ _ _ rfl o0 _ _ _ _ rfl h0 (by omega) (by simp) ?_; intro v1 w1 own1 B1)
    simp only [Nat.zero_add, List.nil_append] at own1
    obtain ⟨ro, rc, rfl, S⟩ := SlT.own own1 hb
    go_wp2
    go_ret
    exact ⟨ro, rc, rfl, S, B0.trans B1⟩
set_option maxHeartbeats 1000000 in
theorem isval_any (w : World) (ao : Option Addr) (n cap : Nat) (xs : List Int) (h : Sl w ao n cap xs) (hn : n ≤ 1000000) :
    Calls Tryz.prog 36 #[.slice ao n cap] w fun e w' => e = .returned (.bool (isValB xs)) ∧ w' = w := by
  have hl := h.len
  cases xs with
  | nil =>
    obtain rfl : n = 0 := by simpa using hl.symm
    go_enter Tryz.func36, Tryz.ntmps36
    go_wp2
    go_ret
    exact ⟨rfl, rfl⟩
  | cons b v =>
    have hv : v.length + 1 = n := by simpa using hl
    obtain ⟨ab, off, rfl, hc⟩ := h.at (by omega)
    have c0 := hc 0 (by omega)
    rw [Nat.add_zero, show (b :: v).getD 0 0 = b from rfl] at c0
    have hpos : (0 : Int) < (n : Int) := by omega
    have hnw : IntKind.i64.wrap ((n : Int) - 1) = (n : Int) - 1 := by simp [IntKind.wrap, IntKind.bits, IntKind.signed]; omega
    clear hc hl
    by_cases e0 : b = 0
    · have t0 : (b == 0) = true := by simp [e0]
      by_cases e1 : v.length ≤ 256
      · have HR : Hid (isValB (b :: v) = true) := decide_eq_true ⟨e0, e1⟩
        have t1 : (n : Int) - 1 ≤ 256 := by omega
        clear e0 e1
        go_enter Tryz.func36, Tryz.ntmps36
        go_wp2
        go_ret
        exact ⟨by rw [HR.out] <;> rfl, rfl⟩
      · have HR : Hid (isValB (b :: v) = false) := decide_eq_false fun h => e1 h.2
        have t1 : ¬ ((n : Int) - 1 ≤ 256) := by omega
        clear e0 e1
        go_enter Tryz.func36, Tryz.ntmps36
        go_wp2
        go_ret
        exact ⟨by rw [HR.out] <;> rfl, rfl⟩
    · have t0 : (b == 0) = false := by simp [e0]
      have HR : Hid (isValB (b :: v) = false) := decide_eq_false fun h => e0 h.1
      clear e0
      go_enter Tryz.func36, Tryz.ntmps36
      go_wp2
      go_ret
      exact ⟨by rw [HR.out] <;> rfl, rfl⟩

theorem size1u (w : World) : (sizeOf 5).run Tryz.prog w = .ok 1 w := by
  have hI := u8info
  cases hi : Tryz.prog.info? 5 with
  | none => rw [hi] at hI; simp at hI
  | some i =>
    rw [hi] at hI
    simp only [Option.map_some, Option.some.injEq, Prod.mk.injEq] at hI
    simp [sizeOf, typeInfo, hi, hI.2.1]
theorem run_tail1 {W : World} {a : Addr} {n cap : Nat} (h1 : 1 ≤ n) :
    (Instr.sliceAt 25 (.slice (some a) n cap) (some (.int .i64 1)) none none).run Tryz.prog W = .ok (.slice (some (if cap = 1 then a else a.add 1)) (n - 1) (cap - 1)) W := by
  have ht := Tryz.underlying25
  have he : Tryz.prog.elem 25 = 5 := by simp [Program.elem, ht]
  have := run_slice_l W 25 (some a) n cap (by rw [he]; exact ht) .i64 1 (by omega) (by omega)
  rw [run_sliceAt_slice W 25 _ _ _ _ (by rw [he]; exact ht), this, he, size1u]
  simp only [Result.andThen_ok, sliced]
  by_cases hc : cap = 1
  · simp [hc]
  · simp [hc]

def zeroC : CV := ⟨⟨#[]⟩, ⟨#[]⟩, ⟨#[]⟩, 0, [], false⟩
/-- What Cell says of an item. -/
def CellAns (x : It) (c : CV) (kd : Int) : Prop :=
  (readL x.k = none ∧ c = zeroC ∧ kd = 5) ∨
  (readL x.k = some c.kv ∧ c.time < 18446744073709551616 ∧ kd = 0 ∧ ((x.v = [1] ∧ c.gone = true ∧ c.value = []) ∨ (x.v = 0 :: c.value ∧ c.value.length ≤ 256 ∧ c.gone = false))) ∨
  (readL x.k ≠ none ∧ x.v ≠ [1] ∧ isValB x.v = false ∧ c = zeroC ∧ kd = 3)
def CellPost (w : World) (x : It) (e : Ending) (w' : World) : Prop := ∃ (c : CA) (kd : Int), e = .returned (.tuple #[c.val, .int .i64 kd]) ∧ CellAns x c.c kd ∧ c.ok w' ∧ SlT w' ⟨c.va.ao, c.va.n, c.va.cap, c.va.xs⟩ ∧ Below w.heap.size w w'
theorem CellAns.unique {x : It} {c d : CV} {i j : Int} (h : CellAns x c i) (k : CellAns x d j) : c = d ∧ i = j := by
  rcases h with ⟨a1, rfl, rfl⟩ | ⟨a1, -, rfl, a2⟩ | ⟨a1, a2, a3, rfl, rfl⟩ <;> rcases k with ⟨b1, rfl, rfl⟩ | ⟨b1, -, rfl, b2⟩ | ⟨b1, b2, b3, rfl, rfl⟩
  · exact ⟨rfl, rfl⟩
  · rw [a1] at b1; simp at b1
  · exact absurd a1 b1
  · rw [a1] at b1; simp at b1
  · rw [a1] at b1
    obtain ⟨h1, h2, h3, h4⟩ := CV.kv_eq (Option.some.inj b1)
    have hh : c.gone = d.gone ∧ c.value = d.value := by
      rcases a2 with ⟨e1, e2, e3⟩ | ⟨e1, e2, e3⟩ <;> rcases b2 with ⟨g1, g2, g3⟩ | ⟨g1, g2, g3⟩
      · exact ⟨by rw [e2, g2], by rw [e3, g3]⟩
      · rw [e1] at g1; simp at g1
      · rw [e1] at g1; simp at g1
      · rw [e1] at g1; exact ⟨by rw [e3, g3], by simpa using g1⟩
    obtain ⟨h5, h6⟩ := hh
    refine ⟨?_, rfl⟩
    cases c; cases d
    simp only at h1 h2 h3 h4 h5 h6
    subst h1 h2 h3 h4 h5 h6
    rfl
  · rcases a2 with ⟨e1, -, -⟩ | ⟨e1, e2, -⟩
    · exact absurd e1 b2
    · rw [e1] at b3; simp [isValB] at b3; omega
  · exact absurd b1 a1
  · rcases b2 with ⟨e1, -, -⟩ | ⟨e1, e2, -⟩
    · exact absurd e1 a2
    · rw [e1] at a3; simp [isValB] at a3; omega
  · exact ⟨rfl, rfl⟩
theorem CellAns.itm {c : CV} (h : c.good) : CellAns (itm c) c 0 := by
  refine .inr (.inl ⟨readL_keyL c.kv (CV.kvByt h.time) h.right, h.time, rfl, ?_⟩)
  show (itV c = [1] ∧ _) ∨ _
  unfold itV
  cases hg : c.gone
  · exact .inr ⟨by show (if c.gone then _ else _) = _; rw [hg]; rfl, h.val, rfl⟩
  · exact .inl ⟨rfl, rfl, h.gone hg⟩

set_option maxHeartbeats 4000000 in
set_option maxRecDepth 100000 in
theorem tcell_any (w : World) (x : It) (ko vo : Option Addr) (kn kc vn vc : Nat) (hk : Sl w ko kn kc x.k) (hv : Sl w vo vn vc x.v) (hkn : kn ≤ 1000000) (hvn : vn ≤ 1000000) :
    Calls Tryz.prog 12 #[.agg #[.slice ko kn kc, .slice vo vn vc]] w (CellPost w x) := by
  obtain ⟨W1, hW1⟩ : ∃ V, V = w.alloc (.cells #[.slice ko kn kc, .slice vo vn vc] 29) := ⟨_, rfl⟩
  obtain ⟨W2, hW2⟩ : ∃ V, V = W1.alloc (.cells #[.string ⟨#[]⟩, .string ⟨#[]⟩, .string ⟨#[]⟩, .int .u64 0, .slice none 0 0, .bool false] 27) := ⟨_, rfl⟩
  have B1 : Below w.heap.size w W1 := by rw [hW1]; exact (Below.refl _ _).alloc (Nat.le_refl _) _
  have C2 : Below W1.heap.size W1 W2 := by rw [hW2]; exact (Below.refl _ _).alloc (Nat.le_refl _) _
  have B2 := B1.trans (C2.mono B1.size)
  have s1 : W1.heap.size = w.heap.size + 1 := by rw [hW1]; exact Array.size_push ..
  have A1' : Arr W1 w.heap.size 29 [.slice ko kn kc, .slice vo vn vc] := by rw [hW1]; exact heap_alloc_new w _
  have I2 := arr_below A1' C2
  have R2 : Arr W2 (w.heap.size + 1) 27 [.string ⟨#[]⟩, .string ⟨#[]⟩, .string ⟨#[]⟩, .int .u64 0, .slice none 0 0, .bool false] := by rw [hW2, ← s1]; exact heap_alloc_new W1 _
  have CR := pread_any W2 ko kn kc x.k (hk.below B2) hkn
  clear A1' s1 C2 B1
  go_enter Tryz.func12, Tryz.ntmps12
  go_wp2_with fail
  rw [← hW1, ← hW2]
  clear hW1 hW2
  refine CR.mono ?_
  rintro e w3 ⟨RP, C3⟩
  have B3 := B2.trans (C3.mono B2.size)
  have I3 := arr_below I2 C3
  have R3 := arr_below R2 C3
  have lt3 := R3.lt
  clear CR I2 R2
  cases hrd : readL x.k with
  | none =>
    rw [hrd] at RP
    obtain rfl : e = .returned (.tuple #[zeroK.val, .int .i64 5]) := RP
    unfold KA.val zeroK
    have R4 := R3
    have r0 : w3.cell? ⟨w.heap.size + 1, 0, none⟩ = some (.string ⟨#[]⟩) := R4.cell 0
    have f0 := R4.free 0
    have r1 : w3.cell? ⟨w.heap.size + 1, 1, none⟩ = some (.string ⟨#[]⟩) := R4.cell 1
    have f1 := R4.free 1
    have r2 : w3.cell? ⟨w.heap.size + 1, 2, none⟩ = some (.string ⟨#[]⟩) := R4.cell 2
    have f2 := R4.free 2
    have r3 : w3.cell? ⟨w.heap.size + 1, 3, none⟩ = some (.int .u64 0) := R4.cell 3
    have f3 := R4.free 3
    have r4 : w3.cell? ⟨w.heap.size + 1, 4, none⟩ = some (.slice none 0 0) := R4.cell 4
    have f4 := R4.free 4
    have r5 : w3.cell? ⟨w.heap.size + 1, 5, none⟩ = some (.bool false) := R4.cell 5
    have f5 := R4.free 5
    have HRD : Hid (readL x.k = none) := hrd
    clear hrd
    go_wp2
    exact bodyPost_ret (v := .tuple #[.agg #[.string ⟨#[]⟩, .string ⟨#[]⟩, .string ⟨#[]⟩, .int .u64 0, .slice none 0 0, .bool false], .int .i64 5]) (by simp [results, Tryz.results12, go_sem, r0, r1, r2, r3, r4, r5, lt3]) rfl ⟨⟨⟨#[]⟩, ⟨#[]⟩, ⟨#[]⟩, 0, ⟨none, 0, 0, []⟩, false⟩, 5, rfl, .inl ⟨HRD.out, rfl, rfl⟩, ⟨Nat.zero_le _, Nat.zero_le _, Nat.zero_le _, by decide, Sl.nothing _⟩, ⟨Sl.nothing _, fun a ha => by simp at ha⟩, Wr.below B3 ((((((((Wr.refl _ _).set 0 _).set 1 _).set 2 _).set 3 _).set 4 _).set 5 _).alloc _) B3.size (Nat.le_succ _)⟩
  | some kv =>
    rw [hrd] at RP
    obtain ⟨k, rfl, hkv, hko⟩ : ∃ k : KA, e = .returned (.tuple #[k.val, .int .i64 0]) ∧ k.kv = kv ∧ k.ok := RP
    have HRD : Hid (readL x.k = some k.kv) := by show _ = _; rw [hrd, hkv]
    clear hrd hkv
    unfold KA.val
    obtain ⟨w4, hw4⟩ : ∃ V, V = w3.alloc (.cells #[.string k.row, .string k.fam, .string k.qual, .int .u64 k.time] 24) := ⟨_, rfl⟩
    have C4 : Below w3.heap.size w3 w4 := by rw [hw4]; exact (Below.refl _ _).alloc (Nat.le_refl _) _
    have I4 := arr_below I3 C4
    have R4 := arr_below R3 C4
    have K4 : Arr w4 w3.heap.size 24 [.string k.row, .string k.fam, .string k.qual, .int .u64 k.time] := by rw [hw4]; exact heap_alloc_new w3 _
    have i1 : (w3.alloc (.cells #[.string k.row, .string k.fam, .string k.qual, .int .u64 k.time] 24)).cell? ⟨w.heap.size, 1, none⟩ = some (.slice vo vn vc) := by rw [← hw4]; exact I4.cell 1
    have s4 : w4.heap.size = w3.heap.size + 1 := by rw [hw4]; exact Array.size_push ..
    obtain ⟨w5, hw5⟩ : ∃ V, V = w4.alloc (.cells #[.int .u8 1] 5) := ⟨_, rfl⟩
    have C5 : Below w4.heap.size w4 w5 := by rw [hw5]; exact (Below.refl _ _).alloc (Nat.le_refl _) _
    have S5 : Sl w5 (some ⟨w3.heap.size + 1, 0, none⟩) 1 1 [1] := by rw [hw5, ← s4]; exact Sl.one w4 1 (by omega)
    have B5 := (B3.trans (C4.mono B3.size)).trans (C5.mono (by have := B3.size; have := C4.size; omega))
    have I5 := arr_below I4 C5
    have R5 := arr_below R4 C5
    have K5 := arr_below K4 C5
    have CE := pequal_any w5 vo (some ⟨w3.heap.size + 1, 0, none⟩) vn vc 1 1 x.v [1] (hv.below B5) S5
    go_wp2_with fail
    rw [← hw4, ← hw5]
    refine CE.mono ?_
    rintro e w6 ⟨rfl, hw6⟩
    obtain rfl := hw6.symm
    clear CE hw4 hw5 S5 s4 I4 R4 K4 C4 C5 i1 I3 R3
    have i1 : w5.cell? ⟨w.heap.size, 1, none⟩ = some (.slice vo vn vc) := I5.cell 1
    have q0 : w5.cell? ⟨w3.heap.size, 0, none⟩ = some (.string k.row) := K5.cell 0
    have q1 : w5.cell? ⟨w3.heap.size, 1, none⟩ = some (.string k.fam) := K5.cell 1
    have q2 : w5.cell? ⟨w3.heap.size, 2, none⟩ = some (.string k.qual) := K5.cell 2
    have q3 : w5.cell? ⟨w3.heap.size, 3, none⟩ = some (.int .u64 k.time) := K5.cell 3
    have lt5 := R5.lt
    by_cases hx : x.v = [1]
    · have HX : Hid (x.v = [1]) := hx
      rw [decide_eq_true hx]
      clear hx
      have r0 : w5.cell? ⟨w.heap.size + 1, 0, none⟩ = some (.string ⟨#[]⟩) := R5.cell 0
      have f0 := R5.free 0
      have r1 : w5.cell? ⟨w.heap.size + 1, 1, none⟩ = some (.string ⟨#[]⟩) := R5.cell 1
      have f1 := R5.free 1
      have r2 : w5.cell? ⟨w.heap.size + 1, 2, none⟩ = some (.string ⟨#[]⟩) := R5.cell 2
      have f2 := R5.free 2
      have r3 : w5.cell? ⟨w.heap.size + 1, 3, none⟩ = some (.int .u64 0) := R5.cell 3
      have f3 := R5.free 3
      have r4 : w5.cell? ⟨w.heap.size + 1, 4, none⟩ = some (.slice none 0 0) := R5.cell 4
      have f4 := R5.free 4
      have r5 : w5.cell? ⟨w.heap.size + 1, 5, none⟩ = some (.bool false) := R5.cell 5
      have f5 := R5.free 5
      go_wp2
      exact bodyPost_ret (v := .tuple #[.agg #[.string k.row, .string k.fam, .string k.qual, .int .u64 k.time, .slice none 0 0, .bool true], .int .i64 0]) (by simp [results, Tryz.results12, go_sem, r0, r1, r2, r3, r4, r5]) rfl ⟨⟨k.row, k.fam, k.qual, k.time, ⟨none, 0, 0, []⟩, true⟩, 0, rfl, .inr (.inl ⟨HRD.out, hko.time, rfl, .inl ⟨HX.out, rfl, rfl⟩⟩), ⟨hko.row, hko.fam, hko.qual, hko.time, Sl.nothing _⟩, ⟨Sl.nothing _, fun a ha => by simp at ha⟩, Wr.below B5 ((((((((Wr.refl _ _).set 0 _).set 1 _).set 2 _).set 3 _).set 4 _).set 5 _)) B5.size (Nat.le_succ _)⟩
    · have HX : Hid (¬ x.v = [1]) := hx
      rw [decide_eq_false hx]
      clear hx
      have CV := isval_any w5 vo vn vc x.v (hv.below B5) hvn
      go_wp2_with fail
      refine CV.mono ?_
      rintro e w6 ⟨rfl, hw6⟩
      obtain rfl := hw6.symm
      clear CV
      cases hb : isValB x.v with
      | false =>
        have HB : Hid (isValB x.v = false) := hb
        clear hb
        have r0 : w5.cell? ⟨w.heap.size + 1, 0, none⟩ = some (.string ⟨#[]⟩) := R5.cell 0
        have f0 := R5.free 0
        have r1 : w5.cell? ⟨w.heap.size + 1, 1, none⟩ = some (.string ⟨#[]⟩) := R5.cell 1
        have f1 := R5.free 1
        have r2 : w5.cell? ⟨w.heap.size + 1, 2, none⟩ = some (.string ⟨#[]⟩) := R5.cell 2
        have f2 := R5.free 2
        have r3 : w5.cell? ⟨w.heap.size + 1, 3, none⟩ = some (.int .u64 0) := R5.cell 3
        have f3 := R5.free 3
        have r4 : w5.cell? ⟨w.heap.size + 1, 4, none⟩ = some (.slice none 0 0) := R5.cell 4
        have f4 := R5.free 4
        have r5 : w5.cell? ⟨w.heap.size + 1, 5, none⟩ = some (.bool false) := R5.cell 5
        have f5 := R5.free 5
        go_wp2
        exact bodyPost_ret (v := .tuple #[.agg #[.string ⟨#[]⟩, .string ⟨#[]⟩, .string ⟨#[]⟩, .int .u64 0, .slice none 0 0, .bool false], .int .i64 3]) (by simp [results, Tryz.results12, go_sem, r0, r1, r2, r3, r4, r5]) rfl ⟨⟨⟨#[]⟩, ⟨#[]⟩, ⟨#[]⟩, 0, ⟨none, 0, 0, []⟩, false⟩, 3, rfl, .inr (.inr ⟨by rw [HRD.out]; simp, HX.out, HB.out, rfl, rfl⟩), ⟨Nat.zero_le _, Nat.zero_le _, Nat.zero_le _, by decide, Sl.nothing _⟩, ⟨Sl.nothing _, fun a ha => by simp at ha⟩, Wr.below B5 ((((((((Wr.refl _ _).set 0 _).set 1 _).set 2 _).set 3 _).set 4 _).set 5 _)) B5.size (Nat.le_succ _)⟩
      | true =>
        obtain ⟨ys, hxy, hyl⟩ : ∃ ys, x.v = 0 :: ys ∧ ys.length ≤ 256 := by
          cases hxv : x.v with
          | nil => rw [hxv] at hb; simp [isValB] at hb
          | cons b v =>
            rw [hxv] at hb
            have := of_decide_eq_true hb
            exact ⟨v, by rw [this.1], this.2⟩
        have HY : Hid (x.v = 0 :: ys) := hxy
        have hv5 := hv.below B5
        have hvl := hv5.len
        rw [hxy] at hv5 hvl
        have hv1 : 1 ≤ vn := by simp at hvl; omega
        obtain ⟨vb, vf, rfl, -⟩ := hv5.at (by omega)
        have SS := hv5.cut 1 hv1
        rw [show (0 :: ys).drop 1 = ys from rfl] at SS
        obtain ⟨so, hso⟩ : ∃ so, so = some (if vc = 1 then (⟨vb, vf, none⟩ : Addr) else (⟨vb, vf, none⟩ : Addr).add 1) := ⟨_, rfl⟩
        have HSL : Hid (∀ W, (Instr.sliceAt 25 (.slice (some ⟨vb, vf, none⟩) vn vc) (some (.int .i64 1)) none none).run Tryz.prog W = .ok (.slice so (vn - 1) (vc - 1)) W) := fun W => by rw [hso]; exact run_tail1 hv1
        rw [← hso] at SS
        obtain ⟨sc, hsc⟩ : ∃ sc, sc = vc - 1 := ⟨_, rfl⟩
        rw [← hsc] at SS HSL
        clear hb hxy hvl hv5 hso hsc
        go_wp2
        have zHS : Hid (∀ V, Below w5.heap.size w5 V → V.cell? ⟨w.heap.size, 1, none⟩ = some (.slice (some ⟨vb, vf, none⟩) vn vc) ∧ V.cell? ⟨w3.heap.size, 0, none⟩ = some (.string k.row) ∧ V.cell? ⟨w3.heap.size, 1, none⟩ = some (.string k.fam) ∧ V.cell? ⟨w3.heap.size, 2, none⟩ = some (.string k.qual) ∧ V.cell? ⟨w3.heap.size, 3, none⟩ = some (.int .u64 k.time)) := fun V hV => ⟨(hV.cell (World.block_lt_of_cell? _ _ i1)).trans i1, (hV.cell (World.block_lt_of_cell? _ _ q0)).trans q0, (hV.cell (World.block_lt_of_cell? _ _ q1)).trans q1, (hV.cell (World.block_lt_of_cell? _ _ q2)).trans q2, (hV.cell (World.block_lt_of_cell? _ _ q3)).trans q3⟩
        have zE0 : Below w5.heap.size w5 w5.drew := (Below.refl _ _).drew
        refine wp_region_noPanic ?_
        refine wp_region_held_drew (S := fun V => V.cell? ⟨w.heap.size, 1, none⟩ = some (.slice (some ⟨vb, vf, none⟩) vn vc) ∧ V.cell? ⟨w3.heap.size, 0, none⟩ = some (.string k.row) ∧ V.cell? ⟨w3.heap.size, 1, none⟩ = some (.string k.fam) ∧ V.cell? ⟨w3.heap.size, 2, none⟩ = some (.string k.qual) ∧ V.cell? ⟨w3.heap.size, 3, none⟩ = some (.int .u64 k.time)) (by kernel_rfl) (zHS.out _ zE0) (fun zH0 => ?_)
        obtain ⟨zv0, hv0⟩ : ∃ v, v = w5.drew := ⟨_, rfl⟩
        rw [← hv0] at zH0 zE0 ⊢
        clear hv0
        refine hr_take_w 0 (some 27) (.agg #[.string k.row, .string k.fam, .string k.qual, .int .u64 k.time]) rfl rfl (by kernel_rfl) (by kernel_rfl) (by kernel_rfl) rfl (fun W hW => by obtain ⟨h0, h1, h2, h3, h4⟩ := hW; go_simp) zH0 ?_
        simp only [Act.put, List.setIfInBounds_toArray, List.set_cons_zero, List.set_cons_succ]
        refine hr_take_w 1 (some 28) (.pointer (some ⟨w.heap.size, 1, none⟩)) rfl rfl (by kernel_rfl) (by kernel_rfl) (by kernel_rfl) rfl (fun W hW => by obtain ⟨h0, h1, h2, h3, h4⟩ := hW; go_simp) zH0 ?_
        simp only [Act.put, List.setIfInBounds_toArray, List.set_cons_zero, List.set_cons_succ]
        refine hr_take_w 2 (some 29) (.slice (some ⟨vb, vf, none⟩) vn vc) rfl rfl (by kernel_rfl) (by kernel_rfl) (by kernel_rfl) rfl (fun W hW => by obtain ⟨h0, h1, h2, h3, h4⟩ := hW; go_simp) zH0 ?_
        simp only [Act.put, List.setIfInBounds_toArray, List.set_cons_zero, List.set_cons_succ]
        refine hr_take_w 3 (some 30) (.slice so (vn - 1) sc) rfl rfl (by kernel_rfl) (by kernel_rfl) (by kernel_rfl) rfl (fun W hW => by obtain ⟨h0, h1, h2, h3, h4⟩ := hW; simp [execOp, Act.eval, HSL.out]) zH0 ?_
        simp only [Act.put, List.setIfInBounds_toArray, List.set_cons_zero, List.set_cons_succ]
        refine hr_call_w 4 (some 31) 37 #[.slice so (vn - 1) sc] rfl rfl (by kernel_rfl) rfl (by go_simp) (fun v w' => ∃ ro rc, v = .slice ro (vn - 1) rc ∧ (SlT w' ⟨ro, vn - 1, rc, ys⟩) ∧ Below zv0.heap.size zv0 w') ((bcloneT_any zv0 so (vn - 1) sc ys (SS.below zE0) (by omega)).mono (by
          rintro e w' ⟨ro, rc, rfl, F, C⟩
          exact ⟨_, rfl, ro, rc, rfl, F, C⟩)) ?_
        rintro v zv1 ⟨ro, rc, rfl, zF0, zC0⟩
        have zE1 := zE0.trans (zC0.mono zE0.size)
        have zH1 := zHS.out zv1 zE1
        refine ⟨zH1, ?_⟩
        simp only [Act.put, List.setIfInBounds_toArray, List.set_cons_zero, List.set_cons_succ]
        refine hr_take_w 5 (some 32) (.agg #[.string k.row, .string k.fam, .string k.qual, .int .u64 k.time, .slice ro (vn - 1) rc, .bool false]) rfl rfl (by kernel_rfl) (by kernel_rfl) (by kernel_rfl) rfl (fun W hW => by obtain ⟨h0, h1, h2, h3, h4⟩ := hW; go_simp) zH1 ?_
        simp only [Act.put, List.setIfInBounds_toArray, List.set_cons_zero, List.set_cons_succ]
        have B6 := B5.trans (zE1.mono B5.size)
        have R6 := arr_below R5 zE1
        have r0 : zv1.cell? ⟨w.heap.size + 1, 0, none⟩ = some (.string ⟨#[]⟩) := R6.cell 0
        have f0 := R6.free 0
        have r1 : zv1.cell? ⟨w.heap.size + 1, 1, none⟩ = some (.string ⟨#[]⟩) := R6.cell 1
        have f1 := R6.free 1
        have r2 : zv1.cell? ⟨w.heap.size + 1, 2, none⟩ = some (.string ⟨#[]⟩) := R6.cell 2
        have f2 := R6.free 2
        have r3 : zv1.cell? ⟨w.heap.size + 1, 3, none⟩ = some (.int .u64 0) := R6.cell 3
        have f3 := R6.free 3
        have r4 : zv1.cell? ⟨w.heap.size + 1, 4, none⟩ = some (.slice none 0 0) := R6.cell 4
        have f4 := R6.free 4
        have r5 : zv1.cell? ⟨w.heap.size + 1, 5, none⟩ = some (.bool false) := R6.cell 5
        have f5 := R6.free 5
        have KW : Wr (w.heap.size + 1) zv1 ((((((zv1.setCell ⟨w.heap.size + 1, 0, none⟩ (.string k.row)).setCell ⟨w.heap.size + 1, 1, none⟩ (.string k.fam)).setCell ⟨w.heap.size + 1, 2, none⟩ (.string k.qual)).setCell ⟨w.heap.size + 1, 3, none⟩ (.int .u64 k.time)).setCell ⟨w.heap.size + 1, 4, none⟩ (.slice ro (vn - 1) rc)).setCell ⟨w.heap.size + 1, 5, none⟩ (.bool false)) := ((((((((Wr.refl _ _).set 0 _).set 1 _).set 2 _).set 3 _).set 4 _).set 5 _))
        have zH2 : ((((((zv1.setCell ⟨w.heap.size + 1, 0, none⟩ (.string k.row)).setCell ⟨w.heap.size + 1, 1, none⟩ (.string k.fam)).setCell ⟨w.heap.size + 1, 2, none⟩ (.string k.qual)).setCell ⟨w.heap.size + 1, 3, none⟩ (.int .u64 k.time)).setCell ⟨w.heap.size + 1, 4, none⟩ (.slice ro (vn - 1) rc)).setCell ⟨w.heap.size + 1, 5, none⟩ (.bool false)).cell? ⟨w.heap.size, 1, none⟩ = some (.slice (some ⟨vb, vf, none⟩) vn vc) ∧ ((((((zv1.setCell ⟨w.heap.size + 1, 0, none⟩ (.string k.row)).setCell ⟨w.heap.size + 1, 1, none⟩ (.string k.fam)).setCell ⟨w.heap.size + 1, 2, none⟩ (.string k.qual)).setCell ⟨w.heap.size + 1, 3, none⟩ (.int .u64 k.time)).setCell ⟨w.heap.size + 1, 4, none⟩ (.slice ro (vn - 1) rc)).setCell ⟨w.heap.size + 1, 5, none⟩ (.bool false)).cell? ⟨w3.heap.size, 0, none⟩ = some (.string k.row) ∧ ((((((zv1.setCell ⟨w.heap.size + 1, 0, none⟩ (.string k.row)).setCell ⟨w.heap.size + 1, 1, none⟩ (.string k.fam)).setCell ⟨w.heap.size + 1, 2, none⟩ (.string k.qual)).setCell ⟨w.heap.size + 1, 3, none⟩ (.int .u64 k.time)).setCell ⟨w.heap.size + 1, 4, none⟩ (.slice ro (vn - 1) rc)).setCell ⟨w.heap.size + 1, 5, none⟩ (.bool false)).cell? ⟨w3.heap.size, 1, none⟩ = some (.string k.fam) ∧ ((((((zv1.setCell ⟨w.heap.size + 1, 0, none⟩ (.string k.row)).setCell ⟨w.heap.size + 1, 1, none⟩ (.string k.fam)).setCell ⟨w.heap.size + 1, 2, none⟩ (.string k.qual)).setCell ⟨w.heap.size + 1, 3, none⟩ (.int .u64 k.time)).setCell ⟨w.heap.size + 1, 4, none⟩ (.slice ro (vn - 1) rc)).setCell ⟨w.heap.size + 1, 5, none⟩ (.bool false)).cell? ⟨w3.heap.size, 2, none⟩ = some (.string k.qual) ∧ ((((((zv1.setCell ⟨w.heap.size + 1, 0, none⟩ (.string k.row)).setCell ⟨w.heap.size + 1, 1, none⟩ (.string k.fam)).setCell ⟨w.heap.size + 1, 2, none⟩ (.string k.qual)).setCell ⟨w.heap.size + 1, 3, none⟩ (.int .u64 k.time)).setCell ⟨w.heap.size + 1, 4, none⟩ (.slice ro (vn - 1) rc)).setCell ⟨w.heap.size + 1, 5, none⟩ (.bool false)).cell? ⟨w3.heap.size, 3, none⟩ = some (.int .u64 k.time) := ⟨KW.cell zH1.1 (by show w.heap.size ≠ _; omega), KW.cell zH1.2.1 (by show w3.heap.size ≠ _; omega), KW.cell zH1.2.2.1 (by show w3.heap.size ≠ _; omega), KW.cell zH1.2.2.2.1 (by show w3.heap.size ≠ _; omega), KW.cell zH1.2.2.2.2 (by show w3.heap.size ≠ _; omega)⟩
        refine hr_skip 6 none (w' := ((((((zv1.setCell ⟨w.heap.size + 1, 0, none⟩ (.string k.row)).setCell ⟨w.heap.size + 1, 1, none⟩ (.string k.fam)).setCell ⟨w.heap.size + 1, 2, none⟩ (.string k.qual)).setCell ⟨w.heap.size + 1, 3, none⟩ (.int .u64 k.time)).setCell ⟨w.heap.size + 1, 4, none⟩ (.slice ro (vn - 1) rc)).setCell ⟨w.heap.size + 1, 5, none⟩ (.bool false))) rfl rfl (by kernel_rfl) rfl (by go_simp) zH2 ?_
        simp only [Act.put]
        refine hr_take_w 7 (some 3) (.int .i64 0) rfl rfl (by kernel_rfl) (by kernel_rfl) (by kernel_rfl) rfl (fun W hW => by obtain ⟨h0, h1, h2, h3, h4⟩ := hW; go_simp) zH2 ?_
        simp only [Act.put, List.setIfInBounds_toArray, List.set_cons_zero, List.set_cons_succ]
        refine wpAnyH_done (by kernel_rfl) ?_ _
        refine NoPanic.normal ?_
        have SY := zF0.kp (KpB.wr R6 (by decide) KW)
        have BX := Wr.below B6 KW B6.size (Nat.le_succ _)
        go_wp2
        exact bodyPost_ret (v := .tuple #[.agg #[.string k.row, .string k.fam, .string k.qual, .int .u64 k.time, .slice ro (vn - 1) rc, .bool false], .int .i64 0]) (by simp [results, Tryz.results12, go_sem, r0, r1, r2, r3, r4, r5]) rfl ⟨⟨k.row, k.fam, k.qual, k.time, ⟨ro, vn - 1, rc, ys⟩, false⟩, 0, rfl, .inr (.inl ⟨HRD.out, hko.time, rfl, .inr ⟨HY.out, hyl, rfl⟩⟩), ⟨hko.row, hko.fam, hko.qual, hko.time, SY.1⟩, SY, BX⟩
end Go.Proofs.YtnicnfjickknjaaGreatDoor

namespace Go
theorem exec_copy {P : Program} {a : Act} {w w' : World} {o : Oper} {d s : Operand} {t t' ty : TypeId} {v u v' : Value} (ho : o.op = .call { callee := .builtin .copy, args := #[d, s], argTypes := #[t, t'] }) (hd : a.eval d = v) (hs : a.eval s = u) (ht : o.type = ty)
    (hr : (Builtin.copy_ #[t, t'] ty #[v, u]).run P w = .ok v' w') : (execOp a.eval o).run P w = .ok (.value v') w' := by
  unfold execOp
  simp only [ho, ht, resolve, invoke, builtin, Sem.run_bind, Sem.run_pure, Result.andThen_ok, List.map_toArray, List.map_cons, List.map_nil, hd, hs, hr]
end Go
namespace Go.Proofs.YtnicnfjickknjaaGreatDoor
open Go.RowKit

set_option maxRecDepth 100000 in
set_option maxHeartbeats 4000000 in
theorem pmul64_one (w : World) : Calls Tryz.prog 129 #[.int .u64 1, .int .u64 33] w fun e w' => e = .returned (.tuple #[.int .u64 0, .int .u64 33]) ∧ w' = w := by
  go_enter Tryz.func129, Tryz.ntmps129
  go_wp2
  go_ret2
  exact ⟨rfl, rfl⟩

set_option maxRecDepth 100000 in
set_option maxHeartbeats 4000000 in
theorem pmul_one (w : World) : Calls Tryz.prog 113 #[.int .u64 1, .int .u64 33] w fun e w' => e = .returned (.tuple #[.int .u64 0, .int .u64 33]) ∧ w' = w := by
  go_enter Tryz.func113, Tryz.ntmps113
  go_wp2_with fail
  refine (pmul64_one w).mono ?_
  rintro e w' ⟨rfl, hw⟩
  obtain rfl := hw.symm
  go_wp2
  go_ret2
  exact ⟨rfl, rfl⟩

set_option maxRecDepth 100000 in
set_option maxHeartbeats 4000000 in
theorem prep_any (w : World) (ad : Addr) (h : Sl w (some ad) 1 1 [255]) :
    Calls Tryz.prog 93 #[.slice (some ad) 1 1, .int .i64 33] w fun e w' => ∃ ao n c, e = .returned (.slice ao n c) ∧ Sl w' ao n c (List.replicate 33 255) ∧ Below w.heap.size w w' := by
  obtain ⟨cs, hrunM, hle, _⟩ := Lib.run_makeNoZero (P := Tryz.prog) w #[3] 25 5 Tryz.underlying25 33 (by omega)
  have hcall : (callFunc 114 #[.int .i64 33]).run Tryz.prog w = .ok (.value (.slice (some ⟨w.heap.size, 0, none⟩) 33 cs.size)) ((w.alloc (.cells cs 5)).drewN 2) := by
    rw [run_callFunc_extern Tryz.func114 (by kernel_rfl) (by kernel_rfl) (by kernel_rfl) (e := Extern.BytealgMakeNoZero.makeNoZero #[3] #[25]) (by kernel_rfl)]
    have e33 : ((33 : Nat) : Int) = 33 := rfl
    rw [e33] at hrunM
    rw [hrunM]
    rfl
  clear hrunM
  have hle2 : (33 : Int) ≤ (cs.size : Int) := by omega
  go_enter Tryz.func93, Tryz.ntmps93
  go_wp2_with fail
  refine (pmul_one w).mono ?_
  rintro e w' ⟨rfl, hw⟩
  obtain rfl := hw.symm
  have e0 : ((w.alloc (.cells cs 5)).drewN 2).heap[w.heap.size]? = some (.cells cs.toList.toArray 5 (0, 0)) := by simpa using heap_alloc_new w (.cells cs 5)
  have B0 : Below w.heap.size w ((w.alloc (.cells cs 5)).drewN 2) := belN ((Below.refl _ w).alloc (Nat.le_refl _) _) 2
  have c0 : ((w.alloc (.cells cs 5)).drewN 2).cell? (ad.add 0) = some (.int .u8 255) := by
    have := (h.below B0).cell ad rfl 0 (by omega)
    simpa using this
  obtain ⟨w3, hr, H3, B3⟩ : ∃ w3, (Builtin.copy_ #[25, 25] 3 #[.slice (some ⟨w.heap.size, 0, none⟩) 33 33, .slice (some ad) 1 1]).run Tryz.prog ((w.alloc (.cells cs 5)).drewN 2) = .ok (.int .i64 1) w3 ∧ Hid (w3.heap[w.heap.size]? = some (.cells (splice cs.toList 0 [Value.int .u8 255]).toArray 5 (0, 0))) ∧ Below w.heap.size w w3 := by
    have hrun := run_copy_row (P := Tryz.prog) ((w.alloc (.cells cs 5)).drewN 2) 25 25 3 5 w.heap.size 0 33 33 ad 1 1 cs.toList.toArray 5 [.int .u8 255] Tryz.underlying25 (by kernel_rfl) e0 rfl (fun j v hj => by
      cases j with
      | zero => simp at hj; subst hj; exact c0
      | succ j => simp at hj) (by simp; omega) (by intro v hv; rw [List.mem_singleton.1 hv]; rfl)
    exact ⟨_, hrun, (show _ = _ by simpa [splice] using setRow_heap _ w.heap.size _ _ 5 _ e0), below_setRow B0 (Nat.le_refl _) _⟩
  have L3 : (splice cs.toList 0 [Value.int .u8 255]).length = cs.size := by rw [length_splice _ _ _ (by simp; omega)]; simp
  have T3 : (splice cs.toList 0 [Value.int .u8 255]).take 1 = List.replicate 1 (.int .u8 255) := by simp [splice]
  obtain ⟨cur3, hcur⟩ : ∃ c, c = splice cs.toList 0 [Value.int .u8 255] := ⟨_, rfl⟩
  rw [← hcur] at H3 L3 T3
  have HT3 : Hid (cur3.take 1 = List.replicate 1 (.int .u8 255)) := T3
  clear hcur T3 c0 e0 B0
  obtain ⟨N, hN⟩ : ∃ N, N = w.heap.size := ⟨_, rfl⟩
  go_wp2_with fail
  clear hr hcall
  rw [← hN] at H3 B3 ⊢
  have HN : Hid (N = w.heap.size) := hN
  clear hN
  go_loopw [10, 11] (fun i _ wr => ∃ (j : Nat) (cur : List Value), 1 ≤ j ∧ j ≤ 33 ∧ i = .int .i64 j ∧ Hid (wr.heap[N]? = some (.cells cur.toArray 5 (0, 0))) ∧ 33 ≤ cur.length ∧ Hid (cur.take j = List.replicate j (.int .u8 255)) ∧ Below N w wr) (fun i _ _ => 33 - (intOf i).toNat)
  case atStart => exact ⟨1, cur3, by omega, by omega, rfl, H3, by omega, HT3, B3⟩
  case round =>
    clear H3 HT3 B3
    obtain ⟨j, cur, h1, h33, rfl, H, hl, T, B⟩ := hrel
    by_cases l : j < 33
    · have il : (j : Int) < 33 := by omega
      have il2 : (j : Int) ≤ 33 := by omega
      obtain ⟨m, hm⟩ : ∃ m, m = Nat.min j (33 - j) := ⟨_, rfl⟩
      have hm1 : 1 ≤ m ∧ m ≤ j ∧ j + m ≤ 33 := by rw [hm]; simp only [Nat.min_def]; split <;> omega
      have HH := H.out
      have HT := T.out
      have q : ∀ i, i < j → wr.drew.cell? ⟨N, i, none⟩ = some (.int .u8 255) := fun i hi => by
        have e : wr.drew.heap[N]? = some (.cells cur.toArray 5 (0, 0)) := HH
        rw [cell_of_row wr.drew N i _ _ _ e]
        have h2 : (cur.take j)[i]? = (List.replicate j (Value.int .u8 255))[i]? := by rw [HT]
        rw [List.getElem?_take_of_lt hi] at h2
        simpa [hi] using h2
      obtain ⟨w4, hr, H4, B4⟩ : ∃ w4, (Builtin.copy_ #[25, 25] 3 #[.slice (some ⟨N, j, none⟩) (33 - j) (33 - j), .slice (some ⟨N, 0, none⟩) j 33]).run Tryz.prog wr.drew = .ok (.int .i64 m) w4 ∧ Hid (w4.heap[N]? = some (.cells (splice cur j (List.replicate m (Value.int .u8 255))).toArray 5 (0, 0))) ∧ Below N w w4 := by
        have e : wr.drew.heap[N]? = some (.cells cur.toArray 5 (0, 0)) := HH
        have hrun := run_copy_row (P := Tryz.prog) wr.drew 25 25 3 5 N j (33 - j) (33 - j) ⟨N, 0, none⟩ j 33 cur.toArray 5 (List.replicate m (Value.int .u8 255)) Tryz.underlying25 (by kernel_rfl) e (by rw [List.length_replicate]; exact hm) (fun i v hi => by
          have hi2 : i < m := by
            have := (List.getElem?_eq_some_iff.1 hi).1
            simpa using this
          have hv : v = .int .u8 255 := by simpa [hi2] using hi.symm
          rw [hv, Addr.add_lit, Nat.zero_add]
          exact q i (by omega)) (by simp; omega) (by intro v hv; rw [List.eq_of_mem_replicate hv]; rfl)
        rw [List.length_replicate] at hrun
        exact ⟨_, hrun, (show _ = _ by simpa [splice] using setRow_heap _ N _ _ 5 _ e), below_setRow B.drew (Nat.le_refl _) _⟩
      have L4 : 33 ≤ (splice cur j (List.replicate m (Value.int .u8 255))).length := by rw [length_splice _ _ _ (by simp; omega)]; omega
      have T4 : Hid ((splice cur j (List.replicate m (Value.int .u8 255))).take (j + m) = List.replicate (j + m) (.int .u8 255)) := by
        show _ = _
        have hjl : (cur.take j).length = j := by rw [List.length_take]; omega
        unfold splice
        rw [HT, ← List.append_assoc, List.replicate_append_replicate, List.take_append_of_le_length (by simp), List.take_of_length_le (by simp)]
      obtain ⟨cur4, hc4⟩ : ∃ c, c = splice cur j (List.replicate m (Value.int .u8 255)) := ⟨_, rfl⟩
      rw [← hc4] at H4 L4 T4
      clear hc4 H T q HH HT hm
      have e1 : ((j : Int) + (m : Int)) ≤ 33 := by omega
      have e0 : (0 : Int) ≤ (j : Int) := by omega
      have z1 : ¬ 33 = j := by omega
      have z2 : ¬ j = 0 := by omega
      go_wp2_with fail
      refine wp_region_noPanic ?_
      refine wp_region_held_drew (S := fun _ => True) (by kernel_rfl) trivial (fun _ => ?_)
      refine hr_take 0 (some 67) (.int .i64 j) rfl rfl (by kernel_rfl) (by kernel_rfl) (by kernel_rfl) rfl (fun W _ => by go_simp) trivial ?_
      simp only [Act.put, List.setIfInBounds_toArray, List.set_cons_zero, List.set_cons_succ]
      refine hr_take 1 (some 68) (.slice (some ⟨N, 0, none⟩) 33 33) rfl rfl (by kernel_rfl) (by kernel_rfl) (by kernel_rfl) rfl (fun W _ => by go_simp) trivial ?_
      simp only [Act.put, List.setIfInBounds_toArray, List.set_cons_zero, List.set_cons_succ]
      refine hr_take 2 (some 69) (.int .i64 j) rfl rfl (by kernel_rfl) (by kernel_rfl) (by kernel_rfl) rfl (fun W _ => by go_simp) trivial ?_
      simp only [Act.put, List.setIfInBounds_toArray, List.set_cons_zero, List.set_cons_succ]
      refine hr_take 3 (some 70) (.slice (some ⟨N, j, none⟩) (33 - j) (33 - j)) rfl rfl (by kernel_rfl) (by kernel_rfl) (by kernel_rfl) rfl (fun W _ => by go_simp) trivial ?_
      simp only [Act.put, List.setIfInBounds_toArray, List.set_cons_zero, List.set_cons_succ]
      refine hr_take 4 (some 71) (.slice (some ⟨N, 0, none⟩) 33 33) rfl rfl (by kernel_rfl) (by kernel_rfl) (by kernel_rfl) rfl (fun W _ => by go_simp) trivial ?_
      simp only [Act.put, List.setIfInBounds_toArray, List.set_cons_zero, List.set_cons_succ]
      refine hr_take 5 (some 72) (.int .i64 j) rfl rfl (by kernel_rfl) (by kernel_rfl) (by kernel_rfl) rfl (fun W _ => by go_simp) trivial ?_
      simp only [Act.put, List.setIfInBounds_toArray, List.set_cons_zero, List.set_cons_succ]
      refine hr_take 6 (some 73) (.slice (some ⟨N, 0, none⟩) j 33) rfl rfl (by kernel_rfl) (by kernel_rfl) (by kernel_rfl) rfl (fun W _ => by go_simp) trivial ?_
      simp only [Act.put, List.setIfInBounds_toArray, List.set_cons_zero, List.set_cons_succ]
      refine hr_do 7 (some 74) (.int .i64 m) rfl rfl (by kernel_rfl) rfl (w' := w4) (exec_copy rfl rfl rfl rfl hr) trivial ?_
      simp only [Act.put, List.setIfInBounds_toArray, List.set_cons_zero, List.set_cons_succ]
      refine hr_take 8 (some 75) (.int .i64 ((j + m : Nat) : Int)) rfl rfl (by kernel_rfl) (by kernel_rfl) (by kernel_rfl) rfl (fun W _ => by (go_simp; rw [IntKind.wrap_i64]; omega)) trivial ?_
      simp only [Act.put, List.setIfInBounds_toArray, List.set_cons_zero, List.set_cons_succ]
      refine hr_take 9 (some 10) (.int .i64 ((j + m : Nat) : Int)) rfl rfl (by kernel_rfl) (by kernel_rfl) (by kernel_rfl) rfl (fun W _ => by go_simp) trivial ?_
      simp only [Act.put, List.setIfInBounds_toArray, List.set_cons_zero, List.set_cons_succ]
      refine wpAnyH_done (by kernel_rfl) ?_ _
      refine NoPanic.normal ?_
      go_wp2
      go_roundw
      case rel => exact ⟨j + m, cur4, by omega, by omega, rfl, H4, L4, T4, B4⟩
      case measure => simp [intOf]; omega
    · obtain rfl : j = 33 := by omega
      have S : Sl wr (some ⟨N, 0, none⟩) 33 33 (List.replicate 33 255) := by
        refine ⟨by simp, Nat.le_refl _, by decide, fun h => by simp at h, fun a ha i hi => ?_, fun x hx => by have := List.eq_of_mem_replicate hx; omega⟩
        obtain rfl := Option.some.inj ha
        rw [Addr.add_lit, Nat.zero_add, cell_of_row wr N i _ _ _ H.out]
        have h2 : (cur.take 33)[i]? = (List.replicate 33 (Value.int .u8 255))[i]? := by rw [T.out]
        have h3 : (List.replicate 33 (255 : Int)).getD i 0 = 255 := by rw [List.getD, List.getElem?_replicate, if_pos hi]; rfl
        rw [List.getElem?_take_of_lt hi, List.getElem?_replicate, if_pos hi] at h2
        rw [h3, ← h2]
        simp
      clear H T
      go_wp2
      go_ret
      exact ⟨_, _, _, rfl, S, by rw [← HN.out]; exact B⟩
end Go.Proofs.YtnicnfjickknjaaGreatDoor

namespace Go.Proofs.YtnicnfjickknjaaGreatDoor
open Go.RowKit

set_option maxHeartbeats 2000000 in
set_option maxRecDepth 100000 in
theorem prows_bad (w : World) (f t : ByteArray) (h : 32 < f.size ∨ 32 < t.size) :
    Calls Tryz.prog 71 #[.string f, .string t] w fun e w' => e = .returned (.tuple #[.slice none 0 0, .slice none 0 0, .int .i64 5]) ∧ w' = w := by
  by_cases h1 : 32 < f.size
  · have i1 : (32 : Int) < (f.size : Int) := by omega
    go_enter Tryz.func71, Tryz.ntmps71
    go_wp2
    go_ret3
    exact ⟨rfl, rfl⟩
  · have i1 : (f.size : Int) ≤ 32 := by omega
    have i2 : (32 : Int) < (t.size : Int) := by omega
    go_enter Tryz.func71, Tryz.ntmps71
    go_wp2
    go_ret3
    exact ⟨rfl, rfl⟩

set_option maxHeartbeats 2000000 in
set_option maxRecDepth 100000 in
theorem prows_any (w : World) (f t : ByteArray) (h1 : f.size ≤ 32) (h2 : t.size ≤ 32) :
    Calls Tryz.prog 71 #[.string f, .string t] w fun e w' => ∃ ao n c bo m d, e = .returned (.tuple #[.slice ao n c, .slice bo m d, .int .i64 0]) ∧ Sl w' ao n c (nm (sb f)) ∧ Sl w' bo m d (hiL (sb t)) ∧ Below w.heap.size w w' := by
  have i1 : (f.size : Int) ≤ 32 := by omega
  have i2 : (t.size : Int) ≤ 32 := by omega
  go_enter Tryz.func71, Tryz.ntmps71
  go_wp2_with fail
  refine (pname_any w w.heap.size _ 0 [] f (World.ownsRow_nil _ _ _ _) (Nat.le_refl _) (by omega) (by omega)).mono ?_
  rintro e w1 ⟨v1, rfl, O1, B1⟩
  rw [Nat.zero_add, List.nil_append] at O1
  obtain ⟨ao, c, rfl, S1, -⟩ := Sl.own O1 (nm_byte _ (sb_byte f))
  clear O1
  have s1 := B1.size
  go_wp2_with fail
  refine (pname_any w1 w1.heap.size _ 0 [] t (World.ownsRow_nil _ _ _ _) (Nat.le_refl _) (by omega) (by omega)).mono ?_
  rintro e w2 ⟨v2, rfl, O2, C2⟩
  rw [Nat.zero_add, List.nil_append] at O2
  obtain ⟨bo, d, rfl, S2, -⟩ := Sl.own O2 (nm_byte _ (sb_byte t))
  have S1' := S1.below C2
  have B2 := B1.trans (C2.mono s1)
  have s2 := B2.size
  clear O2 C2 S1 B1
  by_cases ht : t.size = 0
  · have et := empty_of ht
    have e0 : (t.toList == (ByteArray.mk #[]).toList) = true := by rw [et]; simp
    have ee : t.toList.isEmpty = true := by rw [toE]; exact decide_eq_true ht
    have hh : hiL (sb t) = List.replicate 33 255 := by unfold hiL; rw [if_pos (sb_nil ht)]
    have HH : Hid (hiL (sb t) = List.replicate 33 255) := hh
    have S0 : Sl (w2.alloc (.cells #[.int .u8 255] 5)) (some ⟨w2.heap.size, 0, none⟩) 1 1 [255] := Sl.one w2 255 (by omega)
    clear et e0 hh
    go_wp2_with fail
    refine (prep_any _ _ S0).mono ?_
    rintro e w3 ⟨go, gn, gc, rfl, S3, C3⟩
    have C0 : Below w2.heap.size w2 (w2.alloc (.cells #[.int .u8 255] 5)) := (Below.refl _ w2).alloc (Nat.le_refl _) _
    have B : Below w2.heap.size w2 w3 := C0.trans (C3.mono C0.size)
    have S4 : Sl w3 go gn gc (hiL (sb t)) := by rw [HH.out]; exact S3
    clear S3 HH
    go_wp2
    go_ret3
    exact ⟨_, _, _, _, _, _, rfl, S1'.below B, S4, B2.trans (B.mono s2)⟩
  · have e0 : (t.toList == (ByteArray.mk #[]).toList) = false := toL_ne (fun h => ht (by rw [h]; rfl))
    have e1 : (t.toList == []) = false := by rw [← e0]; congr 1; simp
    have ee : t.toList.isEmpty = false := by rw [toE]; exact decide_eq_false ht
    have hh : hiL (sb t) = nm (sb t) := by
      unfold hiL
      rw [if_neg (fun h => ht (by rw [← sb_len, h]; rfl))]
    have S3 : Sl w2 bo (nm (sb t)).length d (hiL (sb t)) := by rw [hh]; exact S2
    go_wp2
    go_ret3
    exact ⟨_, _, _, _, _, _, rfl, S1', S3, B2⟩
end Go.Proofs.YtnicnfjickknjaaGreatDoor

namespace Go.Proofs.YtnicnfjickknjaaGreatDoor
open Go.RowKit

/-- append to a row of the call's own: where the row lies behind it. -/
theorem run_append_own2 {P : Program} (w : World) (base : Nat) (t ty e : TypeId) (i : TypeInfo) (z : Value) (size bytes : Nat) (ht : P.underlying t = some (.slice e)) (hi : P.info? e = some i) (hz : i.zero = some z)
    (hsize : i.size = size) (hby : i.bytes = bytes) (hzs : z.cells.size = size) (hsz : 0 < size)
    (v : Value) (n : Nat) (xs : List Value) (hown : w.ownsRow base e size v n xs)
    (a : Addr) (m c : Nat) (news : List Value) (hl : news.length = m * size) (hnews : ∀ j u, news[j]? = some u → w.cell? (a.add j) = some u) (h1 : ∀ u ∈ news, u.oneCell' = true)
    (h63 : n + m ≤ maxLen) (hbytes : (n + m) * bytes ≤ 140737488355328) (hbase : base ≤ w.heap.size) :
    ∃ v' w', (Builtin.append_ #[t, t] ty #[v, .slice (some a) m c]).run P w = .ok v' w' ∧ w'.ownsRow base e size v' (n + m) (xs ++ news) ∧ w.grownBy w' v.ownBlock ∧
      ∀ g, v'.ownBlock = some g → v.ownBlock = some g ∨ w.heap.size ≤ g := by
  obtain ⟨v', w', hr, ho, hg, _⟩ := run_append_own (P := P) w base t ty e i z size bytes ht hi hz hsize hby hzs hsz v n xs hown a m c news hl hnews h1 h63 hbytes hbase
  refine ⟨v', w', hr, ho, hg, ?_⟩
  have hsmall : n + m ≤ 9223372036854775807 := by simp only [maxLen] at h63; omega
  subst hsize
  subst hby
  rcases hown.2 with ⟨rfl, rfl⟩ | ⟨g, cap, cur, rfl, hbg, hgc, hnc, hcm, hcs, htake⟩
  · have hown2 : w.ownsRow w.heap.size e i.size (.slice none 0 0) 0 xs := ⟨hown.1, .inl ⟨rfl, rfl⟩⟩
    obtain ⟨v2, w2, hr2, ho2, _, _⟩ := run_append_own (P := P) w w.heap.size t ty e i z i.size i.bytes ht hi hz rfl rfl hzs hsz _ 0 xs hown2 a m c news hl hnews h1 h63 hbytes (Nat.le_refl _)
    rw [hr] at hr2
    simp only [Result.ok.injEq] at hr2
    obtain ⟨rfl, rfl⟩ := hr2
    intro g hgv
    exact .inr (ho2.lt g hgv).1
  · by_cases hroom : n + m ≤ cap
    · have hfit : n * i.size + news.length ≤ cur.size := by rw [hl, hcs, ← Nat.add_mul]; exact Nat.mul_le_mul_right _ hroom
      have hr2 := run_append_room (P := P) w t ty e i ht hi g n cap cur hgc a m c news hl hnews h1 hroom hfit
      rw [hr] at hr2
      simp only [Result.ok.injEq] at hr2
      obtain ⟨rfl, rfl⟩ := hr2
      intro g' hg'
      exact .inl hg'
    · have holds : ∀ j u, xs[j]? = some u → w.cell? ((⟨g, 0, none⟩ : Addr).add j) = some u := hown.cells (g := g) rfl
      have hr2 := run_append_grow (P := P) w t ty e i z ht hi hz ⟨g, 0, none⟩ n cap xs hown.1 holds a m c news hl hnews (by omega) (by omega) (growslice_fits (by omega) hbytes)
      rw [hr] at hr2
      simp only [Result.ok.injEq] at hr2
      obtain ⟨rfl, rfl⟩ := hr2
      intro g' hg'
      simp only [Value.ownBlock, Option.some.injEq] at hg'
      exact .inr (by omega)
theorem own_kept {w w' : World} {base : Nat} {e : TypeId} {size : Nat} {v : Value} {n : Nat} {xs : List Value} (h : w.ownsRow base e size v n xs) (hb : ∀ g, v.ownBlock = some g → w'.heap[g]? = w.heap[g]?) : w'.ownsRow base e size v n xs := by
  refine ⟨h.1, ?_⟩
  rcases h.2 with c | ⟨g, cap, cur, rfl, a1, a2, a3, a4, a5, a6⟩
  · exact .inl c
  · exact .inr ⟨g, cap, cur, rfl, a1, (hb g rfl).trans a2, a3, a4, a5, a6⟩
end Go.Proofs.YtnicnfjickknjaaGreatDoor

namespace Go.Proofs.YtnicnfjickknjaaGreatDoor
open Go.RowKit

theorem cellInfo : (Tryz.prog.info? 27).map (fun i => (i.zero, i.size, i.bytes)) = some (some (.agg #[.string ⟨#[]⟩, .string ⟨#[]⟩, .string ⟨#[]⟩, .int .u64 0, .slice none 0 0, .bool false]), 6, 88) := by kernel_rfl
theorem flat_get {α : Type} (f : α → List Value) (s : Nat) (hs : ∀ x, (f x).length = s) : ∀ (l : List α) (i j : Nat) (hi : i < l.length), j < s → (l.map f).flatten[i * s + j]? = (f l[i])[j]?
  | [], i, _, hi, _ => by simp at hi
  | a :: l, 0, j, _, hj => by
    rw [List.map_cons, List.flatten_cons, Nat.zero_mul, Nat.zero_add, List.getElem?_append_left (by rw [hs]; exact hj)]
    rfl
  | a :: l, i + 1, j, hi, hj => by
    have e : (i + 1) * s + j = s + (i * s + j) := by rw [Nat.add_mul]; omega
    rw [List.map_cons, List.flatten_cons, e, List.getElem?_append_right (by rw [hs]; omega), hs, Nat.add_sub_cancel_left]
    exact flat_get f s hs l i j (by simpa using hi) hj
theorem flat_len {α : Type} (f : α → List Value) (s : Nat) (hs : ∀ x, (f x).length = s) : ∀ l : List α, (l.map f).flatten.length = l.length * s
  | [] => by simp
  | a :: l => by
    rw [List.map_cons, List.flatten_cons, List.length_append, hs, flat_len f s hs l, List.length_cons, Nat.add_mul]
    omega
def cellsC (l : List CA) : List Value := (l.map CA.cells).flatten
theorem CL.own {w : World} {base : Nat} {v : Value} {n : Nat} {l : List CA} (h : w.ownsRow base 27 6 v n (cellsC l)) (hok : ∀ o ∈ l, o.ok w) : ∃ ao cap, v = .slice ao n cap ∧ CL w ao n cap l := by
  have hl : l.length = n := by
    have := h.1
    unfold cellsC at this
    rw [flat_len CA.cells 6 (fun _ => rfl)] at this
    omega
  rcases h.2 with ⟨rfl, rfl⟩ | ⟨g, cap, cur, rfl, a1, a2, a3, a4, a5, a6⟩
  · exact ⟨none, 0, rfl, hl, Nat.le_refl _, Nat.zero_le _, fun _ => ⟨rfl, rfl⟩, fun _ h => by simp at h, fun y hy => hok y hy⟩
  · refine ⟨some ⟨g, 0, none⟩, cap, rfl, hl, a3, a4, fun h => by simp at h, fun a ha i hi j u hu => ?_, fun y hy => hok y hy⟩
    obtain rfl := Option.some.inj ha
    have hj : j < 6 := (List.getElem?_eq_some_iff.1 hu).1
    refine h.cells (g := g) rfl (i * 6 + j) u ?_
    unfold cellsC
    rw [flat_get CA.cells 6 (fun _ => rfl) l i j hi hj]
    exact hu
theorem c_one (y : CA) : ∀ u ∈ y.cells, u.oneCell' = true := by
  intro u hu
  unfold CA.cells at hu
  simp only [List.mem_cons, List.not_mem_nil, or_false] at hu
  rcases hu with rfl | rfl | rfl | rfl | rfl | rfl <;> rfl
end Go.Proofs.YtnicnfjickknjaaGreatDoor

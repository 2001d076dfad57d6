/-
  Texts in one: TbAlive, CName, CBytes, RbItem.
-/
import Derived.Test.YtnicnfjickknjaaGreatDoorTabletItemsZ8
import Derived.Lib.SmallJoins
import Derived.Test.YtnicnfjickknjaaGreatDoorTabletItemsZ2
import Derived.Test.YtnicnfjickknjaaGreatDoorTabletItemsZ3
import Derived.Test.YtnicnfjickknjaaGreatDoorTabletItemsZ1
namespace Go.Proofs.YtnicnfjickknjaaGreatDoor
open Go.RowKit

def opP (g : Nat) : OA := ⟨1, ⟨#[97]⟩, ⟨#[102]⟩, ⟨#[]⟩, 0, ⟨#[]⟩, ⟨some ⟨g, 0, none⟩, 1, 1, [118]⟩, ⟨none, 0, 0, []⟩, false, none, 0, 0⟩
def opG : OA := ⟨7, ⟨#[97]⟩, ⟨#[102]⟩, ⟨#[]⟩, 0, ⟨#[]⟩, ⟨none, 0, 0, []⟩, ⟨none, 0, 0, []⟩, false, none, 0, 0⟩
def cvA : CV := ⟨⟨#[97]⟩, ⟨#[102]⟩, ⟨#[]⟩, 0, [118], false⟩
theorem cvA_good : cvA.good := ⟨by decide, by decide, by decide, by intro x hx; simp [cvA] at hx; omega, fun h => by simp [cvA] at h⟩
theorem opP_right (g : Nat) : rightO (opP g).s [] = true := by kernel_rfl
theorem opG_right : rightO opG.s [] = true := by kernel_rfl
theorem mPutA : mPut [] cvA = ([cvA], 0) := by kernel_rfl
theorem mGetA : mGet [cvA] ⟨⟨#[97]⟩, ⟨#[102]⟩, ⟨#[]⟩, 0⟩ = ⟨0, [cvA], false⟩ := by kernel_rfl
theorem inRowsA : inRows ⟨#[]⟩ ⟨#[]⟩ ⟨#[97]⟩ = true := by kernel_rfl
theorem newKA : newK ⟨#[]⟩ ⟨#[]⟩ = 0 := by kernel_rfl
theorem CSrt.one (c : CV) : CSrt [c] := Srt.one _
theorem OWL.nil0 (w : World) : OWL w 0 none 0 0 [] := ⟨rfl, Nat.le_refl _, Nat.zero_le _, fun _ => ⟨rfl, rfl⟩, fun _ h => by simp at h, fun _ h => by simp at h⟩
theorem opP_ok (w : World) (g : Nat) (h : Sl w (some ⟨g, 0, none⟩) 1 1 [118]) : (opP g).ok w :=
  ⟨show (-9223372036854775808 : Int) ≤ 1 ∧ (1 : Int) ≤ 9223372036854775807 by decide, show (⟨#[97]⟩ : ByteArray).size ≤ maxLen by decide, show (⟨#[102]⟩ : ByteArray).size ≤ maxLen by decide, show (⟨#[]⟩ : ByteArray).size ≤ maxLen by decide, show 0 < 18446744073709551616 by decide, show (⟨#[]⟩ : ByteArray).size ≤ maxLen by decide, h, Sl.nothing w, Nat.le_refl _, Nat.zero_le _, fun _ => ⟨rfl, rfl⟩⟩
theorem opG_ok (w : World) : opG.ok w :=
  ⟨by decide, by decide, by decide, by decide, by decide, by decide, Sl.nothing w, Sl.nothing w, Nat.le_refl _, by decide, fun _ => ⟨rfl, rfl⟩⟩
/-- The put. -/
theorem applyP (w : World) (p g : Nat) (hTb : Tabs w) (hT : TB w p ⟨#[]⟩ ⟨#[]⟩ []) (h : Sl w (some ⟨g, 0, none⟩) 1 1 [118]) :
    Calls Tryz.prog 19 #[.pointer (some ⟨p, 0, none⟩), (opP g).val] w (DoPost w p ⟨#[]⟩ ⟨#[]⟩ ([cvA], ⟨0, [], false⟩)) := by
  have t2 := hTb.two
  have := apply_any w p ⟨#[]⟩ ⟨#[]⟩ [] (opP g) [] ([cvA], ⟨0, [], false⟩) hT (opP_ok w g h) (OWL.nil0 w) (opP_right g) (fun V u _ hu => by
    have := isout_row V p ⟨#[]⟩ ⟨#[]⟩ u (opP g) hu (show (1 : Int) ≠ 8 by decide)
    rw [show (opP g).row = ⟨#[97]⟩ from rfl, inRowsA] at this
    exact this) (fun V hV => by
    have := do_put V p ⟨#[]⟩ ⟨#[]⟩ [] (opP g) rfl (hTb.below hV t2) (hT.below hV) List.Pairwise.nil (fun _ h => by simp at h) (by decide) (opP_ok V g (h.below hV)) cvA_good
    rw [show (opP g).cell.c = cvA from rfl, mPutA] at this
    exact this)
  exact this
/-- The get. -/
theorem applyG (w : World) (p : Nat) (hT : TB w p ⟨#[]⟩ ⟨#[]⟩ [cvA]) :
    Calls Tryz.prog 19 #[.pointer (some ⟨p, 0, none⟩), opG.val] w (DoPost w p ⟨#[]⟩ ⟨#[]⟩ ([cvA], ⟨0, [cvA], false⟩)) := by
  have := apply_any w p ⟨#[]⟩ ⟨#[]⟩ [cvA] opG [] ([cvA], ⟨0, [cvA], false⟩) hT (opG_ok w) (OWL.nil0 w) opG_right (fun V u _ hu => by
    have := isout_row V p ⟨#[]⟩ ⟨#[]⟩ u opG hu (by decide)
    rw [show opG.row = ⟨#[97]⟩ from rfl, inRowsA] at this
    exact this) (fun V hV => by
    have := do_get V p ⟨#[]⟩ ⟨#[]⟩ [cvA] opG rfl (hT.below hV) (CSrt.one _) (fun c hc => by rw [List.mem_singleton.1 hc]; exact cvA_good) (by decide) (by decide)
    rw [show opG.key = ⟨⟨#[97]⟩, ⟨#[102]⟩, ⟨#[]⟩, 0⟩ from rfl, mGetA] at this
    exact this)
  exact this

set_option maxHeartbeats 2000000 in
set_option maxRecDepth 100000 in
theorem alive10 (w : World) (hTb : Tabs w) : Calls Tryz.prog 9 #[] w fun e w' => e = .returned (.bool true) ∧ Below w.heap.size w w' := by
  have t2 := hTb.two
  have CN := tnew_any w ⟨#[]⟩ ⟨#[]⟩ (by decide) (by decide)
  go_enter Tryz.func9, Tryz.ntmps9
  go_wp2_with fail
  refine CN.mono ?_
  rintro e w1 (⟨-, rfl, X1, C1⟩ | ⟨h, -⟩)
  case inr => rw [newKA] at h; simp at h
  clear CN
  have kc := fun (w : World) (C : Array Value) (n c g : Nat) (hg : g = w.heap.size) => Joins.run_convert_bytes_const_at (P := Tryz.prog) w 25 5 C n c g hg Tryz.underlying25 Tryz.underlying5
  obtain ⟨W2, hW2⟩ : ∃ V, V = w1.alloc (.cells #[.string ⟨#[97]⟩, .string ⟨#[102]⟩, .string ⟨#[]⟩, .int .u64 0] 24) := ⟨_, rfl⟩
  obtain ⟨W3, hW3⟩ : ∃ V, V = W2.alloc (.cells #[.int .u8 118] 5 (1, 2)) := ⟨_, rfl⟩
  have C2 : Below w1.heap.size w1 W2 := by rw [hW2]; exact (Below.refl _ _).alloc (Nat.le_refl _) _
  have C3 : Below W2.heap.size W2 W3 := by rw [hW3]; exact (Below.refl _ _).alloc (Nat.le_refl _) _
  have z2 : W2.heap.size = w1.heap.size + 1 := by rw [hW2]; exact Array.size_push ..
  have K2 : Arr W2 w1.heap.size 24 [.string ⟨#[97]⟩, .string ⟨#[102]⟩, .string ⟨#[]⟩, .int .u64 0] := by rw [hW2]; exact heap_alloc_new w1 _
  have K3 := arr_below K2 C3
  have S3 : Sl W3 (some ⟨w1.heap.size + 1, 0, none⟩) 1 1 [118] := by rw [hW3, ← z2]; exact Sl.const W2 [118] (1, 2) (fun x hx => by simp at hx; omega) (by simp [maxLen])
  have k1 := kc W2 #[.int .u8 118] 1 1 (w1.heap.size + 1) z2.symm
  rw [hW2] at k1
  have B3 := (C1.trans (C2.mono C1.size)).trans (C3.mono (by have := C1.size; have := C2.size; omega))
  have X3 := (X1.below C2).below C3
  have CP := applyP W3 w.heap.size (w1.heap.size + 1) (hTb.below B3 t2) X3 S3
  have hpl := X1.lt
  have ek : (opP (w1.heap.size + 1)).val = .agg #[.int .i64 1, .string ⟨#[97]⟩, .string ⟨#[102]⟩, .string ⟨#[]⟩, .int .u64 0, .string ⟨#[]⟩, .slice (some ⟨w1.heap.size + 1, 0, none⟩) 1 1, .slice none 0 0, .bool false, .slice none 0 0] := rfl
  rw [ek] at CP
  go_wp2_with fail
  rw [← hW2, ← hW3]
  clear hW2 hW3 k1 z2 K2 S3 C2 C3 X1 X3 ek
  refine CP.mono ?_
  rintro e w4 ⟨⟨ao, n, cap, l, rfl, -, -⟩, X4, K4⟩
  unfold resV
  have hs3 := B3.size
  have hwn : w.heap.size ≠ w1.heap.size := by omega
  have K4' : Arr w4 w1.heap.size 24 [.string ⟨#[97]⟩, .string ⟨#[102]⟩, .string ⟨#[]⟩, .int .u64 0] := (K4.block _ K3.lt (Ne.symm hwn)).trans K3
  have B4 := Wr.below B3 K4 B3.size (Nat.le_refl _)
  clear CP K3
  obtain ⟨W5, hW5⟩ : ∃ V, V = w4.alloc (.cells #[.int .i64 0, .slice ao n cap, .bool false] 50) := ⟨_, rfl⟩
  have C5 : Below w4.heap.size w4 W5 := by rw [hW5]; exact (Below.refl _ _).alloc (Nat.le_refl _) _
  have Q5 : Arr W5 w4.heap.size 50 [.int .i64 0, .slice ao n cap, .bool false] := by rw [hW5]; exact heap_alloc_new w4 _
  have K5 := arr_below K4' C5
  have X5 := X4.below C5
  have B5 := B4.trans (C5.mono B4.size)
  have q0 : (w4.alloc (.cells #[.int .i64 0, .slice ao n cap, .bool false] 50)).cell? ⟨w1.heap.size, 0, none⟩ = some (.string ⟨#[97]⟩) := by rw [← hW5]; exact K5.cell 0
  have q1 : (w4.alloc (.cells #[.int .i64 0, .slice ao n cap, .bool false] 50)).cell? ⟨w1.heap.size, 1, none⟩ = some (.string ⟨#[102]⟩) := by rw [← hW5]; exact K5.cell 1
  have q2 : (w4.alloc (.cells #[.int .i64 0, .slice ao n cap, .bool false] 50)).cell? ⟨w1.heap.size, 2, none⟩ = some (.string ⟨#[]⟩) := by rw [← hW5]; exact K5.cell 2
  have q3 : (w4.alloc (.cells #[.int .i64 0, .slice ao n cap, .bool false] 50)).cell? ⟨w1.heap.size, 3, none⟩ = some (.int .u64 0) := by rw [← hW5]; exact K5.cell 3
  have CG := applyG W5 w.heap.size X5
  have ek : opG.val = .agg #[.int .i64 7, .string ⟨#[97]⟩, .string ⟨#[102]⟩, .string ⟨#[]⟩, .int .u64 0, .string ⟨#[]⟩, .slice none 0 0, .slice none 0 0, .bool false, .slice none 0 0] := rfl
  rw [ek] at CG
  go_wp2_with fail
  rw [← hW5]
  clear hW5 q0 q1 q2 q3 ek
  refine CG.mono ?_
  rintro e w6 ⟨⟨bo, m, mc, l2, rfl, L6, hl6⟩, X6, K6⟩
  unfold resV
  have hz5 := B5.size
  have Q6 : Arr w6 w4.heap.size 50 [.int .i64 0, .slice ao n cap, .bool false] := (K6.block _ Q5.lt (by have := B4.size; have := X4.lt; omega)).trans Q5
  have B6 := Wr.below B5 K6 B5.size (Nat.le_refl _)
  have hl61 : l2.length = 1 := by have := congrArg List.length hl6; rw [List.length_map] at this; exact this
  obtain rfl : m = 1 := by rw [← L6.len]; exact hl61
  obtain ⟨cc, rfl⟩ : ∃ cc, l2 = [cc] := by
    match l2, hl61 with
    | [cc], _ => exact ⟨cc, rfl⟩
  have hcc : cc.c = cvA := by simpa using hl6
  obtain ⟨lb, lo, rfl, hc6⟩ := L6.at (by omega)
  have Xc := hc6 0 (by simp)
  rw [Nat.zero_mul, Nat.add_zero] at Xc
  have Xc : CX w6 lb lo cc := Xc
  have c4 := Xc.c4
  have okc : cc.ok w6 := L6.ok _ (List.mem_singleton.2 rfl)
  have Sv := okc.va
  have hvx : cc.va.xs = [118] := congrArg CV.value hcc
  rw [hvx] at Sv
  clear CG Q5 hl6 hl61 hc6 Xc hcc L6 okc hvx
  obtain ⟨W7, hW7⟩ : ∃ V, V = w6.alloc (.cells #[.int .i64 0, .slice (some ⟨lb, lo, none⟩) 1 mc, .bool false] 50) := ⟨_, rfl⟩
  have C7 : Below w6.heap.size w6 W7 := by rw [hW7]; exact (Below.refl _ _).alloc (Nat.le_refl _) _
  have B7 := B6.trans (C7.mono B6.size)
  have Q7 := arr_below Q6 C7
  have e0 : (w6.alloc (.cells #[.int .i64 0, .slice (some ⟨lb, lo, none⟩) 1 mc, .bool false] 50)).cell? ⟨w4.heap.size, 0, none⟩ = some (.int .i64 0) := by rw [← hW7]; exact Q7.cell 0
  have e4 : (w6.alloc (.cells #[.int .i64 0, .slice (some ⟨lb, lo, none⟩) 1 mc, .bool false] 50)).cell? ⟨lb, lo + 4, none⟩ = some (.slice cc.va.ao cc.va.n cc.va.cap) := by rw [← hW7]; exact (C7.cell (World.block_lt_of_cell? _ _ c4)).trans c4
  have cv := conv_str (Sv.below C7)
  rw [hW7] at cv
  have hvs : ((strOfNums [118]).toList == [118]) = true := by kernel_rfl
  go_wp2
  go_ret
  rw [← hW7]
  exact ⟨rfl, B7⟩
end Go.Proofs.YtnicnfjickknjaaGreatDoor

namespace Go.Proofs.YtnicnfjickknjaaGreatDoor
open Go.RowKit

set_option maxHeartbeats 2000000 in
set_option maxRecDepth 100000 in
theorem rname_any (w : World) (base : Nat) (v : Value) (n : Nat) (xs : List Int) (s : ByteArray) (hown : w.ownsRow base 5 1 v n (bv xs)) (hbase : base ≤ w.heap.size) (hn : n ≤ 1000000) (hs : s.size ≤ 1000000) :
    Calls Tryz.prog 56 #[v, .string s] w fun e w' =>
      ∃ v', e = .returned v' ∧ w'.ownsRow base 5 1 v' (n + (nm (sb s)).length) (bv (xs ++ nm (sb s))) ∧ Below base w w' := by
  go_enter Tryz.func56, Tryz.ntmps56
  go_wp2_with fail
  go_loopw [0, 5] (fun b i wr => ∃ k : Nat, k ≤ s.size ∧ i = .int .i64 k ∧ wr.ownsRow base 5 1 b (n + (esc ((sb s).take k)).length) (bv (xs ++ esc ((sb s).take k))) ∧ Below base w wr) (fun _ i _ => s.size - (intOf i).toNat)
  case atStart => exact ⟨0, by omega, rfl, by simpa [esc] using hown, Below.refl _ _⟩
  case round =>
    clear hown
    obtain ⟨k, hk, rfl, O, B⟩ := hrel
    have hsz := B.size
    have hl : (esc ((sb s).take k)).length ≤ 2 * k := by
      have h1 := esc_len ((sb s).take k)
      have h2 : ((sb s).take k).length ≤ k := by simp; omega
      omega
    by_cases l1 : k < s.size
    · have i1 : (k : Int) < (s.size : Int) := by omega
      obtain ⟨x, hx⟩ : ∃ x : Nat, x = s[k].toNat := ⟨_, rfl⟩
      have hx8 : x < 256 := by rw [hx]; exact s[k].toNat_lt
      have r1 : ∀ W : World, (Instr.index 9 (.string s) (.int .i64 k)).run Tryz.prog W = .ok (.int .u8 x) W := fun W => by
        rw [run_index_string W _ s _ _ Tryz.underlying9, dif_pos ⟨by omega, i1⟩, hx]
        rfl
      have ht : Hid (esc ((sb s).take (k + 1)) = esc ((sb s).take k) ++ (if (x : Int) = 0 then [0, 255] else [(x : Int)])) := by
        show _ = _
        rw [sb_take s k l1, esc_append, ← hx]
        simp [esc]
      clear hx
      obtain ⟨p, hp⟩ : ∃ p, p = esc ((sb s).take k) := ⟨_, rfl⟩
      rw [← hp] at O hl ht
      clear hp
      by_cases hz : x = 0
      · subst hz
        go_wp2_with (first
          | (at_builtin; refine wpList_app rfl (.tmp 12) (.tmp 16) rfl base _ _ _ rfl (O.alloc _) _ 1 1 [0] rfl (Sl.one wr _ (by omega)) (by omega) (by simp; omega) ?_; intro v2 w2 O2 C2; have D2 : Below base w w2 := (B.alloc (by omega) _).trans C2; have s2 := D2.size; clear C2 O)
          | (at_builtin; refine wpList_app rfl (.tmp 22) (.tmp 23) rfl base _ _ _ rfl (O2.alloc _) _ 1 1 [255] rfl (Sl.one w2 _ (by omega)) (by omega) (by simp; omega) ?_; intro v3 w3 O3 C3; have D3 : Below base w w3 := (D2.alloc (by omega) _).trans C3; clear C3 O2))
        have O4 : w3.ownsRow base 5 1 v3 (n + (esc ((sb s).take (k + 1))).length) (bv (xs ++ esc ((sb s).take (k + 1)))) := by
          rw [ht.out]
          simpa [Nat.add_assoc] using O3
        go_roundw
        case rel => exact ⟨k + 1, by omega, by go_num, O4, D3⟩
        case measure => simp [intOf]; omega
      · have f1 : ((x : Int) == 0) = false := by simp; omega
        have hz' : ¬ (x : Int) = 0 := by omega
        go_wp2_with (at_builtin; refine wpList_app rfl (.tmp 12) (.tmp 16) rfl base _ _ _ rfl (O.alloc _) _ 1 1 [(x : Int)] rfl (Sl.one wr _ (by omega)) (by omega) (by simp; omega) ?_; intro v2 w2 O2 C2; have D2 : Below base w w2 := (B.alloc (by omega) _).trans C2; clear C2 O)
        have O4 : w2.ownsRow base 5 1 v2 (n + (esc ((sb s).take (k + 1))).length) (bv (xs ++ esc ((sb s).take (k + 1)))) := by
          rw [ht.out, if_neg hz']
          simpa [Nat.add_assoc] using O2
        go_roundw
        case rel => exact ⟨k + 1, by omega, by go_num, O4, D2⟩
        case measure => simp [intOf]; omega
    · have i1 : (s.size : Int) ≤ (k : Int) := by omega
      have ht : (sb s).take k = sb s := List.take_of_length_le (by rw [sb_len]; omega)
      rw [ht] at O hl
      clear ht
      go_wp2_with (at_builtin; refine wpList_app rfl (.tmp 25) (.tmp 26) rfl base _ _ _ rfl (O.alloc _) _ 2 2 [0, 1] rfl (Sl.new wr [0, 1] (by intro y hy; simp at hy; omega) (by simp [maxLen])) (by omega) (by simp; omega) ?_; intro v2 w2 O2 C2; have D2 : Below base w w2 := (B.alloc (by omega) _).trans C2; clear C2 O)
      have O3 : w2.ownsRow base 5 1 v2 (n + (nm (sb s)).length) (bv (xs ++ nm (sb s))) := by
        rw [nm_esc]
        simpa [Nat.add_assoc] using O2
      clear O2
      go_ret
      exact ⟨v2, rfl, O3, D2⟩
end Go.Proofs.YtnicnfjickknjaaGreatDoor

namespace Go.Proofs.YtnicnfjickknjaaGreatDoor
open Go.RowKit

set_option maxHeartbeats 4000000 in
set_option maxRecDepth 100000 in
theorem rbytes_any (w : World) (k : KA) (hk : k.ok) (hr : k.isRight = true) :
    Calls Tryz.prog 33 #[k.val] w fun e w' => ∃ ao n c, e = .returned (.tuple #[.slice ao n c, .int .i64 0]) ∧ Sl w' ao n c (keyL k.kv) ∧ Below w.heap.size w w' := by
  have B1' : Below w.heap.size w (w.alloc (Obj.cells #[.string k.row, .string k.fam, .string k.qual, .int .u64 k.time] 24)) := (Below.refl _ w).alloc (Nat.le_refl _) _
  have K1' : ∀ i, (w.alloc (Obj.cells #[.string k.row, .string k.fam, .string k.qual, .int .u64 k.time] 24)).cell? ⟨w.heap.size, i, none⟩ = #[Value.string k.row, .string k.fam, .string k.qual, .int .u64 k.time][i]? := fun i => World.cell?_alloc_at _ _ _ _ rfl
  have hk0 : k.kind = 0 := by unfold KA.kind; rw [hr]; rfl
  have hsz := of_decide_eq_true hr
  have hti := hk.time
  obtain ⟨N, hN⟩ : ∃ N, N = w.heap.size := ⟨_, rfl⟩
  unfold KA.val
  go_enter Tryz.func33, Tryz.ntmps33
  go_wp2_with fail
  refine (rright_any _ k).mono ?_
  obtain ⟨w1, hw1⟩ : ∃ W, W = (w.alloc (Obj.cells #[.string k.row, .string k.fam, .string k.qual, .int .u64 k.time] 24)) := ⟨_, rfl⟩
  have z1 : w1.heap.size = w.heap.size + 1 := by rw [hw1]; simp
  rw [← hw1] at B1' K1' ⊢
  have B1 : Below w.heap.size w w1 := B1'
  rw [← hN] at K1'
  have HK : Hid (∀ V, Below w1.heap.size w1 V → ∀ i, V.cell? ⟨N, i, none⟩ = #[Value.string k.row, .string k.fam, .string k.qual, .int .u64 k.time][i]?) := by
    intro V hV i
    rw [hV.cell (by show N < _; omega)]
    exact K1' i
  clear hw1 B1' K1'
  rintro e w2 ⟨rfl, C2⟩
  rw [hk0, ← hN]
  clear hk0 hN z1
  have s2 := C2.size
  have b2 := B1.size
  go_wp2_with fail
  obtain ⟨wd, hwd⟩ : ∃ wd, wd = w2.drew := ⟨_, rfl⟩
  have E0 : Below w1.heap.size w1 wd := by rw [hwd]; exact C2.drew
  have HS : Hid (∀ V, Below w1.heap.size w1 V → V.cell? ⟨N, 0, none⟩ = some (.string k.row) ∧ V.cell? ⟨N, 1, none⟩ = some (.string k.fam) ∧ V.cell? ⟨N, 2, none⟩ = some (.string k.qual)) := fun V hV => ⟨HK.out V hV 0, HK.out V hV 1, HK.out V hV 2⟩
  refine wp_region_noPanic ?_
  refine wp_region_held_drew (S := fun V => V.cell? ⟨N, 0, none⟩ = some (.string k.row) ∧ V.cell? ⟨N, 1, none⟩ = some (.string k.fam) ∧ V.cell? ⟨N, 2, none⟩ = some (.string k.qual)) (by kernel_rfl) (HS.out _ C2.drew) (fun hH => ?_)
  rw [← hwd] at hH ⊢
  clear hwd
  have z0 := E0.size
  refine hr_take 0 (some 9) (.pointer (some ⟨N, 0, none⟩)) rfl rfl (by kernel_rfl) (by kernel_rfl) (by kernel_rfl) rfl (fun W hW => by obtain ⟨h1, h2, h3⟩ := hW; go_simp) hH ?_
  simp only [Act.put, List.setIfInBounds_toArray, List.set_cons_zero, List.set_cons_succ]
  refine hr_take 1 (some 10) (.string k.row) rfl rfl (by kernel_rfl) (by kernel_rfl) (by kernel_rfl) rfl (fun W hW => by obtain ⟨h1, h2, h3⟩ := hW; go_simp) hH ?_
  simp only [Act.put, List.setIfInBounds_toArray, List.set_cons_zero, List.set_cons_succ]
  refine hr_take 3 (some 12) (.pointer (some ⟨N, 1, none⟩)) rfl rfl (by kernel_rfl) (by kernel_rfl) (by kernel_rfl) rfl (fun W hW => by obtain ⟨h1, h2, h3⟩ := hW; go_simp) hH ?_
  simp only [Act.put, List.setIfInBounds_toArray, List.set_cons_zero, List.set_cons_succ]
  refine hr_take 4 (some 13) (.string k.fam) rfl rfl (by kernel_rfl) (by kernel_rfl) (by kernel_rfl) rfl (fun W hW => by obtain ⟨h1, h2, h3⟩ := hW; go_simp) hH ?_
  simp only [Act.put, List.setIfInBounds_toArray, List.set_cons_zero, List.set_cons_succ]
  refine hr_take 6 (some 15) (.pointer (some ⟨N, 2, none⟩)) rfl rfl (by kernel_rfl) (by kernel_rfl) (by kernel_rfl) rfl (fun W hW => by obtain ⟨h1, h2, h3⟩ := hW; go_simp) hH ?_
  simp only [Act.put, List.setIfInBounds_toArray, List.set_cons_zero, List.set_cons_succ]
  refine hr_take 7 (some 16) (.string k.qual) rfl rfl (by kernel_rfl) (by kernel_rfl) (by kernel_rfl) rfl (fun W hW => by obtain ⟨h1, h2, h3⟩ := hW; go_simp) hH ?_
  simp only [Act.put, List.setIfInBounds_toArray, List.set_cons_zero, List.set_cons_succ]
  have l1 := (nm_len (sb k.row)).2
  have l2 := (nm_len (sb k.fam)).2
  have l3 := (nm_len (sb k.qual)).2
  rw [sb_len] at l1 l2 l3
  refine hr_call 2 (some 11) 56 #[.slice none 0 0, .string k.row] rfl rfl (by kernel_rfl) rfl (by go_simp) (fun v w' => w'.ownsRow wd.heap.size 5 1 v (0 + (nm (sb k.row)).length) (bv ([] ++ nm (sb k.row))) ∧ Below wd.heap.size wd w') ((rname_any wd wd.heap.size _ (0) ([]) k.row (World.ownsRow_nil _ _ _ _) (by omega) (by omega) (by omega)).mono (by
    rintro e w' ⟨v', rfl, O, B⟩
    exact ⟨_, rfl, O, B⟩)) ?_
  rintro v1 u1 ⟨O1, D1⟩
  have E1 : Below w1.heap.size w1 u1 := E0.trans (D1.mono z0)
  have y1 := D1.size
  have S1 := HS.out u1 E1
  refine ⟨S1, ?_⟩
  simp only [Act.put, List.setIfInBounds_toArray, List.set_cons_zero, List.set_cons_succ]
  refine hr_call 5 (some 14) 56 #[v1, .string k.fam] rfl rfl (by kernel_rfl) rfl (by go_simp) (fun v w' => w'.ownsRow wd.heap.size 5 1 v (0 + (nm (sb k.row)).length + (nm (sb k.fam)).length) (bv ([] ++ nm (sb k.row) ++ nm (sb k.fam))) ∧ Below wd.heap.size u1 w') ((rname_any u1 wd.heap.size _ (0 + (nm (sb k.row)).length) ([] ++ nm (sb k.row)) k.fam O1 (by omega) (by omega) (by omega)).mono (by
    rintro e w' ⟨v', rfl, O, B⟩
    exact ⟨_, rfl, O, B⟩)) ?_
  rintro v2 u2 ⟨O2, D2⟩
  have E2 : Below w1.heap.size w1 u2 := E1.trans (D2.mono z0)
  have y2 := D2.size
  have S2 := HS.out u2 E2
  refine ⟨S2, ?_⟩
  simp only [Act.put, List.setIfInBounds_toArray, List.set_cons_zero, List.set_cons_succ]
  refine hr_call 8 (some 17) 56 #[v2, .string k.qual] rfl rfl (by kernel_rfl) rfl (by go_simp) (fun v w' => w'.ownsRow wd.heap.size 5 1 v (0 + (nm (sb k.row)).length + (nm (sb k.fam)).length + (nm (sb k.qual)).length) (bv ([] ++ nm (sb k.row) ++ nm (sb k.fam) ++ nm (sb k.qual))) ∧ Below wd.heap.size u2 w') ((rname_any u2 wd.heap.size _ (0 + (nm (sb k.row)).length + (nm (sb k.fam)).length) ([] ++ nm (sb k.row) ++ nm (sb k.fam)) k.qual O2 (by omega) (by omega) (by omega)).mono (by
    rintro e w' ⟨v', rfl, O, B⟩
    exact ⟨_, rfl, O, B⟩)) ?_
  rintro v3 u3 ⟨O3, D3⟩
  have E3 : Below w1.heap.size w1 u3 := E2.trans (D3.mono z0)
  have y3 := D3.size
  have S3 := HS.out u3 E3
  refine ⟨S3, ?_⟩
  simp only [Act.put, List.setIfInBounds_toArray, List.set_cons_zero, List.set_cons_succ]
  refine hr_take 9 (some 4) (v3) rfl rfl (by kernel_rfl) (by kernel_rfl) (by kernel_rfl) rfl (fun W hW => by obtain ⟨h1, h2, h3⟩ := hW; go_simp) S3 ?_
  simp only [Act.put, List.setIfInBounds_toArray, List.set_cons_zero, List.set_cons_succ]
  refine wpAnyH_done (by kernel_rfl) ?_ _
  refine NoPanic.normal ?_
  go_wp2_with fail
  obtain ⟨pre, hpre⟩ : ∃ pre, pre = [] ++ nm (sb k.row) ++ nm (sb k.fam) ++ nm (sb k.qual) := ⟨_, rfl⟩
  obtain ⟨n3, hn3⟩ : ∃ n3, n3 = 0 + (nm (sb k.row)).length + (nm (sb k.fam)).length + (nm (sb k.qual)).length := ⟨_, rfl⟩
  rw [← hpre, ← hn3] at O3
  have hn3' : n3 ≤ 300 := by omega
  have HP : Hid (pre = [] ++ nm (sb k.row) ++ nm (sb k.fam) ++ nm (sb k.qual)) := hpre
  have x3 := E3.size
  have HQ : Hid (∀ V, Below wd.heap.size u3 V → V.cell? ⟨N, 3, none⟩ = some (.int .u64 k.time)) := fun V hV => by
    refine (hV.cell ?_).trans (HK.out u3 E3 3)
    exact Nat.lt_of_lt_of_le (World.block_lt_of_cell? _ _ (HK.out w1 (Below.refl _ _) 3)) z0
  clear hpre hn3 O1 O2 D1 D2 S1 S2 S3 hH HS E1 E2
  go_loopw [4, 5] (fun b i wr => ∃ j : Nat, j ≤ 8 ∧ i = .int .i64 (7 - (j : Int)) ∧ wr.ownsRow wd.heap.size 5 1 b (n3 + j) (bv (pre ++ (beL 8 k.time).take j)) ∧ Below wd.heap.size u3 wr) (fun _ i _ => (intOf i + 1).toNat)
  case atStart => exact ⟨0, by omega, rfl, by simpa using O3, Below.refl _ _⟩
  case round =>
    clear O3
    obtain ⟨j, hj, rfl, O, B⟩ := hrel
    have c3 := HQ.out wr B
    have bs := B.size
    by_cases l : j < 8
    · obtain ⟨m, hm⟩ : ∃ m, m = 7 - j := ⟨_, rfl⟩
      have e7 : (7 : Int) - (j : Int) = (m : Int) := by omega
      have m7 : m ≤ 7 := by omega
      have HM : Hid (m = 7 - j) := hm
      rw [e7]
      clear hm e7
      obtain ⟨x, hx⟩ : ∃ x, x = k.time / 256 ^ m % 256 := ⟨_, rfl⟩
      have hx8 : x < 256 := by rw [hx]; exact Nat.mod_lt _ (by omega)
      have hb : bits BinOp.and IntKind.u64 ((k.time : Int) / 2 ^ (8 * m)) 255 = (x : Int) := by
        rw [hx]; exact byte_at k.time m hti
      have hxm : (x : Int) % 256 = (x : Int) := by omega
      have hx5 : (x : Int) ≤ 255 := by omega
      have ht : Hid ((beL 8 k.time).take (j + 1) = (beL 8 k.time).take j ++ [255 - (x : Int)]) := by
        show _ = _
        rw [hx, beL_take 8 k.time j l, HM.out]
      clear hx
      go_wp2_with (at_builtin; refine wpList_app rfl (.tmp 22) (.tmp 32) rfl wd.heap.size _ _ _ rfl (O.alloc _) _ 1 1 [255 - (x : Int)] rfl (Sl.one wr _ (by omega)) (by omega) (by simp; omega) ?_; intro v4 w4 O4 C4; have D4 : Below wd.heap.size u3 w4 := (B.alloc (by omega) _).trans C4; clear C4 O)
      have O5 : w4.ownsRow wd.heap.size 5 1 v4 (n3 + (j + 1)) (bv (pre ++ (beL 8 k.time).take (j + 1))) := by
        rw [ht.out]
        simpa [Nat.add_assoc] using O4
      have em : (m : Int) - 1 = 7 - ((j + 1 : Nat) : Int) := by have := HM.out; omega
      go_roundw
      case rel => exact ⟨j + 1, by omega, by first | (rw [← em]; done) | go_num | (simp; omega), O5, D4⟩
      case measure => simp [intOf] <;> omega
    · obtain rfl : j = 8 := by omega
      have ht : (beL 8 k.time).take 8 = beL 8 k.time := List.take_of_length_le (by rw [beL_len]; omega)
      rw [ht] at O
      have hkey : pre ++ beL 8 k.time = keyL k.kv := by
        rw [HP.out]
        simp [keyL, KA.kv, List.append_assoc]
      rw [hkey] at O
      obtain ⟨go, gc, rfl, S4, -⟩ := Sl.own O (keyL_byte _ (KA.kv_byt hk))
      have BF : Below w.heap.size w wr := B1.trans ((E3.trans (B.mono z0)).mono b2)
      clear HP ht hkey O
      go_wp2
      go_ret2
      exact ⟨_, _, _, rfl, S4, BF⟩

set_option maxHeartbeats 2000000 in
set_option maxRecDepth 100000 in
theorem rbytes_bad (w : World) (k : KA) (hr : k.isRight = false) :
    Calls Tryz.prog 33 #[k.val] w fun e w' => e = .returned (.tuple #[.slice none 0 0, .int .i64 5]) ∧ Below w.heap.size w w' := by
  have B1 : Below w.heap.size w (w.alloc (Obj.cells #[.string k.row, .string k.fam, .string k.qual, .int .u64 k.time] 24)) := (Below.refl _ w).alloc (Nat.le_refl _) _
  have hk0 : k.kind = 5 := by unfold KA.kind; rw [hr]; rfl
  unfold KA.val
  go_enter Tryz.func33, Tryz.ntmps33
  go_wp2_with fail
  refine (rright_any _ k).mono ?_
  rintro e w2 ⟨rfl, C2⟩
  rw [hk0]
  clear hk0
  have B2 := B1.trans (C2.mono B1.size)
  go_wp2
  go_ret2
  exact ⟨rfl, B2⟩
end Go.Proofs.YtnicnfjickknjaaGreatDoor

namespace Go.Proofs.YtnicnfjickknjaaGreatDoor
open Go.RowKit

set_option maxHeartbeats 2000000 in
set_option maxRecDepth 100000 in
theorem ritem10_any (w : World) (c : CA) (h : c.ok w) (hn : c.va.n ≤ 100000) :
    Calls Tryz.prog 11 #[c.val] w fun e w' => ∃ ko kn kc vo vn vc, e = .returned (.agg #[.slice ko kn kc, .slice vo vn vc]) ∧ Sl w' ko kn kc (itK c) ∧ Sl w' vo vn vc (itV c.c) ∧ Below w.heap.size w w' := by
  obtain ⟨W1, hW1⟩ : ∃ V, V = w.alloc (.cells #[.string c.row, .string c.fam, .string c.qual, .int .u64 c.time, .slice c.va.ao c.va.n c.va.cap, .bool c.gone] 27) := ⟨_, rfl⟩
  obtain ⟨W2, hW2⟩ : ∃ V, V = W1.alloc (.cells #[.slice none 0 0, .slice none 0 0] 29) := ⟨_, rfl⟩
  have B1 : Below w.heap.size w W1 := by rw [hW1]; exact (Below.refl _ _).alloc (Nat.le_refl _) _
  have C2 : Below W1.heap.size W1 W2 := by rw [hW2]; exact (Below.refl _ _).alloc (Nat.le_refl _) _
  have B2 := B1.trans (C2.mono B1.size)
  have s1 : W1.heap.size = w.heap.size + 1 := by rw [hW1]; exact Array.size_push ..
  have A1' : Arr W1 w.heap.size 27 (#[.string c.row, .string c.fam, .string c.qual, .int .u64 c.time, .slice c.va.ao c.va.n c.va.cap, .bool c.gone]).toList := by rw [hW1]; exact heap_alloc_new w _
  have A1 := arr_below A1' C2
  have A2 : Arr W2 (w.heap.size + 1) 29 [.slice none 0 0, .slice none 0 0] := by rw [hW2, ← s1]; exact heap_alloc_new W1 _
  clear A1'
  unfold CA.val
  by_cases hr : c.key.isRight = true
  · have HK : Hid (itK c = keyL c.key.kv) := by show _ = _; unfold itK; rw [hr]; rfl
    have CB := rbytes_any W2 c.key ⟨h.row, h.fam, h.qual, h.time⟩ hr
    rw [show c.key.val = .agg #[.string c.row, .string c.fam, .string c.qual, .int .u64 c.time] from rfl] at CB
    go_enter Tryz.func11, Tryz.ntmps11
    go_wp2_with fail
    rw [← hW1, ← hW2]
    refine CB.mono ?_
    rintro e w3 ⟨ko, kn, kc, rfl, S3, C3⟩
    have B3 := B2.trans (C3.mono B2.size)
    have A3 := arr_below A1 C3
    have R3 := arr_below A2 C3
    have c4 : w3.cell? ⟨w.heap.size, 4, none⟩ = some (.slice c.va.ao c.va.n c.va.cap) := A3.cell 4
    have c5 : w3.cell? ⟨w.heap.size, 5, none⟩ = some (.bool c.gone) := A3.cell 5
    have r0 : w3.cell? ⟨w.heap.size + 1, 0, none⟩ = some (.slice none 0 0) := R3.cell 0
    have r1 : w3.cell? ⟨w.heap.size + 1, 1, none⟩ = some (.slice none 0 0) := R3.cell 1
    have f0 := R3.free 0
    have f1 := R3.free 1
    have lt := R3.lt
    clear CB
    cases hg : c.gone with
    | true =>
      have HV : Hid (itV c.c = [1]) := by show (if c.gone then _ else _) = _; rw [hg]; rfl
      rw [hg] at c5
      have S4 := Sl.one w3 1 (by omega)
      have KW : Wr (w.heap.size + 1) w3 (((w3.setCell ⟨w.heap.size + 1, 0, none⟩ (.slice ko kn kc)).setCell ⟨w.heap.size + 1, 1, none⟩ (.slice (some ⟨w3.heap.size, 0, none⟩) 1 1)).alloc (.cells #[.int .u8 1] 5)) := (((Wr.refl _ _).set 0 _).set 1 _).alloc _
      have BX : Below w.heap.size w (((w3.setCell ⟨w.heap.size + 1, 0, none⟩ (.slice ko kn kc)).setCell ⟨w.heap.size + 1, 1, none⟩ (.slice (some ⟨w3.heap.size, 0, none⟩) 1 1)).alloc (.cells #[.int .u8 1] 5)) := KW.below B3 B3.size (Nat.le_succ _)
      have SK : Sl _ ko kn kc _ := (S3).wr R3 (by simp) KW
      have SV : Sl (((w3.setCell ⟨w.heap.size + 1, 0, none⟩ (.slice ko kn kc)).setCell ⟨w.heap.size + 1, 1, none⟩ (.slice (some ⟨w3.heap.size, 0, none⟩) 1 1)).alloc (.cells #[.int .u8 1] 5)) (some ⟨w3.heap.size, 0, none⟩) 1 1 [1] := by
        have := Sl.one ((w3.setCell ⟨w.heap.size + 1, 0, none⟩ (.slice ko kn kc)).setCell ⟨w.heap.size + 1, 1, none⟩ (.slice (some ⟨w3.heap.size, 0, none⟩) 1 1)) 1 (by omega)
        simpa using this
      clear S4
      go_wp2
      exact bodyPost_ret (v := .agg #[.slice ko kn kc, .slice (some ⟨w3.heap.size, 0, none⟩) 1 1]) (by simp [results, Tryz.results11, go_sem, r0, r1, lt]) rfl ⟨_, _, _, _, _, _, rfl, by rw [HK.out]; exact SK, by rw [HV.out]; exact SV, BX⟩
    | false =>
      have HV : Hid (itV c.c = 0 :: c.va.xs) := by show (if c.gone then _ else _) = _; rw [hg]; rfl
      rw [hg] at c5
      obtain ⟨W4, hW4⟩ : ∃ V, V = w3.alloc (.cells #[.int .u8 0] 5) := ⟨_, rfl⟩
      have C4 : Below w3.heap.size w3 W4 := by rw [hW4]; exact (Below.refl _ _).alloc (Nat.le_refl _) _
      have O4 : W4.ownsRow w3.heap.size 5 1 (.slice (some ⟨w3.heap.size, 0, none⟩) 1 1) 1 (bv [0]) := by rw [hW4]; exact ⟨rfl, .inr ⟨w3.heap.size, 1, #[.int .u8 0], rfl, Nat.le_refl _, heap_alloc_new w3 _, Nat.le_refl _, by decide, rfl, rfl⟩⟩
      have hva := h.va.below (B3.trans (C4.mono B3.size))
      have B4 := B3.trans (C4.mono B3.size)
      have c4' : (w3.alloc (.cells #[.int .u8 0] 5)).cell? ⟨w.heap.size, 4, none⟩ = some (.slice c.va.ao c.va.n c.va.cap) := by rw [← hW4]; exact (C4.cell (World.block_lt_of_cell? _ _ c4)).trans c4
      have s4 := C4.size
      have HBZ : Hid (Byt (0 :: c.va.xs)) := fun x hx => (List.mem_cons.1 hx).elim (fun e => by rw [e]; omega) (h.va.byte x)
      go_wp2_with (at_builtin; rw [← hW4]; refine wpList_app rfl (.tmp 17) (.tmp 19) rfl w3.heap.size _ _ _ rfl O4 _ _ _ _ rfl hva (by omega) s4 ?_; intro v5 w5 O5 D5; have O5' : w5.ownsRow w3.heap.size 5 1 v5 (1 + c.va.n) (bv (0 :: c.va.xs)) := O5; obtain ⟨vo, vc, rfl, S5, -⟩ := Sl.own O5' HBZ.out; have C5 := C4.trans D5; have B5 := B3.trans (C5.mono B3.size); have R5 := arr_below R3 C5; have r0 : w5.cell? ⟨w.heap.size + 1, 0, none⟩ = some (.slice none 0 0) := R5.cell 0; have r1 : w5.cell? ⟨w.heap.size + 1, 1, none⟩ = some (.slice none 0 0) := R5.cell 1; have f0 := R5.free 0; have f1 := R5.free 1; have lt := R5.lt; clear O5 O5' c4' O4)
      have KW : Wr (w.heap.size + 1) w5 ((w5.setCell ⟨w.heap.size + 1, 0, none⟩ (.slice ko kn kc)).setCell ⟨w.heap.size + 1, 1, none⟩ (.slice vo (1 + c.va.n) vc)) := ((Wr.refl _ _).set 0 _).set 1 _
      have BX := KW.below B5 B5.size (Nat.le_succ _)
      have SK : Sl _ ko kn kc _ := ((S3).below C5).wr R5 (by simp) KW
      have SV := S5.wr R5 (by simp) KW
      exact bodyPost_ret (v := .agg #[.slice ko kn kc, .slice vo (1 + c.va.n) vc]) (by simp [results, Tryz.results11, go_sem, r0, r1]) rfl ⟨_, _, _, _, _, _, rfl, by rw [HK.out]; exact SK, by rw [HV.out]; exact SV, BX⟩
  · have hr : c.key.isRight = false := by simpa using hr
    have HK : Hid (itK c = []) := by show _ = _; unfold itK; rw [hr]; rfl
    have CB := rbytes_bad W2 c.key hr
    rw [show c.key.val = .agg #[.string c.row, .string c.fam, .string c.qual, .int .u64 c.time] from rfl] at CB
    go_enter Tryz.func11, Tryz.ntmps11
    go_wp2_with fail
    rw [← hW1, ← hW2]
    refine CB.mono ?_
    rintro e w3 ⟨rfl, C3⟩
    have B3 := B2.trans (C3.mono B2.size)
    have A3 := arr_below A1 C3
    have R3 := arr_below A2 C3
    have c4 : w3.cell? ⟨w.heap.size, 4, none⟩ = some (.slice c.va.ao c.va.n c.va.cap) := A3.cell 4
    have c5 : w3.cell? ⟨w.heap.size, 5, none⟩ = some (.bool c.gone) := A3.cell 5
    have r0 : w3.cell? ⟨w.heap.size + 1, 0, none⟩ = some (.slice none 0 0) := R3.cell 0
    have r1 : w3.cell? ⟨w.heap.size + 1, 1, none⟩ = some (.slice none 0 0) := R3.cell 1
    have f0 := R3.free 0
    have f1 := R3.free 1
    have lt := R3.lt
    clear CB
    cases hg : c.gone with
    | true =>
      have HV : Hid (itV c.c = [1]) := by show (if c.gone then _ else _) = _; rw [hg]; rfl
      rw [hg] at c5
      have S4 := Sl.one w3 1 (by omega)
      have KW : Wr (w.heap.size + 1) w3 (((w3.setCell ⟨w.heap.size + 1, 0, none⟩ (.slice none 0 0)).setCell ⟨w.heap.size + 1, 1, none⟩ (.slice (some ⟨w3.heap.size, 0, none⟩) 1 1)).alloc (.cells #[.int .u8 1] 5)) := (((Wr.refl _ _).set 0 _).set 1 _).alloc _
      have BX : Below w.heap.size w (((w3.setCell ⟨w.heap.size + 1, 0, none⟩ (.slice none 0 0)).setCell ⟨w.heap.size + 1, 1, none⟩ (.slice (some ⟨w3.heap.size, 0, none⟩) 1 1)).alloc (.cells #[.int .u8 1] 5)) := KW.below B3 B3.size (Nat.le_succ _)
      have SK : Sl _ none 0 0 _ := ((Sl.nothing w3)).wr R3 (by simp) KW
      have SV : Sl (((w3.setCell ⟨w.heap.size + 1, 0, none⟩ (.slice none 0 0)).setCell ⟨w.heap.size + 1, 1, none⟩ (.slice (some ⟨w3.heap.size, 0, none⟩) 1 1)).alloc (.cells #[.int .u8 1] 5)) (some ⟨w3.heap.size, 0, none⟩) 1 1 [1] := by
        have := Sl.one ((w3.setCell ⟨w.heap.size + 1, 0, none⟩ (.slice none 0 0)).setCell ⟨w.heap.size + 1, 1, none⟩ (.slice (some ⟨w3.heap.size, 0, none⟩) 1 1)) 1 (by omega)
        simpa using this
      clear S4
      go_wp2
      exact bodyPost_ret (v := .agg #[.slice none 0 0, .slice (some ⟨w3.heap.size, 0, none⟩) 1 1]) (by simp [results, Tryz.results11, go_sem, r0, r1, lt]) rfl ⟨_, _, _, _, _, _, rfl, by rw [HK.out]; exact SK, by rw [HV.out]; exact SV, BX⟩
    | false =>
      have HV : Hid (itV c.c = 0 :: c.va.xs) := by show (if c.gone then _ else _) = _; rw [hg]; rfl
      rw [hg] at c5
      obtain ⟨W4, hW4⟩ : ∃ V, V = w3.alloc (.cells #[.int .u8 0] 5) := ⟨_, rfl⟩
      have C4 : Below w3.heap.size w3 W4 := by rw [hW4]; exact (Below.refl _ _).alloc (Nat.le_refl _) _
      have O4 : W4.ownsRow w3.heap.size 5 1 (.slice (some ⟨w3.heap.size, 0, none⟩) 1 1) 1 (bv [0]) := by rw [hW4]; exact ⟨rfl, .inr ⟨w3.heap.size, 1, #[.int .u8 0], rfl, Nat.le_refl _, heap_alloc_new w3 _, Nat.le_refl _, by decide, rfl, rfl⟩⟩
      have hva := h.va.below (B3.trans (C4.mono B3.size))
      have B4 := B3.trans (C4.mono B3.size)
      have c4' : (w3.alloc (.cells #[.int .u8 0] 5)).cell? ⟨w.heap.size, 4, none⟩ = some (.slice c.va.ao c.va.n c.va.cap) := by rw [← hW4]; exact (C4.cell (World.block_lt_of_cell? _ _ c4)).trans c4
      have s4 := C4.size
      have HBZ : Hid (Byt (0 :: c.va.xs)) := fun x hx => (List.mem_cons.1 hx).elim (fun e => by rw [e]; omega) (h.va.byte x)
      go_wp2_with (at_builtin; rw [← hW4]; refine wpList_app rfl (.tmp 17) (.tmp 19) rfl w3.heap.size _ _ _ rfl O4 _ _ _ _ rfl hva (by omega) s4 ?_; intro v5 w5 O5 D5; have O5' : w5.ownsRow w3.heap.size 5 1 v5 (1 + c.va.n) (bv (0 :: c.va.xs)) := O5; obtain ⟨vo, vc, rfl, S5, -⟩ := Sl.own O5' HBZ.out; have C5 := C4.trans D5; have B5 := B3.trans (C5.mono B3.size); have R5 := arr_below R3 C5; have r0 : w5.cell? ⟨w.heap.size + 1, 0, none⟩ = some (.slice none 0 0) := R5.cell 0; have r1 : w5.cell? ⟨w.heap.size + 1, 1, none⟩ = some (.slice none 0 0) := R5.cell 1; have f0 := R5.free 0; have f1 := R5.free 1; have lt := R5.lt; clear O5 O5' c4' O4)
      have KW : Wr (w.heap.size + 1) w5 ((w5.setCell ⟨w.heap.size + 1, 0, none⟩ (.slice none 0 0)).setCell ⟨w.heap.size + 1, 1, none⟩ (.slice vo (1 + c.va.n) vc)) := ((Wr.refl _ _).set 0 _).set 1 _
      have BX := KW.below B5 B5.size (Nat.le_succ _)
      have SK : Sl _ none 0 0 _ := (((Sl.nothing w3)).below C5).wr R5 (by simp) KW
      have SV := S5.wr R5 (by simp) KW
      exact bodyPost_ret (v := .agg #[.slice none 0 0, .slice vo (1 + c.va.n) vc]) (by simp [results, Tryz.results11, go_sem, r0, r1]) rfl ⟨_, _, _, _, _, _, rfl, by rw [HK.out]; exact SK, by rw [HV.out]; exact SV, BX⟩
end Go.Proofs.YtnicnfjickknjaaGreatDoor

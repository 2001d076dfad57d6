/-
  The law's alive: a put, and a get of it.
-/
import Derived.Test.YthlpccajnmkbjaaGreatDoorY35
import Derived.Test.YthlpccajnmkbjaaGreatDoorY19
import Derived.Lib.SmallJoins
namespace Go.Proofs.YthlpccajnmkbjaaGreatDoor
open Go.RowKit

def opP (g : Nat) : OA := ⟨1, ⟨#[97]⟩, ⟨#[102]⟩, ⟨#[]⟩, 0, ⟨#[]⟩, ⟨some ⟨g, 0, none⟩, 1, 1, [118]⟩, ⟨none, 0, 0, []⟩, false, none, 0, 0⟩
def opG : OA := ⟨7, ⟨#[97]⟩, ⟨#[102]⟩, ⟨#[]⟩, 0, ⟨#[]⟩, ⟨none, 0, 0, []⟩, ⟨none, 0, 0, []⟩, false, none, 0, 0⟩
def cvA : CV := ⟨⟨#[97]⟩, ⟨#[102]⟩, ⟨#[]⟩, 0, [118], false⟩
theorem cvA_good : cvA.good := ⟨by decide, by decide, by decide, by intro x hx; simp [cvA] at hx; omega, fun h => by simp [cvA] at h⟩
theorem opP_right (g : Nat) : rightO (opP g).s [] = true := by kernel_rfl
theorem opG_right : rightO opG.s [] = true := by kernel_rfl
theorem mPutA : mPut [] cvA = ([cvA], 0) := by kernel_rfl
theorem mGetA : mGet [cvA] ⟨⟨#[97]⟩, ⟨#[102]⟩, ⟨#[]⟩, 0⟩ = ⟨0, [cvA], false⟩ := by kernel_rfl
theorem inRowsA : inRows ⟨#[]⟩ ⟨#[]⟩ ⟨#[97]⟩ = true := by kernel_rfl
theorem newKA : newK ⟨#[]⟩ ⟨#[]⟩ = 0 := by kernel_rfl
theorem CSrt.one (c : CV) : CSrt [c] := Srt.one _
theorem OWL.nil0 (w : World) : OWL w 0 none 0 0 [] := ⟨rfl, Nat.le_refl _, Nat.zero_le _, fun _ => ⟨rfl, rfl⟩, fun _ h => by simp at h, fun _ h => by simp at h⟩
theorem opP_ok (w : World) (g : Nat) (h : Sl w (some ⟨g, 0, none⟩) 1 1 [118]) : (opP g).ok w :=
  ⟨show (-9223372036854775808 : Int) ≤ 1 ∧ (1 : Int) ≤ 9223372036854775807 by decide, show (⟨#[97]⟩ : ByteArray).size ≤ maxLen by decide, show (⟨#[102]⟩ : ByteArray).size ≤ maxLen by decide, show (⟨#[]⟩ : ByteArray).size ≤ maxLen by decide, show 0 < 18446744073709551616 by decide, show (⟨#[]⟩ : ByteArray).size ≤ maxLen by decide, h, Sl.nothing w, Nat.le_refl _, Nat.zero_le _, fun _ => ⟨rfl, rfl⟩⟩
theorem opG_ok (w : World) : opG.ok w :=
  ⟨by decide, by decide, by decide, by decide, by decide, by decide, Sl.nothing w, Sl.nothing w, Nat.le_refl _, by decide, fun _ => ⟨rfl, rfl⟩⟩
/-- The put. -/
theorem applyP (w : World) (p g : Nat) (hTb : Tabs w) (hT : TB w p ⟨#[]⟩ ⟨#[]⟩ []) (h : Sl w (some ⟨g, 0, none⟩) 1 1 [118]) :
    Calls Tryz.prog 15 #[.pointer (some ⟨p, 0, none⟩), (opP g).val] w (DoPost w p ⟨#[]⟩ ⟨#[]⟩ ([cvA], ⟨0, [], false⟩)) := by
  have t2 := hTb.two
  have := apply_any w p ⟨#[]⟩ ⟨#[]⟩ [] (opP g) [] ([cvA], ⟨0, [], false⟩) hT (opP_ok w g h) (OWL.nil0 w) (opP_right g) (fun V u _ hu => by
    have := isout_row V p ⟨#[]⟩ ⟨#[]⟩ u (opP g) hu (show (1 : Int) ≠ 8 by decide)
    rw [show (opP g).row = ⟨#[97]⟩ from rfl, inRowsA] at this
    exact this) (fun V hV => by
    have := do_put V p ⟨#[]⟩ ⟨#[]⟩ [] (opP g) rfl (hTb.below hV t2) (hT.below hV) List.Pairwise.nil (fun _ h => by simp at h) (by decide) (opP_ok V g (h.below hV)) cvA_good
    rw [show (opP g).cell.c = cvA from rfl, mPutA] at this
    exact this)
  exact this
/-- The get. -/
theorem applyG (w : World) (p : Nat) (hT : TB w p ⟨#[]⟩ ⟨#[]⟩ [cvA]) :
    Calls Tryz.prog 15 #[.pointer (some ⟨p, 0, none⟩), opG.val] w (DoPost w p ⟨#[]⟩ ⟨#[]⟩ ([cvA], ⟨0, [cvA], false⟩)) := by
  have := apply_any w p ⟨#[]⟩ ⟨#[]⟩ [cvA] opG [] ([cvA], ⟨0, [cvA], false⟩) hT (opG_ok w) (OWL.nil0 w) opG_right (fun V u _ hu => by
    have := isout_row V p ⟨#[]⟩ ⟨#[]⟩ u opG hu (by decide)
    rw [show opG.row = ⟨#[97]⟩ from rfl, inRowsA] at this
    exact this) (fun V hV => by
    have := do_get V p ⟨#[]⟩ ⟨#[]⟩ [cvA] opG rfl (hT.below hV) (CSrt.one _) (fun c hc => by rw [List.mem_singleton.1 hc]; exact cvA_good) (by decide) (by decide)
    rw [show opG.key = ⟨⟨#[97]⟩, ⟨#[102]⟩, ⟨#[]⟩, 0⟩ from rfl, mGetA] at this
    exact this)
  exact this

set_option maxHeartbeats 2000000 in
set_option maxRecDepth 100000 in
theorem alive10 (w : World) (hTb : Tabs w) : Calls Tryz.prog 10 #[] w fun e w' => e = .returned (.bool true) ∧ Below w.heap.size w w' := by
  have t2 := hTb.two
  have CN := tnew_any w ⟨#[]⟩ ⟨#[]⟩ (by decide) (by decide)
  go_enter Tryz.func10, Tryz.ntmps10
  go_wp2_with fail
  refine CN.mono ?_
  rintro e w1 (⟨-, rfl, X1, C1⟩ | ⟨h, -⟩)
  case inr => rw [newKA] at h; simp at h
  clear CN
  have kc := fun (w : World) (C : Array Value) (n c g : Nat) (hg : g = w.heap.size) => Joins.run_convert_bytes_const_at (P := Tryz.prog) w 40 5 C n c g hg Tryz.underlying40 Tryz.underlying5
  obtain ⟨W2, hW2⟩ : ∃ V, V = w1.alloc (.cells #[.string ⟨#[97]⟩, .string ⟨#[102]⟩, .string ⟨#[]⟩, .int .u64 0] 39) := ⟨_, rfl⟩
  obtain ⟨W3, hW3⟩ : ∃ V, V = W2.alloc (.cells #[.int .u8 118] 5 (1, 2)) := ⟨_, rfl⟩
  have C2 : Below w1.heap.size w1 W2 := by rw [hW2]; exact (Below.refl _ _).alloc (Nat.le_refl _) _
  have C3 : Below W2.heap.size W2 W3 := by rw [hW3]; exact (Below.refl _ _).alloc (Nat.le_refl _) _
  have z2 : W2.heap.size = w1.heap.size + 1 := by rw [hW2]; exact Array.size_push ..
  have K2 : Arr W2 w1.heap.size 39 [.string ⟨#[97]⟩, .string ⟨#[102]⟩, .string ⟨#[]⟩, .int .u64 0] := by rw [hW2]; exact heap_alloc_new w1 _
  have K3 := arr_below K2 C3
  have S3 : Sl W3 (some ⟨w1.heap.size + 1, 0, none⟩) 1 1 [118] := by rw [hW3, ← z2]; exact Sl.const W2 [118] (1, 2) (fun x hx => by simp at hx; omega) (by simp [maxLen])
  have k1 := kc W2 #[.int .u8 118] 1 1 (w1.heap.size + 1) z2.symm
  rw [hW2] at k1
  have B3 := (C1.trans (C2.mono C1.size)).trans (C3.mono (by have := C1.size; have := C2.size; omega))
  have X3 := (X1.below C2).below C3
  have CP := applyP W3 w.heap.size (w1.heap.size + 1) (hTb.below B3 t2) X3 S3
  have hpl := X1.lt
  have ek : (opP (w1.heap.size + 1)).val = .agg #[.int .i64 1, .string ⟨#[97]⟩, .string ⟨#[102]⟩, .string ⟨#[]⟩, .int .u64 0, .string ⟨#[]⟩, .slice (some ⟨w1.heap.size + 1, 0, none⟩) 1 1, .slice none 0 0, .bool false, .slice none 0 0] := rfl
  rw [ek] at CP
  go_wp2_with fail
  rw [← hW2, ← hW3]
  clear hW2 hW3 k1 z2 K2 S3 C2 C3 X1 X3 ek
  refine CP.mono ?_
  rintro e w4 ⟨⟨ao, n, cap, l, rfl, -, -⟩, X4, K4⟩
  unfold resV
  have hs3 := B3.size
  have hwn : w.heap.size ≠ w1.heap.size := by omega
  have K4' : Arr w4 w1.heap.size 39 [.string ⟨#[97]⟩, .string ⟨#[102]⟩, .string ⟨#[]⟩, .int .u64 0] := (K4.block _ K3.lt (Ne.symm hwn)).trans K3
  have B4 := Wr.below B3 K4 B3.size (Nat.le_refl _)
  clear CP K3
  obtain ⟨W5, hW5⟩ : ∃ V, V = w4.alloc (.cells #[.int .i64 0, .slice ao n cap, .bool false] 34) := ⟨_, rfl⟩
  have C5 : Below w4.heap.size w4 W5 := by rw [hW5]; exact (Below.refl _ _).alloc (Nat.le_refl _) _
  have Q5 : Arr W5 w4.heap.size 34 [.int .i64 0, .slice ao n cap, .bool false] := by rw [hW5]; exact heap_alloc_new w4 _
  have K5 := arr_below K4' C5
  have X5 := X4.below C5
  have B5 := B4.trans (C5.mono B4.size)
  have q0 : (w4.alloc (.cells #[.int .i64 0, .slice ao n cap, .bool false] 34)).cell? ⟨w1.heap.size, 0, none⟩ = some (.string ⟨#[97]⟩) := by rw [← hW5]; exact K5.cell 0
  have q1 : (w4.alloc (.cells #[.int .i64 0, .slice ao n cap, .bool false] 34)).cell? ⟨w1.heap.size, 1, none⟩ = some (.string ⟨#[102]⟩) := by rw [← hW5]; exact K5.cell 1
  have q2 : (w4.alloc (.cells #[.int .i64 0, .slice ao n cap, .bool false] 34)).cell? ⟨w1.heap.size, 2, none⟩ = some (.string ⟨#[]⟩) := by rw [← hW5]; exact K5.cell 2
  have q3 : (w4.alloc (.cells #[.int .i64 0, .slice ao n cap, .bool false] 34)).cell? ⟨w1.heap.size, 3, none⟩ = some (.int .u64 0) := by rw [← hW5]; exact K5.cell 3
  have CG := applyG W5 w.heap.size X5
  have ek : opG.val = .agg #[.int .i64 7, .string ⟨#[97]⟩, .string ⟨#[102]⟩, .string ⟨#[]⟩, .int .u64 0, .string ⟨#[]⟩, .slice none 0 0, .slice none 0 0, .bool false, .slice none 0 0] := rfl
  rw [ek] at CG
  go_wp2_with fail
  rw [← hW5]
  clear hW5 q0 q1 q2 q3 ek
  refine CG.mono ?_
  rintro e w6 ⟨⟨bo, m, mc, l2, rfl, L6, hl6⟩, X6, K6⟩
  unfold resV
  have hz5 := B5.size
  have Q6 : Arr w6 w4.heap.size 34 [.int .i64 0, .slice ao n cap, .bool false] := (K6.block _ Q5.lt (by have := B4.size; have := X4.lt; omega)).trans Q5
  have B6 := Wr.below B5 K6 B5.size (Nat.le_refl _)
  have hl61 : l2.length = 1 := by have := congrArg List.length hl6; rw [List.length_map] at this; exact this
  obtain rfl : m = 1 := by rw [← L6.len]; exact hl61
  obtain ⟨cc, rfl⟩ : ∃ cc, l2 = [cc] := by
    match l2, hl61 with
    | [cc], _ => exact ⟨cc, rfl⟩
  have hcc : cc.c = cvA := by simpa using hl6
  obtain ⟨lb, lo, rfl, hc6⟩ := L6.at (by omega)
  have Xc := hc6 0 (by simp)
  rw [Nat.zero_mul, Nat.add_zero] at Xc
  have Xc : CX w6 lb lo cc := Xc
  have c4 := Xc.c4
  have okc : cc.ok w6 := L6.ok _ (List.mem_singleton.2 rfl)
  have Sv := okc.va
  have hvx : cc.va.xs = [118] := congrArg CV.value hcc
  rw [hvx] at Sv
  clear CG Q5 hl6 hl61 hc6 Xc hcc L6 okc hvx
  obtain ⟨W7, hW7⟩ : ∃ V, V = w6.alloc (.cells #[.int .i64 0, .slice (some ⟨lb, lo, none⟩) 1 mc, .bool false] 34) := ⟨_, rfl⟩
  have C7 : Below w6.heap.size w6 W7 := by rw [hW7]; exact (Below.refl _ _).alloc (Nat.le_refl _) _
  have B7 := B6.trans (C7.mono B6.size)
  have Q7 := arr_below Q6 C7
  have e0 : (w6.alloc (.cells #[.int .i64 0, .slice (some ⟨lb, lo, none⟩) 1 mc, .bool false] 34)).cell? ⟨w4.heap.size, 0, none⟩ = some (.int .i64 0) := by rw [← hW7]; exact Q7.cell 0
  have e4 : (w6.alloc (.cells #[.int .i64 0, .slice (some ⟨lb, lo, none⟩) 1 mc, .bool false] 34)).cell? ⟨lb, lo + 4, none⟩ = some (.slice cc.va.ao cc.va.n cc.va.cap) := by rw [← hW7]; exact (C7.cell (World.block_lt_of_cell? _ _ c4)).trans c4
  have cv := conv_str (Sv.below C7)
  rw [hW7] at cv
  have hvs : ((strOfNums [118]).toList == [118]) = true := by kernel_rfl
  go_wp2
  go_ret
  rw [← hW7]
  exact ⟨rfl, B7⟩
end Go.Proofs.YthlpccajnmkbjaaGreatDoor

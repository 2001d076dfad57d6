/-
  Texts in one: TbAlive, LLight, RResults, NilsLaw10, Laid7, RowIn, OTypO.
-/
import Derived.Test.YtnicnfjickknjaaGreatDoorTabletNilsZ8
import Derived.Lib.SmallJoins
import Derived.Test.YtnicnfjickknjaaGreatDoorTabletNilsZ2
import Derived.Test.YtnicnfjickknjaaGreatDoorTabletNilsZ3
import Derived.Test.YtnicnfjickknjaaGreatDoorTabletNilsZ1
import Derived.Test.YtnicnfjickknjaaGreatDoorRows
import Derived.Test.YtnicnfjickknjaaGreatDoorTabletNilsZ0
import Derived.ProofKit
import Derived.LaidMore
import Derived.Lay
import Derived.OpenShut
import Derived.Lib.LaidU8
import Derived.Stop.Joined
namespace Go.Proofs.YtnicnfjickknjaaGreatDoor
open Go.RowKit

def opP (g : Nat) : OA := ⟨1, ⟨#[97]⟩, ⟨#[102]⟩, ⟨#[]⟩, 0, ⟨#[]⟩, ⟨some ⟨g, 0, none⟩, 1, 1, [118]⟩, ⟨none, 0, 0, []⟩, false, none, 0, 0⟩
def opG : OA := ⟨7, ⟨#[97]⟩, ⟨#[102]⟩, ⟨#[]⟩, 0, ⟨#[]⟩, ⟨none, 0, 0, []⟩, ⟨none, 0, 0, []⟩, false, none, 0, 0⟩
def cvA : CV := ⟨⟨#[97]⟩, ⟨#[102]⟩, ⟨#[]⟩, 0, [118], false⟩
theorem cvA_good : cvA.good := ⟨by decide, by decide, by decide, by intro x hx; simp [cvA] at hx; omega, fun h => by simp [cvA] at h⟩
theorem opP_right (g : Nat) : rightO (opP g).s [] = true := by kernel_rfl
theorem opG_right : rightO opG.s [] = true := by kernel_rfl
theorem mPutA : mPut [] cvA = ([cvA], 0) := by kernel_rfl
theorem mGetA : mGet [cvA] ⟨⟨#[97]⟩, ⟨#[102]⟩, ⟨#[]⟩, 0⟩ = ⟨0, [cvA], false⟩ := by kernel_rfl
theorem inRowsA : inRows ⟨#[]⟩ ⟨#[]⟩ ⟨#[97]⟩ = true := by kernel_rfl
theorem newKA : newK ⟨#[]⟩ ⟨#[]⟩ = 0 := by kernel_rfl
theorem CSrt.one (c : CV) : CSrt [c] := Srt.one _
theorem OWL.nil0 (w : World) : OWL w 0 none 0 0 [] := ⟨rfl, Nat.le_refl _, Nat.zero_le _, fun _ => ⟨rfl, rfl⟩, fun _ h => by simp at h, fun _ h => by simp at h⟩
theorem opP_ok (w : World) (g : Nat) (h : Sl w (some ⟨g, 0, none⟩) 1 1 [118]) : (opP g).ok w :=
  ⟨show (-9223372036854775808 : Int) ≤ 1 ∧ (1 : Int) ≤ 9223372036854775807 by decide, show (⟨#[97]⟩ : ByteArray).size ≤ maxLen by decide, show (⟨#[102]⟩ : ByteArray).size ≤ maxLen by decide, show (⟨#[]⟩ : ByteArray).size ≤ maxLen by decide, show 0 < 18446744073709551616 by decide, show (⟨#[]⟩ : ByteArray).size ≤ maxLen by decide, h, Sl.nothing w, Nat.le_refl _, Nat.zero_le _, fun _ => ⟨rfl, rfl⟩⟩
theorem opG_ok (w : World) : opG.ok w :=
  ⟨by decide, by decide, by decide, by decide, by decide, by decide, Sl.nothing w, Sl.nothing w, Nat.le_refl _, by decide, fun _ => ⟨rfl, rfl⟩⟩
/-- The put. -/
theorem applyP (w : World) (p g : Nat) (hTb : Tabs w) (hT : TB w p ⟨#[]⟩ ⟨#[]⟩ []) (h : Sl w (some ⟨g, 0, none⟩) 1 1 [118]) :
    Calls Tryz.prog 19 #[.pointer (some ⟨p, 0, none⟩), (opP g).val] w (DoPost w p ⟨#[]⟩ ⟨#[]⟩ ([cvA], ⟨0, [], false⟩)) := by
  have t2 := hTb.two
  have := apply_any w p ⟨#[]⟩ ⟨#[]⟩ [] (opP g) [] ([cvA], ⟨0, [], false⟩) hT (opP_ok w g h) (OWL.nil0 w) (opP_right g) (fun V u _ hu => by
    have := isout_row V p ⟨#[]⟩ ⟨#[]⟩ u (opP g) hu (show (1 : Int) ≠ 8 by decide)
    rw [show (opP g).row = ⟨#[97]⟩ from rfl, inRowsA] at this
    exact this) (fun V hV => by
    have := do_put V p ⟨#[]⟩ ⟨#[]⟩ [] (opP g) rfl (hTb.below hV t2) (hT.below hV) List.Pairwise.nil (fun _ h => by simp at h) (by decide) (opP_ok V g (h.below hV)) cvA_good
    rw [show (opP g).cell.c = cvA from rfl, mPutA] at this
    exact this)
  exact this
/-- The get. -/
theorem applyG (w : World) (p : Nat) (hT : TB w p ⟨#[]⟩ ⟨#[]⟩ [cvA]) :
    Calls Tryz.prog 19 #[.pointer (some ⟨p, 0, none⟩), opG.val] w (DoPost w p ⟨#[]⟩ ⟨#[]⟩ ([cvA], ⟨0, [cvA], false⟩)) := by
  have := apply_any w p ⟨#[]⟩ ⟨#[]⟩ [cvA] opG [] ([cvA], ⟨0, [cvA], false⟩) hT (opG_ok w) (OWL.nil0 w) opG_right (fun V u _ hu => by
    have := isout_row V p ⟨#[]⟩ ⟨#[]⟩ u opG hu (by decide)
    rw [show opG.row = ⟨#[97]⟩ from rfl, inRowsA] at this
    exact this) (fun V hV => by
    have := do_get V p ⟨#[]⟩ ⟨#[]⟩ [cvA] opG rfl (hT.below hV) (CSrt.one _) (fun c hc => by rw [List.mem_singleton.1 hc]; exact cvA_good) (by decide) (by decide)
    rw [show opG.key = ⟨⟨#[97]⟩, ⟨#[102]⟩, ⟨#[]⟩, 0⟩ from rfl, mGetA] at this
    exact this)
  exact this

set_option maxHeartbeats 2000000 in
set_option maxRecDepth 100000 in
theorem alive10 (w : World) (hTb : Tabs w) : Calls Tryz.prog 9 #[] w fun e w' => e = .returned (.bool true) ∧ Below w.heap.size w w' := by
  have t2 := hTb.two
  have CN := tnew_any w ⟨#[]⟩ ⟨#[]⟩ (by decide) (by decide)
  go_enter Tryz.func9, Tryz.ntmps9
  go_wp2_with fail
  refine CN.mono ?_
  rintro e w1 (⟨-, rfl, X1, C1⟩ | ⟨h, -⟩)
  case inr => rw [newKA] at h; simp at h
  clear CN
  have kc := fun (w : World) (C : Array Value) (n c g : Nat) (hg : g = w.heap.size) => Joins.run_convert_bytes_const_at (P := Tryz.prog) w 25 5 C n c g hg Tryz.underlying25 Tryz.underlying5
  obtain ⟨W2, hW2⟩ : ∃ V, V = w1.alloc (.cells #[.string ⟨#[97]⟩, .string ⟨#[102]⟩, .string ⟨#[]⟩, .int .u64 0] 24) := ⟨_, rfl⟩
  obtain ⟨W3, hW3⟩ : ∃ V, V = W2.alloc (.cells #[.int .u8 118] 5 (1, 2)) := ⟨_, rfl⟩
  have C2 : Below w1.heap.size w1 W2 := by rw [hW2]; exact (Below.refl _ _).alloc (Nat.le_refl _) _
  have C3 : Below W2.heap.size W2 W3 := by rw [hW3]; exact (Below.refl _ _).alloc (Nat.le_refl _) _
  have z2 : W2.heap.size = w1.heap.size + 1 := by rw [hW2]; exact Array.size_push ..
  have K2 : Arr W2 w1.heap.size 24 [.string ⟨#[97]⟩, .string ⟨#[102]⟩, .string ⟨#[]⟩, .int .u64 0] := by rw [hW2]; exact heap_alloc_new w1 _
  have K3 := arr_below K2 C3
  have S3 : Sl W3 (some ⟨w1.heap.size + 1, 0, none⟩) 1 1 [118] := by rw [hW3, ← z2]; exact Sl.const W2 [118] (1, 2) (fun x hx => by simp at hx; omega) (by simp [maxLen])
  have k1 := kc W2 #[.int .u8 118] 1 1 (w1.heap.size + 1) z2.symm
  rw [hW2] at k1
  have B3 := (C1.trans (C2.mono C1.size)).trans (C3.mono (by have := C1.size; have := C2.size; omega))
  have X3 := (X1.below C2).below C3
  have CP := applyP W3 w.heap.size (w1.heap.size + 1) (hTb.below B3 t2) X3 S3
  have hpl := X1.lt
  have ek : (opP (w1.heap.size + 1)).val = .agg #[.int .i64 1, .string ⟨#[97]⟩, .string ⟨#[102]⟩, .string ⟨#[]⟩, .int .u64 0, .string ⟨#[]⟩, .slice (some ⟨w1.heap.size + 1, 0, none⟩) 1 1, .slice none 0 0, .bool false, .slice none 0 0] := rfl
  rw [ek] at CP
  go_wp2_with fail
  rw [← hW2, ← hW3]
  clear hW2 hW3 k1 z2 K2 S3 C2 C3 X1 X3 ek
  refine CP.mono ?_
  rintro e w4 ⟨⟨ao, n, cap, l, rfl, -, -⟩, X4, K4⟩
  unfold resV
  have hs3 := B3.size
  have hwn : w.heap.size ≠ w1.heap.size := by omega
  have K4' : Arr w4 w1.heap.size 24 [.string ⟨#[97]⟩, .string ⟨#[102]⟩, .string ⟨#[]⟩, .int .u64 0] := (K4.block _ K3.lt (Ne.symm hwn)).trans K3
  have B4 := Wr.below B3 K4 B3.size (Nat.le_refl _)
  clear CP K3
  obtain ⟨W5, hW5⟩ : ∃ V, V = w4.alloc (.cells #[.int .i64 0, .slice ao n cap, .bool false] 50) := ⟨_, rfl⟩
  have C5 : Below w4.heap.size w4 W5 := by rw [hW5]; exact (Below.refl _ _).alloc (Nat.le_refl _) _
  have Q5 : Arr W5 w4.heap.size 50 [.int .i64 0, .slice ao n cap, .bool false] := by rw [hW5]; exact heap_alloc_new w4 _
  have K5 := arr_below K4' C5
  have X5 := X4.below C5
  have B5 := B4.trans (C5.mono B4.size)
  have q0 : (w4.alloc (.cells #[.int .i64 0, .slice ao n cap, .bool false] 50)).cell? ⟨w1.heap.size, 0, none⟩ = some (.string ⟨#[97]⟩) := by rw [← hW5]; exact K5.cell 0
  have q1 : (w4.alloc (.cells #[.int .i64 0, .slice ao n cap, .bool false] 50)).cell? ⟨w1.heap.size, 1, none⟩ = some (.string ⟨#[102]⟩) := by rw [← hW5]; exact K5.cell 1
  have q2 : (w4.alloc (.cells #[.int .i64 0, .slice ao n cap, .bool false] 50)).cell? ⟨w1.heap.size, 2, none⟩ = some (.string ⟨#[]⟩) := by rw [← hW5]; exact K5.cell 2
  have q3 : (w4.alloc (.cells #[.int .i64 0, .slice ao n cap, .bool false] 50)).cell? ⟨w1.heap.size, 3, none⟩ = some (.int .u64 0) := by rw [← hW5]; exact K5.cell 3
  have CG := applyG W5 w.heap.size X5
  have ek : opG.val = .agg #[.int .i64 7, .string ⟨#[97]⟩, .string ⟨#[102]⟩, .string ⟨#[]⟩, .int .u64 0, .string ⟨#[]⟩, .slice none 0 0, .slice none 0 0, .bool false, .slice none 0 0] := rfl
  rw [ek] at CG
  go_wp2_with fail
  rw [← hW5]
  clear hW5 q0 q1 q2 q3 ek
  refine CG.mono ?_
  rintro e w6 ⟨⟨bo, m, mc, l2, rfl, L6, hl6⟩, X6, K6⟩
  unfold resV
  have hz5 := B5.size
  have Q6 : Arr w6 w4.heap.size 50 [.int .i64 0, .slice ao n cap, .bool false] := (K6.block _ Q5.lt (by have := B4.size; have := X4.lt; omega)).trans Q5
  have B6 := Wr.below B5 K6 B5.size (Nat.le_refl _)
  have hl61 : l2.length = 1 := by have := congrArg List.length hl6; rw [List.length_map] at this; exact this
  obtain rfl : m = 1 := by rw [← L6.len]; exact hl61
  obtain ⟨cc, rfl⟩ : ∃ cc, l2 = [cc] := by
    match l2, hl61 with
    | [cc], _ => exact ⟨cc, rfl⟩
  have hcc : cc.c = cvA := by simpa using hl6
  obtain ⟨lb, lo, rfl, hc6⟩ := L6.at (by omega)
  have Xc := hc6 0 (by simp)
  rw [Nat.zero_mul, Nat.add_zero] at Xc
  have Xc : CX w6 lb lo cc := Xc
  have c4 := Xc.c4
  have okc : cc.ok w6 := L6.ok _ (List.mem_singleton.2 rfl)
  have Sv := okc.va
  have hvx : cc.va.xs = [118] := congrArg CV.value hcc
  rw [hvx] at Sv
  clear CG Q5 hl6 hl61 hc6 Xc hcc L6 okc hvx
  obtain ⟨W7, hW7⟩ : ∃ V, V = w6.alloc (.cells #[.int .i64 0, .slice (some ⟨lb, lo, none⟩) 1 mc, .bool false] 50) := ⟨_, rfl⟩
  have C7 : Below w6.heap.size w6 W7 := by rw [hW7]; exact (Below.refl _ _).alloc (Nat.le_refl _) _
  have B7 := B6.trans (C7.mono B6.size)
  have Q7 := arr_below Q6 C7
  have e0 : (w6.alloc (.cells #[.int .i64 0, .slice (some ⟨lb, lo, none⟩) 1 mc, .bool false] 50)).cell? ⟨w4.heap.size, 0, none⟩ = some (.int .i64 0) := by rw [← hW7]; exact Q7.cell 0
  have e4 : (w6.alloc (.cells #[.int .i64 0, .slice (some ⟨lb, lo, none⟩) 1 mc, .bool false] 50)).cell? ⟨lb, lo + 4, none⟩ = some (.slice cc.va.ao cc.va.n cc.va.cap) := by rw [← hW7]; exact (C7.cell (World.block_lt_of_cell? _ _ c4)).trans c4
  have cv := conv_str (Sv.below C7)
  rw [hW7] at cv
  have hvs : ((strOfNums [118]).toList == [118]) = true := by kernel_rfl
  go_wp2
  go_ret
  rw [← hW7]
  exact ⟨rfl, B7⟩
end Go.Proofs.YtnicnfjickknjaaGreatDoor

namespace Go.Proofs.YtnicnfjickknjaaGreatDoor
open Go.RowKit

theorem light_step {d : Nat} {l : List (OD d)} {k : Nat} (hk : k < l.length) (h : (l.take k).all (lightD d) = true) : (l.take (k + 1)).all (lightD d) = lightD d l[k] := by
  rw [List.take_succ_eq_append_getElem hk, List.all_append, h]
  simp

set_option maxRecDepth 100000 in
set_option maxHeartbeats 8000000 in
theorem light_zero (w : World) (o : OA) (sm : o.small) :
    Calls Tryz.prog 17 #[o.val, .int .i64 (-1)] w fun e w' => e = .returned (.bool false) ∧ Below w.heap.size w w' := by
  have B : Below w.heap.size w (w.alloc (Obj.cells o.cells.toArray 43)) := (Below.refl _ w).alloc (Nat.le_refl _) _
  unfold OA.cells at B
  obtain ⟨z0, z1, z2, z3⟩ := sm
  unfold OA.val
  by_cases c0 : 500 < o.row.size + o.fam.size + o.qual.size + o.to.size
  · have i0 : decide ((500 : Int) < (o.row.size : Int) + (o.fam.size : Int) + (o.qual.size : Int) + (o.to.size : Int)) = true := by simp; omega
    clear c0
    go_enter Tryz.func17, Tryz.ntmps17
    go_wp2
    go_ret
    exact ⟨rfl, B⟩
  have i0 : decide ((500 : Int) < (o.row.size : Int) + (o.fam.size : Int) + (o.qual.size : Int) + (o.to.size : Int)) = false := by simp; omega
  by_cases c1 : 600 < o.va.n
  · have i1 : decide ((600 : Int) < (o.va.n : Int)) = true := by simp; omega
    clear c0 c1
    go_enter Tryz.func17, Tryz.ntmps17
    go_wp2
    go_ret
    exact ⟨rfl, B⟩
  have i1 : decide ((600 : Int) < (o.va.n : Int)) = false := by simp; omega
  by_cases c2 : 600 < o.wa.n
  · have i2 : decide ((600 : Int) < (o.wa.n : Int)) = true := by simp; omega
    clear c0 c1 c2
    go_enter Tryz.func17, Tryz.ntmps17
    go_wp2
    go_ret
    exact ⟨rfl, B⟩
  have i2 : decide ((600 : Int) < (o.wa.n : Int)) = false := by simp; omega
  by_cases c3 : 12 < o.sn
  · have i3 : decide ((12 : Int) < (o.sn : Int)) = true := by simp; omega
    clear c0 c1 c2 c3
    go_enter Tryz.func17, Tryz.ntmps17
    go_wp2
    go_ret
    exact ⟨rfl, B⟩
  have i3 : decide ((12 : Int) < (o.sn : Int)) = false := by simp; omega
  go_enter Tryz.func17, Tryz.ntmps17
  go_wp2
  go_ret
  exact ⟨rfl, B⟩

set_option maxRecDepth 100000 in
set_option maxHeartbeats 8000000 in
theorem light_any : ∀ (d : Nat) (w : World) (x : OD d) (_ : OW w d x) (_ : OSm d x) (_ : d ≤ 100),
    Calls Tryz.prog 17 #[(topD d x).val, .int .i64 ((d : Int) - 1)] w fun e w' => e = .returned (.bool (lightD d x)) ∧ Below w.heap.size w w'
  | 0, w, x, _, sm, _ => light_zero w x sm
  | d + 1, w, x, h, sm, hd => by
    obtain ⟨o, l⟩ := x
    have s1 : o.small := sm.1
    have L : OWL w d o.so o.sn o.sc l := h.subs
    have sl : ∀ y ∈ l, OSm d y := sm.2
    have hl : l.length = o.sn := L.len
    rw [show topD (d + 1) (o, l) = o from rfl, show (((d + 1 : Nat) : Int) - 1) = (d : Int) from by omega]
    have B : Below w.heap.size w (w.alloc (Obj.cells o.cells.toArray 43)) := (Below.refl _ w).alloc (Nat.le_refl _) _
    have K : OC (w.alloc (Obj.cells o.cells.toArray 43)) w.heap.size o := OC.new w o
    unfold OA.cells at B K
    clear h sm
    obtain ⟨z0, z1, z2, z3⟩ := s1
    unfold OA.val
    by_cases c0 : 500 < o.row.size + o.fam.size + o.qual.size + o.to.size
    · have i0 : decide ((500 : Int) < (o.row.size : Int) + (o.fam.size : Int) + (o.qual.size : Int) + (o.to.size : Int)) = true := by simp; omega
      have hv : Hid (lightD (d + 1) (o, l) = false) := by
        show (fitsL o && _) = false
        rw [show fitsL o = false from decide_eq_false (by omega), Bool.false_and]
      clear K L sl hl c0
      go_enter Tryz.func17, Tryz.ntmps17
      go_wp2
      go_ret
      exact ⟨by rw [hv.out] <;> rfl, B⟩
    have i0 : decide ((500 : Int) < (o.row.size : Int) + (o.fam.size : Int) + (o.qual.size : Int) + (o.to.size : Int)) = false := by simp; omega
    by_cases c1 : 600 < o.va.n
    · have i1 : decide ((600 : Int) < (o.va.n : Int)) = true := by simp; omega
      have hv : Hid (lightD (d + 1) (o, l) = false) := by
        show (fitsL o && _) = false
        rw [show fitsL o = false from decide_eq_false (by omega), Bool.false_and]
      clear K L sl hl c0 c1
      go_enter Tryz.func17, Tryz.ntmps17
      go_wp2
      go_ret
      exact ⟨by rw [hv.out] <;> rfl, B⟩
    have i1 : decide ((600 : Int) < (o.va.n : Int)) = false := by simp; omega
    by_cases c2 : 600 < o.wa.n
    · have i2 : decide ((600 : Int) < (o.wa.n : Int)) = true := by simp; omega
      have hv : Hid (lightD (d + 1) (o, l) = false) := by
        show (fitsL o && _) = false
        rw [show fitsL o = false from decide_eq_false (by omega), Bool.false_and]
      clear K L sl hl c0 c1 c2
      go_enter Tryz.func17, Tryz.ntmps17
      go_wp2
      go_ret
      exact ⟨by rw [hv.out] <;> rfl, B⟩
    have i2 : decide ((600 : Int) < (o.wa.n : Int)) = false := by simp; omega
    by_cases c3 : 12 < o.sn
    · have i3 : decide ((12 : Int) < (o.sn : Int)) = true := by simp; omega
      have hv : Hid (lightD (d + 1) (o, l) = false) := by
        show (fitsL o && _) = false
        rw [show fitsL o = false from decide_eq_false (by omega), Bool.false_and]
      clear K L sl hl c0 c1 c2 c3
      go_enter Tryz.func17, Tryz.ntmps17
      go_wp2
      go_ret
      exact ⟨by rw [hv.out] <;> rfl, B⟩
    have i3 : decide ((12 : Int) < (o.sn : Int)) = false := by simp; omega
    have i5 : decide ((d : Int) < 0) = false := by simp
    have hv : Hid (lightD (d + 1) (o, l) = l.all (lightD d)) := by
      show (fitsL o && _) = _
      rw [show fitsL o = true from decide_eq_true (by omega), Bool.true_and]
    have hn : o.sn ≤ 12 := by omega
    clear c0 c1 c2 c3
    obtain ⟨w1, hw1⟩ : ∃ W, W = w.alloc (Obj.cells #[.int .i64 o.kind, .string o.row, .string o.fam, .string o.qual, .int .u64 o.time, .string o.to, .slice o.va.ao o.va.n o.va.cap, .slice o.wa.ao o.wa.n o.wa.cap, .bool o.has, .slice o.so o.sn o.sc] 43) := ⟨_, rfl⟩
    go_enter Tryz.func17, Tryz.ntmps17
    go_wp2_with fail
    rw [← hw1] at B K ⊢
    clear hw1 z0 z1 z2 z3
    go_loopw [5] (fun i wr => ∃ k : Nat, k ≤ o.sn ∧ i = .int .i64 k ∧ Below w.heap.size w wr ∧ Below w1.heap.size w1 wr ∧ (l.take k).all (lightD d) = true) (fun i _ => o.sn - (intOf i).toNat)
    case atStart => exact ⟨0, Nat.zero_le _, rfl, B, Below.refl _ _, rfl⟩
    case round =>
      obtain ⟨k, hk, rfl, B1, C1, hall⟩ := hrel
      have HA : Hid ((l.take k).all (lightD d) = true) := hall
      have K1 := K.keep C1
      have q9 := K1.cs.c9
      clear hall K K1
      by_cases hlt : k < o.sn
      · obtain ⟨b, off, ea, hc⟩ := L.at (by omega)
        have hkl : k < l.length := by omega
        have X := (hc k hkl).below B1
        have hok : OW wr d l[k] := (L.ok _ (List.getElem_mem hkl)).below B1
        have hsm : OSm d l[k] := sl _ (List.getElem_mem hkl)
        have i6 : (k : Int) < (o.sn : Int) := by omega
        have HT : Hid ((l.take (k + 1)).all (lightD d) = lightD d l[k]) := light_step hkl HA.out
        have HL : Hid (lightD d l[k] = false → l.all (lightD d) = false) := fun hb => by
          rw [List.all_eq_false]
          exact ⟨_, List.getElem_mem hkl, by rw [hb]; simp⟩
        obtain ⟨y, hy⟩ : ∃ y : OD d, y = l[k] := ⟨_, rfl⟩
        rw [← hy] at hok HT HL X hsm
        clear hy hc HA sl L B
        rw [ea] at q9
        clear ea
        obtain ⟨q0, q1, q2, q3, q4, q5, q6, q7, q8, q10⟩ := X
        cases hb : lightD d y with
        | false =>
          go_wp2_with (go_at_call 17; refine (light_any d _ y hok hsm (by omega)).mono ?_; rintro e w2 ⟨rfl, C⟩; have D := B1.trans (C.mono B1.size); rw [hb])
          go_ret
          exact ⟨by rw [hv.out, HL.out hb] <;> rfl, D⟩
        | true =>
          go_wp2_with (go_at_call 17; refine (light_any d _ y hok hsm (by omega)).mono ?_; rintro e w2 ⟨rfl, C⟩; have D := B1.trans (C.mono B1.size); have D1 := C1.trans (C.mono C1.size); rw [hb])
          go_roundw
          case rel => exact ⟨k + 1, by omega, by go_num, D, D1, by rw [HT.out, hb]⟩
          case measure => simp [intOf]; omega
      · have i6 : (o.sn : Int) ≤ (k : Int) := by omega
        have HL : Hid (l.all (lightD d) = true) := by
          show _ = _
          rw [← HA.out, List.take_of_length_le (by omega)]
        go_wp2
        go_ret
        exact ⟨by rw [hv.out, HL.out] <;> rfl, B1⟩
end Go.Proofs.YtnicnfjickknjaaGreatDoor

namespace Go.Proofs.YtnicnfjickknjaaGreatDoor
open Go.RowKit

set_option maxRecDepth 100000 in
set_option maxHeartbeats 4000000 in
theorem rresults_any (w : World) (e : Int) (ao bo : Option Addr) (n cap cap2 : Nat) (l l2 : List CA) (m : Bool) (L : CL w ao n cap l) (L2 : CL w bo n cap2 l2) (hl : l.map CA.c = l2.map CA.c) (hn : n ≤ 1000) :
    Calls Tryz.prog 25 #[resV e ao n cap m, resV e bo n cap2 m] w fun x w' => x = .returned (.bool true) ∧ Below w.heap.size w w' := by
  have l1 : l.length = n := L.len
  have l3 : l2.length = n := L2.len
  have B : Below w.heap.size w ((w.alloc (Obj.cells #[.int .i64 e, .slice ao n cap, .bool m] 50)).alloc (Obj.cells #[.int .i64 e, .slice bo n cap2, .bool m] 50)) := ((Below.refl _ w).alloc (Nat.le_refl _) _).alloc (by simp) _
  have K : RC ((w.alloc (Obj.cells #[.int .i64 e, .slice ao n cap, .bool m] 50)).alloc (Obj.cells #[.int .i64 e, .slice bo n cap2, .bool m] 50)) w.heap.size e ao n cap m := (heap_alloc_old _ _ (by simp)).trans (heap_alloc_new w _)
  have K2 : RC ((w.alloc (Obj.cells #[.int .i64 e, .slice ao n cap, .bool m] 50)).alloc (Obj.cells #[.int .i64 e, .slice bo n cap2, .bool m] 50)) (w.heap.size + 1) e bo n cap2 m := by
    have := heap_alloc_new (w.alloc (Obj.cells #[.int .i64 e, .slice ao n cap, .bool m] 50)) (Obj.cells #[.int .i64 e, .slice bo n cap2, .bool m] 50)
    unfold RC
    simpa using this
  have M1 := L.below B
  have M2 := L2.below B
  have HL : Hid (l.map CA.c = l2.map CA.c) := hl
  unfold resV
  clear L L2 hl
  go_enter Tryz.func25, Tryz.ntmps25
  go_wp2_with fail
  obtain ⟨w1, hw1⟩ : ∃ W, W = (w.alloc (Obj.cells #[.int .i64 e, .slice ao n cap, .bool m] 50)).alloc (Obj.cells #[.int .i64 e, .slice bo n cap2, .bool m] 50) := ⟨_, rfl⟩
  obtain ⟨N, hN⟩ : ∃ N, N = w.heap.size := ⟨_, rfl⟩
  rw [← hw1] at B K K2 M1 M2 ⊢
  rw [← hN] at B K K2 ⊢
  have HN : Hid (N = w.heap.size) := hN
  clear hw1 hN
  go_loopw [5, 6, 7] (fun i _ _ wr => ∃ k : Nat, k ≤ n ∧ i = .int .i64 k ∧ Below N w wr ∧ Below w1.heap.size w1 wr) (fun i _ _ _ => n - (intOf i).toNat)
  case atStart => exact ⟨0, Nat.zero_le _, rfl, B, Below.refl _ _⟩
  case round =>
    clear B
    obtain ⟨k, hk, rfl, B, C1⟩ := hrel
    have A1 := K.keep C1
    have A2 := K2.keep C1
    have r1 := A1.c1
    have r2 := A2.c1
    by_cases hlt : k < n
    · obtain ⟨b1, o1, rfl, hc1⟩ := M1.at (by omega)
      obtain ⟨b2, o2, rfl, hc2⟩ := M2.at (by omega)
      have X1 := (hc1 k (by omega)).below C1
      have X2 := (hc2 k (by omega)).below C1
      have ok1 : (l[k]).ok wr := (M1.ok _ (List.getElem_mem (by omega))).below C1
      have ok2 : (l2[k]).ok wr := (M2.ok _ (List.getElem_mem (by omega))).below C1
      have hxy : (l[k]).c = (l2[k]).c := by
        have e1 : (l.map CA.c)[k]? = some (l[k]).c := by simp [show k < l.length by omega]
        have e2 : (l2.map CA.c)[k]? = some (l2[k]).c := by simp [show k < l2.length by omega]
        rw [HL.out] at e1
        exact Option.some.inj (e1.symm.trans e2)
      obtain ⟨x, hx⟩ : ∃ c : CA, c = l[k] := ⟨_, rfl⟩
      obtain ⟨y, hy⟩ : ∃ c : CA, c = l2[k] := ⟨_, rfl⟩
      rw [← hx] at X1 ok1 hxy
      rw [← hy] at X2 ok2 hxy
      clear hx hy hc1 hc2
      obtain ⟨xr, xf, xq, xt, xv, xg⟩ := x
      obtain ⟨yr, yf, yq, yt, yv, yg⟩ := y
      simp only [CA.c, CV.mk.injEq] at hxy
      obtain ⟨rfl, rfl, rfl, rfl, hv, rfl⟩ := hxy
      have V1 := ok1.va
      have V2 := ok2.va
      rw [hv] at V1
      simp only at V1 V2
      clear ok1 ok2 hv
      have i6 : (k : Int) < (n : Int) := by omega
      obtain ⟨p0, p1, p2, p3, p4, p5⟩ := X1
      obtain ⟨q0, q1, q2, q3, q4, q5⟩ := X2
      simp only at p0 p1 p2 p3 p4 p5 q0 q1 q2 q3 q4 q5
      have a1 := A1.lt
      have a2 := A2.lt
      have b1l := World.block_lt_of_cell? wr _ p0
      have b2l := World.block_lt_of_cell? wr _ q0
      simp only at b1l b2l
      go_wp2_with fail
      go_region
      · have Bv : Below wr.heap.size wr ((wr.alloc (Obj.cells #[.string xr, .string xf, .string xq, .int .u64 xt, .slice xv.ao xv.n xv.cap, .bool xg] 27)).alloc (Obj.cells #[.string xr, .string xf, .string xq, .int .u64 xt, .slice yv.ao yv.n yv.cap, .bool xg] 27)).drew := (((Below.refl _ _).alloc (Nat.le_refl _) _).alloc (by simp) _).drew
        have S1 := V1.below Bv
        have S2 := V2.below Bv
        have B6 := B.trans (Bv.mono (by have := B.size; have := HN.out; omega))
        have D6 := C1.trans (Bv.mono C1.size)
        clear V1 V2 B C1 Bv A1 A2 M1 M2 K K2
        go_wp2_with fail
        refine (same_any _ _ _ _ _ _ _ _ _ S1 S2).mono ?_
        rintro x w7 ⟨rfl, q, hw⟩
        rw [decide_eq_true rfl]
        have B7 : Below N w w7 := by rw [hw]; exact belN B6 q
        have D7 : Below w1.heap.size w1 w7 := by rw [hw]; exact belN D6 q
        clear hw S1 S2 B6 D6
        go_wp2
        go_roundw
        case rel => exact ⟨k + 1, by omega, by go_num, B7, D7⟩
        case measure => simp [intOf]; omega
      · have Bv : Below wr.heap.size wr ((wr.alloc (Obj.cells #[.string xr, .string xf, .string xq, .int .u64 xt, .slice yv.ao yv.n yv.cap, .bool xg] 27)).alloc (Obj.cells #[.string xr, .string xf, .string xq, .int .u64 xt, .slice xv.ao xv.n xv.cap, .bool xg] 27)).drew := (((Below.refl _ _).alloc (Nat.le_refl _) _).alloc (by simp) _).drew
        have S1 := V1.below Bv
        have S2 := V2.below Bv
        have B6 := B.trans (Bv.mono (by have := B.size; have := HN.out; omega))
        have D6 := C1.trans (Bv.mono C1.size)
        clear V1 V2 B C1 Bv A1 A2 M1 M2 K K2
        go_wp2_with fail
        refine (same_any _ _ _ _ _ _ _ _ _ S1 S2).mono ?_
        rintro x w7 ⟨rfl, q, hw⟩
        rw [decide_eq_true rfl]
        have B7 : Below N w w7 := by rw [hw]; exact belN B6 q
        have D7 : Below w1.heap.size w1 w7 := by rw [hw]; exact belN D6 q
        clear hw S1 S2 B6 D6
        go_wp2
        go_roundw
        case rel => exact ⟨k + 1, by omega, by go_num, B7, D7⟩
        case measure => simp [intOf]; omega
    · have i6 : (n : Int) ≤ (k : Int) := by omega
      go_wp2
      go_ret
      exact ⟨rfl, by rw [← HN.out]; exact B⟩
end Go.Proofs.YtnicnfjickknjaaGreatDoor

namespace Go.Proofs.YtnicnfjickknjaaGreatDoor
open Go.RowKit

set_option maxHeartbeats 400000 in
theorem bounds_nil (w : World) : Calls Tryz.prog 29 #[.pointer none] w fun e w' => e = .returned (.tuple #[.string ⟨#[]⟩, .string ⟨#[]⟩]) ∧ w' = w := by
  go_enter Tryz.func29, Tryz.ntmps29
  go_wp2
  go_ret2
  exact ⟨rfl, rfl⟩
set_option maxHeartbeats 400000 in
theorem cells_nil (w : World) : Calls Tryz.prog 20 #[.pointer none] w fun e w' => e = .returned (.slice none 0 0) ∧ w' = w := by
  go_enter Tryz.func20, Tryz.ntmps20
  go_wp2
  go_ret
  exact ⟨rfl, rfl⟩
set_option maxHeartbeats 400000 in
theorem root_nil10 (w : World) : Calls Tryz.prog 21 #[.pointer none] w fun e w' => e = .returned (.slice none 0 0) ∧ w' = w := by
  go_enter Tryz.func21, Tryz.ntmps21
  go_wp2
  go_ret
  exact ⟨rfl, rfl⟩
set_option maxHeartbeats 400000 in
theorem clone_nil (w : World) : Calls Tryz.prog 22 #[.pointer none] w fun e w' => e = .returned (.pointer none) ∧ w' = w := by
  go_enter Tryz.func22, Tryz.ntmps22
  go_wp2
  go_ret
  exact ⟨rfl, rfl⟩
set_option maxHeartbeats 400000 in
theorem tree_nil (w : World) : Calls Tryz.prog 30 #[.pointer none] w fun e w' => e = .returned (.pointer none) ∧ w' = w := by
  go_enter Tryz.func30, Tryz.ntmps30
  go_wp2
  go_ret
  exact ⟨rfl, rfl⟩

set_option maxHeartbeats 1000000 in
set_option maxRecDepth 100000 in
theorem apply_nil (w : World) (o : OA) : Calls Tryz.prog 19 #[.pointer none, o.val] w fun e w' => e = .returned (resV 17 none 0 0 false) ∧ Below w.heap.size w w' := by
  obtain ⟨W1, hW1⟩ : ∃ V, V = w.alloc (.cells #[.int .i64 o.kind, .string o.row, .string o.fam, .string o.qual, .int .u64 o.time, .string o.to, .slice o.va.ao o.va.n o.va.cap, .slice o.wa.ao o.wa.n o.wa.cap, .bool o.has, .slice o.so o.sn o.sc] 43) := ⟨_, rfl⟩
  obtain ⟨W2, hW2⟩ : ∃ V, V = W1.alloc (.cells #[.int .i64 0, .slice none 0 0, .bool false] 50) := ⟨_, rfl⟩
  have C1 : Below w.heap.size w W1 := by rw [hW1]; exact (Below.refl _ _).alloc (Nat.le_refl _) _
  have C2 : Below W1.heap.size W1 W2 := by rw [hW2]; exact (Below.refl _ _).alloc (Nat.le_refl _) _
  have B2 := C1.trans (C2.mono C1.size)
  have s1 : W1.heap.size = w.heap.size + 1 := by rw [hW1]; exact Array.size_push ..
  have O1 : OC W1 w.heap.size o := by rw [hW1]; exact OC.new w o
  have O2 := O1.keep C2
  have R2 : Arr W2 (w.heap.size + 1) 50 [.int .i64 0, .slice none 0 0, .bool false] := by rw [hW2, ← s1]; exact heap_alloc_new W1 _
  have CB := only_any W2 17
  unfold resV at CB
  unfold OA.val
  go_enter Tryz.func19, Tryz.ntmps19
  go_wp2_with fail
  rw [← hW1, ← hW2]
  clear hW1 hW2 s1
  refine CB.mono ?_
  rintro e w4 ⟨rfl, C4⟩
  have B4 := B2.trans (C4.mono B2.size)
  have R4 := arr_below R2 C4
  have r0 : w4.cell? ⟨w.heap.size + 1, 0, none⟩ = some (.int .i64 0) := R4.cell 0
  have f0 := R4.free 0
  have r1 : w4.cell? ⟨w.heap.size + 1, 1, none⟩ = some (.slice none 0 0) := R4.cell 1
  have f1 := R4.free 1
  have r2 : w4.cell? ⟨w.heap.size + 1, 2, none⟩ = some (.bool false) := R4.cell 2
  have f2 := R4.free 2
  have lt := R4.lt
  clear CB R2
  go_wp2
  exact bodyPost_ret (v := .agg #[.int .i64 17, .slice none 0 0, .bool false]) (by simp [results, Tryz.results19, go_sem, r0, r1, r2]) rfl ⟨rfl, Wr.below B4 ((((Wr.refl _ _).set 0 _).set 1 _).set 2 _) B4.size (Nat.le_succ _)⟩

set_option maxHeartbeats 2000000 in
set_option maxRecDepth 100000 in
theorem tabletNils_any (W : World) (x : OD 3) (h : OW W 3 x) (sm : OSm 3 x) (hTb : Tabs W) : Calls Tryz.prog 7 #[(topD 3 x).val] W fun e w' => e = .returned (.bool true) ∧ Below W.heap.size W w' := by
  have t2 := hTb.two
  obtain ⟨o, ho⟩ : ∃ o, o = topD 3 x := ⟨_, rfl⟩
  obtain ⟨W1, hW1⟩ : ∃ V, V = W.alloc (.cells #[.int .i64 o.kind, .string o.row, .string o.fam, .string o.qual, .int .u64 o.time, .string o.to, .slice o.va.ao o.va.n o.va.cap, .slice o.wa.ao o.wa.n o.wa.cap, .bool o.has, .slice o.so o.sn o.sc] 43) := ⟨_, rfl⟩
  have C1 : Below W.heap.size W W1 := by rw [hW1]; exact (Below.refl _ _).alloc (Nat.le_refl _) _
  have O1 : OC W1 W.heap.size o := by rw [hW1]; exact OC.new W o
  have CL := light_any 3 W1 x (h.below C1) sm (by omega)
  rw [← ho, show (((3 : Nat) : Int) - 1) = 2 from rfl] at CL
  have AL := fun (V : World) (hV : Below W.heap.size W V) => alive10 V (hTb.below hV t2)
  have HAL : Hid (∀ (V : World) (hV : Below W.heap.size W V), Calls Tryz.prog 9 #[] V fun e w' => e = .returned (.bool true) ∧ Below V.heap.size V w') := AL
  obtain ⟨lb, hlb⟩ : ∃ b, b = lightD 3 x := ⟨_, rfl⟩
  rw [← hlb] at CL
  rw [← ho]
  clear AL ho hlb h sm
  unfold OA.val at CL ⊢
  have o0 : W1.cell? ⟨W.heap.size, 0, none⟩ = some (.int .i64 o.kind) := O1.cs.c0
  have o1 : W1.cell? ⟨W.heap.size, 1, none⟩ = some (.string o.row) := O1.cs.c1
  have o2 : W1.cell? ⟨W.heap.size, 2, none⟩ = some (.string o.fam) := O1.cs.c2
  have o3 : W1.cell? ⟨W.heap.size, 3, none⟩ = some (.string o.qual) := O1.cs.c3
  have o4 : W1.cell? ⟨W.heap.size, 4, none⟩ = some (.int .u64 o.time) := O1.cs.c4
  have o5 : W1.cell? ⟨W.heap.size, 5, none⟩ = some (.string o.to) := O1.cs.c5
  have o6 : W1.cell? ⟨W.heap.size, 6, none⟩ = some (.slice o.va.ao o.va.n o.va.cap) := O1.cs.c6
  have o7 : W1.cell? ⟨W.heap.size, 7, none⟩ = some (.slice o.wa.ao o.wa.n o.wa.cap) := O1.cs.c7
  have o8 : W1.cell? ⟨W.heap.size, 8, none⟩ = some (.bool o.has) := O1.cs.c8
  have o9 : W1.cell? ⟨W.heap.size, 9, none⟩ = some (.slice o.so o.sn o.sc) := O1.cs.c9
  go_enter Tryz.func7, Tryz.ntmps7
  go_wp2_with fail
  rw [← hW1]
  clear hW1
  refine CL.mono ?_
  rintro e w2 ⟨rfl, C2⟩
  have B2 := C1.trans (C2.mono C1.size)
  have O2 := O1.keep C2
  clear CL o0 o1 o2 o3 o4 o5 o6 o7 o8 o9 O1
  cases lb with
  | false =>
    have AV := HAL.out w2 B2
    go_wp2_with fail
    refine AV.mono ?_
    rintro e w3 ⟨rfl, C3⟩
    go_wp2
    go_ret
    exact ⟨rfl, B2.trans (C3.mono B2.size)⟩
  | true =>
    have CB := bounds_nil w2
    go_wp2_with fail
    refine CB.mono ?_
    rintro e w3 ⟨rfl, hw⟩
    obtain rfl := hw.symm
    clear CB
    have o0 : w2.cell? ⟨W.heap.size, 0, none⟩ = some (.int .i64 o.kind) := O2.cs.c0
    have o1 : w2.cell? ⟨W.heap.size, 1, none⟩ = some (.string o.row) := O2.cs.c1
    have o2 : w2.cell? ⟨W.heap.size, 2, none⟩ = some (.string o.fam) := O2.cs.c2
    have o3 : w2.cell? ⟨W.heap.size, 3, none⟩ = some (.string o.qual) := O2.cs.c3
    have o4 : w2.cell? ⟨W.heap.size, 4, none⟩ = some (.int .u64 o.time) := O2.cs.c4
    have o5 : w2.cell? ⟨W.heap.size, 5, none⟩ = some (.string o.to) := O2.cs.c5
    have o6 : w2.cell? ⟨W.heap.size, 6, none⟩ = some (.slice o.va.ao o.va.n o.va.cap) := O2.cs.c6
    have o7 : w2.cell? ⟨W.heap.size, 7, none⟩ = some (.slice o.wa.ao o.wa.n o.wa.cap) := O2.cs.c7
    have o8 : w2.cell? ⟨W.heap.size, 8, none⟩ = some (.bool o.has) := O2.cs.c8
    have o9 : w2.cell? ⟨W.heap.size, 9, none⟩ = some (.slice o.so o.sn o.sc) := O2.cs.c9
    have CA := apply_nil w2 o
    unfold OA.val at CA
    go_wp2_with fail
    refine CA.mono ?_
    rintro e w4 ⟨rfl, C4⟩
    have B4 := B2.trans (C4.mono B2.size)
    clear CA o0 o1 o2 o3 o4 o5 o6 o7 o8 o9 O2
    have CR := rresults_any w4 17 none none 0 0 0 [] [] false (CL.nothing _) (CL.nothing _) rfl (by omega)
    unfold resV at CR ⊢
    go_wp2_with fail
    refine CR.mono ?_
    rintro e w5 ⟨rfl, C5⟩
    have B5 := B4.trans (C5.mono B4.size)
    clear CR
    have CC := cells_nil w5
    go_wp2_with fail
    refine CC.mono ?_
    rintro e w6 ⟨rfl, hw⟩
    obtain rfl := hw.symm
    clear CC
    have CO := root_nil10 w5
    go_wp2_with fail
    refine CO.mono ?_
    rintro e w6 ⟨rfl, hw⟩
    obtain rfl := hw.symm
    clear CO
    have CN := clone_nil w5
    go_wp2_with fail
    refine CN.mono ?_
    rintro e w6 ⟨rfl, hw⟩
    obtain rfl := hw.symm
    clear CN
    have CT := tree_nil w5
    go_wp2_with fail
    refine CT.mono ?_
    rintro e w6 ⟨rfl, hw⟩
    obtain rfl := hw.symm
    clear CT
    have CE := len_any w5 (.pointer none) [] (TT.nil _) List.Pairwise.nil (by simp)
    rw [List.length_nil] at CE
    go_wp2_with fail
    refine CE.mono ?_
    rintro e w7 ⟨rfl, C7⟩
    have B7 := B5.trans (C7.mono B5.size)
    have AV := HAL.out w7 B7
    clear CE
    go_wp2_with fail
    refine AV.mono ?_
    rintro e w8 ⟨rfl, C8⟩
    go_wp2
    go_ret
    exact ⟨rfl, B7.trans (C8.mono B7.size)⟩
end Go.Proofs.YtnicnfjickknjaaGreatDoor

namespace Go.Proofs.YtnicnfjickknjaaGreatDoor
open Go.RowKit

abbrev laidL : List (String × DataW Unit) := [("unicode/utf8.acceptRanges", Rows.laid_unicode_utf8_acceptRanges), ("bulwark/digest.firstWords", Rows.laid_bulwark_digest_firstWords), ("bulwark/digest.roundWords", Rows.laid_bulwark_digest_roundWords), ("unicode/utf8.first", Rows.laid_unicode_utf8_first)]

theorem gFirst : Tryz.prog.globalNamed "bulwark/digest.firstWords" = some 1 := by kernel_rfl
theorem gRound : Tryz.prog.globalNamed "bulwark/digest.roundWords" = some 0 := by kernel_rfl
theorem tFirst : (Tryz.prog.globals[1]?).map (·.type) = some 130 := by kernel_rfl
theorem tRound : (Tryz.prog.globals[0]?).map (·.type) = some 148 := by kernel_rfl
theorem laidL_plain : (laidL.all fun x => x.2.handleName?.isNone) = true := by kernel_rfl

/-- A world in which the four read so. -/
theorem all_met (os : Os) (args : Array Value) : laidMetH Tryz.prog laidL ((World.laidAll Tryz.prog os laidL).forCall (fun _ _ => 0) ⟨#[], args, []⟩).memory := by
  rw [MakeChecks.laidMetH_plain _ _ _ laidL_plain]
  exact laidMet_laidAll _ (by kernel_rfl) (by kernel_rfl)

/-- An array of words that reads as some numbers has them in its cells. -/
theorem words_of {H : Type} {enc : TypeId × Value → H} {w : World} {base : Nat} {sp : Nat → Bool} {held : Bool} {fuel n : Nat} {t : TypeId} {cs : List Value} {zs : List Int} {p : List MemPlace}
    (ht : Tryz.prog.underlying t = some (.array n 129)) (h : DataW.trod enc Tryz.prog w base sp held fuel t cs = some (.agg (zs.map fun z => .lit (.int .u32 z)), p)) (hz : zs.length = n) :
    ∀ (j : Nat) (v : Value), (wv zs)[j]? = some v → cs[j]? = some v := by
  intro j v hv
  have hj : j < zs.length := by have := (List.getElem?_eq_some_iff.1 hv).1; rwa [wv_length] at this
  rw [wv_get zs j hj] at hv
  obtain rfl := Option.some.inj hv
  obtain ⟨f', d, q, hd, he⟩ := Lib.array_elem ht h j (by omega)
  have c1 : Tryz.prog.cellsOf 129 = 1 := by kernel_rfl
  rw [c1, Nat.mul_one] at he
  obtain ⟨k, e1, e2, _⟩ := DataW.trod_int Tryz.underlying129 he
  simp only [Prod.mk.injEq] at e2
  rw [e2.1] at hd
  simp only [List.getElem?_map, List.getElem?_eq_getElem hj, Option.map_some, Option.some.injEq, DataW.lit.injEq, Lit.int.injEq, true_and] at hd
  have : (cs.drop j)[0]? = some (.int .u32 k) := by
    have := congrArg (fun l : List Value => l[0]?) e1
    simpa [List.getElem?_take] using this
  rw [List.getElem?_drop, Nat.add_zero] at this
  rw [this, ← hd]
  simp [List.getD, hj]

/-- WHAT THE CONDITION GIVES THE WALKS. -/
theorem tabs_of {W : World} (h : laidMetH Tryz.prog laidL W) : Tabs W := by
  rw [MakeChecks.laidMetH_plain _ _ _ laidL_plain] at h
  obtain ⟨ps, ⟨gx, tx, csx, fx, px, qx, _, _, _, _, ⟨g0, t0, cs0, f0, p0, q0, hg0, ht0, hv0, hd0, ⟨g1, t1, cs1, f1, p1, q1, hg1, ht1, hv1, hd1, _, _⟩, _⟩, _⟩, _, _⟩ := h
  obtain rfl := Option.some.inj (gFirst.symm.trans hg0)
  obtain rfl := Option.some.inj (gRound.symm.trans hg1)
  obtain rfl := Option.some.inj (tFirst.symm.trans ht0)
  obtain rfl := Option.some.inj (tRound.symm.trans ht1)
  have hA := words_of (zs := H0) Tryz.underlying130 hd0 rfl
  have hB := words_of (zs := K0) Tryz.underlying148 hd1 rfl
  have cA : ∀ j v, (wv H0)[j]? = some v → W.cell? ⟨1, j, none⟩ = some v := fun j v hv => by
    rw [World.var?_cell hg0 hv0 j]
    simpa using hA j v hv
  refine ⟨cA, fun j v hv => ?_, ?_⟩
  · rw [World.var?_cell hg1 hv1 j]
    simpa using hB j v hv
  · have := block_lt_of_cell (cA 0 _ rfl)
    exact this

end Go.Proofs.YtnicnfjickknjaaGreatDoor

namespace Go.Proofs.YtnicnfjickknjaaGreatDoor
open Go.RowKit

/-- A slice of bytes that came in, as the frame of a proof tells it. -/
theorem Sl.row {w : World} {a : Option Addr} {n cap : Nat} {zs : List Int} (h : (a = none ∧ n = 0 ∧ cap = 0 ∧ zs = []) ∨
    ∃ x, a = some x ∧ n ≤ cap ∧ cap ≤ maxLen ∧ zs.length = cap ∧ (∀ i, i < zs.length → w.cell? (x.add i) = some (.int .u8 (zs.getD i 0))) ∧ ∀ z ∈ zs, (Lit.int .u8 z).wf = true) : Sl w a n cap (zs.take n) := by
  rcases h with ⟨rfl, rfl, rfl, rfl⟩ | ⟨x, rfl, hl, hm, hz, hc, hw⟩
  · exact Sl.nothing w
  · refine ⟨by simp; omega, hl, hm, fun h => by simp at h, fun b hb i hi => ?_, fun z hz => ?_⟩
    · obtain rfl := Option.some.inj hb
      rw [hc i (by omega)]
      simp [List.getD, hi]
    · have := hw z (List.mem_of_mem_take hz)
      simp [Lit.wf, IntKind.min, IntKind.max, IntKind.signed, IntKind.bits] at this
      omega
end Go.Proofs.YtnicnfjickknjaaGreatDoor

namespace Go.Proofs.YtnicnfjickknjaaGreatDoor
open Go.RowKit

def opT : OpTypes Tryz.prog where
  op := 43
  key := 24
  int := 3
  str := 9
  u64 := 22
  bys := 25
  u8 := 5
  bool := 4
  subs := 41
  f0 := { name := "Kind", type := 3, offset := 0, embedded := false, tag := "", pkgPath := "", byteOffset := 0 }
  f1 := { name := "K", type := 24, offset := 1, embedded := false, tag := "", pkgPath := "", byteOffset := 8 }
  f2 := { name := "To", type := 9, offset := 5, embedded := false, tag := "", pkgPath := "", byteOffset := 64 }
  f3 := { name := "Value", type := 25, offset := 6, embedded := false, tag := "", pkgPath := "", byteOffset := 80 }
  f4 := { name := "Want", type := 25, offset := 7, embedded := false, tag := "", pkgPath := "", byteOffset := 104 }
  f5 := { name := "Has", type := 4, offset := 8, embedded := false, tag := "", pkgPath := "", byteOffset := 128 }
  f6 := { name := "Sub", type := 41, offset := 9, embedded := false, tag := "", pkgPath := "", byteOffset := 136 }
  g0 := { name := "Row", type := 9, offset := 0, embedded := false, tag := "", pkgPath := "", byteOffset := 0 }
  g1 := { name := "Family", type := 9, offset := 1, embedded := false, tag := "", pkgPath := "", byteOffset := 16 }
  g2 := { name := "Qual", type := 9, offset := 2, embedded := false, tag := "", pkgPath := "", byteOffset := 32 }
  g3 := { name := "Time", type := 22, offset := 3, embedded := false, tag := "", pkgPath := "", byteOffset := 48 }
  hop := Tryz.underlying43
  hkey := Tryz.underlying24
  hint := Tryz.underlying3
  hstr := Tryz.underlying9
  hu64 := Tryz.underlying22
  hbys := Tryz.underlying25
  hu8 := Tryz.underlying5
  hbool := Tryz.underlying4
  hsubs := Tryz.underlying41
  cop := by kernel_rfl
  ckey := by kernel_rfl
  cint := by kernel_rfl
  cstr := by kernel_rfl
  cu64 := by kernel_rfl
  cbys := by kernel_rfl
  cu8 := by kernel_rfl
  bu8 := by kernel_rfl
  cbool := by kernel_rfl
  csubs := by kernel_rfl
  o0 := ⟨rfl, rfl⟩
  o1 := ⟨rfl, rfl⟩
  o2 := ⟨rfl, rfl⟩
  o3 := ⟨rfl, rfl⟩
  o4 := ⟨rfl, rfl⟩
  o5 := ⟨rfl, rfl⟩
  o6 := ⟨rfl, rfl⟩
  p0 := ⟨rfl, rfl⟩
  p1 := ⟨rfl, rfl⟩
  p2 := ⟨rfl, rfl⟩
  p3 := ⟨rfl, rfl⟩
end Go.Proofs.YtnicnfjickknjaaGreatDoor

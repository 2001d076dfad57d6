/-
  The program's Rows.
-/
import Derived.Test.YtepkjnklapamjaaCRows
import Derived.Test.YtepkjnklapamjaaPNames
import Derived.Test.YtepkjnklapamjaaPRep
namespace Go.Proofs.Ytepkjnklapamjaa
open Go.RowKit

set_option maxHeartbeats 2000000 in
set_option maxRecDepth 100000 in
theorem prows_bad (w : World) (f t : ByteArray) (h : 32 < f.size ∨ 32 < t.size) :
    Calls Try.prog 20 #[.string f, .string t] w fun e w' => e = .returned (.tuple #[.slice none 0 0, .slice none 0 0, .int .i64 5]) ∧ w' = w := by
  by_cases h1 : 32 < f.size
  · have i1 : (32 : Int) < (f.size : Int) := by omega
    go_enter Try.func20, Try.ntmps20
    go_wp2
    go_ret3
    exact ⟨rfl, rfl⟩
  · have i1 : (f.size : Int) ≤ 32 := by omega
    have i2 : (32 : Int) < (t.size : Int) := by omega
    go_enter Try.func20, Try.ntmps20
    go_wp2
    go_ret3
    exact ⟨rfl, rfl⟩

set_option maxHeartbeats 2000000 in
set_option maxRecDepth 100000 in
theorem prows_any (w : World) (f t : ByteArray) (h1 : f.size ≤ 32) (h2 : t.size ≤ 32) :
    Calls Try.prog 20 #[.string f, .string t] w fun e w' => ∃ ao n c bo m d, e = .returned (.tuple #[.slice ao n c, .slice bo m d, .int .i64 0]) ∧ Sl w' ao n c (nm (sb f)) ∧ Sl w' bo m d (hiL (sb t)) ∧ Below w.heap.size w w' := by
  have i1 : (f.size : Int) ≤ 32 := by omega
  have i2 : (t.size : Int) ≤ 32 := by omega
  go_enter Try.func20, Try.ntmps20
  go_wp2_with fail
  refine (pname_any w w.heap.size _ 0 [] f (World.ownsRow_nil _ _ _ _) (Nat.le_refl _) (by omega) (by omega)).mono ?_
  rintro e w1 ⟨v1, rfl, O1, B1⟩
  rw [Nat.zero_add, List.nil_append] at O1
  obtain ⟨ao, c, rfl, S1, -⟩ := Sl.own O1 (nm_byte _ (sb_byte f))
  clear O1
  have s1 := B1.size
  go_wp2_with fail
  refine (pname_any w1 w1.heap.size _ 0 [] t (World.ownsRow_nil _ _ _ _) (Nat.le_refl _) (by omega) (by omega)).mono ?_
  rintro e w2 ⟨v2, rfl, O2, C2⟩
  rw [Nat.zero_add, List.nil_append] at O2
  obtain ⟨bo, d, rfl, S2, -⟩ := Sl.own O2 (nm_byte _ (sb_byte t))
  have S1' := S1.below C2
  have B2 := B1.trans (C2.mono s1)
  have s2 := B2.size
  clear O2 C2 S1 B1
  by_cases ht : t.size = 0
  · have et := empty_of ht
    have e0 : (t.toList == (ByteArray.mk #[]).toList) = true := by rw [et]; simp
    have ee : t.toList.isEmpty = true := by rw [toE]; exact decide_eq_true ht
    have hh : hiL (sb t) = List.replicate 33 255 := by unfold hiL; rw [if_pos (sb_nil ht)]
    have HH : Hid (hiL (sb t) = List.replicate 33 255) := hh
    have S0 : Sl (w2.alloc (.cells #[.int .u8 255] 5)) (some ⟨w2.heap.size, 0, none⟩) 1 1 [255] := Sl.one w2 255 (by omega)
    clear et e0 hh
    go_wp2_with fail
    refine (prep_any _ _ S0).mono ?_
    rintro e w3 ⟨go, gn, gc, rfl, S3, C3⟩
    have C0 : Below w2.heap.size w2 (w2.alloc (.cells #[.int .u8 255] 5)) := (Below.refl _ w2).alloc (Nat.le_refl _) _
    have B : Below w2.heap.size w2 w3 := C0.trans (C3.mono C0.size)
    have S4 : Sl w3 go gn gc (hiL (sb t)) := by rw [HH.out]; exact S3
    clear S3 HH
    go_wp2
    go_ret3
    exact ⟨_, _, _, _, _, _, rfl, S1'.below B, S4, B2.trans (B.mono s2)⟩
  · have e0 : (t.toList == (ByteArray.mk #[]).toList) = false := toL_ne (fun h => ht (by rw [h]; rfl))
    have e1 : (t.toList == []) = false := by rw [← e0]; congr 1; simp
    have ee : t.toList.isEmpty = false := by rw [toE]; exact decide_eq_false ht
    have hh : hiL (sb t) = nm (sb t) := by
      unfold hiL
      rw [if_neg (fun h => ht (by rw [← sb_len, h]; rfl))]
    have S3 : Sl w2 bo (nm (sb t)).length d (hiL (sb t)) := by rw [hh]; exact S2
    go_wp2
    go_ret3
    exact ⟨_, _, _, _, _, _, rfl, S1', S3, B2⟩
end Go.Proofs.Ytepkjnklapamjaa

/-
  The reference's Rows.
-/
import Derived.Test.YtepkjnklapamjaaCName
namespace Go.Proofs.Ytepkjnklapamjaa
open Go.RowKit

/-- The upper end: of an empty text 33 bytes of 255. -/
def hiL (t : List Int) : List Int := if t = [] then List.replicate 33 255 else nm t

set_option maxHeartbeats 2000000 in
set_option maxRecDepth 100000 in
theorem rrows_bad (w : World) (f t : ByteArray) (h : 32 < f.size ∨ 32 < t.size) :
    Calls Try.prog 21 #[.string f, .string t] w fun e w' => e = .returned (.tuple #[.slice none 0 0, .slice none 0 0, .int .i64 5]) ∧ w' = w := by
  by_cases h1 : 32 < f.size
  · have i1 : (32 : Int) < (f.size : Int) := by omega
    go_enter Try.func21, Try.ntmps21
    go_wp2
    go_ret3
    exact ⟨rfl, rfl⟩
  · have i1 : (f.size : Int) ≤ 32 := by omega
    have i2 : (32 : Int) < (t.size : Int) := by omega
    go_enter Try.func21, Try.ntmps21
    go_wp2
    go_ret3
    exact ⟨rfl, rfl⟩

set_option maxHeartbeats 2000000 in
set_option maxRecDepth 100000 in
theorem rrows_any (w : World) (f t : ByteArray) (h1 : f.size ≤ 32) (h2 : t.size ≤ 32) :
    Calls Try.prog 21 #[.string f, .string t] w fun e w' => ∃ ao n c bo m d, e = .returned (.tuple #[.slice ao n c, .slice bo m d, .int .i64 0]) ∧ Sl w' ao n c (nm (sb f)) ∧ Sl w' bo m d (hiL (sb t)) ∧ Below w.heap.size w w' := by
  have i1 : (f.size : Int) ≤ 32 := by omega
  have i2 : (t.size : Int) ≤ 32 := by omega
  go_enter Try.func21, Try.ntmps21
  go_wp2_with fail
  refine (rname_any w w.heap.size _ 0 [] f (World.ownsRow_nil _ _ _ _) (Nat.le_refl _) (by omega) (by omega)).mono ?_
  rintro e w1 ⟨v1, rfl, O1, B1⟩
  rw [Nat.zero_add, List.nil_append] at O1
  obtain ⟨ao, c, rfl, S1, -⟩ := Sl.own O1 (nm_byte _ (sb_byte f))
  clear O1
  have s1 := B1.size
  go_wp2_with fail
  refine (rname_any w1 w1.heap.size _ 0 [] t (World.ownsRow_nil _ _ _ _) (Nat.le_refl _) (by omega) (by omega)).mono ?_
  rintro e w2 ⟨v2, rfl, O2, C2⟩
  rw [Nat.zero_add, List.nil_append] at O2
  obtain ⟨bo, d, rfl, S2, -⟩ := Sl.own O2 (nm_byte _ (sb_byte t))
  have S1' := S1.below C2
  have B2 := B1.trans (C2.mono s1)
  have s2 := B2.size
  clear O2 C2 S1 B1
  by_cases ht : t.size = 0
  · have et := empty_of ht
    have e0 : (t.toList == (ByteArray.mk #[]).toList) = true := by rw [et]; simp
    go_wp2_with fail
    go_loopw [8, 9] (fun b i wr => ∃ k : Nat, k ≤ 33 ∧ i = .int .i64 k ∧ wr.ownsRow w2.heap.size 5 1 b k (bv (List.replicate k 255)) ∧ Below w2.heap.size w2 wr) (fun _ i _ => 33 - (intOf i).toNat)
    case atStart => exact ⟨0, by omega, rfl, World.ownsRow_nil _ _ _ _, Below.refl _ _⟩
    case round =>
      obtain ⟨k, hk, rfl, O, B⟩ := hrel
      have sz := B.size
      by_cases l : k ≤ 32
      · have il : (k : Int) ≤ 32 := by omega
        go_wp2_with (at_builtin; refine wpList_app rfl (.tmp 28) (.tmp 29) rfl w2.heap.size _ _ _ rfl (O.alloc _) _ 1 1 [255] rfl (Sl.one wr _ (by omega)) (by omega) (by simp; omega) ?_; intro v3 w3 O3 C3; have D3 : Below w2.heap.size w2 w3 := (B.alloc (by omega) _).trans C3; clear C3 O)
        have O4 : w3.ownsRow w2.heap.size 5 1 v3 (k + 1) (bv (List.replicate (k + 1) 255)) := by
          rw [List.replicate_succ']
          exact O3
        go_roundw
        case rel => exact ⟨k + 1, by omega, by go_num, O4, D3⟩
        case measure => simp [intOf]; omega
      · obtain rfl : k = 33 := by omega
        obtain ⟨go, gc, rfl, S3, -⟩ := Sl.own O (by intro y hy; have := List.eq_of_mem_replicate hy; omega)
        have hh : hiL (sb t) = List.replicate 33 255 := by unfold hiL; rw [if_pos (sb_nil ht)]
        rw [← hh] at S3
        go_wp2
        go_ret3
        exact ⟨_, _, _, _, _, _, rfl, S1'.below B, S3, B2.trans (B.mono s2)⟩
  · have e0 : (t.toList == (ByteArray.mk #[]).toList) = false := toL_ne (fun h => ht (by rw [h]; rfl))
    have e1 : (t.toList == []) = false := by rw [← e0]; congr 1; simp
    have hh : hiL (sb t) = nm (sb t) := by
      unfold hiL
      rw [if_neg (fun h => ht (by rw [← sb_len, h]; rfl))]
    have S3 : Sl w2 bo (nm (sb t)).length d (hiL (sb t)) := by rw [hh]; exact S2
    go_wp2
    go_ret3
    exact ⟨_, _, _, _, _, _, rfl, S1', S3, B2⟩
end Go.Proofs.Ytepkjnklapamjaa

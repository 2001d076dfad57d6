/-
  The program's Bytes.
-/
import Derived.Test.YthghninlfkkahaaPAdd
import Derived.Test.YthghninlfkkahaaCBe
namespace Go.Proofs.Ythghninlfkkahaa
open Go.RowKit

theorem lack_byte (T m : Nat) (hT : T < 18446744073709551616) (hm : m ≤ 7) : (18446744073709551615 - T) / 256 ^ m % 256 = 255 - T / 256 ^ m % 256 := by
  obtain rfl | rfl | rfl | rfl | rfl | rfl | rfl | rfl : m = 0 ∨ m = 1 ∨ m = 2 ∨ m = 3 ∨ m = 4 ∨ m = 5 ∨ m = 6 ∨ m = 7 := by omega
  all_goals simp only [Nat.reducePow]
  all_goals omega

/-- A key's bytes, the first j names of them. -/
def KA.pre (k : KA) (j : Nat) : List Int := (if 0 < j then nm (sb k.row) else []) ++ ((if 1 < j then nm (sb k.fam) else []) ++ (if 2 < j then nm (sb k.qual) else []))
theorem KA.pre_len {k : KA} (hr : k.isRight = true) (j : Nat) : (k.pre j).length ≤ 300 := by
  have hsz := of_decide_eq_true hr
  have l1 := (nm_len (sb k.row)).2
  have l2 := (nm_len (sb k.fam)).2
  have l3 := (nm_len (sb k.qual)).2
  rw [sb_len] at l1 l2 l3
  unfold KA.pre
  rw [List.length_append, List.length_append]
  split <;> split <;> split <;> simp <;> omega
theorem KA.pre_byt (k : KA) (j : Nat) : Byt (k.pre j) := by
  have h1 := nm_byte _ (sb_byte k.row)
  have h2 := nm_byte _ (sb_byte k.fam)
  have h3 := nm_byte _ (sb_byte k.qual)
  have h0 : Byt [] := fun x hx => by simp at hx
  unfold KA.pre
  refine Byt.append ?_ (Byt.append ?_ ?_)
  all_goals split
  all_goals assumption
theorem KA.names_at {k : KA} (hr : k.isRight = true) (j : Nat) (hj : j < 3) : ∃ s : ByteArray, (∀ W : World, (Instr.index 37 (.agg #[.string k.row, .string k.fam, .string k.qual]) (.int .i64 j)).run Try.prog W = .ok (.string s) W) ∧ k.pre (j + 1) = k.pre j ++ nm (sb s) ∧ s.size ≤ 32 := by
  have hsz := of_decide_eq_true hr
  obtain rfl | rfl | rfl : j = 0 ∨ j = 1 ∨ j = 2 := by omega
  · exact ⟨k.row, fun _ => by kernel_rfl, by simp [KA.pre], by omega⟩
  · exact ⟨k.fam, fun _ => by kernel_rfl, by simp [KA.pre], by omega⟩
  · exact ⟨k.qual, fun _ => by kernel_rfl, by simp [KA.pre], by omega⟩

set_option maxHeartbeats 4000000 in
set_option maxRecDepth 100000 in
theorem pbytes_any (w : World) (k : KA) (hk : k.ok) (hr : k.isRight = true) :
    Calls Try.prog 9 #[k.val] w fun e w' => ∃ ao n c, e = .returned (.tuple #[.slice ao n c, .int .i64 0]) ∧ Sl w' ao n c (keyL k.kv) ∧ Below w.heap.size w w' := by
  have B1' : Below w.heap.size w (w.alloc (Obj.cells #[.string k.row, .string k.fam, .string k.qual, .int .u64 k.time] 26)) := (Below.refl _ w).alloc (Nat.le_refl _) _
  have K1' : ∀ i, (w.alloc (Obj.cells #[.string k.row, .string k.fam, .string k.qual, .int .u64 k.time] 26)).cell? ⟨w.heap.size, i, none⟩ = #[Value.string k.row, .string k.fam, .string k.qual, .int .u64 k.time][i]? := fun i => World.cell?_alloc_at _ _ _ _ rfl
  have hk0 : k.kind = 0 := by unfold KA.kind; rw [hr]; rfl
  have hti := hk.time
  obtain ⟨N, hN⟩ : ∃ N, N = w.heap.size := ⟨_, rfl⟩
  unfold KA.val
  go_enter Try.func9, Try.ntmps9
  go_wp2_with fail
  refine (pright_any _ k).mono ?_
  obtain ⟨w1, hw1⟩ : ∃ W, W = (w.alloc (Obj.cells #[.string k.row, .string k.fam, .string k.qual, .int .u64 k.time] 26)) := ⟨_, rfl⟩
  have z1 : w1.heap.size = w.heap.size + 1 := by rw [hw1]; simp
  rw [← hw1] at B1' K1' ⊢
  have B1 : Below w.heap.size w w1 := B1'
  rw [← hN] at K1'
  have HK : Hid (∀ V, Below w1.heap.size w1 V → ∀ i, V.cell? ⟨N, i, none⟩ = #[Value.string k.row, .string k.fam, .string k.qual, .int .u64 k.time][i]?) := by
    intro V hV i
    rw [hV.cell (by show N < _; omega)]
    exact K1' i
  clear hw1 B1' K1'
  rintro e w2 ⟨rfl, C2⟩
  rw [hk0, ← hN]
  have hNl : N < w1.heap.size := by omega
  have b1 := B1.size
  clear hk0 hN z1
  have s2 := C2.size
  have q2 : ∀ i, (w2.alloc (Obj.cells #[.slice none 0 0] 22)).cell? ⟨N, i, none⟩ = #[Value.string k.row, .string k.fam, .string k.qual, .int .u64 k.time][i]? := HK.out _ (C2.alloc (by omega) _)
  have r0 := q2 0
  have r1 := q2 1
  have r2 := q2 2
  have r3 := q2 3
  simp at r0 r1 r2 r3
  clear q2
  go_wp2_with fail
  refine (pnames_any _ k).mono ?_
  clear r0 r1 r2 r3
  obtain ⟨w3, hw3⟩ : ∃ W, W = w2.alloc (Obj.cells #[.slice none 0 0] 22) := ⟨_, rfl⟩
  obtain ⟨pb, hpb⟩ : ∃ p, p = w2.heap.size := ⟨_, rfl⟩
  have e3 : w3.heap[pb]? = some (.cells #[.slice none 0 0] 22) := by rw [hw3, hpb]; exact heap_alloc_new w2 _
  have z3 : w3.heap.size = pb + 1 := by rw [hw3, hpb]; simp
  have E3 : Below w1.heap.size w1 w3 := by rw [hw3]; exact C2.alloc (by omega) _
  rw [← hw3, ← hpb]
  have s3 : w1.heap.size ≤ pb := by omega
  clear hw3 hpb C2 s2
  rintro e w4 ⟨rfl, C4⟩
  have e4 : w4.heap[pb]? = some (.cells #[.slice none 0 0] 22) := (C4.block pb (by omega)).trans e3
  have E4 : Below w1.heap.size w1 w4 := E3.trans (C4.mono E3.size)
  have s4 := C4.size
  have z4 : pb + 1 ≤ w4.heap.size := by omega
  have HT : Hid (∀ V, Below pb w4 V → V.cell? ⟨N, 3, none⟩ = some (.int .u64 k.time)) := fun V hV => (hV.cell (by show N < pb; omega)).trans (HK.out w4 E4 3)
  have HW : Hid (∀ V, Below pb w4 V → Below w.heap.size w V) := fun V hV => B1.trans ((E4.trans (hV.mono s3)).mono b1)
  clear HK E3 e3 s4 C4 E4 B1 z3 hNl
  unfold KA.nv
  go_wp2_with fail
  have at0 : w4.ownsRow (pb + 1) 5 1 (.slice none 0 0) (k.pre 0).length (bv (k.pre 0)) := World.ownsRow_nil _ _ _ _
  have HE4 : Hid (w4.heap[pb]? = some (.cells #[.slice none 0 0] 22)) := e4
  clear e4
  go_loopw [7, 18] (fun _ i wr => ∃ (j : Nat) (v : Value), j ≤ 3 ∧ i = .int .i64 j ∧ wr.heap[pb]? = some (.cells #[v] 22) ∧ wr.ownsRow (pb + 1) 5 1 v (k.pre j).length (bv (k.pre j)) ∧ Below pb w4 wr) (fun _ i _ => 3 - (intOf i).toNat)
  case atStart => exact ⟨0, _, by omega, rfl, HE4.out, at0, Below.refl _ _⟩
  case round =>
    clear at0 HE4
    obtain ⟨j, v, hj, rfl, hv, O, B⟩ := hrel
    have bs := B.size
    have ple := KA.pre_len hr j
    by_cases l : j < 3
    · have il : (j : Int) < 3 := by omega
      obtain ⟨s, hidx, hpre, hs⟩ := KA.names_at hr j l
      have HP : Hid (k.pre (j + 1) = k.pre j ++ nm (sb s)) := hpre
      clear hpre
      have c0 : wr.cell? ⟨pb, 0, none⟩ = some v := by rw [cell_of_row wr pb 0 _ _ _ hv]; rfl
      go_wp2_with fail
      refine (pname_any wr (pb + 1) v _ _ s O (by omega) (by omega) (by omega)).mono ?_
      rintro e w5 ⟨v5, rfl, O5, C5⟩
      have e5 : w5.heap[pb]? = some (.cells #[v] 22) := (C5.block pb (by omega)).trans hv
      have c5 := cell_of_row w5 pb 0 _ _ _ e5
      have f5 := frozen_of_row w5 pb 0 _ _ e5
      have len : (k.pre j).length + (nm (sb s)).length = (k.pre (j + 1)).length := by rw [HP.out, List.length_append]
      rw [len, ← HP.out] at O5
      obtain ⟨so, sc, rfl, S5, -⟩ := Sl.own O5 (KA.pre_byt k (j + 1))
      have D5 : Below pb w4 (w5.setCell ⟨pb, 0, none⟩ (.slice so (k.pre (j + 1)).length sc)) := (B.trans (C5.mono (by omega))).setCell (Nat.le_refl _) _
      have O6 : (w5.setCell ⟨pb, 0, none⟩ (.slice so (k.pre (j + 1)).length sc)).ownsRow (pb + 1) 5 1 (.slice so (k.pre (j + 1)).length sc) (k.pre (j + 1)).length (bv (k.pre (j + 1))) := by
        refine O5.kept (row := some pb) ⟨rfl, rfl, rfl, by simp, fun k _ hk => heap_setCell_other w5 _ k _ (fun e => hk (by rw [e]))⟩ (.inr fun e => ?_)
        have := (O5.lt _ e).1
        omega
      have h6 : (w5.setCell ⟨pb, 0, none⟩ (.slice so (k.pre (j + 1)).length sc)).heap[pb]? = some (.cells #[.slice so (k.pre (j + 1)).length sc] 22) := by rw [heap_setCell_same w5 pb 0 _ _ _ e5]; rfl
      clear O5 S5 len O hv c0 B C5 hidx HP
      go_wp2
      go_roundw
      case rel => exact ⟨j + 1, _, by omega, by go_num, h6, O6, D5⟩
      case measure => simp [intOf]; omega
    · obtain rfl : j = 3 := by omega
      have t0 := HT.out wr B
      go_wp2_with fail
      obtain ⟨L, hL⟩ : ∃ L : Nat, L = 18446744073709551615 - k.time := ⟨_, rfl⟩
      have hLi : 18446744073709551615 - (k.time : Int) = (L : Int) := by omega
      obtain ⟨p, hp⟩ : ∃ p, p = wr.heap.size := ⟨_, rfl⟩
      obtain ⟨w6, hw6⟩ : ∃ W, W = wr.alloc (Obj.cells #[Value.int IntKind.u64 (L : Int)] 24) := ⟨_, rfl⟩
      rw [hLi, ← hw6, ← hp]
      have e6 : w6.heap[pb]? = some (.cells #[v] 22) := by rw [hw6, heap_alloc_old wr _ (by omega)]; exact hv
      have l6 : w6.heap[p]? = some (.cells #[.int .u64 (L : Int)] 24) := by rw [hw6, hp]; exact heap_alloc_new wr _
      have O6 : w6.ownsRow (pb + 1) 5 1 v (k.pre 3).length (bv (k.pre 3)) := by rw [hw6]; exact O.alloc _
      have B6 : Below pb w4 w6 := by rw [hw6]; exact B.alloc (by omega) _
      have HL : Hid (L = 18446744073709551615 - k.time) := hL
      have HE6 : Hid (w6.heap[pb]? = some (.cells #[v] 22)) := e6
      have HL6 : Hid (w6.heap[p]? = some (.cells #[.int .u64 (L : Int)] 24)) := l6
      have O6' : w6.ownsRow (pb + 1) 5 1 v ((k.pre 3).length + 0) (bv (k.pre 3 ++ (beL 8 k.time).take 0)) := by simpa using O6
      clear hL hLi hw6 hp O hv t0 B e6 l6 O6
      go_loopw [10, 29] (fun _ i wr => ∃ (j : Nat) (v : Value), j ≤ 8 ∧ i = .int .i64 j ∧ wr.heap[pb]? = some (.cells #[v] 22) ∧ wr.heap[p]? = some (.cells #[.int .u64 (L : Int)] 24) ∧ wr.ownsRow (pb + 1) 5 1 v ((k.pre 3).length + j) (bv (k.pre 3 ++ (beL 8 k.time).take j)) ∧ Below pb w4 wr) (fun _ i _ => 8 - (intOf i).toNat)
      case atStart => exact ⟨0, _, by omega, rfl, HE6.out, HL6.out, O6', B6⟩
      case round =>
        clear O6' HE6 HL6 B6 bs
        obtain ⟨j, v7, hj7, rfl, h7, l7, O7, B7⟩ := hrel
        have bs := B7.size
        by_cases l : j < 8
        · have il : (j : Int) < 8 := by omega
          have ht : Hid ((beL 8 k.time).take (j + 1) = (beL 8 k.time).take j ++ [((L / 256 ^ (7 - j) % 256 : Nat) : Int)]) := by
            show _ = _
            have hb := lack_byte k.time (7 - j) hti (by omega)
            have hx8 : k.time / 256 ^ (7 - j) % 256 < 256 := Nat.mod_lt _ (by omega)
            rw [HL.out, hb, beL_take 8 k.time j l]
            congr 2
            show (255 : Int) - ((k.time / 256 ^ (7 - j) % 256 : Nat) : Int) = _
            omega
          have hby : Byt (k.pre 3 ++ (beL 8 k.time).take j) := (KA.pre_byt k 3).append ((beL_byte 8 k.time).take j)
          go_wp2_with fail
          refine (padd_any wr pb p (pb + 1) v7 _ _ L (7 - j) h7 l7 O7 (by omega) (by omega) (by omega) (by omega) hby _ (by omega)).mono ?_
          rintro e w8 ⟨rfl, v8, h8, l8, O8, C8⟩
          have B8 : Below pb w4 w8 := B7.trans C8
          have O9 : w8.ownsRow (pb + 1) 5 1 v8 ((k.pre 3).length + (j + 1)) (bv (k.pre 3 ++ (beL 8 k.time).take (j + 1))) := by
            rw [ht.out, ← List.append_assoc]
            exact O8
          clear h7 l7 O7 B7 O8 C8 ht
          go_wp2
          go_roundw
          case rel => first | exact ⟨j + 1, _, by omega, by go_num, h8, l8, O9, B8⟩ | ((repeat apply Exists.intro); exact ⟨⟨j + 1, _, by omega, by go_num, h8, l8, O9, B8⟩, rfl⟩)
          case measure => simp [intOf]; omega
        · obtain rfl : j = 8 := by omega
          have ht : (beL 8 k.time).take 8 = beL 8 k.time := List.take_of_length_le (by rw [beL_len]; omega)
          have hkey : k.pre 3 ++ beL 8 k.time = keyL k.kv := by
            simp [KA.pre, keyL, KA.kv, List.append_assoc]
          rw [ht, hkey] at O7
          obtain ⟨go, gc, rfl, S9, -⟩ := Sl.own O7 (keyL_byte _ (KA.kv_byt hk))
          have c0 : wr.cell? ⟨pb, 0, none⟩ = some _ := cell_of_row wr pb 0 _ _ _ h7
          have BF := HW.out wr B7
          clear ht hkey O7 HL h7 l7 B7
          go_wp2
          go_ret2
          exact ⟨_, _, _, rfl, S9, BF⟩

set_option maxHeartbeats 2000000 in
set_option maxRecDepth 100000 in
theorem pbytes_bad (w : World) (k : KA) (hr : k.isRight = false) :
    Calls Try.prog 9 #[k.val] w fun e w' => e = .returned (.tuple #[.slice none 0 0, .int .i64 5]) ∧ Below w.heap.size w w' := by
  have B1 : Below w.heap.size w (w.alloc (Obj.cells #[.string k.row, .string k.fam, .string k.qual, .int .u64 k.time] 26)) := (Below.refl _ w).alloc (Nat.le_refl _) _
  have hk0 : k.kind = 5 := by unfold KA.kind; rw [hr]; rfl
  unfold KA.val
  go_enter Try.func9, Try.ntmps9
  go_wp2_with fail
  refine (pright_any _ k).mono ?_
  rintro e w2 ⟨rfl, C2⟩
  rw [hk0]
  clear hk0
  have B2 := B1.trans (C2.mono B1.size)
  go_wp2
  go_ret2
  exact ⟨rfl, B2⟩
end Go.Proofs.Ythghninlfkkahaa

/-
  Texts in one: PBytes, TbItem, Same, CutL.
-/
import Derived.Test.YthlpccajnmkbjaaGreatDoorTabletOfQ8
import Derived.Test.YthlpccajnmkbjaaGreatDoorTabletOfQ0
import Derived.Deep.QuietTactic
import Derived.BigQuiet
import Derived.Test.YthlpccajnmkbjaaGreatDoorTabletOfQ4
import Derived.Test.YthlpccajnmkbjaaGreatDoorTabletOfQ3
namespace Go.Proofs.YthlpccajnmkbjaaGreatDoor
open Go.RowKit
theorem lack_byte (T m : Nat) (hT : T < 18446744073709551616) (hm : m ≤ 7) : (18446744073709551615 - T) / 256 ^ m % 256 = 255 - T / 256 ^ m % 256 := by
  obtain rfl | rfl | rfl | rfl | rfl | rfl | rfl | rfl : m = 0 ∨ m = 1 ∨ m = 2 ∨ m = 3 ∨ m = 4 ∨ m = 5 ∨ m = 6 ∨ m = 7 := by omega
  all_goals simp only [Nat.reducePow]
  all_goals omega
def KA.pre (k : KA) (j : Nat) : List Int := (if 0 < j then nm (sb k.row) else []) ++ ((if 1 < j then nm (sb k.fam) else []) ++ (if 2 < j then nm (sb k.qual) else []))
theorem KA.pre_len {k : KA} (hr : k.isRight = true) (j : Nat) : (k.pre j).length ≤ 300 := by
  have hsz := of_decide_eq_true hr
  have l1 := (nm_len (sb k.row)).2
  have l2 := (nm_len (sb k.fam)).2
  have l3 := (nm_len (sb k.qual)).2
  rw [sb_len] at l1 l2 l3
  unfold KA.pre
  rw [List.length_append, List.length_append]
  split <;> split <;> split <;> simp <;> omega
theorem KA.pre_byt (k : KA) (j : Nat) : Byt (k.pre j) := by
  have h1 := nm_byte _ (sb_byte k.row)
  have h2 := nm_byte _ (sb_byte k.fam)
  have h3 := nm_byte _ (sb_byte k.qual)
  have h0 : Byt [] := fun x hx => by simp at hx
  unfold KA.pre
  refine Byt.append ?_ (Byt.append ?_ ?_)
  all_goals split
  all_goals assumption
theorem KA.names_at {k : KA} (hr : k.isRight = true) (j : Nat) (hj : j < 3) : ∃ s : ByteArray, (∀ W : World, (Instr.index 171 (.agg #[.string k.row, .string k.fam, .string k.qual]) (.int .i64 j)).run Tryz.prog W = .ok (.string s) W) ∧ k.pre (j + 1) = k.pre j ++ nm (sb s) ∧ s.size ≤ 32 := by
  have hsz := of_decide_eq_true hr
  obtain rfl | rfl | rfl : j = 0 ∨ j = 1 ∨ j = 2 := by omega
  · exact ⟨k.row, fun _ => by kernel_rfl, by simp [KA.pre], by omega⟩
  · exact ⟨k.fam, fun _ => by kernel_rfl, by simp [KA.pre], by omega⟩
  · exact ⟨k.qual, fun _ => by kernel_rfl, by simp [KA.pre], by omega⟩
set_option maxHeartbeats 4000000 in
set_option maxRecDepth 100000 in
theorem pbytes_any (w : World) (k : KA) (hk : k.ok) (hr : k.isRight = true) :
    Calls Tryz.prog 144 #[k.val] w fun e w' => ∃ ao n c, e = .returned (.tuple #[.slice ao n c, .int .i64 0]) ∧ Sl w' ao n c (keyL k.kv) ∧ Below w.heap.size w w' := by
  have B1' : Below w.heap.size w (w.alloc (Obj.cells #[.string k.row, .string k.fam, .string k.qual, .int .u64 k.time] 39)) := (Below.refl _ w).alloc (Nat.le_refl _) _
  have K1' : ∀ i, (w.alloc (Obj.cells #[.string k.row, .string k.fam, .string k.qual, .int .u64 k.time] 39)).cell? ⟨w.heap.size, i, none⟩ = #[Value.string k.row, .string k.fam, .string k.qual, .int .u64 k.time][i]? := fun i => World.cell?_alloc_at _ _ _ _ rfl
  have hk0 : k.kind = 0 := by unfold KA.kind; rw [hr]; rfl
  have hti := hk.time
  obtain ⟨N, hN⟩ : ∃ N, N = w.heap.size := ⟨_, rfl⟩
  unfold KA.val
  go_enter Tryz.func144, Tryz.ntmps144
  go_wp2_with fail
  refine (pright_any _ k).mono ?_
  obtain ⟨w1, hw1⟩ : ∃ W, W = (w.alloc (Obj.cells #[.string k.row, .string k.fam, .string k.qual, .int .u64 k.time] 39)) := ⟨_, rfl⟩
  have z1 : w1.heap.size = w.heap.size + 1 := by rw [hw1]; simp
  rw [← hw1] at B1' K1' ⊢
  have B1 : Below w.heap.size w w1 := B1'
  rw [← hN] at K1'
  have HK : Hid (∀ V, Below w1.heap.size w1 V → ∀ i, V.cell? ⟨N, i, none⟩ = #[Value.string k.row, .string k.fam, .string k.qual, .int .u64 k.time][i]?) := by
    intro V hV i
    rw [hV.cell (by show N < _; omega)]
    exact K1' i
  clear hw1 B1' K1'
  rintro e w2 ⟨rfl, C2⟩
  rw [hk0, ← hN]
  have hNl : N < w1.heap.size := by omega
  have b1 := B1.size
  clear hk0 hN z1
  have s2 := C2.size
  have q2 : ∀ i, (w2.alloc (Obj.cells #[.slice none 0 0] 40)).cell? ⟨N, i, none⟩ = #[Value.string k.row, .string k.fam, .string k.qual, .int .u64 k.time][i]? := HK.out _ (C2.alloc (by omega) _)
  have r0 := q2 0
  have r1 := q2 1
  have r2 := q2 2
  have r3 := q2 3
  simp at r0 r1 r2 r3
  clear q2
  go_wp2_with fail
  refine (pnames_any _ k).mono ?_
  clear r0 r1 r2 r3
  obtain ⟨w3, hw3⟩ : ∃ W, W = w2.alloc (Obj.cells #[.slice none 0 0] 40) := ⟨_, rfl⟩
  obtain ⟨pb, hpb⟩ : ∃ p, p = w2.heap.size := ⟨_, rfl⟩
  have e3 : w3.heap[pb]? = some (.cells #[.slice none 0 0] 40) := by rw [hw3, hpb]; exact heap_alloc_new w2 _
  have z3 : w3.heap.size = pb + 1 := by rw [hw3, hpb]; simp
  have E3 : Below w1.heap.size w1 w3 := by rw [hw3]; exact C2.alloc (by omega) _
  rw [← hw3, ← hpb]
  have s3 : w1.heap.size ≤ pb := by omega
  clear hw3 hpb C2 s2
  rintro e w4 ⟨rfl, C4⟩
  have e4 : w4.heap[pb]? = some (.cells #[.slice none 0 0] 40) := (C4.block pb (by omega)).trans e3
  have E4 : Below w1.heap.size w1 w4 := E3.trans (C4.mono E3.size)
  have s4 := C4.size
  have z4 : pb + 1 ≤ w4.heap.size := by omega
  have HT : Hid (∀ V, Below pb w4 V → V.cell? ⟨N, 3, none⟩ = some (.int .u64 k.time)) := fun V hV => (hV.cell (by show N < pb; omega)).trans (HK.out w4 E4 3)
  have HW : Hid (∀ V, Below pb w4 V → Below w.heap.size w V) := fun V hV => B1.trans ((E4.trans (hV.mono s3)).mono b1)
  clear HK E3 e3 s4 C4 E4 B1 z3 hNl
  unfold KA.nv
  go_wp2_with fail
  have at0 : w4.ownsRow (pb + 1) 5 1 (.slice none 0 0) (k.pre 0).length (bv (k.pre 0)) := World.ownsRow_nil _ _ _ _
  have HE4 : Hid (w4.heap[pb]? = some (.cells #[.slice none 0 0] 40)) := e4
  clear e4
  go_loopw [7, 18] (fun _ i wr => ∃ (j : Nat) (v : Value), j ≤ 3 ∧ i = .int .i64 j ∧ wr.heap[pb]? = some (.cells #[v] 40) ∧ wr.ownsRow (pb + 1) 5 1 v (k.pre j).length (bv (k.pre j)) ∧ Below pb w4 wr) (fun _ i _ => 3 - (intOf i).toNat)
  case atStart => exact ⟨0, _, by omega, rfl, HE4.out, at0, Below.refl _ _⟩
  case round =>
    clear at0 HE4
    obtain ⟨j, v, hj, rfl, hv, O, B⟩ := hrel
    have bs := B.size
    have ple := KA.pre_len hr j
    by_cases l : j < 3
    · have il : (j : Int) < 3 := by omega
      obtain ⟨s, hidx, hpre, hs⟩ := KA.names_at hr j l
      have HP : Hid (k.pre (j + 1) = k.pre j ++ nm (sb s)) := hpre
      clear hpre
      have c0 : wr.cell? ⟨pb, 0, none⟩ = some v := by rw [cell_of_row wr pb 0 _ _ _ hv]; rfl
      go_wp2_with fail
      refine (pname_any wr (pb + 1) v _ _ s O (by omega) (by omega) (by omega)).mono ?_
      rintro e w5 ⟨v5, rfl, O5, C5⟩
      have e5 : w5.heap[pb]? = some (.cells #[v] 40) := (C5.block pb (by omega)).trans hv
      have c5 := cell_of_row w5 pb 0 _ _ _ e5
      have f5 := frozen_of_row w5 pb 0 _ _ e5
      have len : (k.pre j).length + (nm (sb s)).length = (k.pre (j + 1)).length := by rw [HP.out, List.length_append]
      rw [len, ← HP.out] at O5
      obtain ⟨so, sc, rfl, S5, -⟩ := Sl.own O5 (KA.pre_byt k (j + 1))
      have D5 : Below pb w4 (w5.setCell ⟨pb, 0, none⟩ (.slice so (k.pre (j + 1)).length sc)) := (B.trans (C5.mono (by omega))).setCell (Nat.le_refl _) _
      have O6 : (w5.setCell ⟨pb, 0, none⟩ (.slice so (k.pre (j + 1)).length sc)).ownsRow (pb + 1) 5 1 (.slice so (k.pre (j + 1)).length sc) (k.pre (j + 1)).length (bv (k.pre (j + 1))) := by
        refine O5.kept (row := some pb) ⟨rfl, rfl, rfl, by simp, fun k _ hk => heap_setCell_other w5 _ k _ (fun e => hk (by rw [e]))⟩ (.inr fun e => ?_)
        have := (O5.lt _ e).1
        omega
      have h6 : (w5.setCell ⟨pb, 0, none⟩ (.slice so (k.pre (j + 1)).length sc)).heap[pb]? = some (.cells #[.slice so (k.pre (j + 1)).length sc] 40) := by rw [heap_setCell_same w5 pb 0 _ _ _ e5]; rfl
      clear O5 S5 len O hv c0 B C5 hidx HP
      go_wp2
      go_roundw
      case rel => exact ⟨j + 1, _, by omega, by go_num, h6, O6, D5⟩
      case measure => simp [intOf]; omega
    · obtain rfl : j = 3 := by omega
      have t0 := HT.out wr B
      go_wp2_with fail
      obtain ⟨L, hL⟩ : ∃ L : Nat, L = 18446744073709551615 - k.time := ⟨_, rfl⟩
      have hLi : 18446744073709551615 - (k.time : Int) = (L : Int) := by omega
      obtain ⟨p, hp⟩ : ∃ p, p = wr.heap.size := ⟨_, rfl⟩
      obtain ⟨w6, hw6⟩ : ∃ W, W = wr.alloc (Obj.cells #[Value.int IntKind.u64 (L : Int)] 37) := ⟨_, rfl⟩
      rw [hLi, ← hw6, ← hp]
      have e6 : w6.heap[pb]? = some (.cells #[v] 40) := by rw [hw6, heap_alloc_old wr _ (by omega)]; exact hv
      have l6 : w6.heap[p]? = some (.cells #[.int .u64 (L : Int)] 37) := by rw [hw6, hp]; exact heap_alloc_new wr _
      have O6 : w6.ownsRow (pb + 1) 5 1 v (k.pre 3).length (bv (k.pre 3)) := by rw [hw6]; exact O.alloc _
      have B6 : Below pb w4 w6 := by rw [hw6]; exact B.alloc (by omega) _
      have HL : Hid (L = 18446744073709551615 - k.time) := hL
      have HE6 : Hid (w6.heap[pb]? = some (.cells #[v] 40)) := e6
      have HL6 : Hid (w6.heap[p]? = some (.cells #[.int .u64 (L : Int)] 37)) := l6
      have O6' : w6.ownsRow (pb + 1) 5 1 v ((k.pre 3).length + 0) (bv (k.pre 3 ++ (beL 8 k.time).take 0)) := by simpa using O6
      clear hL hLi hw6 hp O hv t0 B e6 l6 O6
      go_loopw [10, 29] (fun _ i wr => ∃ (j : Nat) (v : Value), j ≤ 8 ∧ i = .int .i64 j ∧ wr.heap[pb]? = some (.cells #[v] 40) ∧ wr.heap[p]? = some (.cells #[.int .u64 (L : Int)] 37) ∧ wr.ownsRow (pb + 1) 5 1 v ((k.pre 3).length + j) (bv (k.pre 3 ++ (beL 8 k.time).take j)) ∧ Below pb w4 wr) (fun _ i _ => 8 - (intOf i).toNat)
      case atStart => exact ⟨0, _, by omega, rfl, HE6.out, HL6.out, O6', B6⟩
      case round =>
        clear O6' HE6 HL6 B6 bs
        obtain ⟨j, v7, hj7, rfl, h7, l7, O7, B7⟩ := hrel
        have bs := B7.size
        by_cases l : j < 8
        · have il : (j : Int) < 8 := by omega
          have ht : Hid ((beL 8 k.time).take (j + 1) = (beL 8 k.time).take j ++ [((L / 256 ^ (7 - j) % 256 : Nat) : Int)]) := by
            show _ = _
            have hb := lack_byte k.time (7 - j) hti (by omega)
            have hx8 : k.time / 256 ^ (7 - j) % 256 < 256 := Nat.mod_lt _ (by omega)
            rw [HL.out, hb, beL_take 8 k.time j l]
            congr 2
            show (255 : Int) - ((k.time / 256 ^ (7 - j) % 256 : Nat) : Int) = _
            omega
          have hby : Byt (k.pre 3 ++ (beL 8 k.time).take j) := (KA.pre_byt k 3).append ((beL_byte 8 k.time).take j)
          go_wp2_with fail
          refine (padd_any wr pb p (pb + 1) v7 _ _ L (7 - j) h7 l7 O7 (by omega) (by omega) (by omega) (by omega) hby _ (by omega)).mono ?_
          rintro e w8 ⟨rfl, v8, h8, l8, O8, C8⟩
          have B8 : Below pb w4 w8 := B7.trans C8
          have O9 : w8.ownsRow (pb + 1) 5 1 v8 ((k.pre 3).length + (j + 1)) (bv (k.pre 3 ++ (beL 8 k.time).take (j + 1))) := by
            rw [ht.out, ← List.append_assoc]
            exact O8
          clear h7 l7 O7 B7 O8 C8 ht
          go_wp2
          go_roundw
          case rel => first | exact ⟨j + 1, _, by omega, by go_num, h8, l8, O9, B8⟩ | ((repeat apply Exists.intro); exact ⟨⟨j + 1, _, by omega, by go_num, h8, l8, O9, B8⟩, rfl⟩)
          case measure => simp [intOf]; omega
        · obtain rfl : j = 8 := by omega
          have ht : (beL 8 k.time).take 8 = beL 8 k.time := List.take_of_length_le (by rw [beL_len]; omega)
          have hkey : k.pre 3 ++ beL 8 k.time = keyL k.kv := by
            simp [KA.pre, keyL, KA.kv, List.append_assoc]
          rw [ht, hkey] at O7
          obtain ⟨go, gc, rfl, S9, -⟩ := Sl.own O7 (keyL_byte _ (KA.kv_byt hk))
          have c0 : wr.cell? ⟨pb, 0, none⟩ = some _ := cell_of_row wr pb 0 _ _ _ h7
          have BF := HW.out wr B7
          clear ht hkey O7 HL h7 l7 B7
          go_wp2
          go_ret2
          exact ⟨_, _, _, rfl, S9, BF⟩
set_option maxHeartbeats 2000000 in
set_option maxRecDepth 100000 in
theorem pbytes_bad (w : World) (k : KA) (hr : k.isRight = false) :
    Calls Tryz.prog 144 #[k.val] w fun e w' => e = .returned (.tuple #[.slice none 0 0, .int .i64 5]) ∧ Below w.heap.size w w' := by
  have B1 : Below w.heap.size w (w.alloc (Obj.cells #[.string k.row, .string k.fam, .string k.qual, .int .u64 k.time] 39)) := (Below.refl _ w).alloc (Nat.le_refl _) _
  have hk0 : k.kind = 5 := by unfold KA.kind; rw [hr]; rfl
  unfold KA.val
  go_enter Tryz.func144, Tryz.ntmps144
  go_wp2_with fail
  refine (pright_any _ k).mono ?_
  rintro e w2 ⟨rfl, C2⟩
  rw [hk0]
  clear hk0
  have B2 := B1.trans (C2.mono B1.size)
  go_wp2
  go_ret2
  exact ⟨rfl, B2⟩
open Go.RowKit
def CA.val (c : CA) : Value := .agg #[.string c.row, .string c.fam, .string c.qual, .int .u64 c.time, .slice c.va.ao c.va.n c.va.cap, .bool c.gone]
def itK (c : CA) : List Int := if c.key.isRight then keyL c.c.kv else []
set_option maxHeartbeats 2000000 in
set_option maxRecDepth 100000 in
theorem titem_any (w : World) (c : CA) (h : c.ok w) (hn : c.va.n ≤ 100000) :
    Calls Tryz.prog 108 #[c.val] w fun e w' => ∃ ko kn kc vo vn vc, e = .returned (.agg #[.slice ko kn kc, .slice vo vn vc]) ∧ Sl w' ko kn kc (itK c) ∧ Sl w' vo vn vc (itV c.c) ∧ Below w.heap.size w w' := by
  obtain ⟨W1, hW1⟩ : ∃ V, V = w.alloc (.cells #[.string c.row, .string c.fam, .string c.qual, .int .u64 c.time, .slice c.va.ao c.va.n c.va.cap, .bool c.gone] 69) := ⟨_, rfl⟩
  obtain ⟨W2, hW2⟩ : ∃ V, V = W1.alloc (.cells #[.slice none 0 0, .slice none 0 0] 101) := ⟨_, rfl⟩
  have B1 : Below w.heap.size w W1 := by rw [hW1]; exact (Below.refl _ _).alloc (Nat.le_refl _) _
  have C2 : Below W1.heap.size W1 W2 := by rw [hW2]; exact (Below.refl _ _).alloc (Nat.le_refl _) _
  have B2 := B1.trans (C2.mono B1.size)
  have s1 : W1.heap.size = w.heap.size + 1 := by rw [hW1]; exact Array.size_push ..
  have A1' : Arr W1 w.heap.size 69 (#[.string c.row, .string c.fam, .string c.qual, .int .u64 c.time, .slice c.va.ao c.va.n c.va.cap, .bool c.gone]).toList := by rw [hW1]; exact heap_alloc_new w _
  have A1 := arr_below A1' C2
  have A2 : Arr W2 (w.heap.size + 1) 101 [.slice none 0 0, .slice none 0 0] := by rw [hW2, ← s1]; exact heap_alloc_new W1 _
  clear A1'
  unfold CA.val
  by_cases hr : c.key.isRight = true
  · have HK : Hid (itK c = keyL c.key.kv) := by show _ = _; unfold itK; rw [hr]; rfl
    have CB := pbytes_any W2 c.key ⟨h.row, h.fam, h.qual, h.time⟩ hr
    rw [show c.key.val = .agg #[.string c.row, .string c.fam, .string c.qual, .int .u64 c.time] from rfl] at CB
    go_enter Tryz.func108, Tryz.ntmps108
    go_wp2_with fail
    rw [← hW1, ← hW2]
    refine CB.mono ?_
    rintro e w3 ⟨ko, kn, kc, rfl, S3, C3⟩
    have B3 := B2.trans (C3.mono B2.size)
    have A3 := arr_below A1 C3
    have R3 := arr_below A2 C3
    have c4 : w3.cell? ⟨w.heap.size, 4, none⟩ = some (.slice c.va.ao c.va.n c.va.cap) := A3.cell 4
    have c5 : w3.cell? ⟨w.heap.size, 5, none⟩ = some (.bool c.gone) := A3.cell 5
    have r0 : w3.cell? ⟨w.heap.size + 1, 0, none⟩ = some (.slice none 0 0) := R3.cell 0
    have r1 : w3.cell? ⟨w.heap.size + 1, 1, none⟩ = some (.slice none 0 0) := R3.cell 1
    have f0 := R3.free 0
    have f1 := R3.free 1
    have lt := R3.lt
    clear CB
    cases hg : c.gone with
    | true =>
      have HV : Hid (itV c.c = [1]) := by show (if c.gone then _ else _) = _; rw [hg]; rfl
      rw [hg] at c5
      have S4 := Sl.one w3 1 (by omega)
      have KW : Wr (w.heap.size + 1) w3 (((w3.setCell ⟨w.heap.size + 1, 0, none⟩ (.slice ko kn kc)).setCell ⟨w.heap.size + 1, 1, none⟩ (.slice (some ⟨w3.heap.size, 0, none⟩) 1 1)).alloc (.cells #[.int .u8 1] 5)) := (((Wr.refl _ _).set 0 _).set 1 _).alloc _
      have BX : Below w.heap.size w (((w3.setCell ⟨w.heap.size + 1, 0, none⟩ (.slice ko kn kc)).setCell ⟨w.heap.size + 1, 1, none⟩ (.slice (some ⟨w3.heap.size, 0, none⟩) 1 1)).alloc (.cells #[.int .u8 1] 5)) := KW.below B3 B3.size (Nat.le_succ _)
      have SK : Sl _ ko kn kc _ := (S3).wr R3 (by simp) KW
      have SV : Sl (((w3.setCell ⟨w.heap.size + 1, 0, none⟩ (.slice ko kn kc)).setCell ⟨w.heap.size + 1, 1, none⟩ (.slice (some ⟨w3.heap.size, 0, none⟩) 1 1)).alloc (.cells #[.int .u8 1] 5)) (some ⟨w3.heap.size, 0, none⟩) 1 1 [1] := by
        have := Sl.one ((w3.setCell ⟨w.heap.size + 1, 0, none⟩ (.slice ko kn kc)).setCell ⟨w.heap.size + 1, 1, none⟩ (.slice (some ⟨w3.heap.size, 0, none⟩) 1 1)) 1 (by omega)
        simpa using this
      clear S4
      go_wp2
      exact bodyPost_ret (v := .agg #[.slice ko kn kc, .slice (some ⟨w3.heap.size, 0, none⟩) 1 1]) (by simp [results, Tryz.results108, go_sem, r0, r1, lt]) rfl ⟨_, _, _, _, _, _, rfl, by rw [HK.out]; exact SK, by rw [HV.out]; exact SV, BX⟩
    | false =>
      have HV : Hid (itV c.c = 0 :: c.va.xs) := by show (if c.gone then _ else _) = _; rw [hg]; rfl
      rw [hg] at c5
      obtain ⟨W4, hW4⟩ : ∃ V, V = w3.alloc (.cells #[.int .u8 0] 5) := ⟨_, rfl⟩
      have C4 : Below w3.heap.size w3 W4 := by rw [hW4]; exact (Below.refl _ _).alloc (Nat.le_refl _) _
      have O4 : W4.ownsRow w3.heap.size 5 1 (.slice (some ⟨w3.heap.size, 0, none⟩) 1 1) 1 (bv [0]) := by rw [hW4]; exact ⟨rfl, .inr ⟨w3.heap.size, 1, #[.int .u8 0], rfl, Nat.le_refl _, heap_alloc_new w3 _, Nat.le_refl _, by decide, rfl, rfl⟩⟩
      have hva := h.va.below (B3.trans (C4.mono B3.size))
      have B4 := B3.trans (C4.mono B3.size)
      have c4' : (w3.alloc (.cells #[.int .u8 0] 5)).cell? ⟨w.heap.size, 4, none⟩ = some (.slice c.va.ao c.va.n c.va.cap) := by rw [← hW4]; exact (C4.cell (World.block_lt_of_cell? _ _ c4)).trans c4
      have s4 := C4.size
      have HBZ : Hid (Byt (0 :: c.va.xs)) := fun x hx => (List.mem_cons.1 hx).elim (fun e => by rw [e]; omega) (h.va.byte x)
      go_wp2_with (at_builtin; rw [← hW4]; refine wpList_app rfl (.tmp 17) (.tmp 19) rfl w3.heap.size _ _ _ rfl O4 _ _ _ _ rfl hva (by omega) s4 ?_; intro v5 w5 O5 D5; have O5' : w5.ownsRow w3.heap.size 5 1 v5 (1 + c.va.n) (bv (0 :: c.va.xs)) := O5; obtain ⟨vo, vc, rfl, S5, -⟩ := Sl.own O5' HBZ.out; have C5 := C4.trans D5; have B5 := B3.trans (C5.mono B3.size); have R5 := arr_below R3 C5; have r0 : w5.cell? ⟨w.heap.size + 1, 0, none⟩ = some (.slice none 0 0) := R5.cell 0; have r1 : w5.cell? ⟨w.heap.size + 1, 1, none⟩ = some (.slice none 0 0) := R5.cell 1; have f0 := R5.free 0; have f1 := R5.free 1; have lt := R5.lt; clear O5 O5' c4' O4)
      have KW : Wr (w.heap.size + 1) w5 ((w5.setCell ⟨w.heap.size + 1, 0, none⟩ (.slice ko kn kc)).setCell ⟨w.heap.size + 1, 1, none⟩ (.slice vo (1 + c.va.n) vc)) := ((Wr.refl _ _).set 0 _).set 1 _
      have BX := KW.below B5 B5.size (Nat.le_succ _)
      have SK : Sl _ ko kn kc _ := ((S3).below C5).wr R5 (by simp) KW
      have SV := S5.wr R5 (by simp) KW
      exact bodyPost_ret (v := .agg #[.slice ko kn kc, .slice vo (1 + c.va.n) vc]) (by simp [results, Tryz.results108, go_sem, r0, r1]) rfl ⟨_, _, _, _, _, _, rfl, by rw [HK.out]; exact SK, by rw [HV.out]; exact SV, BX⟩
  · have hr : c.key.isRight = false := by simpa using hr
    have HK : Hid (itK c = []) := by show _ = _; unfold itK; rw [hr]; rfl
    have CB := pbytes_bad W2 c.key hr
    rw [show c.key.val = .agg #[.string c.row, .string c.fam, .string c.qual, .int .u64 c.time] from rfl] at CB
    go_enter Tryz.func108, Tryz.ntmps108
    go_wp2_with fail
    rw [← hW1, ← hW2]
    refine CB.mono ?_
    rintro e w3 ⟨rfl, C3⟩
    have B3 := B2.trans (C3.mono B2.size)
    have A3 := arr_below A1 C3
    have R3 := arr_below A2 C3
    have c4 : w3.cell? ⟨w.heap.size, 4, none⟩ = some (.slice c.va.ao c.va.n c.va.cap) := A3.cell 4
    have c5 : w3.cell? ⟨w.heap.size, 5, none⟩ = some (.bool c.gone) := A3.cell 5
    have r0 : w3.cell? ⟨w.heap.size + 1, 0, none⟩ = some (.slice none 0 0) := R3.cell 0
    have r1 : w3.cell? ⟨w.heap.size + 1, 1, none⟩ = some (.slice none 0 0) := R3.cell 1
    have f0 := R3.free 0
    have f1 := R3.free 1
    have lt := R3.lt
    clear CB
    cases hg : c.gone with
    | true =>
      have HV : Hid (itV c.c = [1]) := by show (if c.gone then _ else _) = _; rw [hg]; rfl
      rw [hg] at c5
      have S4 := Sl.one w3 1 (by omega)
      have KW : Wr (w.heap.size + 1) w3 (((w3.setCell ⟨w.heap.size + 1, 0, none⟩ (.slice none 0 0)).setCell ⟨w.heap.size + 1, 1, none⟩ (.slice (some ⟨w3.heap.size, 0, none⟩) 1 1)).alloc (.cells #[.int .u8 1] 5)) := (((Wr.refl _ _).set 0 _).set 1 _).alloc _
      have BX : Below w.heap.size w (((w3.setCell ⟨w.heap.size + 1, 0, none⟩ (.slice none 0 0)).setCell ⟨w.heap.size + 1, 1, none⟩ (.slice (some ⟨w3.heap.size, 0, none⟩) 1 1)).alloc (.cells #[.int .u8 1] 5)) := KW.below B3 B3.size (Nat.le_succ _)
      have SK : Sl _ none 0 0 _ := ((Sl.nothing w3)).wr R3 (by simp) KW
      have SV : Sl (((w3.setCell ⟨w.heap.size + 1, 0, none⟩ (.slice none 0 0)).setCell ⟨w.heap.size + 1, 1, none⟩ (.slice (some ⟨w3.heap.size, 0, none⟩) 1 1)).alloc (.cells #[.int .u8 1] 5)) (some ⟨w3.heap.size, 0, none⟩) 1 1 [1] := by
        have := Sl.one ((w3.setCell ⟨w.heap.size + 1, 0, none⟩ (.slice none 0 0)).setCell ⟨w.heap.size + 1, 1, none⟩ (.slice (some ⟨w3.heap.size, 0, none⟩) 1 1)) 1 (by omega)
        simpa using this
      clear S4
      go_wp2
      exact bodyPost_ret (v := .agg #[.slice none 0 0, .slice (some ⟨w3.heap.size, 0, none⟩) 1 1]) (by simp [results, Tryz.results108, go_sem, r0, r1, lt]) rfl ⟨_, _, _, _, _, _, rfl, by rw [HK.out]; exact SK, by rw [HV.out]; exact SV, BX⟩
    | false =>
      have HV : Hid (itV c.c = 0 :: c.va.xs) := by show (if c.gone then _ else _) = _; rw [hg]; rfl
      rw [hg] at c5
      obtain ⟨W4, hW4⟩ : ∃ V, V = w3.alloc (.cells #[.int .u8 0] 5) := ⟨_, rfl⟩
      have C4 : Below w3.heap.size w3 W4 := by rw [hW4]; exact (Below.refl _ _).alloc (Nat.le_refl _) _
      have O4 : W4.ownsRow w3.heap.size 5 1 (.slice (some ⟨w3.heap.size, 0, none⟩) 1 1) 1 (bv [0]) := by rw [hW4]; exact ⟨rfl, .inr ⟨w3.heap.size, 1, #[.int .u8 0], rfl, Nat.le_refl _, heap_alloc_new w3 _, Nat.le_refl _, by decide, rfl, rfl⟩⟩
      have hva := h.va.below (B3.trans (C4.mono B3.size))
      have B4 := B3.trans (C4.mono B3.size)
      have c4' : (w3.alloc (.cells #[.int .u8 0] 5)).cell? ⟨w.heap.size, 4, none⟩ = some (.slice c.va.ao c.va.n c.va.cap) := by rw [← hW4]; exact (C4.cell (World.block_lt_of_cell? _ _ c4)).trans c4
      have s4 := C4.size
      have HBZ : Hid (Byt (0 :: c.va.xs)) := fun x hx => (List.mem_cons.1 hx).elim (fun e => by rw [e]; omega) (h.va.byte x)
      go_wp2_with (at_builtin; rw [← hW4]; refine wpList_app rfl (.tmp 17) (.tmp 19) rfl w3.heap.size _ _ _ rfl O4 _ _ _ _ rfl hva (by omega) s4 ?_; intro v5 w5 O5 D5; have O5' : w5.ownsRow w3.heap.size 5 1 v5 (1 + c.va.n) (bv (0 :: c.va.xs)) := O5; obtain ⟨vo, vc, rfl, S5, -⟩ := Sl.own O5' HBZ.out; have C5 := C4.trans D5; have B5 := B3.trans (C5.mono B3.size); have R5 := arr_below R3 C5; have r0 : w5.cell? ⟨w.heap.size + 1, 0, none⟩ = some (.slice none 0 0) := R5.cell 0; have r1 : w5.cell? ⟨w.heap.size + 1, 1, none⟩ = some (.slice none 0 0) := R5.cell 1; have f0 := R5.free 0; have f1 := R5.free 1; have lt := R5.lt; clear O5 O5' c4' O4)
      have KW : Wr (w.heap.size + 1) w5 ((w5.setCell ⟨w.heap.size + 1, 0, none⟩ (.slice none 0 0)).setCell ⟨w.heap.size + 1, 1, none⟩ (.slice vo (1 + c.va.n) vc)) := ((Wr.refl _ _).set 0 _).set 1 _
      have BX := KW.below B5 B5.size (Nat.le_succ _)
      have SK : Sl _ none 0 0 _ := (((Sl.nothing w3)).below C5).wr R5 (by simp) KW
      have SV := S5.wr R5 (by simp) KW
      exact bodyPost_ret (v := .agg #[.slice none 0 0, .slice vo (1 + c.va.n) vc]) (by simp [results, Tryz.results108, go_sem, r0, r1]) rfl ⟨_, _, _, _, _, _, rfl, by rw [HK.out]; exact SK, by rw [HV.out]; exact SV, BX⟩
open Go.RowKit
theorem below_drewN (w : World) (q B : Nat) : Below B w (w.drewN q) := ⟨rfl, rfl, rfl, Nat.le_refl _, fun _ _ => rfl⟩
theorem lists_of (n : Nat) (xs ys : List Int) (h1 : xs.length = n) (h2 : ys.length = n) (h : ∀ j, j < n → xs.getD j 0 = ys.getD j 0) : xs = ys := by
  apply List.ext_getElem (by omega)
  intro j hj hj2
  have := h j (by omega)
  simpa [List.getD, hj, hj2] using this
theorem Sl.at {w : World} {ao : Option Addr} {n cap : Nat} {xs : List Int} (h : Sl w ao n cap xs) (hn : 0 < n) :
    ∃ b off, ao = some ⟨b, off, none⟩ ∧ ∀ i, i < n → w.cell? ⟨b, off + i, none⟩ = some (.int .u8 (xs.getD i 0)) := by
  cases ao with
  | none => have := (h.nil rfl).1; omega
  | some a =>
    obtain ⟨b, off, spot⟩ := a
    have hc := h.cell _ rfl 0 hn
    have hs : spot = none := by simpa [Addr.add] using World.cell?_spot hc
    subst hs
    exact ⟨b, off, rfl, fun i hi => by have := h.cell _ rfl i hi; rw [Addr.add_lit] at this; exact this⟩
set_option maxHeartbeats 800000 in
theorem same_any (w : World) (ao bo : Option Addr) (n cap m cap2 : Nat) (xs ys : List Int) (h : Sl w ao n cap xs) (h2 : Sl w bo m cap2 ys) :
    Calls Tryz.prog 19 #[.slice ao n cap, .slice bo m cap2] w fun e w' =>
      e = .returned (.bool (decide (xs = ys))) ∧ ∃ q, w' = w.drewN q := by
  have hl := h.len
  have hl2 := h2.len
  have hle := h.le
  have hmx := h.mx
  unfold maxLen at hmx
  by_cases hnm : n = m
  · subst hnm
    have hne : ((n : Int) != (n : Int)) = false := by simp
    go_enter Tryz.func19, Tryz.ntmps19
    go_wp2
    go_loopw [5] (fun i wr => ∃ k q : Nat, k ≤ n ∧ i = .int .i64 k ∧ wr = w.drewN q ∧ ∀ j, j < k → xs.getD j 0 = ys.getD j 0) (fun i _ => n - (intOf i).toNat)
    case atStart => exact ⟨0, 0, Nat.zero_le _, rfl, rfl, fun j hj => by omega⟩
    case round =>
      obtain ⟨k, q, hk, rfl, rfl, heq⟩ := hrel
      by_cases hlt : k < n
      · obtain ⟨b, off, rfl, hc⟩ := h.at (by omega)
        obtain ⟨b2, off2, rfl, hc2⟩ := h2.at (by omega)
        have c1 := hc k hlt
        have c2 := hc2 k hlt
        have hlt1 : (k : Int) < (n : Int) := by omega
        clear hc hc2
        have k1 : k < xs.length := by omega
        have k2 : k < ys.length := by omega
        by_cases he : xs[k] = ys[k]
        · have hb : (xs[k] != ys[k]) = false := by simp [he]
          have hE : Hid (xs[k] = ys[k]) := he
          clear he
          go_wp2
          go_quiet (fail)
          go_wp2
          go_roundw
          case rel =>
            refine ⟨k + 1, _, by omega, by go_num, rfl, fun j hj => ?_⟩
            by_cases hjk : j < k
            · exact heq j hjk
            · obtain rfl : j = k := by omega
              simpa [List.getD, k1, k2] using hE.out
          case measure => simp [intOf]; omega
        · have hb : (xs[k] != ys[k]) = true := by simp [he]
          have hE : Hid (¬ xs[k] = ys[k]) := he
          clear he
          go_wp2
          go_quiet (fail)
          go_wp2
          go_ret
          have hd : decide (xs = ys) = false := decide_eq_false (fun hx => by subst hx; exact hE.out rfl)
          rw [hd, World.drewN_drewN]
          exact ⟨rfl, _, rfl⟩
      · obtain rfl : k = n := by omega
        go_wp2
        go_ret
        have hd : decide (xs = ys) = true := decide_eq_true (lists_of k xs ys hl hl2 heq)
        rw [hd]
        exact ⟨rfl, _, rfl⟩
  · have hne : ((n : Int) != (m : Int)) = true := by simp; omega
    go_enter Tryz.func19, Tryz.ntmps19
    go_wp2
    go_ret
    have hd : decide (xs = ys) = false := decide_eq_false (fun hx => by subst hx; omega)
    rw [hd]
    exact ⟨rfl, 0, rfl⟩
open Go.RowKit
theorem cutL_ne {c : Int} (r : List Int) (h : c ≠ 0) : cutL (c :: r) = (cutL r).map fun p => (c :: p.1, p.2) := by
  cases r with
  | nil => simp [cutL]
  | cons d r => rw [cutL, if_neg h]
theorem cutL_one (r : List Int) : cutL (0 :: 1 :: r) = some ([], r) := by simp [cutL]
theorem cutL_255 (r : List Int) : cutL (0 :: 255 :: r) = (cutL r).map fun p => (0 :: p.1, p.2) := by simp [cutL]
theorem cutL_other {d : Int} (r : List Int) (h1 : d ≠ 1) (h2 : d ≠ 255) : cutL (0 :: d :: r) = none := by simp [cutL, h1, h2]
theorem drop_at (xs : List Int) (k : Nat) (h : k < xs.length) : xs.drop k = xs.getD k 0 :: xs.drop (k + 1) := by
  rw [List.drop_eq_getElem_cons h]
  simp [List.getD, h]
theorem map_more {α : Type} (o : Option (List Int × α)) (acc ys : List Int) : (o.map fun p => (ys ++ p.1, p.2)).map (fun p => (acc ++ p.1, p.2)) = o.map fun p => ((acc ++ ys) ++ p.1, p.2) := by
  cases o <;> simp
theorem cutC {w : World} {b off : Nat} {n cap : Nat} {xs : List Int} (h : Sl w (some ⟨b, off, none⟩) n cap xs) (u : Nat) (hu : u ≤ n) : Sl w (some (if cap = u then ⟨b, off, none⟩ else ⟨b, off + u, none⟩)) (n - u) (cap - u) (xs.drop u) := by
  refine ⟨by simp [h.len], by have := h.le; omega, by have := h.mx; omega, fun e => by simp at e, fun a ha i hi => ?_, h.byte.drop u⟩
  have hle := h.le
  rw [if_neg (by omega)] at ha
  obtain rfl := Option.some.inj ha
  have := h.cell _ rfl (u + i) (by omega)
  rw [Addr.add_lit] at this ⊢
  rw [Nat.add_assoc, this]
  simp [List.getD]
end Go.Proofs.YthlpccajnmkbjaaGreatDoor

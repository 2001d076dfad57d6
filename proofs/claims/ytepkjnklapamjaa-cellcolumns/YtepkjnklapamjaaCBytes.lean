/-
  The reference's Bytes.
-/
import Derived.Test.YtepkjnklapamjaaCName
import Derived.Test.YtepkjnklapamjaaHRegA
import Derived.Laws.Bits64b
namespace Go.Proofs.Ytepkjnklapamjaa
open Go.RowKit

theorem byte_at (T m : Nat) (hT : T < 18446744073709551616) : bits BinOp.and IntKind.u64 ((T : Int) / 2 ^ (8 * m)) 255 = ((T / 256 ^ m % 256 : Nat) : Int) := by
  have h2 : (2 : Nat) ^ (8 * m) = 256 ^ m := by rw [Nat.pow_mul]
  have e : (T : Int) / 2 ^ (8 * m) = ((T / 256 ^ m : Nat) : Int) := by
    rw [← h2]
    push_cast
    rfl
  rw [e]
  have h := bits_and_u64_nat (T / 256 ^ m) 255 (Nat.lt_of_le_of_lt (Nat.div_le_self _ _) hT) (by omega)
  have a := Nat.and_two_pow_sub_one_eq_mod (T / 256 ^ m) 8
  exact h.trans (by rw [show (255 : Nat) = 2 ^ 8 - 1 from rfl, a])
theorem beL_take : ∀ n T j, j < n → (beL n T).take (j + 1) = (beL n T).take j ++ [255 - ((T / 256 ^ (n - 1 - j) % 256 : Nat) : Int)]
  | 0, _, _, h => by omega
  | n + 1, T, 0, _ => by simp [beL]
  | n + 1, T, j + 1, h => by
    rw [beL, List.take_succ_cons, List.take_succ_cons, beL_take n T j (by omega), List.cons_append]
    rw [show n + 1 - 1 - (j + 1) = n - 1 - j by omega]

set_option maxHeartbeats 4000000 in
set_option maxRecDepth 100000 in
theorem rbytes_any (w : World) (k : KA) (hk : k.ok) (hr : k.isRight = true) :
    Calls Try.prog 12 #[k.val] w fun e w' => ∃ ao n c, e = .returned (.tuple #[.slice ao n c, .int .i64 0]) ∧ Sl w' ao n c (keyL k.kv) ∧ Below w.heap.size w w' := by
  have B1' : Below w.heap.size w (w.alloc (Obj.cells #[.string k.row, .string k.fam, .string k.qual, .int .u64 k.time] 24)) := (Below.refl _ w).alloc (Nat.le_refl _) _
  have K1' : ∀ i, (w.alloc (Obj.cells #[.string k.row, .string k.fam, .string k.qual, .int .u64 k.time] 24)).cell? ⟨w.heap.size, i, none⟩ = #[Value.string k.row, .string k.fam, .string k.qual, .int .u64 k.time][i]? := fun i => World.cell?_alloc_at _ _ _ _ rfl
  have hk0 : k.kind = 0 := by unfold KA.kind; rw [hr]; rfl
  have hsz := of_decide_eq_true hr
  have hti := hk.time
  obtain ⟨N, hN⟩ : ∃ N, N = w.heap.size := ⟨_, rfl⟩
  unfold KA.val
  go_enter Try.func12, Try.ntmps12
  go_wp2_with fail
  refine (rright_any _ k).mono ?_
  obtain ⟨w1, hw1⟩ : ∃ W, W = (w.alloc (Obj.cells #[.string k.row, .string k.fam, .string k.qual, .int .u64 k.time] 24)) := ⟨_, rfl⟩
  have z1 : w1.heap.size = w.heap.size + 1 := by rw [hw1]; simp
  rw [← hw1] at B1' K1' ⊢
  have B1 : Below w.heap.size w w1 := B1'
  rw [← hN] at K1'
  have HK : Hid (∀ V, Below w1.heap.size w1 V → ∀ i, V.cell? ⟨N, i, none⟩ = #[Value.string k.row, .string k.fam, .string k.qual, .int .u64 k.time][i]?) := by
    intro V hV i
    rw [hV.cell (by show N < _; omega)]
    exact K1' i
  clear hw1 B1' K1'
  rintro e w2 ⟨rfl, C2⟩
  rw [hk0, ← hN]
  clear hk0 hN z1
  have s2 := C2.size
  have b2 := B1.size
  go_wp2_with fail
  obtain ⟨wd, hwd⟩ : ∃ wd, wd = w2.drew := ⟨_, rfl⟩
  have E0 : Below w1.heap.size w1 wd := by rw [hwd]; exact C2.drew
  have HS : Hid (∀ V, Below w1.heap.size w1 V → V.cell? ⟨N, 0, none⟩ = some (.string k.row) ∧ V.cell? ⟨N, 1, none⟩ = some (.string k.fam) ∧ V.cell? ⟨N, 2, none⟩ = some (.string k.qual)) := fun V hV => ⟨HK.out V hV 0, HK.out V hV 1, HK.out V hV 2⟩
  refine wp_region_noPanic ?_
  refine wp_region_held_drew (S := fun V => V.cell? ⟨N, 0, none⟩ = some (.string k.row) ∧ V.cell? ⟨N, 1, none⟩ = some (.string k.fam) ∧ V.cell? ⟨N, 2, none⟩ = some (.string k.qual)) (by kernel_rfl) (HS.out _ C2.drew) (fun hH => ?_)
  rw [← hwd] at hH ⊢
  clear hwd
  have z0 := E0.size
  refine hr_take 0 (some 9) (.pointer (some ⟨N, 0, none⟩)) rfl rfl (by kernel_rfl) (by kernel_rfl) (by kernel_rfl) rfl (fun W hW => by obtain ⟨h1, h2, h3⟩ := hW; go_simp) hH ?_
  simp only [Act.put, List.setIfInBounds_toArray, List.set_cons_zero, List.set_cons_succ]
  refine hr_take 1 (some 10) (.string k.row) rfl rfl (by kernel_rfl) (by kernel_rfl) (by kernel_rfl) rfl (fun W hW => by obtain ⟨h1, h2, h3⟩ := hW; go_simp) hH ?_
  simp only [Act.put, List.setIfInBounds_toArray, List.set_cons_zero, List.set_cons_succ]
  refine hr_take 3 (some 12) (.pointer (some ⟨N, 1, none⟩)) rfl rfl (by kernel_rfl) (by kernel_rfl) (by kernel_rfl) rfl (fun W hW => by obtain ⟨h1, h2, h3⟩ := hW; go_simp) hH ?_
  simp only [Act.put, List.setIfInBounds_toArray, List.set_cons_zero, List.set_cons_succ]
  refine hr_take 4 (some 13) (.string k.fam) rfl rfl (by kernel_rfl) (by kernel_rfl) (by kernel_rfl) rfl (fun W hW => by obtain ⟨h1, h2, h3⟩ := hW; go_simp) hH ?_
  simp only [Act.put, List.setIfInBounds_toArray, List.set_cons_zero, List.set_cons_succ]
  refine hr_take 6 (some 15) (.pointer (some ⟨N, 2, none⟩)) rfl rfl (by kernel_rfl) (by kernel_rfl) (by kernel_rfl) rfl (fun W hW => by obtain ⟨h1, h2, h3⟩ := hW; go_simp) hH ?_
  simp only [Act.put, List.setIfInBounds_toArray, List.set_cons_zero, List.set_cons_succ]
  refine hr_take 7 (some 16) (.string k.qual) rfl rfl (by kernel_rfl) (by kernel_rfl) (by kernel_rfl) rfl (fun W hW => by obtain ⟨h1, h2, h3⟩ := hW; go_simp) hH ?_
  simp only [Act.put, List.setIfInBounds_toArray, List.set_cons_zero, List.set_cons_succ]
  have l1 := (nm_len (sb k.row)).2
  have l2 := (nm_len (sb k.fam)).2
  have l3 := (nm_len (sb k.qual)).2
  rw [sb_len] at l1 l2 l3
  refine hr_call 2 (some 11) 27 #[.slice none 0 0, .string k.row] rfl rfl (by kernel_rfl) rfl (by go_simp) (fun v w' => w'.ownsRow wd.heap.size 5 1 v (0 + (nm (sb k.row)).length) (bv ([] ++ nm (sb k.row))) ∧ Below wd.heap.size wd w') ((rname_any wd wd.heap.size _ (0) ([]) k.row (World.ownsRow_nil _ _ _ _) (by omega) (by omega) (by omega)).mono (by
    rintro e w' ⟨v', rfl, O, B⟩
    exact ⟨_, rfl, O, B⟩)) ?_
  rintro v1 u1 ⟨O1, D1⟩
  have E1 : Below w1.heap.size w1 u1 := E0.trans (D1.mono z0)
  have y1 := D1.size
  have S1 := HS.out u1 E1
  refine ⟨S1, ?_⟩
  simp only [Act.put, List.setIfInBounds_toArray, List.set_cons_zero, List.set_cons_succ]
  refine hr_call 5 (some 14) 27 #[v1, .string k.fam] rfl rfl (by kernel_rfl) rfl (by go_simp) (fun v w' => w'.ownsRow wd.heap.size 5 1 v (0 + (nm (sb k.row)).length + (nm (sb k.fam)).length) (bv ([] ++ nm (sb k.row) ++ nm (sb k.fam))) ∧ Below wd.heap.size u1 w') ((rname_any u1 wd.heap.size _ (0 + (nm (sb k.row)).length) ([] ++ nm (sb k.row)) k.fam O1 (by omega) (by omega) (by omega)).mono (by
    rintro e w' ⟨v', rfl, O, B⟩
    exact ⟨_, rfl, O, B⟩)) ?_
  rintro v2 u2 ⟨O2, D2⟩
  have E2 : Below w1.heap.size w1 u2 := E1.trans (D2.mono z0)
  have y2 := D2.size
  have S2 := HS.out u2 E2
  refine ⟨S2, ?_⟩
  simp only [Act.put, List.setIfInBounds_toArray, List.set_cons_zero, List.set_cons_succ]
  refine hr_call 8 (some 17) 27 #[v2, .string k.qual] rfl rfl (by kernel_rfl) rfl (by go_simp) (fun v w' => w'.ownsRow wd.heap.size 5 1 v (0 + (nm (sb k.row)).length + (nm (sb k.fam)).length + (nm (sb k.qual)).length) (bv ([] ++ nm (sb k.row) ++ nm (sb k.fam) ++ nm (sb k.qual))) ∧ Below wd.heap.size u2 w') ((rname_any u2 wd.heap.size _ (0 + (nm (sb k.row)).length + (nm (sb k.fam)).length) ([] ++ nm (sb k.row) ++ nm (sb k.fam)) k.qual O2 (by omega) (by omega) (by omega)).mono (by
    rintro e w' ⟨v', rfl, O, B⟩
    exact ⟨_, rfl, O, B⟩)) ?_
  rintro v3 u3 ⟨O3, D3⟩
  have E3 : Below w1.heap.size w1 u3 := E2.trans (D3.mono z0)
  have y3 := D3.size
  have S3 := HS.out u3 E3
  refine ⟨S3, ?_⟩
  simp only [Act.put, List.setIfInBounds_toArray, List.set_cons_zero, List.set_cons_succ]
  refine hr_take 9 (some 4) (v3) rfl rfl (by kernel_rfl) (by kernel_rfl) (by kernel_rfl) rfl (fun W hW => by obtain ⟨h1, h2, h3⟩ := hW; go_simp) S3 ?_
  simp only [Act.put, List.setIfInBounds_toArray, List.set_cons_zero, List.set_cons_succ]
  refine wpAnyH_done (by kernel_rfl) ?_ _
  refine NoPanic.normal ?_
  go_wp2_with fail
  obtain ⟨pre, hpre⟩ : ∃ pre, pre = [] ++ nm (sb k.row) ++ nm (sb k.fam) ++ nm (sb k.qual) := ⟨_, rfl⟩
  obtain ⟨n3, hn3⟩ : ∃ n3, n3 = 0 + (nm (sb k.row)).length + (nm (sb k.fam)).length + (nm (sb k.qual)).length := ⟨_, rfl⟩
  rw [← hpre, ← hn3] at O3
  have hn3' : n3 ≤ 300 := by omega
  have HP : Hid (pre = [] ++ nm (sb k.row) ++ nm (sb k.fam) ++ nm (sb k.qual)) := hpre
  have x3 := E3.size
  have HQ : Hid (∀ V, Below wd.heap.size u3 V → V.cell? ⟨N, 3, none⟩ = some (.int .u64 k.time)) := fun V hV => by
    refine (hV.cell ?_).trans (HK.out u3 E3 3)
    exact Nat.lt_of_lt_of_le (World.block_lt_of_cell? _ _ (HK.out w1 (Below.refl _ _) 3)) z0
  clear hpre hn3 O1 O2 D1 D2 S1 S2 S3 hH HS E1 E2
  go_loopw [4, 5] (fun b i wr => ∃ j : Nat, j ≤ 8 ∧ i = .int .i64 (7 - (j : Int)) ∧ wr.ownsRow wd.heap.size 5 1 b (n3 + j) (bv (pre ++ (beL 8 k.time).take j)) ∧ Below wd.heap.size u3 wr) (fun _ i _ => (intOf i + 1).toNat)
  case atStart => exact ⟨0, by omega, rfl, by simpa using O3, Below.refl _ _⟩
  case round =>
    clear O3
    obtain ⟨j, hj, rfl, O, B⟩ := hrel
    have c3 := HQ.out wr B
    have bs := B.size
    by_cases l : j < 8
    · obtain ⟨m, hm⟩ : ∃ m, m = 7 - j := ⟨_, rfl⟩
      have e7 : (7 : Int) - (j : Int) = (m : Int) := by omega
      have m7 : m ≤ 7 := by omega
      have HM : Hid (m = 7 - j) := hm
      rw [e7]
      clear hm e7
      obtain ⟨x, hx⟩ : ∃ x, x = k.time / 256 ^ m % 256 := ⟨_, rfl⟩
      have hx8 : x < 256 := by rw [hx]; exact Nat.mod_lt _ (by omega)
      have hb : bits BinOp.and IntKind.u64 ((k.time : Int) / 2 ^ (8 * m)) 255 = (x : Int) := by
        rw [hx]; exact byte_at k.time m hti
      have hxm : (x : Int) % 256 = (x : Int) := by omega
      have hx5 : (x : Int) ≤ 255 := by omega
      have ht : Hid ((beL 8 k.time).take (j + 1) = (beL 8 k.time).take j ++ [255 - (x : Int)]) := by
        show _ = _
        rw [hx, beL_take 8 k.time j l, HM.out]
      clear hx
      go_wp2_with (at_builtin; refine wpList_app rfl (.tmp 22) (.tmp 32) rfl wd.heap.size _ _ _ rfl (O.alloc _) _ 1 1 [255 - (x : Int)] rfl (Sl.one wr _ (by omega)) (by omega) (by simp; omega) ?_; intro v4 w4 O4 C4; have D4 : Below wd.heap.size u3 w4 := (B.alloc (by omega) _).trans C4; clear C4 O)
      have O5 : w4.ownsRow wd.heap.size 5 1 v4 (n3 + (j + 1)) (bv (pre ++ (beL 8 k.time).take (j + 1))) := by
        rw [ht.out]
        simpa [Nat.add_assoc] using O4
      have em : (m : Int) - 1 = 7 - ((j + 1 : Nat) : Int) := by have := HM.out; omega
      go_roundw
      case rel => exact ⟨j + 1, by omega, by first | (rw [← em]; done) | go_num | (simp; omega), O5, D4⟩
      case measure => simp [intOf] <;> omega
    · obtain rfl : j = 8 := by omega
      have ht : (beL 8 k.time).take 8 = beL 8 k.time := List.take_of_length_le (by rw [beL_len]; omega)
      rw [ht] at O
      have hkey : pre ++ beL 8 k.time = keyL k.kv := by
        rw [HP.out]
        simp [keyL, KA.kv, List.append_assoc]
      rw [hkey] at O
      obtain ⟨go, gc, rfl, S4, -⟩ := Sl.own O (keyL_byte _ (KA.kv_byt hk))
      have BF : Below w.heap.size w wr := B1.trans ((E3.trans (B.mono z0)).mono b2)
      clear HP ht hkey O
      go_wp2
      go_ret2
      exact ⟨_, _, _, rfl, S4, BF⟩

set_option maxHeartbeats 2000000 in
set_option maxRecDepth 100000 in
theorem rbytes_bad (w : World) (k : KA) (hr : k.isRight = false) :
    Calls Try.prog 12 #[k.val] w fun e w' => e = .returned (.tuple #[.slice none 0 0, .int .i64 5]) ∧ Below w.heap.size w w' := by
  have B1 : Below w.heap.size w (w.alloc (Obj.cells #[.string k.row, .string k.fam, .string k.qual, .int .u64 k.time] 24)) := (Below.refl _ w).alloc (Nat.le_refl _) _
  have hk0 : k.kind = 5 := by unfold KA.kind; rw [hr]; rfl
  unfold KA.val
  go_enter Try.func12, Try.ntmps12
  go_wp2_with fail
  refine (rright_any _ k).mono ?_
  rintro e w2 ⟨rfl, C2⟩
  rw [hk0]
  clear hk0
  have B2 := B1.trans (C2.mono B1.size)
  go_wp2
  go_ret2
  exact ⟨rfl, B2⟩
end Go.Proofs.Ytepkjnklapamjaa

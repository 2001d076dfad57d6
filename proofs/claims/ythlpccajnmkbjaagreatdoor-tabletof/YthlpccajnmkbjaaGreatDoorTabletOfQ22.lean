/-
  Texts in one: CName, CBytes, RbItemT, RItems7, NMem, SMem, RMem7, RHex, RefForms, RForm.
-/
import Derived.Test.YthlpccajnmkbjaaGreatDoorTabletOfQFL
import Derived.Test.YthlpccajnmkbjaaGreatDoorTabletOfQ4
import Derived.Test.YthlpccajnmkbjaaGreatDoorTabletOfQ8
import Derived.Test.YthlpccajnmkbjaaGreatDoorTabletOfQ3
import Derived.Test.YthlpccajnmkbjaaGreatDoorTabletOfQ9
import Derived.Test.YthlpccajnmkbjaaGreatDoorTabletOfQ6
import Derived.Test.YthlpccajnmkbjaaGreatDoorTabletOfQ12
import Derived.Test.YthlpccajnmkbjaaGreatDoorTabletOfQ16
import Derived.BigQuiet
import Derived.Deep.RegionHeld3
namespace Go.Proofs.YthlpccajnmkbjaaGreatDoor
open Go.RowKit
set_option maxHeartbeats 2000000 in
set_option maxRecDepth 100000 in
theorem rname_any (w : World) (base : Nat) (v : Value) (n : Nat) (xs : List Int) (s : ByteArray) (hown : w.ownsRow base 5 1 v n (bv xs)) (hbase : base ≤ w.heap.size) (hn : n ≤ 1000000) (hs : s.size ≤ 1000000) :
    Calls Tryz.prog 141 #[v, .string s] w fun e w' =>
      ∃ v', e = .returned v' ∧ w'.ownsRow base 5 1 v' (n + (nm (sb s)).length) (bv (xs ++ nm (sb s))) ∧ Below base w w' := by
  go_enter Tryz.func141, Tryz.ntmps141
  go_wp2_with fail
  go_loopw [0, 5] (fun b i wr => ∃ k : Nat, k ≤ s.size ∧ i = .int .i64 k ∧ wr.ownsRow base 5 1 b (n + (esc ((sb s).take k)).length) (bv (xs ++ esc ((sb s).take k))) ∧ Below base w wr) (fun _ i _ => s.size - (intOf i).toNat)
  case atStart => exact ⟨0, by omega, rfl, by simpa [esc] using hown, Below.refl _ _⟩
  case round =>
    clear hown
    obtain ⟨k, hk, rfl, O, B⟩ := hrel
    have hsz := B.size
    have hl : (esc ((sb s).take k)).length ≤ 2 * k := by
      have h1 := esc_len ((sb s).take k)
      have h2 : ((sb s).take k).length ≤ k := by simp; omega
      omega
    by_cases l1 : k < s.size
    · have i1 : (k : Int) < (s.size : Int) := by omega
      obtain ⟨x, hx⟩ : ∃ x : Nat, x = s[k].toNat := ⟨_, rfl⟩
      have hx8 : x < 256 := by rw [hx]; exact s[k].toNat_lt
      have r1 : ∀ W : World, (Instr.index 9 (.string s) (.int .i64 k)).run Tryz.prog W = .ok (.int .u8 x) W := fun W => by
        rw [run_index_string W _ s _ _ Tryz.underlying9, dif_pos ⟨by omega, i1⟩, hx]
        rfl
      have ht : Hid (esc ((sb s).take (k + 1)) = esc ((sb s).take k) ++ (if (x : Int) = 0 then [0, 255] else [(x : Int)])) := by
        show _ = _
        rw [sb_take s k l1, esc_append, ← hx]
        simp [esc]
      clear hx
      obtain ⟨p, hp⟩ : ∃ p, p = esc ((sb s).take k) := ⟨_, rfl⟩
      rw [← hp] at O hl ht
      clear hp
      by_cases hz : x = 0
      · subst hz
        go_wp2_with (first
          | (at_builtin; refine wpList_app rfl (.tmp 12) (.tmp 16) rfl base _ _ _ rfl (O.alloc _) _ 1 1 [0] rfl (Sl.one wr _ (by omega)) (by omega) (by simp; omega) ?_; intro v2 w2 O2 C2; have D2 : Below base w w2 := (B.alloc (by omega) _).trans C2; have s2 := D2.size; clear C2 O)
          | (at_builtin; refine wpList_app rfl (.tmp 22) (.tmp 23) rfl base _ _ _ rfl (O2.alloc _) _ 1 1 [255] rfl (Sl.one w2 _ (by omega)) (by omega) (by simp; omega) ?_; intro v3 w3 O3 C3; have D3 : Below base w w3 := (D2.alloc (by omega) _).trans C3; clear C3 O2))
        have O4 : w3.ownsRow base 5 1 v3 (n + (esc ((sb s).take (k + 1))).length) (bv (xs ++ esc ((sb s).take (k + 1)))) := by
          rw [ht.out]
          simpa [Nat.add_assoc] using O3
        go_roundw
        case rel => exact ⟨k + 1, by omega, by go_num, O4, D3⟩
        case measure => simp [intOf]; omega
      · have f1 : ((x : Int) == 0) = false := by simp; omega
        have hz' : ¬ (x : Int) = 0 := by omega
        go_wp2_with (at_builtin; refine wpList_app rfl (.tmp 12) (.tmp 16) rfl base _ _ _ rfl (O.alloc _) _ 1 1 [(x : Int)] rfl (Sl.one wr _ (by omega)) (by omega) (by simp; omega) ?_; intro v2 w2 O2 C2; have D2 : Below base w w2 := (B.alloc (by omega) _).trans C2; clear C2 O)
        have O4 : w2.ownsRow base 5 1 v2 (n + (esc ((sb s).take (k + 1))).length) (bv (xs ++ esc ((sb s).take (k + 1)))) := by
          rw [ht.out, if_neg hz']
          simpa [Nat.add_assoc] using O2
        go_roundw
        case rel => exact ⟨k + 1, by omega, by go_num, O4, D2⟩
        case measure => simp [intOf]; omega
    · have i1 : (s.size : Int) ≤ (k : Int) := by omega
      have ht : (sb s).take k = sb s := List.take_of_length_le (by rw [sb_len]; omega)
      rw [ht] at O hl
      clear ht
      go_wp2_with (at_builtin; refine wpList_app rfl (.tmp 25) (.tmp 26) rfl base _ _ _ rfl (O.alloc _) _ 2 2 [0, 1] rfl (Sl.new wr [0, 1] (by intro y hy; simp at hy; omega) (by simp [maxLen])) (by omega) (by simp; omega) ?_; intro v2 w2 O2 C2; have D2 : Below base w w2 := (B.alloc (by omega) _).trans C2; clear C2 O)
      have O3 : w2.ownsRow base 5 1 v2 (n + (nm (sb s)).length) (bv (xs ++ nm (sb s))) := by
        rw [nm_esc]
        simpa [Nat.add_assoc] using O2
      clear O2
      go_ret
      exact ⟨v2, rfl, O3, D2⟩
open Go.RowKit
theorem own_bytes {w : World} {base : Nat} {n m cap : Nat} {ao : Option Addr} {xs : List Value} (h : w.ownsRow base 5 1 (.slice ao n cap) m xs) : ∀ a, ao = some a → ∃ cur : Array Value, w.heap[a.block]? = some (Obj.cells cur 5) := fun a ha => by
  rcases h.2 with ⟨e, _⟩ | ⟨g, cap', cur, e, _, hh, _⟩
  · simp only [Value.slice.injEq] at e
    rw [e.1] at ha
    simp at ha
  · simp only [Value.slice.injEq] at e
    rw [e.1] at ha
    obtain rfl := Option.some.inj ha
    exact ⟨cur, hh⟩
set_option maxHeartbeats 4000000 in
set_option maxRecDepth 100000 in
theorem rbytes_row (w : World) (k : KA) (hk : k.ok) (hr : k.isRight = true) :
    Calls Tryz.prog 98 #[k.val] w fun e w' => ∃ ao n c, e = .returned (.tuple #[.slice ao n c, .int .i64 0]) ∧ Sl w' ao n c (keyL k.kv) ∧ (∀ a, ao = some a → ∃ cur : Array Value, w'.heap[a.block]? = some (Obj.cells cur 5)) ∧ Below w.heap.size w w' := by
  have B1' : Below w.heap.size w (w.alloc (Obj.cells #[.string k.row, .string k.fam, .string k.qual, .int .u64 k.time] 39)) := (Below.refl _ w).alloc (Nat.le_refl _) _
  have K1' : ∀ i, (w.alloc (Obj.cells #[.string k.row, .string k.fam, .string k.qual, .int .u64 k.time] 39)).cell? ⟨w.heap.size, i, none⟩ = #[Value.string k.row, .string k.fam, .string k.qual, .int .u64 k.time][i]? := fun i => World.cell?_alloc_at _ _ _ _ rfl
  have hk0 : k.kind = 0 := by unfold KA.kind; rw [hr]; rfl
  have hsz := of_decide_eq_true hr
  have hti := hk.time
  obtain ⟨N, hN⟩ : ∃ N, N = w.heap.size := ⟨_, rfl⟩
  unfold KA.val
  go_enter Tryz.func98, Tryz.ntmps98
  go_wp2_with fail
  refine (rright_any _ k).mono ?_
  obtain ⟨w1, hw1⟩ : ∃ W, W = (w.alloc (Obj.cells #[.string k.row, .string k.fam, .string k.qual, .int .u64 k.time] 39)) := ⟨_, rfl⟩
  have z1 : w1.heap.size = w.heap.size + 1 := by rw [hw1]; simp
  rw [← hw1] at B1' K1' ⊢
  have B1 : Below w.heap.size w w1 := B1'
  rw [← hN] at K1'
  have HK : Hid (∀ V, Below w1.heap.size w1 V → ∀ i, V.cell? ⟨N, i, none⟩ = #[Value.string k.row, .string k.fam, .string k.qual, .int .u64 k.time][i]?) := by
    intro V hV i
    rw [hV.cell (by show N < _; omega)]
    exact K1' i
  clear hw1 B1' K1'
  rintro e w2 ⟨rfl, C2⟩
  rw [hk0, ← hN]
  clear hk0 hN z1
  have s2 := C2.size
  have b2 := B1.size
  go_wp2_with fail
  obtain ⟨wd, hwd⟩ : ∃ wd, wd = w2.drew := ⟨_, rfl⟩
  have E0 : Below w1.heap.size w1 wd := by rw [hwd]; exact C2.drew
  have HS : Hid (∀ V, Below w1.heap.size w1 V → V.cell? ⟨N, 0, none⟩ = some (.string k.row) ∧ V.cell? ⟨N, 1, none⟩ = some (.string k.fam) ∧ V.cell? ⟨N, 2, none⟩ = some (.string k.qual)) := fun V hV => ⟨HK.out V hV 0, HK.out V hV 1, HK.out V hV 2⟩
  refine wp_region_noPanic ?_
  refine wp_region_held_drew (S := fun V => V.cell? ⟨N, 0, none⟩ = some (.string k.row) ∧ V.cell? ⟨N, 1, none⟩ = some (.string k.fam) ∧ V.cell? ⟨N, 2, none⟩ = some (.string k.qual)) (by kernel_rfl) (HS.out _ C2.drew) (fun hH => ?_)
  rw [← hwd] at hH ⊢
  clear hwd
  have z0 := E0.size
  refine hr_take 0 (some 9) (.pointer (some ⟨N, 0, none⟩)) rfl rfl (by kernel_rfl) (by kernel_rfl) (by kernel_rfl) rfl (fun W hW => by obtain ⟨h1, h2, h3⟩ := hW; go_simp) hH ?_
  simp only [FL]
  refine hr_take 1 (some 10) (.string k.row) rfl rfl (by kernel_rfl) (by kernel_rfl) (by kernel_rfl) rfl (fun W hW => by obtain ⟨h1, h2, h3⟩ := hW; go_simp) hH ?_
  simp only [FL]
  refine hr_take 3 (some 12) (.pointer (some ⟨N, 1, none⟩)) rfl rfl (by kernel_rfl) (by kernel_rfl) (by kernel_rfl) rfl (fun W hW => by obtain ⟨h1, h2, h3⟩ := hW; go_simp) hH ?_
  simp only [FL]
  refine hr_take 4 (some 13) (.string k.fam) rfl rfl (by kernel_rfl) (by kernel_rfl) (by kernel_rfl) rfl (fun W hW => by obtain ⟨h1, h2, h3⟩ := hW; go_simp) hH ?_
  simp only [FL]
  refine hr_take 6 (some 15) (.pointer (some ⟨N, 2, none⟩)) rfl rfl (by kernel_rfl) (by kernel_rfl) (by kernel_rfl) rfl (fun W hW => by obtain ⟨h1, h2, h3⟩ := hW; go_simp) hH ?_
  simp only [FL]
  refine hr_take 7 (some 16) (.string k.qual) rfl rfl (by kernel_rfl) (by kernel_rfl) (by kernel_rfl) rfl (fun W hW => by obtain ⟨h1, h2, h3⟩ := hW; go_simp) hH ?_
  simp only [FL]
  have l1 := (nm_len (sb k.row)).2
  have l2 := (nm_len (sb k.fam)).2
  have l3 := (nm_len (sb k.qual)).2
  rw [sb_len] at l1 l2 l3
  refine hr_call 2 (some 11) 141 #[.slice none 0 0, .string k.row] rfl rfl (by kernel_rfl) rfl (by go_simp) (fun v w' => w'.ownsRow wd.heap.size 5 1 v (0 + (nm (sb k.row)).length) (bv ([] ++ nm (sb k.row))) ∧ Below wd.heap.size wd w') ((rname_any wd wd.heap.size _ (0) ([]) k.row (World.ownsRow_nil _ _ _ _) (by omega) (by omega) (by omega)).mono (by
    rintro e w' ⟨v', rfl, O, B⟩
    exact ⟨_, rfl, O, B⟩)) ?_
  rintro v1 u1 ⟨O1, D1⟩
  have E1 : Below w1.heap.size w1 u1 := E0.trans (D1.mono z0)
  have y1 := D1.size
  have S1 := HS.out u1 E1
  refine ⟨S1, ?_⟩
  simp only [FL]
  refine hr_call 5 (some 14) 141 #[v1, .string k.fam] rfl rfl (by kernel_rfl) rfl (by go_simp) (fun v w' => w'.ownsRow wd.heap.size 5 1 v (0 + (nm (sb k.row)).length + (nm (sb k.fam)).length) (bv ([] ++ nm (sb k.row) ++ nm (sb k.fam))) ∧ Below wd.heap.size u1 w') ((rname_any u1 wd.heap.size _ (0 + (nm (sb k.row)).length) ([] ++ nm (sb k.row)) k.fam O1 (by omega) (by omega) (by omega)).mono (by
    rintro e w' ⟨v', rfl, O, B⟩
    exact ⟨_, rfl, O, B⟩)) ?_
  rintro v2 u2 ⟨O2, D2⟩
  have E2 : Below w1.heap.size w1 u2 := E1.trans (D2.mono z0)
  have y2 := D2.size
  have S2 := HS.out u2 E2
  refine ⟨S2, ?_⟩
  simp only [FL]
  refine hr_call 8 (some 17) 141 #[v2, .string k.qual] rfl rfl (by kernel_rfl) rfl (by go_simp) (fun v w' => w'.ownsRow wd.heap.size 5 1 v (0 + (nm (sb k.row)).length + (nm (sb k.fam)).length + (nm (sb k.qual)).length) (bv ([] ++ nm (sb k.row) ++ nm (sb k.fam) ++ nm (sb k.qual))) ∧ Below wd.heap.size u2 w') ((rname_any u2 wd.heap.size _ (0 + (nm (sb k.row)).length + (nm (sb k.fam)).length) ([] ++ nm (sb k.row) ++ nm (sb k.fam)) k.qual O2 (by omega) (by omega) (by omega)).mono (by
    rintro e w' ⟨v', rfl, O, B⟩
    exact ⟨_, rfl, O, B⟩)) ?_
  rintro v3 u3 ⟨O3, D3⟩
  have E3 : Below w1.heap.size w1 u3 := E2.trans (D3.mono z0)
  have y3 := D3.size
  have S3 := HS.out u3 E3
  refine ⟨S3, ?_⟩
  simp only [FL]
  refine hr_take 9 (some 4) (v3) rfl rfl (by kernel_rfl) (by kernel_rfl) (by kernel_rfl) rfl (fun W hW => by obtain ⟨h1, h2, h3⟩ := hW; go_simp) S3 ?_
  simp only [FL]
  refine wpAnyH_done (by kernel_rfl) ?_ _
  refine NoPanic.normal ?_
  go_wp2_with fail
  obtain ⟨pre, hpre⟩ : ∃ pre, pre = [] ++ nm (sb k.row) ++ nm (sb k.fam) ++ nm (sb k.qual) := ⟨_, rfl⟩
  obtain ⟨n3, hn3⟩ : ∃ n3, n3 = 0 + (nm (sb k.row)).length + (nm (sb k.fam)).length + (nm (sb k.qual)).length := ⟨_, rfl⟩
  rw [← hpre, ← hn3] at O3
  have hn3' : n3 ≤ 300 := by omega
  have HP : Hid (pre = [] ++ nm (sb k.row) ++ nm (sb k.fam) ++ nm (sb k.qual)) := hpre
  have x3 := E3.size
  have HQ : Hid (∀ V, Below wd.heap.size u3 V → V.cell? ⟨N, 3, none⟩ = some (.int .u64 k.time)) := fun V hV => by
    refine (hV.cell ?_).trans (HK.out u3 E3 3)
    exact Nat.lt_of_lt_of_le (World.block_lt_of_cell? _ _ (HK.out w1 (Below.refl _ _) 3)) z0
  clear hpre hn3 O1 O2 D1 D2 S1 S2 S3 hH HS E1 E2
  go_loopw [4, 5] (fun b i wr => ∃ j : Nat, j ≤ 8 ∧ i = .int .i64 (7 - (j : Int)) ∧ wr.ownsRow wd.heap.size 5 1 b (n3 + j) (bv (pre ++ (beL 8 k.time).take j)) ∧ Below wd.heap.size u3 wr) (fun _ i _ => (intOf i + 1).toNat)
  case atStart => exact ⟨0, by omega, rfl, by simpa using O3, Below.refl _ _⟩
  case round =>
    clear O3
    obtain ⟨j, hj, rfl, O, B⟩ := hrel
    have c3 := HQ.out wr B
    have bs := B.size
    by_cases l : j < 8
    · obtain ⟨m, hm⟩ : ∃ m, m = 7 - j := ⟨_, rfl⟩
      have e7 : (7 : Int) - (j : Int) = (m : Int) := by omega
      have m7 : m ≤ 7 := by omega
      have HM : Hid (m = 7 - j) := hm
      rw [e7]
      clear hm e7
      obtain ⟨x, hx⟩ : ∃ x, x = k.time / 256 ^ m % 256 := ⟨_, rfl⟩
      have hx8 : x < 256 := by rw [hx]; exact Nat.mod_lt _ (by omega)
      have hb : bits BinOp.and IntKind.u64 ((k.time : Int) / 2 ^ (8 * m)) 255 = (x : Int) := by
        rw [hx]; exact byte_at k.time m hti
      have hxm : (x : Int) % 256 = (x : Int) := by omega
      have hx5 : (x : Int) ≤ 255 := by omega
      have ht : Hid ((beL 8 k.time).take (j + 1) = (beL 8 k.time).take j ++ [255 - (x : Int)]) := by
        show _ = _
        rw [hx, beL_take 8 k.time j l, HM.out]
      clear hx
      go_wp2_with (at_builtin; refine wpList_app rfl (.tmp 22) (.tmp 32) rfl wd.heap.size _ _ _ rfl (O.alloc _) _ 1 1 [255 - (x : Int)] rfl (Sl.one wr _ (by omega)) (by omega) (by simp; omega) ?_; intro v4 w4 O4 C4; have D4 : Below wd.heap.size u3 w4 := (B.alloc (by omega) _).trans C4; clear C4 O)
      have O5 : w4.ownsRow wd.heap.size 5 1 v4 (n3 + (j + 1)) (bv (pre ++ (beL 8 k.time).take (j + 1))) := by
        rw [ht.out]
        simpa [Nat.add_assoc] using O4
      have em : (m : Int) - 1 = 7 - ((j + 1 : Nat) : Int) := by have := HM.out; omega
      go_roundw
      case rel => exact ⟨j + 1, by omega, by first | (rw [← em]; done) | go_num | (simp; omega), O5, D4⟩
      case measure => simp [intOf] <;> omega
    · obtain rfl : j = 8 := by omega
      have ht : (beL 8 k.time).take 8 = beL 8 k.time := List.take_of_length_le (by rw [beL_len]; omega)
      rw [ht] at O
      have hkey : pre ++ beL 8 k.time = keyL k.kv := by
        rw [HP.out]
        simp [keyL, KA.kv, List.append_assoc]
      rw [hkey] at O
      obtain ⟨go, gc, rfl, S4, -⟩ := Sl.own O (keyL_byte _ (KA.kv_byt hk))
      have TY : Hid (∀ a, go = some a → ∃ cur : Array Value, wr.heap[a.block]? = some (Obj.cells cur 5)) := own_bytes O
      have BF : Below w.heap.size w wr := B1.trans ((E3.trans (B.mono z0)).mono b2)
      clear HP ht hkey O
      go_wp2
      go_ret2
      exact ⟨_, _, _, rfl, S4, TY.out, BF⟩
open Go.RowKit
theorem KpB.wrT {w w' : World} {p : Nat} {ty : TypeId} {cs : List Value} (h : Arr w p ty cs) (ht : ty ≠ 5) (k : Wr p w w') : KpB w w' := fun b cur hb => by
  refine (k.block b (Array.getElem?_eq_some_iff.1 hb).1 fun e => ?_).trans hb
  subst e
  have h2 : w.heap[b]? = _ := h
  rw [hb] at h2
  simp only [Option.some.injEq, Obj.cells.injEq] at h2
  exact ht h2.2.1.symm
set_option maxHeartbeats 2000000 in
set_option maxRecDepth 100000 in
theorem ritemT_any (w : World) (c : CA) (h : c.ok w) (hn : c.va.n ≤ 100000) (hr : c.key.isRight = true) :
    Calls Tryz.prog 58 #[c.val] w fun e w' => ∃ ko kn kc vo vn vc, e = .returned (.agg #[.slice ko kn kc, .slice vo vn vc]) ∧ SlT w' ⟨ko, kn, kc, itK c⟩ ∧ SlT w' ⟨vo, vn, vc, itV c.c⟩ ∧ Below w.heap.size w w' := by
  obtain ⟨W1, hW1⟩ : ∃ V, V = w.alloc (.cells #[.string c.row, .string c.fam, .string c.qual, .int .u64 c.time, .slice c.va.ao c.va.n c.va.cap, .bool c.gone] 69) := ⟨_, rfl⟩
  obtain ⟨W2, hW2⟩ : ∃ V, V = W1.alloc (.cells #[.slice none 0 0, .slice none 0 0] 101) := ⟨_, rfl⟩
  have B1 : Below w.heap.size w W1 := by rw [hW1]; exact (Below.refl _ _).alloc (Nat.le_refl _) _
  have C2 : Below W1.heap.size W1 W2 := by rw [hW2]; exact (Below.refl _ _).alloc (Nat.le_refl _) _
  have B2 := B1.trans (C2.mono B1.size)
  have s1 : W1.heap.size = w.heap.size + 1 := by rw [hW1]; exact Array.size_push ..
  have A1' : Arr W1 w.heap.size 69 (#[.string c.row, .string c.fam, .string c.qual, .int .u64 c.time, .slice c.va.ao c.va.n c.va.cap, .bool c.gone]).toList := by rw [hW1]; exact heap_alloc_new w _
  have A1 := arr_below A1' C2
  have A2 : Arr W2 (w.heap.size + 1) 101 [.slice none 0 0, .slice none 0 0] := by rw [hW2, ← s1]; exact heap_alloc_new W1 _
  clear A1'
  unfold CA.val
  have HK : Hid (itK c = keyL c.key.kv) := by show _ = _; unfold itK; rw [hr]; rfl
  have CB := rbytes_row W2 c.key ⟨h.row, h.fam, h.qual, h.time⟩ hr
  rw [show c.key.val = .agg #[.string c.row, .string c.fam, .string c.qual, .int .u64 c.time] from rfl] at CB
  go_enter Tryz.func58, Tryz.ntmps58
  go_wp2_with fail
  rw [← hW1, ← hW2]
  refine CB.mono ?_
  rintro e w3 ⟨ko, kn, kc, rfl, S3, TY3, C3⟩
  have T3 : SlT w3 ⟨ko, kn, kc, keyL c.key.kv⟩ := ⟨S3, TY3⟩
  clear TY3
  have B3 := B2.trans (C3.mono B2.size)
  have A3 := arr_below A1 C3
  have R3 := arr_below A2 C3
  have c4 : w3.cell? ⟨w.heap.size, 4, none⟩ = some (.slice c.va.ao c.va.n c.va.cap) := A3.cell 4
  have c5 : w3.cell? ⟨w.heap.size, 5, none⟩ = some (.bool c.gone) := A3.cell 5
  have r0 : w3.cell? ⟨w.heap.size + 1, 0, none⟩ = some (.slice none 0 0) := R3.cell 0
  have r1 : w3.cell? ⟨w.heap.size + 1, 1, none⟩ = some (.slice none 0 0) := R3.cell 1
  have f0 := R3.free 0
  have f1 := R3.free 1
  have lt := R3.lt
  clear CB
  cases hg : c.gone with
  | true =>
    have HV : Hid (itV c.c = [1]) := by show (if c.gone then _ else _) = _; rw [hg]; rfl
    rw [hg] at c5
    have S4 := Sl.one w3 1 (by omega)
    have KW : Wr (w.heap.size + 1) w3 (((w3.setCell ⟨w.heap.size + 1, 0, none⟩ (.slice ko kn kc)).setCell ⟨w.heap.size + 1, 1, none⟩ (.slice (some ⟨w3.heap.size, 0, none⟩) 1 1)).alloc (.cells #[.int .u8 1] 5)) := (((Wr.refl _ _).set 0 _).set 1 _).alloc _
    have BX : Below w.heap.size w (((w3.setCell ⟨w.heap.size + 1, 0, none⟩ (.slice ko kn kc)).setCell ⟨w.heap.size + 1, 1, none⟩ (.slice (some ⟨w3.heap.size, 0, none⟩) 1 1)).alloc (.cells #[.int .u8 1] 5)) := KW.below B3 B3.size (Nat.le_succ _)
    have SK := T3.kp (KpB.wrT R3 (by decide) KW)
    have TV : ∀ a, some (⟨w3.heap.size, 0, none⟩ : Addr) = some a → ∃ cur : Array Value, (((w3.setCell ⟨w.heap.size + 1, 0, none⟩ (.slice ko kn kc)).setCell ⟨w.heap.size + 1, 1, none⟩ (.slice (some ⟨w3.heap.size, 0, none⟩) 1 1)).alloc (.cells #[.int .u8 1] 5)).heap[a.block]? = some (Obj.cells cur 5) := fun a ha => by
      obtain rfl := Option.some.inj ha
      have := heap_alloc_new ((w3.setCell ⟨w.heap.size + 1, 0, none⟩ (.slice ko kn kc)).setCell ⟨w.heap.size + 1, 1, none⟩ (.slice (some ⟨w3.heap.size, 0, none⟩) 1 1)) (.cells #[.int .u8 1] 5)
      exact ⟨_, by simpa using this⟩
    have SV : Sl (((w3.setCell ⟨w.heap.size + 1, 0, none⟩ (.slice ko kn kc)).setCell ⟨w.heap.size + 1, 1, none⟩ (.slice (some ⟨w3.heap.size, 0, none⟩) 1 1)).alloc (.cells #[.int .u8 1] 5)) (some ⟨w3.heap.size, 0, none⟩) 1 1 [1] := by
      have := Sl.one ((w3.setCell ⟨w.heap.size + 1, 0, none⟩ (.slice ko kn kc)).setCell ⟨w.heap.size + 1, 1, none⟩ (.slice (some ⟨w3.heap.size, 0, none⟩) 1 1)) 1 (by omega)
      simpa using this
    clear S4
    go_wp2
    exact bodyPost_ret (v := .agg #[.slice ko kn kc, .slice (some ⟨w3.heap.size, 0, none⟩) 1 1]) (by simp [results, Tryz.results58, go_sem, r0, r1, lt]) rfl ⟨_, _, _, _, _, _, rfl, by rw [HK.out]; exact SK, by rw [HV.out]; exact ⟨SV, TV⟩, BX⟩
  | false =>
    have HV : Hid (itV c.c = 0 :: c.va.xs) := by show (if c.gone then _ else _) = _; rw [hg]; rfl
    rw [hg] at c5
    obtain ⟨W4, hW4⟩ : ∃ V, V = w3.alloc (.cells #[.int .u8 0] 5) := ⟨_, rfl⟩
    have C4 : Below w3.heap.size w3 W4 := by rw [hW4]; exact (Below.refl _ _).alloc (Nat.le_refl _) _
    have O4 : W4.ownsRow w3.heap.size 5 1 (.slice (some ⟨w3.heap.size, 0, none⟩) 1 1) 1 (bv [0]) := by rw [hW4]; exact ⟨rfl, .inr ⟨w3.heap.size, 1, #[.int .u8 0], rfl, Nat.le_refl _, heap_alloc_new w3 _, Nat.le_refl _, by decide, rfl, rfl⟩⟩
    have hva := h.va.below (B3.trans (C4.mono B3.size))
    have B4 := B3.trans (C4.mono B3.size)
    have c4' : (w3.alloc (.cells #[.int .u8 0] 5)).cell? ⟨w.heap.size, 4, none⟩ = some (.slice c.va.ao c.va.n c.va.cap) := by rw [← hW4]; exact (C4.cell (World.block_lt_of_cell? _ _ c4)).trans c4
    have s4 := C4.size
    have HBZ : Hid (Byt (0 :: c.va.xs)) := fun x hx => (List.mem_cons.1 hx).elim (fun e => by rw [e]; omega) (h.va.byte x)
    go_wp2_with (at_builtin; rw [← hW4]; refine wpList_app rfl (.tmp 17) (.tmp 19) rfl w3.heap.size _ _ _ rfl O4 _ _ _ _ rfl hva (by omega) s4 ?_; intro v5 w5 O5 D5; have O5' : w5.ownsRow w3.heap.size 5 1 v5 (1 + c.va.n) (bv (0 :: c.va.xs)) := O5; obtain ⟨vo, vc, rfl, S5, -⟩ := Sl.own O5' HBZ.out; have T5 : SlT w5 ⟨vo, 1 + c.va.n, vc, 0 :: c.va.xs⟩ := ⟨S5, own_bytes O5'⟩; have C5 := C4.trans D5; have B5 := B3.trans (C5.mono B3.size); have R5 := arr_below R3 C5; have r0 : w5.cell? ⟨w.heap.size + 1, 0, none⟩ = some (.slice none 0 0) := R5.cell 0; have r1 : w5.cell? ⟨w.heap.size + 1, 1, none⟩ = some (.slice none 0 0) := R5.cell 1; have f0 := R5.free 0; have f1 := R5.free 1; have lt := R5.lt; clear O5 O5' c4' O4)
    have KW : Wr (w.heap.size + 1) w5 ((w5.setCell ⟨w.heap.size + 1, 0, none⟩ (.slice ko kn kc)).setCell ⟨w.heap.size + 1, 1, none⟩ (.slice vo (1 + c.va.n) vc)) := ((Wr.refl _ _).set 0 _).set 1 _
    have BX := KW.below B5 B5.size (Nat.le_succ _)
    have SK := (T3.kp (KpB.below C5)).kp (KpB.wrT R5 (by decide) KW)
    have SV := T5.kp (KpB.wrT R5 (by decide) KW)
    exact bodyPost_ret (v := .agg #[.slice ko kn kc, .slice vo (1 + c.va.n) vc]) (by simp [results, Tryz.results58, go_sem, r0, r1]) rfl ⟨_, _, _, _, _, _, rfl, by rw [HK.out]; exact SK, by rw [HV.out]; exact SV, BX⟩
open Go.RowKit
theorem own_items {W : World} {base : Nat} {v : Value} {ps : List IP} (h : W.ownsRow base 101 2 v ps.length (flatI ps)) (sl : ∀ q ∈ ps, q.ok W) : ∃ ao cap, v = .slice ao ps.length cap ∧ IL W ao ps.length cap ps := by
  rcases h.2 with ⟨rfl, e⟩ | ⟨g, cap, cur, rfl, hg, hh, hle, hmx, hcs, htk⟩
  · obtain rfl : ps = [] := List.eq_nil_of_length_eq_zero e
    exact ⟨none, 0, rfl, IL.nothing W⟩
  · refine ⟨some ⟨g, 0, none⟩, cap, rfl, rfl, hle, hmx, fun h => by simp at h, fun a ha i hi => ?_, sl⟩
    obtain rfl := Option.some.inj ha
    obtain ⟨e1, e2⟩ := flatI_get ps i hi
    exact ⟨h.cells (g := g) rfl _ _ e1, h.cells (g := g) rfl _ _ e2⟩
theorem flatI_snoc (ps : List IP) (q : IP) : flatI (ps ++ [q]) = flatI ps ++ [q.k.val, q.v.val] := by simp [flatI]
open Go.RowKit
def Sp (v u : Value) : Prop := v.ownBlock = none ∨ v.ownBlock ≠ u.ownBlock
theorem Sp.symm {v u : Value} (h : Sp v u) : Sp u v := by
  unfold Sp at *
  rcases h with h | h
  · cases hu : u.ownBlock with
    | none => exact .inl rfl
    | some g => exact .inr (by rw [h]; simp)
  · exact .inr (Ne.symm h)
theorem Sp.nil (v : Value) : Sp (.slice none 0 0) v := .inl rfl
theorem run_append_at {P : Program} (w : World) (base : Nat) (t ty e : TypeId) (i : TypeInfo) (z : Value) (size bytes : Nat) (ht : P.underlying t = some (.slice e)) (hi : P.info? e = some i) (hz : i.zero = some z)
    (hsize : i.size = size) (hby : i.bytes = bytes) (hzs : z.cells.size = size) (hsz : 0 < size)
    (v : Value) (n : Nat) (xs : List Value) (hown : w.ownsRow base e size v n xs)
    (a : Addr) (m c : Nat) (news : List Value) (hl : news.length = m * size) (hnews : ∀ j u, news[j]? = some u → w.cell? (a.add j) = some u) (h1 : ∀ u ∈ news, u.oneCell' = true)
    (h63 : n + m ≤ maxLen) (hbytes : (n + m) * bytes ≤ 140737488355328) (hbase : base ≤ w.heap.size) :
    ∃ v' w', (Builtin.append_ #[t, t] ty #[v, .slice (some a) m c]).run P w = .ok v' w' ∧ w'.ownsRow base e size v' (n + m) (xs ++ news) ∧ w.grownBy w' v.ownBlock ∧
      ∀ g, v'.ownBlock = some g → v.ownBlock = some g ∨ w.heap.size ≤ g := by
  obtain ⟨v', w', hr, ho, hg, _⟩ := run_append_own (P := P) w base t ty e i z size bytes ht hi hz hsize hby hzs hsz v n xs hown a m c news hl hnews h1 h63 hbytes hbase
  refine ⟨v', w', hr, ho, hg, ?_⟩
  have hsmall : n + m ≤ 9223372036854775807 := by simp only [maxLen] at h63; omega
  subst hsize
  subst hby
  rcases hown.2 with ⟨rfl, rfl⟩ | ⟨g, cap, cur, rfl, hbg, hgc, hnc, hcm, hcs, htake⟩
  · have hown2 : w.ownsRow w.heap.size e i.size (.slice none 0 0) 0 xs := ⟨hown.1, .inl ⟨rfl, rfl⟩⟩
    obtain ⟨v2, w2, hr2, ho2, _, _⟩ := run_append_own (P := P) w w.heap.size t ty e i z i.size i.bytes ht hi hz rfl rfl hzs hsz _ 0 xs hown2 a m c news hl hnews h1 h63 hbytes (Nat.le_refl _)
    rw [hr] at hr2
    simp only [Result.ok.injEq] at hr2
    obtain ⟨rfl, rfl⟩ := hr2
    intro g hgv
    exact .inr (ho2.lt g hgv).1
  · by_cases hroom : n + m ≤ cap
    · have hfit : n * i.size + news.length ≤ cur.size := by rw [hl, hcs, ← Nat.add_mul]; exact Nat.mul_le_mul_right _ hroom
      have hr2 := run_append_room (P := P) w t ty e i ht hi g n cap cur hgc a m c news hl hnews h1 hroom hfit
      rw [hr] at hr2
      simp only [Result.ok.injEq] at hr2
      obtain ⟨rfl, rfl⟩ := hr2
      intro g' hg'
      exact .inl hg'
    · have holds : ∀ j u, xs[j]? = some u → w.cell? ((⟨g, 0, none⟩ : Addr).add j) = some u := hown.cells (g := g) rfl
      have hr2 := run_append_grow (P := P) w t ty e i z ht hi hz ⟨g, 0, none⟩ n cap xs hown.1 holds a m c news hl hnews (by omega) (by omega) (growslice_fits (by omega) hbytes)
      rw [hr] at hr2
      simp only [Result.ok.injEq] at hr2
      obtain ⟨rfl, rfl⟩ := hr2
      intro g' hg'
      simp only [Value.ownBlock, Option.some.injEq] at hg'
      exact .inr (by omega)
theorem row_kept {w w' : World} {base : Nat} {e : TypeId} {size : Nat} {v : Value} {n : Nat} {xs : List Value} (h : w.ownsRow base e size v n xs) (hb : ∀ g, v.ownBlock = some g → w'.heap[g]? = w.heap[g]?) : w'.ownsRow base e size v n xs := by
  refine ⟨h.1, ?_⟩
  rcases h.2 with c | ⟨g, cap, cur, rfl, a1, a2, a3, a4, a5, a6⟩
  · exact .inl c
  · exact .inr ⟨g, cap, cur, rfl, a1, (hb g rfl).trans a2, a3, a4, a5, a6⟩
theorem row_slice {w : World} {base : Nat} {e : TypeId} {size : Nat} {v : Value} {n : Nat} {xs : List Value} (h : w.ownsRow base e size v n xs) : ∃ a m c, v = .slice a m c := by
  rcases h.2 with ⟨rfl, _⟩ | ⟨g, cap, cur, rfl, _⟩
  · exact ⟨_, _, _, rfl⟩
  · exact ⟨_, _, _, rfl⟩
def Off (g : Nat) (k v c : Value) (b : Nat) : Prop := b ≠ g ∧ k.ownBlock ≠ some b ∧ v.ownBlock ≠ some b ∧ c.ownBlock ≠ some b
structure Chg (W W' : World) (g : Nat) (k v c k' v' c' : Value) : Prop where
  size : W.heap.size ≤ W'.heap.size
  off : ∀ b, b < W.heap.size → Off g k v c b → W'.heap[b]? = W.heap[b]? ∧ Off g k' v' c' b
theorem Chg.trans {W W' W'' : World} {g : Nat} {k v c k' v' c' k2 v2 c2 : Value} (h : Chg W W' g k v c k' v' c') (h' : Chg W' W'' g k' v' c' k2 v2 c2) : Chg W W'' g k v c k2 v2 c2 :=
  ⟨Nat.le_trans h.size h'.size, fun b hb ho => by
    obtain ⟨h1, h2⟩ := h.off b hb ho
    obtain ⟨h3, h4⟩ := h'.off b (Nat.lt_of_lt_of_le hb h.size) h2
    exact ⟨h3.trans h1, h4⟩⟩
theorem Chg.below {W W' : World} {g : Nat} {k v c : Value} (h : Below W.heap.size W W') : Chg W W' g k v c k v c := ⟨h.size, fun b hb ho => ⟨h.block b hb, ho⟩⟩
def Far (W : World) (m n g : Nat) (k v c : Value) (φ : World → Prop) : Prop :=
  ∃ A : Nat → Prop, (∀ b, A b → b < W.heap.size ∧ (b < m ∨ n ≤ b) ∧ Off g k v c b) ∧ ∀ W', (∀ b, A b → W'.heap[b]? = W.heap[b]?) → φ W'
theorem Far.chg {W W' : World} {m n g : Nat} {k v c k' v' c' : Value} {φ : World → Prop} (h : Far W m n g k v c φ) (hc : Chg W W' g k v c k' v' c') : Far W' m n g k' v' c' φ := by
  obtain ⟨A, h1, h2⟩ := h
  refine ⟨A, fun b hb => ?_, fun w hw => h2 w fun b hb => ?_⟩
  · obtain ⟨a1, a2, a3⟩ := h1 b hb
    exact ⟨Nat.lt_of_lt_of_le a1 hc.size, a2, (hc.off b a1 a3).2⟩
  · obtain ⟨a1, a2, a3⟩ := h1 b hb
    exact (hw b hb).trans (hc.off b a1 a3).1
theorem Far.end {W : World} {m n g : Nat} {k v c : Value} {φ : World → Prop} (h : Far W m n g k v c φ) {w : World} (hw : ∀ b, (b < m ∨ n ≤ b) → b < W.heap.size → w.heap[b]? = W.heap[b]?) : φ w := by
  obtain ⟨A, h1, h2⟩ := h
  exact h2 w fun b hb => hw b (h1 b hb).2.1 (h1 b hb).1
def On (w' : World) (m n : Nat) (φ : World → Prop) : Prop := ∀ W, (∀ b, (b < m ∨ n ≤ b) → b < w'.heap.size → W.heap[b]? = w'.heap[b]?) → φ W
theorem On.now {w' : World} {m n : Nat} {φ : World → Prop} (h : On w' m n φ) : φ w' := h w' fun _ _ _ => rfl
theorem On.far {W W' : World} {m n g : Nat} {k v c : Value} {φ : World → Prop} (h : On W' m W.heap.size φ) (hn : n ≤ W.heap.size) (ho : ∀ b, b < m → Off g k v c b) (hg : ∀ b, W.heap.size ≤ b → Off g k v c b) : Far W' m n g k v c φ :=
  ⟨fun b => (b < m ∨ W.heap.size ≤ b) ∧ b < W'.heap.size, fun b hb' => ⟨hb'.2, by omega, by
    rcases hb'.1 with h1 | h1
    · exact ho b h1
    · exact hg b h1⟩, fun w hw => h w fun b h1 h2 => hw b ⟨h1, h2⟩⟩
structure NB (W : World) (base g : Nat) (t pe : TypeId) (L : Int) (k v c : Value) (ks vs us : List Value) : Prop where
  arr : Arr W g t [.int .i64 L, k, v, c]
  bg : base ≤ g
  ok : W.ownsRow base 40 1 k ks.length ks
  ov : W.ownsRow base 40 1 v vs.length vs
  oc : W.ownsRow base pe 1 c us.length us
  s1 : Sp k v
  s2 : Sp k c
  s3 : Sp v c
section
variable {W W' : World} {base g : Nat} {t pe : TypeId} {L : Int} {k v c : Value} {ks vs us : List Value}
theorem NB.le (h : NB W base g t pe L k v c ks vs us) : base ≤ W.heap.size := Nat.le_trans h.bg (Nat.le_of_lt h.arr.lt)
theorem NB.below (h : NB W base g t pe L k v c ks vs us) (hb : Below W.heap.size W W') : NB W' base g t pe L k v c ks vs us :=
  ⟨arr_below h.arr hb, h.bg, own_below h.ok hb, own_below h.ov hb, own_below h.oc hb, h.s1, h.s2, h.s3⟩
theorem NB.new (W : World) (t pe : TypeId) (L : Int) : NB (W.alloc (.cells #[.int .i64 L, .slice none 0 0, .slice none 0 0, .slice none 0 0] t)) W.heap.size W.heap.size t pe L (.slice none 0 0) (.slice none 0 0) (.slice none 0 0) [] [] [] :=
  ⟨heap_alloc_new W _, Nat.le_refl _, World.ownsRow_nil _ _ _ _, World.ownsRow_nil _ _ _ _, World.ownsRow_nil _ _ _ _, Sp.nil _, Sp.nil _, Sp.nil _⟩
theorem NB.offLow (h : NB W base g t pe L k v c ks vs us) {b : Nat} (hb : b < base) : Off g k v c b := by
  have h1 := h.bg
  refine ⟨by omega, fun e => ?_, fun e => ?_, fun e => ?_⟩
  · have := (h.ok.lt b e).1; omega
  · have := (h.ov.lt b e).1; omega
  · have := (h.oc.lt b e).1; omega
theorem NB.offNew (h : NB W base g t pe L k v c ks vs us) {b : Nat} (hb : W.heap.size ≤ b) : Off g k v c b := by
  have h1 := h.arr.lt
  refine ⟨by omega, fun e => ?_, fun e => ?_, fun e => ?_⟩
  · have := (h.ok.lt b e).2; omega
  · have := (h.ov.lt b e).2; omega
  · have := (h.oc.lt b e).2; omega
theorem NB.level (h : NB W base g t pe L k v c ks vs us) (hk : t ≠ 40) (hp : t ≠ pe) (M : Int) : NB (W.setCell ⟨g, 0, none⟩ (.int .i64 M)) base g t pe M k v c ks vs us ∧ Chg W (W.setCell ⟨g, 0, none⟩ (.int .i64 M)) g k v c k v c ∧ Below base W (W.setCell ⟨g, 0, none⟩ (.int .i64 M)) := by
  have hg : W.grownBy (W.setCell ⟨g, 0, none⟩ (.int .i64 M)) (some g) := grown_set (a := W) (b := W) ⟨rfl, rfl, rfl, Nat.le_refl _, fun _ _ _ => rfl⟩ 0 _
  refine ⟨⟨h.arr.set 0 _, h.bg, h.ok.kept hg (.inr (arr_not_row h.arr hk h.ok)), h.ov.kept hg (.inr (arr_not_row h.arr hk h.ov)), h.oc.kept hg (.inr (arr_not_row h.arr hp h.oc)), h.s1, h.s2, h.s3⟩, ⟨hg.size, fun b hb ho => ⟨hg.block b hb (by simpa using ho.1), ho⟩⟩, (Below.refl _ _).setCell h.bg _⟩
end
theorem Sp.grown {W : World} {base : Nat} {e : TypeId} {v v' u : Value} {m : Nat} {ys : List Value} (h : Sp v u) (hu : W.ownsRow base e 1 u m ys) (hv : ∀ g, v'.ownBlock = some g → v.ownBlock = some g ∨ W.heap.size ≤ g) : Sp v' u := by
  unfold Sp at *
  cases hv' : v'.ownBlock with
  | none => exact .inl rfl
  | some g =>
    refine .inr fun e => ?_
    rcases hv g hv' with h1 | h1
    · rcases h with h | h
      · rw [h] at h1; simp at h1
      · exact h (h1.trans e)
    · have := (hu.lt g e.symm).2
      omega
theorem Sp.keeps {W W' : World} {base : Nat} {e : TypeId} {v u : Value} {m : Nat} {ys : List Value} (h : Sp v u) (hu : W.ownsRow base e 1 u m ys) (hg : W.grownBy W' v.ownBlock) : W'.ownsRow base e 1 u m ys :=
  row_kept hu fun g hgu => hg.block g (hu.lt g hgu).2 (fun e => by
    unfold Sp at h
    rcases h with h | h
    · rw [h] at e; simp at e
    · exact h (by rw [← e, hgu]))
structure NApp (W : World) (base g : Nat) (t pe : TypeId) (L : Int) (k v c : Value) (W1 W2 : World) (k' v' c' : Value) (ks vs us : List Value) : Prop where
  arr : Arr W1 g t [.int .i64 L, k, v, c]
  nb : NB W2 base g t pe L k' v' c' ks vs us
  chg : Chg W W2 g k v c k' v' c'
  below : Below base W W2
section
variable {W : World} {base g : Nat} {t pe : TypeId} {L : Int} {k v c : Value} {ks vs us : List Value}
theorem NB.appK (h : NB W base g t pe L k v c ks vs us) (hk : t ≠ 40) (hp : t ≠ pe) {ty : TypeId} {bo : Addr} {cap : Nat} {u : Value} (hx : VL W (some bo) 1 cap [u]) (hu : u.oneCell' = true) (hn : ks.length ≤ 1000000) :
    ∃ k' W1, (Builtin.append_ #[90, 90] ty #[k, .slice (some bo) 1 cap]).run Tryz.prog W = .ok k' W1 ∧ NApp W base g t pe L k v c W1 (W1.setCell ⟨g, 1, none⟩ k') k' v c (ks ++ [u]) vs us := by
  obtain ⟨i0, hi, hz0, hz1, hz2⟩ := info_parts kinfo
  obtain ⟨k', W1, hr, ho, hg, ha⟩ := run_append_at (P := Tryz.prog) W base 90 ty 40 i0 (.slice none 0 0) 1 24 Tryz.underlying90 hi hz0 hz1 hz2 rfl (by decide) k ks.length ks h.ok bo 1 cap [u] rfl (hx.cells bo rfl) (by intro y hy; rw [List.mem_singleton.1 hy]; exact hu) (by simp [maxLen]; omega) (by omega) h.le
  obtain ⟨a1, a2, a3, a4⟩ := arr_put h.arr hk h.ok h.le h.bg ho hg 1
  have hs : W1.grownBy (W1.setCell ⟨g, 1, none⟩ k') (some g) := grown_set (a := W1) (b := W1) ⟨rfl, rfl, rfl, Nat.le_refl _, fun _ _ _ => rfl⟩ 1 _
  have ov1 := h.s1.keeps h.ov hg
  have oc1 := h.s2.keeps h.oc hg
  refine ⟨k', W1, hr, a1, ⟨a2, h.bg, by simpa using a3, ov1.kept hs (.inr (arr_not_row a1 hk ov1)), oc1.kept hs (.inr (arr_not_row a1 hp oc1)), h.s1.grown h.ov ha, h.s2.grown h.oc ha, h.s3⟩, ⟨Nat.le_trans hg.size hs.size, fun b hb hf => ⟨?_, hf.1, fun e => ?_, hf.2.2⟩⟩, a4⟩
  · rw [hs.block b (Nat.lt_of_lt_of_le hb hg.size) (by simpa using hf.1)]
    exact hg.block b hb (fun e => hf.2.1 e.symm)
  · rcases ha b e with h1 | h1
    · exact hf.2.1 h1
    · omega
theorem NB.appV (h : NB W base g t pe L k v c ks vs us) (hk : t ≠ 40) (hp : t ≠ pe) {ty : TypeId} {bo : Addr} {cap : Nat} {u : Value} (hx : VL W (some bo) 1 cap [u]) (hu : u.oneCell' = true) (hn : vs.length ≤ 1000000) :
    ∃ v' W1, (Builtin.append_ #[90, 90] ty #[v, .slice (some bo) 1 cap]).run Tryz.prog W = .ok v' W1 ∧ NApp W base g t pe L k v c W1 (W1.setCell ⟨g, 2, none⟩ v') k v' c ks (vs ++ [u]) us := by
  obtain ⟨i0, hi, hz0, hz1, hz2⟩ := info_parts kinfo
  obtain ⟨v', W1, hr, ho, hg, ha⟩ := run_append_at (P := Tryz.prog) W base 90 ty 40 i0 (.slice none 0 0) 1 24 Tryz.underlying90 hi hz0 hz1 hz2 rfl (by decide) v vs.length vs h.ov bo 1 cap [u] rfl (hx.cells bo rfl) (by intro y hy; rw [List.mem_singleton.1 hy]; exact hu) (by simp [maxLen]; omega) (by omega) h.le
  obtain ⟨a1, a2, a3, a4⟩ := arr_put h.arr hk h.ov h.le h.bg ho hg 2
  have hs : W1.grownBy (W1.setCell ⟨g, 2, none⟩ v') (some g) := grown_set (a := W1) (b := W1) ⟨rfl, rfl, rfl, Nat.le_refl _, fun _ _ _ => rfl⟩ 2 _
  have ok1 := h.s1.symm.keeps h.ok hg
  have oc1 := h.s3.keeps h.oc hg
  refine ⟨v', W1, hr, a1, ⟨a2, h.bg, ok1.kept hs (.inr (arr_not_row a1 hk ok1)), by simpa using a3, oc1.kept hs (.inr (arr_not_row a1 hp oc1)), (h.s1.symm.grown h.ok ha).symm, h.s2, h.s3.grown h.oc ha⟩, ⟨Nat.le_trans hg.size hs.size, fun b hb hf => ⟨?_, hf.1, hf.2.1, fun e => ?_, hf.2.2.2⟩⟩, a4⟩
  · rw [hs.block b (Nat.lt_of_lt_of_le hb hg.size) (by simpa using hf.1)]
    exact hg.block b hb (fun e => hf.2.2.1 e.symm)
  · rcases ha b e with h1 | h1
    · exact hf.2.2.1 h1
    · omega
theorem NB.appC (h : NB W base g t pe L k v c ks vs us) (hk : t ≠ 40) (hp : t ≠ pe) {ps : TypeId} (hps : Tryz.prog.underlying ps = some (.slice pe)) (hinfo : (Tryz.prog.info? pe).map (fun i => (i.zero, i.size, i.bytes)) = some (some (.pointer none), 1, 8)) {ty : TypeId} {bo : Addr} {cap : Nat} {u : Value} (hx : VL W (some bo) 1 cap [u]) (hu : u.oneCell' = true) (hn : us.length ≤ 1000000) :
    ∃ c' W1, (Builtin.append_ #[ps, ps] ty #[c, .slice (some bo) 1 cap]).run Tryz.prog W = .ok c' W1 ∧ NApp W base g t pe L k v c W1 (W1.setCell ⟨g, 3, none⟩ c') k v c' ks vs (us ++ [u]) := by
  obtain ⟨i0, hi, hz0, hz1, hz2⟩ := info_parts hinfo
  obtain ⟨c', W1, hr, ho, hg, ha⟩ := run_append_at (P := Tryz.prog) W base ps ty pe i0 (.pointer none) 1 8 hps hi hz0 hz1 hz2 rfl (by decide) c us.length us h.oc bo 1 cap [u] rfl (hx.cells bo rfl) (by intro y hy; rw [List.mem_singleton.1 hy]; exact hu) (by simp [maxLen]; omega) (by omega) h.le
  obtain ⟨a1, a2, a3, a4⟩ := arr_put h.arr hp h.oc h.le h.bg ho hg 3
  have hs : W1.grownBy (W1.setCell ⟨g, 3, none⟩ c') (some g) := grown_set (a := W1) (b := W1) ⟨rfl, rfl, rfl, Nat.le_refl _, fun _ _ _ => rfl⟩ 3 _
  have ok1 := h.s2.symm.keeps h.ok hg
  have ov1 := h.s3.symm.keeps h.ov hg
  refine ⟨c', W1, hr, a1, ⟨a2, h.bg, ok1.kept hs (.inr (arr_not_row a1 hk ok1)), ov1.kept hs (.inr (arr_not_row a1 hk ov1)), by simpa using a3, h.s1, (h.s2.symm.grown h.ok ha).symm, (h.s3.symm.grown h.ov ha).symm⟩, ⟨Nat.le_trans hg.size hs.size, fun b hb hf => ⟨?_, hf.1, hf.2.1, hf.2.2.1, fun e => ?_⟩⟩, a4⟩
  · rw [hs.block b (Nat.lt_of_lt_of_le hb hg.size) (by simpa using hf.1)]
    exact hg.block b hb (fun e => hf.2.2.2 e.symm)
  · rcases ha b e with h1 | h1
    · exact hf.2.2.2 h1
    · omega
theorem NB.on {w : World} (h : NB W base g t pe L k v c ks vs us) (hw : ∀ b, base ≤ b → b < W.heap.size → w.heap[b]? = W.heap[b]?) : NB w base g t pe L k v c ks vs us :=
  ⟨(hw g h.bg h.arr.lt).trans h.arr, h.bg, row_kept h.ok fun b hb => hw b (h.ok.lt b hb).1 (h.ok.lt b hb).2, row_kept h.ov fun b hb => hw b (h.ov.lt b hb).1 (h.ov.lt b hb).2, row_kept h.oc fun b hb => hw b (h.oc.lt b hb).1 (h.oc.lt b hb).2, h.s1, h.s2, h.s3⟩
theorem NB.tree {W : World} {L : Nat} {ks vs : List Part} {l : List It} {segs : List (List It)} {xs : List It} (h : NB W base g t pe L k v c (ks.map Part.val) (vs.map Part.val) us) (hks : ∀ q ∈ ks, Sl W q.ao q.n q.cap q.xs) (hvs : ∀ q ∈ vs, Sl W q.ao q.n q.cap q.xs)
    (hs : Shp lev l L segs xs) (ek : ks.map Part.xs = xs.map It.k) (ev : vs.map Part.xs = xs.map It.v) (kid : Kids W us segs) : T W (.pointer (some ⟨g, 0, none⟩)) l := by
  obtain ⟨ko, kc, rfl, K, -⟩ := VL.own h.ok
  obtain ⟨vo, vc, rfl, V, -⟩ := VL.own h.ov
  obtain ⟨co, cc, rfl, C, -⟩ := VL.own h.oc
  exact T.make h.arr ⟨K, hks⟩ ⟨V, hvs⟩ C hs ek ev kid
end
open Go.RowKit
structure Prt (lv : List Int → Nat) (L : Nat) (l : List It) (i fr : Nat) (segs : List (List It)) (xs : List It) : Prop where
  le : fr ≤ i
  hi : i ≤ l.length
  len : segs.length = xs.length
  eq : l.take fr = wvA segs xs
  top : ∀ x ∈ xs, lv x.k = L
  low : ∀ s ∈ segs, ∀ x ∈ s, lv x.k < L
  cur : ∀ j (h : j < l.length), fr ≤ j → j < i → lv l[j].k < L
section
variable {lv : List Int → Nat} {L : Nat} {l : List It} {i fr : Nat} {segs : List (List It)} {xs : List It}
theorem Prt.start (lv : List Int → Nat) (L : Nat) (l : List It) : Prt lv L l 0 0 [] [] :=
  ⟨Nat.le_refl _, Nat.zero_le _, rfl, rfl, fun x h => by simp at h, fun s h => by simp at h, fun j h _ h' => by omega⟩
theorem wvA_many : ∀ (P : List (List It)) (xs : List It), P.length = xs.length → P.length ≤ (wvA P xs).length
  | [], _, _ => by simp
  | _ :: _, [], h => by simp at h
  | s :: P, x :: xs, h => by
    have := wvA_many P xs (by simpa using h)
    simp only [wvA, List.length_append, List.length_cons]
    omega
theorem Prt.many (h : Prt lv L l i fr segs xs) : segs.length ≤ i := by
  have h1 := wvA_many segs xs h.len
  have h2 := h.le
  rw [← h.eq, List.length_take] at h1
  omega
theorem Prt.skip (h : Prt lv L l i fr segs xs) (hi : i < l.length) (hl : lv l[i].k < L) : Prt lv L l (i + 1) fr segs xs :=
  ⟨by have := h.le; omega, hi, h.len, h.eq, h.top, h.low, fun j hj h1 h2 => by
    by_cases hji : j = i
    · subst hji; exact hl
    · exact h.cur j hj h1 (by omega)⟩
theorem Prt.seg (h : Prt lv L l i fr segs xs) : ∀ x ∈ (l.take i).drop fr, lv x.k < L := fun x hx => by
  obtain ⟨j, hj, rfl⟩ := List.mem_iff_getElem.1 hx
  simp only [List.length_drop, List.length_take] at hj
  rw [List.getElem_drop, List.getElem_take]
  exact h.cur (fr + j) (by omega) (by omega) (by omega)
theorem Prt.take (h : Prt lv L l i fr segs xs) (hi : i < l.length) (hl : lv l[i].k = L) : Prt lv L l (i + 1) (i + 1) (segs ++ [(l.take i).drop fr]) (xs ++ [l[i]]) := by
  refine ⟨Nat.le_refl _, hi, by simp [h.len], ?_, fun x hx => ?_, fun s hs x hx => ?_, fun j hj h1 h2 => by omega⟩
  · rw [wvA_app _ _ _ _ h.len, ← h.eq]
    simp only [wvA]
    rw [List.take_succ_eq_append_getElem hi, ← List.append_assoc]
    congr 1
    have hle := h.le
    have : l.take fr = (l.take i).take fr := by rw [List.take_take, Nat.min_eq_left hle]
    rw [this, List.take_append_drop]
  · rcases List.mem_append.1 hx with hx | hx
    · exact h.top x hx
    · rw [List.mem_singleton.1 hx]; exact hl
  · rcases List.mem_append.1 hs with hs | hs
    · exact h.low s hs x hx
    · rw [List.mem_singleton.1 hs] at hx
      exact h.seg x hx
theorem Prt.pos (h : Prt lv L l l.length fr segs xs) (ha : ∃ x ∈ l, lv x.k = L) : 0 < fr := by
  cases fr with
  | succ n => omega
  | zero =>
    exfalso
    obtain ⟨x, hx, hxl⟩ := ha
    obtain ⟨j, hj, rfl⟩ := List.mem_iff_getElem.1 hx
    have := h.cur j hj (Nat.zero_le _) hj
    omega
theorem Prt.done (h : Prt lv L l l.length fr segs xs) (ha : ∃ x ∈ l, lv x.k = L) : Shp lv l L (segs ++ [l.drop fr]) xs := by
  have hlast : ∀ x ∈ l.drop fr, lv x.k < L := by
    have := h.seg
    rwa [List.take_length] at this
  have heq : l = weave (segs ++ [l.drop fr]) xs := by
    have := weave_app segs [l.drop fr] xs [] h.len
    rw [List.append_nil] at this
    rw [this, ← h.eq]
    simp only [weave]
    rw [List.take_append_drop]
  refine ⟨by simp [h.len], ?_, heq, h.top, fun s hs x hx => ?_⟩
  · obtain ⟨x, hx, hxl⟩ := ha
    cases xs with
    | cons y ys => simp
    | nil =>
      exfalso
      have hs0 : segs = [] := List.eq_nil_of_length_eq_zero h.len
      subst hs0
      have h0 := h.eq
      simp only [wvA] at h0
      rw [← List.take_append_drop fr l, h0, List.nil_append] at hx
      have := hlast x hx
      omega
  · rcases List.mem_append.1 hs with hs | hs
    · exact h.low s hs x hx
    · rw [List.mem_singleton.1 hs] at hx
      exact hlast x hx
end
theorem Sl.on {w w' : World} {ao : Option Addr} {n cap : Nat} {xs : List Int} (h : Sl w ao n cap xs) (hb : ∀ b, b < w.heap.size → w'.heap[b]? = w.heap[b]?) : Sl w' ao n cap xs := by
  refine ⟨h.len, h.le, h.mx, h.nil, fun a ha i hi => ?_, h.byte⟩
  have hc := h.cell a ha i hi
  rw [← hc]
  exact World.cell?_of_block (hb _ (World.block_lt_of_cell? w _ hc))
structure KidsF (W : World) (m n g : Nat) (k v c : Value) (us : List Value) (segs : List (List It)) : Prop where
  len : us.length = segs.length
  kid : ∀ (i : Nat) (s : List It), segs[i]? = some s → ∃ u, us[i]? = some u ∧ Far W m n g k v c fun w => T w u s
section
variable {W W' : World} {m n g : Nat} {k v c k' v' c' : Value} {us : List Value} {segs : List (List It)}
theorem KidsF.nil (W : World) (m n g : Nat) (k v c : Value) : KidsF W m n g k v c [] [] := ⟨rfl, fun i s h => by simp at h⟩
theorem KidsF.chg (h : KidsF W m n g k v c us segs) (hc : Chg W W' g k v c k' v' c') : KidsF W' m n g k' v' c' us segs :=
  ⟨h.len, fun i s hi => by obtain ⟨u, hu, hf⟩ := h.kid i s hi; exact ⟨u, hu, hf.chg hc⟩⟩
theorem KidsF.app (h : KidsF W m n g k v c us segs) {u : Value} {s : List It} (hu : Far W m n g k v c fun w => T w u s) : KidsF W m n g k v c (us ++ [u]) (segs ++ [s]) := by
  refine ⟨by simp [h.len], fun i t hi => ?_⟩
  have hl := h.len
  by_cases hlt : i < segs.length
  · rw [List.getElem?_append_left hlt] at hi
    rw [List.getElem?_append_left (by omega)]
    exact h.kid i t hi
  · rw [List.getElem?_append_right (by omega)] at hi
    rw [List.getElem?_append_right (by omega)]
    cases hj : i - segs.length with
    | zero =>
      rw [hj] at hi
      rw [hl, hj]
      simp only [List.getElem?_cons_zero, Option.some.injEq] at hi ⊢
      subst hi
      exact ⟨u, rfl, hu⟩
    | succ j => rw [hj] at hi; simp at hi
theorem KidsF.end (h : KidsF W m n g k v c us segs) {w : World} (hw : ∀ b, (b < m ∨ n ≤ b) → b < W.heap.size → w.heap[b]? = W.heap[b]?) : Kids w us segs :=
  ⟨h.len, fun i s hi => by obtain ⟨u, hu, hf⟩ := h.kid i s hi; exact ⟨u, hu, hf.end hw⟩⟩
end
def OnT (m : Nat) (w : World) (l : List It) (e : Ending) (w' : World) : Prop := ∃ v, e = .returned (.pointer v) ∧ On w' m w.heap.size (fun W => T W (.pointer v) l) ∧ Below w.heap.size w w'
theorem OnT.nil (m : Nat) (w : World) : OnT m w [] (.returned (.pointer none)) w := ⟨none, rfl, fun W _ => T.nil W, Below.refl _ _⟩
theorem NB.onT {W w0 : World} {base g : Nat} {t pe : TypeId} {k v c : Value} {us : List Value} {L : Nat} {ks vs : List Part} {l : List It} {segs : List (List It)} {xs : List It} (h : NB W base g t pe L k v c (ks.map Part.val) (vs.map Part.val) us)
    (hm : w0.heap.size ≤ W.heap.size) (h0 : ∀ b, b < w0.heap.size → W.heap[b]? = w0.heap[b]?) (hks : ∀ q ∈ ks, Sl w0 q.ao q.n q.cap q.xs) (hvs : ∀ q ∈ vs, Sl w0 q.ao q.n q.cap q.xs)
    (hs : Shp lev l L segs xs) (ek : ks.map Part.xs = xs.map It.k) (ev : vs.map Part.xs = xs.map It.v) (kid : KidsF W w0.heap.size base g k v c us segs) : On W w0.heap.size base fun w => T w (.pointer (some ⟨g, 0, none⟩)) l := fun w hw => by
  have hw0 : ∀ b, b < w0.heap.size → w.heap[b]? = w0.heap[b]? := fun b hb => (hw b (.inl hb) (by omega)).trans (h0 b hb)
  exact (h.on (fun b h1 h2 => hw b (.inr h1) h2)).tree (fun q hq => (hks q hq).on hw0) (fun q hq => (hvs q hq).on hw0) hs ek ev (kid.end hw)
open Go.RowKit
theorem size2 (w : World) : (sizeOf 101).run Tryz.prog w = .ok 2 w := by
  have hI := itemInfo
  cases hi : Tryz.prog.info? 101 with
  | none => rw [hi] at hI; simp at hI
  | some i =>
    rw [hi] at hI
    simp only [Option.map_some, Option.some.injEq, Prod.mk.injEq] at hI
    simp [sizeOf, typeInfo, hi, hI.2.1]
def bk2 (ao : Option Addr) (cap j : Nat) : Option Addr := if cap = j then ao else ao.map (·.add (j * 2))
theorem run_back2 {W : World} {ao : Option Addr} {n cap j : Nat} (h1 : j ≤ n) :
    (Instr.sliceAt 56 (.slice ao n cap) (some (.int .i64 (j : Nat))) none none).run Tryz.prog W = .ok (.slice (bk2 ao cap j) (n - j) (cap - j)) W := by
  have ht := Tryz.underlying56
  have he : Tryz.prog.elem 56 = 101 := by simp [Program.elem, ht]
  rw [run_sliceAt_slice W 56 _ _ _ _ (by rw [he]; exact ht), run_slice_l W 56 ao n cap (by rw [he]; exact ht) .i64 j (by omega) (by omega), he, size2]
  simp only [Result.andThen_ok, sliced, Int.toNat_natCast, bk2]
theorem IL.front {w : World} {ao : Option Addr} {n cap : Nat} {its : List IP} (h : IL w ao n cap its) (i : Nat) (hi : i ≤ n) : IL w ao i cap (its.take i) := by
  have h1 := h.len
  have h2 := h.le
  refine ⟨by simp; omega, by omega, h.mx, fun hn => ?_, fun a ha j hj => ?_, fun q hq => h.sl q (List.mem_of_mem_take hq)⟩
  · have := h.nil hn
    omega
  · simp only [List.length_take] at hj
    have := h.cell a ha j (by omega)
    simpa using this
theorem IL.from {w : World} {ao : Option Addr} {n cap : Nat} {its : List IP} (h : IL w ao n cap its) (j : Nat) (hj : j ≤ n) : IL w (bk2 ao cap j) (n - j) (cap - j) (its.drop j) := by
  have h1 := h.len
  have h2 := h.mx
  have h3 := h.le
  refine ⟨by simp; omega, by omega, by omega, fun hn => ?_, fun b hb i hi => ?_, fun q hq => h.sl q (List.mem_of_mem_drop hq)⟩
  · unfold bk2 at hn
    by_cases hc : cap = j
    · omega
    · rw [if_neg hc] at hn
      have := h.nil (by simpa using hn)
      omega
  · simp only [List.length_drop] at hi
    have hc : cap ≠ j := by omega
    unfold bk2 at hb
    rw [if_neg hc] at hb
    cases ao with
    | none => simp at hb
    | some a =>
      have hb' : a.add (j * 2) = b := by simpa using hb
      have := h.cell a rfl (j + i) (by omega)
      rw [← hb', Addr.add_add, Addr.add_add, List.getElem_drop, ← Nat.add_mul, ← Nat.add_assoc, ← Nat.add_mul]
      exact this
open Go.RowKit
theorem str_append (xs ys : List Int) : strOfNums xs ++ strOfNums ys = strOfNums (xs ++ ys) := by
  apply ByteArray.ext
  simp [strOfNums]
theorem below_chain {n : Nat} {w a b c : World} (h : Below n w a) (k : Below b.heap.size b c) (e1 : b.heap = a.heap) (e2 : b.os = a.os) (e3 : b.tape = a.tape) (e4 : b.output = a.output) (hn : n ≤ a.heap.size) : Below n w c :=
  ⟨(k.os.trans e2).trans h.os, (k.tape.trans e3).trans h.tape, (k.output.trans e4).trans h.output, Nat.le_trans h.size (by have := k.size; rw [e1] at this; exact this), fun i hi => (k.block i (by rw [e1]; omega)).trans (by rw [e1]; exact h.block i hi)⟩
theorem conv_sl {w : World} {b o n cap : Nat} {xs : List Int} (h : Sl w (some ⟨b, o, none⟩) n cap xs) : (convert 40 9 (.slice (some ⟨b, o, none⟩) n cap)).run Tryz.prog w = .ok (.string (strOfNums xs)) w := by
  refine run_convert_bytes_arg w 40 5 Tryz.underlying40 Tryz.underlying5 b o n cap xs h.len (fun i hi => ?_) 9 Tryz.underlying9
  have := h.cell _ rfl i hi
  rwa [add_at] at this
set_option maxRecDepth 100000 in
set_option maxHeartbeats 1000000 in
theorem rdigit_any (c : Int) (hc : 0 ≤ c ∧ c < 16) (w : World) :
    Calls Tryz.prog 140 #[.int .u8 c] w fun e w' => e = .returned (.string (strOfNums [dg c])) ∧ Below w.heap.size w w' := by
  have c0 := hc.1
  have c1 := hc.2
  by_cases h10 : c < 10
  · have e : dg c = 48 + c := by simp [dg, h10]
    have hcv := conv_sl (Sl.one w (48 + c) (by omega))
    rw [e]
    clear e
    go_enter Tryz.func140, Tryz.ntmps140
    go_wp2
    go_ret
    exact ⟨rfl, (Below.refl _ w).alloc (Nat.le_refl _) _⟩
  · have e : dg c = 97 + c - 10 := by simp only [dg, h10, if_false]; omega
    have hcv := conv_sl (Sl.one w (97 + c - 10) (by omega))
    have h10' : (10 : Int) ≤ c := by omega
    rw [e]
    clear e h10
    go_enter Tryz.func140, Tryz.ntmps140
    go_wp2
    go_ret
    exact ⟨rfl, (Below.refl _ w).alloc (Nat.le_refl _) _⟩
set_option maxRecDepth 100000 in
set_option maxHeartbeats 2000000 in
theorem rhex_any (w : World) (ao : Option Addr) (m cap : Nat) (xs : List Int) (hL : Sl w ao m cap xs) (hm : m ≤ 70368744177664) :
    Calls Tryz.prog 97 #[.slice ao m cap] w fun e w' => e = .returned (.string (strOfNums (hexL xs))) ∧ Below w.heap.size w w' := by
  have hln := hL.len
  have hmi : (m : Int) ≤ 70368744177664 := by omega
  go_enter Tryz.func97, Tryz.ntmps97
  go_wp2
  go_loopw [3, 4] (fun s i wr => ∃ k : Nat, k ≤ m ∧ i = .int .i64 k ∧ s = .string (strOfNums (hexL (xs.take k))) ∧ Below w.heap.size w wr) (fun _ i _ => m - (intOf i).toNat)
  case atStart => exact ⟨0, by omega, rfl, rfl, Below.refl _ _⟩
  case round =>
    obtain ⟨k, hk, rfl, rfl, hB⟩ := hrel
    by_cases hlt : k < m
    · have hki : (k : Int) < (m : Int) := by omega
      obtain ⟨b, off, rfl, hcl⟩ := hL.at (by omega)
      have c0 := hcl k hlt
      have hbl : b < w.heap.size := World.block_lt_of_cell? w _ c0
      have hb := hL.byte.at k
      have HS : Hid (hexL (xs.take (k + 1)) = hexL (xs.take k) ++ [dg (xs.getD k 0 / 16)] ++ [dg (xs.getD k 0 % 16)]) := hexL_succ xs k (by omega)
      have hbe : xs[k]?.getD 0 = xs.getD k 0 := rfl
      rw [hbe] at hb
      obtain ⟨x, hx⟩ : ∃ x, x = xs.getD k 0 := ⟨_, rfl⟩
      rw [← hx] at c0 hb HS
      clear hbe hx hcl
      have b0 := hb.1
      have b1 := hb.2
      have cw : wr.cell? ⟨b, off + k, none⟩ = some (.int .u8 x) := (hB.cell (p := ⟨b, off + k, none⟩) hbl).trans c0
      have q1 : IntKind.u8.wrap (x.tdiv 16) = x / 16 := by
        rw [IntKind.wrap_u8', Int.tdiv_eq_ediv_of_nonneg b0]
        omega
      have q2 : x.tmod 16 = x % 16 := Int.tmod_eq_emod_of_nonneg b0
      have q3 : IntKind.u8.wrap (x % 16) = x % 16 := by
        rw [IntKind.wrap_u8']
        omega
      obtain ⟨S0, hS0⟩ : ∃ S, S = strOfNums (hexL (xs.take k)) := ⟨_, rfl⟩
      have z0 : S0.size ≤ 140737488355328 := by rw [hS0, strOfNums_size, hexL_take_len _ _ (by omega)]; omega
      have a1 : ∀ w, (Op.stringOp .add S0 (strOfNums [dg (x / 16)])).run Tryz.prog w = .ok (.string (S0 ++ strOfNums [dg (x / 16)])) w := fun w => run_string_add_sum w _ _ (by rw [strOfNums_size, List.length_singleton]; omega)
      have a2 : ∀ w, (Op.stringOp .add (S0 ++ strOfNums [dg (x / 16)]) (strOfNums [dg (x % 16)])).run Tryz.prog w = .ok (.string (S0 ++ strOfNums [dg (x / 16)] ++ strOfNums [dg (x % 16)])) w := fun w => run_string_add_sum w _ _ (by rw [ByteArray.size_append, strOfNums_size, strOfNums_size, List.length_singleton, List.length_singleton]; omega)
      rw [← hS0]
      have HS0 : Hid (S0 = _) := hS0
      clear hS0
      go_wp2_with fail
      go_region_held3 (fun w' => w'.cell? ⟨b, off + k, none⟩ = some (.int .u8 x))
        (first | go_keep | assumption)
        (first | (go_at_call 140; (try rw [q1]); (try rw [q2]); refine (rdigit_any _ (by omega) _).mono ?_; rintro e w2 ⟨rfl, C2⟩; first | (have hB2 := below_chain hB C2 rfl rfl rfl rfl hB.size; clear hB C2; have c2 := (hB2.cell (p := ⟨b, off + k, none⟩) hbl).trans c0) | (have hB3 := below_chain hB2 C2 rfl rfl rfl rfl hB2.size; clear hB2 C2; have c3 := (hB3.cell (p := ⟨b, off + k, none⟩) hbl).trans c0)))
      go_wp2
      go_roundw
      case rel =>
        refine ⟨k + 1, by omega, by go_num, ?_, hB3⟩
        rw [HS.out, HS0.out, str_append, str_append]
      case measure => simp [intOf]; omega
    · have hge : (m : Int) ≤ (k : Int) := by omega
      have e : xs.take k = xs := List.take_of_length_le (by omega)
      rw [e]
      clear e
      go_wp2
      go_ret
      exact ⟨rfl, hB⟩
open Go.RowKit
set_option maxHeartbeats 800000 in
set_option maxRecDepth 100000 in
theorem rUint_any (w : World) (ao : Option Addr) (k cap n : Nat) (xs : List Int) (h : Sl w ao k cap xs) (hr : k + 30 ≤ 140737488355328) (hn : n < 18446744073709551616) :
    Calls Tryz.prog 94 #[.slice ao k cap, .int .u64 n] w fun e w' =>
      ∃ v, e = .returned v ∧ w'.ownsRow w.heap.size 5 1 v (k + (enc n).length) (bv (xs ++ enc n)) ∧ Below w.heap.size w w' := by
  have hA := h.below ((Below.refl w.heap.size w).alloc (Nat.le_refl _) (.cells #[] 5))
  have hO := own_empty w
  go_enter Tryz.func94, Tryz.ntmps94
  go_wp2_with (at_builtin; refine wpList_app rfl _ _ rfl w.heap.size _ _ _ rfl hO _ _ _ _ rfl hA (by omega) (by simp) ?_; intro v1 w1 hown1 hb1)
  have hb : Below w.heap.size w w1 := ((Below.refl w.heap.size w).alloc (Nat.le_refl _) _).trans hb1
  have hlen := enc_length hn
  simp only [Nat.zero_add, List.nil_append] at hown1
  clear hb1 hO hA
  go_loopw [0, 1] (fun b m wr => ∃ (j : Nat) (ys : List Int), m = .int .u64 j ∧ j < 18446744073709551616 ∧ ys ++ enc j = enc n ∧ wr.ownsRow w.heap.size 5 1 b (k + ys.length) (bv (xs ++ ys)) ∧ Below w.heap.size w wr) (fun _ m _ => (intOf m).toNat)
  case atStart => exact ⟨n, [], rfl, hn, rfl, by simpa using hown1, hb⟩
  case round =>
    obtain ⟨m, ys, rfl, hm, hys, hown', hbel⟩ := hrel
    have hp := enc_pos m
    have hy9 : ys.length + (enc m).length ≤ 10 := by have := congrArg List.length hys; simp at this; omega
    have hsz := hbel.size
    have HY : Hid (ys ++ enc m = enc n) := hys
    clear hys
    by_cases hlt : m < 128
    · go_wp2_with (at_builtin; refine wpList_app rfl _ _ rfl w.heap.size _ _ _ rfl (hown'.alloc _) _ _ _ _ rfl (Sl.one wr _ (by omega)) (by omega) (by simp; omega) ?_; intro v2 w2 hown2 hb2)
      have e2 := HY.out
      rw [enc_small hlt] at e2
      have ho : w2.ownsRow w.heap.size 5 1 v2 (k + (enc n).length) (bv (xs ++ enc n)) := by
        rw [← e2, ← List.append_assoc]
        simpa [Nat.add_assoc] using hown2
      have hb3 := (hbel.alloc hsz _).trans hb2
      clear hown2 hb2
      go_ret
      exact ⟨v2, rfl, ho, hb3⟩
    · go_wp2_with (at_builtin; refine wpList_app rfl _ _ rfl w.heap.size _ _ _ rfl (hown'.alloc _) _ _ _ _ rfl (Sl.one wr _ (by omega)) (by omega) (by simp; omega) ?_; intro v2 w2 hown2 hb2)
      have e2 := HY.out
      rw [enc_big (n := m) (by omega) hm] at e2
      have ho : w2.ownsRow w.heap.size 5 1 v2 (k + (ys ++ [((m % 128 + 128 : Nat) : Int)]).length) (bv (xs ++ (ys ++ [((m % 128 + 128 : Nat) : Int)]))) := by
        rw [← List.append_assoc]
        simpa [Nat.add_assoc] using hown2
      have hb3 := (hbel.alloc hsz _).trans hb2
      clear hown2 hb2
      go_wp2
      go_roundw
      case rel => exact ⟨m / 128, ys ++ [((m % 128 + 128 : Nat) : Int)], by go_num, by omega, by rw [← e2]; simp, ho, hb3⟩
      case measure => simp [intOf]; omega
set_option maxHeartbeats 400000 in
theorem rBytes_any (w : World) (ao bo : Option Addr) (n cap m cap2 : Nat) (xs ys : List Int) (h : Sl w ao n cap xs) (h2 : Sl w bo m cap2 ys) (hr : n + m + 60 ≤ 140737488355328) :
    Calls Tryz.prog 95 #[.slice ao n cap, .slice bo m cap2] w fun e w' =>
      ∃ v, e = .returned v ∧ w'.ownsRow w.heap.size 5 1 v (n + (enc m).length + m) (bv (xs ++ enc m ++ ys)) ∧ Below w.heap.size w w' := by
  go_enter Tryz.func95, Tryz.ntmps95
  go_wp2_with fail
  refine (rUint_any w ao n cap m xs h (by omega) (by omega)).mono ?_
  rintro e w1 ⟨v1, rfl, hown1, hb1⟩
  have hs := hb1.size
  have hl := enc_length (n := m) (by omega)
  have h3 := h2.below hb1
  go_wp2_with (at_builtin; refine wpList_app rfl _ _ rfl w.heap.size _ _ _ rfl hown1 _ _ _ _ rfl h3 (by omega) (by omega) ?_; intro v3 w3 hown3 hb3)
  have hb4 := hb1.trans hb3
  clear hb1 hown1 hb3 h3
  go_ret
  exact ⟨v3, rfl, hown3, hb4⟩
open Go.RowKit
theorem formL_byte (s : ByteArray) (ps : List Part) (hs : s.size ≤ 1000000) (hn : ps.length ≤ 1000000) (h : ∀ q ∈ ps, Byt q.xs ∧ q.xs.length ≤ 1000000) : Byt (formL (sb s) (pxs ps)) := by
  unfold formL
  rw [sb_len, pxs_len]
  refine ((Byt.append (enc_byte (by omega)) (sb_byte s)).append (enc_byte (by omega))).append (fmP_byte _ fun x hx => ?_)
  obtain ⟨q, hq, rfl⟩ := List.mem_map.1 hx
  exact ⟨(h q hq).1, by have := (h q hq).2; omega⟩
set_option maxRecDepth 100000 in
set_option maxHeartbeats 4000000 in
theorem rform_any (w : World) (s : ByteArray) (ao : Option Addr) (n cap : Nat) (ps : List Part) (hP : PL w ao n cap ps) (hs : s.size ≤ 1000000) (hn : n ≤ 1000000) (hq : ∀ q ∈ ps, q.n ≤ 1000000) :
    Calls Tryz.prog 89 #[.string s, .slice ao n cap] w fun e w' => ∃ v, e = .returned v ∧ w'.ownsRow w.heap.size 5 1 v (formL (sb s) (pxs ps)).length (bv (formL (sb s) (pxs ps))) ∧ Below w.heap.size w w' := by
  have hl := hP.len
  have hni : (n : Int) ≤ 1000000 := by omega
  have hsl := sb_len s
  have es := enc_length (n := s.size) (by omega)
  have en := enc_length (n := n) (by omega)
  have hby : Byt (formL (sb s) (pxs ps)) := formL_byte s ps hs (by omega) (fun q hq' => ⟨(hP.sl q hq').byte, by rw [(hP.sl q hq').len]; exact hq q hq'⟩)
  go_enter Tryz.func89, Tryz.ntmps89
  go_wp2_with (first
    | (refine wpList_conv_bytes rfl (.tmp 7) rfl s rfl (by omega) ?_; intro g2 c2 w2 hg2 S2 B2; have s2 := B2.size; clear hg2)
    | (go_at_call 95; refine (rBytes_any w2 none _ 0 0 s.size c2 [] _ (Sl.nothing w2) S2 (by omega)).mono ?_; rintro e w3 ⟨v3, rfl, own3, C3⟩; simp only [List.nil_append, Nat.zero_add] at own3; obtain ⟨fo, fc, rfl, S3, -⟩ := Sl.own own3 (Byt.append (enc_byte (by omega)) (sb_byte s)); have B3 : Below w.heap.size w w3 := B2.trans (C3.mono (by omega)); have s3 := C3.size; clear C3 own3 S2 B2)
    | (go_at_call 94; refine (rUint_any w3 fo _ fc n _ S3 (by omega) (by omega)).mono ?_; rintro e w4 ⟨v4, rfl, own4, C4⟩; have B4 : Below w.heap.size w w4 := B3.trans (C4.mono (by omega)); have s4 := C4.size; clear C4 S3 B3))
  obtain ⟨F, hF⟩ : ∃ F, F = enc s.size ++ sb s ++ enc n := ⟨_, rfl⟩
  have hFl : F.length = (enc s.size).length + s.size + (enc n).length := by rw [hF]; simp [hsl]; omega
  have hFb : Byt F := by rw [hF]; exact (Byt.append (enc_byte (by omega)) (sb_byte s)).append (enc_byte (by omega))
  have HF : Hid (formL (sb s) (pxs ps) = F ++ fmP (pxs ps)) := by
    show _ = _
    rw [hF, formL, hsl, pxs_len, hl]
  rw [← hF, ← hFl] at own4
  have own4' := own_base own4 (base' := w.heap.size) (by omega)
  clear hF hsl own4
  go_wp2_with fail
  go_loopw [5, 6] (fun v i wr => ∃ k : Nat, k ≤ n ∧ i = .int .i64 k ∧ Below w.heap.size w wr ∧ wr.ownsRow w.heap.size 5 1 v (F ++ fmP (pxs (ps.take k))).length (bv (F ++ fmP (pxs (ps.take k))))) (fun _ i _ => n - (intOf i).toNat)
  case atStart => exact ⟨0, by omega, rfl, B4, by simpa [pxs, fmP] using own4'⟩
  case round =>
    clear own4' B4
    obtain ⟨k, hk, rfl, B7, own7⟩ := hrel
    have t7 := B7.size
    by_cases hlt : k < n
    · have hki : (k : Int) < (n : Int) := by omega
      have hkl : k < ps.length := by omega
      obtain ⟨ab, aof, rfl, hc⟩ := (hP.below B7).at (by omega)
      have c1 := hc k hkl
      have S1 := (hP.below B7).sl ps[k] (List.getElem_mem hkl)
      have HX : Hid (fmP (pxs (ps.take (k + 1))) = fmP (pxs (ps.take k)) ++ (enc ps[k].n ++ ps[k].xs)) := by
        show _ = _
        rw [pxs_take ps k hkl, fmP_snoc, S1.len]
      have hqn := hq ps[k] (List.getElem_mem hkl)
      have hFM : (fmP (pxs (ps.take k))).length ≤ k * (1000000 + 10) := by
        refine Nat.le_trans (fmP_le _ 1000000 (by omega) (fun x hx => ?_)) ?_
        · obtain ⟨q, hq', rfl⟩ := List.mem_map.1 hx
          rw [(hP.sl q (List.mem_of_mem_take hq')).len]
          exact hq q (List.mem_of_mem_take hq')
        · rw [pxs_len, List.length_take]
          exact Nat.mul_le_mul_right _ (by omega)
      have hFb7 : Byt (F ++ fmP (pxs (ps.take k))) := hFb.append (fmP_byte _ fun x hx => by
        obtain ⟨q, hq', rfl⟩ := List.mem_map.1 hx
        have := hP.sl q (List.mem_of_mem_take hq')
        exact ⟨this.byte, by have := this.len; have := hq q (List.mem_of_mem_take hq'); omega⟩)
      obtain ⟨q, hqe⟩ : ∃ q, q = ps[k] := ⟨_, rfl⟩
      rw [← hqe] at c1 S1 HX hqn
      clear hqe hc
      have hql := S1.len
      have eq := enc_length (n := q.n) (by omega)
      have hGl : (F ++ fmP (pxs (ps.take k))).length ≤ 2000000 * 1000010 := by simp; omega
      obtain ⟨G, hG⟩ : ∃ G, G = F ++ fmP (pxs (ps.take k)) := ⟨_, rfl⟩
      rw [← hG] at own7 hFb7 hGl
      have HG : Hid (G = F ++ fmP (pxs (ps.take k))) := hG
      clear hG
      unfold Part.val at c1
      obtain ⟨fo, fc, rfl, S7, -⟩ := Sl.own own7 hFb7
      go_wp2_with (go_at_call 95; refine (rBytes_any wr fo q.ao G.length fc q.n q.cap G q.xs S7 S1 (by omega)).mono ?_; rintro e w8 ⟨v8, rfl, own8, C8⟩; have B8 : Below w.heap.size w w8 := B7.trans (C8.mono (by omega)); clear C8 own7 S7 S1)
      go_roundw
      case rel =>
        refine ⟨k + 1, by omega, by go_num, B8, ?_⟩
        rw [HX.out, ← List.append_assoc F, ← HG.out]
        have el : (G ++ (enc q.n ++ q.xs)).length = G.length + (enc q.n).length + q.n := by simp [hql]; omega
        rw [el, ← List.append_assoc]
        exact own_base own8 t7
      case measure => simp [intOf]; omega
    · have hge : (n : Int) ≤ (k : Int) := by omega
      have e : ps.take k = ps := List.take_of_length_le (by omega)
      rw [e] at own7
      clear e
      go_wp2_with fail
      go_ret
      refine ⟨_, rfl, ?_, B7⟩
      rw [HF.out]
      exact own7
end Go.Proofs.YthlpccajnmkbjaaGreatDoor

/-
  Texts in one: CKA, CRight, CEsc, PNames, PVal.
-/
import Derived.Test.YthlpccajnmkbjaaGreatDoorY1
import Derived.Test.YthlpccajnmkbjaaGreatDoorY2
namespace Go.Proofs.YthlpccajnmkbjaaGreatDoor
open Go.RowKit

/-- A key as it comes: its texts, its time. -/
structure KA where
  row : ByteArray
  fam : ByteArray
  qual : ByteArray
  time : Nat
def KA.val (k : KA) : Value := .agg #[.string k.row, .string k.fam, .string k.qual, .int .u64 k.time]
def KA.kv (k : KA) : KV := ⟨sb k.row, sb k.fam, sb k.qual, k.time⟩
/-- What a key that comes is. -/
structure KA.ok (k : KA) : Prop where
  row : k.row.size ≤ maxLen
  fam : k.fam.size ≤ maxLen
  qual : k.qual.size ≤ maxLen
  time : k.time < 18446744073709551616
theorem KA.kv_byt {k : KA} (h : k.ok) : k.kv.byt := ⟨sb_byte _, sb_byte _, sb_byte _, h.time⟩
theorem KA.kv_inj {a b : KA} (h : a.kv = b.kv) : a = b := by
  cases a; cases b
  simp only [KA.kv, KV.mk.injEq] at h
  rw [sb_inj h.1, sb_inj h.2.1, sb_inj h.2.2.1, h.2.2.2]
end Go.Proofs.YthlpccajnmkbjaaGreatDoor

namespace Go.Proofs.YthlpccajnmkbjaaGreatDoor
open Go.RowKit

theorem toL_ne {s t : ByteArray} (h : s ≠ t) : (s.toList == t.toList) = false := by
  rw [beq_eq_false_iff_ne]
  intro e
  apply h
  rw [ByteArray.toList_eq, ByteArray.toList_eq] at e
  exact ByteArray.ext (Array.toList_inj.1 e)

/-- Is it right? -/
def KA.isRight (k : KA) : Bool := decide (1 ≤ k.row.size ∧ k.row.size ≤ 32 ∧ 1 ≤ k.fam.size ∧ k.fam.size ≤ 32 ∧ k.qual.size ≤ 32)
theorem KA.isRight_kv (k : KA) : k.isRight = decide k.kv.right := by
  unfold KA.isRight KV.right KA.kv
  simp only [sb_len]
def KA.kind (k : KA) : Int := if k.isRight then 0 else 5

set_option maxRecDepth 100000 in
set_option maxHeartbeats 2000000 in
theorem rright_any (w : World) (k : KA) :
    Calls Tryz.prog 36 #[k.val] w fun e w' => e = .returned (.int .i64 k.kind) ∧ Below w.heap.size w w' := by
  have B : Below w.heap.size w (w.alloc (Obj.cells #[.string k.row, .string k.fam, .string k.qual, .int .u64 k.time] 39)) := (Below.refl _ w).alloc (Nat.le_refl _) _
  have no : ∀ (_ : ¬ (1 ≤ k.row.size ∧ k.row.size ≤ 32 ∧ 1 ≤ k.fam.size ∧ k.fam.size ≤ 32 ∧ k.qual.size ≤ 32)), Hid (k.kind = 5) := fun h => by
    show _ = _
    unfold KA.kind KA.isRight
    rw [decide_eq_false h]
    rfl
  unfold KA.val
  by_cases r0 : k.row.size < 1
  · have i0 : (k.row.size : Int) < 1 := by omega
    have hv := no (by omega)
    clear no
    go_enter Tryz.func36, Tryz.ntmps36
    go_wp2
    go_ret
    exact ⟨by rw [hv.out] <;> rfl, B⟩
  have i0 : (1 : Int) ≤ (k.row.size : Int) := by omega
  by_cases r1 : 32 < k.row.size
  · have i1 : (32 : Int) < (k.row.size : Int) := by omega
    have hv := no (by omega)
    clear no
    go_enter Tryz.func36, Tryz.ntmps36
    go_wp2
    go_ret
    exact ⟨by rw [hv.out] <;> rfl, B⟩
  have i1 : (k.row.size : Int) ≤ 32 := by omega
  by_cases r2 : k.fam.size < 1
  · have i2 : (k.fam.size : Int) < 1 := by omega
    have hv := no (by omega)
    clear no
    go_enter Tryz.func36, Tryz.ntmps36
    go_wp2
    go_ret
    exact ⟨by rw [hv.out] <;> rfl, B⟩
  have i2 : (1 : Int) ≤ (k.fam.size : Int) := by omega
  by_cases r3 : 32 < k.fam.size
  · have i3 : (32 : Int) < (k.fam.size : Int) := by omega
    have hv := no (by omega)
    clear no
    go_enter Tryz.func36, Tryz.ntmps36
    go_wp2
    go_ret
    exact ⟨by rw [hv.out] <;> rfl, B⟩
  have i3 : (k.fam.size : Int) ≤ 32 := by omega
  by_cases r4 : 32 < k.qual.size
  · have i4 : (32 : Int) < (k.qual.size : Int) := by omega
    have hv := no (by omega)
    clear no
    go_enter Tryz.func36, Tryz.ntmps36
    go_wp2
    go_ret
    exact ⟨by rw [hv.out] <;> rfl, B⟩
  have i4 : (k.qual.size : Int) ≤ 32 := by omega
  have hv : Hid (k.kind = 0) := by
    show _ = _
    unfold KA.kind KA.isRight
    rw [decide_eq_true (by omega)]
    rfl
  clear no
  go_enter Tryz.func36, Tryz.ntmps36
  go_wp2
  go_ret
  exact ⟨by rw [hv.out] <;> rfl, B⟩

/-- Are two keys of one column? -/
def KA.col (a b : KA) : Bool := decide (a.row = b.row ∧ a.fam = b.fam ∧ a.qual = b.qual)
end Go.Proofs.YthlpccajnmkbjaaGreatDoor

namespace Go.Proofs.YthlpccajnmkbjaaGreatDoor
open Go.RowKit

/-- A name's bytes without its end. -/
def esc : List Int → List Int
  | [] => []
  | c :: t => (if c = 0 then [0, 255] else [c]) ++ esc t
theorem esc_append : ∀ s t, esc (s ++ t) = esc s ++ esc t
  | [], t => rfl
  | c :: s, t => by simp [esc, esc_append s t]
theorem nm_esc : ∀ s, nm s = esc s ++ [0, 1]
  | [] => rfl
  | c :: t => by
    unfold nm esc
    rw [nm_esc t]
    split <;> simp
theorem esc_len : ∀ s, (esc s).length ≤ 2 * s.length
  | [] => by simp [esc]
  | c :: t => by
    have := esc_len t
    unfold esc
    rw [List.length_append, List.length_cons]
    split <;> simp <;> omega
theorem sb_take (s : ByteArray) (k : Nat) (h : k < s.size) : (sb s).take (k + 1) = (sb s).take k ++ [(s[k].toNat : Int)] := by
  have hl : k < (sb s).length := by rw [sb_len]; exact h
  rw [List.take_succ_eq_append_getElem hl]
  simp [sb, ByteArray.getElem_eq_getElem_data]

theorem sb_nil {s : ByteArray} (h : s.size = 0) : sb s = [] := List.eq_nil_of_length_eq_zero (by rw [sb_len]; exact h)
theorem empty_of {s : ByteArray} (h : s.size = 0) : s = ⟨#[]⟩ := by
  apply sb_inj
  rw [sb_nil h]
  rfl
end Go.Proofs.YthlpccajnmkbjaaGreatDoor

namespace Go.Proofs.YthlpccajnmkbjaaGreatDoor
open Go.RowKit

theorem toE (s : ByteArray) : s.toList.isEmpty = decide (s.size = 0) := by
  rw [ByteArray.toList_eq]
  unfold ByteArray.size
  cases h : s.data.toList with
  | nil =>
    have h2 := congrArg List.length h
    have h3 : s.data.size = 0 := by simpa using h2
    simp [h3]
  | cons a t =>
    have h2 := congrArg List.length h
    have h3 : s.data.size ≠ 0 := by
      intro h4
      rw [Array.length_toList, h4, List.length_cons] at h2
      omega
    exact (decide_eq_false h3).symm

/-- A key's cells, and its names. -/
def KA.cs (k : KA) : Array Value := #[.string k.row, .string k.fam, .string k.qual, .int .u64 k.time]
def KA.nv (k : KA) : Value := .agg #[.string k.row, .string k.fam, .string k.qual]

set_option maxRecDepth 100000 in
set_option maxHeartbeats 2000000 in
theorem pnames_any (w : World) (k : KA) :
    Calls Tryz.prog 143 #[k.val] w fun e w' => e = .returned k.nv ∧ Below w.heap.size w w' := by
  have B : Below w.heap.size w ((w.alloc (Obj.cells #[.string k.row, .string k.fam, .string k.qual, .int .u64 k.time] 39)).alloc (Obj.cells #[.string k.row, .string k.fam, .string k.qual] 171)) := ((Below.refl _ w).alloc (Nat.le_refl _) _).alloc (by simp) _
  unfold KA.val KA.nv
  go_enter Tryz.func143, Tryz.ntmps143
  go_wp2
  exact bodyPost_ret (v := .agg #[.string k.row, .string k.fam, .string k.qual]) (by simp [results, Tryz.results143, go_sem]) rfl ⟨rfl, B⟩

set_option maxRecDepth 100000 in
set_option maxHeartbeats 2000000 in
theorem pright_any (w : World) (k : KA) :
    Calls Tryz.prog 102 #[k.val] w fun e w' => e = .returned (.int .i64 k.kind) ∧ Below w.heap.size w w' := by
  have B0 : Below w.heap.size w (w.alloc (Obj.cells #[.string k.row, .string k.fam, .string k.qual, .int .u64 k.time] 39)) := (Below.refl _ w).alloc (Nat.le_refl _) _
  have K0 : ∀ i, (w.alloc (Obj.cells #[.string k.row, .string k.fam, .string k.qual, .int .u64 k.time] 39)).cell? ⟨w.heap.size, i, none⟩ = #[Value.string k.row, .string k.fam, .string k.qual, .int .u64 k.time][i]? := fun i => World.cell?_alloc_at _ _ _ _ rfl
  have no : Hid (∀ (_ : ¬ (1 ≤ k.row.size ∧ k.row.size ≤ 32 ∧ 1 ≤ k.fam.size ∧ k.fam.size ≤ 32 ∧ k.qual.size ≤ 32)), k.kind = 5) := fun h => by
    unfold KA.kind KA.isRight
    rw [decide_eq_false h]
    rfl
  have yes : Hid (∀ (_ : (1 ≤ k.row.size ∧ k.row.size ≤ 32 ∧ 1 ≤ k.fam.size ∧ k.fam.size ≤ 32 ∧ k.qual.size ≤ 32)), k.kind = 0) := fun h => by
    unfold KA.kind KA.isRight
    rw [decide_eq_true h]
    rfl
  obtain ⟨N, hN⟩ : ∃ N, N = w.heap.size := ⟨_, rfl⟩
  unfold KA.val
  go_enter Tryz.func102, Tryz.ntmps102
  go_wp2_with fail
  obtain ⟨w1, hw1⟩ : ∃ W, W = (w.alloc (Obj.cells #[.string k.row, .string k.fam, .string k.qual, .int .u64 k.time] 39)) := ⟨_, rfl⟩
  have z1 : w1.heap.size = w.heap.size + 1 := by rw [hw1]; simp
  rw [← hw1] at B0 K0 ⊢
  refine (pnames_any w1 k).mono ?_
  rintro e w2 ⟨rfl, C2⟩
  have B2 := B0.trans (C2.mono B0.size)
  have q0 : w2.cell? ⟨N, 0, none⟩ = some (.string k.row) := (C2.cell (by show N < _; omega)).trans ((hN ▸ K0 0 :))
  have q1 : w2.cell? ⟨N, 1, none⟩ = some (.string k.fam) := (C2.cell (by show N < _; omega)).trans ((hN ▸ K0 1 :))
  unfold KA.nv
  rw [← hN]
  have i0 : ∀ w, (Instr.index 171 (.agg #[.string k.row, .string k.fam, .string k.qual]) (.int .i64 0)).run Tryz.prog w = .ok (.string k.row) w := fun _ => by kernel_rfl
  have i1 : ∀ w, (Instr.index 171 (.agg #[.string k.row, .string k.fam, .string k.qual]) (.int .i64 1)).run Tryz.prog w = .ok (.string k.fam) w := fun _ => by kernel_rfl
  have i2 : ∀ w, (Instr.index 171 (.agg #[.string k.row, .string k.fam, .string k.qual]) (.int .i64 2)).run Tryz.prog w = .ok (.string k.qual) w := fun _ => by kernel_rfl
  clear hN z1 hw1 K0 B0 C2
  go_wp2_with fail
  go_loopw [4, 7] (fun s i wr => wr = w2 ∧ ∃ j : Nat, i = .int .i64 j ∧ j ≤ 3 ∧ (0 < j → k.row.size ≤ 32) ∧ (1 < j → k.fam.size ≤ 32) ∧ (2 < j → k.qual.size ≤ 32)) (fun _ i _ => 3 - (intOf i).toNat)
  case atStart => exact ⟨rfl, 0, rfl, by omega, by omega, by omega, by omega⟩
  case round =>
    obtain ⟨rfl, j, rfl, hj, h1, h2, h3⟩ := hrel
    obtain rfl | rfl | rfl | rfl : j = 0 ∨ j = 1 ∨ j = 2 ∨ j = 3 := by omega
    · by_cases l : 32 < k.row.size
      · have il : (32 : Int) < (k.row.size : Int) := by omega
        have hv : Hid (k.kind = 5) := no.out (by omega)
        go_wp2
        go_ret
        exact ⟨by rw [hv.out] <;> rfl, B2⟩
      · have il : (k.row.size : Int) ≤ 32 := by omega
        go_wp2
        go_roundw
        case rel => exact ⟨trivial, 1, rfl, by omega, by omega, by omega, by omega⟩
        case measure => simp [intOf]
    · by_cases l : 32 < k.fam.size
      · have il : (32 : Int) < (k.fam.size : Int) := by omega
        have hv : Hid (k.kind = 5) := no.out (by omega)
        go_wp2
        go_ret
        exact ⟨by rw [hv.out] <;> rfl, B2⟩
      · have il : (k.fam.size : Int) ≤ 32 := by omega
        go_wp2
        go_roundw
        case rel => exact ⟨trivial, 2, rfl, by omega, by omega, by omega, by omega⟩
        case measure => simp [intOf]
    · by_cases l : 32 < k.qual.size
      · have il : (32 : Int) < (k.qual.size : Int) := by omega
        have hv : Hid (k.kind = 5) := no.out (by omega)
        go_wp2
        go_ret
        exact ⟨by rw [hv.out] <;> rfl, B2⟩
      · have il : (k.qual.size : Int) ≤ 32 := by omega
        go_wp2
        go_roundw
        case rel => exact ⟨trivial, 3, rfl, by omega, by omega, by omega, by omega⟩
        case measure => simp [intOf]
    · by_cases r0 : k.row.size = 0
      · have e0 : k.row.toList.isEmpty = true := by rw [toE]; exact decide_eq_true r0
        have hv : Hid (k.kind = 5) := no.out (by omega)
        go_wp2
        go_ret
        exact ⟨by rw [hv.out] <;> rfl, B2⟩
      · have e0 : k.row.toList.isEmpty = false := by rw [toE]; exact decide_eq_false r0
        by_cases f0 : k.fam.size = 0
        · have e2 : k.fam.toList.isEmpty = true := by rw [toE]; exact decide_eq_true f0
          have hv : Hid (k.kind = 5) := no.out (by omega)
          go_wp2
          go_ret
          exact ⟨by rw [hv.out] <;> rfl, B2⟩
        · have e2 : k.fam.toList.isEmpty = false := by rw [toE]; exact decide_eq_false f0
          have hv : Hid (k.kind = 0) := yes.out (by omega)
          go_wp2
          go_ret
          exact ⟨by rw [hv.out] <;> rfl, B2⟩
end Go.Proofs.YthlpccajnmkbjaaGreatDoor

namespace Go.Proofs.YthlpccajnmkbjaaGreatDoor
open Go.RowKit

theorem pvalue_any (w : World) (ao : Option Addr) (n cap : Nat) :
    Calls Tryz.prog 112 #[.slice ao n cap] w fun e w' => e = .returned (.bool (decide (n ≤ 256))) ∧ w' = w := by
  by_cases l : n ≤ 256
  · have i : (n : Int) ≤ 256 := by omega
    rw [decide_eq_true l]
    go_enter Tryz.func112, Tryz.ntmps112
    go_wp2
    go_ret
    exact ⟨rfl, rfl⟩
  · have i : decide ((n : Int) ≤ 256) = false := by simp; omega
    rw [decide_eq_false l]
    go_enter Tryz.func112, Tryz.ntmps112
    go_wp2
    go_ret
    exact ⟨rfl, rfl⟩

theorem pwant_any (w : World) (ao : Option Addr) (n cap : Nat) (b : Bool) :
    Calls Tryz.prog 111 #[.slice ao n cap, .bool b] w fun e w' => e = .returned (.bool (decide (n ≤ 256 ∧ (b = true ∨ n = 0)))) ∧ w' = w := by
  by_cases l : n ≤ 256
  · have hv : decide (n ≤ 256) = true := decide_eq_true l
    cases b with
    | true =>
      rw [decide_eq_true ⟨l, .inl rfl⟩]
      go_enter Tryz.func111, Tryz.ntmps111
      go_wp2_with (go_at_call 112; refine (pvalue_any _ ao n cap).mono ?_; rintro e w' ⟨rfl, rfl⟩; rw [hv])
      go_ret
      exact ⟨rfl, rfl⟩
    | false =>
      by_cases z : n = 0
      · subst z
        rw [decide_eq_true ⟨by omega, .inr rfl⟩]
        go_enter Tryz.func111, Tryz.ntmps111
        go_wp2_with (go_at_call 112; refine (pvalue_any _ ao 0 cap).mono ?_; rintro e w' ⟨rfl, rfl⟩; rw [hv])
        go_ret
        exact ⟨rfl, rfl⟩
      · have i : ((n : Int) == 0) = false := by simp; omega
        rw [decide_eq_false (by simp; omega)]
        go_enter Tryz.func111, Tryz.ntmps111
        go_wp2_with (go_at_call 112; refine (pvalue_any _ ao n cap).mono ?_; rintro e w' ⟨rfl, rfl⟩; rw [hv])
        go_ret
        exact ⟨rfl, rfl⟩
  · have hv : decide (n ≤ 256) = false := decide_eq_false l
    rw [decide_eq_false (fun h => l h.1)]
    go_enter Tryz.func111, Tryz.ntmps111
    go_wp2_with (go_at_call 112; refine (pvalue_any _ ao n cap).mono ?_; rintro e w' ⟨rfl, rfl⟩; rw [hv])
    go_ret
    exact ⟨rfl, rfl⟩

theorem pequal_any (w : World) (ao bo : Option Addr) (n cap m cap2 : Nat) (xs ys : List Int) (h : Sl w ao n cap xs) (h2 : Sl w bo m cap2 ys) :
    Calls Tryz.prog 115 #[.slice ao n cap, .slice bo m cap2] w fun e w' => e = .returned (.bool (decide (xs = ys))) ∧ w' = w := by
  have c1 := conv_str h
  have c2 := conv_str h2
  by_cases e : xs = ys
  · subst e
    rw [decide_eq_true rfl]
    go_enter Tryz.func115, Tryz.ntmps115
    go_wp2
    go_ret
    exact ⟨rfl, rfl⟩
  · have i : ((strOfNums xs).toList == (strOfNums ys).toList) = false := toL_ne fun q => e (by rw [← sb_str h.byte, q, sb_str h2.byte])
    rw [decide_eq_false e]
    go_enter Tryz.func115, Tryz.ntmps115
    go_wp2
    go_ret
    exact ⟨rfl, rfl⟩

set_option maxRecDepth 100000 in
set_option maxHeartbeats 2000000 in
theorem pwrites_any (w : World) (o : OA) :
    Calls Tryz.prog 32 #[o.val] w fun e w' => e = .returned (.bool (decide (o.kind ≠ 7 ∧ o.kind ≠ 8))) ∧ Below w.heap.size w w' := by
  have B : Below w.heap.size w (w.alloc (Obj.cells o.cells.toArray 42)) := (Below.refl _ w).alloc (Nat.le_refl _) _
  unfold OA.cells at B
  unfold OA.val
  by_cases e7 : o.kind = 7
  · have i : (o.kind != 7) = false := by simp [e7]
    have hv : Hid (decide (o.kind ≠ 7 ∧ o.kind ≠ 8) = false) := decide_eq_false (by omega)
    clear e7
    go_enter Tryz.func32, Tryz.ntmps32
    go_wp2
    go_ret
    exact ⟨by rw [hv.out] <;> rfl, B⟩
  · have i : (o.kind != 7) = true := by simp [e7]
    by_cases e8 : o.kind = 8
    · have j : (o.kind != 8) = false := by simp [e8]
      have hv : Hid (decide (o.kind ≠ 7 ∧ o.kind ≠ 8) = false) := decide_eq_false (by omega)
      clear e7 e8
      go_enter Tryz.func32, Tryz.ntmps32
      go_wp2
      go_ret
      exact ⟨by rw [hv.out] <;> rfl, B⟩
    · have j : (o.kind != 8) = true := by simp [e8]
      have hv : Hid (decide (o.kind ≠ 7 ∧ o.kind ≠ 8) = true) := decide_eq_true ⟨e7, e8⟩
      clear e7 e8
      go_enter Tryz.func32, Tryz.ntmps32
      go_wp2
      go_ret
      exact ⟨by rw [hv.out] <;> rfl, B⟩
end Go.Proofs.YthlpccajnmkbjaaGreatDoor

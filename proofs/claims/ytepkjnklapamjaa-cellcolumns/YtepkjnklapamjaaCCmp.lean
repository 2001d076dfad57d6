/-
  The reference's Cmp, Column, Right; Light.
-/
import Derived.Test.YtepkjnklapamjaaCText
namespace Go.Proofs.Ytepkjnklapamjaa
open Go.RowKit

/-- A key as it comes: its texts, its time. -/
structure KA where
  row : ByteArray
  fam : ByteArray
  qual : ByteArray
  time : Nat
def KA.val (k : KA) : Value := .agg #[.string k.row, .string k.fam, .string k.qual, .int .u64 k.time]
def KA.kv (k : KA) : KV := ⟨sb k.row, sb k.fam, sb k.qual, k.time⟩
/-- What a key that comes is. -/
structure KA.ok (k : KA) : Prop where
  row : k.row.size ≤ maxLen
  fam : k.fam.size ≤ maxLen
  qual : k.qual.size ≤ maxLen
  time : k.time < 18446744073709551616
theorem KA.kv_byt {k : KA} (h : k.ok) : k.kv.byt := ⟨sb_byte _, sb_byte _, sb_byte _, h.time⟩
theorem KA.kv_inj {a b : KA} (h : a.kv = b.kv) : a = b := by
  cases a; cases b
  simp only [KA.kv, KV.mk.injEq] at h
  rw [sb_inj h.1, sb_inj h.2.1, sb_inj h.2.2.1, h.2.2.2]

set_option maxRecDepth 100000 in
set_option maxHeartbeats 2000000 in
theorem rcmp_any (w : World) (a b : KA) (ha : a.ok) (hb : b.ok) :
    Calls Try.prog 17 #[a.val, b.val] w fun e w' => e = .returned (.int .i64 (cmpK a.kv b.kv)) ∧ Below w.heap.size w w' := by
  unfold KA.val
  have B2' : Below w.heap.size w ((w.alloc (Obj.cells #[.string a.row, .string a.fam, .string a.qual, .int .u64 a.time] 24)).alloc (Obj.cells #[.string b.row, .string b.fam, .string b.qual, .int .u64 b.time] 24)) := ((Below.refl _ w).alloc (Nat.le_refl _) _).alloc (by simp) _
  have h0 : w.heap.size < (w.alloc (Obj.cells #[.string a.row, .string a.fam, .string a.qual, .int .u64 a.time] 24)).heap.size := by simp
  have h1 : w.heap.size + 1 = (w.alloc (Obj.cells #[.string a.row, .string a.fam, .string a.qual, .int .u64 a.time] 24)).heap.size := by simp
  have HA' : ∀ i, i < 4 → ((w.alloc (Obj.cells #[.string a.row, .string a.fam, .string a.qual, .int .u64 a.time] 24)).alloc (Obj.cells #[.string b.row, .string b.fam, .string b.qual, .int .u64 b.time] 24)).cell? ⟨w.heap.size, i, none⟩ = #[Value.string a.row, .string a.fam, .string a.qual, .int .u64 a.time][i]? ∧ ((w.alloc (Obj.cells #[.string a.row, .string a.fam, .string a.qual, .int .u64 a.time] 24)).alloc (Obj.cells #[.string b.row, .string b.fam, .string b.qual, .int .u64 b.time] 24)).cell? ⟨w.heap.size + 1, i, none⟩ = #[Value.string b.row, .string b.fam, .string b.qual, .int .u64 b.time][i]? := fun i hi => by
    constructor
    · rw [World.cell?_alloc_past _ _ _ h0, World.cell?_alloc_at _ _ _ _ rfl]
    · rw [World.cell?_alloc_at _ _ _ _ h1]
  clear h0 h1
  go_enter Try.func17, Try.ntmps17
  go_wp2_with fail
  obtain ⟨w2, hw2⟩ : ∃ W, W = ((w.alloc (Obj.cells #[.string a.row, .string a.fam, .string a.qual, .int .u64 a.time] 24)).alloc (Obj.cells #[.string b.row, .string b.fam, .string b.qual, .int .u64 b.time] 24)) := ⟨_, rfl⟩
  rw [← hw2] at B2' HA' ⊢
  have B2 : Below w.heap.size w w2 := B2'
  have HA : Hid (∀ V, Below w2.heap.size w2 V → ∀ i, i < 4 → V.cell? ⟨w.heap.size, i, none⟩ = #[Value.string a.row, .string a.fam, .string a.qual, .int .u64 a.time][i]? ∧ V.cell? ⟨w.heap.size + 1, i, none⟩ = #[Value.string b.row, .string b.fam, .string b.qual, .int .u64 b.time][i]?) := by
    have hz : w2.heap.size = w.heap.size + 2 := by rw [hw2]; simp
    intro V hV i hi
    rw [hV.cell (by show w.heap.size < _; omega), hV.cell (by show w.heap.size + 1 < _; omega)]
    exact HA' i hi
  clear hw2 B2' HA'
  refine (text_any w2 a.row b.row ha.row hb.row).mono ?_
  rintro e w3 ⟨rfl, C3⟩
  have E3 := C3
  have B3 : Below w.heap.size w w3 := B2.trans (E3.mono B2.size)
  obtain ⟨c3, hc3⟩ : ∃ c, c = cmpL (sb a.row) (sb b.row) := ⟨_, rfl⟩
  rw [← hc3]
  have HC3 : Hid (c3 = cmpL (sb a.row) (sb b.row)) := hc3
  clear hc3
  by_cases e3 : c3 = 0
  · subst e3
    obtain ⟨k3, l3⟩ := HA.out w3 E3 1 (by omega)
    simp at k3 l3
    go_wp2_with fail
    refine (text_any w3 a.fam b.fam ha.fam hb.fam).mono ?_
    rintro e w4 ⟨rfl, C4⟩
    have E4 := E3.trans (C4.mono E3.size)
    have B4 : Below w.heap.size w w4 := B2.trans (E4.mono B2.size)
    obtain ⟨c4, hc4⟩ : ∃ c, c = cmpL (sb a.fam) (sb b.fam) := ⟨_, rfl⟩
    rw [← hc4]
    have HC4 : Hid (c4 = cmpL (sb a.fam) (sb b.fam)) := hc4
    clear hc4
    by_cases e4 : c4 = 0
    · subst e4
      clear k3 l3
      obtain ⟨k4, l4⟩ := HA.out w4 E4 2 (by omega)
      simp at k4 l4
      go_wp2_with fail
      refine (text_any w4 a.qual b.qual ha.qual hb.qual).mono ?_
      rintro e w5 ⟨rfl, C5⟩
      have E5 := E4.trans (C5.mono E4.size)
      have B5 : Below w.heap.size w w5 := B2.trans (E5.mono B2.size)
      obtain ⟨c5, hc5⟩ : ∃ c, c = cmpL (sb a.qual) (sb b.qual) := ⟨_, rfl⟩
      rw [← hc5]
      have HC5 : Hid (c5 = cmpL (sb a.qual) (sb b.qual)) := hc5
      clear hc5
      by_cases e5 : c5 = 0
      · subst e5
        clear k4 l4
        obtain ⟨k5, l5⟩ := HA.out w5 E5 3 (by omega)
        simp at k5 l5
        by_cases et : a.time = b.time
        · have f1 : ((a.time : Int) == (b.time : Int)) = true := by simp; omega
          have hv : Hid (cmpK a.kv b.kv = 0) := by
            show _ = _
            simp only [cmpK, KA.kv, if_true, ← HC3.out, ← HC4.out, ← HC5.out, cmpT]; exact if_pos et
          go_wp2
          go_ret
          exact ⟨by rw [hv.out] <;> rfl, B5⟩
        · have f1 : ((a.time : Int) == (b.time : Int)) = false := by simp; omega
          by_cases lt : b.time < a.time
          · have f2 : (b.time : Int) < (a.time : Int) := by omega
            have hv : Hid (cmpK a.kv b.kv = -1) := by
              show _ = _
              simp only [cmpK, KA.kv, if_true, ← HC3.out, ← HC4.out, ← HC5.out, cmpT]; exact (if_neg et).trans (if_pos lt)
            go_wp2
            go_ret
            exact ⟨by rw [hv.out] <;> rfl, B5⟩
          · have f2 : (a.time : Int) ≤ (b.time : Int) := by omega
            have hv : Hid (cmpK a.kv b.kv = 1) := by
              show _ = _
              simp only [cmpK, KA.kv, if_true, ← HC3.out, ← HC4.out, ← HC5.out, cmpT]; exact (if_neg et).trans (if_neg lt)
            go_wp2
            go_ret
            exact ⟨by rw [hv.out] <;> rfl, B5⟩
      · have f5 : (c5 == 0) = false := by simp; omega
        have hv : Hid (cmpK a.kv b.kv = c5) := by
          show _ = _
          simp only [cmpK, KA.kv, if_true, ← HC3.out, ← HC4.out, ← HC5.out]; exact if_neg e5
        go_wp2
        go_ret
        exact ⟨by rw [hv.out] <;> rfl, B5⟩
    · have f4 : (c4 == 0) = false := by simp; omega
      have hv : Hid (cmpK a.kv b.kv = c4) := by
        show _ = _
        simp only [cmpK, KA.kv, if_true, ← HC3.out, ← HC4.out]; exact if_neg e4
      go_wp2
      go_ret
      exact ⟨by rw [hv.out] <;> rfl, B4⟩
  · have f3 : (c3 == 0) = false := by simp; omega
    have hv : Hid (cmpK a.kv b.kv = c3) := by
      show _ = _
      simp only [cmpK, KA.kv, ← HC3.out]; exact if_neg e3
    go_wp2
    go_ret
    exact ⟨by rw [hv.out] <;> rfl, B3⟩
end Go.Proofs.Ytepkjnklapamjaa

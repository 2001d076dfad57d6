/-
  Texts in one: TbCell, PRep, PRows, Own2, CellRow, TbAmong, PCol.
-/
import Derived.Test.YthlpccajnmkbjaaGreatDoorTabletOfQFL
import Derived.Test.YthlpccajnmkbjaaGreatDoorTabletOfQ9
import Derived.Test.YthlpccajnmkbjaaGreatDoorTabletOfQ10
import Derived.Test.YthlpccajnmkbjaaGreatDoorTabletOfQ4
import Derived.Lib.SliceRun
import Derived.Test.YthlpccajnmkbjaaGreatDoorTabletOfQ6
import Derived.Test.YthlpccajnmkbjaaGreatDoorTabletOfQ3
import Derived.Laws.CopyOwn
import Derived.Lib.MakeNoZero
import Derived.WalkLawsBesides
import Derived.Test.YthlpccajnmkbjaaGreatDoorTabletOfQ8
import Derived.Test.YthlpccajnmkbjaaGreatDoorTabletOfQ0
namespace Go.Proofs.YthlpccajnmkbjaaGreatDoor
open Go.RowKit
def isValB : List Int → Bool
  | [] => false
  | b :: v => decide (b = 0 ∧ v.length ≤ 256)
theorem KpB.wr {w w' : World} {p : Nat} {t : TypeId} {cs : List Value} (h : Arr w p t cs) (ht : t ≠ 5) (k : Wr p w w') : KpB w w' := fun b cur hb => by
  refine (k.block b (Array.getElem?_eq_some_iff.1 hb).1 fun e => ?_).trans hb
  subst e
  have := (show w.heap[b]? = _ from h).symm.trans hb
  simp only [Option.some.injEq, Obj.cells.injEq] at this
  exact ht this.2.1
set_option maxHeartbeats 400000 in
set_option maxRecDepth 100000 in
theorem bcloneT_any (w : World) (ao : Option Addr) (n cap : Nat) (xs : List Int) (h : Sl w ao n cap xs) (hn : n ≤ 1000000) :
    Calls Tryz.prog 131 #[.slice ao n cap] w fun e w' => ∃ ro rc, e = .returned (.slice ro n rc) ∧ SlT w' ⟨ro, n, rc, xs⟩ ∧ Below w.heap.size w w' := by
  cases ao with
  | none =>
    obtain ⟨rfl, rfl⟩ := h.nil rfl
    obtain rfl : xs = [] := List.eq_nil_of_length_eq_zero h.len
    have hq : ∀ W, _ := fun W => Lib.run_eql_slice_nil (P := Tryz.prog) W 40 5 none 0 0 0 0 Tryz.underlying40
    go_enter Tryz.func131, Tryz.ntmps131
    go_wp2
    go_ret
    exact ⟨none, 0, rfl, ⟨Sl.nothing w, fun a ha => by simp at ha⟩, Below.refl _ _⟩
  | some a =>
    have B0 : Below w.heap.size w (w.alloc (.cells #[] 5)) := (Below.refl _ w).alloc (Nat.le_refl _) _
    have h0 := h.below B0
    have o0 := own_nothing w
    have hb := h.byte
    have hq : ∀ W, _ := fun W => Lib.run_eql_slice_nil (P := Tryz.prog) W 40 5 (some a) n cap 0 0 Tryz.underlying40
    go_enter Tryz.func131, Tryz.ntmps131
    go_wp2_with (at_builtin; refine wpList_app rfl _ _ rfl w.heap.size _ _ _ rfl o0 _ _ _ _ rfl h0 (by omega) (by simp) ?_; intro v1 w1 own1 B1)
    simp only [Nat.zero_add, List.nil_append] at own1
    obtain ⟨ro, rc, rfl, S⟩ := SlT.own own1 hb
    go_wp2
    go_ret
    exact ⟨ro, rc, rfl, S, B0.trans B1⟩
set_option maxHeartbeats 1000000 in
theorem isval_any (w : World) (ao : Option Addr) (n cap : Nat) (xs : List Int) (h : Sl w ao n cap xs) (hn : n ≤ 1000000) :
    Calls Tryz.prog 130 #[.slice ao n cap] w fun e w' => e = .returned (.bool (isValB xs)) ∧ w' = w := by
  have hl := h.len
  cases xs with
  | nil =>
    obtain rfl : n = 0 := by simpa using hl.symm
    go_enter Tryz.func130, Tryz.ntmps130
    go_wp2
    go_ret
    exact ⟨rfl, rfl⟩
  | cons b v =>
    have hv : v.length + 1 = n := by simpa using hl
    obtain ⟨ab, off, rfl, hc⟩ := h.at (by omega)
    have c0 := hc 0 (by omega)
    rw [Nat.add_zero, show (b :: v).getD 0 0 = b from rfl] at c0
    have hpos : (0 : Int) < (n : Int) := by omega
    have hnw : IntKind.i64.wrap ((n : Int) - 1) = (n : Int) - 1 := by simp [IntKind.wrap, IntKind.bits, IntKind.signed]; omega
    clear hc hl
    by_cases e0 : b = 0
    · have t0 : (b == 0) = true := by simp [e0]
      by_cases e1 : v.length ≤ 256
      · have HR : Hid (isValB (b :: v) = true) := decide_eq_true ⟨e0, e1⟩
        have t1 : (n : Int) - 1 ≤ 256 := by omega
        clear e0 e1
        go_enter Tryz.func130, Tryz.ntmps130
        go_wp2
        go_ret
        exact ⟨by rw [HR.out] <;> rfl, rfl⟩
      · have HR : Hid (isValB (b :: v) = false) := decide_eq_false fun h => e1 h.2
        have t1 : ¬ ((n : Int) - 1 ≤ 256) := by omega
        clear e0 e1
        go_enter Tryz.func130, Tryz.ntmps130
        go_wp2
        go_ret
        exact ⟨by rw [HR.out] <;> rfl, rfl⟩
    · have t0 : (b == 0) = false := by simp [e0]
      have HR : Hid (isValB (b :: v) = false) := decide_eq_false fun h => e0 h.1
      clear e0
      go_enter Tryz.func130, Tryz.ntmps130
      go_wp2
      go_ret
      exact ⟨by rw [HR.out] <;> rfl, rfl⟩
theorem size1u (w : World) : (sizeOf 5).run Tryz.prog w = .ok 1 w := by
  have hI := u8info
  cases hi : Tryz.prog.info? 5 with
  | none => rw [hi] at hI; simp at hI
  | some i =>
    rw [hi] at hI
    simp only [Option.map_some, Option.some.injEq, Prod.mk.injEq] at hI
    simp [sizeOf, typeInfo, hi, hI.2.1]
theorem run_tail1 {W : World} {a : Addr} {n cap : Nat} (h1 : 1 ≤ n) :
    (Instr.sliceAt 40 (.slice (some a) n cap) (some (.int .i64 1)) none none).run Tryz.prog W = .ok (.slice (some (if cap = 1 then a else a.add 1)) (n - 1) (cap - 1)) W := by
  have ht := Tryz.underlying40
  have he : Tryz.prog.elem 40 = 5 := by simp [Program.elem, ht]
  have := run_slice_l W 40 (some a) n cap (by rw [he]; exact ht) .i64 1 (by omega) (by omega)
  rw [run_sliceAt_slice W 40 _ _ _ _ (by rw [he]; exact ht), this, he, size1u]
  simp only [Result.andThen_ok, sliced]
  by_cases hc : cap = 1
  · simp [hc]
  · simp [hc]
def zeroC : CV := ⟨⟨#[]⟩, ⟨#[]⟩, ⟨#[]⟩, 0, [], false⟩
def CellAns (x : It) (c : CV) (kd : Int) : Prop :=
  (readL x.k = none ∧ c = zeroC ∧ kd = 5) ∨
  (readL x.k = some c.kv ∧ c.time < 18446744073709551616 ∧ kd = 0 ∧ ((x.v = [1] ∧ c.gone = true ∧ c.value = []) ∨ (x.v = 0 :: c.value ∧ c.value.length ≤ 256 ∧ c.gone = false))) ∨
  (readL x.k ≠ none ∧ x.v ≠ [1] ∧ isValB x.v = false ∧ c = zeroC ∧ kd = 3)
def CellPost (w : World) (x : It) (e : Ending) (w' : World) : Prop := ∃ (c : CA) (kd : Int), e = .returned (.tuple #[c.val, .int .i64 kd]) ∧ CellAns x c.c kd ∧ c.ok w' ∧ SlT w' ⟨c.va.ao, c.va.n, c.va.cap, c.va.xs⟩ ∧ Below w.heap.size w w'
theorem CellAns.unique {x : It} {c d : CV} {i j : Int} (h : CellAns x c i) (k : CellAns x d j) : c = d ∧ i = j := by
  rcases h with ⟨a1, rfl, rfl⟩ | ⟨a1, -, rfl, a2⟩ | ⟨a1, a2, a3, rfl, rfl⟩ <;> rcases k with ⟨b1, rfl, rfl⟩ | ⟨b1, -, rfl, b2⟩ | ⟨b1, b2, b3, rfl, rfl⟩
  · exact ⟨rfl, rfl⟩
  · rw [a1] at b1; simp at b1
  · exact absurd a1 b1
  · rw [a1] at b1; simp at b1
  · rw [a1] at b1
    obtain ⟨h1, h2, h3, h4⟩ := CV.kv_eq (Option.some.inj b1)
    have hh : c.gone = d.gone ∧ c.value = d.value := by
      rcases a2 with ⟨e1, e2, e3⟩ | ⟨e1, e2, e3⟩ <;> rcases b2 with ⟨g1, g2, g3⟩ | ⟨g1, g2, g3⟩
      · exact ⟨by rw [e2, g2], by rw [e3, g3]⟩
      · rw [e1] at g1; simp at g1
      · rw [e1] at g1; simp at g1
      · rw [e1] at g1; exact ⟨by rw [e3, g3], by simpa using g1⟩
    obtain ⟨h5, h6⟩ := hh
    refine ⟨?_, rfl⟩
    cases c; cases d
    simp only at h1 h2 h3 h4 h5 h6
    subst h1 h2 h3 h4 h5 h6
    rfl
  · rcases a2 with ⟨e1, -, -⟩ | ⟨e1, e2, -⟩
    · exact absurd e1 b2
    · rw [e1] at b3; simp [isValB] at b3; omega
  · exact absurd b1 a1
  · rcases b2 with ⟨e1, -, -⟩ | ⟨e1, e2, -⟩
    · exact absurd e1 a2
    · rw [e1] at a3; simp [isValB] at a3; omega
  · exact ⟨rfl, rfl⟩
theorem CellAns.itm {c : CV} (h : c.good) : CellAns (itm c) c 0 := by
  refine .inr (.inl ⟨readL_keyL c.kv (CV.kvByt h.time) h.right, h.time, rfl, ?_⟩)
  show (itV c = [1] ∧ _) ∨ _
  unfold itV
  cases hg : c.gone
  · exact .inr ⟨by show (if c.gone then _ else _) = _; rw [hg]; rfl, h.val, rfl⟩
  · exact .inl ⟨rfl, rfl, h.gone hg⟩
set_option maxHeartbeats 4000000 in
set_option maxRecDepth 100000 in
theorem tcell_any (w : World) (x : It) (ko vo : Option Addr) (kn kc vn vc : Nat) (hk : Sl w ko kn kc x.k) (hv : Sl w vo vn vc x.v) (hkn : kn ≤ 1000000) (hvn : vn ≤ 1000000) :
    Calls Tryz.prog 83 #[.agg #[.slice ko kn kc, .slice vo vn vc]] w (CellPost w x) := by
  obtain ⟨W1, hW1⟩ : ∃ V, V = w.alloc (.cells #[.slice ko kn kc, .slice vo vn vc] 101) := ⟨_, rfl⟩
  obtain ⟨W2, hW2⟩ : ∃ V, V = W1.alloc (.cells #[.string ⟨#[]⟩, .string ⟨#[]⟩, .string ⟨#[]⟩, .int .u64 0, .slice none 0 0, .bool false] 69) := ⟨_, rfl⟩
  have B1 : Below w.heap.size w W1 := by rw [hW1]; exact (Below.refl _ _).alloc (Nat.le_refl _) _
  have C2 : Below W1.heap.size W1 W2 := by rw [hW2]; exact (Below.refl _ _).alloc (Nat.le_refl _) _
  have B2 := B1.trans (C2.mono B1.size)
  have s1 : W1.heap.size = w.heap.size + 1 := by rw [hW1]; exact Array.size_push ..
  have A1' : Arr W1 w.heap.size 101 [.slice ko kn kc, .slice vo vn vc] := by rw [hW1]; exact heap_alloc_new w _
  have I2 := arr_below A1' C2
  have R2 : Arr W2 (w.heap.size + 1) 69 [.string ⟨#[]⟩, .string ⟨#[]⟩, .string ⟨#[]⟩, .int .u64 0, .slice none 0 0, .bool false] := by rw [hW2, ← s1]; exact heap_alloc_new W1 _
  have CR := pread_any W2 ko kn kc x.k (hk.below B2) hkn
  clear A1' s1 C2 B1
  go_enter Tryz.func83, Tryz.ntmps83
  go_wp2_with fail
  rw [← hW1, ← hW2]
  clear hW1 hW2
  refine CR.mono ?_
  rintro e w3 ⟨RP, C3⟩
  have B3 := B2.trans (C3.mono B2.size)
  have I3 := arr_below I2 C3
  have R3 := arr_below R2 C3
  have lt3 := R3.lt
  clear CR I2 R2
  cases hrd : readL x.k with
  | none =>
    rw [hrd] at RP
    obtain rfl : e = .returned (.tuple #[zeroK.val, .int .i64 5]) := RP
    unfold KA.val zeroK
    have R4 := R3
    have r0 : w3.cell? ⟨w.heap.size + 1, 0, none⟩ = some (.string ⟨#[]⟩) := R4.cell 0
    have f0 := R4.free 0
    have r1 : w3.cell? ⟨w.heap.size + 1, 1, none⟩ = some (.string ⟨#[]⟩) := R4.cell 1
    have f1 := R4.free 1
    have r2 : w3.cell? ⟨w.heap.size + 1, 2, none⟩ = some (.string ⟨#[]⟩) := R4.cell 2
    have f2 := R4.free 2
    have r3 : w3.cell? ⟨w.heap.size + 1, 3, none⟩ = some (.int .u64 0) := R4.cell 3
    have f3 := R4.free 3
    have r4 : w3.cell? ⟨w.heap.size + 1, 4, none⟩ = some (.slice none 0 0) := R4.cell 4
    have f4 := R4.free 4
    have r5 : w3.cell? ⟨w.heap.size + 1, 5, none⟩ = some (.bool false) := R4.cell 5
    have f5 := R4.free 5
    have HRD : Hid (readL x.k = none) := hrd
    clear hrd
    go_wp2
    exact bodyPost_ret (v := .tuple #[.agg #[.string ⟨#[]⟩, .string ⟨#[]⟩, .string ⟨#[]⟩, .int .u64 0, .slice none 0 0, .bool false], .int .i64 5]) (by simp [results, Tryz.results83, go_sem, r0, r1, r2, r3, r4, r5, lt3]) rfl ⟨⟨⟨#[]⟩, ⟨#[]⟩, ⟨#[]⟩, 0, ⟨none, 0, 0, []⟩, false⟩, 5, rfl, .inl ⟨HRD.out, rfl, rfl⟩, ⟨Nat.zero_le _, Nat.zero_le _, Nat.zero_le _, by decide, Sl.nothing _⟩, ⟨Sl.nothing _, fun a ha => by simp at ha⟩, Wr.below B3 ((((((((Wr.refl _ _).set 0 _).set 1 _).set 2 _).set 3 _).set 4 _).set 5 _).alloc _) B3.size (Nat.le_succ _)⟩
  | some kv =>
    rw [hrd] at RP
    obtain ⟨k, rfl, hkv, hko⟩ : ∃ k : KA, e = .returned (.tuple #[k.val, .int .i64 0]) ∧ k.kv = kv ∧ k.ok := RP
    have HRD : Hid (readL x.k = some k.kv) := by show _ = _; rw [hrd, hkv]
    clear hrd hkv
    unfold KA.val
    obtain ⟨w4, hw4⟩ : ∃ V, V = w3.alloc (.cells #[.string k.row, .string k.fam, .string k.qual, .int .u64 k.time] 39) := ⟨_, rfl⟩
    have C4 : Below w3.heap.size w3 w4 := by rw [hw4]; exact (Below.refl _ _).alloc (Nat.le_refl _) _
    have I4 := arr_below I3 C4
    have R4 := arr_below R3 C4
    have K4 : Arr w4 w3.heap.size 39 [.string k.row, .string k.fam, .string k.qual, .int .u64 k.time] := by rw [hw4]; exact heap_alloc_new w3 _
    have i1 : (w3.alloc (.cells #[.string k.row, .string k.fam, .string k.qual, .int .u64 k.time] 39)).cell? ⟨w.heap.size, 1, none⟩ = some (.slice vo vn vc) := by rw [← hw4]; exact I4.cell 1
    have s4 : w4.heap.size = w3.heap.size + 1 := by rw [hw4]; exact Array.size_push ..
    obtain ⟨w5, hw5⟩ : ∃ V, V = w4.alloc (.cells #[.int .u8 1] 5) := ⟨_, rfl⟩
    have C5 : Below w4.heap.size w4 w5 := by rw [hw5]; exact (Below.refl _ _).alloc (Nat.le_refl _) _
    have S5 : Sl w5 (some ⟨w3.heap.size + 1, 0, none⟩) 1 1 [1] := by rw [hw5, ← s4]; exact Sl.one w4 1 (by omega)
    have B5 := (B3.trans (C4.mono B3.size)).trans (C5.mono (by have := B3.size; have := C4.size; omega))
    have I5 := arr_below I4 C5
    have R5 := arr_below R4 C5
    have K5 := arr_below K4 C5
    have CE := pequal_any w5 vo (some ⟨w3.heap.size + 1, 0, none⟩) vn vc 1 1 x.v [1] (hv.below B5) S5
    go_wp2_with fail
    rw [← hw4, ← hw5]
    refine CE.mono ?_
    rintro e w6 ⟨rfl, hw6⟩
    obtain rfl := hw6.symm
    clear CE hw4 hw5 S5 s4 I4 R4 K4 C4 C5 i1 I3 R3
    have i1 : w5.cell? ⟨w.heap.size, 1, none⟩ = some (.slice vo vn vc) := I5.cell 1
    have q0 : w5.cell? ⟨w3.heap.size, 0, none⟩ = some (.string k.row) := K5.cell 0
    have q1 : w5.cell? ⟨w3.heap.size, 1, none⟩ = some (.string k.fam) := K5.cell 1
    have q2 : w5.cell? ⟨w3.heap.size, 2, none⟩ = some (.string k.qual) := K5.cell 2
    have q3 : w5.cell? ⟨w3.heap.size, 3, none⟩ = some (.int .u64 k.time) := K5.cell 3
    have lt5 := R5.lt
    by_cases hx : x.v = [1]
    · have HX : Hid (x.v = [1]) := hx
      rw [decide_eq_true hx]
      clear hx
      have r0 : w5.cell? ⟨w.heap.size + 1, 0, none⟩ = some (.string ⟨#[]⟩) := R5.cell 0
      have f0 := R5.free 0
      have r1 : w5.cell? ⟨w.heap.size + 1, 1, none⟩ = some (.string ⟨#[]⟩) := R5.cell 1
      have f1 := R5.free 1
      have r2 : w5.cell? ⟨w.heap.size + 1, 2, none⟩ = some (.string ⟨#[]⟩) := R5.cell 2
      have f2 := R5.free 2
      have r3 : w5.cell? ⟨w.heap.size + 1, 3, none⟩ = some (.int .u64 0) := R5.cell 3
      have f3 := R5.free 3
      have r4 : w5.cell? ⟨w.heap.size + 1, 4, none⟩ = some (.slice none 0 0) := R5.cell 4
      have f4 := R5.free 4
      have r5 : w5.cell? ⟨w.heap.size + 1, 5, none⟩ = some (.bool false) := R5.cell 5
      have f5 := R5.free 5
      go_wp2
      exact bodyPost_ret (v := .tuple #[.agg #[.string k.row, .string k.fam, .string k.qual, .int .u64 k.time, .slice none 0 0, .bool true], .int .i64 0]) (by simp [results, Tryz.results83, go_sem, r0, r1, r2, r3, r4, r5]) rfl ⟨⟨k.row, k.fam, k.qual, k.time, ⟨none, 0, 0, []⟩, true⟩, 0, rfl, .inr (.inl ⟨HRD.out, hko.time, rfl, .inl ⟨HX.out, rfl, rfl⟩⟩), ⟨hko.row, hko.fam, hko.qual, hko.time, Sl.nothing _⟩, ⟨Sl.nothing _, fun a ha => by simp at ha⟩, Wr.below B5 ((((((((Wr.refl _ _).set 0 _).set 1 _).set 2 _).set 3 _).set 4 _).set 5 _)) B5.size (Nat.le_succ _)⟩
    · have HX : Hid (¬ x.v = [1]) := hx
      rw [decide_eq_false hx]
      clear hx
      have CV := isval_any w5 vo vn vc x.v (hv.below B5) hvn
      go_wp2_with fail
      refine CV.mono ?_
      rintro e w6 ⟨rfl, hw6⟩
      obtain rfl := hw6.symm
      clear CV
      cases hb : isValB x.v with
      | false =>
        have HB : Hid (isValB x.v = false) := hb
        clear hb
        have r0 : w5.cell? ⟨w.heap.size + 1, 0, none⟩ = some (.string ⟨#[]⟩) := R5.cell 0
        have f0 := R5.free 0
        have r1 : w5.cell? ⟨w.heap.size + 1, 1, none⟩ = some (.string ⟨#[]⟩) := R5.cell 1
        have f1 := R5.free 1
        have r2 : w5.cell? ⟨w.heap.size + 1, 2, none⟩ = some (.string ⟨#[]⟩) := R5.cell 2
        have f2 := R5.free 2
        have r3 : w5.cell? ⟨w.heap.size + 1, 3, none⟩ = some (.int .u64 0) := R5.cell 3
        have f3 := R5.free 3
        have r4 : w5.cell? ⟨w.heap.size + 1, 4, none⟩ = some (.slice none 0 0) := R5.cell 4
        have f4 := R5.free 4
        have r5 : w5.cell? ⟨w.heap.size + 1, 5, none⟩ = some (.bool false) := R5.cell 5
        have f5 := R5.free 5
        go_wp2
        exact bodyPost_ret (v := .tuple #[.agg #[.string ⟨#[]⟩, .string ⟨#[]⟩, .string ⟨#[]⟩, .int .u64 0, .slice none 0 0, .bool false], .int .i64 3]) (by simp [results, Tryz.results83, go_sem, r0, r1, r2, r3, r4, r5]) rfl ⟨⟨⟨#[]⟩, ⟨#[]⟩, ⟨#[]⟩, 0, ⟨none, 0, 0, []⟩, false⟩, 3, rfl, .inr (.inr ⟨by rw [HRD.out]; simp, HX.out, HB.out, rfl, rfl⟩), ⟨Nat.zero_le _, Nat.zero_le _, Nat.zero_le _, by decide, Sl.nothing _⟩, ⟨Sl.nothing _, fun a ha => by simp at ha⟩, Wr.below B5 ((((((((Wr.refl _ _).set 0 _).set 1 _).set 2 _).set 3 _).set 4 _).set 5 _)) B5.size (Nat.le_succ _)⟩
      | true =>
        obtain ⟨ys, hxy, hyl⟩ : ∃ ys, x.v = 0 :: ys ∧ ys.length ≤ 256 := by
          cases hxv : x.v with
          | nil => rw [hxv] at hb; simp [isValB] at hb
          | cons b v =>
            rw [hxv] at hb
            have := of_decide_eq_true hb
            exact ⟨v, by rw [this.1], this.2⟩
        have HY : Hid (x.v = 0 :: ys) := hxy
        have hv5 := hv.below B5
        have hvl := hv5.len
        rw [hxy] at hv5 hvl
        have hv1 : 1 ≤ vn := by simp at hvl; omega
        obtain ⟨vb, vf, rfl, -⟩ := hv5.at (by omega)
        have SS := hv5.cut 1 hv1
        rw [show (0 :: ys).drop 1 = ys from rfl] at SS
        obtain ⟨so, hso⟩ : ∃ so, so = some (if vc = 1 then (⟨vb, vf, none⟩ : Addr) else (⟨vb, vf, none⟩ : Addr).add 1) := ⟨_, rfl⟩
        have HSL : Hid (∀ W, (Instr.sliceAt 40 (.slice (some ⟨vb, vf, none⟩) vn vc) (some (.int .i64 1)) none none).run Tryz.prog W = .ok (.slice so (vn - 1) (vc - 1)) W) := fun W => by rw [hso]; exact run_tail1 hv1
        rw [← hso] at SS
        obtain ⟨sc, hsc⟩ : ∃ sc, sc = vc - 1 := ⟨_, rfl⟩
        rw [← hsc] at SS HSL
        clear hb hxy hvl hv5 hso hsc
        go_wp2
        have zHS : Hid (∀ V, Below w5.heap.size w5 V → V.cell? ⟨w.heap.size, 1, none⟩ = some (.slice (some ⟨vb, vf, none⟩) vn vc) ∧ V.cell? ⟨w3.heap.size, 0, none⟩ = some (.string k.row) ∧ V.cell? ⟨w3.heap.size, 1, none⟩ = some (.string k.fam) ∧ V.cell? ⟨w3.heap.size, 2, none⟩ = some (.string k.qual) ∧ V.cell? ⟨w3.heap.size, 3, none⟩ = some (.int .u64 k.time)) := fun V hV => ⟨(hV.cell (World.block_lt_of_cell? _ _ i1)).trans i1, (hV.cell (World.block_lt_of_cell? _ _ q0)).trans q0, (hV.cell (World.block_lt_of_cell? _ _ q1)).trans q1, (hV.cell (World.block_lt_of_cell? _ _ q2)).trans q2, (hV.cell (World.block_lt_of_cell? _ _ q3)).trans q3⟩
        have zE0 : Below w5.heap.size w5 w5.drew := (Below.refl _ _).drew
        refine wp_region_noPanic ?_
        refine wp_region_held_drew (S := fun V => V.cell? ⟨w.heap.size, 1, none⟩ = some (.slice (some ⟨vb, vf, none⟩) vn vc) ∧ V.cell? ⟨w3.heap.size, 0, none⟩ = some (.string k.row) ∧ V.cell? ⟨w3.heap.size, 1, none⟩ = some (.string k.fam) ∧ V.cell? ⟨w3.heap.size, 2, none⟩ = some (.string k.qual) ∧ V.cell? ⟨w3.heap.size, 3, none⟩ = some (.int .u64 k.time)) (by kernel_rfl) (zHS.out _ zE0) (fun zH0 => ?_)
        obtain ⟨zv0, hv0⟩ : ∃ v, v = w5.drew := ⟨_, rfl⟩
        rw [← hv0] at zH0 zE0 ⊢
        clear hv0
        refine hr_take_w 0 (some 27) (.agg #[.string k.row, .string k.fam, .string k.qual, .int .u64 k.time]) rfl rfl (by kernel_rfl) (by kernel_rfl) (by kernel_rfl) rfl (fun W hW => by obtain ⟨h0, h1, h2, h3, h4⟩ := hW; go_simp) zH0 ?_
        simp only [FL]
        refine hr_take_w 1 (some 28) (.pointer (some ⟨w.heap.size, 1, none⟩)) rfl rfl (by kernel_rfl) (by kernel_rfl) (by kernel_rfl) rfl (fun W hW => by obtain ⟨h0, h1, h2, h3, h4⟩ := hW; go_simp) zH0 ?_
        simp only [FL]
        refine hr_take_w 2 (some 29) (.slice (some ⟨vb, vf, none⟩) vn vc) rfl rfl (by kernel_rfl) (by kernel_rfl) (by kernel_rfl) rfl (fun W hW => by obtain ⟨h0, h1, h2, h3, h4⟩ := hW; go_simp) zH0 ?_
        simp only [FL]
        refine hr_take_w 3 (some 30) (.slice so (vn - 1) sc) rfl rfl (by kernel_rfl) (by kernel_rfl) (by kernel_rfl) rfl (fun W hW => by obtain ⟨h0, h1, h2, h3, h4⟩ := hW; simp [execOp, Act.eval, HSL.out]) zH0 ?_
        simp only [FL]
        refine hr_call_w 4 (some 31) 131 #[.slice so (vn - 1) sc] rfl rfl (by kernel_rfl) rfl (by go_simp) (fun v w' => ∃ ro rc, v = .slice ro (vn - 1) rc ∧ (SlT w' ⟨ro, vn - 1, rc, ys⟩) ∧ Below zv0.heap.size zv0 w') ((bcloneT_any zv0 so (vn - 1) sc ys (SS.below zE0) (by omega)).mono (by
          rintro e w' ⟨ro, rc, rfl, F, C⟩
          exact ⟨_, rfl, ro, rc, rfl, F, C⟩)) ?_
        rintro v zv1 ⟨ro, rc, rfl, zF0, zC0⟩
        have zE1 := zE0.trans (zC0.mono zE0.size)
        have zH1 := zHS.out zv1 zE1
        refine ⟨zH1, ?_⟩
        simp only [FL]
        refine hr_take_w 5 (some 32) (.agg #[.string k.row, .string k.fam, .string k.qual, .int .u64 k.time, .slice ro (vn - 1) rc, .bool false]) rfl rfl (by kernel_rfl) (by kernel_rfl) (by kernel_rfl) rfl (fun W hW => by obtain ⟨h0, h1, h2, h3, h4⟩ := hW; go_simp) zH1 ?_
        simp only [FL]
        have B6 := B5.trans (zE1.mono B5.size)
        have R6 := arr_below R5 zE1
        have r0 : zv1.cell? ⟨w.heap.size + 1, 0, none⟩ = some (.string ⟨#[]⟩) := R6.cell 0
        have f0 := R6.free 0
        have r1 : zv1.cell? ⟨w.heap.size + 1, 1, none⟩ = some (.string ⟨#[]⟩) := R6.cell 1
        have f1 := R6.free 1
        have r2 : zv1.cell? ⟨w.heap.size + 1, 2, none⟩ = some (.string ⟨#[]⟩) := R6.cell 2
        have f2 := R6.free 2
        have r3 : zv1.cell? ⟨w.heap.size + 1, 3, none⟩ = some (.int .u64 0) := R6.cell 3
        have f3 := R6.free 3
        have r4 : zv1.cell? ⟨w.heap.size + 1, 4, none⟩ = some (.slice none 0 0) := R6.cell 4
        have f4 := R6.free 4
        have r5 : zv1.cell? ⟨w.heap.size + 1, 5, none⟩ = some (.bool false) := R6.cell 5
        have f5 := R6.free 5
        have KW : Wr (w.heap.size + 1) zv1 ((((((zv1.setCell ⟨w.heap.size + 1, 0, none⟩ (.string k.row)).setCell ⟨w.heap.size + 1, 1, none⟩ (.string k.fam)).setCell ⟨w.heap.size + 1, 2, none⟩ (.string k.qual)).setCell ⟨w.heap.size + 1, 3, none⟩ (.int .u64 k.time)).setCell ⟨w.heap.size + 1, 4, none⟩ (.slice ro (vn - 1) rc)).setCell ⟨w.heap.size + 1, 5, none⟩ (.bool false)) := ((((((((Wr.refl _ _).set 0 _).set 1 _).set 2 _).set 3 _).set 4 _).set 5 _))
        have zH2 : ((((((zv1.setCell ⟨w.heap.size + 1, 0, none⟩ (.string k.row)).setCell ⟨w.heap.size + 1, 1, none⟩ (.string k.fam)).setCell ⟨w.heap.size + 1, 2, none⟩ (.string k.qual)).setCell ⟨w.heap.size + 1, 3, none⟩ (.int .u64 k.time)).setCell ⟨w.heap.size + 1, 4, none⟩ (.slice ro (vn - 1) rc)).setCell ⟨w.heap.size + 1, 5, none⟩ (.bool false)).cell? ⟨w.heap.size, 1, none⟩ = some (.slice (some ⟨vb, vf, none⟩) vn vc) ∧ ((((((zv1.setCell ⟨w.heap.size + 1, 0, none⟩ (.string k.row)).setCell ⟨w.heap.size + 1, 1, none⟩ (.string k.fam)).setCell ⟨w.heap.size + 1, 2, none⟩ (.string k.qual)).setCell ⟨w.heap.size + 1, 3, none⟩ (.int .u64 k.time)).setCell ⟨w.heap.size + 1, 4, none⟩ (.slice ro (vn - 1) rc)).setCell ⟨w.heap.size + 1, 5, none⟩ (.bool false)).cell? ⟨w3.heap.size, 0, none⟩ = some (.string k.row) ∧ ((((((zv1.setCell ⟨w.heap.size + 1, 0, none⟩ (.string k.row)).setCell ⟨w.heap.size + 1, 1, none⟩ (.string k.fam)).setCell ⟨w.heap.size + 1, 2, none⟩ (.string k.qual)).setCell ⟨w.heap.size + 1, 3, none⟩ (.int .u64 k.time)).setCell ⟨w.heap.size + 1, 4, none⟩ (.slice ro (vn - 1) rc)).setCell ⟨w.heap.size + 1, 5, none⟩ (.bool false)).cell? ⟨w3.heap.size, 1, none⟩ = some (.string k.fam) ∧ ((((((zv1.setCell ⟨w.heap.size + 1, 0, none⟩ (.string k.row)).setCell ⟨w.heap.size + 1, 1, none⟩ (.string k.fam)).setCell ⟨w.heap.size + 1, 2, none⟩ (.string k.qual)).setCell ⟨w.heap.size + 1, 3, none⟩ (.int .u64 k.time)).setCell ⟨w.heap.size + 1, 4, none⟩ (.slice ro (vn - 1) rc)).setCell ⟨w.heap.size + 1, 5, none⟩ (.bool false)).cell? ⟨w3.heap.size, 2, none⟩ = some (.string k.qual) ∧ ((((((zv1.setCell ⟨w.heap.size + 1, 0, none⟩ (.string k.row)).setCell ⟨w.heap.size + 1, 1, none⟩ (.string k.fam)).setCell ⟨w.heap.size + 1, 2, none⟩ (.string k.qual)).setCell ⟨w.heap.size + 1, 3, none⟩ (.int .u64 k.time)).setCell ⟨w.heap.size + 1, 4, none⟩ (.slice ro (vn - 1) rc)).setCell ⟨w.heap.size + 1, 5, none⟩ (.bool false)).cell? ⟨w3.heap.size, 3, none⟩ = some (.int .u64 k.time) := ⟨KW.cell zH1.1 (by show w.heap.size ≠ _; omega), KW.cell zH1.2.1 (by show w3.heap.size ≠ _; omega), KW.cell zH1.2.2.1 (by show w3.heap.size ≠ _; omega), KW.cell zH1.2.2.2.1 (by show w3.heap.size ≠ _; omega), KW.cell zH1.2.2.2.2 (by show w3.heap.size ≠ _; omega)⟩
        refine hr_skip 6 none (w' := ((((((zv1.setCell ⟨w.heap.size + 1, 0, none⟩ (.string k.row)).setCell ⟨w.heap.size + 1, 1, none⟩ (.string k.fam)).setCell ⟨w.heap.size + 1, 2, none⟩ (.string k.qual)).setCell ⟨w.heap.size + 1, 3, none⟩ (.int .u64 k.time)).setCell ⟨w.heap.size + 1, 4, none⟩ (.slice ro (vn - 1) rc)).setCell ⟨w.heap.size + 1, 5, none⟩ (.bool false))) rfl rfl (by kernel_rfl) rfl (by go_simp) zH2 ?_
        simp only [Act.put]
        refine hr_take_w 7 (some 3) (.int .i64 0) rfl rfl (by kernel_rfl) (by kernel_rfl) (by kernel_rfl) rfl (fun W hW => by obtain ⟨h0, h1, h2, h3, h4⟩ := hW; go_simp) zH2 ?_
        simp only [FL]
        refine wpAnyH_done (by kernel_rfl) ?_ _
        refine NoPanic.normal ?_
        have SY := zF0.kp (KpB.wr R6 (by decide) KW)
        have BX := Wr.below B6 KW B6.size (Nat.le_succ _)
        go_wp2
        exact bodyPost_ret (v := .tuple #[.agg #[.string k.row, .string k.fam, .string k.qual, .int .u64 k.time, .slice ro (vn - 1) rc, .bool false], .int .i64 0]) (by simp [results, Tryz.results83, go_sem, r0, r1, r2, r3, r4, r5]) rfl ⟨⟨k.row, k.fam, k.qual, k.time, ⟨ro, vn - 1, rc, ys⟩, false⟩, 0, rfl, .inr (.inl ⟨HRD.out, hko.time, rfl, .inr ⟨HY.out, hyl, rfl⟩⟩), ⟨hko.row, hko.fam, hko.qual, hko.time, SY.1⟩, SY, BX⟩
end Go.Proofs.YthlpccajnmkbjaaGreatDoor
namespace Go
theorem exec_copy {P : Program} {a : Act} {w w' : World} {o : Oper} {d s : Operand} {t t' ty : TypeId} {v u v' : Value} (ho : o.op = .call { callee := .builtin .copy, args := #[d, s], argTypes := #[t, t'] }) (hd : a.eval d = v) (hs : a.eval s = u) (ht : o.type = ty)
    (hr : (Builtin.copy_ #[t, t'] ty #[v, u]).run P w = .ok v' w') : (execOp a.eval o).run P w = .ok (.value v') w' := by
  unfold execOp
  simp only [ho, ht, resolve, invoke, builtin, Sem.run_bind, Sem.run_pure, Result.andThen_ok, List.map_toArray, List.map_cons, List.map_nil, hd, hs, hr]
end Go
namespace Go.Proofs.YthlpccajnmkbjaaGreatDoor
open Go.RowKit
set_option maxRecDepth 100000 in
set_option maxHeartbeats 4000000 in
theorem pmul64_one (w : World) : Calls Tryz.prog 176 #[.int .u64 1, .int .u64 33] w fun e w' => e = .returned (.tuple #[.int .u64 0, .int .u64 33]) ∧ w' = w := by
  go_enter Tryz.func176, Tryz.ntmps176
  go_wp2
  go_ret2
  exact ⟨rfl, rfl⟩
set_option maxRecDepth 100000 in
set_option maxHeartbeats 4000000 in
theorem pmul_one (w : World) : Calls Tryz.prog 156 #[.int .u64 1, .int .u64 33] w fun e w' => e = .returned (.tuple #[.int .u64 0, .int .u64 33]) ∧ w' = w := by
  go_enter Tryz.func156, Tryz.ntmps156
  go_wp2_with fail
  refine (pmul64_one w).mono ?_
  rintro e w' ⟨rfl, hw⟩
  obtain rfl := hw.symm
  go_wp2
  go_ret2
  exact ⟨rfl, rfl⟩
set_option maxRecDepth 100000 in
set_option maxHeartbeats 4000000 in
theorem prep_any (w : World) (ad : Addr) (h : Sl w (some ad) 1 1 [255]) :
    Calls Tryz.prog 125 #[.slice (some ad) 1 1, .int .i64 33] w fun e w' => ∃ ao n c, e = .returned (.slice ao n c) ∧ Sl w' ao n c (List.replicate 33 255) ∧ Below w.heap.size w w' := by
  obtain ⟨cs, hrunM, hle, _⟩ := Lib.run_makeNoZero (P := Tryz.prog) w #[3] 40 5 Tryz.underlying40 33 (by omega)
  have hcall : (callFunc 157 #[.int .i64 33]).run Tryz.prog w = .ok (.value (.slice (some ⟨w.heap.size, 0, none⟩) 33 cs.size)) ((w.alloc (.cells cs 5)).drewN 2) := by
    rw [run_callFunc_extern Tryz.func157 (by kernel_rfl) (by kernel_rfl) (by kernel_rfl) (e := Extern.BytealgMakeNoZero.makeNoZero #[3] #[40]) (by kernel_rfl)]
    have e33 : ((33 : Nat) : Int) = 33 := rfl
    rw [e33] at hrunM
    rw [hrunM]
    rfl
  clear hrunM
  have hle2 : (33 : Int) ≤ (cs.size : Int) := by omega
  go_enter Tryz.func125, Tryz.ntmps125
  go_wp2_with fail
  refine (pmul_one w).mono ?_
  rintro e w' ⟨rfl, hw⟩
  obtain rfl := hw.symm
  have e0 : ((w.alloc (.cells cs 5)).drewN 2).heap[w.heap.size]? = some (.cells cs.toList.toArray 5 (0, 0)) := by simpa using heap_alloc_new w (.cells cs 5)
  have B0 : Below w.heap.size w ((w.alloc (.cells cs 5)).drewN 2) := belN ((Below.refl _ w).alloc (Nat.le_refl _) _) 2
  have c0 : ((w.alloc (.cells cs 5)).drewN 2).cell? (ad.add 0) = some (.int .u8 255) := by
    have := (h.below B0).cell ad rfl 0 (by omega)
    simpa using this
  obtain ⟨w3, hr, H3, B3⟩ : ∃ w3, (Builtin.copy_ #[40, 40] 3 #[.slice (some ⟨w.heap.size, 0, none⟩) 33 33, .slice (some ad) 1 1]).run Tryz.prog ((w.alloc (.cells cs 5)).drewN 2) = .ok (.int .i64 1) w3 ∧ Hid (w3.heap[w.heap.size]? = some (.cells (splice cs.toList 0 [Value.int .u8 255]).toArray 5 (0, 0))) ∧ Below w.heap.size w w3 := by
    have hrun := run_copy_row (P := Tryz.prog) ((w.alloc (.cells cs 5)).drewN 2) 40 40 3 5 w.heap.size 0 33 33 ad 1 1 cs.toList.toArray 5 [.int .u8 255] Tryz.underlying40 (by kernel_rfl) e0 rfl (fun j v hj => by
      cases j with
      | zero => simp at hj; subst hj; exact c0
      | succ j => simp at hj) (by simp; omega) (by intro v hv; rw [List.mem_singleton.1 hv]; rfl)
    exact ⟨_, hrun, (show _ = _ by simpa [splice] using setRow_heap _ w.heap.size _ _ 5 _ e0), below_setRow B0 (Nat.le_refl _) _⟩
  have L3 : (splice cs.toList 0 [Value.int .u8 255]).length = cs.size := by rw [length_splice _ _ _ (by simp; omega)]; simp
  have T3 : (splice cs.toList 0 [Value.int .u8 255]).take 1 = List.replicate 1 (.int .u8 255) := by simp [splice]
  obtain ⟨cur3, hcur⟩ : ∃ c, c = splice cs.toList 0 [Value.int .u8 255] := ⟨_, rfl⟩
  rw [← hcur] at H3 L3 T3
  have HT3 : Hid (cur3.take 1 = List.replicate 1 (.int .u8 255)) := T3
  clear hcur T3 c0 e0 B0
  obtain ⟨N, hN⟩ : ∃ N, N = w.heap.size := ⟨_, rfl⟩
  go_wp2_with fail
  clear hr hcall
  rw [← hN] at H3 B3 ⊢
  have HN : Hid (N = w.heap.size) := hN
  clear hN
  go_loopw [10, 11] (fun i _ wr => ∃ (j : Nat) (cur : List Value), 1 ≤ j ∧ j ≤ 33 ∧ i = .int .i64 j ∧ Hid (wr.heap[N]? = some (.cells cur.toArray 5 (0, 0))) ∧ 33 ≤ cur.length ∧ Hid (cur.take j = List.replicate j (.int .u8 255)) ∧ Below N w wr) (fun i _ _ => 33 - (intOf i).toNat)
  case atStart => exact ⟨1, cur3, by omega, by omega, rfl, H3, by omega, HT3, B3⟩
  case round =>
    clear H3 HT3 B3
    obtain ⟨j, cur, h1, h33, rfl, H, hl, T, B⟩ := hrel
    by_cases l : j < 33
    · have il : (j : Int) < 33 := by omega
      have il2 : (j : Int) ≤ 33 := by omega
      obtain ⟨m, hm⟩ : ∃ m, m = Nat.min j (33 - j) := ⟨_, rfl⟩
      have hm1 : 1 ≤ m ∧ m ≤ j ∧ j + m ≤ 33 := by rw [hm]; simp only [Nat.min_def]; split <;> omega
      have HH := H.out
      have HT := T.out
      have q : ∀ i, i < j → wr.drew.cell? ⟨N, i, none⟩ = some (.int .u8 255) := fun i hi => by
        have e : wr.drew.heap[N]? = some (.cells cur.toArray 5 (0, 0)) := HH
        rw [cell_of_row wr.drew N i _ _ _ e]
        have h2 : (cur.take j)[i]? = (List.replicate j (Value.int .u8 255))[i]? := by rw [HT]
        rw [List.getElem?_take_of_lt hi] at h2
        simpa [hi] using h2
      obtain ⟨w4, hr, H4, B4⟩ : ∃ w4, (Builtin.copy_ #[40, 40] 3 #[.slice (some ⟨N, j, none⟩) (33 - j) (33 - j), .slice (some ⟨N, 0, none⟩) j 33]).run Tryz.prog wr.drew = .ok (.int .i64 m) w4 ∧ Hid (w4.heap[N]? = some (.cells (splice cur j (List.replicate m (Value.int .u8 255))).toArray 5 (0, 0))) ∧ Below N w w4 := by
        have e : wr.drew.heap[N]? = some (.cells cur.toArray 5 (0, 0)) := HH
        have hrun := run_copy_row (P := Tryz.prog) wr.drew 40 40 3 5 N j (33 - j) (33 - j) ⟨N, 0, none⟩ j 33 cur.toArray 5 (List.replicate m (Value.int .u8 255)) Tryz.underlying40 (by kernel_rfl) e (by rw [List.length_replicate]; exact hm) (fun i v hi => by
          have hi2 : i < m := by
            have := (List.getElem?_eq_some_iff.1 hi).1
            simpa using this
          have hv : v = .int .u8 255 := by simpa [hi2] using hi.symm
          rw [hv, Addr.add_lit, Nat.zero_add]
          exact q i (by omega)) (by simp; omega) (by intro v hv; rw [List.eq_of_mem_replicate hv]; rfl)
        rw [List.length_replicate] at hrun
        exact ⟨_, hrun, (show _ = _ by simpa [splice] using setRow_heap _ N _ _ 5 _ e), below_setRow B.drew (Nat.le_refl _) _⟩
      have L4 : 33 ≤ (splice cur j (List.replicate m (Value.int .u8 255))).length := by rw [length_splice _ _ _ (by simp; omega)]; omega
      have T4 : Hid ((splice cur j (List.replicate m (Value.int .u8 255))).take (j + m) = List.replicate (j + m) (.int .u8 255)) := by
        show _ = _
        have hjl : (cur.take j).length = j := by rw [List.length_take]; omega
        unfold splice
        rw [HT, ← List.append_assoc, List.replicate_append_replicate, List.take_append_of_le_length (by simp), List.take_of_length_le (by simp)]
      obtain ⟨cur4, hc4⟩ : ∃ c, c = splice cur j (List.replicate m (Value.int .u8 255)) := ⟨_, rfl⟩
      rw [← hc4] at H4 L4 T4
      clear hc4 H T q HH HT hm
      have e1 : ((j : Int) + (m : Int)) ≤ 33 := by omega
      have e0 : (0 : Int) ≤ (j : Int) := by omega
      have z1 : ¬ 33 = j := by omega
      have z2 : ¬ j = 0 := by omega
      go_wp2_with fail
      refine wp_region_noPanic ?_
      refine wp_region_held_drew (S := fun _ => True) (by kernel_rfl) trivial (fun _ => ?_)
      refine hr_take 0 (some 67) (.int .i64 j) rfl rfl (by kernel_rfl) (by kernel_rfl) (by kernel_rfl) rfl (fun W _ => by go_simp) trivial ?_
      simp only [FL]
      refine hr_take 1 (some 68) (.slice (some ⟨N, 0, none⟩) 33 33) rfl rfl (by kernel_rfl) (by kernel_rfl) (by kernel_rfl) rfl (fun W _ => by go_simp) trivial ?_
      simp only [FL]
      refine hr_take 2 (some 69) (.int .i64 j) rfl rfl (by kernel_rfl) (by kernel_rfl) (by kernel_rfl) rfl (fun W _ => by go_simp) trivial ?_
      simp only [FL]
      refine hr_take 3 (some 70) (.slice (some ⟨N, j, none⟩) (33 - j) (33 - j)) rfl rfl (by kernel_rfl) (by kernel_rfl) (by kernel_rfl) rfl (fun W _ => by go_simp) trivial ?_
      simp only [FL]
      refine hr_take 4 (some 71) (.slice (some ⟨N, 0, none⟩) 33 33) rfl rfl (by kernel_rfl) (by kernel_rfl) (by kernel_rfl) rfl (fun W _ => by go_simp) trivial ?_
      simp only [FL]
      refine hr_take 5 (some 72) (.int .i64 j) rfl rfl (by kernel_rfl) (by kernel_rfl) (by kernel_rfl) rfl (fun W _ => by go_simp) trivial ?_
      simp only [FL]
      refine hr_take 6 (some 73) (.slice (some ⟨N, 0, none⟩) j 33) rfl rfl (by kernel_rfl) (by kernel_rfl) (by kernel_rfl) rfl (fun W _ => by go_simp) trivial ?_
      simp only [FL]
      refine hr_do 7 (some 74) (.int .i64 m) rfl rfl (by kernel_rfl) rfl (w' := w4) (exec_copy rfl rfl rfl rfl hr) trivial ?_
      simp only [FL]
      refine hr_take 8 (some 75) (.int .i64 ((j + m : Nat) : Int)) rfl rfl (by kernel_rfl) (by kernel_rfl) (by kernel_rfl) rfl (fun W _ => by (go_simp; rw [IntKind.wrap_i64]; omega)) trivial ?_
      simp only [FL]
      refine hr_take 9 (some 10) (.int .i64 ((j + m : Nat) : Int)) rfl rfl (by kernel_rfl) (by kernel_rfl) (by kernel_rfl) rfl (fun W _ => by go_simp) trivial ?_
      simp only [FL]
      refine wpAnyH_done (by kernel_rfl) ?_ _
      refine NoPanic.normal ?_
      go_wp2
      go_roundw
      case rel => exact ⟨j + m, cur4, by omega, by omega, rfl, H4, L4, T4, B4⟩
      case measure => simp [intOf]; omega
    · obtain rfl : j = 33 := by omega
      have S : Sl wr (some ⟨N, 0, none⟩) 33 33 (List.replicate 33 255) := by
        refine ⟨by simp, Nat.le_refl _, by decide, fun h => by simp at h, fun a ha i hi => ?_, fun x hx => by have := List.eq_of_mem_replicate hx; omega⟩
        obtain rfl := Option.some.inj ha
        rw [Addr.add_lit, Nat.zero_add, cell_of_row wr N i _ _ _ H.out]
        have h2 : (cur.take 33)[i]? = (List.replicate 33 (Value.int .u8 255))[i]? := by rw [T.out]
        have h3 : (List.replicate 33 (255 : Int)).getD i 0 = 255 := by rw [List.getD, List.getElem?_replicate, if_pos hi]; rfl
        rw [List.getElem?_take_of_lt hi, List.getElem?_replicate, if_pos hi] at h2
        rw [h3, ← h2]
        simp
      clear H T
      go_wp2
      go_ret
      exact ⟨_, _, _, rfl, S, by rw [← HN.out]; exact B⟩
open Go.RowKit
set_option maxHeartbeats 2000000 in
set_option maxRecDepth 100000 in
theorem prows_any (w : World) (f t : ByteArray) (h1 : f.size ≤ 32) (h2 : t.size ≤ 32) :
    Calls Tryz.prog 81 #[.string f, .string t] w fun e w' => ∃ ao n c bo m d, e = .returned (.tuple #[.slice ao n c, .slice bo m d, .int .i64 0]) ∧ Sl w' ao n c (nm (sb f)) ∧ Sl w' bo m d (hiL (sb t)) ∧ Below w.heap.size w w' := by
  have i1 : (f.size : Int) ≤ 32 := by omega
  have i2 : (t.size : Int) ≤ 32 := by omega
  go_enter Tryz.func81, Tryz.ntmps81
  go_wp2_with fail
  refine (pname_any w w.heap.size _ 0 [] f (World.ownsRow_nil _ _ _ _) (Nat.le_refl _) (by omega) (by omega)).mono ?_
  rintro e w1 ⟨v1, rfl, O1, B1⟩
  rw [Nat.zero_add, List.nil_append] at O1
  obtain ⟨ao, c, rfl, S1, -⟩ := Sl.own O1 (nm_byte _ (sb_byte f))
  clear O1
  have s1 := B1.size
  go_wp2_with fail
  refine (pname_any w1 w1.heap.size _ 0 [] t (World.ownsRow_nil _ _ _ _) (Nat.le_refl _) (by omega) (by omega)).mono ?_
  rintro e w2 ⟨v2, rfl, O2, C2⟩
  rw [Nat.zero_add, List.nil_append] at O2
  obtain ⟨bo, d, rfl, S2, -⟩ := Sl.own O2 (nm_byte _ (sb_byte t))
  have S1' := S1.below C2
  have B2 := B1.trans (C2.mono s1)
  have s2 := B2.size
  clear O2 C2 S1 B1
  by_cases ht : t.size = 0
  · have et := empty_of ht
    have e0 : (t.toList == (ByteArray.mk #[]).toList) = true := by rw [et]; simp
    have ee : t.toList.isEmpty = true := by rw [toE]; exact decide_eq_true ht
    have hh : hiL (sb t) = List.replicate 33 255 := by unfold hiL; rw [if_pos (sb_nil ht)]
    have HH : Hid (hiL (sb t) = List.replicate 33 255) := hh
    have S0 : Sl (w2.alloc (.cells #[.int .u8 255] 5)) (some ⟨w2.heap.size, 0, none⟩) 1 1 [255] := Sl.one w2 255 (by omega)
    clear et e0 hh
    go_wp2_with fail
    refine (prep_any _ _ S0).mono ?_
    rintro e w3 ⟨go, gn, gc, rfl, S3, C3⟩
    have C0 : Below w2.heap.size w2 (w2.alloc (.cells #[.int .u8 255] 5)) := (Below.refl _ w2).alloc (Nat.le_refl _) _
    have B : Below w2.heap.size w2 w3 := C0.trans (C3.mono C0.size)
    have S4 : Sl w3 go gn gc (hiL (sb t)) := by rw [HH.out]; exact S3
    clear S3 HH
    go_wp2
    go_ret3
    exact ⟨_, _, _, _, _, _, rfl, S1'.below B, S4, B2.trans (B.mono s2)⟩
  · have e0 : (t.toList == (ByteArray.mk #[]).toList) = false := toL_ne (fun h => ht (by rw [h]; rfl))
    have e1 : (t.toList == []) = false := by rw [← e0]; congr 1; simp
    have ee : t.toList.isEmpty = false := by rw [toE]; exact decide_eq_false ht
    have hh : hiL (sb t) = nm (sb t) := by
      unfold hiL
      rw [if_neg (fun h => ht (by rw [← sb_len, h]; rfl))]
    have S3 : Sl w2 bo (nm (sb t)).length d (hiL (sb t)) := by rw [hh]; exact S2
    go_wp2
    go_ret3
    exact ⟨_, _, _, _, _, _, rfl, S1', S3, B2⟩
open Go.RowKit
theorem run_append_own2 {P : Program} (w : World) (base : Nat) (t ty e : TypeId) (i : TypeInfo) (z : Value) (size bytes : Nat) (ht : P.underlying t = some (.slice e)) (hi : P.info? e = some i) (hz : i.zero = some z)
    (hsize : i.size = size) (hby : i.bytes = bytes) (hzs : z.cells.size = size) (hsz : 0 < size)
    (v : Value) (n : Nat) (xs : List Value) (hown : w.ownsRow base e size v n xs)
    (a : Addr) (m c : Nat) (news : List Value) (hl : news.length = m * size) (hnews : ∀ j u, news[j]? = some u → w.cell? (a.add j) = some u) (h1 : ∀ u ∈ news, u.oneCell' = true)
    (h63 : n + m ≤ maxLen) (hbytes : (n + m) * bytes ≤ 140737488355328) (hbase : base ≤ w.heap.size) :
    ∃ v' w', (Builtin.append_ #[t, t] ty #[v, .slice (some a) m c]).run P w = .ok v' w' ∧ w'.ownsRow base e size v' (n + m) (xs ++ news) ∧ w.grownBy w' v.ownBlock ∧
      ∀ g, v'.ownBlock = some g → v.ownBlock = some g ∨ w.heap.size ≤ g := by
  obtain ⟨v', w', hr, ho, hg, _⟩ := run_append_own (P := P) w base t ty e i z size bytes ht hi hz hsize hby hzs hsz v n xs hown a m c news hl hnews h1 h63 hbytes hbase
  refine ⟨v', w', hr, ho, hg, ?_⟩
  have hsmall : n + m ≤ 9223372036854775807 := by simp only [maxLen] at h63; omega
  subst hsize
  subst hby
  rcases hown.2 with ⟨rfl, rfl⟩ | ⟨g, cap, cur, rfl, hbg, hgc, hnc, hcm, hcs, htake⟩
  · have hown2 : w.ownsRow w.heap.size e i.size (.slice none 0 0) 0 xs := ⟨hown.1, .inl ⟨rfl, rfl⟩⟩
    obtain ⟨v2, w2, hr2, ho2, _, _⟩ := run_append_own (P := P) w w.heap.size t ty e i z i.size i.bytes ht hi hz rfl rfl hzs hsz _ 0 xs hown2 a m c news hl hnews h1 h63 hbytes (Nat.le_refl _)
    rw [hr] at hr2
    simp only [Result.ok.injEq] at hr2
    obtain ⟨rfl, rfl⟩ := hr2
    intro g hgv
    exact .inr (ho2.lt g hgv).1
  · by_cases hroom : n + m ≤ cap
    · have hfit : n * i.size + news.length ≤ cur.size := by rw [hl, hcs, ← Nat.add_mul]; exact Nat.mul_le_mul_right _ hroom
      have hr2 := run_append_room (P := P) w t ty e i ht hi g n cap cur hgc a m c news hl hnews h1 hroom hfit
      rw [hr] at hr2
      simp only [Result.ok.injEq] at hr2
      obtain ⟨rfl, rfl⟩ := hr2
      intro g' hg'
      exact .inl hg'
    · have holds : ∀ j u, xs[j]? = some u → w.cell? ((⟨g, 0, none⟩ : Addr).add j) = some u := hown.cells (g := g) rfl
      have hr2 := run_append_grow (P := P) w t ty e i z ht hi hz ⟨g, 0, none⟩ n cap xs hown.1 holds a m c news hl hnews (by omega) (by omega) (growslice_fits (by omega) hbytes)
      rw [hr] at hr2
      simp only [Result.ok.injEq] at hr2
      obtain ⟨rfl, rfl⟩ := hr2
      intro g' hg'
      simp only [Value.ownBlock, Option.some.injEq] at hg'
      exact .inr (by omega)
open Go.RowKit
theorem cellInfo : (Tryz.prog.info? 69).map (fun i => (i.zero, i.size, i.bytes)) = some (some (.agg #[.string ⟨#[]⟩, .string ⟨#[]⟩, .string ⟨#[]⟩, .int .u64 0, .slice none 0 0, .bool false]), 6, 88) := by kernel_rfl
theorem flat_get {α : Type} (f : α → List Value) (s : Nat) (hs : ∀ x, (f x).length = s) : ∀ (l : List α) (i j : Nat) (hi : i < l.length), j < s → (l.map f).flatten[i * s + j]? = (f l[i])[j]?
  | [], i, _, hi, _ => by simp at hi
  | a :: l, 0, j, _, hj => by
    rw [List.map_cons, List.flatten_cons, Nat.zero_mul, Nat.zero_add, List.getElem?_append_left (by rw [hs]; exact hj)]
    rfl
  | a :: l, i + 1, j, hi, hj => by
    have e : (i + 1) * s + j = s + (i * s + j) := by rw [Nat.add_mul]; omega
    rw [List.map_cons, List.flatten_cons, e, List.getElem?_append_right (by rw [hs]; omega), hs, Nat.add_sub_cancel_left]
    exact flat_get f s hs l i j (by simpa using hi) hj
theorem flat_len {α : Type} (f : α → List Value) (s : Nat) (hs : ∀ x, (f x).length = s) : ∀ l : List α, (l.map f).flatten.length = l.length * s
  | [] => by simp
  | a :: l => by
    rw [List.map_cons, List.flatten_cons, List.length_append, hs, flat_len f s hs l, List.length_cons, Nat.add_mul]
    omega
def cellsC (l : List CA) : List Value := (l.map CA.cells).flatten
theorem CL.own {w : World} {base : Nat} {v : Value} {n : Nat} {l : List CA} (h : w.ownsRow base 69 6 v n (cellsC l)) (hok : ∀ o ∈ l, o.ok w) : ∃ ao cap, v = .slice ao n cap ∧ CL w ao n cap l := by
  have hl : l.length = n := by
    have := h.1
    unfold cellsC at this
    rw [flat_len CA.cells 6 (fun _ => rfl)] at this
    omega
  rcases h.2 with ⟨rfl, rfl⟩ | ⟨g, cap, cur, rfl, a1, a2, a3, a4, a5, a6⟩
  · exact ⟨none, 0, rfl, hl, Nat.le_refl _, Nat.zero_le _, fun _ => ⟨rfl, rfl⟩, fun _ h => by simp at h, fun y hy => hok y hy⟩
  · refine ⟨some ⟨g, 0, none⟩, cap, rfl, hl, a3, a4, fun h => by simp at h, fun a ha i hi j u hu => ?_, fun y hy => hok y hy⟩
    obtain rfl := Option.some.inj ha
    have hj : j < 6 := (List.getElem?_eq_some_iff.1 hu).1
    refine h.cells (g := g) rfl (i * 6 + j) u ?_
    unfold cellsC
    rw [flat_get CA.cells 6 (fun _ => rfl) l i j hi hj]
    exact hu
theorem c_one (y : CA) : ∀ u ∈ y.cells, u.oneCell' = true := by
  intro u hu
  unfold CA.cells at hu
  simp only [List.mem_cons, List.not_mem_nil, or_false] at hu
  rcases hu with rfl | rfl | rfl | rfl | rfl | rfl <;> rfl
open Go.RowKit
structure CRow (W : World) (base : Nat) (v : Value) (l : List CA) : Prop where
  row : W.ownsRow base 69 6 v l.length (cellsC l)
  ok : ∀ c ∈ l, c.ok W
  sl : ∀ c ∈ l, SlT W ⟨c.va.ao, c.va.n, c.va.cap, c.va.xs⟩
theorem CRow.nil (W : World) (base : Nat) : CRow W base (.slice none 0 0) [] := ⟨World.ownsRow_nil _ _ _ _, fun _ h => by simp at h, fun _ h => by simp at h⟩
theorem CRow.below {W W' : World} {base : Nat} {v : Value} {l : List CA} (h : CRow W base v l) (hb : Below W.heap.size W W') : CRow W' base v l :=
  ⟨own_below h.row hb, fun c hc => (h.ok c hc).below hb, fun c hc => (h.sl c hc).kp (KpB.below hb)⟩
theorem CRow.cl {W : World} {base : Nat} {v : Value} {l : List CA} (h : CRow W base v l) : ∃ ao cap, v = .slice ao l.length cap ∧ CL W ao l.length cap l := CL.own h.row h.ok
theorem cellsC_snoc (l : List CA) (c : CA) : cellsC (l ++ [c]) = cellsC l ++ c.cells := by simp [cellsC]
theorem wpList_appC {w : World} {ops : Array Oper} {rest : List Oper} {o : Oper} {a : Act} {Q : Exit → Act → World → Prop} (hgd : o.guard = none) (s x : Operand)
    (ho : o.op = .call { callee := .builtin .append, args := #[s, x], argTypes := #[30, 30] })
    (base : Nat) (v : Value) (l : List CA) (hs : a.eval s = v) (hown : CRow w base v l)
    (g cp : Nat) (c : CA) (hx : a.eval x = .slice (some ⟨g, 0, none⟩) 1 cp) (hc : w.heap[g]? = some (.cells #[.string c.row, .string c.fam, .string c.qual, .int .u64 c.time, .slice c.va.ao c.va.n c.va.cap, .bool c.gone] 69)) (hok : c.ok w) (hsl : SlT w ⟨c.va.ao, c.va.n, c.va.cap, c.va.xs⟩) (hn : l.length ≤ 1000000) (hbase : base ≤ w.heap.size)
    (h : ∀ v' w', CRow w' base v' (l ++ [c]) → Below base w w' → wpList Tryz.prog ops Q rest (a.put o.dst v') w') : wpList Tryz.prog ops Q (o :: rest) a w := by
  obtain ⟨i0, hi, hz0, hz1, hz2⟩ := info_parts cellInfo
  refine wpList_append_own w hgd s x 30 ho base 69 i0 _ 6 88 Tryz.underlying30 hi hz0 hz1 hz2 rfl (by decide) v l.length (cellsC l) hs hown.row ⟨g, 0, none⟩ 1 cp c.cells hx rfl
    (fun j u hu => by
      rw [Addr.add_lit, Nat.zero_add, cell_of_row w g j _ _ _ hc]
      simpa [CA.cells] using hu) (c_one c) (by unfold maxLen; omega) (by omega) hbase ?_
  intro v' w' h1 h2 _
  rw [← cellsC_snoc] at h1
  have kp := KpB.row hown.row (by decide) h2
  have okT : ∀ d : CA, d.ok w → SlT w ⟨d.va.ao, d.va.n, d.va.cap, d.va.xs⟩ → d.ok w' := fun d h3 h4 => ⟨h3.row, h3.fam, h3.qual, h3.time, (h4.kp kp).1⟩
  refine h v' w' ⟨by rw [List.length_append]; exact h1, fun d hd => ?_, fun d hd => ?_⟩ ((Below.refl _ w).grown h2 hbase (fun k hk => (hown.row.lt k hk).1))
  · rcases List.mem_append.1 hd with hd | hd
    · exact okT d (hown.ok d hd) (hown.sl d hd)
    · rw [List.mem_singleton.1 hd]; exact okT c hok hsl
  · rcases List.mem_append.1 hd with hd | hd
    · exact (hown.sl d hd).kp kp
    · rw [List.mem_singleton.1 hd]; exact hsl.kp kp
def AmPost (w : World) (cs : List CV) (e : Ending) (w' : World) : Prop := ∃ ao n cap l, e = .returned (.slice ao n cap) ∧ CL w' ao n cap l ∧ (∀ c ∈ l, SlT w' ⟨c.va.ao, c.va.n, c.va.cap, c.va.xs⟩) ∧ l.map CA.c = cs ∧ Below w.heap.size w w'
def AmRow (w : World) (cs : List CV) (e : Ending) (w' : World) : Prop := ∃ v base l, e = .returned v ∧ w.heap.size ≤ base ∧ CRow w' base v l ∧ l.map CA.c = cs ∧ Below w.heap.size w w'
theorem AmRow.post {w w' : World} {cs : List CV} {e : Ending} (h : AmRow w cs e w') : AmPost w cs e w' := by
  obtain ⟨v, base, l, rfl, -, R, hl, B⟩ := h
  obtain ⟨ao, cap, rfl, hcl⟩ := R.cl
  exact ⟨ao, l.length, cap, l, rfl, hcl, R.sl, hl, B⟩
def Tells (w : World) (g : Nat) (lb : Array Value) (pr : CV → Bool) : Prop := ∀ (W : World) (c : CA), Below w.heap.size w W → c.ok W → Calls Tryz.prog g ((#[.agg #[.string c.row, .string c.fam, .string c.qual, .int .u64 c.time, .slice c.va.ao c.va.n c.va.cap, .bool c.gone]] : Array Value) ++ lb) W fun e W' => e = .returned (.bool (pr c.c)) ∧ Below W.heap.size W W'
set_option maxHeartbeats 4000000 in
set_option maxRecDepth 100000 in
theorem among_row (w : World) (p : Nat) (f t : ByteArray) (cs : List CV) (a b : ByteArray) (g : Nat) (lb : Array Value) (pr : CV → Bool) (eg : ∀ args w, (callFunc g args).run Tryz.prog w = .ok (.enter g args) w)
    (hT : TB w p f t cs) (hs : CSrt cs) (hg : CGood cs) (ha : a.size ≤ 32) (hb : b.size ≤ 32) (hn : cs.length ≤ 1000) (hand : Tells w g lb pr) :
    Calls Tryz.prog 49 #[.pointer (some ⟨p, 0, none⟩), .string a, .string b, .func (.func g) #[] lb] w (AmRow w (cs.filter fun c => inRows a b c.row && pr c)) := by
  have CR := prows_any w a b ha hb
  go_enter Tryz.func49, Tryz.ntmps49
  go_wp2_with fail
  refine CR.mono ?_
  rintro e w1 ⟨lo, ln, lc, ho, hn1, hc, rfl, S1, S2, B1⟩
  have T1 := hT.below B1
  obtain ⟨u, A1, TT1⟩ := T1
  have c2 : w1.cell? ⟨p, 2, none⟩ = some (.pointer u) := Arr.cell A1 2
  have CI := titems_any w1 (.pointer u) (cs.map itm) (nm (sb a)) (hiL (sb b)) lo ho ln lc hn1 hc 9223372036854775807 TT1 hs S1 S2 (by rw [List.length_map]; omega) (fun x hx => by
    obtain ⟨c, hc, rfl⟩ := List.mem_map.1 hx
    have h1 := keyL_le (hg c hc).right
    have h2 := itV_len c
    have h3 := (hg c hc).val
    exact ⟨by show (keyL c.kv).length ≤ _; omega, by show (itV c).length ≤ _; omega⟩)
  clear CR
  go_wp2_with fail
  refine CI.mono ?_
  rintro e w2 ⟨io, il, ic, ps, mt, rfl, I2, hps, -, C2⟩
  have B2 := B1.trans (C2.mono B1.size)
  obtain ⟨ds, hds⟩ : ∃ ds, ds = cs.filter fun c => inRows a b c.row := ⟨_, rfl⟩
  have HP : Hid (ps.map IP.it = ds.map itm) := by
    show _ = _
    rw [hps, btw_rows a b cs hg, ← hds, List.take_of_length_le]
    rw [List.length_map, hds]
    have := List.length_filter_le (fun c => inRows a b c.row) cs
    omega
  have HG : Hid (∀ c ∈ ds, c.good) := fun c hc => by rw [hds] at hc; exact hg c (List.mem_filter.1 hc).1
  have HF : Hid ((cs.filter fun c => inRows a b c.row && pr c) = ds.filter pr) := by
    show _ = _
    rw [hds, List.filter_filter]
    congr 1
    funext c
    exact Bool.and_comm _ _
  have hil : il ≤ 1000 := by
    have h1 := congrArg List.length HP.out
    rw [List.length_map, List.length_map, I2.len, hds] at h1
    have := List.length_filter_le (fun c => inRows a b c.row) cs
    omega
  have hili : (il : Int) ≤ 1000 := by omega
  have hl1 := Nat.le_of_eq I2.len
  have hl2 := Nat.le_of_eq I2.len.symm
  have HH : Hid (Tells w g lb pr) := hand
  clear CI hps hds c2 A1 TT1 S1 S2 hT hs hg hn hand C2 B1
  go_wp2
  go_loopw [14, 38] (fun v i wr => ∃ (k : Nat) (l : List CA), k ≤ il ∧ i = .int .i64 k ∧ CRow wr w2.heap.size v l ∧ Hid (l.map CA.c = (ds.take k).filter pr) ∧ l.length ≤ k ∧ Below w2.heap.size w2 wr) (fun _ i _ => il - (intOf i).toNat)
  case atStart => exact ⟨0, [], Nat.zero_le _, rfl, CRow.nil _ _, rfl, Nat.le_refl _, Below.refl _ _⟩
  case round =>
    obtain ⟨k, l, hk, rfl, R0, HL, hlk, B0⟩ := hrel
    by_cases hlt : k < il
    · have hki : (k : Int) < (il : Int) := by omega
      have hkp : k < ps.length := by omega
      have hkd : k < ds.length := by have := congrArg List.length HP.out; rw [List.length_map, List.length_map] at this; omega
      obtain ⟨ib, io', hio, hcell⟩ := I2.at (by omega)
      subst hio
      obtain ⟨z1, z2⟩ := hcell k hkp
      have hq := I2.sl _ (List.getElem_mem hkp)
      have hqi : ps[k].it = itm ds[k] := by
        have h3 : (ps.map IP.it)[k]? = (ds.map itm)[k]? := by rw [HP.out]
        rw [List.getElem?_map, List.getElem?_map, List.getElem?_eq_getElem hkp, List.getElem?_eq_getElem hkd] at h3
        simpa using h3
      have hgd := HG.out _ (List.getElem_mem hkd)
      have HTK : Hid (ds.take (k + 1) = ds.take k ++ [ds[k]]) := List.take_succ_eq_append_getElem hkd
      obtain ⟨q, hqe⟩ : ∃ q, q = ps[k] := ⟨_, rfl⟩
      obtain ⟨d, hde⟩ : ∃ d, d = ds[k] := ⟨_, rfl⟩
      rw [← hqe] at z1 z2 hq hqi
      rw [← hde] at hqi hgd HTK
      unfold Part.val at z1 z2
      have z1 := (B0.cell (World.block_lt_of_cell? _ _ z1)).trans z1
      have z2 := (B0.cell (World.block_lt_of_cell? _ _ z2)).trans z2
      clear hcell hqe hde
      obtain ⟨W3, hW3⟩ : ∃ V, V = wr.alloc (.cells #[.slice q.k.ao q.k.n q.k.cap, .slice q.v.ao q.v.n q.v.cap] 101) := ⟨_, rfl⟩
      have C3 : Below wr.heap.size wr W3 := by rw [hW3]; exact (Below.refl _ _).alloc (Nat.le_refl _) _
      have B3 := B0.trans (C3.mono B0.size)
      have sk := hq.1.below B3
      have sv := hq.2.below B3
      have hk1 : q.k.xs = (itm d).k := congrArg It.k hqi
      have hv1 : q.v.xs = (itm d).v := congrArg It.v hqi
      rw [hk1] at sk
      rw [hv1] at sv
      have hkn : q.k.n ≤ 1000000 := by rw [← sk.len]; have := keyL_le hgd.right; show (keyL d.kv).length ≤ _; omega
      have hvn : q.v.n ≤ 1000000 := by rw [← sv.len]; have := itV_len d; have := hgd.val; show (itV d).length ≤ _; omega
      have CE := tcell_any W3 (itm d) q.k.ao q.v.ao q.k.n q.k.cap q.v.n q.v.cap sk sv hkn hvn
      clear hqi hk1 hv1
      go_wp2_with fail
      rw [← hW3]
      refine CE.mono ?_
      rintro e w4 ⟨c, kd, rfl, CA4, ok4, sl4, C4⟩
      obtain ⟨hcd, rfl⟩ := CA4.unique (CellAns.itm hgd)
      have HCD : Hid (c.c = d) := hcd
      have B4 := B3.trans (C4.mono B3.size)
      have R4 := R0.below (C3.trans (C4.mono C3.size))
      unfold CA.val
      clear CE CA4 hcd sk sv hq hW3 z1 z2 hkn hvn
      obtain ⟨W5, hW5⟩ : ∃ V, V = w4.alloc (.cells #[.string c.row, .string c.fam, .string c.qual, .int .u64 c.time, .slice c.va.ao c.va.n c.va.cap, .bool c.gone] 69) := ⟨_, rfl⟩
      have C5 : Below w4.heap.size w4 W5 := by rw [hW5]; exact (Below.refl _ _).alloc (Nat.le_refl _) _
      have A5 : Arr W5 w4.heap.size 69 (#[.string c.row, .string c.fam, .string c.qual, .int .u64 c.time, .slice c.va.ao c.va.n c.va.cap, .bool c.gone]).toList := by rw [hW5]; exact heap_alloc_new w4 _
      have B5 := B4.trans (C5.mono B4.size)
      have R5 := R4.below C5
      have ok5 := ok4.below C5
      have sl5 := sl4.kp (KpB.below C5)
      have CH := HH.out W5 c (B2.trans (B5.mono B2.size)) ok5
      rw [HCD.out] at CH
      clear R4 ok4 sl4 R0
      go_wp2_with fail
      rw [← hW5]
      refine CH.mono ?_
      rintro e w6 ⟨rfl, C6⟩
      have B6 := B5.trans (C6.mono B5.size)
      have R6 := R5.below C6
      have ok6 := ok5.below C6
      have sl6 := sl5.kp (KpB.below C6)
      have A6 := arr_below A5 C6
      clear CH A5 R5 ok5 sl5 C5 C6 hW5
      cases hpr : pr d with
      | false =>
        have HL2 : Hid (l.map CA.c = (ds.take (k + 1)).filter pr) := by
          show _ = _
          rw [HTK.out, List.filter_append, HL.out]
          simp [hpr]
        clear hpr
        go_wp2
        go_roundw
        case rel => exact ⟨k + 1, l, by omega, by go_num, R6, HL2, by omega, B6⟩
        case measure => simp [intOf]; omega
      | true =>
        have HL2 : Hid ((l ++ [c]).map CA.c = (ds.take (k + 1)).filter pr) := by
          show _ = _
          rw [HTK.out, List.filter_append, List.map_append, HL.out, List.map_cons, HCD.out]
          simp [hpr]
        have q0 : w6.cell? ⟨w4.heap.size, 0, none⟩ = some (.string c.row) := A6.cell 0
        have q1 : w6.cell? ⟨w4.heap.size, 1, none⟩ = some (.string c.fam) := A6.cell 1
        have q2 : w6.cell? ⟨w4.heap.size, 2, none⟩ = some (.string c.qual) := A6.cell 2
        have q3 : w6.cell? ⟨w4.heap.size, 3, none⟩ = some (.int .u64 c.time) := A6.cell 3
        have q4 : w6.cell? ⟨w4.heap.size, 4, none⟩ = some (.slice c.va.ao c.va.n c.va.cap) := A6.cell 4
        have q5 : w6.cell? ⟨w4.heap.size, 5, none⟩ = some (.bool c.gone) := A6.cell 5
        have C7 : Below w6.heap.size w6 (w6.alloc (.cells #[.string c.row, .string c.fam, .string c.qual, .int .u64 c.time, .slice c.va.ao c.va.n c.va.cap, .bool c.gone] 69)) := (Below.refl _ _).alloc (Nat.le_refl _) _
        have hb7 : w2.heap.size ≤ (w6.alloc (.cells #[.string c.row, .string c.fam, .string c.qual, .int .u64 c.time, .slice c.va.ao c.va.n c.va.cap, .bool c.gone] 69)).heap.size := Nat.le_trans B6.size C7.size
        have B7 := B6.trans (C7.mono B6.size)
        clear hpr A6
        go_wp2_with (at_builtin; refine wpList_appC rfl (.tmp 54) (.tmp 56) rfl w2.heap.size _ l rfl (R6.below C7) w6.heap.size 1 c rfl (heap_alloc_new w6 _) (ok6.below C7) (sl6.kp (KpB.below C7)) (by omega) hb7 ?_; intro v8 w8 R8 D8; clear q0 q1 q2 q3 q4 q5)
        go_roundw
        case rel => exact ⟨k + 1, l ++ [c], by omega, by go_num, R8, HL2, by rw [List.length_append, List.length_singleton]; omega, B7.trans D8⟩
        case measure => simp [intOf]; omega
    · have hge : ¬ (k : Int) < (il : Int) := by omega
      have HLF : Hid (l.map CA.c = ds.filter pr) := by
        show _ = _
        rw [HL.out, List.take_of_length_le]
        have := congrArg List.length HP.out
        rw [List.length_map, List.length_map] at this
        omega
      have hsz := B2.size
      go_wp2
      go_ret
      exact ⟨_, w2.heap.size, l, rfl, hsz, R0, by rw [HF.out, HLF.out], B2.trans (B0.mono B2.size)⟩
theorem among_any (w : World) (p : Nat) (f t : ByteArray) (cs : List CV) (a b : ByteArray) (g : Nat) (lb : Array Value) (pr : CV → Bool) (eg : ∀ args w, (callFunc g args).run Tryz.prog w = .ok (.enter g args) w)
    (hT : TB w p f t cs) (hs : CSrt cs) (hg : CGood cs) (ha : a.size ≤ 32) (hb : b.size ≤ 32) (hn : cs.length ≤ 1000) (hand : Tells w g lb pr) :
    Calls Tryz.prog 49 #[.pointer (some ⟨p, 0, none⟩), .string a, .string b, .func (.func g) #[] lb] w (AmPost w (cs.filter fun c => inRows a b c.row && pr c)) :=
  (among_row w p f t cs a b g lb pr eg hT hs hg ha hb hn hand).mono fun _ _ h => h.post
open Go.RowKit
set_option maxRecDepth 100000 in
set_option maxHeartbeats 4000000 in
theorem pcolumn_any (w : World) (a b : KA) :
    Calls Tryz.prog 121 #[a.val, b.val] w fun e w' => e = .returned (.bool (a.col b)) ∧ Below w.heap.size w w' := by
  have B : Below w.heap.size w ((w.alloc (Obj.cells #[.string a.row, .string a.fam, .string a.qual, .int .u64 0] 39)).alloc (Obj.cells #[.string b.row, .string b.fam, .string b.qual, .int .u64 0] 39)) := ((Below.refl _ w).alloc (Nat.le_refl _) _).alloc (by simp) _
  unfold KA.val
  by_cases e1 : a.row = b.row
  · have t1 : (a.row.toList == b.row.toList) = true := by rw [e1]; simp
    by_cases e2 : a.fam = b.fam
    · have t2 : (a.fam.toList == b.fam.toList) = true := by rw [e2]; simp
      by_cases e3 : a.qual = b.qual
      · have t3 : (a.qual.toList == b.qual.toList) = true := by rw [e3]; simp
        have hv : Hid (a.col b = true) := decide_eq_true ⟨e1, e2, e3⟩
        clear e1 e2 e3
        go_enter Tryz.func121, Tryz.ntmps121
        go_wp2
        go_ret
        exact ⟨by rw [hv.out] <;> rfl, B⟩
      · have t3 := toL_ne e3
        have hv : Hid (a.col b = false) := decide_eq_false fun h => e3 h.2.2
        clear e1 e2 e3
        go_enter Tryz.func121, Tryz.ntmps121
        go_wp2
        go_ret
        exact ⟨by rw [hv.out] <;> rfl, B⟩
    · have t2 := toL_ne e2
      have hv : Hid (a.col b = false) := decide_eq_false fun h => e2 h.2.1
      clear e1 e2
      go_enter Tryz.func121, Tryz.ntmps121
      go_wp2
      go_ret
      exact ⟨by rw [hv.out] <;> rfl, B⟩
  · have t1 := toL_ne e1
    have hv : Hid (a.col b = false) := decide_eq_false fun h => e1 h.1
    clear e1
    go_enter Tryz.func121, Tryz.ntmps121
    go_wp2
    go_ret
    exact ⟨by rw [hv.out] <;> rfl, B⟩
end Go.Proofs.YthlpccajnmkbjaaGreatDoor

/-
  Texts in one: SpRSplit.
-/
import Derived.Test.YtlljmhcgjkolpaaGreatDoorSplitCutsQFL
import Derived.Test.YtlljmhcgjkolpaaGreatDoorSplitCutsQ29
import Derived.Test.YtlljmhcgjkolpaaGreatDoorSplitCutsQ22
namespace Go.Proofs.YtlljmhcgjkolpaaGreatDoor
open Go.RowKit
theorem arr_low {w w' : World} {q base : Nat} {ty : TypeId} {cs : List Value} (h : Arr w q ty cs) (hb : Below base w w') (hq : q < base) : Arr w' q ty cs := (hb.block q hq).trans h
def RSpPost (w : World) (f t a : ByteArray) (l : List CA) (e : Ending) (w' : World) : Prop :=
  (splitK f t a = 0 ∧ ∃ o1 n1 c1 o2 n2 c2, e = .returned (.tuple #[.agg #[.string f, .string a, .slice o1 n1 c1], .agg #[.string a, .string t, .slice o2 n2 c2], .int .i64 0]) ∧ CL w' o1 n1 c1 (l.filter fun c => inRows f a c.row) ∧ CL w' o2 n2 c2 (l.filter fun c => !inRows f a c.row) ∧ Below w.heap.size w w') ∨
  (splitK f t a ≠ 0 ∧ e = .returned (.tuple #[.agg #[.string ⟨#[]⟩, .string ⟨#[]⟩, .slice none 0 0], .agg #[.string ⟨#[]⟩, .string ⟨#[]⟩, .slice none 0 0], .int .i64 (splitK f t a)]) ∧ Below w.heap.size w w')
set_option maxHeartbeats 16000000 in
set_option maxRecDepth 100000 in
theorem rsplit_any (w : World) (f t a : ByteArray) (ao : Option Addr) (n cap : Nat) (l : List CA) (hf : Hid (f.size ≤ maxLen)) (ht : Hid (t.size ≤ maxLen)) (ha : Hid (a.size ≤ maxLen)) (L : CL w ao n cap l) (hn : n ≤ 1000) :
    Calls Tryz.prog 21 #[.agg #[.string f, .string t, .slice ao n cap], .string a] w (RSpPost w f t a l) := by
  have hl1 := Nat.le_of_eq L.len
  have hl2 := Nat.le_of_eq L.len.symm
  obtain ⟨W1, hW1⟩ : ∃ V, V = w.alloc (.cells #[.string f, .string t, .slice ao n cap] 39) := ⟨_, rfl⟩
  obtain ⟨W2, hW2⟩ : ∃ V, V = W1.alloc (.cells #[.string ⟨#[]⟩, .string ⟨#[]⟩, .slice none 0 0] 39) := ⟨_, rfl⟩
  obtain ⟨W3, hW3⟩ : ∃ V, V = W2.alloc (.cells #[.string ⟨#[]⟩, .string ⟨#[]⟩, .slice none 0 0] 39) := ⟨_, rfl⟩
  have C1 : Below w.heap.size w W1 := by rw [hW1]; exact (Below.refl _ _).alloc (Nat.le_refl _) _
  have C2 : Below W1.heap.size W1 W2 := by rw [hW2]; exact (Below.refl _ _).alloc (Nat.le_refl _) _
  have C3 : Below W2.heap.size W2 W3 := by rw [hW3]; exact (Below.refl _ _).alloc (Nat.le_refl _) _
  have z1 : W1.heap.size = w.heap.size + 1 := by rw [hW1]; exact Array.size_push ..
  have z2 : W2.heap.size = w.heap.size + 2 := by rw [hW2, ← show W1.heap.size + 1 = w.heap.size + 2 by omega]; exact Array.size_push ..
  have B2 := C1.trans (C2.mono C1.size)
  have B3 := B2.trans (C3.mono B2.size)
  have K3 : Arr W3 w.heap.size 39 [.string f, .string t, .slice ao n cap] := arr_below (arr_below (by rw [hW1]; exact heap_alloc_new w _ : Arr W1 w.heap.size 39 [.string f, .string t, .slice ao n cap]) C2) C3
  have R43 : Arr W3 (w.heap.size + 1) 39 [.string ⟨#[]⟩, .string ⟨#[]⟩, .slice none 0 0] := arr_below (by rw [← z1, hW2]; exact heap_alloc_new W1 _ : Arr W2 (w.heap.size + 1) 39 [.string ⟨#[]⟩, .string ⟨#[]⟩, .slice none 0 0]) C3
  have R53 : Arr W3 (w.heap.size + 2) 39 [.string ⟨#[]⟩, .string ⟨#[]⟩, .slice none 0 0] := by rw [← z2, hW3]; exact heap_alloc_new W2 _
  have hWW : W3 = ((w.alloc (.cells #[.string f, .string t, .slice ao n cap] 39)).alloc (.cells #[.string ⟨#[]⟩, .string ⟨#[]⟩, .slice none 0 0] 39)).alloc (.cells #[.string ⟨#[]⟩, .string ⟨#[]⟩, .slice none 0 0] 39) := by rw [hW3, hW2, hW1]
  clear hW1 hW2 hW3 C1 C2 C3 z1 z2 B2
  go_enter Tryz.func21, Tryz.ntmps21
  by_cases h0 : a.size < 1
  case pos =>
    have i0 : (a.size : Int) < 1 := by omega
    rw [hWW] at R43 R53 B3
    have r0 : (((w.alloc (.cells #[.string f, .string t, .slice ao n cap] 39)).alloc (.cells #[.string ⟨#[]⟩, .string ⟨#[]⟩, .slice none 0 0] 39)).alloc (.cells #[.string ⟨#[]⟩, .string ⟨#[]⟩, .slice none 0 0] 39)).cell? ⟨w.heap.size + 1, 0, none⟩ = some (.string ⟨#[]⟩) := R43.cell 0
    have rf0 := R43.free 0
    have r1 : (((w.alloc (.cells #[.string f, .string t, .slice ao n cap] 39)).alloc (.cells #[.string ⟨#[]⟩, .string ⟨#[]⟩, .slice none 0 0] 39)).alloc (.cells #[.string ⟨#[]⟩, .string ⟨#[]⟩, .slice none 0 0] 39)).cell? ⟨w.heap.size + 1, 1, none⟩ = some (.string ⟨#[]⟩) := R43.cell 1
    have rf1 := R43.free 1
    have r2 : (((w.alloc (.cells #[.string f, .string t, .slice ao n cap] 39)).alloc (.cells #[.string ⟨#[]⟩, .string ⟨#[]⟩, .slice none 0 0] 39)).alloc (.cells #[.string ⟨#[]⟩, .string ⟨#[]⟩, .slice none 0 0] 39)).cell? ⟨w.heap.size + 1, 2, none⟩ = some (.slice none 0 0) := R43.cell 2
    have rf2 := R43.free 2
    have rlt := R43.lt
    have s0 : (((w.alloc (.cells #[.string f, .string t, .slice ao n cap] 39)).alloc (.cells #[.string ⟨#[]⟩, .string ⟨#[]⟩, .slice none 0 0] 39)).alloc (.cells #[.string ⟨#[]⟩, .string ⟨#[]⟩, .slice none 0 0] 39)).cell? ⟨w.heap.size + 2, 0, none⟩ = some (.string ⟨#[]⟩) := R53.cell 0
    have sf0 := R53.free 0
    have s1 : (((w.alloc (.cells #[.string f, .string t, .slice ao n cap] 39)).alloc (.cells #[.string ⟨#[]⟩, .string ⟨#[]⟩, .slice none 0 0] 39)).alloc (.cells #[.string ⟨#[]⟩, .string ⟨#[]⟩, .slice none 0 0] 39)).cell? ⟨w.heap.size + 2, 1, none⟩ = some (.string ⟨#[]⟩) := R53.cell 1
    have sf1 := R53.free 1
    have s2 : (((w.alloc (.cells #[.string f, .string t, .slice ao n cap] 39)).alloc (.cells #[.string ⟨#[]⟩, .string ⟨#[]⟩, .slice none 0 0] 39)).alloc (.cells #[.string ⟨#[]⟩, .string ⟨#[]⟩, .slice none 0 0] 39)).cell? ⟨w.heap.size + 2, 2, none⟩ = some (.slice none 0 0) := R53.cell 2
    have sf2 := R53.free 2
    have slt := R53.lt
    have HK : Hid (splitK f t a = 1) := by show _ = _; unfold splitK; rw [if_pos (.inl (by omega))]
    have KB := B3
    go_wp2
    exact bodyPost_ret (v := .tuple #[.agg #[.string ⟨#[]⟩, .string ⟨#[]⟩, .slice none 0 0], .agg #[.string ⟨#[]⟩, .string ⟨#[]⟩, .slice none 0 0], .int .i64 1]) (by simp [results, Tryz.results21, go_sem, r0, r1, r2, s0, s1, s2]) rfl (.inr ⟨by rw [HK.out]; decide, by rw [HK.out], KB⟩)
  have i0 : ¬ (a.size : Int) < 1 := by omega
  by_cases h1 : 32 < a.size
  case pos =>
    have i1 : (32 : Int) < (a.size : Int) := by omega
    rw [hWW] at R43 R53 B3
    have r0 : (((w.alloc (.cells #[.string f, .string t, .slice ao n cap] 39)).alloc (.cells #[.string ⟨#[]⟩, .string ⟨#[]⟩, .slice none 0 0] 39)).alloc (.cells #[.string ⟨#[]⟩, .string ⟨#[]⟩, .slice none 0 0] 39)).cell? ⟨w.heap.size + 1, 0, none⟩ = some (.string ⟨#[]⟩) := R43.cell 0
    have rf0 := R43.free 0
    have r1 : (((w.alloc (.cells #[.string f, .string t, .slice ao n cap] 39)).alloc (.cells #[.string ⟨#[]⟩, .string ⟨#[]⟩, .slice none 0 0] 39)).alloc (.cells #[.string ⟨#[]⟩, .string ⟨#[]⟩, .slice none 0 0] 39)).cell? ⟨w.heap.size + 1, 1, none⟩ = some (.string ⟨#[]⟩) := R43.cell 1
    have rf1 := R43.free 1
    have r2 : (((w.alloc (.cells #[.string f, .string t, .slice ao n cap] 39)).alloc (.cells #[.string ⟨#[]⟩, .string ⟨#[]⟩, .slice none 0 0] 39)).alloc (.cells #[.string ⟨#[]⟩, .string ⟨#[]⟩, .slice none 0 0] 39)).cell? ⟨w.heap.size + 1, 2, none⟩ = some (.slice none 0 0) := R43.cell 2
    have rf2 := R43.free 2
    have rlt := R43.lt
    have s0 : (((w.alloc (.cells #[.string f, .string t, .slice ao n cap] 39)).alloc (.cells #[.string ⟨#[]⟩, .string ⟨#[]⟩, .slice none 0 0] 39)).alloc (.cells #[.string ⟨#[]⟩, .string ⟨#[]⟩, .slice none 0 0] 39)).cell? ⟨w.heap.size + 2, 0, none⟩ = some (.string ⟨#[]⟩) := R53.cell 0
    have sf0 := R53.free 0
    have s1 : (((w.alloc (.cells #[.string f, .string t, .slice ao n cap] 39)).alloc (.cells #[.string ⟨#[]⟩, .string ⟨#[]⟩, .slice none 0 0] 39)).alloc (.cells #[.string ⟨#[]⟩, .string ⟨#[]⟩, .slice none 0 0] 39)).cell? ⟨w.heap.size + 2, 1, none⟩ = some (.string ⟨#[]⟩) := R53.cell 1
    have sf1 := R53.free 1
    have s2 : (((w.alloc (.cells #[.string f, .string t, .slice ao n cap] 39)).alloc (.cells #[.string ⟨#[]⟩, .string ⟨#[]⟩, .slice none 0 0] 39)).alloc (.cells #[.string ⟨#[]⟩, .string ⟨#[]⟩, .slice none 0 0] 39)).cell? ⟨w.heap.size + 2, 2, none⟩ = some (.slice none 0 0) := R53.cell 2
    have sf2 := R53.free 2
    have slt := R53.lt
    have HK : Hid (splitK f t a = 1) := by show _ = _; unfold splitK; rw [if_pos (.inr h1)]
    have KB := B3
    go_wp2
    exact bodyPost_ret (v := .tuple #[.agg #[.string ⟨#[]⟩, .string ⟨#[]⟩, .slice none 0 0], .agg #[.string ⟨#[]⟩, .string ⟨#[]⟩, .slice none 0 0], .int .i64 1]) (by simp [results, Tryz.results21, go_sem, r0, r1, r2, s0, s1, s2]) rfl (.inr ⟨by rw [HK.out]; decide, by rw [HK.out], KB⟩)
  have i1 : ¬ (32 : Int) < (a.size : Int) := by omega
  have HN : Hid (¬ (a.size = 0 ∨ 32 < a.size)) := fun h => by omega
  have CT := text_any W3 f a hf.out ha.out
  have CU := fun V => text_any V a t ha.out ht.out
  obtain ⟨c, hc⟩ : ∃ c, c = cmpL (sb f) (sb a) := ⟨_, rfl⟩
  obtain ⟨d, hd⟩ : ∃ c, c = cmpL (sb a) (sb t) := ⟨_, rfl⟩
  rw [← hc] at CT
  rw [← hd] at CU
  have HCC : Hid (c = cmpL (sb f) (sb a)) := hc
  have HDD : Hid (d = cmpL (sb a) (sb t)) := hd
  obtain ⟨tb, htb⟩ : ∃ b, b = decide (t.size ≠ 0) := ⟨_, rfl⟩
  obtain ⟨te0, te1, te2⟩ := empty_facts t tb htb
  have HTB : Hid (tb = decide (t.size ≠ 0)) := htb
  have k0 : (((w.alloc (.cells #[.string f, .string t, .slice ao n cap] 39)).alloc (.cells #[.string ⟨#[]⟩, .string ⟨#[]⟩, .slice none 0 0] 39)).alloc (.cells #[.string ⟨#[]⟩, .string ⟨#[]⟩, .slice none 0 0] 39)).cell? ⟨w.heap.size, 0, none⟩ = some (.string f) := by rw [← hWW]; exact K3.cell 0
  clear hc hd htb
  go_wp2_with fail
  rw [← hWW]
  clear hWW k0
  refine CT.mono ?_
  rintro e w2 ⟨rfl, D2⟩
  have K2 := arr_below K3 D2
  have R42 := arr_below R43 D2
  have R52 := arr_below R53 D2
  have B2 := B3.trans (D2.mono B3.size)
  have k1 : w2.cell? ⟨w.heap.size, 1, none⟩ = some (.string t) := K2.cell 1
  clear CT K3 R43 R53 B3
  by_cases g1 : 0 ≤ c
  case pos =>
    have HFK : Hid (splitK f t a = 8) := by
      show _ = _
      unfold splitK
      rw [if_neg HN.out, if_pos (.inl (by rw [← HCC.out]; omega))]
    clear CU
    have r0 : w2.cell? ⟨w.heap.size + 1, 0, none⟩ = some (.string ⟨#[]⟩) := R42.cell 0
    have rf0 := R42.free 0
    have r1 : w2.cell? ⟨w.heap.size + 1, 1, none⟩ = some (.string ⟨#[]⟩) := R42.cell 1
    have rf1 := R42.free 1
    have r2 : w2.cell? ⟨w.heap.size + 1, 2, none⟩ = some (.slice none 0 0) := R42.cell 2
    have rf2 := R42.free 2
    have rlt := R42.lt
    have s0 : w2.cell? ⟨w.heap.size + 2, 0, none⟩ = some (.string ⟨#[]⟩) := R52.cell 0
    have sf0 := R52.free 0
    have s1 : w2.cell? ⟨w.heap.size + 2, 1, none⟩ = some (.string ⟨#[]⟩) := R52.cell 1
    have sf1 := R52.free 1
    have s2 : w2.cell? ⟨w.heap.size + 2, 2, none⟩ = some (.slice none 0 0) := R52.cell 2
    have sf2 := R52.free 2
    have slt := R52.lt
    have HK : Hid (splitK f t a = 8) := HFK.out
    have KW1 : Wr (w.heap.size + 1) w2 (((w2.setCell ⟨w.heap.size + 1, 0, none⟩ (.string ⟨#[]⟩)).setCell ⟨w.heap.size + 1, 1, none⟩ (.string ⟨#[]⟩)).setCell ⟨w.heap.size + 1, 2, none⟩ (.slice none 0 0)) := (((Wr.refl _ _).set 0 _).set 1 _).set 2 _
    have KW2 : Wr (w.heap.size + 1 + 1) (((w2.setCell ⟨w.heap.size + 1, 0, none⟩ (.string ⟨#[]⟩)).setCell ⟨w.heap.size + 1, 1, none⟩ (.string ⟨#[]⟩)).setCell ⟨w.heap.size + 1, 2, none⟩ (.slice none 0 0)) ((((((w2.setCell ⟨w.heap.size + 1, 0, none⟩ (.string ⟨#[]⟩)).setCell ⟨w.heap.size + 1, 1, none⟩ (.string ⟨#[]⟩)).setCell ⟨w.heap.size + 1, 2, none⟩ (.slice none 0 0)).setCell ⟨w.heap.size + 1 + 1, 0, none⟩ (.string ⟨#[]⟩)).setCell ⟨w.heap.size + 1 + 1, 1, none⟩ (.string ⟨#[]⟩)).setCell ⟨w.heap.size + 1 + 1, 2, none⟩ (.slice none 0 0)) := (((Wr.refl _ _).set 0 _).set 1 _).set 2 _
    have KB1 := KW1.below B2 B2.size (by omega)
    have KB := KW2.below KB1 KB1.size (by omega)
    clear KW1 KW2 KB1
    go_wp2
    exact bodyPost_ret (v := .tuple #[.agg #[.string ⟨#[]⟩, .string ⟨#[]⟩, .slice none 0 0], .agg #[.string ⟨#[]⟩, .string ⟨#[]⟩, .slice none 0 0], .int .i64 8]) (by simp [results, Tryz.results21, go_sem, r0, r1, r2, s0, s1, s2]) rfl (.inr ⟨by rw [HK.out]; decide, by rw [HK.out], KB⟩)
  cases tb with
  | false =>
    have HFK : Hid (splitK f t a = 0) := by
      show _ = _
      have hz : t.size = 0 := by
        have := of_decide_eq_false HTB.out.symm
        omega
      unfold splitK
      rw [if_neg HN.out, if_neg]
      rintro (h | ⟨h, -⟩)
      · rw [← HCC.out] at h; omega
      · exact h hz
    obtain ⟨V0, hV0⟩ : ∃ V, V = w2 := ⟨_, rfl⟩
    rw [← hV0] at K2 R42 R52 B2 k1 ⊢
    have B0 := B2
    have K0 := K2
    have R40 := R42
    have R50 := R52
    clear hV0 B2 K2 R42 R52 CU D2
    obtain ⟨V1, hV1⟩ : ∃ V, V = V0.alloc (.cells #[.string f, .string a, .slice none 0 0] 39) := ⟨_, rfl⟩
    obtain ⟨V2, hV2⟩ : ∃ V, V = V1.alloc (.cells #[.string a, .string t, .slice none 0 0] 39) := ⟨_, rfl⟩
    have E1 : Below V0.heap.size V0 V1 := by rw [hV1]; exact (Below.refl _ _).alloc (Nat.le_refl _) _
    have E2 : Below V1.heap.size V1 V2 := by rw [hV2]; exact (Below.refl _ _).alloc (Nat.le_refl _) _
    have hqa : w.heap.size + 2 < V0.heap.size := R50.lt
    have v1 : V1.heap.size = V0.heap.size + 1 := by rw [hV1]; exact Array.size_push ..
    have v2 : V2.heap.size = V0.heap.size + 2 := by rw [hV2, ← show V1.heap.size + 1 = V0.heap.size + 2 by omega]; exact Array.size_push ..
    have QA0 : Arr V2 V0.heap.size 39 [.string f, .string a, .slice none 0 0] := arr_below (by rw [hV1]; exact heap_alloc_new V0 _ : Arr V1 V0.heap.size 39 [.string f, .string a, .slice none 0 0]) E2
    have QB0 : Arr V2 (V0.heap.size + 1) 39 [.string a, .string t, .slice none 0 0] := by rw [← v1, hV2]; exact heap_alloc_new V1 _
    have EE := E1.trans (E2.mono E1.size)
    have B2 := B0.trans (EE.mono B0.size)
    have K2 := arr_below K0 EE
    have R42 := arr_below R40 EE
    have R52 := arr_below R50 EE
    have k0 : V0.cell? ⟨w.heap.size, 0, none⟩ = some (.string f) := K0.cell 0
    have k1' := (arr_below K0 E1).cell 1
    have k1 : (V0.alloc (.cells #[.string f, .string a, .slice none 0 0] 39)).cell? ⟨w.heap.size, 1, none⟩ = some (.string t) := by rw [← hV1]; exact k1'
    have hVV : V2 = (V0.alloc (.cells #[.string f, .string a, .slice none 0 0] 39)).alloc (.cells #[.string a, .string t, .slice none 0 0] 39) := by rw [hV2, hV1]
    clear hV1 hV2 k1'
    go_wp2
    rw [← hVV]
    obtain ⟨qa, hqe⟩ : ∃ q, q = V0.heap.size := ⟨_, rfl⟩
    obtain ⟨qb, hqf⟩ : ∃ q, q = V0.heap.size + 1 := ⟨_, rfl⟩
    obtain ⟨base, hbs⟩ : ∃ q, q = V2.heap.size := ⟨_, rfl⟩
    rw [← hqe] at QA0
    rw [← hqf] at QB0
    try rw [← hqf]
    try rw [← hqe]
    have ha1 : w.heap.size + 2 < qa := by omega
    have ha2 : qa < qb := by omega
    have ha3 : qb < base := by omega
    have hb0 : base ≤ V2.heap.size := by omega
    clear hVV hqe hqf hbs hqa v1 v2 E1 E2 EE k0 k1 K0 R40 R50 B0
    go_loopw [9] (fun i wr => ∃ (j : Nat) (o1 : Option Addr) (n1 c1 : Nat) (o2 : Option Addr) (n2 c2 : Nat), j ≤ n ∧ i = .int .i64 j ∧ Arr wr qa 39 [.string f, .string a, .slice o1 n1 c1] ∧ Arr wr qb 39 [.string a, .string t, .slice o2 n2 c2] ∧ Two w wr base (.slice o1 n1 c1) (.slice o2 n2 c2) ((l.take j).filter fun c => inRows f a c.row) ((l.take j).filter fun c => !inRows f a c.row) ∧ Arr wr w.heap.size 39 [.string f, .string t, .slice ao n cap] ∧ Arr wr (w.heap.size + 1) 39 [.string ⟨#[]⟩, .string ⟨#[]⟩, .slice none 0 0] ∧ Arr wr (w.heap.size + 2) 39 [.string ⟨#[]⟩, .string ⟨#[]⟩, .slice none 0 0] ∧ base ≤ wr.heap.size ∧ Below w.heap.size w wr) (fun i _ => n - (intOf i).toNat)
    case atStart => exact ⟨0, none, 0, 0, none, 0, 0, Nat.zero_le _, rfl, QA0, QB0, Two.nil _ _ _, K2, R42, R52, hb0, B2⟩
    case round =>
      clear QA0 QB0 K2 R42 R52 hb0 B2
      obtain ⟨j, o1, n1, c1, o2, n2, c2, hj, rfl, QA, QB, TW, K, R4, R5, hbw, BW⟩ := hrel
      have k2 : wr.cell? ⟨w.heap.size, 2, none⟩ = some (.slice ao n cap) := K.cell 2
      by_cases hlt : j < n
      · have hjl : j < l.length := by omega
        have hji : (j : Int) < (n : Int) := by omega
        have HOK : Hid (l[j].ok w) := L.ok _ (List.getElem_mem hjl)
        obtain ⟨b, off, ea, hc⟩ := L.at (by omega)
        have X := (hc j hjl).below BW
        have hbl : b < w.heap.size := World.block_lt_of_cell? _ _ (hc j hjl).c0
        have HTK : Hid (l.take (j + 1) = l.take j ++ [l[j]]) := List.take_succ_eq_append_getElem hjl
        obtain ⟨c, hce⟩ : ∃ c, c = l[j] := ⟨_, rfl⟩
        rw [← hce] at X HOK HTK
        subst ea
        obtain ⟨x0, x1, x2, x3, x4, x5⟩ := X
        have hbb : b < base := by omega
        clear hc hce
        have q0 : wr.cell? ⟨qa, 0, none⟩ = some (.string f) := QA.cell 0
        have q1 : wr.cell? ⟨qa, 1, none⟩ = some (.string a) := QA.cell 1
        have q2 : wr.cell? ⟨qa, 2, none⟩ = some (.slice o1 n1 c1) := QA.cell 2
        have HIN : Hid (∀ V, Calls Tryz.prog 34 #[.agg #[.string f, .string a, .slice o1 n1 c1], .string c.row] V fun e w' => e = .returned (.bool (inRows f a c.row)) ∧ Below V.heap.size V w') := fun V => rinside10_any V f a c.row o1 n1 c1 hf.out ha.out HOK.out.row
        obtain ⟨rb, hrb⟩ : ∃ b, b = inRows f a c.row := ⟨_, rfl⟩
        rw [← hrb] at HIN
        have HRB : Hid (inRows f a c.row = rb) := hrb.symm
        clear hrb
        go_wp2
        have zHS : Hid (∀ V, Below wr.heap.size wr V → V.cell? ⟨qa, 0, none⟩ = some (.string f) ∧ V.cell? ⟨qa, 1, none⟩ = some (.string a) ∧ V.cell? ⟨qa, 2, none⟩ = some (.slice o1 n1 c1) ∧ V.cell? ⟨w.heap.size, 2, none⟩ = some (.slice (some ⟨b, off, none⟩) n cap) ∧ V.cell? ⟨b, off + j * 6, none⟩ = some (.string c.row)) := fun V hV => ⟨(hV.cell (World.block_lt_of_cell? _ _ q0)).trans q0, (hV.cell (World.block_lt_of_cell? _ _ q1)).trans q1, (hV.cell (World.block_lt_of_cell? _ _ q2)).trans q2, (hV.cell (World.block_lt_of_cell? _ _ k2)).trans k2, (hV.cell (World.block_lt_of_cell? _ _ x0)).trans x0⟩
        have zE0 : Below wr.heap.size wr wr.drew := (Below.refl _ _).drew
        refine wp_region_noPanic ?_
        refine wp_region_held_drew (S := fun V => V.cell? ⟨qa, 0, none⟩ = some (.string f) ∧ V.cell? ⟨qa, 1, none⟩ = some (.string a) ∧ V.cell? ⟨qa, 2, none⟩ = some (.slice o1 n1 c1) ∧ V.cell? ⟨w.heap.size, 2, none⟩ = some (.slice (some ⟨b, off, none⟩) n cap) ∧ V.cell? ⟨b, off + j * 6, none⟩ = some (.string c.row)) (by kernel_rfl) (zHS.out _ zE0) (fun zH0 => ?_)
        obtain ⟨zv0, hv0⟩ : ∃ v, v = wr.drew := ⟨_, rfl⟩
        rw [← hv0] at zH0 zE0 ⊢
        clear hv0
        refine hr_take_w 0 (some 54) (.agg #[.string f, .string a, .slice o1 n1 c1]) rfl rfl (by kernel_rfl) (by kernel_rfl) (by kernel_rfl) rfl (fun W hW => by obtain ⟨h0, h1, h2, h3, h4⟩ := hW; go_simp) zH0 ?_
        simp only [FL]
        refine hr_take_w 1 (some 55) (.pointer (some ⟨w.heap.size, 2, none⟩)) rfl rfl (by kernel_rfl) (by kernel_rfl) (by kernel_rfl) rfl (fun W hW => by obtain ⟨h0, h1, h2, h3, h4⟩ := hW; go_simp) zH0 ?_
        simp only [FL]
        refine hr_take_w 2 (some 56) (.slice (some ⟨b, off, none⟩) n cap) rfl rfl (by kernel_rfl) (by kernel_rfl) (by kernel_rfl) rfl (fun W hW => by obtain ⟨h0, h1, h2, h3, h4⟩ := hW; go_simp) zH0 ?_
        simp only [FL]
        refine hr_take_w 3 (some 57) (.int .i64 (j : Nat)) rfl rfl (by kernel_rfl) (by kernel_rfl) (by kernel_rfl) rfl (fun W hW => by obtain ⟨h0, h1, h2, h3, h4⟩ := hW; go_simp) zH0 ?_
        simp only [FL]
        refine hr_take_w 4 (some 58) (.pointer (some ⟨b, off + j * 6, none⟩)) rfl rfl (by kernel_rfl) (by kernel_rfl) (by kernel_rfl) rfl (fun W hW => by obtain ⟨h0, h1, h2, h3, h4⟩ := hW; go_simp) zH0 ?_
        simp only [FL]
        refine hr_take_w 5 (some 59) (.pointer (some ⟨b, off + j * 6, none⟩)) rfl rfl (by kernel_rfl) (by kernel_rfl) (by kernel_rfl) rfl (fun W hW => by obtain ⟨h0, h1, h2, h3, h4⟩ := hW; go_simp) zH0 ?_
        simp only [FL]
        refine hr_take_w 6 (some 60) (.pointer (some ⟨b, off + j * 6, none⟩)) rfl rfl (by kernel_rfl) (by kernel_rfl) (by kernel_rfl) rfl (fun W hW => by obtain ⟨h0, h1, h2, h3, h4⟩ := hW; go_simp) zH0 ?_
        simp only [FL]
        refine hr_take_w 7 (some 61) (.string c.row) rfl rfl (by kernel_rfl) (by kernel_rfl) (by kernel_rfl) rfl (fun W hW => by obtain ⟨h0, h1, h2, h3, h4⟩ := hW; go_simp) zH0 ?_
        simp only [FL]
        refine hr_call_w 8 (some 62) 34 #[.agg #[.string f, .string a, .slice o1 n1 c1], .string c.row] rfl rfl (by kernel_rfl) rfl (by go_simp) (fun v w' => v = .bool rb ∧ Below zv0.heap.size zv0 w') ((HIN.out zv0).mono (by
          rintro e w' ⟨rfl, C⟩
          exact ⟨_, rfl, rfl, C⟩)) ?_
        rintro v zv1 ⟨rfl, zC0⟩
        have zE1 := zE0.trans (zC0.mono zE0.size)
        have zH1 := zHS.out zv1 zE1
        refine ⟨zH1, ?_⟩
        simp only [FL]
        refine wpAnyH_done (by kernel_rfl) ?_ _
        refine NoPanic.normal ?_
        obtain ⟨ws, hws⟩ : ∃ V, V = zv1 := ⟨_, rfl⟩
        have zB : Below wr.heap.size wr ws := by rw [hws]; exact zE1
        rw [← hws]
        clear zHS zH0  zH1  HIN q0 q1 q2
        have zs := zB.size
        replace QA := arr_below QA zB
        replace QB := arr_below QB zB
        replace TW := TW.below zB
        replace K := arr_below K zB
        replace R4 := arr_below R4 zB
        replace R5 := arr_below R5 zB
        replace BW := BW.trans (zB.mono BW.size)
        replace hbw : base ≤ ws.heap.size := by omega
        replace k2 := (zB.cell (World.block_lt_of_cell? _ _ k2)).trans k2
        replace x0 := (zB.cell (World.block_lt_of_cell? _ _ x0)).trans x0
        replace x1 := (zB.cell (World.block_lt_of_cell? _ _ x1)).trans x1
        replace x2 := (zB.cell (World.block_lt_of_cell? _ _ x2)).trans x2
        replace x3 := (zB.cell (World.block_lt_of_cell? _ _ x3)).trans x3
        replace x4 := (zB.cell (World.block_lt_of_cell? _ _ x4)).trans x4
        replace x5 := (zB.cell (World.block_lt_of_cell? _ _ x5)).trans x5
        clear hws zB zs
        cases rb with
        | true =>
          have QQ := QA
          have qq : ws.cell? ⟨qa, 2, none⟩ = some (.slice o1 n1 c1) := QA.cell 2
          have hbn : b ≠ qa := by omega
          have HLN : Hid (((l.take j).filter fun c => inRows f a c.row).length ≤ 1000000) := by
            show _ ≤ _
            refine Nat.le_trans (List.length_filter_le _ _) ?_
            rw [List.length_take]
            omega
          go_wp2
          have yHS : Hid (∀ V, Below ws.heap.size ws V → V.cell? ⟨w.heap.size, 2, none⟩ = some (.slice (some ⟨b, off, none⟩) n cap) ∧ V.cell? ⟨b, off + j * 6, none⟩ = some (.string c.row) ∧ V.cell? ⟨b, off + j * 6 + 1, none⟩ = some (.string c.fam) ∧ V.cell? ⟨b, off + j * 6 + 2, none⟩ = some (.string c.qual) ∧ V.cell? ⟨b, off + j * 6 + 3, none⟩ = some (.int .u64 c.time) ∧ V.cell? ⟨b, off + j * 6 + 4, none⟩ = some (.slice c.va.ao c.va.n c.va.cap) ∧ V.cell? ⟨b, off + j * 6 + 5, none⟩ = some (.bool c.gone)) := fun V hV => ⟨(hV.cell (World.block_lt_of_cell? _ _ k2)).trans k2, (hV.cell (World.block_lt_of_cell? _ _ x0)).trans x0, (hV.cell (World.block_lt_of_cell? _ _ x1)).trans x1, (hV.cell (World.block_lt_of_cell? _ _ x2)).trans x2, (hV.cell (World.block_lt_of_cell? _ _ x3)).trans x3, (hV.cell (World.block_lt_of_cell? _ _ x4)).trans x4, (hV.cell (World.block_lt_of_cell? _ _ x5)).trans x5⟩
          have yE0 : Below ws.heap.size ws ws.drew := (Below.refl _ _).drew
          refine wp_region_noPanic ?_
          refine wp_region_held_drew (S := fun V => V.cell? ⟨w.heap.size, 2, none⟩ = some (.slice (some ⟨b, off, none⟩) n cap) ∧ V.cell? ⟨b, off + j * 6, none⟩ = some (.string c.row) ∧ V.cell? ⟨b, off + j * 6 + 1, none⟩ = some (.string c.fam) ∧ V.cell? ⟨b, off + j * 6 + 2, none⟩ = some (.string c.qual) ∧ V.cell? ⟨b, off + j * 6 + 3, none⟩ = some (.int .u64 c.time) ∧ V.cell? ⟨b, off + j * 6 + 4, none⟩ = some (.slice c.va.ao c.va.n c.va.cap) ∧ V.cell? ⟨b, off + j * 6 + 5, none⟩ = some (.bool c.gone)) (by kernel_rfl) (yHS.out _ yE0) (fun yH0 => ?_)
          obtain ⟨yv0, hv0⟩ : ∃ v, v = ws.drew := ⟨_, rfl⟩
          rw [← hv0] at yH0 yE0 ⊢
          clear hv0
          refine hr_take_w 0 (some 63) (.pointer (some ⟨qa, 2, none⟩)) rfl rfl (by kernel_rfl) (by kernel_rfl) (by kernel_rfl) rfl (fun W hW => by obtain ⟨h0, h1, h2, h3, h4, h5, h6⟩ := hW; go_simp) yH0 ?_
          simp only [FL]
          refine hr_take_w 2 (some 65) (.pointer (some ⟨w.heap.size, 2, none⟩)) rfl rfl (by kernel_rfl) (by kernel_rfl) (by kernel_rfl) rfl (fun W hW => by obtain ⟨h0, h1, h2, h3, h4, h5, h6⟩ := hW; go_simp) yH0 ?_
          simp only [FL]
          refine hr_take_w 3 (some 66) (.slice (some ⟨b, off, none⟩) n cap) rfl rfl (by kernel_rfl) (by kernel_rfl) (by kernel_rfl) rfl (fun W hW => by obtain ⟨h0, h1, h2, h3, h4, h5, h6⟩ := hW; go_simp) yH0 ?_
          simp only [FL]
          refine hr_take_w 4 (some 67) (.int .i64 (j : Nat)) rfl rfl (by kernel_rfl) (by kernel_rfl) (by kernel_rfl) rfl (fun W hW => by obtain ⟨h0, h1, h2, h3, h4, h5, h6⟩ := hW; go_simp) yH0 ?_
          simp only [FL]
          refine hr_take_w 5 (some 68) (.pointer (some ⟨b, off + j * 6, none⟩)) rfl rfl (by kernel_rfl) (by kernel_rfl) (by kernel_rfl) rfl (fun W hW => by obtain ⟨h0, h1, h2, h3, h4, h5, h6⟩ := hW; go_simp) yH0 ?_
          simp only [FL]
          refine hr_take_w 6 (some 69) (.agg #[.string c.row, .string c.fam, .string c.qual, .int .u64 c.time, .slice c.va.ao c.va.n c.va.cap, .bool c.gone]) rfl rfl (by kernel_rfl) (by kernel_rfl) (by kernel_rfl) rfl (fun W hW => by obtain ⟨h0, h1, h2, h3, h4, h5, h6⟩ := hW; go_simp) yH0 ?_
          simp only [FL]
          refine wpAnyH_effto 3 (fun zi zv zw => (zi = 1 → zv = .slice o1 n1 c1) ∧ (zi = 7 → ∃ g, zv = .slice (some ⟨g, 0, none⟩) 1 1 ∧ Arr zw g 33 [.string c.row, .string c.fam, .string c.qual, .int .u64 c.time, .slice c.va.ao c.va.n c.va.cap, .bool c.gone])) [(1, 64), (7, 70)] 85 (by kernel_rfl) (by decide) (by decide) rfl ?_ (fun W hW => yHS.out W (yE0.trans (hW.mono yE0.size))) ?_ ?_
          · intro zi v w w' h hb
            refine ⟨fun e => ?_, fun e => ?_⟩
            · have h := h.1 e
              exact h
            · have h := h.2 e
              obtain ⟨g, h1, h2⟩ := h
              exact ⟨g, h1, arr_below h2 hb⟩
          · intro zp zhi o a w ho hs hb hdep
            have yEB := yE0.trans (hb.mono yE0.size)
            simp only [List.mem_cons, List.not_mem_nil, or_false] at zhi
            rcases zhi with rfl | rfl
            · obtain rfl : _ = o := Option.some.inj (show some _ = some o from ho)
              have t63 : a.tmps[63]? = some (.pointer (some ⟨qa, 2, none⟩)) := hs.get 63 (by kernel_rfl) rfl
              have lc := (yEB.cell (World.block_lt_of_cell? _ _ qq)).trans qq
              exact .inl ⟨.slice o1 n1 c1, w, by go_simp, ⟨fun _ => rfl, fun e => absurd e (by decide)⟩, Below.refl _ _⟩
            · obtain rfl : _ = o := Option.some.inj (show some _ = some o from ho)
              have t69 : a.tmps[69]? = some (.agg #[.string c.row, .string c.fam, .string c.qual, .int .u64 c.time, .slice c.va.ao c.va.n c.va.cap, .bool c.gone]) := hs.get 69 (by kernel_rfl) rfl
              exact .inl ⟨_, _, by go_simp, ⟨fun e => absurd e (by decide), fun _ => ⟨_, rfl, heap_alloc_new w _⟩⟩, (Below.refl _ _).alloc (Nat.le_refl _) _⟩
          intro zf yv1 hb hh
          have yE1 := yE0.trans (hb.mono yE0.size)
          obtain e1 := (hh (1, 64) (by simp)).1 rfl
          obtain ⟨gc, e7, A7⟩ := (hh (7, 70) (by simp)).2 rfl
          clear hh hb
          simp only [putL, List.foldl_cons, List.foldl_nil, e1, e7]
          clear e1 e7
          simp only [FL]
          have T1 := TW.below yE1
          have ys := yE1.size
          obtain ⟨ro, rn, rc, W3, ha, T3, D3⟩ := T1.app 31 (cp := 1) A7 HOK.out HLN.out (Nat.le_trans hbw ys)
          have yH1 := yHS.out yv1 yE1
          obtain ⟨g0, g1, g2, g3, g4, g5, g6⟩ := yH1
          have yH3 := And.intro ((D3.cell (by show w.heap.size < base; omega)).trans g0) (And.intro ((D3.cell hbb).trans g1) (And.intro ((D3.cell hbb).trans g2) (And.intro ((D3.cell hbb).trans g3) (And.intro ((D3.cell hbb).trans g4) (And.intro ((D3.cell hbb).trans g5) ((D3.cell hbb).trans g6))))))
          refine hr_ex 8 (some 71) rfl rfl (by kernel_rfl) rfl (R := fun v w' => .slice ro rn rc = v ∧ W3 = w') ⟨_, W3, by simp [execOp, Act.eval, resolve, invoke, builtin, ha], rfl, rfl⟩ ?_
          rintro v w' ⟨rfl, rfl⟩
          refine ⟨yH3, ?_⟩
          simp only [FL]
          refine hr_take_w 9 (some 72) (.pointer (some ⟨qa, 2, none⟩)) rfl rfl (by kernel_rfl) (by kernel_rfl) (by kernel_rfl) rfl (fun W hW => by obtain ⟨h0, h1, h2, h3, h4, h5, h6⟩ := hW; go_simp) yH3 ?_
          simp only [FL]
          have QA3 : Arr W3 qa 39 [.string f, .string a, .slice o1 n1 c1] := arr_low (arr_below QQ yE1) D3 (by omega)
          have lc : W3.cell? ⟨qa, 2, none⟩ = some (.slice o1 n1 c1) := QA3.cell 2
          have lf := QA3.free 2
          have KW : Wr qa W3 (W3.setCell ⟨qa, 2, none⟩ (.slice ro rn rc)) := (Wr.refl _ _).set 2 _
          obtain ⟨g0, g1, g2, g3, g4, g5, g6⟩ := yH3
          have yH4 := And.intro (KW.cell g0 (by show w.heap.size ≠ qa; omega)) (And.intro (KW.cell g1 hbn) (And.intro (KW.cell g2 hbn) (And.intro (KW.cell g3 hbn) (And.intro (KW.cell g4 hbn) (And.intro (KW.cell g5 hbn) (KW.cell g6 hbn))))))
          refine hr_skip 10 none (w' := W3.setCell ⟨qa, 2, none⟩ (.slice ro rn rc)) rfl rfl (by kernel_rfl) rfl (by go_simp) yH4 ?_
          simp only [Act.put]
          refine wpAnyH_done (by kernel_rfl) ?_ _
          refine NoPanic.normal ?_
          have S5 : Arr (W3.setCell ⟨qa, 2, none⟩ (.slice ro rn rc)) qa 39 [.string f, .string a, .slice ro rn rc] := heap_setCell_same W3 qa 2 _ _ _ QA3
          have O5 : Arr (W3.setCell ⟨qa, 2, none⟩ (.slice ro rn rc)) qb 39 [.string a, .string t, .slice o2 n2 c2] := (KW.block _ (arr_low (arr_below QB yE1) D3 (by omega)).lt (by omega)).trans (arr_low (arr_below QB yE1) D3 (by omega))
          have K5 : Arr (W3.setCell ⟨qa, 2, none⟩ (.slice ro rn rc)) w.heap.size 39 [.string f, .string t, .slice (some ⟨b, off, none⟩) n cap] := (KW.block _ (arr_low (arr_below K yE1) D3 (by omega)).lt (by omega)).trans (arr_low (arr_below K yE1) D3 (by omega))
          have R45 : Arr (W3.setCell ⟨qa, 2, none⟩ (.slice ro rn rc)) (w.heap.size + 1) 39 [.string ⟨#[]⟩, .string ⟨#[]⟩, .slice none 0 0] := (KW.block _ (arr_low (arr_below R4 yE1) D3 (by omega)).lt (by omega)).trans (arr_low (arr_below R4 yE1) D3 (by omega))
          have R55 : Arr (W3.setCell ⟨qa, 2, none⟩ (.slice ro rn rc)) (w.heap.size + 2) 39 [.string ⟨#[]⟩, .string ⟨#[]⟩, .slice none 0 0] := (KW.block _ (arr_low (arr_below R5 yE1) D3 (by omega)).lt (by omega)).trans (arr_low (arr_below R5 yE1) D3 (by omega))
          have T5 := T3.wr KW (by omega)
          have BZ := BW.trans (yE1.mono BW.size)
          have BY := BZ.trans (D3.mono (by omega))
          have B5 := KW.below BY BY.size (by omega)
          have d3 := D3.size
          have hb5 : base ≤ (W3.setCell ⟨qa, 2, none⟩ (.slice ro rn rc)).heap.size := Nat.le_trans (by omega) KW.size
          have T6 : Two w (W3.setCell ⟨qa, 2, none⟩ (.slice ro rn rc)) base (.slice ro rn rc) (.slice o2 n2 c2) ((l.take (j + 1)).filter fun c => inRows f a c.row) ((l.take (j + 1)).filter fun c => !inRows f a c.row) := by
            rw [HTK.out, List.filter_append, List.filter_append, show List.filter (fun c => inRows f a c.row) [c] = [c] by simp [HRB.out], show List.filter (fun c => !inRows f a c.row) [c] = [] by simp [HRB.out], List.append_nil]
            exact T5
          obtain ⟨w6, hw6⟩ : ∃ V, V = W3.setCell ⟨qa, 2, none⟩ (.slice ro rn rc) := ⟨_, rfl⟩
          rw [← hw6] at S5 O5 K5 R45 R55 B5 hb5 T6 ⊢
          clear hw6 KW T5 T3 QA3 lc lf g0 g1 g2 g3 g4 g5 g6 yH4 yHS yH0 qq QQ ha A7 BZ BY D3 T1
          go_wp2
          go_roundw
          case rel => exact ⟨j + 1, ro, rn, rc, o2, n2, c2, by omega, by go_num, S5, O5, T6, K5, R45, R55, hb5, B5⟩
          case measure => simp [intOf]; omega
        | false =>
          have QQ := QB
          have qq : ws.cell? ⟨qb, 2, none⟩ = some (.slice o2 n2 c2) := QB.cell 2
          have hbn : b ≠ qb := by omega
          have HLN : Hid (((l.take j).filter fun c => !inRows f a c.row).length ≤ 1000000) := by
            show _ ≤ _
            refine Nat.le_trans (List.length_filter_le _ _) ?_
            rw [List.length_take]
            omega
          go_wp2
          have yHS : Hid (∀ V, Below ws.heap.size ws V → V.cell? ⟨w.heap.size, 2, none⟩ = some (.slice (some ⟨b, off, none⟩) n cap) ∧ V.cell? ⟨b, off + j * 6, none⟩ = some (.string c.row) ∧ V.cell? ⟨b, off + j * 6 + 1, none⟩ = some (.string c.fam) ∧ V.cell? ⟨b, off + j * 6 + 2, none⟩ = some (.string c.qual) ∧ V.cell? ⟨b, off + j * 6 + 3, none⟩ = some (.int .u64 c.time) ∧ V.cell? ⟨b, off + j * 6 + 4, none⟩ = some (.slice c.va.ao c.va.n c.va.cap) ∧ V.cell? ⟨b, off + j * 6 + 5, none⟩ = some (.bool c.gone)) := fun V hV => ⟨(hV.cell (World.block_lt_of_cell? _ _ k2)).trans k2, (hV.cell (World.block_lt_of_cell? _ _ x0)).trans x0, (hV.cell (World.block_lt_of_cell? _ _ x1)).trans x1, (hV.cell (World.block_lt_of_cell? _ _ x2)).trans x2, (hV.cell (World.block_lt_of_cell? _ _ x3)).trans x3, (hV.cell (World.block_lt_of_cell? _ _ x4)).trans x4, (hV.cell (World.block_lt_of_cell? _ _ x5)).trans x5⟩
          have yE0 : Below ws.heap.size ws ws.drew := (Below.refl _ _).drew
          refine wp_region_noPanic ?_
          refine wp_region_held_drew (S := fun V => V.cell? ⟨w.heap.size, 2, none⟩ = some (.slice (some ⟨b, off, none⟩) n cap) ∧ V.cell? ⟨b, off + j * 6, none⟩ = some (.string c.row) ∧ V.cell? ⟨b, off + j * 6 + 1, none⟩ = some (.string c.fam) ∧ V.cell? ⟨b, off + j * 6 + 2, none⟩ = some (.string c.qual) ∧ V.cell? ⟨b, off + j * 6 + 3, none⟩ = some (.int .u64 c.time) ∧ V.cell? ⟨b, off + j * 6 + 4, none⟩ = some (.slice c.va.ao c.va.n c.va.cap) ∧ V.cell? ⟨b, off + j * 6 + 5, none⟩ = some (.bool c.gone)) (by kernel_rfl) (yHS.out _ yE0) (fun yH0 => ?_)
          obtain ⟨yv0, hv0⟩ : ∃ v, v = ws.drew := ⟨_, rfl⟩
          rw [← hv0] at yH0 yE0 ⊢
          clear hv0
          refine hr_take_w 0 (some 73) (.pointer (some ⟨qb, 2, none⟩)) rfl rfl (by kernel_rfl) (by kernel_rfl) (by kernel_rfl) rfl (fun W hW => by obtain ⟨h0, h1, h2, h3, h4, h5, h6⟩ := hW; go_simp) yH0 ?_
          simp only [FL]
          refine hr_take_w 2 (some 75) (.pointer (some ⟨w.heap.size, 2, none⟩)) rfl rfl (by kernel_rfl) (by kernel_rfl) (by kernel_rfl) rfl (fun W hW => by obtain ⟨h0, h1, h2, h3, h4, h5, h6⟩ := hW; go_simp) yH0 ?_
          simp only [FL]
          refine hr_take_w 3 (some 76) (.slice (some ⟨b, off, none⟩) n cap) rfl rfl (by kernel_rfl) (by kernel_rfl) (by kernel_rfl) rfl (fun W hW => by obtain ⟨h0, h1, h2, h3, h4, h5, h6⟩ := hW; go_simp) yH0 ?_
          simp only [FL]
          refine hr_take_w 4 (some 77) (.int .i64 (j : Nat)) rfl rfl (by kernel_rfl) (by kernel_rfl) (by kernel_rfl) rfl (fun W hW => by obtain ⟨h0, h1, h2, h3, h4, h5, h6⟩ := hW; go_simp) yH0 ?_
          simp only [FL]
          refine hr_take_w 5 (some 78) (.pointer (some ⟨b, off + j * 6, none⟩)) rfl rfl (by kernel_rfl) (by kernel_rfl) (by kernel_rfl) rfl (fun W hW => by obtain ⟨h0, h1, h2, h3, h4, h5, h6⟩ := hW; go_simp) yH0 ?_
          simp only [FL]
          refine hr_take_w 6 (some 79) (.agg #[.string c.row, .string c.fam, .string c.qual, .int .u64 c.time, .slice c.va.ao c.va.n c.va.cap, .bool c.gone]) rfl rfl (by kernel_rfl) (by kernel_rfl) (by kernel_rfl) rfl (fun W hW => by obtain ⟨h0, h1, h2, h3, h4, h5, h6⟩ := hW; go_simp) yH0 ?_
          simp only [FL]
          refine wpAnyH_effto 3 (fun zi zv zw => (zi = 1 → zv = .slice o2 n2 c2) ∧ (zi = 7 → ∃ g, zv = .slice (some ⟨g, 0, none⟩) 1 1 ∧ Arr zw g 33 [.string c.row, .string c.fam, .string c.qual, .int .u64 c.time, .slice c.va.ao c.va.n c.va.cap, .bool c.gone])) [(1, 74), (7, 80)] 85 (by kernel_rfl) (by decide) (by decide) rfl ?_ (fun W hW => yHS.out W (yE0.trans (hW.mono yE0.size))) ?_ ?_
          · intro zi v w w' h hb
            refine ⟨fun e => ?_, fun e => ?_⟩
            · have h := h.1 e
              exact h
            · have h := h.2 e
              obtain ⟨g, h1, h2⟩ := h
              exact ⟨g, h1, arr_below h2 hb⟩
          · intro zp zhi o a w ho hs hb hdep
            have yEB := yE0.trans (hb.mono yE0.size)
            simp only [List.mem_cons, List.not_mem_nil, or_false] at zhi
            rcases zhi with rfl | rfl
            · obtain rfl : _ = o := Option.some.inj (show some _ = some o from ho)
              have t73 : a.tmps[73]? = some (.pointer (some ⟨qb, 2, none⟩)) := hs.get 73 (by kernel_rfl) rfl
              have lc := (yEB.cell (World.block_lt_of_cell? _ _ qq)).trans qq
              exact .inl ⟨.slice o2 n2 c2, w, by go_simp, ⟨fun _ => rfl, fun e => absurd e (by decide)⟩, Below.refl _ _⟩
            · obtain rfl : _ = o := Option.some.inj (show some _ = some o from ho)
              have t79 : a.tmps[79]? = some (.agg #[.string c.row, .string c.fam, .string c.qual, .int .u64 c.time, .slice c.va.ao c.va.n c.va.cap, .bool c.gone]) := hs.get 79 (by kernel_rfl) rfl
              exact .inl ⟨_, _, by go_simp, ⟨fun e => absurd e (by decide), fun _ => ⟨_, rfl, heap_alloc_new w _⟩⟩, (Below.refl _ _).alloc (Nat.le_refl _) _⟩
          intro zf yv1 hb hh
          have yE1 := yE0.trans (hb.mono yE0.size)
          obtain e1 := (hh (1, 74) (by simp)).1 rfl
          obtain ⟨gc, e7, A7⟩ := (hh (7, 80) (by simp)).2 rfl
          clear hh hb
          simp only [putL, List.foldl_cons, List.foldl_nil, e1, e7]
          clear e1 e7
          simp only [FL]
          have T1 := TW.sym.below yE1
          have ys := yE1.size
          obtain ⟨ro, rn, rc, W3, ha, T3, D3⟩ := T1.app 31 (cp := 1) A7 HOK.out HLN.out (Nat.le_trans hbw ys)
          have yH1 := yHS.out yv1 yE1
          obtain ⟨g0, g1, g2, g3, g4, g5, g6⟩ := yH1
          have yH3 := And.intro ((D3.cell (by show w.heap.size < base; omega)).trans g0) (And.intro ((D3.cell hbb).trans g1) (And.intro ((D3.cell hbb).trans g2) (And.intro ((D3.cell hbb).trans g3) (And.intro ((D3.cell hbb).trans g4) (And.intro ((D3.cell hbb).trans g5) ((D3.cell hbb).trans g6))))))
          refine hr_ex 8 (some 81) rfl rfl (by kernel_rfl) rfl (R := fun v w' => .slice ro rn rc = v ∧ W3 = w') ⟨_, W3, by simp [execOp, Act.eval, resolve, invoke, builtin, ha], rfl, rfl⟩ ?_
          rintro v w' ⟨rfl, rfl⟩
          refine ⟨yH3, ?_⟩
          simp only [FL]
          refine hr_take_w 9 (some 82) (.pointer (some ⟨qb, 2, none⟩)) rfl rfl (by kernel_rfl) (by kernel_rfl) (by kernel_rfl) rfl (fun W hW => by obtain ⟨h0, h1, h2, h3, h4, h5, h6⟩ := hW; go_simp) yH3 ?_
          simp only [FL]
          have QA3 : Arr W3 qb 39 [.string a, .string t, .slice o2 n2 c2] := arr_low (arr_below QQ yE1) D3 (by omega)
          have lc : W3.cell? ⟨qb, 2, none⟩ = some (.slice o2 n2 c2) := QA3.cell 2
          have lf := QA3.free 2
          have KW : Wr qb W3 (W3.setCell ⟨qb, 2, none⟩ (.slice ro rn rc)) := (Wr.refl _ _).set 2 _
          obtain ⟨g0, g1, g2, g3, g4, g5, g6⟩ := yH3
          have yH4 := And.intro (KW.cell g0 (by show w.heap.size ≠ qb; omega)) (And.intro (KW.cell g1 hbn) (And.intro (KW.cell g2 hbn) (And.intro (KW.cell g3 hbn) (And.intro (KW.cell g4 hbn) (And.intro (KW.cell g5 hbn) (KW.cell g6 hbn))))))
          refine hr_skip 10 none (w' := W3.setCell ⟨qb, 2, none⟩ (.slice ro rn rc)) rfl rfl (by kernel_rfl) rfl (by go_simp) yH4 ?_
          simp only [Act.put]
          refine wpAnyH_done (by kernel_rfl) ?_ _
          refine NoPanic.normal ?_
          have S5 : Arr (W3.setCell ⟨qb, 2, none⟩ (.slice ro rn rc)) qb 39 [.string a, .string t, .slice ro rn rc] := heap_setCell_same W3 qb 2 _ _ _ QA3
          have O5 : Arr (W3.setCell ⟨qb, 2, none⟩ (.slice ro rn rc)) qa 39 [.string f, .string a, .slice o1 n1 c1] := (KW.block _ (arr_low (arr_below QA yE1) D3 (by omega)).lt (by omega)).trans (arr_low (arr_below QA yE1) D3 (by omega))
          have K5 : Arr (W3.setCell ⟨qb, 2, none⟩ (.slice ro rn rc)) w.heap.size 39 [.string f, .string t, .slice (some ⟨b, off, none⟩) n cap] := (KW.block _ (arr_low (arr_below K yE1) D3 (by omega)).lt (by omega)).trans (arr_low (arr_below K yE1) D3 (by omega))
          have R45 : Arr (W3.setCell ⟨qb, 2, none⟩ (.slice ro rn rc)) (w.heap.size + 1) 39 [.string ⟨#[]⟩, .string ⟨#[]⟩, .slice none 0 0] := (KW.block _ (arr_low (arr_below R4 yE1) D3 (by omega)).lt (by omega)).trans (arr_low (arr_below R4 yE1) D3 (by omega))
          have R55 : Arr (W3.setCell ⟨qb, 2, none⟩ (.slice ro rn rc)) (w.heap.size + 2) 39 [.string ⟨#[]⟩, .string ⟨#[]⟩, .slice none 0 0] := (KW.block _ (arr_low (arr_below R5 yE1) D3 (by omega)).lt (by omega)).trans (arr_low (arr_below R5 yE1) D3 (by omega))
          have T5 := T3.wr KW (by omega)
          have BZ := BW.trans (yE1.mono BW.size)
          have BY := BZ.trans (D3.mono (by omega))
          have B5 := KW.below BY BY.size (by omega)
          have d3 := D3.size
          have hb5 : base ≤ (W3.setCell ⟨qb, 2, none⟩ (.slice ro rn rc)).heap.size := Nat.le_trans (by omega) KW.size
          have T6 : Two w (W3.setCell ⟨qb, 2, none⟩ (.slice ro rn rc)) base (.slice o1 n1 c1) (.slice ro rn rc) ((l.take (j + 1)).filter fun c => inRows f a c.row) ((l.take (j + 1)).filter fun c => !inRows f a c.row) := by
            rw [HTK.out, List.filter_append, List.filter_append, show List.filter (fun c => inRows f a c.row) [c] = [] by simp [HRB.out], show List.filter (fun c => !inRows f a c.row) [c] = [c] by simp [HRB.out], List.append_nil]
            exact T5.sym
          obtain ⟨w6, hw6⟩ : ∃ V, V = W3.setCell ⟨qb, 2, none⟩ (.slice ro rn rc) := ⟨_, rfl⟩
          rw [← hw6] at S5 O5 K5 R45 R55 B5 hb5 T6 ⊢
          clear hw6 KW T5 T3 QA3 lc lf g0 g1 g2 g3 g4 g5 g6 yH4 yHS yH0 qq QQ ha A7 BZ BY D3 T1
          go_wp2
          go_roundw
          case rel => exact ⟨j + 1, o1, n1, c1, ro, rn, rc, by omega, by go_num, O5, S5, T6, K5, R45, R55, hb5, B5⟩
          case measure => simp [intOf]; omega
      · have hge : ¬ (j : Int) < (n : Int) := by omega
        obtain rfl : j = n := by omega
        have htk : l.take j = l := List.take_of_length_le (by omega)
        rw [htk] at TW
        obtain ⟨a1, p1, e1, L1⟩ := TW.one.cl BW
        obtain ⟨a2, p2, e2, L2⟩ := TW.two.cl BW
        have M1 : CL wr o1 n1 c1 (l.filter fun c => inRows f a c.row) := by
          simp only [Value.slice.injEq] at e1
          obtain ⟨u1, u2, u3⟩ := e1
          rw [u1, u2, u3]
          exact L1
        have M2 : CL wr o2 n2 c2 (l.filter fun c => !inRows f a c.row) := by
          simp only [Value.slice.injEq] at e2
          obtain ⟨u1, u2, u3⟩ := e2
          rw [u1, u2, u3]
          exact L2
        clear e1 e2 L1 L2 htk TW
        have q0 : wr.cell? ⟨qa, 0, none⟩ = some (.string f) := QA.cell 0
        have q1 : wr.cell? ⟨qa, 1, none⟩ = some (.string a) := QA.cell 1
        have q2 : wr.cell? ⟨qa, 2, none⟩ = some (.slice o1 n1 c1) := QA.cell 2
        have p0 : wr.cell? ⟨qb, 0, none⟩ = some (.string a) := QB.cell 0
        have p1 : wr.cell? ⟨qb, 1, none⟩ = some (.string t) := QB.cell 1
        have p2 : wr.cell? ⟨qb, 2, none⟩ = some (.slice o2 n2 c2) := QB.cell 2
        clear QA QB
        go_wp2
        have zHS : Hid (∀ V, Below wr.heap.size wr V → V.cell? ⟨qa, 0, none⟩ = some (.string f) ∧ V.cell? ⟨qa, 1, none⟩ = some (.string a) ∧ V.cell? ⟨qa, 2, none⟩ = some (.slice o1 n1 c1) ∧ V.cell? ⟨qb, 0, none⟩ = some (.string a) ∧ V.cell? ⟨qb, 1, none⟩ = some (.string t) ∧ V.cell? ⟨qb, 2, none⟩ = some (.slice o2 n2 c2)) := fun V hV => ⟨(hV.cell (World.block_lt_of_cell? _ _ q0)).trans q0, (hV.cell (World.block_lt_of_cell? _ _ q1)).trans q1, (hV.cell (World.block_lt_of_cell? _ _ q2)).trans q2, (hV.cell (World.block_lt_of_cell? _ _ p0)).trans p0, (hV.cell (World.block_lt_of_cell? _ _ p1)).trans p1, (hV.cell (World.block_lt_of_cell? _ _ p2)).trans p2⟩
        have zE0 : Below wr.heap.size wr wr.drew := (Below.refl _ _).drew
        refine wp_region_noPanic ?_
        refine wp_region_held_drew (S := fun V => V.cell? ⟨qa, 0, none⟩ = some (.string f) ∧ V.cell? ⟨qa, 1, none⟩ = some (.string a) ∧ V.cell? ⟨qa, 2, none⟩ = some (.slice o1 n1 c1) ∧ V.cell? ⟨qb, 0, none⟩ = some (.string a) ∧ V.cell? ⟨qb, 1, none⟩ = some (.string t) ∧ V.cell? ⟨qb, 2, none⟩ = some (.slice o2 n2 c2)) (by kernel_rfl) (zHS.out _ zE0) (fun zH0 => ?_)
        obtain ⟨zv0, hv0⟩ : ∃ v, v = wr.drew := ⟨_, rfl⟩
        rw [← hv0] at zH0 zE0 ⊢
        clear hv0
        refine hr_take_w 0 (some 83) (.agg #[.string f, .string a, .slice o1 n1 c1]) rfl rfl (by kernel_rfl) (by kernel_rfl) (by kernel_rfl) rfl (fun W hW => by obtain ⟨h0, h1, h2, h3, h4, h5⟩ := hW; go_simp) zH0 ?_
        simp only [FL]
        refine hr_take_w 1 (some 84) (.agg #[.string a, .string t, .slice o2 n2 c2]) rfl rfl (by kernel_rfl) (by kernel_rfl) (by kernel_rfl) rfl (fun W hW => by obtain ⟨h0, h1, h2, h3, h4, h5⟩ := hW; go_simp) zH0 ?_
        simp only [FL]
        have r0 : zv0.cell? ⟨w.heap.size + 1, 0, none⟩ = some (.string ⟨#[]⟩) := (arr_below R4 zE0).cell 0
        have rf0 := (arr_below R4 zE0).free 0
        have r1 : zv0.cell? ⟨w.heap.size + 1, 1, none⟩ = some (.string ⟨#[]⟩) := (arr_below R4 zE0).cell 1
        have rf1 := (arr_below R4 zE0).free 1
        have r2 : zv0.cell? ⟨w.heap.size + 1, 2, none⟩ = some (.slice none 0 0) := (arr_below R4 zE0).cell 2
        have rf2 := (arr_below R4 zE0).free 2
        have rlt := (arr_below R4 zE0).lt
        have s0 : zv0.cell? ⟨w.heap.size + 2, 0, none⟩ = some (.string ⟨#[]⟩) := (arr_below R5 zE0).cell 0
        have sf0 := (arr_below R5 zE0).free 0
        have s1 : zv0.cell? ⟨w.heap.size + 2, 1, none⟩ = some (.string ⟨#[]⟩) := (arr_below R5 zE0).cell 1
        have sf1 := (arr_below R5 zE0).free 1
        have s2 : zv0.cell? ⟨w.heap.size + 2, 2, none⟩ = some (.slice none 0 0) := (arr_below R5 zE0).cell 2
        have sf2 := (arr_below R5 zE0).free 2
        have slt := (arr_below R5 zE0).lt
        have KW1 : Wr (w.heap.size + 1) zv0 (((zv0.setCell ⟨w.heap.size + 1, 0, none⟩ (.string f)).setCell ⟨w.heap.size + 1, 1, none⟩ (.string a)).setCell ⟨w.heap.size + 1, 2, none⟩ (.slice o1 n1 c1)) := (((Wr.refl _ _).set 0 _).set 1 _).set 2 _
        have KW2 : Wr (w.heap.size + 1 + 1) (((zv0.setCell ⟨w.heap.size + 1, 0, none⟩ (.string f)).setCell ⟨w.heap.size + 1, 1, none⟩ (.string a)).setCell ⟨w.heap.size + 1, 2, none⟩ (.slice o1 n1 c1)) ((((((zv0.setCell ⟨w.heap.size + 1, 0, none⟩ (.string f)).setCell ⟨w.heap.size + 1, 1, none⟩ (.string a)).setCell ⟨w.heap.size + 1, 2, none⟩ (.slice o1 n1 c1)).setCell ⟨w.heap.size + 1 + 1, 0, none⟩ (.string a)).setCell ⟨w.heap.size + 1 + 1, 1, none⟩ (.string t)).setCell ⟨w.heap.size + 1 + 1, 2, none⟩ (.slice o2 n2 c2)) := (((Wr.refl _ _).set 0 _).set 1 _).set 2 _
        obtain ⟨g0, g1, g2, g3, g4, g5⟩ := zH0
        have zH1 := And.intro (KW1.cell g0 (by show qa ≠ _; omega)) (And.intro (KW1.cell g1 (by show qa ≠ _; omega)) (And.intro (KW1.cell g2 (by show qa ≠ _; omega)) (And.intro (KW1.cell g3 (by show qb ≠ _; omega)) (And.intro (KW1.cell g4 (by show qb ≠ _; omega)) (KW1.cell g5 (by show qb ≠ _; omega))))))
        refine hr_skip 2 none (w' := (((zv0.setCell ⟨w.heap.size + 1, 0, none⟩ (.string f)).setCell ⟨w.heap.size + 1, 1, none⟩ (.string a)).setCell ⟨w.heap.size + 1, 2, none⟩ (.slice o1 n1 c1))) rfl rfl (by kernel_rfl) rfl (by go_simp) zH1 ?_
        simp only [Act.put]
        have R6 : Arr ((((zv0.setCell ⟨w.heap.size + 1, 0, none⟩ (.string f)).setCell ⟨w.heap.size + 1, 1, none⟩ (.string a)).setCell ⟨w.heap.size + 1, 2, none⟩ (.slice o1 n1 c1))) (w.heap.size + 1 + 1) 39 [.string ⟨#[]⟩, .string ⟨#[]⟩, .slice none 0 0] := (KW1.block _ (arr_below R5 zE0).lt (by omega)).trans (arr_below R5 zE0)
        have u0 : ((((zv0.setCell ⟨w.heap.size + 1, 0, none⟩ (.string f)).setCell ⟨w.heap.size + 1, 1, none⟩ (.string a)).setCell ⟨w.heap.size + 1, 2, none⟩ (.slice o1 n1 c1))).cell? ⟨w.heap.size + 1 + 1, 0, none⟩ = some (.string ⟨#[]⟩) := R6.cell 0
        have u1 : ((((zv0.setCell ⟨w.heap.size + 1, 0, none⟩ (.string f)).setCell ⟨w.heap.size + 1, 1, none⟩ (.string a)).setCell ⟨w.heap.size + 1, 2, none⟩ (.slice o1 n1 c1))).cell? ⟨w.heap.size + 1 + 1, 1, none⟩ = some (.string ⟨#[]⟩) := R6.cell 1
        have u2 : ((((zv0.setCell ⟨w.heap.size + 1, 0, none⟩ (.string f)).setCell ⟨w.heap.size + 1, 1, none⟩ (.string a)).setCell ⟨w.heap.size + 1, 2, none⟩ (.slice o1 n1 c1))).cell? ⟨w.heap.size + 1 + 1, 2, none⟩ = some (.slice none 0 0) := R6.cell 2
        have uf0 := R6.free 0
        have uf1 := R6.free 1
        have uf2 := R6.free 2
        obtain ⟨h0, h1, h2, h3, h4, h5⟩ := zH1
        have zH2 := And.intro (KW2.cell h0 (by show qa ≠ _; omega)) (And.intro (KW2.cell h1 (by show qa ≠ _; omega)) (And.intro (KW2.cell h2 (by show qa ≠ _; omega)) (And.intro (KW2.cell h3 (by show qb ≠ _; omega)) (And.intro (KW2.cell h4 (by show qb ≠ _; omega)) (KW2.cell h5 (by show qb ≠ _; omega))))))
        refine hr_skip 3 none (w' := ((((((zv0.setCell ⟨w.heap.size + 1, 0, none⟩ (.string f)).setCell ⟨w.heap.size + 1, 1, none⟩ (.string a)).setCell ⟨w.heap.size + 1, 2, none⟩ (.slice o1 n1 c1)).setCell ⟨w.heap.size + 1 + 1, 0, none⟩ (.string a)).setCell ⟨w.heap.size + 1 + 1, 1, none⟩ (.string t)).setCell ⟨w.heap.size + 1 + 1, 2, none⟩ (.slice o2 n2 c2))) rfl rfl (by kernel_rfl) rfl (by go_simp) zH2 ?_
        simp only [Act.put]
        refine hr_take_w 4 (some 6) (.int .i64 0) rfl rfl (by kernel_rfl) (by kernel_rfl) (by kernel_rfl) rfl (fun W hW => by obtain ⟨h0, h1, h2, h3, h4, h5⟩ := hW; go_simp) zH2 ?_
        simp only [FL]
        refine wpAnyH_done (by kernel_rfl) ?_ _
        refine NoPanic.normal ?_
        have BZ := BW.trans (zE0.mono BW.size)
        have BY := KW1.below BZ BZ.size (by omega)
        have BF := KW2.below BY BY.size (by omega)
        have N1 := ((M1.below zE0).rt (arr_below R4 zE0) KW1).rt R6 KW2
        have N2 := ((M2.below zE0).rt (arr_below R4 zE0) KW1).rt R6 KW2
        clear KW1 KW2 BZ BY M1 M2
        go_wp2
        exact bodyPost_ret (v := .tuple #[.agg #[.string f, .string a, .slice o1 n1 c1], .agg #[.string a, .string t, .slice o2 n2 c2], .int .i64 0]) (by simp [results, Tryz.results21, go_sem, r0, r1, r2, u0, u1, u2]) rfl (.inl ⟨HFK.out, _, _, _, _, _, _, rfl, N1, N2, BF⟩)
  | true =>
    have CU2 := CU w2
    go_wp2_with fail
    refine CU2.mono ?_
    rintro e V0 ⟨rfl, D0⟩
    have K0 := arr_below K2 D0
    have R40 := arr_below R42 D0
    have R50 := arr_below R52 D0
    have B0 := B2.trans (D0.mono B2.size)
    have hz : t.size ≠ 0 := of_decide_eq_true HTB.out.symm
    clear CU CU2 K2 R42 R52 B2 k1
    by_cases g2 : 0 ≤ d
    case pos =>
      have HFK : Hid (splitK f t a = 8) := by
        show _ = _
        unfold splitK
        rw [if_neg HN.out, if_pos (.inr ⟨hz, by rw [← HDD.out]; omega⟩)]
      have r0 : V0.cell? ⟨w.heap.size + 1, 0, none⟩ = some (.string ⟨#[]⟩) := R40.cell 0
      have rf0 := R40.free 0
      have r1 : V0.cell? ⟨w.heap.size + 1, 1, none⟩ = some (.string ⟨#[]⟩) := R40.cell 1
      have rf1 := R40.free 1
      have r2 : V0.cell? ⟨w.heap.size + 1, 2, none⟩ = some (.slice none 0 0) := R40.cell 2
      have rf2 := R40.free 2
      have rlt := R40.lt
      have s0 : V0.cell? ⟨w.heap.size + 2, 0, none⟩ = some (.string ⟨#[]⟩) := R50.cell 0
      have sf0 := R50.free 0
      have s1 : V0.cell? ⟨w.heap.size + 2, 1, none⟩ = some (.string ⟨#[]⟩) := R50.cell 1
      have sf1 := R50.free 1
      have s2 : V0.cell? ⟨w.heap.size + 2, 2, none⟩ = some (.slice none 0 0) := R50.cell 2
      have sf2 := R50.free 2
      have slt := R50.lt
      have HK : Hid (splitK f t a = 8) := HFK.out
      have KW1 : Wr (w.heap.size + 1) V0 (((V0.setCell ⟨w.heap.size + 1, 0, none⟩ (.string ⟨#[]⟩)).setCell ⟨w.heap.size + 1, 1, none⟩ (.string ⟨#[]⟩)).setCell ⟨w.heap.size + 1, 2, none⟩ (.slice none 0 0)) := (((Wr.refl _ _).set 0 _).set 1 _).set 2 _
      have KW2 : Wr (w.heap.size + 1 + 1) (((V0.setCell ⟨w.heap.size + 1, 0, none⟩ (.string ⟨#[]⟩)).setCell ⟨w.heap.size + 1, 1, none⟩ (.string ⟨#[]⟩)).setCell ⟨w.heap.size + 1, 2, none⟩ (.slice none 0 0)) ((((((V0.setCell ⟨w.heap.size + 1, 0, none⟩ (.string ⟨#[]⟩)).setCell ⟨w.heap.size + 1, 1, none⟩ (.string ⟨#[]⟩)).setCell ⟨w.heap.size + 1, 2, none⟩ (.slice none 0 0)).setCell ⟨w.heap.size + 1 + 1, 0, none⟩ (.string ⟨#[]⟩)).setCell ⟨w.heap.size + 1 + 1, 1, none⟩ (.string ⟨#[]⟩)).setCell ⟨w.heap.size + 1 + 1, 2, none⟩ (.slice none 0 0)) := (((Wr.refl _ _).set 0 _).set 1 _).set 2 _
      have KB1 := KW1.below B0 B0.size (by omega)
      have KB := KW2.below KB1 KB1.size (by omega)
      clear KW1 KW2 KB1
      go_wp2
      exact bodyPost_ret (v := .tuple #[.agg #[.string ⟨#[]⟩, .string ⟨#[]⟩, .slice none 0 0], .agg #[.string ⟨#[]⟩, .string ⟨#[]⟩, .slice none 0 0], .int .i64 8]) (by simp [results, Tryz.results21, go_sem, r0, r1, r2, s0, s1, s2]) rfl (.inr ⟨by rw [HK.out]; decide, by rw [HK.out], KB⟩)
    have HFK : Hid (splitK f t a = 0) := by
      show _ = _
      unfold splitK
      rw [if_neg HN.out, if_neg]
      rintro (h | ⟨-, h⟩)
      · rw [← HCC.out] at h; omega
      · rw [← HDD.out] at h; omega
    clear D0 D2 hz
    obtain ⟨V1, hV1⟩ : ∃ V, V = V0.alloc (.cells #[.string f, .string a, .slice none 0 0] 39) := ⟨_, rfl⟩
    obtain ⟨V2, hV2⟩ : ∃ V, V = V1.alloc (.cells #[.string a, .string t, .slice none 0 0] 39) := ⟨_, rfl⟩
    have E1 : Below V0.heap.size V0 V1 := by rw [hV1]; exact (Below.refl _ _).alloc (Nat.le_refl _) _
    have E2 : Below V1.heap.size V1 V2 := by rw [hV2]; exact (Below.refl _ _).alloc (Nat.le_refl _) _
    have hqa : w.heap.size + 2 < V0.heap.size := R50.lt
    have v1 : V1.heap.size = V0.heap.size + 1 := by rw [hV1]; exact Array.size_push ..
    have v2 : V2.heap.size = V0.heap.size + 2 := by rw [hV2, ← show V1.heap.size + 1 = V0.heap.size + 2 by omega]; exact Array.size_push ..
    have QA0 : Arr V2 V0.heap.size 39 [.string f, .string a, .slice none 0 0] := arr_below (by rw [hV1]; exact heap_alloc_new V0 _ : Arr V1 V0.heap.size 39 [.string f, .string a, .slice none 0 0]) E2
    have QB0 : Arr V2 (V0.heap.size + 1) 39 [.string a, .string t, .slice none 0 0] := by rw [← v1, hV2]; exact heap_alloc_new V1 _
    have EE := E1.trans (E2.mono E1.size)
    have B2 := B0.trans (EE.mono B0.size)
    have K2 := arr_below K0 EE
    have R42 := arr_below R40 EE
    have R52 := arr_below R50 EE
    have k0 : V0.cell? ⟨w.heap.size, 0, none⟩ = some (.string f) := K0.cell 0
    have k1' := (arr_below K0 E1).cell 1
    have k1 : (V0.alloc (.cells #[.string f, .string a, .slice none 0 0] 39)).cell? ⟨w.heap.size, 1, none⟩ = some (.string t) := by rw [← hV1]; exact k1'
    have hVV : V2 = (V0.alloc (.cells #[.string f, .string a, .slice none 0 0] 39)).alloc (.cells #[.string a, .string t, .slice none 0 0] 39) := by rw [hV2, hV1]
    clear hV1 hV2 k1'
    go_wp2
    rw [← hVV]
    obtain ⟨qa, hqe⟩ : ∃ q, q = V0.heap.size := ⟨_, rfl⟩
    obtain ⟨qb, hqf⟩ : ∃ q, q = V0.heap.size + 1 := ⟨_, rfl⟩
    obtain ⟨base, hbs⟩ : ∃ q, q = V2.heap.size := ⟨_, rfl⟩
    rw [← hqe] at QA0
    rw [← hqf] at QB0
    try rw [← hqf]
    try rw [← hqe]
    have ha1 : w.heap.size + 2 < qa := by omega
    have ha2 : qa < qb := by omega
    have ha3 : qb < base := by omega
    have hb0 : base ≤ V2.heap.size := by omega
    clear hVV hqe hqf hbs hqa v1 v2 E1 E2 EE k0 k1 K0 R40 R50 B0
    go_loopw [9] (fun i wr => ∃ (j : Nat) (o1 : Option Addr) (n1 c1 : Nat) (o2 : Option Addr) (n2 c2 : Nat), j ≤ n ∧ i = .int .i64 j ∧ Arr wr qa 39 [.string f, .string a, .slice o1 n1 c1] ∧ Arr wr qb 39 [.string a, .string t, .slice o2 n2 c2] ∧ Two w wr base (.slice o1 n1 c1) (.slice o2 n2 c2) ((l.take j).filter fun c => inRows f a c.row) ((l.take j).filter fun c => !inRows f a c.row) ∧ Arr wr w.heap.size 39 [.string f, .string t, .slice ao n cap] ∧ Arr wr (w.heap.size + 1) 39 [.string ⟨#[]⟩, .string ⟨#[]⟩, .slice none 0 0] ∧ Arr wr (w.heap.size + 2) 39 [.string ⟨#[]⟩, .string ⟨#[]⟩, .slice none 0 0] ∧ base ≤ wr.heap.size ∧ Below w.heap.size w wr) (fun i _ => n - (intOf i).toNat)
    case atStart => exact ⟨0, none, 0, 0, none, 0, 0, Nat.zero_le _, rfl, QA0, QB0, Two.nil _ _ _, K2, R42, R52, hb0, B2⟩
    case round =>
      clear QA0 QB0 K2 R42 R52 hb0 B2
      obtain ⟨j, o1, n1, c1, o2, n2, c2, hj, rfl, QA, QB, TW, K, R4, R5, hbw, BW⟩ := hrel
      have k2 : wr.cell? ⟨w.heap.size, 2, none⟩ = some (.slice ao n cap) := K.cell 2
      by_cases hlt : j < n
      · have hjl : j < l.length := by omega
        have hji : (j : Int) < (n : Int) := by omega
        have HOK : Hid (l[j].ok w) := L.ok _ (List.getElem_mem hjl)
        obtain ⟨b, off, ea, hc⟩ := L.at (by omega)
        have X := (hc j hjl).below BW
        have hbl : b < w.heap.size := World.block_lt_of_cell? _ _ (hc j hjl).c0
        have HTK : Hid (l.take (j + 1) = l.take j ++ [l[j]]) := List.take_succ_eq_append_getElem hjl
        obtain ⟨c, hce⟩ : ∃ c, c = l[j] := ⟨_, rfl⟩
        rw [← hce] at X HOK HTK
        subst ea
        obtain ⟨x0, x1, x2, x3, x4, x5⟩ := X
        have hbb : b < base := by omega
        clear hc hce
        have q0 : wr.cell? ⟨qa, 0, none⟩ = some (.string f) := QA.cell 0
        have q1 : wr.cell? ⟨qa, 1, none⟩ = some (.string a) := QA.cell 1
        have q2 : wr.cell? ⟨qa, 2, none⟩ = some (.slice o1 n1 c1) := QA.cell 2
        have HIN : Hid (∀ V, Calls Tryz.prog 34 #[.agg #[.string f, .string a, .slice o1 n1 c1], .string c.row] V fun e w' => e = .returned (.bool (inRows f a c.row)) ∧ Below V.heap.size V w') := fun V => rinside10_any V f a c.row o1 n1 c1 hf.out ha.out HOK.out.row
        obtain ⟨rb, hrb⟩ : ∃ b, b = inRows f a c.row := ⟨_, rfl⟩
        rw [← hrb] at HIN
        have HRB : Hid (inRows f a c.row = rb) := hrb.symm
        clear hrb
        go_wp2
        have zHS : Hid (∀ V, Below wr.heap.size wr V → V.cell? ⟨qa, 0, none⟩ = some (.string f) ∧ V.cell? ⟨qa, 1, none⟩ = some (.string a) ∧ V.cell? ⟨qa, 2, none⟩ = some (.slice o1 n1 c1) ∧ V.cell? ⟨w.heap.size, 2, none⟩ = some (.slice (some ⟨b, off, none⟩) n cap) ∧ V.cell? ⟨b, off + j * 6, none⟩ = some (.string c.row)) := fun V hV => ⟨(hV.cell (World.block_lt_of_cell? _ _ q0)).trans q0, (hV.cell (World.block_lt_of_cell? _ _ q1)).trans q1, (hV.cell (World.block_lt_of_cell? _ _ q2)).trans q2, (hV.cell (World.block_lt_of_cell? _ _ k2)).trans k2, (hV.cell (World.block_lt_of_cell? _ _ x0)).trans x0⟩
        have zE0 : Below wr.heap.size wr wr.drew := (Below.refl _ _).drew
        refine wp_region_noPanic ?_
        refine wp_region_held_drew (S := fun V => V.cell? ⟨qa, 0, none⟩ = some (.string f) ∧ V.cell? ⟨qa, 1, none⟩ = some (.string a) ∧ V.cell? ⟨qa, 2, none⟩ = some (.slice o1 n1 c1) ∧ V.cell? ⟨w.heap.size, 2, none⟩ = some (.slice (some ⟨b, off, none⟩) n cap) ∧ V.cell? ⟨b, off + j * 6, none⟩ = some (.string c.row)) (by kernel_rfl) (zHS.out _ zE0) (fun zH0 => ?_)
        obtain ⟨zv0, hv0⟩ : ∃ v, v = wr.drew := ⟨_, rfl⟩
        rw [← hv0] at zH0 zE0 ⊢
        clear hv0
        refine hr_take_w 0 (some 54) (.agg #[.string f, .string a, .slice o1 n1 c1]) rfl rfl (by kernel_rfl) (by kernel_rfl) (by kernel_rfl) rfl (fun W hW => by obtain ⟨h0, h1, h2, h3, h4⟩ := hW; go_simp) zH0 ?_
        simp only [FL]
        refine hr_take_w 1 (some 55) (.pointer (some ⟨w.heap.size, 2, none⟩)) rfl rfl (by kernel_rfl) (by kernel_rfl) (by kernel_rfl) rfl (fun W hW => by obtain ⟨h0, h1, h2, h3, h4⟩ := hW; go_simp) zH0 ?_
        simp only [FL]
        refine hr_take_w 2 (some 56) (.slice (some ⟨b, off, none⟩) n cap) rfl rfl (by kernel_rfl) (by kernel_rfl) (by kernel_rfl) rfl (fun W hW => by obtain ⟨h0, h1, h2, h3, h4⟩ := hW; go_simp) zH0 ?_
        simp only [FL]
        refine hr_take_w 3 (some 57) (.int .i64 (j : Nat)) rfl rfl (by kernel_rfl) (by kernel_rfl) (by kernel_rfl) rfl (fun W hW => by obtain ⟨h0, h1, h2, h3, h4⟩ := hW; go_simp) zH0 ?_
        simp only [FL]
        refine hr_take_w 4 (some 58) (.pointer (some ⟨b, off + j * 6, none⟩)) rfl rfl (by kernel_rfl) (by kernel_rfl) (by kernel_rfl) rfl (fun W hW => by obtain ⟨h0, h1, h2, h3, h4⟩ := hW; go_simp) zH0 ?_
        simp only [FL]
        refine hr_take_w 5 (some 59) (.pointer (some ⟨b, off + j * 6, none⟩)) rfl rfl (by kernel_rfl) (by kernel_rfl) (by kernel_rfl) rfl (fun W hW => by obtain ⟨h0, h1, h2, h3, h4⟩ := hW; go_simp) zH0 ?_
        simp only [FL]
        refine hr_take_w 6 (some 60) (.pointer (some ⟨b, off + j * 6, none⟩)) rfl rfl (by kernel_rfl) (by kernel_rfl) (by kernel_rfl) rfl (fun W hW => by obtain ⟨h0, h1, h2, h3, h4⟩ := hW; go_simp) zH0 ?_
        simp only [FL]
        refine hr_take_w 7 (some 61) (.string c.row) rfl rfl (by kernel_rfl) (by kernel_rfl) (by kernel_rfl) rfl (fun W hW => by obtain ⟨h0, h1, h2, h3, h4⟩ := hW; go_simp) zH0 ?_
        simp only [FL]
        refine hr_call_w 8 (some 62) 34 #[.agg #[.string f, .string a, .slice o1 n1 c1], .string c.row] rfl rfl (by kernel_rfl) rfl (by go_simp) (fun v w' => v = .bool rb ∧ Below zv0.heap.size zv0 w') ((HIN.out zv0).mono (by
          rintro e w' ⟨rfl, C⟩
          exact ⟨_, rfl, rfl, C⟩)) ?_
        rintro v zv1 ⟨rfl, zC0⟩
        have zE1 := zE0.trans (zC0.mono zE0.size)
        have zH1 := zHS.out zv1 zE1
        refine ⟨zH1, ?_⟩
        simp only [FL]
        refine wpAnyH_done (by kernel_rfl) ?_ _
        refine NoPanic.normal ?_
        obtain ⟨ws, hws⟩ : ∃ V, V = zv1 := ⟨_, rfl⟩
        have zB : Below wr.heap.size wr ws := by rw [hws]; exact zE1
        rw [← hws]
        clear zHS zH0  zH1  HIN q0 q1 q2
        have zs := zB.size
        replace QA := arr_below QA zB
        replace QB := arr_below QB zB
        replace TW := TW.below zB
        replace K := arr_below K zB
        replace R4 := arr_below R4 zB
        replace R5 := arr_below R5 zB
        replace BW := BW.trans (zB.mono BW.size)
        replace hbw : base ≤ ws.heap.size := by omega
        replace k2 := (zB.cell (World.block_lt_of_cell? _ _ k2)).trans k2
        replace x0 := (zB.cell (World.block_lt_of_cell? _ _ x0)).trans x0
        replace x1 := (zB.cell (World.block_lt_of_cell? _ _ x1)).trans x1
        replace x2 := (zB.cell (World.block_lt_of_cell? _ _ x2)).trans x2
        replace x3 := (zB.cell (World.block_lt_of_cell? _ _ x3)).trans x3
        replace x4 := (zB.cell (World.block_lt_of_cell? _ _ x4)).trans x4
        replace x5 := (zB.cell (World.block_lt_of_cell? _ _ x5)).trans x5
        clear hws zB zs
        cases rb with
        | true =>
          have QQ := QA
          have qq : ws.cell? ⟨qa, 2, none⟩ = some (.slice o1 n1 c1) := QA.cell 2
          have hbn : b ≠ qa := by omega
          have HLN : Hid (((l.take j).filter fun c => inRows f a c.row).length ≤ 1000000) := by
            show _ ≤ _
            refine Nat.le_trans (List.length_filter_le _ _) ?_
            rw [List.length_take]
            omega
          go_wp2
          have yHS : Hid (∀ V, Below ws.heap.size ws V → V.cell? ⟨w.heap.size, 2, none⟩ = some (.slice (some ⟨b, off, none⟩) n cap) ∧ V.cell? ⟨b, off + j * 6, none⟩ = some (.string c.row) ∧ V.cell? ⟨b, off + j * 6 + 1, none⟩ = some (.string c.fam) ∧ V.cell? ⟨b, off + j * 6 + 2, none⟩ = some (.string c.qual) ∧ V.cell? ⟨b, off + j * 6 + 3, none⟩ = some (.int .u64 c.time) ∧ V.cell? ⟨b, off + j * 6 + 4, none⟩ = some (.slice c.va.ao c.va.n c.va.cap) ∧ V.cell? ⟨b, off + j * 6 + 5, none⟩ = some (.bool c.gone)) := fun V hV => ⟨(hV.cell (World.block_lt_of_cell? _ _ k2)).trans k2, (hV.cell (World.block_lt_of_cell? _ _ x0)).trans x0, (hV.cell (World.block_lt_of_cell? _ _ x1)).trans x1, (hV.cell (World.block_lt_of_cell? _ _ x2)).trans x2, (hV.cell (World.block_lt_of_cell? _ _ x3)).trans x3, (hV.cell (World.block_lt_of_cell? _ _ x4)).trans x4, (hV.cell (World.block_lt_of_cell? _ _ x5)).trans x5⟩
          have yE0 : Below ws.heap.size ws ws.drew := (Below.refl _ _).drew
          refine wp_region_noPanic ?_
          refine wp_region_held_drew (S := fun V => V.cell? ⟨w.heap.size, 2, none⟩ = some (.slice (some ⟨b, off, none⟩) n cap) ∧ V.cell? ⟨b, off + j * 6, none⟩ = some (.string c.row) ∧ V.cell? ⟨b, off + j * 6 + 1, none⟩ = some (.string c.fam) ∧ V.cell? ⟨b, off + j * 6 + 2, none⟩ = some (.string c.qual) ∧ V.cell? ⟨b, off + j * 6 + 3, none⟩ = some (.int .u64 c.time) ∧ V.cell? ⟨b, off + j * 6 + 4, none⟩ = some (.slice c.va.ao c.va.n c.va.cap) ∧ V.cell? ⟨b, off + j * 6 + 5, none⟩ = some (.bool c.gone)) (by kernel_rfl) (yHS.out _ yE0) (fun yH0 => ?_)
          obtain ⟨yv0, hv0⟩ : ∃ v, v = ws.drew := ⟨_, rfl⟩
          rw [← hv0] at yH0 yE0 ⊢
          clear hv0
          refine hr_take_w 0 (some 63) (.pointer (some ⟨qa, 2, none⟩)) rfl rfl (by kernel_rfl) (by kernel_rfl) (by kernel_rfl) rfl (fun W hW => by obtain ⟨h0, h1, h2, h3, h4, h5, h6⟩ := hW; go_simp) yH0 ?_
          simp only [FL]
          refine hr_take_w 2 (some 65) (.pointer (some ⟨w.heap.size, 2, none⟩)) rfl rfl (by kernel_rfl) (by kernel_rfl) (by kernel_rfl) rfl (fun W hW => by obtain ⟨h0, h1, h2, h3, h4, h5, h6⟩ := hW; go_simp) yH0 ?_
          simp only [FL]
          refine hr_take_w 3 (some 66) (.slice (some ⟨b, off, none⟩) n cap) rfl rfl (by kernel_rfl) (by kernel_rfl) (by kernel_rfl) rfl (fun W hW => by obtain ⟨h0, h1, h2, h3, h4, h5, h6⟩ := hW; go_simp) yH0 ?_
          simp only [FL]
          refine hr_take_w 4 (some 67) (.int .i64 (j : Nat)) rfl rfl (by kernel_rfl) (by kernel_rfl) (by kernel_rfl) rfl (fun W hW => by obtain ⟨h0, h1, h2, h3, h4, h5, h6⟩ := hW; go_simp) yH0 ?_
          simp only [FL]
          refine hr_take_w 5 (some 68) (.pointer (some ⟨b, off + j * 6, none⟩)) rfl rfl (by kernel_rfl) (by kernel_rfl) (by kernel_rfl) rfl (fun W hW => by obtain ⟨h0, h1, h2, h3, h4, h5, h6⟩ := hW; go_simp) yH0 ?_
          simp only [FL]
          refine hr_take_w 6 (some 69) (.agg #[.string c.row, .string c.fam, .string c.qual, .int .u64 c.time, .slice c.va.ao c.va.n c.va.cap, .bool c.gone]) rfl rfl (by kernel_rfl) (by kernel_rfl) (by kernel_rfl) rfl (fun W hW => by obtain ⟨h0, h1, h2, h3, h4, h5, h6⟩ := hW; go_simp) yH0 ?_
          simp only [FL]
          refine wpAnyH_effto 3 (fun zi zv zw => (zi = 1 → zv = .slice o1 n1 c1) ∧ (zi = 7 → ∃ g, zv = .slice (some ⟨g, 0, none⟩) 1 1 ∧ Arr zw g 33 [.string c.row, .string c.fam, .string c.qual, .int .u64 c.time, .slice c.va.ao c.va.n c.va.cap, .bool c.gone])) [(1, 64), (7, 70)] 85 (by kernel_rfl) (by decide) (by decide) rfl ?_ (fun W hW => yHS.out W (yE0.trans (hW.mono yE0.size))) ?_ ?_
          · intro zi v w w' h hb
            refine ⟨fun e => ?_, fun e => ?_⟩
            · have h := h.1 e
              exact h
            · have h := h.2 e
              obtain ⟨g, h1, h2⟩ := h
              exact ⟨g, h1, arr_below h2 hb⟩
          · intro zp zhi o a w ho hs hb hdep
            have yEB := yE0.trans (hb.mono yE0.size)
            simp only [List.mem_cons, List.not_mem_nil, or_false] at zhi
            rcases zhi with rfl | rfl
            · obtain rfl : _ = o := Option.some.inj (show some _ = some o from ho)
              have t63 : a.tmps[63]? = some (.pointer (some ⟨qa, 2, none⟩)) := hs.get 63 (by kernel_rfl) rfl
              have lc := (yEB.cell (World.block_lt_of_cell? _ _ qq)).trans qq
              exact .inl ⟨.slice o1 n1 c1, w, by go_simp, ⟨fun _ => rfl, fun e => absurd e (by decide)⟩, Below.refl _ _⟩
            · obtain rfl : _ = o := Option.some.inj (show some _ = some o from ho)
              have t69 : a.tmps[69]? = some (.agg #[.string c.row, .string c.fam, .string c.qual, .int .u64 c.time, .slice c.va.ao c.va.n c.va.cap, .bool c.gone]) := hs.get 69 (by kernel_rfl) rfl
              exact .inl ⟨_, _, by go_simp, ⟨fun e => absurd e (by decide), fun _ => ⟨_, rfl, heap_alloc_new w _⟩⟩, (Below.refl _ _).alloc (Nat.le_refl _) _⟩
          intro zf yv1 hb hh
          have yE1 := yE0.trans (hb.mono yE0.size)
          obtain e1 := (hh (1, 64) (by simp)).1 rfl
          obtain ⟨gc, e7, A7⟩ := (hh (7, 70) (by simp)).2 rfl
          clear hh hb
          simp only [putL, List.foldl_cons, List.foldl_nil, e1, e7]
          clear e1 e7
          simp only [FL]
          have T1 := TW.below yE1
          have ys := yE1.size
          obtain ⟨ro, rn, rc, W3, ha, T3, D3⟩ := T1.app 31 (cp := 1) A7 HOK.out HLN.out (Nat.le_trans hbw ys)
          have yH1 := yHS.out yv1 yE1
          obtain ⟨g0, g1, g2, g3, g4, g5, g6⟩ := yH1
          have yH3 := And.intro ((D3.cell (by show w.heap.size < base; omega)).trans g0) (And.intro ((D3.cell hbb).trans g1) (And.intro ((D3.cell hbb).trans g2) (And.intro ((D3.cell hbb).trans g3) (And.intro ((D3.cell hbb).trans g4) (And.intro ((D3.cell hbb).trans g5) ((D3.cell hbb).trans g6))))))
          refine hr_ex 8 (some 71) rfl rfl (by kernel_rfl) rfl (R := fun v w' => .slice ro rn rc = v ∧ W3 = w') ⟨_, W3, by simp [execOp, Act.eval, resolve, invoke, builtin, ha], rfl, rfl⟩ ?_
          rintro v w' ⟨rfl, rfl⟩
          refine ⟨yH3, ?_⟩
          simp only [FL]
          refine hr_take_w 9 (some 72) (.pointer (some ⟨qa, 2, none⟩)) rfl rfl (by kernel_rfl) (by kernel_rfl) (by kernel_rfl) rfl (fun W hW => by obtain ⟨h0, h1, h2, h3, h4, h5, h6⟩ := hW; go_simp) yH3 ?_
          simp only [FL]
          have QA3 : Arr W3 qa 39 [.string f, .string a, .slice o1 n1 c1] := arr_low (arr_below QQ yE1) D3 (by omega)
          have lc : W3.cell? ⟨qa, 2, none⟩ = some (.slice o1 n1 c1) := QA3.cell 2
          have lf := QA3.free 2
          have KW : Wr qa W3 (W3.setCell ⟨qa, 2, none⟩ (.slice ro rn rc)) := (Wr.refl _ _).set 2 _
          obtain ⟨g0, g1, g2, g3, g4, g5, g6⟩ := yH3
          have yH4 := And.intro (KW.cell g0 (by show w.heap.size ≠ qa; omega)) (And.intro (KW.cell g1 hbn) (And.intro (KW.cell g2 hbn) (And.intro (KW.cell g3 hbn) (And.intro (KW.cell g4 hbn) (And.intro (KW.cell g5 hbn) (KW.cell g6 hbn))))))
          refine hr_skip 10 none (w' := W3.setCell ⟨qa, 2, none⟩ (.slice ro rn rc)) rfl rfl (by kernel_rfl) rfl (by go_simp) yH4 ?_
          simp only [Act.put]
          refine wpAnyH_done (by kernel_rfl) ?_ _
          refine NoPanic.normal ?_
          have S5 : Arr (W3.setCell ⟨qa, 2, none⟩ (.slice ro rn rc)) qa 39 [.string f, .string a, .slice ro rn rc] := heap_setCell_same W3 qa 2 _ _ _ QA3
          have O5 : Arr (W3.setCell ⟨qa, 2, none⟩ (.slice ro rn rc)) qb 39 [.string a, .string t, .slice o2 n2 c2] := (KW.block _ (arr_low (arr_below QB yE1) D3 (by omega)).lt (by omega)).trans (arr_low (arr_below QB yE1) D3 (by omega))
          have K5 : Arr (W3.setCell ⟨qa, 2, none⟩ (.slice ro rn rc)) w.heap.size 39 [.string f, .string t, .slice (some ⟨b, off, none⟩) n cap] := (KW.block _ (arr_low (arr_below K yE1) D3 (by omega)).lt (by omega)).trans (arr_low (arr_below K yE1) D3 (by omega))
          have R45 : Arr (W3.setCell ⟨qa, 2, none⟩ (.slice ro rn rc)) (w.heap.size + 1) 39 [.string ⟨#[]⟩, .string ⟨#[]⟩, .slice none 0 0] := (KW.block _ (arr_low (arr_below R4 yE1) D3 (by omega)).lt (by omega)).trans (arr_low (arr_below R4 yE1) D3 (by omega))
          have R55 : Arr (W3.setCell ⟨qa, 2, none⟩ (.slice ro rn rc)) (w.heap.size + 2) 39 [.string ⟨#[]⟩, .string ⟨#[]⟩, .slice none 0 0] := (KW.block _ (arr_low (arr_below R5 yE1) D3 (by omega)).lt (by omega)).trans (arr_low (arr_below R5 yE1) D3 (by omega))
          have T5 := T3.wr KW (by omega)
          have BZ := BW.trans (yE1.mono BW.size)
          have BY := BZ.trans (D3.mono (by omega))
          have B5 := KW.below BY BY.size (by omega)
          have d3 := D3.size
          have hb5 : base ≤ (W3.setCell ⟨qa, 2, none⟩ (.slice ro rn rc)).heap.size := Nat.le_trans (by omega) KW.size
          have T6 : Two w (W3.setCell ⟨qa, 2, none⟩ (.slice ro rn rc)) base (.slice ro rn rc) (.slice o2 n2 c2) ((l.take (j + 1)).filter fun c => inRows f a c.row) ((l.take (j + 1)).filter fun c => !inRows f a c.row) := by
            rw [HTK.out, List.filter_append, List.filter_append, show List.filter (fun c => inRows f a c.row) [c] = [c] by simp [HRB.out], show List.filter (fun c => !inRows f a c.row) [c] = [] by simp [HRB.out], List.append_nil]
            exact T5
          obtain ⟨w6, hw6⟩ : ∃ V, V = W3.setCell ⟨qa, 2, none⟩ (.slice ro rn rc) := ⟨_, rfl⟩
          rw [← hw6] at S5 O5 K5 R45 R55 B5 hb5 T6 ⊢
          clear hw6 KW T5 T3 QA3 lc lf g0 g1 g2 g3 g4 g5 g6 yH4 yHS yH0 qq QQ ha A7 BZ BY D3 T1
          go_wp2
          go_roundw
          case rel => exact ⟨j + 1, ro, rn, rc, o2, n2, c2, by omega, by go_num, S5, O5, T6, K5, R45, R55, hb5, B5⟩
          case measure => simp [intOf]; omega
        | false =>
          have QQ := QB
          have qq : ws.cell? ⟨qb, 2, none⟩ = some (.slice o2 n2 c2) := QB.cell 2
          have hbn : b ≠ qb := by omega
          have HLN : Hid (((l.take j).filter fun c => !inRows f a c.row).length ≤ 1000000) := by
            show _ ≤ _
            refine Nat.le_trans (List.length_filter_le _ _) ?_
            rw [List.length_take]
            omega
          go_wp2
          have yHS : Hid (∀ V, Below ws.heap.size ws V → V.cell? ⟨w.heap.size, 2, none⟩ = some (.slice (some ⟨b, off, none⟩) n cap) ∧ V.cell? ⟨b, off + j * 6, none⟩ = some (.string c.row) ∧ V.cell? ⟨b, off + j * 6 + 1, none⟩ = some (.string c.fam) ∧ V.cell? ⟨b, off + j * 6 + 2, none⟩ = some (.string c.qual) ∧ V.cell? ⟨b, off + j * 6 + 3, none⟩ = some (.int .u64 c.time) ∧ V.cell? ⟨b, off + j * 6 + 4, none⟩ = some (.slice c.va.ao c.va.n c.va.cap) ∧ V.cell? ⟨b, off + j * 6 + 5, none⟩ = some (.bool c.gone)) := fun V hV => ⟨(hV.cell (World.block_lt_of_cell? _ _ k2)).trans k2, (hV.cell (World.block_lt_of_cell? _ _ x0)).trans x0, (hV.cell (World.block_lt_of_cell? _ _ x1)).trans x1, (hV.cell (World.block_lt_of_cell? _ _ x2)).trans x2, (hV.cell (World.block_lt_of_cell? _ _ x3)).trans x3, (hV.cell (World.block_lt_of_cell? _ _ x4)).trans x4, (hV.cell (World.block_lt_of_cell? _ _ x5)).trans x5⟩
          have yE0 : Below ws.heap.size ws ws.drew := (Below.refl _ _).drew
          refine wp_region_noPanic ?_
          refine wp_region_held_drew (S := fun V => V.cell? ⟨w.heap.size, 2, none⟩ = some (.slice (some ⟨b, off, none⟩) n cap) ∧ V.cell? ⟨b, off + j * 6, none⟩ = some (.string c.row) ∧ V.cell? ⟨b, off + j * 6 + 1, none⟩ = some (.string c.fam) ∧ V.cell? ⟨b, off + j * 6 + 2, none⟩ = some (.string c.qual) ∧ V.cell? ⟨b, off + j * 6 + 3, none⟩ = some (.int .u64 c.time) ∧ V.cell? ⟨b, off + j * 6 + 4, none⟩ = some (.slice c.va.ao c.va.n c.va.cap) ∧ V.cell? ⟨b, off + j * 6 + 5, none⟩ = some (.bool c.gone)) (by kernel_rfl) (yHS.out _ yE0) (fun yH0 => ?_)
          obtain ⟨yv0, hv0⟩ : ∃ v, v = ws.drew := ⟨_, rfl⟩
          rw [← hv0] at yH0 yE0 ⊢
          clear hv0
          refine hr_take_w 0 (some 73) (.pointer (some ⟨qb, 2, none⟩)) rfl rfl (by kernel_rfl) (by kernel_rfl) (by kernel_rfl) rfl (fun W hW => by obtain ⟨h0, h1, h2, h3, h4, h5, h6⟩ := hW; go_simp) yH0 ?_
          simp only [FL]
          refine hr_take_w 2 (some 75) (.pointer (some ⟨w.heap.size, 2, none⟩)) rfl rfl (by kernel_rfl) (by kernel_rfl) (by kernel_rfl) rfl (fun W hW => by obtain ⟨h0, h1, h2, h3, h4, h5, h6⟩ := hW; go_simp) yH0 ?_
          simp only [FL]
          refine hr_take_w 3 (some 76) (.slice (some ⟨b, off, none⟩) n cap) rfl rfl (by kernel_rfl) (by kernel_rfl) (by kernel_rfl) rfl (fun W hW => by obtain ⟨h0, h1, h2, h3, h4, h5, h6⟩ := hW; go_simp) yH0 ?_
          simp only [FL]
          refine hr_take_w 4 (some 77) (.int .i64 (j : Nat)) rfl rfl (by kernel_rfl) (by kernel_rfl) (by kernel_rfl) rfl (fun W hW => by obtain ⟨h0, h1, h2, h3, h4, h5, h6⟩ := hW; go_simp) yH0 ?_
          simp only [FL]
          refine hr_take_w 5 (some 78) (.pointer (some ⟨b, off + j * 6, none⟩)) rfl rfl (by kernel_rfl) (by kernel_rfl) (by kernel_rfl) rfl (fun W hW => by obtain ⟨h0, h1, h2, h3, h4, h5, h6⟩ := hW; go_simp) yH0 ?_
          simp only [FL]
          refine hr_take_w 6 (some 79) (.agg #[.string c.row, .string c.fam, .string c.qual, .int .u64 c.time, .slice c.va.ao c.va.n c.va.cap, .bool c.gone]) rfl rfl (by kernel_rfl) (by kernel_rfl) (by kernel_rfl) rfl (fun W hW => by obtain ⟨h0, h1, h2, h3, h4, h5, h6⟩ := hW; go_simp) yH0 ?_
          simp only [FL]
          refine wpAnyH_effto 3 (fun zi zv zw => (zi = 1 → zv = .slice o2 n2 c2) ∧ (zi = 7 → ∃ g, zv = .slice (some ⟨g, 0, none⟩) 1 1 ∧ Arr zw g 33 [.string c.row, .string c.fam, .string c.qual, .int .u64 c.time, .slice c.va.ao c.va.n c.va.cap, .bool c.gone])) [(1, 74), (7, 80)] 85 (by kernel_rfl) (by decide) (by decide) rfl ?_ (fun W hW => yHS.out W (yE0.trans (hW.mono yE0.size))) ?_ ?_
          · intro zi v w w' h hb
            refine ⟨fun e => ?_, fun e => ?_⟩
            · have h := h.1 e
              exact h
            · have h := h.2 e
              obtain ⟨g, h1, h2⟩ := h
              exact ⟨g, h1, arr_below h2 hb⟩
          · intro zp zhi o a w ho hs hb hdep
            have yEB := yE0.trans (hb.mono yE0.size)
            simp only [List.mem_cons, List.not_mem_nil, or_false] at zhi
            rcases zhi with rfl | rfl
            · obtain rfl : _ = o := Option.some.inj (show some _ = some o from ho)
              have t73 : a.tmps[73]? = some (.pointer (some ⟨qb, 2, none⟩)) := hs.get 73 (by kernel_rfl) rfl
              have lc := (yEB.cell (World.block_lt_of_cell? _ _ qq)).trans qq
              exact .inl ⟨.slice o2 n2 c2, w, by go_simp, ⟨fun _ => rfl, fun e => absurd e (by decide)⟩, Below.refl _ _⟩
            · obtain rfl : _ = o := Option.some.inj (show some _ = some o from ho)
              have t79 : a.tmps[79]? = some (.agg #[.string c.row, .string c.fam, .string c.qual, .int .u64 c.time, .slice c.va.ao c.va.n c.va.cap, .bool c.gone]) := hs.get 79 (by kernel_rfl) rfl
              exact .inl ⟨_, _, by go_simp, ⟨fun e => absurd e (by decide), fun _ => ⟨_, rfl, heap_alloc_new w _⟩⟩, (Below.refl _ _).alloc (Nat.le_refl _) _⟩
          intro zf yv1 hb hh
          have yE1 := yE0.trans (hb.mono yE0.size)
          obtain e1 := (hh (1, 74) (by simp)).1 rfl
          obtain ⟨gc, e7, A7⟩ := (hh (7, 80) (by simp)).2 rfl
          clear hh hb
          simp only [putL, List.foldl_cons, List.foldl_nil, e1, e7]
          clear e1 e7
          simp only [FL]
          have T1 := TW.sym.below yE1
          have ys := yE1.size
          obtain ⟨ro, rn, rc, W3, ha, T3, D3⟩ := T1.app 31 (cp := 1) A7 HOK.out HLN.out (Nat.le_trans hbw ys)
          have yH1 := yHS.out yv1 yE1
          obtain ⟨g0, g1, g2, g3, g4, g5, g6⟩ := yH1
          have yH3 := And.intro ((D3.cell (by show w.heap.size < base; omega)).trans g0) (And.intro ((D3.cell hbb).trans g1) (And.intro ((D3.cell hbb).trans g2) (And.intro ((D3.cell hbb).trans g3) (And.intro ((D3.cell hbb).trans g4) (And.intro ((D3.cell hbb).trans g5) ((D3.cell hbb).trans g6))))))
          refine hr_ex 8 (some 81) rfl rfl (by kernel_rfl) rfl (R := fun v w' => .slice ro rn rc = v ∧ W3 = w') ⟨_, W3, by simp [execOp, Act.eval, resolve, invoke, builtin, ha], rfl, rfl⟩ ?_
          rintro v w' ⟨rfl, rfl⟩
          refine ⟨yH3, ?_⟩
          simp only [FL]
          refine hr_take_w 9 (some 82) (.pointer (some ⟨qb, 2, none⟩)) rfl rfl (by kernel_rfl) (by kernel_rfl) (by kernel_rfl) rfl (fun W hW => by obtain ⟨h0, h1, h2, h3, h4, h5, h6⟩ := hW; go_simp) yH3 ?_
          simp only [FL]
          have QA3 : Arr W3 qb 39 [.string a, .string t, .slice o2 n2 c2] := arr_low (arr_below QQ yE1) D3 (by omega)
          have lc : W3.cell? ⟨qb, 2, none⟩ = some (.slice o2 n2 c2) := QA3.cell 2
          have lf := QA3.free 2
          have KW : Wr qb W3 (W3.setCell ⟨qb, 2, none⟩ (.slice ro rn rc)) := (Wr.refl _ _).set 2 _
          obtain ⟨g0, g1, g2, g3, g4, g5, g6⟩ := yH3
          have yH4 := And.intro (KW.cell g0 (by show w.heap.size ≠ qb; omega)) (And.intro (KW.cell g1 hbn) (And.intro (KW.cell g2 hbn) (And.intro (KW.cell g3 hbn) (And.intro (KW.cell g4 hbn) (And.intro (KW.cell g5 hbn) (KW.cell g6 hbn))))))
          refine hr_skip 10 none (w' := W3.setCell ⟨qb, 2, none⟩ (.slice ro rn rc)) rfl rfl (by kernel_rfl) rfl (by go_simp) yH4 ?_
          simp only [Act.put]
          refine wpAnyH_done (by kernel_rfl) ?_ _
          refine NoPanic.normal ?_
          have S5 : Arr (W3.setCell ⟨qb, 2, none⟩ (.slice ro rn rc)) qb 39 [.string a, .string t, .slice ro rn rc] := heap_setCell_same W3 qb 2 _ _ _ QA3
          have O5 : Arr (W3.setCell ⟨qb, 2, none⟩ (.slice ro rn rc)) qa 39 [.string f, .string a, .slice o1 n1 c1] := (KW.block _ (arr_low (arr_below QA yE1) D3 (by omega)).lt (by omega)).trans (arr_low (arr_below QA yE1) D3 (by omega))
          have K5 : Arr (W3.setCell ⟨qb, 2, none⟩ (.slice ro rn rc)) w.heap.size 39 [.string f, .string t, .slice (some ⟨b, off, none⟩) n cap] := (KW.block _ (arr_low (arr_below K yE1) D3 (by omega)).lt (by omega)).trans (arr_low (arr_below K yE1) D3 (by omega))
          have R45 : Arr (W3.setCell ⟨qb, 2, none⟩ (.slice ro rn rc)) (w.heap.size + 1) 39 [.string ⟨#[]⟩, .string ⟨#[]⟩, .slice none 0 0] := (KW.block _ (arr_low (arr_below R4 yE1) D3 (by omega)).lt (by omega)).trans (arr_low (arr_below R4 yE1) D3 (by omega))
          have R55 : Arr (W3.setCell ⟨qb, 2, none⟩ (.slice ro rn rc)) (w.heap.size + 2) 39 [.string ⟨#[]⟩, .string ⟨#[]⟩, .slice none 0 0] := (KW.block _ (arr_low (arr_below R5 yE1) D3 (by omega)).lt (by omega)).trans (arr_low (arr_below R5 yE1) D3 (by omega))
          have T5 := T3.wr KW (by omega)
          have BZ := BW.trans (yE1.mono BW.size)
          have BY := BZ.trans (D3.mono (by omega))
          have B5 := KW.below BY BY.size (by omega)
          have d3 := D3.size
          have hb5 : base ≤ (W3.setCell ⟨qb, 2, none⟩ (.slice ro rn rc)).heap.size := Nat.le_trans (by omega) KW.size
          have T6 : Two w (W3.setCell ⟨qb, 2, none⟩ (.slice ro rn rc)) base (.slice o1 n1 c1) (.slice ro rn rc) ((l.take (j + 1)).filter fun c => inRows f a c.row) ((l.take (j + 1)).filter fun c => !inRows f a c.row) := by
            rw [HTK.out, List.filter_append, List.filter_append, show List.filter (fun c => inRows f a c.row) [c] = [] by simp [HRB.out], show List.filter (fun c => !inRows f a c.row) [c] = [c] by simp [HRB.out], List.append_nil]
            exact T5.sym
          obtain ⟨w6, hw6⟩ : ∃ V, V = W3.setCell ⟨qb, 2, none⟩ (.slice ro rn rc) := ⟨_, rfl⟩
          rw [← hw6] at S5 O5 K5 R45 R55 B5 hb5 T6 ⊢
          clear hw6 KW T5 T3 QA3 lc lf g0 g1 g2 g3 g4 g5 g6 yH4 yHS yH0 qq QQ ha A7 BZ BY D3 T1
          go_wp2
          go_roundw
          case rel => exact ⟨j + 1, o1, n1, c1, ro, rn, rc, by omega, by go_num, O5, S5, T6, K5, R45, R55, hb5, B5⟩
          case measure => simp [intOf]; omega
      · have hge : ¬ (j : Int) < (n : Int) := by omega
        obtain rfl : j = n := by omega
        have htk : l.take j = l := List.take_of_length_le (by omega)
        rw [htk] at TW
        obtain ⟨a1, p1, e1, L1⟩ := TW.one.cl BW
        obtain ⟨a2, p2, e2, L2⟩ := TW.two.cl BW
        have M1 : CL wr o1 n1 c1 (l.filter fun c => inRows f a c.row) := by
          simp only [Value.slice.injEq] at e1
          obtain ⟨u1, u2, u3⟩ := e1
          rw [u1, u2, u3]
          exact L1
        have M2 : CL wr o2 n2 c2 (l.filter fun c => !inRows f a c.row) := by
          simp only [Value.slice.injEq] at e2
          obtain ⟨u1, u2, u3⟩ := e2
          rw [u1, u2, u3]
          exact L2
        clear e1 e2 L1 L2 htk TW
        have q0 : wr.cell? ⟨qa, 0, none⟩ = some (.string f) := QA.cell 0
        have q1 : wr.cell? ⟨qa, 1, none⟩ = some (.string a) := QA.cell 1
        have q2 : wr.cell? ⟨qa, 2, none⟩ = some (.slice o1 n1 c1) := QA.cell 2
        have p0 : wr.cell? ⟨qb, 0, none⟩ = some (.string a) := QB.cell 0
        have p1 : wr.cell? ⟨qb, 1, none⟩ = some (.string t) := QB.cell 1
        have p2 : wr.cell? ⟨qb, 2, none⟩ = some (.slice o2 n2 c2) := QB.cell 2
        clear QA QB
        go_wp2
        have zHS : Hid (∀ V, Below wr.heap.size wr V → V.cell? ⟨qa, 0, none⟩ = some (.string f) ∧ V.cell? ⟨qa, 1, none⟩ = some (.string a) ∧ V.cell? ⟨qa, 2, none⟩ = some (.slice o1 n1 c1) ∧ V.cell? ⟨qb, 0, none⟩ = some (.string a) ∧ V.cell? ⟨qb, 1, none⟩ = some (.string t) ∧ V.cell? ⟨qb, 2, none⟩ = some (.slice o2 n2 c2)) := fun V hV => ⟨(hV.cell (World.block_lt_of_cell? _ _ q0)).trans q0, (hV.cell (World.block_lt_of_cell? _ _ q1)).trans q1, (hV.cell (World.block_lt_of_cell? _ _ q2)).trans q2, (hV.cell (World.block_lt_of_cell? _ _ p0)).trans p0, (hV.cell (World.block_lt_of_cell? _ _ p1)).trans p1, (hV.cell (World.block_lt_of_cell? _ _ p2)).trans p2⟩
        have zE0 : Below wr.heap.size wr wr.drew := (Below.refl _ _).drew
        refine wp_region_noPanic ?_
        refine wp_region_held_drew (S := fun V => V.cell? ⟨qa, 0, none⟩ = some (.string f) ∧ V.cell? ⟨qa, 1, none⟩ = some (.string a) ∧ V.cell? ⟨qa, 2, none⟩ = some (.slice o1 n1 c1) ∧ V.cell? ⟨qb, 0, none⟩ = some (.string a) ∧ V.cell? ⟨qb, 1, none⟩ = some (.string t) ∧ V.cell? ⟨qb, 2, none⟩ = some (.slice o2 n2 c2)) (by kernel_rfl) (zHS.out _ zE0) (fun zH0 => ?_)
        obtain ⟨zv0, hv0⟩ : ∃ v, v = wr.drew := ⟨_, rfl⟩
        rw [← hv0] at zH0 zE0 ⊢
        clear hv0
        refine hr_take_w 0 (some 83) (.agg #[.string f, .string a, .slice o1 n1 c1]) rfl rfl (by kernel_rfl) (by kernel_rfl) (by kernel_rfl) rfl (fun W hW => by obtain ⟨h0, h1, h2, h3, h4, h5⟩ := hW; go_simp) zH0 ?_
        simp only [FL]
        refine hr_take_w 1 (some 84) (.agg #[.string a, .string t, .slice o2 n2 c2]) rfl rfl (by kernel_rfl) (by kernel_rfl) (by kernel_rfl) rfl (fun W hW => by obtain ⟨h0, h1, h2, h3, h4, h5⟩ := hW; go_simp) zH0 ?_
        simp only [FL]
        have r0 : zv0.cell? ⟨w.heap.size + 1, 0, none⟩ = some (.string ⟨#[]⟩) := (arr_below R4 zE0).cell 0
        have rf0 := (arr_below R4 zE0).free 0
        have r1 : zv0.cell? ⟨w.heap.size + 1, 1, none⟩ = some (.string ⟨#[]⟩) := (arr_below R4 zE0).cell 1
        have rf1 := (arr_below R4 zE0).free 1
        have r2 : zv0.cell? ⟨w.heap.size + 1, 2, none⟩ = some (.slice none 0 0) := (arr_below R4 zE0).cell 2
        have rf2 := (arr_below R4 zE0).free 2
        have rlt := (arr_below R4 zE0).lt
        have s0 : zv0.cell? ⟨w.heap.size + 2, 0, none⟩ = some (.string ⟨#[]⟩) := (arr_below R5 zE0).cell 0
        have sf0 := (arr_below R5 zE0).free 0
        have s1 : zv0.cell? ⟨w.heap.size + 2, 1, none⟩ = some (.string ⟨#[]⟩) := (arr_below R5 zE0).cell 1
        have sf1 := (arr_below R5 zE0).free 1
        have s2 : zv0.cell? ⟨w.heap.size + 2, 2, none⟩ = some (.slice none 0 0) := (arr_below R5 zE0).cell 2
        have sf2 := (arr_below R5 zE0).free 2
        have slt := (arr_below R5 zE0).lt
        have KW1 : Wr (w.heap.size + 1) zv0 (((zv0.setCell ⟨w.heap.size + 1, 0, none⟩ (.string f)).setCell ⟨w.heap.size + 1, 1, none⟩ (.string a)).setCell ⟨w.heap.size + 1, 2, none⟩ (.slice o1 n1 c1)) := (((Wr.refl _ _).set 0 _).set 1 _).set 2 _
        have KW2 : Wr (w.heap.size + 1 + 1) (((zv0.setCell ⟨w.heap.size + 1, 0, none⟩ (.string f)).setCell ⟨w.heap.size + 1, 1, none⟩ (.string a)).setCell ⟨w.heap.size + 1, 2, none⟩ (.slice o1 n1 c1)) ((((((zv0.setCell ⟨w.heap.size + 1, 0, none⟩ (.string f)).setCell ⟨w.heap.size + 1, 1, none⟩ (.string a)).setCell ⟨w.heap.size + 1, 2, none⟩ (.slice o1 n1 c1)).setCell ⟨w.heap.size + 1 + 1, 0, none⟩ (.string a)).setCell ⟨w.heap.size + 1 + 1, 1, none⟩ (.string t)).setCell ⟨w.heap.size + 1 + 1, 2, none⟩ (.slice o2 n2 c2)) := (((Wr.refl _ _).set 0 _).set 1 _).set 2 _
        obtain ⟨g0, g1, g2, g3, g4, g5⟩ := zH0
        have zH1 := And.intro (KW1.cell g0 (by show qa ≠ _; omega)) (And.intro (KW1.cell g1 (by show qa ≠ _; omega)) (And.intro (KW1.cell g2 (by show qa ≠ _; omega)) (And.intro (KW1.cell g3 (by show qb ≠ _; omega)) (And.intro (KW1.cell g4 (by show qb ≠ _; omega)) (KW1.cell g5 (by show qb ≠ _; omega))))))
        refine hr_skip 2 none (w' := (((zv0.setCell ⟨w.heap.size + 1, 0, none⟩ (.string f)).setCell ⟨w.heap.size + 1, 1, none⟩ (.string a)).setCell ⟨w.heap.size + 1, 2, none⟩ (.slice o1 n1 c1))) rfl rfl (by kernel_rfl) rfl (by go_simp) zH1 ?_
        simp only [Act.put]
        have R6 : Arr ((((zv0.setCell ⟨w.heap.size + 1, 0, none⟩ (.string f)).setCell ⟨w.heap.size + 1, 1, none⟩ (.string a)).setCell ⟨w.heap.size + 1, 2, none⟩ (.slice o1 n1 c1))) (w.heap.size + 1 + 1) 39 [.string ⟨#[]⟩, .string ⟨#[]⟩, .slice none 0 0] := (KW1.block _ (arr_below R5 zE0).lt (by omega)).trans (arr_below R5 zE0)
        have u0 : ((((zv0.setCell ⟨w.heap.size + 1, 0, none⟩ (.string f)).setCell ⟨w.heap.size + 1, 1, none⟩ (.string a)).setCell ⟨w.heap.size + 1, 2, none⟩ (.slice o1 n1 c1))).cell? ⟨w.heap.size + 1 + 1, 0, none⟩ = some (.string ⟨#[]⟩) := R6.cell 0
        have u1 : ((((zv0.setCell ⟨w.heap.size + 1, 0, none⟩ (.string f)).setCell ⟨w.heap.size + 1, 1, none⟩ (.string a)).setCell ⟨w.heap.size + 1, 2, none⟩ (.slice o1 n1 c1))).cell? ⟨w.heap.size + 1 + 1, 1, none⟩ = some (.string ⟨#[]⟩) := R6.cell 1
        have u2 : ((((zv0.setCell ⟨w.heap.size + 1, 0, none⟩ (.string f)).setCell ⟨w.heap.size + 1, 1, none⟩ (.string a)).setCell ⟨w.heap.size + 1, 2, none⟩ (.slice o1 n1 c1))).cell? ⟨w.heap.size + 1 + 1, 2, none⟩ = some (.slice none 0 0) := R6.cell 2
        have uf0 := R6.free 0
        have uf1 := R6.free 1
        have uf2 := R6.free 2
        obtain ⟨h0, h1, h2, h3, h4, h5⟩ := zH1
        have zH2 := And.intro (KW2.cell h0 (by show qa ≠ _; omega)) (And.intro (KW2.cell h1 (by show qa ≠ _; omega)) (And.intro (KW2.cell h2 (by show qa ≠ _; omega)) (And.intro (KW2.cell h3 (by show qb ≠ _; omega)) (And.intro (KW2.cell h4 (by show qb ≠ _; omega)) (KW2.cell h5 (by show qb ≠ _; omega))))))
        refine hr_skip 3 none (w' := ((((((zv0.setCell ⟨w.heap.size + 1, 0, none⟩ (.string f)).setCell ⟨w.heap.size + 1, 1, none⟩ (.string a)).setCell ⟨w.heap.size + 1, 2, none⟩ (.slice o1 n1 c1)).setCell ⟨w.heap.size + 1 + 1, 0, none⟩ (.string a)).setCell ⟨w.heap.size + 1 + 1, 1, none⟩ (.string t)).setCell ⟨w.heap.size + 1 + 1, 2, none⟩ (.slice o2 n2 c2))) rfl rfl (by kernel_rfl) rfl (by go_simp) zH2 ?_
        simp only [Act.put]
        refine hr_take_w 4 (some 6) (.int .i64 0) rfl rfl (by kernel_rfl) (by kernel_rfl) (by kernel_rfl) rfl (fun W hW => by obtain ⟨h0, h1, h2, h3, h4, h5⟩ := hW; go_simp) zH2 ?_
        simp only [FL]
        refine wpAnyH_done (by kernel_rfl) ?_ _
        refine NoPanic.normal ?_
        have BZ := BW.trans (zE0.mono BW.size)
        have BY := KW1.below BZ BZ.size (by omega)
        have BF := KW2.below BY BY.size (by omega)
        have N1 := ((M1.below zE0).rt (arr_below R4 zE0) KW1).rt R6 KW2
        have N2 := ((M2.below zE0).rt (arr_below R4 zE0) KW1).rt R6 KW2
        clear KW1 KW2 BZ BY M1 M2
        go_wp2
        exact bodyPost_ret (v := .tuple #[.agg #[.string f, .string a, .slice o1 n1 c1], .agg #[.string a, .string t, .slice o2 n2 c2], .int .i64 0]) (by simp [results, Tryz.results21, go_sem, r0, r1, r2, u0, u1, u2]) rfl (.inl ⟨HFK.out, _, _, _, _, _, _, rfl, N1, N2, BF⟩)
end Go.Proofs.YtlljmhcgjkolpaaGreatDoor

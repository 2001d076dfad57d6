/-
  alive: the chapter's example.
-/
import Derived.Test.YtkncfjokkojfpaaDoorSNew
import Derived.Lib.SlBytesConst
namespace Go.Proofs.YtkncfjokkojfpaaDoor
open Go.RowKit

theorem SU.none : SU fun _ => Option.none := fun _ _ h => by cases h
theorem TagPost.su {w w' : World} {p mk ms : Nat} {real : Bool} {nk ns : Nat} {KF SF : Value → Option Value} {node : Nat} {ds tg : List Int} {g ns' : Nat} {SF' : Value → Option Value} (h : TagPost w w' p mk ms real nk ns KF SF node ds tg g ns' SF') (hu : SU SF) : SU SF' := by
  intro v u hv
  by_cases e : v = sv node ds
  · subst e
    rw [h.at_] at hv
    exact (Option.some.inj hv).symm
  · rw [h.other v e] at hv
    exact hu v u hv
/-- Bytes that are written out, in a block of their own, its marks whatever. -/
theorem Sl.newF (w : World) (xs : List Int) (h : Byt xs) (hn : xs.length ≤ maxLen) (fr : Nat × Nat) : Sl (w.alloc (.cells (bv xs).toArray 5 fr)) (some ⟨w.heap.size, 0, none⟩) xs.length xs.length xs := by
  refine ⟨rfl, Nat.le_refl _, hn, fun h => by simp at h, fun a ha i hi => ?_, h⟩
  obtain rfl := Option.some.inj ha
  rw [Addr.add_lit, Nat.zero_add, cell_of_row _ w.heap.size i (bv xs).toArray 5 fr (heap_alloc_new w _)]
  simpa using bv_get xs i hi
theorem Sl.a97 (w : World) : Sl (w.alloc (.cells #[.int .u8 97] 5 (1, 2))) (some ⟨w.heap.size, 0, none⟩) 1 1 [97] :=
  Sl.newF w [97] (by intro x hx; rw [List.mem_singleton.1 hx]; omega) (by decide) (1, 2)
/-- Only block ms, which is new, has turned. -/
theorem below_of {w0 w w' : World} {ms : Nat} (hb : Below w0.heap.size w0 w) (hg : w.grownBy w' (some ms)) (hm : w0.heap.size ≤ ms) : Below w0.heap.size w0 w' :=
  hb.grown hg hb.size (by intro k hk; cases hk; exact hm)

set_option maxRecDepth 100000 in
set_option maxHeartbeats 4000000 in
theorem alive_any (w : World) (hT : Tabs w) :
    Calls Tryd.prog 9 #[] w fun e w' => e = .returned (.bool true) ∧ Below w.heap.size w w' := by
  have h2 := hT.two
  have kc := fun (w : World) (C : Array Value) (n c : Nat) => Lib.run_convert_bytes_const (P := Tryd.prog) w 22 5 C n c Tryd.underlying22 Tryd.underlying5
  have h97 : Byt [97] := by intro x hx; rw [List.mem_singleton.1 hx]; omega
  go_enter Tryd.func9, Tryd.ntmps9
  go_wp2_with fail
  have N0 : NL (w.alloc (.cells #[.int .u64 1, .int .u64 2] 24)) (some ⟨w.heap.size, 0, none⟩) 2 2 [1, 2] := NL.new w [1, 2] 24 (by intro x hx; simp at hx; omega) (by decide)
  have B0 : Below w.heap.size w (w.alloc (.cells #[.int .u64 1, .int .u64 2] 24)) := (Below.refl _ w).alloc (Nat.le_refl _) _
  have s0 := B0.size
  refine (new_good _ false none 0 0 [] _ 2 2 [1, 2] N0 (Sl.nothing _) (by omega) (hT.below B0 h2) (by omega) (by omega) rfl).mono ?_
  rintro e w1 ⟨p, mk, ms, nk, KF, rfl, P1⟩
  have B1 : Below w.heap.size w w1 := B0.trans (P1.bel.mono s0)
  have s1 := B1.size
  have nms : w.heap.size ≤ ms := Nat.le_trans s0 P1.nm
  have K1 := P1.bk
  have N1 := P1.kn
  clear P1 N0 B0
  go_wp2_with fail
  have A1 := Sl.a97 w1
  have C1 : Below w1.heap.size w1 (w1.alloc (.cells #[.int .u8 97] 5 (1, 2))) := (Below.refl _ w1).alloc (Nat.le_refl _) _
  have D1 : Below w.heap.size w (w1.alloc (.cells #[.int .u8 97] 5 (1, 2))) := B1.trans (C1.mono s1)
  refine (tag_known _ p mk ms false nk 0 KF _ [] _ 1 _ 1 1 [97] (K1.below C1) (N1.below C1) (hT.below D1 h2) (by omega) (by decide) A1 (by omega) (by omega) (by omega)).mono ?_
  rintro e w2 ⟨g, ns', SF', rfl, P2⟩
  have B2 : Below w.heap.size w w2 := below_of D1 P2.grown nms
  have hns : ns' = 1 := P2.more rfl
  subst hns
  have U2 := P2.su SU.none
  have K2 := P2.bk
  have N2 := (N1.below C1).grown P2.grown (K1.below C1).said.isMap
  have T2 := P2.sl
  have q1 : SF' (sv 1 (dgL false 1 [97])) = some (.agg #[]) := P2.at_
  have q2 : SF' (sv 2 (dgL false 2 [97])) = none := P2.other _ (fun e => by have := (sv_inj e).1; omega)
  clear P2 A1 C1 D1 K1 N1 B1
  have s2 := B2.size
  go_wp2_with fail
  have C2 : Below w2.heap.size w2 (w2.alloc (.cells #[.int .u8 97] 5 (1, 2))) := (Below.refl _ w2).alloc (Nat.le_refl _) _
  have D2 : Below w.heap.size w (w2.alloc (.cells #[.int .u8 97] 5 (1, 2))) := B2.trans (C2.mono s2)
  refine (check_any _ p mk ms false nk 1 KF SF' [] _ 1 _ 1 1 [97] _ 32 32 _ (K2.below C2) (N2.below C2) (hT.below D2 h2) (by omega) (Sl.a97 w2) (by omega) (T2.below C2) U2).mono ?_
  rintro e w3 ⟨rfl, E3⟩
  have h1 : chB SF' false [] (fun x => decide (x ∈ [1, 2])) 1 [97] (tgL false [] 1 [97]) = true := by
    unfold chB saB
    rw [q1]
    simp
  rw [h1]
  clear h1
  have C3 := C2.trans (E3.mono C2.size)
  have B3 : Below w.heap.size w w3 := B2.trans (C3.mono s2)
  have K3 := K2.below C3
  have N3 := N2.below C3
  have T3 := T2.below C3
  have s3 := B3.size
  clear C2 D2 E3 C3 K2 N2 T2 B2
  go_wp2_with fail
  have C4 : Below w3.heap.size w3 (w3.alloc (.cells #[.int .u8 97] 5 (1, 2))) := (Below.refl _ w3).alloc (Nat.le_refl _) _
  have D4 : Below w.heap.size w (w3.alloc (.cells #[.int .u8 97] 5 (1, 2))) := B3.trans (C4.mono s3)
  refine (check_any _ p mk ms false nk 1 KF SF' [] _ 2 _ 1 1 [97] _ 32 32 _ (K3.below C4) (N3.below C4) (hT.below D4 h2) (by omega) (Sl.a97 w3) (by omega) (T3.below C4) U2).mono ?_
  rintro e w4 ⟨rfl, E4⟩
  have h1 : chB SF' false [] (fun x => decide (x ∈ [1, 2])) 2 [97] (tgL false [] 1 [97]) = false := by
    unfold chB saB
    rw [q2]
    simp
  rw [h1]
  clear h1
  have F4 := C4.trans (E4.mono C4.size)
  have B4 : Below w.heap.size w w4 := B3.trans (F4.mono s3)
  have K4 := K3.below F4
  have s4 := B4.size
  clear C4 D4 E4 F4 K3 N3 T3 B3
  go_wp2_with fail
  have C5 : Below w4.heap.size w4 (w4.alloc (.cells #[.int .u8 97] 5 (1, 2))) := (Below.refl _ w4).alloc (Nat.le_refl _) _
  have D5 : Below w.heap.size w (w4.alloc (.cells #[.int .u8 97] 5 (1, 2))) := B4.trans (C5.mono s4)
  refine (said_any _ p mk ms false nk 1 KF SF' 1 _ 1 1 [97] (K4.below C5) (hT.below D5 h2) (by omega) (Sl.a97 w4) (by omega) U2).mono ?_
  rintro e w5 ⟨rfl, E5⟩
  rw [q1]
  have F5 := C5.trans (E5.mono C5.size)
  have B5 : Below w.heap.size w w5 := B4.trans (F5.mono s4)
  have K5 := K4.below F5
  clear C5 D5 E5 F5 K4 B4
  go_wp2_with fail
  refine (many_any w5 p mk ms false nk 1 KF SF' K5).mono ?_
  rintro e w6 ⟨rfl, rfl⟩
  go_wp2
  go_ret
  exact ⟨rfl, B5⟩

end Go.Proofs.YtkncfjokkojfpaaDoor

/-
  Texts in one: SlAlive, NilsLaw15, RowIn.
-/
import Derived.Test.YtbpbcmbcoffdlaaSlotsNilsQ4
import Derived.Test.YtbpbcmbcoffdlaaSlotsNilsQ3
import Derived.Test.YtbpbcmbcoffdlaaSlotsNilsQ6
import Derived.Test.YtbpbcmbcoffdlaaSlotsNilsQ7
import Derived.Test.YtbpbcmbcoffdlaaSlotsNilsQ2
import Derived.Lib.SmallJoins
import Derived.Test.YtbpbcmbcoffdlaaSlotsNilsQ0
namespace Go.Proofs.Ytbpbcmbcoffdlaa
open Go.RowKit
theorem sl_mark15 (w : World) (c : Int) (h : 0 ≤ c ∧ c ≤ 255) : Sl (w.alloc (.cells #[.int .u8 c] 5 (1, 2))) (some ⟨w.heap.size, 0, none⟩) 1 1 [c] := by
  refine ⟨rfl, Nat.le_refl _, by decide, fun h => by simp at h, fun a ha i hi => ?_, fun x hx => by simp at hx; omega⟩
  obtain rfl := Option.some.inj ha
  obtain rfl : i = 0 := by omega
  rw [Addr.add_lit, World.cell?_alloc_mark]
  rfl
theorem LG.made {w w' : World} {f : Nat} (h1 : 1 ≤ f) (h4 : f ≤ 4) (hL : LC w' (w.heap.size + 1) f 0 0 w.heap.size) (hM : MF w' 30 w.heap.size 0 (fun _ => none)) :
    LG w' w.heap.size (w.heap.size + 1) w.heap.size 0 (newG f) (fun _ => none) (fun _ => ⟨0, 0, 0, ⟨0, ⟨none, 0, 0, []⟩, ⟨none, 0, 0, []⟩⟩, none, 0, 0, []⟩) (fun z => if z = w.heap.size + 1 then 1 else if z = w.heap.size then 2 else 0) where
  f1 := h1
  f4 := h4
  lowz := Nat.zero_le _
  viewz := Nat.zero_le _
  lc := hL
  mf := hM
  here := fun _ _ h => by cases h
  win := fun _ _ h => by cases h
  no := fun _ h => absurd rfl h
  rL := if_pos rfl
  rM := by rw [if_neg (by omega), if_pos rfl]
  ro := fun _ _ h => by cases h
  lo := fun z hz => by rw [if_neg (by omega), if_neg (by omega)]
def svE (a : Nat) : SV := ⟨a, [], []⟩
def saE (a : Nat) : SA := ⟨a, ⟨none, 0, 0, []⟩, ⟨none, 0, 0, []⟩⟩
theorem saE_ok (w : World) (a : Nat) (h : a < 18446744073709551616) : (saE a).ok w := ⟨h, Sl.nothing w, Sl.nothing w⟩
theorem saE_blk (a z : Nat) : ¬ (saE a).blk z := by
  rintro (⟨b, h, _⟩ | ⟨b, h, _⟩) <;> cases h
def xx : ByteArray := strOfNums [120]
def gA : GT := (preG (newG 1) (svE 1) 1 xx).1
def gB : GT := (parG gA (svE 2) 1 xx).1
def gC : GT := (parG gB (svE 3) 1 xx).1
theorem al1 : (preG (newG 1) (svE 1) 1 xx).2 = 0 := by decide
theorem al2 : (parG gA (svE 2) 1 xx).2 = 0 := by decide
theorem al3 : preO gB 1 = false := by decide
theorem al4 : (parG gB (svE 3) 1 xx).2 = 0 := by decide
theorem al5 : preO gC 1 = true := by decide
theorem al6 : (certsG gC).length = 1 := by decide
set_option maxRecDepth 100000 in
set_option maxHeartbeats 4000000 in
theorem alive15 (w : World) : Calls Try.prog 10 #[] w fun e w' => e = .returned (.bool true) ∧ Below w.heap.size w w' := by
  have kc := fun (w : World) (C : Array Value) (n c g : Nat) (hg : g = w.heap.size) => Joins.run_convert_bytes_const_at (P := Try.prog) w 35 5 C n c g hg Try.underlying35 Try.underlying5
  have CN := slNew_good w 1 (by omega) (by omega)
  go_enter Try.func10, Try.ntmps10
  go_wp2_with fail
  refine CN.mono ?_
  rintro x w1 ⟨rfl, hL, hM, C1⟩
  have K1 := LG.made (by omega) (by omega) hL hM
  clear CN hL hM
  have D2 : Below w1.heap.size w1 (w1.alloc (.cells #[.int .u8 120] 5 (1, 2))) := (Below.refl _ _).alloc (Nat.le_refl _) _
  obtain ⟨K2, T2⟩ := K1.below D2
  have CA := pre_any _ _ _ _ _ _ _ _ _ K2 (by decide) (saE 1) (saE_ok _ 1 (by omega)) (fun z hz => absurd hz (saE_blk 1 z)) ⟨by decide, by decide⟩ 1 (by omega) _ 1 1 [120] (sl_mark15 w1 120 (by omega)) (fun z ⟨a, ha, _, e⟩ => by cases ha; rw [← e]; exact rho_new (Nat.le_refl _)) (by omega)
  unfold MsgPost at CA
  rw [show (saE 1).v = svE 1 from rfl, show strOfNums [120] = xx from rfl, al1] at CA
  go_wp2_with fail
  refine CA.mono ?_
  rintro x w3 ⟨n3, F3, B3, ρ3, rfl, K3, T3, h3⟩
  have E3 := (C1.trans T2.bel).trans T3.bel
  clear CA K1 K2 D2 T2 T3 C1
  change LG w3 _ _ _ _ gA _ _ _ at K3
  have D4 : Below w3.heap.size w3 (w3.alloc (.cells #[.int .u8 120] 5 (1, 2))) := (Below.refl _ _).alloc (Nat.le_refl _) _
  obtain ⟨K4, T4⟩ := K3.below D4
  have CA := prepare_any _ _ _ _ _ _ _ _ _ K4 (by unfold maxLen; omega) (saE 2) (saE_ok _ 2 (by omega)) (fun z hz => absurd hz (saE_blk 2 z)) ⟨by decide, by decide⟩ 1 (by omega) _ 1 1 [120] (sl_mark15 w3 120 (by omega)) (fun z ⟨a, ha, _, e⟩ => by cases ha; rw [← e]; exact rho_new (Nat.le_refl _)) (by omega)
  unfold MsgPost at CA
  rw [show (saE 2).v = svE 2 from rfl, show strOfNums [120] = xx from rfl, al2] at CA
  go_wp2_with fail
  refine CA.mono ?_
  rintro x w5 ⟨n5, F5, B5, ρ5, rfl, K5, T5, h5⟩
  have E5 := (E3.trans T4.bel).trans T5.bel
  clear CA K3 K4 D4 T4 T5 E3
  change LG w5 _ _ _ _ gB _ _ _ at K5
  have CP := prep_any15 _ _ _ _ _ _ _ _ _ K5 1 (by omega)
  rw [al3] at CP
  go_wp2_with fail
  refine CP.mono ?_
  rintro x w6 ⟨rfl, C6⟩
  obtain ⟨K6, T6⟩ := K5.below C6
  have D7 : Below w6.heap.size w6 (w6.alloc (.cells #[.int .u8 120] 5 (1, 2))) := (Below.refl _ _).alloc (Nat.le_refl _) _
  obtain ⟨K7, T7⟩ := K6.below D7
  have CA := prepare_any _ _ _ _ _ _ _ _ _ K7 (by unfold maxLen; omega) (saE 3) (saE_ok _ 3 (by omega)) (fun z hz => absurd hz (saE_blk 3 z)) ⟨by decide, by decide⟩ 1 (by omega) _ 1 1 [120] (sl_mark15 w6 120 (by omega)) (fun z ⟨a, ha, _, e⟩ => by cases ha; rw [← e]; exact rho_new (Nat.le_refl _)) (by omega)
  unfold MsgPost at CA
  rw [show (saE 3).v = svE 3 from rfl, show strOfNums [120] = xx from rfl, al4] at CA
  have E7 := (E5.trans T6.bel).trans T7.bel
  clear CP K5 C6 K6 D7 T6 T7 E5
  go_wp2_with fail
  refine CA.mono ?_
  rintro x w8 ⟨n8, F8, B8, ρ8, rfl, K8, T8, h8⟩
  change LG w8 _ _ _ _ gC _ _ _ at K8
  have E8 := E7.trans T8.bel
  have CP := prep_any15 _ _ _ _ _ _ _ _ _ K8 1 (by omega)
  rw [al5] at CP
  clear CA K7 T8 E7
  go_wp2_with fail
  refine CP.mono ?_
  rintro x w9 ⟨rfl, C9⟩
  obtain ⟨K9, T9⟩ := K8.below C9
  have E9 := E8.trans T9.bel
  have CC := certs_any15 _ _ _ _ _ _ _ _ _ K9 (by omega)
  clear CP K8 C9 K9 T9 E8
  unfold CertsPost at CC
  rw [al6] at CC
  have HS := E9.size
  go_wp2_with (go_at_call 15; refine CC.mono ?_; rintro e w10 ⟨ao, cap, ls, rfl, -, -, C10⟩)
  go_ret
  exact ⟨rfl, E9.trans (C10.mono HS)⟩
open Go.RowKit
theorem pre_nil15 (w : World) (seq : Nat) (d : Value) : Calls Try.prog 27 #[.pointer none, .agg #[.int .u64 1, .slice none 0 0, .slice none 0 0], .int .u64 (seq : Nat), d] w fun e w' => e = .returned (.int .i64 17) ∧ Below w.heap.size w w' := by
  have CJ := fun V => judge_nil V 1 seq
  go_enter Try.func27, Try.ntmps27
  go_wp2_with (go_at_call 48; refine (CJ _).mono ?_; rintro e w1 ⟨rfl, hw1⟩; have hw1 := hw1.symm; subst hw1)
  go_ret
  exact ⟨rfl, (Below.refl _ _).alloc (Nat.le_refl _) _⟩
theorem par_nil15 (w : World) (seq : Nat) (d : Value) : Calls Try.prog 28 #[.pointer none, .agg #[.int .u64 1, .slice none 0 0, .slice none 0 0], .int .u64 (seq : Nat), d] w fun e w' => e = .returned (.int .i64 17) ∧ Below w.heap.size w w' := by
  have CJ := fun V => judge_nil V 1 seq
  go_enter Try.func28, Try.ntmps28
  go_wp2_with (go_at_call 48; refine (CJ _).mono ?_; rintro e w1 ⟨rfl, hw1⟩; have hw1 := hw1.symm; subst hw1)
  go_ret
  exact ⟨rfl, (Below.refl _ _).alloc (Nat.le_refl _) _⟩
theorem com_nil15 (w : World) (seq : Nat) (d : Value) : Calls Try.prog 29 #[.pointer none, .agg #[.int .u64 1, .slice none 0 0, .slice none 0 0], .int .u64 (seq : Nat), d] w fun e w' => e = .returned (.int .i64 17) ∧ Below w.heap.size w w' := by
  have CJ := fun V => judge_nil V 1 seq
  go_enter Try.func29, Try.ntmps29
  go_wp2_with (go_at_call 48; refine (CJ _).mono ?_; rintro e w1 ⟨rfl, hw1⟩; have hw1 := hw1.symm; subst hw1)
  go_ret
  exact ⟨rfl, (Below.refl _ _).alloc (Nat.le_refl _) _⟩
theorem ent_nil15 (w : World) (v : Value) : Calls Try.prog 30 #[.pointer none, v] w fun e w' => e = .returned (.int .i64 17) ∧ w' = w := by
  go_enter Try.func30, Try.ntmps30
  go_wp2
  go_ret
  exact ⟨rfl, rfl⟩
theorem adv_nil15 (w : World) (v : Nat) : Calls Try.prog 31 #[.pointer none, .int .u64 (v : Nat)] w fun e w' => e = .returned (.int .i64 17) ∧ Below w.heap.size w w' := by
  go_enter Try.func31, Try.ntmps31
  go_wp2
  go_ret
  exact ⟨rfl, (Below.refl _ _).alloc (Nat.le_refl _) _⟩
set_option maxRecDepth 100000 in
set_option maxHeartbeats 4000000 in
theorem slotsNils_any (w : World) (s0 : Int) (ao : Option Addr) (m cap : Nat) (xs : List Int) (h0 : (Lit.int .u64 s0).wf = true) (_ : Sl w ao m cap xs) : Calls Try.prog 8 #[.int .u64 s0, .slice ao m cap] w fun e w' => e = .returned (.bool true) ∧ Below w.heap.size w w' := by
  have hv0 : 0 ≤ s0 ∧ s0 < 18446744073709551616 := by
    simp [Lit.wf, IntKind.min, IntKind.max, IntKind.signed, IntKind.bits] at h0
    omega
  obtain ⟨seq, rfl⟩ : ∃ v : Nat, s0 = v := ⟨s0.toNat, by omega⟩
  clear h0 hv0
  by_cases hm : 100 < m
  · have i1 : (100 : Int) < (m : Int) := by omega
    have CA := alive15 w
    clear hm
    go_enter Try.func8, Try.ntmps8
    go_wp2_with (go_at_call 10; refine CA.mono ?_; rintro e w1 ⟨rfl, C1⟩)
    go_ret
    exact ⟨rfl, C1⟩
  have i1 : ¬ (100 : Int) < (m : Int) := by omega
  clear hm
  obtain ⟨W1, hW1⟩ : ∃ W1, W1 = w.alloc (.cells #[.int .u64 1, .slice none 0 0, .slice none 0 0] 62) := ⟨_, rfl⟩
  have b1 : Below w.heap.size w W1 := by rw [hW1]; exact (Below.refl _ w).alloc (Nat.le_refl _) _
  have AX : Arr W1 w.heap.size 62 [.int .u64 1, .slice none 0 0, .slice none 0 0] := by rw [hW1]; exact heap_alloc_new w _
  have HA : Hid (∀ V, Below W1.heap.size W1 V → V.cell? ⟨w.heap.size, 0, none⟩ = some (.int .u64 1) ∧ V.cell? ⟨w.heap.size, 1, none⟩ = some (.slice none 0 0) ∧ V.cell? ⟨w.heap.size, 2, none⟩ = some (.slice none 0 0)) := fun V hV => by
    have A := AX.below hV AX.lt
    exact ⟨A.cell 0, A.cell 1, A.cell 2⟩
  have HB : Hid (Below w.heap.size w W1) := b1
  have C1 := sum_nil15 W1 (.int .u64 (seq : Nat))
  clear AX b1
  go_enter Try.func8, Try.ntmps8
  go_wp2_with fail
  rw [← hW1]
  clear hW1
  refine C1.mono ?_
  rintro x w2 ⟨ao2, n2, c2, rfl, -, E2⟩
  have C2 := comm_nil15 w2 (.int .u64 (seq : Nat))
  clear C1
  go_wp2_with fail
  refine C2.mono ?_
  rintro x w3 ⟨ao3, n3, c3, rfl, -, E3⟩
  have E3 := E2.trans (E3.mono E2.size)
  have C3 := best_nil15 w3 (.int .u64 (seq : Nat))
  clear C2 E2
  go_wp2_with fail
  refine C3.mono ?_
  rintro x w4 ⟨ao4, n4, c4, rfl, -, E4⟩
  have E4 := E3.trans (E4.mono E3.size)
  obtain ⟨c0, c1, c2x⟩ := HA.out w4 E4
  have C5 := pre_nil15 w4 seq (.slice ao m cap)
  clear C3 E3
  go_wp2_with fail
  refine C5.mono ?_
  rintro x w5 ⟨rfl, E5⟩
  have E5 := E4.trans (E5.mono E4.size)
  clear c0 c1 c2x C5 E4
  obtain ⟨c0, c1, c2x⟩ := HA.out w5 E5
  have C6 := par_nil15 w5 seq (.slice ao m cap)
  go_wp2_with fail
  refine C6.mono ?_
  rintro x w6 ⟨rfl, E6⟩
  have E6 := E5.trans (E6.mono E5.size)
  clear c0 c1 c2x C6 E5
  obtain ⟨c0, c1, c2x⟩ := HA.out w6 E6
  have C7 := com_nil15 w6 seq (.slice ao m cap)
  go_wp2_with fail
  refine C7.mono ?_
  rintro x w7 ⟨rfl, E7⟩
  have E7 := E6.trans (E7.mono E6.size)
  clear c0 c1 c2x C7 E6
  have C8 := ent_nil15 w7 (.int .u64 (seq : Nat))
  have C9 := adv_nil15 w7 seq
  go_wp2_with (first
    | (go_at_call 30; refine C8.mono ?_; rintro e w8 ⟨rfl, hw1⟩; have hw1 := hw1.symm; subst hw1)
    | (go_at_call 31; refine C9.mono ?_; rintro x w9 ⟨rfl, E9⟩
       have E9 := E7.trans (E9.mono E7.size)
       have D1 := prep_nil15 w9 (.int .u64 (seq : Nat))
       have D2 := certs_nil15 w9
       have D3 := slLow_nil w9
       have D4 := slView_nil w9
       have D5 := alive15 w9
       clear C8 C9 E7)
    | (go_at_call 20; refine D1.mono ?_; rintro e w8 ⟨rfl, hw1⟩; have hw1 := hw1.symm; subst hw1)
    | (go_at_call 15; refine D2.mono ?_; rintro e w8 ⟨rfl, hw1⟩; have hw1 := hw1.symm; subst hw1)
    | (go_at_call 24; refine D3.mono ?_; rintro e w8 ⟨rfl, hw1⟩; have hw1 := hw1.symm; subst hw1)
    | (go_at_call 22; refine D4.mono ?_; rintro e w8 ⟨rfl, hw1⟩; have hw1 := hw1.symm; subst hw1)
    | (go_at_call 10; refine D5.mono ?_; rintro e w10 ⟨rfl, E10⟩))
  go_ret
  exact ⟨rfl, HB.out.trans ((E9.trans (E10.mono E9.size)).mono HB.out.size)⟩
open Go.RowKit
theorem Sl.row {w : World} {a : Option Addr} {n cap : Nat} {zs : List Int} (h : (a = none ∧ n = 0 ∧ cap = 0 ∧ zs = []) ∨
    ∃ x, a = some x ∧ n ≤ cap ∧ cap ≤ maxLen ∧ zs.length = cap ∧ (∀ i, i < zs.length → w.cell? (x.add i) = some (.int .u8 (zs.getD i 0))) ∧ ∀ z ∈ zs, (Lit.int .u8 z).wf = true) : Sl w a n cap (zs.take n) := by
  rcases h with ⟨rfl, rfl, rfl, rfl⟩ | ⟨x, rfl, hl, hm, hz, hc, hw⟩
  · exact Sl.nothing w
  · refine ⟨by simp; omega, hl, hm, fun h => by simp at h, fun b hb i hi => ?_, fun z hz => ?_⟩
    · obtain rfl := Option.some.inj hb
      rw [hc i (by omega)]
      simp [List.getD, hi]
    · have := hw z (List.mem_of_mem_take hz)
      simp [Lit.wf, IntKind.min, IntKind.max, IntKind.signed, IntKind.bits] at this
      omega
end Go.Proofs.Ytbpbcmbcoffdlaa

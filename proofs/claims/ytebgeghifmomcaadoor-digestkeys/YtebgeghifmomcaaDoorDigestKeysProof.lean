/-
  For every two slices of bytes and every number the function DigestKeys answers true, and changes nothing that was there; the program's two tables of words read as its text lays them (tied by the card); no other condition.
-/
import Derived.Test.YtebgeghifmomcaaDoorRows
import Derived.Test.YtebgeghifmomcaaDoorRowIn
import Derived.Test.YtebgeghifmomcaaDoorAbc
import Derived.Test.YtebgeghifmomcaaDoorMac
import Derived.Test.YtebgeghifmomcaaDoorKeysLaw
import Derived.Test.YtebgeghifmomcaaDoorLaid
import Derived.Test.YtebgeghifmomcaaDoorTie
import Derived.Test.YtebgeghifmomcaaDoorCards
import Derived.WalkKit
import Derived.LaidMore
import Derived.Stop.Joined
import Derived.SevenTiedAt
import Derived.ProofKit
import Derived.OpenShut
import Derived.ShutString
import Derived.ChangeOld
import Derived.Below
namespace Go.Proofs.YtebgeghifmomcaaDoor.digestKeys
open Go.ChangeShapes Go.WideShapes Go.ChangeAt Go.RowKit
open Go.ChangeMaps (open_string shut_string)
set_option linter.unusedVariables false

theorem own : ownKnob Tryd.prog.godebug = none := by kernel_rfl
theorem laidOut : laidOutB Tryd.prog = true := by kernel_rfl

def IsRow (k : IntKind) (w : World) (a : Option Addr) (len cap : Nat) (zs : List Int) : Prop :=
  (a = none ∧ len = 0 ∧ cap = 0 ∧ zs = []) ∨
  ∃ x, a = some x ∧ len ≤ cap ∧ cap ≤ maxLen ∧ zs.length = cap ∧ (∀ i, i < zs.length → w.cell? (x.add i) = some (.int k (zs.getD i 0))) ∧ ∀ n ∈ zs, (Lit.int k n).wf = true

set_option maxRecDepth 100000 in
set_option maxHeartbeats 4000000 in
theorem walk (a0 : Option Addr) (len0 cap0 : Nat) (z0 : List Int) (a1 : Option Addr) (len1 cap1 : Nat) (z1 : List Int) (a2 : Int) (w : World) (w0 : IsRow .u8 w a0 len0 cap0 z0) (w1 : IsRow .u8 w a1 len1 cap1 z1) (w2 : (Lit.int .i64 a2).wf = true) (hT : Tabs w) :
    Calls Tryd.prog 7 #[.slice a0 len0 cap0, .slice a1 len1 cap1, .int .i64 a2] w fun e w' => e = .returned (.bool true) ∧ Below w.heap.size w w' := by
  have S0 := Sl.row w0
  have S1 := Sl.row w1
  have h2 := hT.two
  obtain ⟨i0, hi, hz0, hz1, hz2⟩ := info_parts u8info
  generalize z0.take len0 = key at S0
  generalize z1.take len1 = bs at S1
  clear w0 w1 w2
  have HT1 : Hid (Tabs w) := hT
  have l0 := S0.len
  have l1 := S1.len
  by_cases ha : 500 < len0
  · have d1 : (500 : Int) < (len0 : Int) := by omega
    have d2 : decide ((500 : Int) < (len0 : Int)) = true := by simp; omega
    go_enter Tryd.func7, Tryd.ntmps7
    go_wp2_with (go_at_call 11; refine (alive_any _ hT).mono ?_; rintro e w3 ⟨rfl, B3⟩)
    go_ret
    exact ⟨rfl, B3⟩
  have a1' : (len0 : Int) ≤ 500 := by omega
  have a2' : decide ((500 : Int) < (len0 : Int)) = false := by simp; omega
  by_cases hb : 500 < len1
  · have d1 : (500 : Int) < (len1 : Int) := by omega
    have d2 : decide ((500 : Int) < (len1 : Int)) = true := by simp; omega
    go_enter Tryd.func7, Tryd.ntmps7
    go_wp2_with (go_at_call 11; refine (alive_any _ hT).mono ?_; rintro e w3 ⟨rfl, B3⟩)
    go_ret
    exact ⟨rfl, B3⟩
  have b1' : (len1 : Int) ≤ 500 := by omega
  have b2' : decide ((500 : Int) < (len1 : Int)) = false := by simp; omega
  by_cases hc : a2 < 0
  · have d2 : decide (a2 < 0) = true := by simp; omega
    go_enter Tryd.func7, Tryd.ntmps7
    go_wp2_with (go_at_call 11; refine (alive_any _ hT).mono ?_; rintro e w3 ⟨rfl, B3⟩)
    go_ret
    exact ⟨rfl, B3⟩
  have c1' : (0 : Int) ≤ a2 := by omega
  have c2' : decide (a2 < 0) = false := by simp; omega
  by_cases hd : 64 < a2
  · have d2 : decide (64 < a2) = true := by simp; omega
    go_enter Tryd.func7, Tryd.ntmps7
    go_wp2_with (go_at_call 11; refine (alive_any _ hT).mono ?_; rintro e w3 ⟨rfl, B3⟩)
    go_ret
    exact ⟨rfl, B3⟩
  have d1' : a2 ≤ 64 := by omega
  have d2' : decide (64 < a2) = false := by simp; omega
  clear ha hb hc hd
  by_cases he : 64 < len0
  · have e1 : (64 : Int) < (len0 : Int) := by omega
    have e2 : decide ((64 : Int) < (len0 : Int)) = true := by simp; omega
    have HK : Hid (macL (sumL key) bs = macL key bs) := keyL_sum key (by omega) bs
    go_enter Tryd.func7, Tryd.ntmps7
    go_wp2_with (first
      | (go_at_call 12; refine (mac_any w a0 len0 cap0 key a1 len1 cap1 bs HT1.out S0 S1).mono ?_; clear HT1; rintro e w1 ⟨v1, rfl, own1, B1⟩; obtain ⟨mo, mc, rfl, M1, -⟩ := Sl.own own1 (macL_byte _ _); have s1 := B1.size; clear own1)
      | (go_at_call 9; refine (sum_any w1 a0 len0 cap0 key (hT.below B1 h2) (S0.below B1)).mono ?_; rintro e w2 ⟨v2, rfl, own2, C2⟩; obtain ⟨so, sc, rfl, K2, -⟩ := Sl.own own2 (sumL_byte _); have B2 : Below w.heap.size w w2 := B1.trans (C2.mono s1); have s2 := B2.size; have M2 := M1.below C2; clear own2 C2))
    refine (mac_any w2 so 32 sc (sumL key) a1 len1 cap1 bs (hT.below B2 h2) K2 (S1.below B2)).mono ?_
    rintro e w3 ⟨v3, rfl, own3, C3⟩
    obtain ⟨no, nc, rfl, N3, -⟩ := Sl.own own3 (macL_byte _ _)
    have B3 : Below w.heap.size w w3 := B2.trans (C3.mono s2)
    have s3 := B3.size
    have M3 := M2.below C3
    rw [HK.out] at N3
    clear own3 C3 M1 M2 K2
    go_wp2_with (first
      | (go_at_call 8; refine (same_any _ _ _ _ _ _ _ _ _ M3 N3).mono ?_; rintro e w4 ⟨rfl, q4, rfl⟩; simp only [decide_true])
      | (go_at_call 11; refine (alive_any _ (hT.below (bel_drewN B3 q4) h2)).mono ?_; rintro e w5 ⟨rfl, C5⟩; have B5 : Below w.heap.size w w5 := (bel_drewN B3 q4).trans (C5.mono s3)))
    go_ret
    exact ⟨rfl, B5⟩
  have e1' : (len0 : Int) ≤ 64 := by omega
  have e2' : decide ((64 : Int) < (len0 : Int)) = false := by simp; omega
  by_cases hf : 64 - (len0 : Int) < a2
  · have f2 : decide (64 - (len0 : Int) < a2) = true := by simp; omega
    go_enter Tryd.func7, Tryd.ntmps7
    go_wp2_with (go_at_call 11; refine (alive_any _ hT).mono ?_; rintro e w3 ⟨rfl, B3⟩)
    go_ret
    exact ⟨rfl, B3⟩
  have f1' : a2 ≤ 64 - (len0 : Int) := by omega
  have f2' : decide (64 - (len0 : Int) < a2) = false := by simp; omega
  obtain ⟨m, rfl⟩ := Int.eq_ofNat_of_zero_le c1'
  have hm : len0 + m ≤ 64 := by omega
  have HK : Hid (macL (key ++ List.replicate m 0) bs = macL key bs) := macL_noughts key m (by omega) bs
  clear hf he
  go_enter Tryd.func7, Tryd.ntmps7
  go_wp2_with (first
    | (go_at_call 12; refine (mac_any w a0 len0 cap0 key a1 len1 cap1 bs HT1.out S0 S1).mono ?_; clear HT1; rintro e w1 ⟨v1, rfl, own1, B1⟩; obtain ⟨mo, mc, rfl, M1, -⟩ := Sl.own own1 (macL_byte _ _); have s1 := B1.size; clear own1)
    | (at_builtin; refine wpList_app2 rfl (.tmp 47) (.tmp 48) rfl w1.heap.size w1.heap.size 0 0 [] rfl (World.ownsRow_lit w1 #[] 0 (Nat.le_refl _) (by decide) rfl) a0 len0 cap0 key rfl ((S0.below B1).below ((Below.refl _ w1).alloc (Nat.le_refl _) _)) (by omega) (by simp) ?_; intro g2 c2 w2 own2 C2; have D2 : Below w1.heap.size w1 w2 := ((Below.refl _ w1).alloc (Nat.le_refl _) _).trans C2; have B2 : Below w.heap.size w w2 := B1.trans (D2.mono s1); have s2 := B2.size; have t2 := D2.size; clear C2; simp only [Nat.zero_add, List.nil_append] at own2 ⊢)
    | (at_builtin; refine wpList_append_zeros rfl (.tmp 49) (.tmp 50) 22 3 rfl w1.heap.size 5 i0 Tryd.underlying22 Tryd.underlying3 hi hz0 hz1 hz2 g2 len0 c2 _ m rfl rfl own2 (by omega) t2 ?_; intro v3 w3 own3 C3; have D3 : Below w1.heap.size w1 w3 := D2.grown C3 t2 (fun k hk => by cases hk; exact (own2.lt g2 rfl).1); have B3 : Below w.heap.size w w3 := B1.trans (D3.mono s1); have s3 := B3.size; have M3 := M1.below D3; obtain ⟨ko, kc, rfl, K3, -⟩ := Sl.own (xs := key ++ List.replicate m 0) (by rw [bv_noughts] at own3; exact own3) (S0.byte.append (byt_noughts m)); clear C3 own2 own3 M1))
  refine (mac_any w3 ko (len0 + m) kc (key ++ List.replicate m 0) a1 len1 cap1 bs (hT.below B3 h2) K3 (S1.below B3)).mono ?_
  rintro e w4 ⟨v4, rfl, own4, C4⟩
  obtain ⟨no, nc, rfl, N4, -⟩ := Sl.own own4 (macL_byte _ _)
  have B4 : Below w.heap.size w w4 := B3.trans (C4.mono s3)
  have s4 := B4.size
  have M4 := M3.below C4
  rw [HK.out] at N4
  clear own4 C4 M3 K3
  go_wp2_with (first
    | (go_at_call 8; refine (same_any _ _ _ _ _ _ _ _ _ M4 N4).mono ?_; rintro e w5 ⟨rfl, q5, rfl⟩; simp only [decide_true])
    | (go_at_call 11; refine (alive_any _ (hT.below (bel_drewN B4 q5) h2)).mono ?_; rintro e w6 ⟨rfl, C6⟩; have B6 : Below w.heap.size w w6 := (bel_drewN B4 q5).trans (C6.mono s4)))
  go_ret
  exact ⟨rfl, B6⟩

set_option maxRecDepth 100000 in
theorem lifted (os : Os) (started : os.Started) (H : Type) (enc : TypeId × Value → H) :
    ReturnsInHanded {} Tryd.checked os 7 .any (fun w args => (Rows.digestKeysSpec.pre enc Tryd.prog Tryd.f7 [] false w args ∧ laidMetH Tryd.prog laidL w) ∧ sizedMet enc Tryd.prog Tryd.f7 (OpenSpec.ofChange Rows.digestKeysSpec) false w args) (Rows.digestKeysSpec.post enc Tryd.prog Tryd.f7 false true false false) := by
  refine returnsInHanded_of_change_and (C := Tryd.checked) (X := fun w _ => laidMetH Tryd.prog laidL w) (fun _ _ _ hh h => h.of_heap hh) own started (by kernel_rfl) Tryd.func7
    (ChangeSpec.witness_shaped (enc := enc) (C := Tryd.checked) (os := os) (X := fun w _ => laidMetH Tryd.prog laidL w) false (World.doorLaid Tryd.prog 400 os) #[.slice none 0 0, .slice none 0 0, .int .i64 0] 8 rfl (World.shaped_of_RefB (by kernel_rfl) (by kernel_rfl)) (by kernel_rfl) (by kernel_rfl) (by kernel_rfl) (door_met os _)) ?_
  intro W base args ds gs before hval0 hW _ _ hL _
  have hval : ∀ (j : Nat) t v, Tryd.f7.params[j]? = some t → args[j]? = some v → Value.okWide Tryd.prog W .any base t v := hval0
  have hW' := hW
  obtain ⟨p, q, hA0, hV, rfl, hfz, hnd⟩ := hW
  have hA : DataW.TrodAll enc Tryd.prog W 0 (fun _ => true) true Tryd.f7.params.toList args.toList ds p := hA0
  rw [Tryd.params7] at hA hval
  obtain ⟨v0, vs0, d0, ds0, p0, q0, hargs, rfl, rfl, h0, r0⟩ := trodAll_cons hA
  obtain ⟨v1, vs1, d1, ds1, p1, q1, rfl, rfl, rfl, h1, r1⟩ := trodAll_cons r0
  obtain ⟨v2, vs2, d2, ds2, p2, q2, rfl, rfl, rfl, h2, r2⟩ := trodAll_cons r1
  obtain ⟨rfl, rfl, rfl⟩ := trodAll_nil r2
  obtain rfl : args = #[v0, v1, v2] := by cases args; simp_all
  obtain ⟨rfl, rfl⟩ := trodVars_none hV
  obtain ⟨a0, len0, cap0, rfl⟩ := okWide_slice Tryd.underlying22 (hval 0 22 v0 rfl rfl)
  have k0 := h0
  have lt0 : ∀ x ∈ p0, x.block < W.heap.size := by obtain ⟨m, hm⟩ := k0; exact DataW.trod_lt m _ _ _ hm
  obtain ⟨z0, w0⟩ : ∃ zs, IsRow .u8 W a0 len0 cap0 zs := by
    obtain ⟨fuel, hf⟩ := h0
    rcases open_ints Tryd.underlying22 Tryd.underlying5 (by kernel_rfl) hf with ⟨hcs, _⟩ | ⟨x, l, c, zs, hcs, _, hl, hm, hz, _, hcell, hwz⟩
    · simp [Value.cells] at hcs
      obtain ⟨rfl, rfl, rfl⟩ := hcs
      exact ⟨[], .inl ⟨rfl, rfl, rfl, rfl⟩⟩
    · simp [Value.cells] at hcs
      obtain ⟨rfl, rfl, rfl⟩ := hcs
      exact ⟨zs, .inr ⟨_, rfl, hl, hm, by simpa using hz, hcell, hwz⟩⟩
  obtain ⟨a1, len1, cap1, rfl⟩ := okWide_slice Tryd.underlying22 (hval 1 22 v1 rfl rfl)
  have k1 := h1
  have lt1 : ∀ x ∈ p1, x.block < W.heap.size := by obtain ⟨m, hm⟩ := k1; exact DataW.trod_lt m _ _ _ hm
  obtain ⟨z1, w1⟩ : ∃ zs, IsRow .u8 W a1 len1 cap1 zs := by
    obtain ⟨fuel, hf⟩ := h1
    rcases open_ints Tryd.underlying22 Tryd.underlying5 (by kernel_rfl) hf with ⟨hcs, _⟩ | ⟨x, l, c, zs, hcs, _, hl, hm, hz, _, hcell, hwz⟩
    · simp [Value.cells] at hcs
      obtain ⟨rfl, rfl, rfl⟩ := hcs
      exact ⟨[], .inl ⟨rfl, rfl, rfl, rfl⟩⟩
    · simp [Value.cells] at hcs
      obtain ⟨rfl, rfl, rfl⟩ := hcs
      exact ⟨zs, .inr ⟨_, rfl, hl, hm, by simpa using hz, hcell, hwz⟩⟩
  obtain ⟨a2, rfl, rfl, rfl, w2⟩ := open_int Tryd.underlying3 (hval 2 3 v2 rfl rfl) h2
  clear hA0 hval0
  refine (walk a0 len0 cap0 z0 a1 len1 cap1 z1 a2 W w0 w1 w2 (tabs_of hL)).mono fun e W' ⟨he, bel⟩ => ?_
  subst he
  exact ⟨_, rfl, _, _, _, [], _, [], hW', trodAll_mk1 (shut_bool Tryd.underlying4 _), (trodAll_cons_mk (Below.trod laidOut (by kernel_rfl) (of_decide_eq_true (by kernel_rfl)) k0 bel lt0) (trodAll_cons_mk (Below.trod laidOut (by kernel_rfl) (of_decide_eq_true (by kernel_rfl)) k1 bel lt1) (trodAll_cons_mk (shut_int Tryd.underlying3 w2) trodAll_mk0))), rfl, bel.frame _, fun h => by cases h⟩

theorem over : Rows.digestKeysRow.holds Tryd.pinned (OpenSpec.ofChange Rows.digestKeysSpec) :=
  OpenClaim.holds_of_wide 7 Tryd.f7 rfl rfl rfl rfl rfl rfl rfl ⟨rfl, rfl, rfl, rfl, rfl⟩ rfl rfl rfl rfl rfl (by kernel_rfl) Tryd.func7 (by kernel_rfl)
    (of_decide_eq_true (by kernel_rfl)) (by unfold Func.isWrapper; first | (rw [if_pos (by decide +kernel)]; kernel_rfl) | (rw [if_neg (by decide +kernel)]; exact ⟨rfl, rfl⟩))
    (fun os started H enc _ => lifted os started H enc)

theorem proved : Rows.DigestKeysSaid := over
end Go.Proofs.YtebgeghifmomcaaDoor.digestKeys

namespace Go.Proofs.YtebgeghifmomcaaDoor
open Go
theorem digestKeys_holds : Rows.DigestKeysCardSaid :=
  Claim7.holds_tied_plain_at .later [] [.data, .data] true (true, "3c7bcc5c297f58ae92d7ddc70d8082ca78a12087ec0bc8a8a369704728ea9d3d") false
    digestKeys.proved (fun _ h => by cases h) (by kernel_rfl) (fun _ h => by cases h) digestKeys_row_tie rfl ⟨rfl, rfl⟩ (by kernel_rfl) rfl
    (fun f fn hf hfn => by
      obtain rfl : f = 7 := Option.some.inj ((show Tryd.prog.funcNamed "bulwark/bulwarklaw02.DigestKeys" = some 7 by kernel_rfl).symm.trans hf) |>.symm
      obtain rfl : fn = Tryd.f7 := (Option.some.inj (Tryd.func7.symm.trans hfn)).symm
      exact ⟨by kernel_rfl, fun j t ht => by
        rw [Tryd.params7] at ht
        have hm : t ∈ [22, 22, 3] := by simpa using Array.mem_of_getElem? ht
        have hall : ([22, 22, 3].all fun u => !Tryd.prog.wantsStandIn u) = true := by kernel_rfl
        exact (show Tryd.prog.wantsStandIn t = false by simpa using List.all_eq_true.1 hall t hm)⟩)
    (by kernel_rfl)
end Go.Proofs.YtebgeghifmomcaaDoor
#print axioms Go.Proofs.YtebgeghifmomcaaDoor.digestKeys_holds

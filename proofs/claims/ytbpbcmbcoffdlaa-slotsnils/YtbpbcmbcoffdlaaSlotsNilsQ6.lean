/-
  Texts in one: SlCerts.
-/
import Derived.Test.YtbpbcmbcoffdlaaSlotsNilsQ5
namespace Go.Proofs.Ytbpbcmbcoffdlaa
open Go.RowKit
theorem lty15 : GTy elS.lists.sz 24 (.slice none 0 0) 47 40 := ⟨by kernel_rfl, rfl, Try.underlying40⟩
def certK (g : GT) (k : Nat) : Option (List SV) := ((g.s k).bind ST.cert).map CT.texts
def certsG (g : GT) : List (List SV) := (keysG g).filterMap (certK g)
theorem filterMap_snoc {α β : Type} (f : α → Option β) (l : List α) (x : α) : (l ++ [x]).filterMap f = l.filterMap f ++ (match f x with | none => [] | some y => [y]) := by
  rw [List.filterMap_append]
  cases h : f x with
  | none => simp [h]
  | some y => simp [h]
theorem keysG_at {g : GT} {j : Nat} (h : j < (keysG g).length) : ∃ x, g.s ((keysG g).getD j 0) = some x := by
  have e : (keysG g).getD j 0 = (keysG g)[j] := by simp [List.getD, h]
  rw [e]
  have hm : (keysG g)[j] ∈ keysG g := List.getElem_mem h
  unfold keysG at hm
  rw [List.mem_filter] at hm
  have := hm.2
  cases hs : g.s (keysG g)[j] with
  | none =>
    have h2 : (g.s (keysG g)[j]).isSome = true := this
    rw [hs] at h2
    cases h2
  | some x => exact ⟨x, rfl⟩
theorem certs_nil15 (w : World) : Calls Try.prog 15 #[.pointer none] w fun e w' => e = .returned (.slice none 0 0) ∧ w' = w := by
  go_enter Try.func15, Try.ntmps15
  go_wp2
  go_ret
  exact ⟨rfl, rfl⟩
def CertsPost (w : World) (g : GT) (e : Ending) (w' : World) : Prop := ∃ ao cap ls, e = .returned (.slice ao (certsG g).length cap) ∧ GL elS.lists w' ao (certsG g).length cap ls ∧ ls.map (fun s => s.l.map SA.v) = certsG g ∧ Below w.heap.size w w'
set_option maxRecDepth 100000 in
set_option maxHeartbeats 4000000 in
theorem certs_any15 (w : World) (base L M n : Nat) (g : GT) (F : Value → Option Value) (B : Nat → SB) (ρ : Nat → Nat) (h : LG w base L M n g F B ρ) (hn : n ≤ 1000000) :
    Calls Try.prog 15 #[.pointer (some ⟨L, 0, none⟩)] w (CertsPost w g) := by
  have x3 : w.cell? ⟨L, 3, none⟩ = some (.map (some M)) := h.lc.cell 3
  obtain ⟨W1, hW1⟩ : ∃ W1, W1 = w.alloc (.cells #[.map (some M)] 67) := ⟨_, rfl⟩
  have CK := (callsIn_wide (n := 1)).1 (keys_u Fence.wide 1 trivial rfl (some M) w)
  rw [← hW1] at CK
  have b1 : Below w.heap.size w W1 := by rw [hW1]; exact (Below.refl _ _).alloc (Nat.le_refl _) _
  have cM : W1.cell? ⟨w.heap.size, 0, none⟩ = some (.map (some M)) := by rw [hW1]; exact cell_of_row _ _ 0 _ _ _ (heap_alloc_new w _)
  have CS := sorted_any W1 base L M n g F B _ (h.below b1).1 hn w.heap.size cM
  have HLG : Hid (LG w base L M n g F B ρ) := h
  have HL8 : Hid ((keysG g).length ≤ 8) := keysG_len g
  have HB1 : Hid (Below w.heap.size w W1) := b1
  clear h hW1 cM b1
  go_enter Try.func15, Try.ntmps15
  go_wp2_with (first
    | (go_at_call 41; refine CK.mono ?_; rintro e w1 ⟨rfl, hw1⟩; have hw1 := hw1.symm; subst hw1)
    | (go_at_call 40; refine CS.mono ?_; rintro e w2 ⟨ao, cap, rfl, q1, q2, q3, B2⟩))
  have HQ : Hid (∀ j, j < (keysG g).length → ∃ gb, ao = some ⟨gb, 0, none⟩ ∧ w2.cell? ⟨gb, j, none⟩ = some (.int .u64 ((keysG g).getD j 0 : Nat))) := fun j hj => by
    obtain ⟨gb, h1, _, h2⟩ := q1 j hj
    exact ⟨gb, h1, h2⟩
  have E2 : Below w.heap.size w w2 := HB1.out.trans (B2.mono HB1.out.size)
  have HE2 : Hid (Below w.heap.size w w2) := E2
  clear CK CS q1 x3 B2 HB1 E2
  obtain ⟨kn, hkn⟩ : ∃ n, n = (keysG g).length := ⟨_, rfl⟩
  have HKN : Hid (kn = (keysG g).length) := hkn
  rw [← hkn] at q2 HQ HL8 ⊢
  clear hkn
  go_loopw [3, 16] (fun v i wr => ∃ (k : Nat) (u : Value) (ls : List (LS SA)), k ≤ kn ∧ i = .int .i64 (k : Nat) ∧ u = v ∧ GI elS.lists 47 wr w2.heap.size u ls ∧ Hid (ls.map (fun s => s.l.map SA.v) = ((keysG g).take k).filterMap (certK g)) ∧ Below w2.heap.size w2 wr) (fun _ i _ => 10 - (intOf i).toNat)
  case atStart => exact ⟨0, _, [], Nat.zero_le _, rfl, rfl, GI.nil _ _ _ _, by show _ = _; simp, Below.refl _ _⟩
  case round =>
    obtain ⟨k, u, ls, hk, rfl, rfl, GR, HV, BR⟩ := hrel
    obtain ⟨vao, vcap, rfl⟩ := GR.slice
    by_cases hlt : k < kn
    · have HKL : Hid (k + 1 ≤ kn ∧ k < 8) := ⟨hlt, by have := HL8.out; omega⟩
      have hk8 : k < 8 := HKL.out.2
      have hki : (k : Int) < (kn : Int) := by omega
      obtain ⟨gb, rfl, ck0⟩ := HQ.out k hlt
      obtain ⟨x, hx⟩ := keysG_at (g := g) (j := k) (by rw [← HKN.out]; exact hlt)
      obtain ⟨q, hq⟩ : ∃ q, q = (keysG g).getD k 0 := ⟨_, rfl⟩
      rw [← hq] at hx ck0
      have ck : wr.cell? ⟨gb, k, none⟩ = some (.int .u64 (q : Nat)) := (BR.cell (World.block_lt_of_cell? _ _ ck0)).trans ck0
      have HT : Hid (((keysG g).take (k + 1)).filterMap (certK g) = ((keysG g).take k).filterMap (certK g) ++ (match x.cert with | none => [] | some c => [c.texts])) := by
        show _ = _
        have hkl : k < (keysG g).length := by rw [← HKN.out]; exact hlt
        have e2 : (keysG g)[k] = q := by rw [hq]; simp [List.getD, hkl]
        rw [List.take_succ_eq_append_getElem hkl, filterMap_snoc, e2]
        congr 1
        unfold certK
        rw [hx]
        rw [show (some x).bind ST.cert = x.cert from rfl]
        cases x.cert <;> rfl
      obtain ⟨KR, -⟩ := HLG.out.below (HE2.out.trans (BR.mono HE2.out.size))
      obtain ⟨fX, HX⟩ := KR.here q x hx
      have hw := KR.win q x hx
      have lz := KR.lowz
      have hl := KR.mf.look1 kU Try.underlying67 (zSlot wr) (keyU q (by omega))
      rw [fX] at hl
      simp only [Option.getD_some] at hl
      have x3 : wr.cell? ⟨L, 3, none⟩ = some (.map (some M)) := KR.lc.cell 3
      have y7 : wr.cell? ⟨(B q).X, 7, none⟩ = some (.bool x.cert.isSome) := HX.cell 7
      have y8 : wr.cell? ⟨(B q).X, 8, none⟩ = some (.int .u64 (cvw x.cert : Nat)) := HX.cell 8
      have y9 : wr.cell? ⟨(B q).X, 9, none⟩ = some (.string (csm x.cert)) := HX.cell 9
      have y10 : wr.cell? ⟨(B q).X, 10, none⟩ = some (.slice (B q).ao (B q).n (B q).cap) := HX.cell 10
      have C5 : Below wr.heap.size wr (wr.alloc (.cells #[.bool x.cert.isSome, .int .u64 (cvw x.cert : Nat), .string (csm x.cert), .slice (B q).ao (B q).n (B q).cap] 85)) := (Below.refl _ _).alloc (Nat.le_refl _) _
      have B5 := BR.trans (C5.mono BR.size)
      have GR5 := GR.below elS_fine.lists C5
      have HSA : Hid (SlotAt wr g.f (B q) x) := HX
      have HOWN : Hid (∀ z, (Value.slice vao ls.length vcap).ownBlock = some z → z < wr.heap.size) := fun z hz => (GR.own.lt z hz).2
      have hs5 : wr.heap.size ≤ (wr.alloc (.cells #[.bool x.cert.isSome, .int .u64 (cvw x.cert : Nat), .string (csm x.cert), .slice (B q).ao (B q).n (B q).cap] 85)).heap.size := C5.size
      clear fX KR HX hw lz ck0
      cases hc : x.cert with
      | none =>
        have hi : x.cert.isSome = false := by rw [hc]; rfl
        have HV2 : Hid (ls.map (fun s => s.l.map SA.v) = ((keysG g).take (k + 1)).filterMap (certK g)) := by
          show _ = _
          rw [HT.out, hc, HV.out]
          simp
        rw [hi] at y7 B5 GR5
        clear hc hi HT HV HSA GR BR C5 hq hx
        go_wp2
        go_roundw
        case rel => exact ⟨k + 1, _, ls, HKL.out.1, by go_num, rfl, GR5, HV2, B5⟩
        case measure => have := HKL.out.2; simp [intOf]; omega
      | some c =>
        have hi : x.cert.isSome = true := by rw [hc]; rfl
        have HV2 : Hid (∀ ys : List SA, ys.map SA.v = ctx x.cert → ∀ ro n rc, (ls ++ ([⟨ro, n, rc, ys⟩] : List (LS SA))).map (fun s : LS SA => s.l.map SA.v) = ((keysG g).take (k + 1)).filterMap (certK g)) := fun ys e ro n rc => by
          rw [HT.out, hc, List.map_append, HV.out]
          show _ ++ [ys.map SA.v] = _
          rw [e, hc]
          rfl
        have CA := cloneAll_any (wr.alloc (.cells #[.bool x.cert.isSome, .int .u64 (cvw x.cert : Nat), .string (csm x.cert), .slice (B q).ao (B q).n (B q).cap] 85)) (B q).ao (B q).n (B q).cap (B q).l (HSA.out.L.below elS_fine C5) HSA.out.ln HSA.out.tz
        have HLV : Hid ((B q).l.map SA.v = ctx x.cert ∧ (B q).l.length ≤ 100) := ⟨HSA.out.lv, by rw [HSA.out.L.len]; exact HSA.out.ln⟩
        have hll : ls.length ≤ k := by
          have e := congrArg List.length HV.out
          rw [List.length_map] at e
          have := List.length_filterMap_le (certK g) ((keysG g).take k)
          rw [List.length_take] at this
          omega
        have HLL : Hid (ls.length ≤ 8) := by have := HL8.out; show ls.length ≤ 8; omega
        have b5 := B5.size
        rw [hi] at y7 B5 GR5 CA b5 hs5
        clear hc hi HT HV HSA GR BR C5 hq hx hll
        go_wp2_with (first
          | (go_at_call 42; refine CA.mono ?_; rintro e w4 ⟨ro, rc, ys, rfl, GY, YV, C4, HY⟩
             have GR6 := GR5.below elS_fine.lists C4
             have B6 := B5.trans (C4.mono b5)
             have s6 := C4.size
             clear CA GR5 B5)
          | (refine stop_at (.call { callee := .builtin .append, args := #[Operand.tmp 31, Operand.tmp 35], argTypes := #[40, 40] }) rfl ?_))
        refine ⟨?_⟩
        have C7 : Below w4.heap.size w4 (w4.alloc (.cells #[.slice ro (B q).l.length rc] 47)) := (Below.refl _ _).alloc (Nat.le_refl _) _
        have GR7 := GR6.below elS_fine.lists C7
        have B7 := B6.trans (C7.mono B6.size)
        have yok : elS.lists.ok ⟨ro, (B q).l.length, rc, ys⟩ (w4.alloc (.cells #[.slice ro (B q).l.length rc] 47)) := GY.below elS_fine C7
        have HG : ∀ j t, (elS.lists.c (⟨ro, (B q).l.length, rc, ys⟩ : LS SA))[j]? = some t → (w4.alloc (.cells #[.slice ro (B q).l.length rc] 47)).cell? ((⟨w4.heap.size, 0, none⟩ : Addr).add j) = some t := fun j t ht => by
          rw [Addr.add_lit, Nat.zero_add, cell_of_row _ _ j _ _ _ (heap_alloc_new _ _)]
          simpa [El.lists] using ht
        have HF : ∀ z, elS.lists.blk (⟨ro, (B q).l.length, rc, ys⟩ : LS SA) z → (Value.slice vao ls.length vcap).ownBlock ≠ some z := fun z hz e => by
          have h1 := HY z hz
          have h2 := HOWN.out z e
          omega
        refine wpList_appG elS_fine.lists lty15 rfl (.tmp 31) (.tmp 35) rfl GR7 rfl rfl HG yok HF (by have := HLL.out; omega) (by have := HLL.out; unfold maxLen; omega) B7.size ?_
        intro v8 w8 GR8 B8
        have HV3 := HV2.out ys (YV.trans HLV.out.1) ro (B q).l.length rc
        have HV4 : Hid _ := HV3
        have B9 := B7.trans B8
        clear HV3 HG HF yok GR7 GR6 B7 B6 C7 C4 GY
        go_wp2
        go_roundw
        case rel => exact ⟨k + 1, v8, ls ++ [⟨ro, (B q).l.length, rc, ys⟩], HKL.out.1, by go_num, rfl, GR8, HV4, B9⟩
        case measure => have := HKL.out.2; simp [intOf]; omega
    · have hge : ¬ (k : Int) < (kn : Int) := by omega
      have HT : Hid ((keysG g).take k = keysG g) := List.take_of_length_le (by rw [← HKN.out]; omega)
      obtain ⟨ao2, cap2, e, GLx, _⟩ := GR.gl elS_fine.lists
      simp only [Value.slice.injEq] at e
      obtain ⟨rfl, -, rfl⟩ := e
      have HV2 : ls.map (fun s => s.l.map SA.v) = certsG g := by rw [HV.out, HT.out]; rfl
      have HLN : Hid (ls.length = (certsG g).length) := by show _ = _; rw [← HV2, List.length_map]
      have HVV : Hid (ls.map (fun s => s.l.map SA.v) = certsG g) := HV2
      clear HV HT GR HV2
      go_wp2
      go_ret
      have E9 := HE2.out.trans (BR.mono HE2.out.size)
      have hl := HLN.out
      rw [hl] at GLx
      exact ⟨vao, vcap, ls, by rw [hl]; rfl, GLx, HVV.out, E9⟩
end Go.Proofs.Ytbpbcmbcoffdlaa

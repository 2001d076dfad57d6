/-
  The law QuorumPlays.
-/
import Derived.Test.YtghemebgkhopnaaQpMath
import Derived.Test.YtghemebgkhopnaaQuAlive
import Derived.Test.YtghemebgkhopnaaMgSigns
import Derived.Test.YtghemebgkhopnaaMgSgSame
namespace Go.Proofs.Ytghemebgkhopnaa
open Go.RowKit

theorem szS13 (V : World) : (sizeOf 34).run Try.prog V = .ok 3 V := by
  obtain ⟨i0, hi, hz0, hz1, hz2⟩ := info_parts tyS13.info
  have h1 : i0.size = 3 := hz1
  simp [sizeOf, typeInfo, hi, h1]
theorem insV_len (f : Nat) (l : List VA) (y : VA) : (insV f l y).1.length ≤ l.length + 1 := by
  unfold insV
  split
  · simp
  · split
    · simp
    · have := congrArg List.length (List.takeWhile_append_dropWhile (p := fun z : VA => decide (z.s.fr < y.s.fr)) (l := l))
      simp only [List.length_append, List.length_cons, List.length_nil] at this ⊢
      omega
theorem insV_mem (f : Nat) (l : List VA) (y : VA) : ∀ v ∈ (insV f l y).1, v ∈ l ∨ v = y := by
  intro v hv
  unfold insV at hv
  split at hv
  · exact .inl hv
  · split at hv
    · exact .inl hv
    · simp only [List.mem_append, List.mem_singleton] at hv
      rcases hv with (hv | hv) | hv
      · exact .inl ((List.takeWhile_sublist _).subset hv)
      · exact .inr hv
      · exact .inl ((List.dropWhile_sublist _).subset hv)
theorem prfN_le {L : List VT} {s : ByteArray} (ql : List SA) (x : Int) (hL : L.length = 13) (h : ql.map SA.v = prfN s L x) : ql.length ≤ 13 := by
  have e := congrArg List.length h
  rw [List.length_map] at e
  rw [e]
  unfold prfN
  split
  · simp
  · rw [List.length_take, prfV_len]
    have := cntV_le s L
    omega
theorem en_eq {l : List VA} {L : List VT} {x : Int} {ys zs : List Int} {b c : Bool} (R : l.map VA.rv = rvs 0 L) (hb : ∀ v ∈ l, Byt v.word.xs)
    (h : if x < 1 then b = false ∧ ys = [] else (b = (enV L x).isSome ∧ ys = ((enV L x).map sb).getD []))
    (k : (c = false ∧ zs = [] ∧ (x < 1 ∨ l.find? (enF l x) = none)) ∨ (c = true ∧ 1 ≤ x ∧ ∃ v, l.find? (enF l x) = some v ∧ v.word.xs = zs)) : ys = zs ∧ b = c := by
  have F := find_votes R hb x
  by_cases hx : x < 1
  · rw [if_pos hx] at h
    obtain ⟨rfl, rfl⟩ := h
    rcases k with ⟨rfl, rfl, _⟩ | ⟨_, h1, _⟩
    · exact ⟨rfl, rfl⟩
    · omega
  · rw [if_neg hx] at h
    obtain ⟨rfl, rfl⟩ := h
    rcases k with ⟨rfl, rfl, h1⟩ | ⟨rfl, _, v, h1, rfl⟩
    · have h2 : l.find? (enF l x) = none := h1.resolve_left hx
      rw [h2] at F
      cases he : enV L x with
      | none => exact ⟨rfl, rfl⟩
      | some s => rw [he] at F; cases F
    · rw [h1] at F
      cases he : enV L x with
      | none => rw [he] at F; cases F
      | some s =>
        rw [he] at F
        simp only [Option.map_some, Option.some.injEq] at F
        exact ⟨F.symm, rfl⟩

set_option maxRecDepth 100000 in
set_option maxHeartbeats 8000000 in
theorem plays_in (w : World) (f : Nat) (h1 : 1 ≤ f) (h4 : f ≤ 4) (lo : Option Addr) (ln lc : Nat) (l : List VA) (H : GL elV w lo ln lc l) (wo : Option Addr) (wn wc : Nat) (ws : List Int) (SW : Sl w wo wn wc ws) (hn : ln ≤ 40) (hw : wn ≤ 100) (x : Int) :
    Calls Try.prog 4 #[.int .i64 (f : Nat), .slice lo ln lc, .slice wo wn wc, .int .i64 x] w fun e w' => e = .returned (.bool true) ∧ Below w.heap.size w w' := by
  have hl := H.len
  have i1 : (ln : Int) ≤ 40 := by omega
  have i2 : (wn : Int) ≤ 100 := by omega
  have i3 : ¬ (f : Int) < 1 := by omega
  have i4 : (f : Int) ≤ 4 := by omega
  have CN := new_good w f h1 h4
  have HOK : Hid (∀ v ∈ l, elV.ok v w) := H.ok
  go_enter Try.func4, Try.ntmps4
  go_wp2_with fail
  refine CN.mono ?_
  rintro e w1 ⟨p, rfl, hp, Q1, C1⟩
  have AL := alive14 w1
  clear CN
  go_wp2_with fail
  refine AL.mono ?_
  rintro e w2 ⟨rfl, C2⟩
  have Q2 := Q1.below C2
  have B2 := C1.trans (C2.mono C1.size)
  clear AL Q1 C1 C2
  go_wp2_with fail
  go_loopw [11, 12] (fun mv i wr => ∃ (k : Nat) (L : List VT) (mo : Option Addr) (mn mc : Nat) (m : List VA), k ≤ ln ∧ i = .int .i64 k ∧ mv = .slice mo mn mc ∧ QS wr p f L ∧ GL elV wr mo mn mc m ∧ mn ≤ k ∧ Hid (m.map VA.rv = rvs 0 L) ∧ Hid (∀ v ∈ m, Byt v.word.xs) ∧ Below w.heap.size w wr) (fun _ i _ => ln - (intOf i).toNat)
  case atStart => exact ⟨0, noVotes, none, 0, 0, [], Nat.zero_le _, rfl, rfl, Q2, GL.nothing _ _, Nat.le_refl _, rvs_none.symm, fun _ h => absurd h List.not_mem_nil, B2⟩
  case round =>
    clear Q2 B2
    obtain ⟨k, L, mo, mn, mc, m, hk, rfl, rfl, Q, G, hmn, HR, HBY, B⟩ := hrel
    by_cases hlt : k < ln
    · have hki : (k : Int) < (ln : Int) := by omega
      have hkl : k < l.length := by omega
      obtain ⟨b, off, rfl, hc⟩ := H.atV (by omega)
      have HX : Hid (∀ V, Below w.heap.size w V → VX V b (off + k * 4) l[k]) := fun V hV => by
        obtain ⟨b2, off2, e, hc2⟩ := (H.below elV_fine hV).atV (by omega : 0 < ln)
        simp only [Option.some.injEq, Addr.mk.injEq, and_true] at e
        obtain ⟨rfl, rfl⟩ := e
        exact hc2 k hkl
      have uok : VA.ok l[k] w := HOK.out _ (List.getElem_mem hkl)
      obtain ⟨u, hu⟩ : ∃ u, u = l[k] := ⟨_, rfl⟩
      rw [← hu] at HX uok
      clear hu hc hkl
      have sok0 := uok.s
      have sow0 := uok.word
      obtain ⟨x0, x1, x2, x3⟩ := HX.out wr B
      by_cases g1 : 100 < u.word.n
      · have j1 : (100 : Int) < (u.word.n : Int) := by omega
        clear g1 HX
        go_wp2
        go_ret
        exact ⟨rfl, B⟩
      · have j1 : (u.word.n : Int) ≤ 100 := by omega
        by_cases g2 : 500 < u.s.b.n
        · have j2 : (500 : Int) < (u.s.b.n : Int) := by omega
          clear g1 g2 HX
          go_wp2
          go_ret
          exact ⟨rfl, B⟩
        · have j2 : (u.s.b.n : Int) ≤ 500 := by omega
          by_cases g3 : 100 < u.s.tag.n
          · have j3 : (100 : Int) < (u.s.tag.n : Int) := by omega
            clear g1 g2 g3 HX
            go_wp2
            go_ret
            exact ⟨rfl, B⟩
          · have j3 : (u.s.tag.n : Int) ≤ 100 := by omega
            have HS : Hid (∀ V, Below w.heap.size w V → V.cell? ⟨b, off + k * 4, none⟩ = some (.int .u64 (u.s.fr : Nat)) ∧ V.cell? ⟨b, off + k * 4 + 1, none⟩ = some (.slice u.s.b.ao u.s.b.n u.s.b.cap) ∧ V.cell? ⟨b, off + k * 4 + 2, none⟩ = some (.slice u.s.tag.ao u.s.tag.n u.s.tag.cap) ∧ V.cell? ⟨b, off + k * 4 + 3, none⟩ = some (.slice u.word.ao u.word.n u.word.cap)) := fun V hV => ⟨(HX.out V hV).c0, (HX.out V hV).c1, (HX.out V hV).c2, (HX.out V hV).c3⟩
            have hL := Q.len
            have hAB := add_both HR.out h4 hL u sow0.byte sok0.b.byte sok0.tag.byte
            have HAB : Hid ((insV f m u).2 = (addV f L u.s.fr ⟨true, strOfNums u.word.xs, strOfNums u.s.b.xs, strOfNums u.s.tag.xs⟩).2) := hAB.1
            have HR2 : Hid ((insV f m u).1.map VA.rv = rvs 0 (addV f L u.s.fr ⟨true, strOfNums u.word.xs, strOfNums u.s.b.xs, strOfNums u.s.tag.xs⟩).1) := hAB.2
            have HLEN := insV_len f m u
            have HMEM := insV_mem f m u
            have HBY2 : Hid (∀ v ∈ (insV f m u).1, Byt v.word.xs) := fun v hv => by
              rcases HMEM v hv with hv | rfl
              · exact HBY.out v hv
              · exact sow0.byte
            have hml := G.len
            clear HX g1 g2 g3 hAB HMEM HR HBY
            go_wp2_with fail
            have xE0 : Below w.heap.size w wr.drew := B.trans ((Below.refl _ _).drew.mono B.size)
            have Q := Q.below ((Below.refl _ _).drew)
            have G := G.below elV_fine ((Below.refl _ _).drew)
            refine wp_region_noPanic ?_
            refine wp_region_held_drew (S := fun V => V.cell? ⟨b, off + k * 4, none⟩ = some (.int .u64 (u.s.fr : Nat)) ∧ V.cell? ⟨b, off + k * 4 + 1, none⟩ = some (.slice u.s.b.ao u.s.b.n u.s.b.cap) ∧ V.cell? ⟨b, off + k * 4 + 2, none⟩ = some (.slice u.s.tag.ao u.s.tag.n u.s.tag.cap) ∧ V.cell? ⟨b, off + k * 4 + 3, none⟩ = some (.slice u.word.ao u.word.n u.word.cap)) (by kernel_rfl) (HS.out _ xE0) (fun xH0 => ?_)
            obtain ⟨xv0, hv0⟩ : ∃ v, v = wr.drew := ⟨_, rfl⟩
            rw [← hv0] at xH0 xE0 Q G ⊢
            clear hv0
            refine hr_take_w 0 (some 93) (.slice mo mn mc) rfl rfl (by kernel_rfl) (by kernel_rfl) (by kernel_rfl) rfl (fun W hW => by obtain ⟨h0, h1, h2, h3⟩ := hW; go_simp) xH0 ?_
            simp only [Act.put, List.setIfInBounds_toArray, List.set_cons_zero, List.set_cons_succ]
            refine hr_take_w 1 (some 94) (.int .i64 (f : Nat)) rfl rfl (by kernel_rfl) (by kernel_rfl) (by kernel_rfl) rfl (fun W hW => by obtain ⟨h0, h1, h2, h3⟩ := hW; go_simp) xH0 ?_
            simp only [Act.put, List.setIfInBounds_toArray, List.set_cons_zero, List.set_cons_succ]
            refine hr_take_w 2 (some 95) (.slice (some ⟨b, off, none⟩) ln lc) rfl rfl (by kernel_rfl) (by kernel_rfl) (by kernel_rfl) rfl (fun W hW => by obtain ⟨h0, h1, h2, h3⟩ := hW; go_simp) xH0 ?_
            simp only [Act.put, List.setIfInBounds_toArray, List.set_cons_zero, List.set_cons_succ]
            refine hr_take_w 3 (some 96) (.int .i64 (k : Nat)) rfl rfl (by kernel_rfl) (by kernel_rfl) (by kernel_rfl) rfl (fun W hW => by obtain ⟨h0, h1, h2, h3⟩ := hW; go_simp) xH0 ?_
            simp only [Act.put, List.setIfInBounds_toArray, List.set_cons_zero, List.set_cons_succ]
            refine hr_take_w 4 (some 97) (.pointer (some ⟨b, off + k * 4, none⟩)) rfl rfl (by kernel_rfl) (by kernel_rfl) (by kernel_rfl) rfl (fun W hW => by obtain ⟨h0, h1, h2, h3⟩ := hW; go_simp) xH0 ?_
            simp only [Act.put, List.setIfInBounds_toArray, List.set_cons_zero, List.set_cons_succ]
            refine hr_take_w 5 (some 98) (.pointer (some ⟨b, off + k * 4, none⟩)) rfl rfl (by kernel_rfl) (by kernel_rfl) (by kernel_rfl) rfl (fun W hW => by obtain ⟨h0, h1, h2, h3⟩ := hW; go_simp) xH0 ?_
            simp only [Act.put, List.setIfInBounds_toArray, List.set_cons_zero, List.set_cons_succ]
            refine hr_take_w 6 (some 99) (.agg #[.int .u64 (u.s.fr : Nat), .slice u.s.b.ao u.s.b.n u.s.b.cap, .slice u.s.tag.ao u.s.tag.n u.s.tag.cap]) rfl rfl (by kernel_rfl) (by kernel_rfl) (by kernel_rfl) rfl (fun W hW => by obtain ⟨h0, h1, h2, h3⟩ := hW; go_simp) xH0 ?_
            simp only [Act.put, List.setIfInBounds_toArray, List.set_cons_zero, List.set_cons_succ]
            refine hr_take_w 7 (some 100) (.slice (some ⟨b, off, none⟩) ln lc) rfl rfl (by kernel_rfl) (by kernel_rfl) (by kernel_rfl) rfl (fun W hW => by obtain ⟨h0, h1, h2, h3⟩ := hW; go_simp) xH0 ?_
            simp only [Act.put, List.setIfInBounds_toArray, List.set_cons_zero, List.set_cons_succ]
            refine hr_take_w 8 (some 101) (.int .i64 (k : Nat)) rfl rfl (by kernel_rfl) (by kernel_rfl) (by kernel_rfl) rfl (fun W hW => by obtain ⟨h0, h1, h2, h3⟩ := hW; go_simp) xH0 ?_
            simp only [Act.put, List.setIfInBounds_toArray, List.set_cons_zero, List.set_cons_succ]
            refine hr_take_w 9 (some 102) (.pointer (some ⟨b, off + k * 4, none⟩)) rfl rfl (by kernel_rfl) (by kernel_rfl) (by kernel_rfl) rfl (fun W hW => by obtain ⟨h0, h1, h2, h3⟩ := hW; go_simp) xH0 ?_
            simp only [Act.put, List.setIfInBounds_toArray, List.set_cons_zero, List.set_cons_succ]
            refine hr_take_w 10 (some 103) (.pointer (some ⟨b, off + k * 4 + 3, none⟩)) rfl rfl (by kernel_rfl) (by kernel_rfl) (by kernel_rfl) rfl (fun W hW => by obtain ⟨h0, h1, h2, h3⟩ := hW; go_simp) xH0 ?_
            simp only [Act.put, List.setIfInBounds_toArray, List.set_cons_zero, List.set_cons_succ]
            refine hr_take_w 11 (some 104) (.slice u.word.ao u.word.n u.word.cap) rfl rfl (by kernel_rfl) (by kernel_rfl) (by kernel_rfl) rfl (fun W hW => by obtain ⟨h0, h1, h2, h3⟩ := hW; go_simp) xH0 ?_
            simp only [Act.put, List.setIfInBounds_toArray, List.set_cons_zero, List.set_cons_succ]
            have CR := radd_any xv0 f h1 h4 mo mn mc m G u.s (sok0.below xE0) u.word.ao u.word.n u.word.cap u.word.xs (sow0.below xE0) (by omega)
            rw [show (⟨u.s, ⟨u.word.ao, u.word.n, u.word.cap, u.word.xs⟩⟩ : VA) = u from rfl] at CR
            refine hr_call_w 12 (some 105) 19 #[.slice mo mn mc, .int .i64 (f : Nat), .agg #[.int .u64 (u.s.fr : Nat), .slice u.s.b.ao u.s.b.n u.s.b.cap, .slice u.s.tag.ao u.s.tag.n u.s.tag.cap], .slice u.word.ao u.word.n u.word.cap] rfl rfl (by kernel_rfl) rfl (by go_simp) (fun v w' => ∃ ro rn rc m2, v = .tuple #[.slice ro rn rc, .int .i64 (insV f m u).2] ∧ GL elV w' ro rn rc m2 ∧ m2 = (insV f m u).1 ∧ Below xv0.heap.size xv0 w') (CR.mono (by
              rintro e w' ⟨ro, rn, rc, m2, rfl, F1, F2, C⟩
              exact ⟨_, rfl, ro, rn, rc, m2, rfl, F1, F2, C⟩)) ?_
            rintro v xv1 ⟨ro, rn, rc, m2, rfl, G1, hm2, xC0⟩
            have xE1 := xE0.trans (xC0.mono xE0.size)
            have xH1 := HS.out xv1 xE1
            have Q := Q.below xC0
            clear CR G
            refine ⟨xH1, ?_⟩
            simp only [Act.put, List.setIfInBounds_toArray, List.set_cons_zero, List.set_cons_succ]
            refine hr_take_w 13 (some 92) (.tuple #[.slice ro rn rc, .int .i64 (insV f m u).2]) rfl rfl (by kernel_rfl) (by kernel_rfl) (by kernel_rfl) rfl (fun W hW => by obtain ⟨h0, h1, h2, h3⟩ := hW; go_simp) xH1 ?_
            simp only [Act.put, List.setIfInBounds_toArray, List.set_cons_zero, List.set_cons_succ]
            refine hr_take_w 14 (some 106) (.slice ro rn rc) rfl rfl (by kernel_rfl) (by kernel_rfl) (by kernel_rfl) rfl (fun W hW => by obtain ⟨h0, h1, h2, h3⟩ := hW; go_simp) xH1 ?_
            simp only [Act.put, List.setIfInBounds_toArray, List.set_cons_zero, List.set_cons_succ]
            refine hr_take_w 15 (some 107) (.int .i64 (insV f m u).2) rfl rfl (by kernel_rfl) (by kernel_rfl) (by kernel_rfl) rfl (fun W hW => by obtain ⟨h0, h1, h2, h3⟩ := hW; go_simp) xH1 ?_
            simp only [Act.put, List.setIfInBounds_toArray, List.set_cons_zero, List.set_cons_succ]
            refine hr_take_w 16 (some 13) (.slice ro rn rc) rfl rfl (by kernel_rfl) (by kernel_rfl) (by kernel_rfl) rfl (fun W hW => by obtain ⟨h0, h1, h2, h3⟩ := hW; go_simp) xH1 ?_
            simp only [Act.put, List.setIfInBounds_toArray, List.set_cons_zero, List.set_cons_succ]
            refine hr_take_w 17 (some 14) (.int .i64 (insV f m u).2) rfl rfl (by kernel_rfl) (by kernel_rfl) (by kernel_rfl) rfl (fun W hW => by obtain ⟨h0, h1, h2, h3⟩ := hW; go_simp) xH1 ?_
            simp only [Act.put, List.setIfInBounds_toArray, List.set_cons_zero, List.set_cons_succ]
            refine wpAnyH_done (by kernel_rfl) ?_ _
            refine NoPanic.normal ?_
            have hrn := G1.len
            rw [hm2] at hrn
            have hrn2 : rn ≤ k + 1 := by omega
            clear hrn
            go_wp2_with fail
            have yE0 : Below w.heap.size w xv1.drew := xE1.trans ((Below.refl _ _).drew.mono xE1.size)
            have Q := Q.below ((Below.refl _ _).drew)
            have G1 := G1.below elV_fine ((Below.refl _ _).drew)
            refine wp_region_noPanic ?_
            refine wp_region_held_drew (S := fun V => V.cell? ⟨b, off + k * 4, none⟩ = some (.int .u64 (u.s.fr : Nat)) ∧ V.cell? ⟨b, off + k * 4 + 1, none⟩ = some (.slice u.s.b.ao u.s.b.n u.s.b.cap) ∧ V.cell? ⟨b, off + k * 4 + 2, none⟩ = some (.slice u.s.tag.ao u.s.tag.n u.s.tag.cap) ∧ V.cell? ⟨b, off + k * 4 + 3, none⟩ = some (.slice u.word.ao u.word.n u.word.cap)) (by kernel_rfl) (HS.out _ yE0) (fun yH0 => ?_)
            obtain ⟨yv0, hv0⟩ : ∃ v, v = xv1.drew := ⟨_, rfl⟩
            rw [← hv0] at yH0 yE0 Q G1 ⊢
            clear hv0
            refine hr_take_w 0 (some 108) (.pointer (some ⟨p, 0, none⟩)) rfl rfl (by kernel_rfl) (by kernel_rfl) (by kernel_rfl) rfl (fun W hW => by obtain ⟨h0, h1, h2, h3⟩ := hW; go_simp) yH0 ?_
            simp only [Act.put, List.setIfInBounds_toArray, List.set_cons_zero, List.set_cons_succ]
            refine hr_take_w 1 (some 109) (.slice (some ⟨b, off, none⟩) ln lc) rfl rfl (by kernel_rfl) (by kernel_rfl) (by kernel_rfl) rfl (fun W hW => by obtain ⟨h0, h1, h2, h3⟩ := hW; go_simp) yH0 ?_
            simp only [Act.put, List.setIfInBounds_toArray, List.set_cons_zero, List.set_cons_succ]
            refine hr_take_w 2 (some 110) (.int .i64 (k : Nat)) rfl rfl (by kernel_rfl) (by kernel_rfl) (by kernel_rfl) rfl (fun W hW => by obtain ⟨h0, h1, h2, h3⟩ := hW; go_simp) yH0 ?_
            simp only [Act.put, List.setIfInBounds_toArray, List.set_cons_zero, List.set_cons_succ]
            refine hr_take_w 3 (some 111) (.pointer (some ⟨b, off + k * 4, none⟩)) rfl rfl (by kernel_rfl) (by kernel_rfl) (by kernel_rfl) rfl (fun W hW => by obtain ⟨h0, h1, h2, h3⟩ := hW; go_simp) yH0 ?_
            simp only [Act.put, List.setIfInBounds_toArray, List.set_cons_zero, List.set_cons_succ]
            refine hr_take_w 4 (some 112) (.pointer (some ⟨b, off + k * 4, none⟩)) rfl rfl (by kernel_rfl) (by kernel_rfl) (by kernel_rfl) rfl (fun W hW => by obtain ⟨h0, h1, h2, h3⟩ := hW; go_simp) yH0 ?_
            simp only [Act.put, List.setIfInBounds_toArray, List.set_cons_zero, List.set_cons_succ]
            refine hr_take_w 5 (some 113) (.pointer (some ⟨b, off + k * 4, none⟩)) rfl rfl (by kernel_rfl) (by kernel_rfl) (by kernel_rfl) rfl (fun W hW => by obtain ⟨h0, h1, h2, h3⟩ := hW; go_simp) yH0 ?_
            simp only [Act.put, List.setIfInBounds_toArray, List.set_cons_zero, List.set_cons_succ]
            refine hr_take_w 6 (some 114) (.int .u64 (u.s.fr : Nat)) rfl rfl (by kernel_rfl) (by kernel_rfl) (by kernel_rfl) rfl (fun W hW => by obtain ⟨h0, h1, h2, h3⟩ := hW; go_simp) yH0 ?_
            simp only [Act.put, List.setIfInBounds_toArray, List.set_cons_zero, List.set_cons_succ]
            refine hr_take_w 7 (some 115) (.slice (some ⟨b, off, none⟩) ln lc) rfl rfl (by kernel_rfl) (by kernel_rfl) (by kernel_rfl) rfl (fun W hW => by obtain ⟨h0, h1, h2, h3⟩ := hW; go_simp) yH0 ?_
            simp only [Act.put, List.setIfInBounds_toArray, List.set_cons_zero, List.set_cons_succ]
            refine hr_take_w 8 (some 116) (.int .i64 (k : Nat)) rfl rfl (by kernel_rfl) (by kernel_rfl) (by kernel_rfl) rfl (fun W hW => by obtain ⟨h0, h1, h2, h3⟩ := hW; go_simp) yH0 ?_
            simp only [Act.put, List.setIfInBounds_toArray, List.set_cons_zero, List.set_cons_succ]
            refine hr_take_w 9 (some 117) (.pointer (some ⟨b, off + k * 4, none⟩)) rfl rfl (by kernel_rfl) (by kernel_rfl) (by kernel_rfl) rfl (fun W hW => by obtain ⟨h0, h1, h2, h3⟩ := hW; go_simp) yH0 ?_
            simp only [Act.put, List.setIfInBounds_toArray, List.set_cons_zero, List.set_cons_succ]
            refine hr_take_w 10 (some 118) (.pointer (some ⟨b, off + k * 4, none⟩)) rfl rfl (by kernel_rfl) (by kernel_rfl) (by kernel_rfl) rfl (fun W hW => by obtain ⟨h0, h1, h2, h3⟩ := hW; go_simp) yH0 ?_
            simp only [Act.put, List.setIfInBounds_toArray, List.set_cons_zero, List.set_cons_succ]
            refine hr_take_w 11 (some 119) (.pointer (some ⟨b, off + k * 4 + 1, none⟩)) rfl rfl (by kernel_rfl) (by kernel_rfl) (by kernel_rfl) rfl (fun W hW => by obtain ⟨h0, h1, h2, h3⟩ := hW; go_simp) yH0 ?_
            simp only [Act.put, List.setIfInBounds_toArray, List.set_cons_zero, List.set_cons_succ]
            refine hr_take_w 12 (some 120) (.slice u.s.b.ao u.s.b.n u.s.b.cap) rfl rfl (by kernel_rfl) (by kernel_rfl) (by kernel_rfl) rfl (fun W hW => by obtain ⟨h0, h1, h2, h3⟩ := hW; go_simp) yH0 ?_
            simp only [Act.put, List.setIfInBounds_toArray, List.set_cons_zero, List.set_cons_succ]
            refine hr_take_w 13 (some 121) (.slice (some ⟨b, off, none⟩) ln lc) rfl rfl (by kernel_rfl) (by kernel_rfl) (by kernel_rfl) rfl (fun W hW => by obtain ⟨h0, h1, h2, h3⟩ := hW; go_simp) yH0 ?_
            simp only [Act.put, List.setIfInBounds_toArray, List.set_cons_zero, List.set_cons_succ]
            refine hr_take_w 14 (some 122) (.int .i64 (k : Nat)) rfl rfl (by kernel_rfl) (by kernel_rfl) (by kernel_rfl) rfl (fun W hW => by obtain ⟨h0, h1, h2, h3⟩ := hW; go_simp) yH0 ?_
            simp only [Act.put, List.setIfInBounds_toArray, List.set_cons_zero, List.set_cons_succ]
            refine hr_take_w 15 (some 123) (.pointer (some ⟨b, off + k * 4, none⟩)) rfl rfl (by kernel_rfl) (by kernel_rfl) (by kernel_rfl) rfl (fun W hW => by obtain ⟨h0, h1, h2, h3⟩ := hW; go_simp) yH0 ?_
            simp only [Act.put, List.setIfInBounds_toArray, List.set_cons_zero, List.set_cons_succ]
            refine hr_take_w 16 (some 124) (.pointer (some ⟨b, off + k * 4, none⟩)) rfl rfl (by kernel_rfl) (by kernel_rfl) (by kernel_rfl) rfl (fun W hW => by obtain ⟨h0, h1, h2, h3⟩ := hW; go_simp) yH0 ?_
            simp only [Act.put, List.setIfInBounds_toArray, List.set_cons_zero, List.set_cons_succ]
            refine hr_take_w 17 (some 125) (.pointer (some ⟨b, off + k * 4 + 2, none⟩)) rfl rfl (by kernel_rfl) (by kernel_rfl) (by kernel_rfl) rfl (fun W hW => by obtain ⟨h0, h1, h2, h3⟩ := hW; go_simp) yH0 ?_
            simp only [Act.put, List.setIfInBounds_toArray, List.set_cons_zero, List.set_cons_succ]
            refine hr_take_w 18 (some 126) (.slice u.s.tag.ao u.s.tag.n u.s.tag.cap) rfl rfl (by kernel_rfl) (by kernel_rfl) (by kernel_rfl) rfl (fun W hW => by obtain ⟨h0, h1, h2, h3⟩ := hW; go_simp) yH0 ?_
            simp only [Act.put, List.setIfInBounds_toArray, List.set_cons_zero, List.set_cons_succ]
            refine hr_take_w 19 (some 127) (.agg #[.int .u64 (u.s.fr : Nat), .slice u.s.b.ao u.s.b.n u.s.b.cap, .slice u.s.tag.ao u.s.tag.n u.s.tag.cap]) rfl rfl (by kernel_rfl) (by kernel_rfl) (by kernel_rfl) rfl (fun W hW => by obtain ⟨h0, h1, h2, h3⟩ := hW; go_simp) yH0 ?_
            simp only [Act.put, List.setIfInBounds_toArray, List.set_cons_zero, List.set_cons_succ]
            refine hr_take_w 20 (some 128) (.slice (some ⟨b, off, none⟩) ln lc) rfl rfl (by kernel_rfl) (by kernel_rfl) (by kernel_rfl) rfl (fun W hW => by obtain ⟨h0, h1, h2, h3⟩ := hW; go_simp) yH0 ?_
            simp only [Act.put, List.setIfInBounds_toArray, List.set_cons_zero, List.set_cons_succ]
            refine hr_take_w 21 (some 129) (.int .i64 (k : Nat)) rfl rfl (by kernel_rfl) (by kernel_rfl) (by kernel_rfl) rfl (fun W hW => by obtain ⟨h0, h1, h2, h3⟩ := hW; go_simp) yH0 ?_
            simp only [Act.put, List.setIfInBounds_toArray, List.set_cons_zero, List.set_cons_succ]
            refine hr_take_w 22 (some 130) (.pointer (some ⟨b, off + k * 4, none⟩)) rfl rfl (by kernel_rfl) (by kernel_rfl) (by kernel_rfl) rfl (fun W hW => by obtain ⟨h0, h1, h2, h3⟩ := hW; go_simp) yH0 ?_
            simp only [Act.put, List.setIfInBounds_toArray, List.set_cons_zero, List.set_cons_succ]
            refine hr_take_w 23 (some 131) (.pointer (some ⟨b, off + k * 4 + 3, none⟩)) rfl rfl (by kernel_rfl) (by kernel_rfl) (by kernel_rfl) rfl (fun W hW => by obtain ⟨h0, h1, h2, h3⟩ := hW; go_simp) yH0 ?_
            simp only [Act.put, List.setIfInBounds_toArray, List.set_cons_zero, List.set_cons_succ]
            refine hr_take_w 24 (some 132) (.slice u.word.ao u.word.n u.word.cap) rfl rfl (by kernel_rfl) (by kernel_rfl) (by kernel_rfl) rfl (fun W hW => by obtain ⟨h0, h1, h2, h3⟩ := hW; go_simp) yH0 ?_
            simp only [Act.put, List.setIfInBounds_toArray, List.set_cons_zero, List.set_cons_succ]
            refine hr_take_w 26 (some 134) (.int .i64 (insV f m u).2) rfl rfl (by kernel_rfl) (by kernel_rfl) (by kernel_rfl) rfl (fun W hW => by obtain ⟨h0, h1, h2, h3⟩ := hW; go_simp) yH0 ?_
            simp only [Act.put, List.setIfInBounds_toArray, List.set_cons_zero, List.set_cons_succ]
            have uokv := (show VA.ok u _ from ⟨sok0.below yE0, sow0.below yE0⟩)
            have CA := add_any yv0 p f L Q u.s.fr uokv.s.fr u.s.b.ao u.s.tag.ao u.word.ao u.s.b.n u.s.b.cap u.s.tag.n u.s.tag.cap u.word.n u.word.cap u.s.b.xs u.s.tag.xs u.word.xs uokv.s.b uokv.s.tag uokv.word (by omega) (by omega) (by omega)
            rw [← HAB.out] at CA
            refine hr_call_w 25 (some 133) 20 #[.pointer (some ⟨p, 0, none⟩), .agg #[.int .u64 (u.s.fr : Nat), .slice u.s.b.ao u.s.b.n u.s.b.cap, .slice u.s.tag.ao u.s.tag.n u.s.tag.cap], .slice u.word.ao u.word.n u.word.cap] rfl rfl (by kernel_rfl) rfl (by go_simp) (fun v w' => v = .int .i64 (insV f m u).2 ∧ QS w' p f (addV f L u.s.fr ⟨true, strOfNums u.word.xs, strOfNums u.s.b.xs, strOfNums u.s.tag.xs⟩).1 ∧ yv0.grownBy w' (some p)) (CA.mono (by
              rintro e w' ⟨rfl, F1, C⟩
              exact ⟨_, rfl, rfl, F1, C⟩)) ?_
            rintro v yv1 ⟨rfl, Q2, yG⟩
            have G2 := gl_grown Q yG G1
            have yE1 := grow_below yE0 yG hp
            have yH1 := HS.out yv1 yE1
            clear CA Q G1 uokv
            refine ⟨yH1, ?_⟩
            simp only [Act.put, List.setIfInBounds_toArray, List.set_cons_zero, List.set_cons_succ]
            refine hr_take_w 27 (some 135) (.bool false) rfl rfl (by kernel_rfl) (by kernel_rfl) (by kernel_rfl) rfl (fun W hW => by obtain ⟨h0, h1, h2, h3⟩ := hW; go_simp) yH1 ?_
            simp only [Act.put, List.setIfInBounds_toArray, List.set_cons_zero, List.set_cons_succ]
            refine wpAnyH_done (by kernel_rfl) ?_ _
            refine NoPanic.normal ?_
            have HFW : Hid ((forW u.word.xs m2).length = cntV (strOfNums u.word.xs) (addV f L u.s.fr ⟨true, strOfNums u.word.xs, strOfNums u.s.b.xs, strOfNums u.s.tag.xs⟩).1) := forW_cnt (by rw [hm2]; exact HR2.out) sow0.byte
            have HR3 : Hid (m2.map VA.rv = rvs 0 (addV f L u.s.fr ⟨true, strOfNums u.word.xs, strOfNums u.s.b.xs, strOfNums u.s.tag.xs⟩).1) := by show _ = _; rw [hm2]; exact HR2.out
            have HBY3 : Hid (∀ v ∈ m2, Byt v.word.xs) := by rw [hm2]; exact HBY2.out
            obtain ⟨c, hcc⟩ : ∃ c, c = cntV (strOfNums u.word.xs) (addV f L u.s.fr ⟨true, strOfNums u.word.xs, strOfNums u.s.b.xs, strOfNums u.s.tag.xs⟩).1 := ⟨_, rfl⟩
            rw [← hcc] at HFW
            have HCNT : Hid (c = cntV (strOfNums u.word.xs) (addV f L u.s.fr ⟨true, strOfNums u.word.xs, strOfNums u.s.b.xs, strOfNums u.s.tag.xs⟩).1) := hcc
            clear hcc hm2 HR2 HBY2 HAB HLEN
            generalize (addV f L u.s.fr ⟨true, strOfNums u.word.xs, strOfNums u.s.b.xs, strOfNums u.s.tag.xs⟩).1 = L2 at Q2 HCNT HR3
            go_wp2_with fail
            have zE0 : Below w.heap.size w yv1.drew := yE1.trans ((Below.refl _ _).drew.mono yE1.size)
            have Q2 := Q2.below ((Below.refl _ _).drew)
            have G2 := G2.below elV_fine ((Below.refl _ _).drew)
            refine wp_region_noPanic ?_
            refine wp_region_held_drew (S := fun V => V.cell? ⟨b, off + k * 4, none⟩ = some (.int .u64 (u.s.fr : Nat)) ∧ V.cell? ⟨b, off + k * 4 + 1, none⟩ = some (.slice u.s.b.ao u.s.b.n u.s.b.cap) ∧ V.cell? ⟨b, off + k * 4 + 2, none⟩ = some (.slice u.s.tag.ao u.s.tag.n u.s.tag.cap) ∧ V.cell? ⟨b, off + k * 4 + 3, none⟩ = some (.slice u.word.ao u.word.n u.word.cap)) (by kernel_rfl) (HS.out _ zE0) (fun zH0 => ?_)
            obtain ⟨zv0, hv0⟩ : ∃ v, v = yv1.drew := ⟨_, rfl⟩
            rw [← hv0] at zH0 zE0 Q2 G2 ⊢
            clear hv0
            refine hr_take_w 0 (some 137) (.pointer (some ⟨p, 0, none⟩)) rfl rfl (by kernel_rfl) (by kernel_rfl) (by kernel_rfl) rfl (fun W hW => by obtain ⟨h0, h1, h2, h3⟩ := hW; go_simp) zH0 ?_
            simp only [Act.put, List.setIfInBounds_toArray, List.set_cons_zero, List.set_cons_succ]
            refine hr_take_w 1 (some 138) (.slice (some ⟨b, off, none⟩) ln lc) rfl rfl (by kernel_rfl) (by kernel_rfl) (by kernel_rfl) rfl (fun W hW => by obtain ⟨h0, h1, h2, h3⟩ := hW; go_simp) zH0 ?_
            simp only [Act.put, List.setIfInBounds_toArray, List.set_cons_zero, List.set_cons_succ]
            refine hr_take_w 2 (some 139) (.int .i64 (k : Nat)) rfl rfl (by kernel_rfl) (by kernel_rfl) (by kernel_rfl) rfl (fun W hW => by obtain ⟨h0, h1, h2, h3⟩ := hW; go_simp) zH0 ?_
            simp only [Act.put, List.setIfInBounds_toArray, List.set_cons_zero, List.set_cons_succ]
            refine hr_take_w 3 (some 140) (.pointer (some ⟨b, off + k * 4, none⟩)) rfl rfl (by kernel_rfl) (by kernel_rfl) (by kernel_rfl) rfl (fun W hW => by obtain ⟨h0, h1, h2, h3⟩ := hW; go_simp) zH0 ?_
            simp only [Act.put, List.setIfInBounds_toArray, List.set_cons_zero, List.set_cons_succ]
            refine hr_take_w 4 (some 141) (.pointer (some ⟨b, off + k * 4 + 3, none⟩)) rfl rfl (by kernel_rfl) (by kernel_rfl) (by kernel_rfl) rfl (fun W hW => by obtain ⟨h0, h1, h2, h3⟩ := hW; go_simp) zH0 ?_
            simp only [Act.put, List.setIfInBounds_toArray, List.set_cons_zero, List.set_cons_succ]
            refine hr_take_w 5 (some 142) (.slice u.word.ao u.word.n u.word.cap) rfl rfl (by kernel_rfl) (by kernel_rfl) (by kernel_rfl) rfl (fun W hW => by obtain ⟨h0, h1, h2, h3⟩ := hW; go_simp) zH0 ?_
            simp only [Act.put, List.setIfInBounds_toArray, List.set_cons_zero, List.set_cons_succ]
            refine hr_take_w 7 (some 144) (.slice ro rn rc) rfl rfl (by kernel_rfl) (by kernel_rfl) (by kernel_rfl) rfl (fun W hW => by obtain ⟨h0, h1, h2, h3⟩ := hW; go_simp) zH0 ?_
            simp only [Act.put, List.setIfInBounds_toArray, List.set_cons_zero, List.set_cons_succ]
            refine hr_take_w 8 (some 145) (.slice (some ⟨b, off, none⟩) ln lc) rfl rfl (by kernel_rfl) (by kernel_rfl) (by kernel_rfl) rfl (fun W hW => by obtain ⟨h0, h1, h2, h3⟩ := hW; go_simp) zH0 ?_
            simp only [Act.put, List.setIfInBounds_toArray, List.set_cons_zero, List.set_cons_succ]
            refine hr_take_w 9 (some 146) (.int .i64 (k : Nat)) rfl rfl (by kernel_rfl) (by kernel_rfl) (by kernel_rfl) rfl (fun W hW => by obtain ⟨h0, h1, h2, h3⟩ := hW; go_simp) zH0 ?_
            simp only [Act.put, List.setIfInBounds_toArray, List.set_cons_zero, List.set_cons_succ]
            refine hr_take_w 10 (some 147) (.pointer (some ⟨b, off + k * 4, none⟩)) rfl rfl (by kernel_rfl) (by kernel_rfl) (by kernel_rfl) rfl (fun W hW => by obtain ⟨h0, h1, h2, h3⟩ := hW; go_simp) zH0 ?_
            simp only [Act.put, List.setIfInBounds_toArray, List.set_cons_zero, List.set_cons_succ]
            refine hr_take_w 11 (some 148) (.pointer (some ⟨b, off + k * 4 + 3, none⟩)) rfl rfl (by kernel_rfl) (by kernel_rfl) (by kernel_rfl) rfl (fun W hW => by obtain ⟨h0, h1, h2, h3⟩ := hW; go_simp) zH0 ?_
            simp only [Act.put, List.setIfInBounds_toArray, List.set_cons_zero, List.set_cons_succ]
            refine hr_take_w 12 (some 149) (.slice u.word.ao u.word.n u.word.cap) rfl rfl (by kernel_rfl) (by kernel_rfl) (by kernel_rfl) rfl (fun W hW => by obtain ⟨h0, h1, h2, h3⟩ := hW; go_simp) zH0 ?_
            simp only [Act.put, List.setIfInBounds_toArray, List.set_cons_zero, List.set_cons_succ]
            have CC := count_any zv0 p f _ Q2 u.word.ao u.word.n u.word.cap u.word.xs (sow0.below zE0)
            rw [← HCNT.out] at CC
            refine hr_call_w 6 (some 143) 21 #[.pointer (some ⟨p, 0, none⟩), .slice u.word.ao u.word.n u.word.cap] rfl rfl (by kernel_rfl) rfl (by go_simp) (fun v w' => v = .int .i64 (c : Nat) ∧ Below zv0.heap.size zv0 w') (CC.mono (by
              rintro e w' ⟨rfl, C⟩
              exact ⟨_, rfl, rfl, C⟩)) ?_
            rintro v zv1 ⟨rfl, zC0⟩
            have zE1 := zE0.trans (zC0.mono zE0.size)
            have zH1 := HS.out zv1 zE1
            have Q2 := Q2.below zC0
            have G2 := G2.below elV_fine zC0
            clear CC
            refine ⟨zH1, ?_⟩
            simp only [Act.put, List.setIfInBounds_toArray, List.set_cons_zero, List.set_cons_succ]
            have CP := rproof_any zv1 ro rn rc m2 G2 u.word.ao u.word.n u.word.cap u.word.xs (sow0.below zE1) (by omega)
            refine hr_call_w 13 (some 150) 22 #[.slice ro rn rc, .slice u.word.ao u.word.n u.word.cap] rfl rfl (by kernel_rfl) rfl (by go_simp) (fun v w' => ∃ qo qc, v = .slice qo c qc ∧ Below zv1.heap.size zv1 w') (CP.mono (by
              rintro e w' ⟨qo, qn, qc, rfl, F1, C⟩
              have hq := F1.len
              rw [List.length_map, HFW.out] at hq
              subst hq
              exact ⟨_, rfl, qo, qc, rfl, C⟩)) ?_
            rintro v zv2 ⟨qo, qc, rfl, zC1⟩
            have zE2 := zE1.trans (zC1.mono zE1.size)
            have zH2 := HS.out zv2 zE2
            have Q2 := Q2.below zC1
            have G2 := G2.below elV_fine zC1
            clear CP
            refine ⟨zH2, ?_⟩
            simp only [Act.put, List.setIfInBounds_toArray, List.set_cons_zero, List.set_cons_succ]
            refine hr_take_w 14 (some 151) (.int .i64 (c : Nat)) rfl rfl (by kernel_rfl) (by kernel_rfl) (by kernel_rfl) rfl (fun W hW => by obtain ⟨h0, h1, h2, h3⟩ := hW; go_simp) zH2 ?_
            simp only [Act.put, List.setIfInBounds_toArray, List.set_cons_zero, List.set_cons_succ]
            refine hr_take_w 15 (some 152) (.bool false) rfl rfl (by kernel_rfl) (by kernel_rfl) (by kernel_rfl) rfl (fun W hW => by obtain ⟨h0, h1, h2, h3⟩ := hW; go_simp) zH2 ?_
            simp only [Act.put, List.setIfInBounds_toArray, List.set_cons_zero, List.set_cons_succ]
            refine wpAnyH_done (by kernel_rfl) ?_ _
            refine NoPanic.normal ?_
            go_wp2
            go_roundw
            case rel => exact ⟨k + 1, L2, ro, rn, rc, m2, by omega, by go_num, rfl, Q2, G2, hrn2, HR3, HBY3, zE2⟩
            case measure => simp [intOf]; omega
    · have hge : ¬ (k : Int) < (ln : Int) := by omega
      have WR := SW.below B
      have CP := rproof_any wr mo mn mc m G wo wn wc ws WR (by omega)
      have hf := forW_prf HR.out SW.byte
      have hc := forW_cnt HR.out SW.byte
      have HL13 : Hid (L.length = 13) := Q.len
      go_wp2_with fail
      refine CP.mono ?_
      rintro e v5 ⟨ro, rn, rc, rfl, GF, C5⟩
      have Q5 := Q.below C5
      have G5 := G.below elV_fine C5
      have B5 := B.trans (C5.mono B.size)
      have W5 := WR.below C5
      have hrn := GF.len
      rw [List.length_map, hc] at hrn
      clear CP Q G B C5 WR hge
      by_cases q1 : x < 1
      · obtain ⟨po, pn, pc, pl, hpo, hpn, hpc, GP, HPL⟩ : ∃ (po : Option Addr) (pn pc : Nat) (pl : List SA), po = none ∧ pn = 0 ∧ pc = 0 ∧ GL elS v5 po pn pc pl ∧ Hid (pl.map SA.v = prfN (strOfNums ws) L x) := ⟨none, 0, 0, [], rfl, rfl, rfl, GL.nothing _ _, by show _ = _; unfold prfN; rw [if_pos (.inl q1)]; rfl⟩
        subst hpo hpn hpc
        clear hf hc GF hrn
        have CE := enough_all v5 p f L Q5 x
        go_wp2_with fail
        refine CE.mono ?_
        rintro e v6 ⟨eo, em, ec, ys, eb, rfl, SE, C6, HE⟩
        have Q6 := Q5.below C6
        have G6 := G5.below elV_fine C6
        have GP6 := GP.below elS_fine C6
        have B6 := B5.trans (C6.mono B5.size)
        have W6 := W5.below C6
        clear CE Q5 G5 GP B5 C6 W5
        have CR := renough_any v6 mo mn mc m G6 (by omega) x
        go_wp2_with fail
        refine CR.mono ?_
        rintro e v7 ⟨fo, fm, fc, zs, fb, rfl, SF, C7, HF⟩
        have Q7 := Q6.below C7
        have GP7 := GP6.below elS_fine C7
        have SE7 := SE.below C7
        have B7 := B6.trans (C7.mono B6.size)
        have W7 := W6.below C7
        clear CR Q6 G6 GP6 B6 C7 SE W6
        have HEQ : Hid (ys = zs ∧ eb = fb) := en_eq HR.out HBY.out HE.out HF.out
        clear HE HF
        have CF := proof_all v7 p f L Q7 wo wn wc ws W7 x
        go_wp2_with fail
        refine CF.mono ?_
        rintro e v8 ⟨qo, qm, qc, ql, rfl, GQ, hql, C8⟩
        have GP8 := GP7.below elS_fine C8
        have SE8 := SE7.below C8
        have SF8 := SF.below C8
        have B8 := B7.trans (C8.mono B7.size)
        have hqm := prfN_le ql x HL13.out (by rw [hql])
        rw [GQ.len] at hqm
        clear CF Q7 GP7 SE7 SF B7 C8 W7
        have CG := bsigns_any v8 qo qm qc ql GQ (by omega)
        go_wp2_with fail
        refine CG.mono ?_
        rintro e v10 ⟨so, sc, rfl, GS, -, C10⟩
        have GP10 := GP8.below elS_fine C10
        have SE10 := SE8.below C10
        have SF10 := SF8.below C10
        have B10 := B8.trans (C10.mono B8.size)
        clear CG GP8 SE8 SF8 B8 C10 GQ
        have CS := signeds_any v10 so none qm sc 0 0 ql pl GS GP10
        rw [sgB_true (by rw [hql, HPL.out])] at CS
        go_wp2_with fail
        refine CS.mono ?_
        rintro e v11 ⟨rfl, C11⟩
        have SE11 := SE10.below C11
        have SF11 := SF10.below C11
        have B11 := B10.trans (C11.mono B10.size)
        obtain ⟨rfl, rfl⟩ := HEQ.out
        have CT := same_any v11 eo fo em ec fm fc _ _ SE11 SF11
        rw [decide_eq_true rfl] at CT
        clear CS GS GP10 SE10 SF10 B10 C11 HEQ hql HPL HR HBY
        cases eb
        all_goals
          go_wp2_with fail
          refine CT.mono ?_
          rintro e v12 ⟨rfl, q12, hw12⟩
          have B12 : Below w.heap.size w v12 := by rw [hw12]; exact belN B11 q12
          clear CT hw12
          go_wp2
          go_ret
          exact ⟨rfl, B12⟩
      · by_cases q2 : (rn : Int) < x
        · obtain ⟨po, pn, pc, pl, hpo, hpn, hpc, GP, HPL⟩ : ∃ (po : Option Addr) (pn pc : Nat) (pl : List SA), po = none ∧ pn = 0 ∧ pc = 0 ∧ GL elS v5 po pn pc pl ∧ Hid (pl.map SA.v = prfN (strOfNums ws) L x) := ⟨none, 0, 0, [], rfl, rfl, rfl, GL.nothing _ _, by show _ = _; unfold prfN; rw [if_pos (.inr (by omega))]; rfl⟩
          subst hpo hpn hpc
          have q3 : 1 ≤ x := by omega
          clear hf hc GF hrn
          have CE := enough_all v5 p f L Q5 x
          go_wp2_with fail
          refine CE.mono ?_
          rintro e v6 ⟨eo, em, ec, ys, eb, rfl, SE, C6, HE⟩
          have Q6 := Q5.below C6
          have G6 := G5.below elV_fine C6
          have GP6 := GP.below elS_fine C6
          have B6 := B5.trans (C6.mono B5.size)
          have W6 := W5.below C6
          clear CE Q5 G5 GP B5 C6 W5
          have CR := renough_any v6 mo mn mc m G6 (by omega) x
          go_wp2_with fail
          refine CR.mono ?_
          rintro e v7 ⟨fo, fm, fc, zs, fb, rfl, SF, C7, HF⟩
          have Q7 := Q6.below C7
          have GP7 := GP6.below elS_fine C7
          have SE7 := SE.below C7
          have B7 := B6.trans (C7.mono B6.size)
          have W7 := W6.below C7
          clear CR Q6 G6 GP6 B6 C7 SE W6
          have HEQ : Hid (ys = zs ∧ eb = fb) := en_eq HR.out HBY.out HE.out HF.out
          clear HE HF
          have CF := proof_all v7 p f L Q7 wo wn wc ws W7 x
          go_wp2_with fail
          refine CF.mono ?_
          rintro e v8 ⟨qo, qm, qc, ql, rfl, GQ, hql, C8⟩
          have GP8 := GP7.below elS_fine C8
          have SE8 := SE7.below C8
          have SF8 := SF.below C8
          have B8 := B7.trans (C8.mono B7.size)
          have hqm := prfN_le ql x HL13.out (by rw [hql])
          rw [GQ.len] at hqm
          clear CF Q7 GP7 SE7 SF B7 C8 W7
          have CG := bsigns_any v8 qo qm qc ql GQ (by omega)
          go_wp2_with fail
          refine CG.mono ?_
          rintro e v10 ⟨so, sc, rfl, GS, -, C10⟩
          have GP10 := GP8.below elS_fine C10
          have SE10 := SE8.below C10
          have SF10 := SF8.below C10
          have B10 := B8.trans (C10.mono B8.size)
          clear CG GP8 SE8 SF8 B8 C10 GQ
          have CS := signeds_any v10 so none qm sc 0 0 ql pl GS GP10
          rw [sgB_true (by rw [hql, HPL.out])] at CS
          go_wp2_with fail
          refine CS.mono ?_
          rintro e v11 ⟨rfl, C11⟩
          have SE11 := SE10.below C11
          have SF11 := SF10.below C11
          have B11 := B10.trans (C11.mono B10.size)
          obtain ⟨rfl, rfl⟩ := HEQ.out
          have CT := same_any v11 eo fo em ec fm fc _ _ SE11 SF11
          rw [decide_eq_true rfl] at CT
          clear CS GS GP10 SE10 SF10 B10 C11 HEQ hql HPL HR HBY
          cases eb
          all_goals
            go_wp2_with fail
            refine CT.mono ?_
            rintro e v12 ⟨rfl, q12, hw12⟩
            have B12 : Below w.heap.size w v12 := by rw [hw12]; exact belN B11 q12
            clear CT hw12
            go_wp2
            go_ret
            exact ⟨rfl, B12⟩
        · obtain ⟨pn, rfl⟩ : ∃ pn : Nat, x = pn := ⟨x.toNat, by omega⟩
          have q3 : (1 : Int) ≤ (pn : Int) := by omega
          have q4 : (pn : Int) ≤ (rn : Int) := by omega
          have hle := GF.le
          have F1 : ∀ W, _ := fun W => run_uptoG (W := W) Try.underlying42 szS13 (ao := ro) (n := rn) (cap := rc) (i := pn) (by omega)
          have GP := GF.front pn (by omega)
          have HPL : Hid ((((forW ws m).map VA.s).take pn).map SA.v = prfN (strOfNums ws) L (pn : Int)) := by
            show _ = _
            unfold prfN
            rw [if_neg (by omega), List.map_take, hf]
            rfl
          generalize ((forW ws m).map VA.s).take pn = pl at GP HPL
          clear hf hc GF hrn q1 q2
          have CE := enough_all v5 p f L Q5 (pn : Int)
          go_wp2_with fail
          refine CE.mono ?_
          rintro e v6 ⟨eo, em, ec, ys, eb, rfl, SE, C6, HE⟩
          have Q6 := Q5.below C6
          have G6 := G5.below elV_fine C6
          have GP6 := GP.below elS_fine C6
          have B6 := B5.trans (C6.mono B5.size)
          have W6 := W5.below C6
          clear CE Q5 G5 GP B5 C6 W5
          have CR := renough_any v6 mo mn mc m G6 (by omega) (pn : Int)
          go_wp2_with fail
          refine CR.mono ?_
          rintro e v7 ⟨fo, fm, fc, zs, fb, rfl, SF, C7, HF⟩
          have Q7 := Q6.below C7
          have GP7 := GP6.below elS_fine C7
          have SE7 := SE.below C7
          have B7 := B6.trans (C7.mono B6.size)
          have W7 := W6.below C7
          clear CR Q6 G6 GP6 B6 C7 SE W6
          have HEQ : Hid (ys = zs ∧ eb = fb) := en_eq HR.out HBY.out HE.out HF.out
          clear HE HF
          have CF := proof_all v7 p f L Q7 wo wn wc ws W7 (pn : Int)
          go_wp2_with fail
          refine CF.mono ?_
          rintro e v8 ⟨qo, qm, qc, ql, rfl, GQ, hql, C8⟩
          have GP8 := GP7.below elS_fine C8
          have SE8 := SE7.below C8
          have SF8 := SF.below C8
          have B8 := B7.trans (C8.mono B7.size)
          have hqm := prfN_le ql (pn : Int) HL13.out (by rw [hql])
          rw [GQ.len] at hqm
          clear CF Q7 GP7 SE7 SF B7 C8 W7
          have CG := bsigns_any v8 qo qm qc ql GQ (by omega)
          go_wp2_with fail
          refine CG.mono ?_
          rintro e v10 ⟨so, sc, rfl, GS, -, C10⟩
          have GP10 := GP8.below elS_fine C10
          have SE10 := SE8.below C10
          have SF10 := SF8.below C10
          have B10 := B8.trans (C10.mono B8.size)
          clear CG GP8 SE8 SF8 B8 C10 GQ
          have CS := signeds_any v10 so ro qm sc pn rc ql pl GS GP10
          rw [sgB_true (by rw [hql, HPL.out])] at CS
          go_wp2_with fail
          refine CS.mono ?_
          rintro e v11 ⟨rfl, C11⟩
          have SE11 := SE10.below C11
          have SF11 := SF10.below C11
          have B11 := B10.trans (C11.mono B10.size)
          obtain ⟨rfl, rfl⟩ := HEQ.out
          have CT := same_any v11 eo fo em ec fm fc _ _ SE11 SF11
          rw [decide_eq_true rfl] at CT
          clear CS GS GP10 SE10 SF10 B10 C11 HEQ hql HPL HR HBY
          cases eb
          all_goals
            go_wp2_with fail
            refine CT.mono ?_
            rintro e v12 ⟨rfl, q12, hw12⟩
            have B12 : Below w.heap.size w v12 := by rw [hw12]; exact belN B11 q12
            clear CT hw12
            go_wp2
            go_ret
            exact ⟨rfl, B12⟩
set_option maxRecDepth 100000 in
set_option maxHeartbeats 4000000 in
theorem quorumPlays_any (w : World) (f : Int) (lo : Option Addr) (ln lc : Nat) (l : List VA) (wo : Option Addr) (wn wc : Nat) (ws : List Int) (x : Int) (_ : (Lit.int .i64 f).wf = true) (H : GL elV w lo ln lc l) (SW : Sl w wo wn wc ws) (_ : (Lit.int .i64 x).wf = true) :
    Calls Try.prog 4 #[.int .i64 f, .slice lo ln lc, .slice wo wn wc, .int .i64 x] w fun e w' => e = .returned (.bool true) ∧ Below w.heap.size w w' := by
  have AL := alive14 w
  by_cases hn : 40 < ln
  · have i1 : (40 : Int) < (ln : Int) := by omega
    clear hn H SW
    go_enter Try.func4, Try.ntmps4
    go_wp2_with (go_at_call 17; refine AL.mono ?_; rintro e w9 ⟨rfl, C9⟩)
    go_ret
    exact ⟨rfl, C9⟩
  · have i1 : (ln : Int) ≤ 40 := by omega
    by_cases hw : 100 < wn
    · have i2 : (100 : Int) < (wn : Int) := by omega
      clear hn hw H SW
      go_enter Try.func4, Try.ntmps4
      go_wp2_with (go_at_call 17; refine AL.mono ?_; rintro e w9 ⟨rfl, C9⟩)
      go_ret
      exact ⟨rfl, C9⟩
    · have i2 : (wn : Int) ≤ 100 := by omega
      cases hk : okF f with
      | true =>
        obtain ⟨h1, h4⟩ := okF_iff.1 hk
        obtain ⟨m, rfl⟩ : ∃ m : Nat, f = m := ⟨f.toNat, by omega⟩
        exact plays_in w m (by omega) (by omega) lo ln lc l H wo wn wc ws SW (by omega) (by omega) x
      | false =>
        have CN := new_bad w f hk
        have hf : ¬ (1 ≤ f ∧ f ≤ 4) := of_decide_eq_false hk
        clear hn hw H SW hk
        by_cases hf1 : f < 1
        · clear hf
          go_enter Try.func4, Try.ntmps4
          go_wp2_with (first | (go_at_call 18; refine CN.mono ?_; rintro e w' ⟨rfl, hw⟩; obtain rfl := hw.symm; clear hw) | (go_at_call 17; refine AL.mono ?_; rintro e w9 ⟨rfl, C9⟩))
          go_ret
          exact ⟨rfl, C9⟩
        · have hf4 : 4 < f := by omega
          clear hf
          go_enter Try.func4, Try.ntmps4
          go_wp2_with (first | (go_at_call 18; refine CN.mono ?_; rintro e w' ⟨rfl, hw⟩; obtain rfl := hw.symm; clear hw) | (go_at_call 17; refine AL.mono ?_; rintro e w9 ⟨rfl, C9⟩))
          go_ret
          exact ⟨rfl, C9⟩
end Go.Proofs.Ytghemebgkhopnaa

/-
  The reference's Lay.
-/
import Derived.Test.YtkmkmekhodcioaaGreatDoorChunkLaysZ11
import Derived.Test.YtkmkmekhodcioaaGreatDoorChunkLaysZ20
import Derived.Test.YtkmkmekhodcioaaGreatDoorChunkLaysZ10
namespace Go.Proofs.YtkmkmekhodcioaaGreatDoor
open Go.RowKit

structure RLyPost (w : World) (t : Sum Int (List It)) (e : Ending) (w' : World) : Prop where
  bad : ∀ k, t = .inl k → e = .returned (.tuple #[.slice none 0 0, .int .i64 k]) ∧ k ≠ 0
  good : ∀ l, t = .inr l → ∃ ao n cap ps, e = .returned (.tuple #[.slice ao n cap, .int .i64 0]) ∧ IL w' ao n cap ps ∧ ps.map IP.it = l ∧ ∀ q ∈ ps, q.ok w
  bel : Below w.heap.size w w'
theorem joins_lastP (a : List IP) (z y : IP) (js : List IP) (ha : a.getLast? = some z) : joins (a.map IP.it) ((y :: js).map IP.it) = decide (cmpL z.k.xs y.k.xs < 0) := by
  unfold joins
  rw [List.getLast?_map, ha]
  rfl
theorem joins_nil (l : List It) : joins [] l = true := rfl
theorem layR_pre {bs : List (List Int)} {ls : List (List It)} (h : layR bs = .inr ls) : ∀ (k : Nat), layR (bs.take k) = .inr (ls.take k) := by
  induction bs generalizing ls with
  | nil =>
    intro k
    obtain rfl := Sum.inr.inj h
    simp [layR]
  | cons b bs ih =>
    intro k
    simp only [layR] at h
    cases ha : rdCk b with
    | inl z => rw [ha] at h; simp at h
    | inr l =>
      rw [ha] at h
      cases hr : layR bs with
      | inl z => rw [hr] at h; simp at h
      | inr ls' =>
        rw [hr] at h
        obtain rfl := Sum.inr.inj h
        cases k with
        | zero => rfl
        | succ k =>
          rw [List.take_succ_cons, List.take_succ_cons]
          simp only [layR, ha, ih hr k]
theorem layR_at {bs : List (List Int)} {ls : List (List It)} (h : layR bs = .inr ls) (k : Nat) (hb : k < bs.length) (hl : k < ls.length) : rdCk bs[k] = .inr ls[k] := by
  have h1 := layR_pre h k
  have h2 := layR_pre h (k + 1)
  rw [List.take_succ_eq_append_getElem hb, layR_app _ _ _ h1, List.take_succ_eq_append_getElem hl] at h2
  cases hr : rdCk bs[k] with
  | inl z => rw [hr] at h2; simp at h2
  | inr l =>
    rw [hr] at h2
    have := Sum.inr.inj h2
    have e := List.append_cancel_left this
    rw [List.cons.inj e |>.1]
theorem jn_pre : ∀ (ls : List (List It)) (a : List It) (k : Nat), jn a (ls.take k) = false → jn a ls = false
  | [], a, k, h => by simp [jn] at h
  | l :: ls, a, 0, h => by simp [jn] at h
  | l :: ls, a, k + 1, h => by
    rw [List.take_succ_cons, jn, Bool.and_eq_false_iff] at h
    rw [jn, Bool.and_eq_false_iff]
    rcases h with h | h
    · exact .inl h
    · exact .inr (jn_pre ls (a ++ l) k h)

set_option maxHeartbeats 8000000 in
set_option maxRecDepth 100000 in
theorem rlay_any (w : World) (ao : Option Addr) (n cap : Nat) (ps : List Part) (h : KL w ao n cap ps) (hn : n ≤ 700) (hb : ∀ q ∈ ps, q.n ≤ 1000000) :
    Calls Tryz.prog 7 #[.slice ao n cap] w (RLyPost w (layC (ps.map Part.xs))) := by
  have hl1 := Nat.le_of_eq h.len
  have hl2 := Nat.le_of_eq h.len.symm
  have HB : Hid (∀ q ∈ ps, q.n ≤ 1000000) := hb
  have HBY : Hid (∀ b ∈ ps.map Part.xs, Byt b) := fun b hb => by
    obtain ⟨q, hq, rfl⟩ := List.mem_map.1 hb
    exact (h.sl q hq).byte
  clear hb
  go_enter Tryz.func7, Tryz.ntmps7
  go_wp2_with fail
  go_loopw [5] (fun i wr => ∃ (k : Nat) (ls : List (List It)), k ≤ n ∧ i = .int .i64 k ∧ Hid (layR ((ps.map Part.xs).take k) = .inr ls) ∧ Below w.heap.size w wr) (fun i _ => n - (intOf i).toNat)
  case atStart => exact ⟨0, [], Nat.zero_le _, rfl, rfl, Below.refl _ _⟩
  case round =>
    obtain ⟨k, ls, hkn, rfl, HL, hB⟩ := hrel
    by_cases hlt : k < n
    · have hki : (k : Int) < (n : Int) := by omega
      have hkl : k < ps.length := by omega
      obtain ⟨b, off, rfl, hc⟩ := (h.below hB).vl.at (by omega)
      have c1 := hc k (by simpa using hkl)
      rw [List.getElem_map] at c1
      have S := (h.below hB).sl ps[k] (List.getElem_mem hkl)
      have hq := HB.out ps[k] (List.getElem_mem hkl)
      have HT : Hid ((ps.map Part.xs).take (k + 1) = (ps.map Part.xs).take k ++ [ps[k].xs] ∧ ps.map Part.xs = (ps.map Part.xs).take k ++ ps[k].xs :: (ps.map Part.xs).drop (k + 1)) := by
        have e : (ps.map Part.xs)[k]'(by simpa using hkl) = ps[k].xs := List.getElem_map ..
        refine ⟨by rw [List.take_succ_eq_append_getElem (by simpa using hkl), e], ?_⟩
        rw [← e, ← List.drop_eq_getElem_cons, List.take_append_drop]
      obtain ⟨q, hqe⟩ : ∃ q, q = ps[k] := ⟨_, rfl⟩
      rw [← hqe] at c1 S hq HT
      unfold Part.val at c1
      have CR := rckread_any wr q.ao q.n q.cap q.xs S (by omega)
      clear hc hqe S
      cases hrd : rdCk q.xs with
      | inl z =>
        rw [hrd] at CR
        have HR : Hid (layC (ps.map Part.xs) = .inl z) := by
          show _ = _
          unfold layC
          rw [HT.out.2, layR_bad _ _ _ _ _ HL.out hrd]
        clear hrd
        go_wp2_with fail
        refine CR.mono ?_
        rintro e w1 P1
        obtain ⟨rfl, hz⟩ := P1.bad z rfl
        have B1 := hB.trans (P1.bel.mono hB.size)
        have hzb : (z != 0) = true := by simp [hz]
        have HZ : Hid (z ≠ 0) := hz
        clear P1 CR hz
        go_wp2
        go_ret2
        refine ⟨fun y hy => ?_, fun l hl => ?_, B1⟩
        · rw [HR.out] at hy
          obtain rfl := Sum.inl.inj hy
          exact ⟨rfl, HZ.out⟩
        · rw [HR.out] at hl
          cases hl
      | inr l =>
        rw [hrd] at CR
        have HN : Hid (layR ((ps.map Part.xs).take (k + 1)) = .inr (ls ++ [l])) := by
          show _ = _
          rw [HT.out.1, layR_app _ _ _ HL.out, hrd]
        clear hrd
        go_wp2_with fail
        refine CR.mono ?_
        rintro e w1 P1
        obtain ⟨io, im, ic, js, rfl, -⟩ := P1.good l rfl
        have B1 := hB.trans (P1.bel.mono hB.size)
        clear P1 CR
        go_wp2
        go_roundw
        case rel => exact ⟨k + 1, ls ++ [l], by omega, by go_num, HN.out, B1⟩
        case measure => simp [intOf]; omega
    · have hge : ¬ (k : Int) < (n : Int) := by omega
      have HLL : Hid (layR (ps.map Part.xs) = .inr ls) := by
        show _ = _
        have := HL.out
        rw [List.take_of_length_le (by rw [List.length_map]; omega)] at this
        exact this
      obtain ⟨hlsn, hlso⟩ := layR_all _ _ HBY.out HLL.out
      rw [List.length_map] at hlsn
      have HLO : Hid (ls.length = n ∧ ∀ l ∈ ls, okCk l ∧ l ≠ []) := ⟨by omega, fun l hl => ⟨(hlso l hl).1, (hlso l hl).2.1⟩⟩
      clear HL hlsn hlso hkn
      go_wp2_with fail
      obtain ⟨wo, rfl⟩ : ∃ W, W = wr := ⟨wr, rfl⟩
      go_loopw [4, 8] (fun v i wr => ∃ (k2 : Nat) (its : List IP), k2 ≤ n ∧ i = .int .i64 k2 ∧ Hid (its.map IP.it = (ls.take k2).flatten ∧ jn [] (ls.take k2) = true) ∧ wr.ownsRow w.heap.size 43 2 v its.length (flatI its) ∧ Hid (∀ q ∈ its, q.ok w) ∧ Below w.heap.size w wr) (fun _ i _ => n - (intOf i).toNat)
      case atStart => exact ⟨0, [], Nat.zero_le _, rfl, ⟨by simp, rfl⟩, ⟨rfl, .inl ⟨rfl, rfl⟩⟩, fun _ h => by simp at h, hB⟩
      case round =>
        obtain ⟨k2, its, hk2, rfl, HJ, OW, HOK, hB2⟩ := hrel
        have HTL : Hid (its.length ≤ k2 * 64) := by
          show _ ≤ _
          have h5 := flat_short (ls.take k2) (fun l hl => (HLO.out.2 l (List.mem_of_mem_take hl)).1.len)
          have h6 := congrArg List.length HJ.out.1
          rw [List.length_map] at h6
          rw [List.length_take] at h5
          have : min k2 ls.length * 64 ≤ k2 * 64 := Nat.mul_le_mul_right _ (by omega)
          omega
        obtain ⟨ao2, ac2, rfl, ILA⟩ := own_items OW (fun q hq => (HOK.out q hq).below hB2)
        obtain ⟨al, hal⟩ : ∃ n, n = its.length := ⟨_, rfl⟩
        have HAL : Hid (al = its.length) := hal
        have HOW : Hid (wr.ownsRow w.heap.size 43 2 (.slice ao2 al ac2) its.length (flatI its)) := by rw [hal]; exact OW
        rw [← hal] at ILA ⊢
        clear OW hal
        by_cases hlt : k2 < n
        · have hki : (k2 : Int) < (n : Int) := by omega
          have hkl : k2 < ps.length := by omega
          have hkL : k2 < ls.length := by have := HLO.out.1; omega
          have h00 := h
          obtain ⟨b, off, rfl, hc⟩ := (h.below hB2).vl.at (by omega)
          have c1 := hc k2 (by simpa using hkl)
          rw [List.getElem_map] at c1
          have S0 := h00.sl ps[k2] (List.getElem_mem hkl)
          have hq := HB.out ps[k2] (List.getElem_mem hkl)
          have HRD : Hid (rdCk ps[k2].xs = .inr ls[k2]) := by
            show _ = _
            have := layR_at HLL.out k2 (by simpa using hkl) hkL
            rwa [List.getElem_map] at this
          have HT : Hid (ls.take (k2 + 1) = ls.take k2 ++ [ls[k2]]) := List.take_succ_eq_append_getElem hkL
          have HLM : Hid (okCk ls[k2] ∧ ls[k2] ≠ []) := HLO.out.2 _ (List.getElem_mem hkL)
          obtain ⟨l, hle⟩ : ∃ l, l = ls[k2] := ⟨_, rfl⟩
          rw [← hle] at HRD HT HLM
          obtain ⟨q, hqe⟩ : ∃ q, q = ps[k2] := ⟨_, rfl⟩
          rw [← hqe] at c1 S0 hq HRD
          unfold Part.val at c1
          have CR := rckread_low wr w.heap.size q.ao q.n q.cap q.xs (S0.below hB2) S0.lt hB2.size (by omega)
          rw [HRD.out] at CR
          clear hc hqe hle S0 h00
          go_wp2_with fail
          refine CR.mono ?_
          rintro e w1 P1
          obtain ⟨lo, ln, lc, js, rfl, IL1, hjs, hlow⟩ := P1.good l rfl
          have C1 := P1.bel
          have hB1 := hB2.trans (C1.mono hB2.size)
          have HKJ : Hid (∀ y ∈ its ++ js, y.ok w) := fun y hy => by
            rcases List.mem_append.1 hy with hy | hy
            · exact HOK.out y hy
            · exact (IL1.sl y hy).kept fun x hx => (hB1.block x (hlow y hy x hx)).symm
          have hjl : js.length = l.length := by rw [← hjs, List.length_map]
          have hln := IL1.len
          have hl64 : ln ≤ 64 := by have := HLM.out.1.len; omega
          have hl0 : 0 < ln := by have := List.length_pos_iff.2 HLM.out.2; omega
          have HJS : Hid (js.map IP.it = l) := hjs
          have HNJ : joins (its.map IP.it) l = true → Hid ((its ++ js).map IP.it = (ls.take (k2 + 1)).flatten ∧ jn [] (ls.take (k2 + 1)) = true) := fun hj => by
            refine ⟨?_, ?_⟩
            · rw [List.map_append, HJ.out.1, HJS.out, HT.out, List.flatten_append, List.flatten_singleton]
            · rw [HT.out, jn_snoc, List.nil_append, HJ.out.2, ← HJ.out.1, hj]
              rfl
          have HN : Hid (its.length + ln ≤ 1000000) := by show _ ≤ _; have := HTL.out; omega
          have ILA1 := ILA.below C1
          clear P1 CR hjs hlow hjl ILA
          by_cases ha0 : al = 0
          · have hai : ¬ (al : Int) > 0 := by omega
            have HNX := HNJ (by
              have : its = [] := List.eq_nil_of_length_eq_zero (by have := HAL.out; omega)
              rw [this]
              rfl)
            clear HNJ
            clear ha0
            go_wp2_with fail
            have tHS : Hid (∀ V, Below w1.heap.size w1 V → True) := fun _ _ => trivial
            have tE0 : Below w1.heap.size w1 w1.drew := (Below.refl _ _).drew
            refine wp_region_noPanic ?_
            refine wp_region_held_drew (S := fun V => True) (by kernel_rfl) (tHS.out _ tE0) (fun tH0 => ?_)
            obtain ⟨tv0, hv0⟩ : ∃ v, v = w1.drew := ⟨_, rfl⟩
            rw [← hv0] at tE0 ⊢
            clear hv0
            refine hr_take_w 0 (some 42) (.slice ao2 al ac2) rfl rfl (by kernel_rfl) (by kernel_rfl) (by kernel_rfl) rfl (fun W hW => by go_simp) tH0 ?_
            simp only [Act.put, List.setIfInBounds_toArray, List.set_cons_zero, List.set_cons_succ]
            refine hr_take_w 1 (some 43) (.int .i64 al) rfl rfl (by kernel_rfl) (by kernel_rfl) (by kernel_rfl) rfl (fun W hW => by go_simp) tH0 ?_
            simp only [Act.put, List.setIfInBounds_toArray, List.set_cons_zero, List.set_cons_succ]
            refine hr_take_w 2 (some 44) (.bool false) rfl rfl (by kernel_rfl) (by kernel_rfl) (by kernel_rfl) rfl (fun W hW => by go_simp; omega) tH0 ?_
            simp only [Act.put, List.setIfInBounds_toArray, List.set_cons_zero, List.set_cons_succ]
            refine hr_take_w 3 (some 45) (.bool false) rfl rfl (by kernel_rfl) (by kernel_rfl) (by kernel_rfl) rfl (fun W hW => by go_simp) tH0 ?_
            simp only [Act.put, List.setIfInBounds_toArray, List.set_cons_zero, List.set_cons_succ]
            refine hr_none 4 (some 46) rfl rfl (by kernel_rfl) (by kernel_rfl) (by kernel_rfl) rfl tH0 ?_
            simp only [Act.put, List.setIfInBounds_toArray, List.set_cons_zero, List.set_cons_succ]
            refine hr_none 5 (some 47) rfl rfl (by kernel_rfl) (by kernel_rfl) (by kernel_rfl) rfl tH0 ?_
            simp only [Act.put, List.setIfInBounds_toArray, List.set_cons_zero, List.set_cons_succ]
            refine hr_none 6 (some 48) rfl rfl (by kernel_rfl) (by kernel_rfl) (by kernel_rfl) rfl tH0 ?_
            simp only [Act.put, List.setIfInBounds_toArray, List.set_cons_zero, List.set_cons_succ]
            refine hr_none 7 (some 49) rfl rfl (by kernel_rfl) (by kernel_rfl) (by kernel_rfl) rfl tH0 ?_
            simp only [Act.put, List.setIfInBounds_toArray, List.set_cons_zero, List.set_cons_succ]
            refine hr_none 8 (some 50) rfl rfl (by kernel_rfl) (by kernel_rfl) (by kernel_rfl) rfl tH0 ?_
            simp only [Act.put, List.setIfInBounds_toArray, List.set_cons_zero, List.set_cons_succ]
            refine hr_none 9 (some 51) rfl rfl (by kernel_rfl) (by kernel_rfl) (by kernel_rfl) rfl tH0 ?_
            simp only [Act.put, List.setIfInBounds_toArray, List.set_cons_zero, List.set_cons_succ]
            refine hr_none 10 (some 52) rfl rfl (by kernel_rfl) (by kernel_rfl) (by kernel_rfl) rfl tH0 ?_
            simp only [Act.put, List.setIfInBounds_toArray, List.set_cons_zero, List.set_cons_succ]
            refine hr_none 11 (some 53) rfl rfl (by kernel_rfl) (by kernel_rfl) (by kernel_rfl) rfl tH0 ?_
            simp only [Act.put, List.setIfInBounds_toArray, List.set_cons_zero, List.set_cons_succ]
            refine hr_none 12 (some 54) rfl rfl (by kernel_rfl) (by kernel_rfl) (by kernel_rfl) rfl tH0 ?_
            simp only [Act.put, List.setIfInBounds_toArray, List.set_cons_zero, List.set_cons_succ]
            refine hr_none 13 (some 55) rfl rfl (by kernel_rfl) (by kernel_rfl) (by kernel_rfl) rfl tH0 ?_
            simp only [Act.put, List.setIfInBounds_toArray, List.set_cons_zero, List.set_cons_succ]
            refine hr_none 14 (some 56) rfl rfl (by kernel_rfl) (by kernel_rfl) (by kernel_rfl) rfl tH0 ?_
            simp only [Act.put, List.setIfInBounds_toArray, List.set_cons_zero, List.set_cons_succ]
            refine hr_none 15 (some 57) rfl rfl (by kernel_rfl) (by kernel_rfl) (by kernel_rfl) rfl tH0 ?_
            simp only [Act.put, List.setIfInBounds_toArray, List.set_cons_zero, List.set_cons_succ]
            refine hr_none 16 (some 58) rfl rfl (by kernel_rfl) (by kernel_rfl) (by kernel_rfl) rfl tH0 ?_
            simp only [Act.put, List.setIfInBounds_toArray, List.set_cons_zero, List.set_cons_succ]
            refine hr_take_w 17 (some 59) (.bool false) rfl rfl (by kernel_rfl) (by kernel_rfl) (by kernel_rfl) rfl (fun W hW => by go_simp) tH0 ?_
            simp only [Act.put, List.setIfInBounds_toArray, List.set_cons_zero, List.set_cons_succ]
            refine wpAnyH_done (by kernel_rfl) ?_ _
            refine NoPanic.normal ?_
            clear hai
            have hBv := hB1.trans (tE0.mono hB1.size)
            have O1 := own_below (own_below HOW.out C1) tE0
            have I1 := IL1.below tE0
            go_wp2_with (at_builtin; refine wpList_appIs rfl _ _ rfl w.heap.size _ its rfl O1 _ ln lc js rfl I1 HN.out hBv.size ?_; intro v2 u2 own2 B2)
            have hBu := hBv.trans B2
            go_roundw
            case rel => exact ⟨k2 + 1, its ++ js, by omega, by go_num, HNX, own2, HKJ.out, hBu⟩
            case measure => simp [intOf]; omega
          · have hai : (al : Int) > 0 := by omega
            obtain ⟨ab, aoff, rfl, hca⟩ := ILA1.at (by omega)
            obtain ⟨lb, loff, rfl, hcl⟩ := IL1.at hl0
            have haln : al - 1 < its.length := by have := HAL.out; omega
            have hjln : 0 < js.length := by omega
            have z1 := (hca (al - 1) haln).1
            have y1 := (hcl 0 hjln).1
            rw [Nat.zero_mul, Nat.add_zero] at y1
            have SZ := (ILA1.sl its[al - 1] (List.getElem_mem haln)).1
            have SY := (IL1.sl js[0] (List.getElem_mem hjln)).1
            have HJN : Hid (joins (its.map IP.it) l = decide (cmpL its[al - 1].k.xs js[0].k.xs < 0)) := by
              show _ = _
              rw [← HJS.out]
              obtain ⟨y, js', rfl⟩ : ∃ y js', js = y :: js' := by
                cases js with
                | nil => simp at hjln
                | cons y js' => exact ⟨y, js', rfl⟩
              rw [joins_lastP its its[al - 1] y js' (by rw [List.getLast?_eq_getElem?, ← HAL.out, List.getElem?_eq_getElem haln])]
              rfl
            obtain ⟨z, hze⟩ : ∃ z, z = its[al - 1] := ⟨_, rfl⟩
            obtain ⟨y, hye⟩ : ∃ y, y = js[0] := ⟨_, rfl⟩
            rw [← hze] at z1 SZ HJN
            rw [← hye] at y1 SY HJN
            unfold Part.val at z1 y1
            have hali : (al : Int) ≤ 1000000 := by have := HAL.out; have := HTL.out; omega
            have hlni : (0 : Int) < (ln : Int) := by omega
            clear hca hcl hze hye
            by_cases hbl : cmpL z.k.xs y.k.xs < 0
            · have CB : ∀ V, Below w1.heap.size w1 V → Calls Tryz.prog 20 #[.slice z.k.ao z.k.n z.k.cap, .slice y.k.ao y.k.n y.k.cap] V fun e w' => e = .returned (.bool true) ∧ Below V.heap.size V w' := fun V hV => by
                have := rbelow_any V z.k.ao y.k.ao z.k.n z.k.cap y.k.n y.k.cap z.k.xs y.k.xs (SZ.below hV) (SY.below hV)
                rwa [decide_eq_true hbl] at this
              have HNX := HNJ (by rw [HJN.out, decide_eq_true hbl])
              clear HNJ hbl
              go_wp2_with fail
              have tHS : Hid (∀ V, Below w1.heap.size w1 V → V.cell? ⟨ab, aoff + (al - 1) * 2, none⟩ = some (.slice z.k.ao z.k.n z.k.cap) ∧ V.cell? ⟨lb, loff, none⟩ = some (.slice y.k.ao y.k.n y.k.cap)) := fun V hV => ⟨(hV.cell (World.block_lt_of_cell? _ _ z1)).trans z1, (hV.cell (World.block_lt_of_cell? _ _ y1)).trans y1⟩
              have tE0 : Below w1.heap.size w1 w1.drew := (Below.refl _ _).drew
              refine wp_region_noPanic ?_
              refine wp_region_held_drew (S := fun V => V.cell? ⟨ab, aoff + (al - 1) * 2, none⟩ = some (.slice z.k.ao z.k.n z.k.cap) ∧ V.cell? ⟨lb, loff, none⟩ = some (.slice y.k.ao y.k.n y.k.cap)) (by kernel_rfl) (tHS.out _ tE0) (fun tH0 => ?_)
              obtain ⟨tv0, hv0⟩ : ∃ v, v = w1.drew := ⟨_, rfl⟩
              rw [← hv0] at tH0 tE0 ⊢
              clear hv0
              refine hr_take_w 0 (some 42) (.slice (some ⟨ab, aoff, none⟩) al ac2) rfl rfl (by kernel_rfl) (by kernel_rfl) (by kernel_rfl) rfl (fun W hW => by obtain ⟨h0, h1⟩ := hW; go_simp) tH0 ?_
              simp only [Act.put, List.setIfInBounds_toArray, List.set_cons_zero, List.set_cons_succ]
              refine hr_take_w 1 (some 43) (.int .i64 al) rfl rfl (by kernel_rfl) (by kernel_rfl) (by kernel_rfl) rfl (fun W hW => by obtain ⟨h0, h1⟩ := hW; go_simp) tH0 ?_
              simp only [Act.put, List.setIfInBounds_toArray, List.set_cons_zero, List.set_cons_succ]
              refine hr_take_w 2 (some 44) (.bool true) rfl rfl (by kernel_rfl) (by kernel_rfl) (by kernel_rfl) rfl (fun W hW => by obtain ⟨h0, h1⟩ := hW; go_simp; omega) tH0 ?_
              simp only [Act.put, List.setIfInBounds_toArray, List.set_cons_zero, List.set_cons_succ]
              refine hr_take_w 3 (some 45) (.bool true) rfl rfl (by kernel_rfl) (by kernel_rfl) (by kernel_rfl) rfl (fun W hW => by obtain ⟨h0, h1⟩ := hW; go_simp) tH0 ?_
              simp only [Act.put, List.setIfInBounds_toArray, List.set_cons_zero, List.set_cons_succ]
              refine hr_take_w 4 (some 46) (.slice (some ⟨ab, aoff, none⟩) al ac2) rfl rfl (by kernel_rfl) (by kernel_rfl) (by kernel_rfl) rfl (fun W hW => by obtain ⟨h0, h1⟩ := hW; go_simp) tH0 ?_
              simp only [Act.put, List.setIfInBounds_toArray, List.set_cons_zero, List.set_cons_succ]
              refine hr_take_w 5 (some 47) (.slice (some ⟨ab, aoff, none⟩) al ac2) rfl rfl (by kernel_rfl) (by kernel_rfl) (by kernel_rfl) rfl (fun W hW => by obtain ⟨h0, h1⟩ := hW; go_simp) tH0 ?_
              simp only [Act.put, List.setIfInBounds_toArray, List.set_cons_zero, List.set_cons_succ]
              refine hr_take_w 6 (some 48) (.int .i64 al) rfl rfl (by kernel_rfl) (by kernel_rfl) (by kernel_rfl) rfl (fun W hW => by obtain ⟨h0, h1⟩ := hW; go_simp) tH0 ?_
              simp only [Act.put, List.setIfInBounds_toArray, List.set_cons_zero, List.set_cons_succ]
              refine hr_take_w 7 (some 49) (.int .i64 ((al - 1 : Nat) : Int)) rfl rfl (by kernel_rfl) (by kernel_rfl) (by kernel_rfl) rfl (fun W hW => by obtain ⟨h0, h1⟩ := hW; go_simp; simp [IntKind.wrap, IntKind.bits, IntKind.signed]; omega) tH0 ?_
              simp only [Act.put, List.setIfInBounds_toArray, List.set_cons_zero, List.set_cons_succ]
              refine hr_take_w 8 (some 50) (.pointer (some ⟨ab, aoff + (al - 1) * 2, none⟩)) rfl rfl (by kernel_rfl) (by kernel_rfl) (by kernel_rfl) rfl (fun W hW => by obtain ⟨h0, h1⟩ := hW; go_simp; intro hh; omega) tH0 ?_
              simp only [Act.put, List.setIfInBounds_toArray, List.set_cons_zero, List.set_cons_succ]
              refine hr_take_w 9 (some 51) (.pointer (some ⟨ab, aoff + (al - 1) * 2, none⟩)) rfl rfl (by kernel_rfl) (by kernel_rfl) (by kernel_rfl) rfl (fun W hW => by obtain ⟨h0, h1⟩ := hW; go_simp) tH0 ?_
              simp only [Act.put, List.setIfInBounds_toArray, List.set_cons_zero, List.set_cons_succ]
              refine hr_take_w 10 (some 52) (.slice z.k.ao z.k.n z.k.cap) rfl rfl (by kernel_rfl) (by kernel_rfl) (by kernel_rfl) rfl (fun W hW => by obtain ⟨h0, h1⟩ := hW; go_simp) tH0 ?_
              simp only [Act.put, List.setIfInBounds_toArray, List.set_cons_zero, List.set_cons_succ]
              refine hr_take_w 11 (some 53) (.slice (some ⟨lb, loff, none⟩) ln lc) rfl rfl (by kernel_rfl) (by kernel_rfl) (by kernel_rfl) rfl (fun W hW => by obtain ⟨h0, h1⟩ := hW; go_simp) tH0 ?_
              simp only [Act.put, List.setIfInBounds_toArray, List.set_cons_zero, List.set_cons_succ]
              refine hr_take_w 12 (some 54) (.pointer (some ⟨lb, loff, none⟩)) rfl rfl (by kernel_rfl) (by kernel_rfl) (by kernel_rfl) rfl (fun W hW => by obtain ⟨h0, h1⟩ := hW; go_simp) tH0 ?_
              simp only [Act.put, List.setIfInBounds_toArray, List.set_cons_zero, List.set_cons_succ]
              refine hr_take_w 13 (some 55) (.pointer (some ⟨lb, loff, none⟩)) rfl rfl (by kernel_rfl) (by kernel_rfl) (by kernel_rfl) rfl (fun W hW => by obtain ⟨h0, h1⟩ := hW; go_simp) tH0 ?_
              simp only [Act.put, List.setIfInBounds_toArray, List.set_cons_zero, List.set_cons_succ]
              refine hr_take_w 14 (some 56) (.slice y.k.ao y.k.n y.k.cap) rfl rfl (by kernel_rfl) (by kernel_rfl) (by kernel_rfl) rfl (fun W hW => by obtain ⟨h0, h1⟩ := hW; go_simp) tH0 ?_
              simp only [Act.put, List.setIfInBounds_toArray, List.set_cons_zero, List.set_cons_succ]
              refine hr_call_w 15 (some 57) 20 #[.slice z.k.ao z.k.n z.k.cap, .slice y.k.ao y.k.n y.k.cap] rfl rfl (by kernel_rfl) rfl (by go_simp) (fun v w' => v = .bool true ∧ Below tv0.heap.size tv0 w') ((CB tv0 tE0).mono (by
                rintro e w' ⟨rfl, C⟩
                exact ⟨_, rfl, rfl, C⟩)) ?_
              rintro v tv1 ⟨rfl, tC0⟩
              have tE1 := tE0.trans (tC0.mono tE0.size)
              have tH1 := tHS.out tv1 tE1
              refine ⟨tH1, ?_⟩
              simp only [Act.put, List.setIfInBounds_toArray, List.set_cons_zero, List.set_cons_succ]
              refine hr_take_w 16 (some 58) (.bool false) rfl rfl (by kernel_rfl) (by kernel_rfl) (by kernel_rfl) rfl (fun W hW => by obtain ⟨h0, h1⟩ := hW; go_simp) tH1 ?_
              simp only [Act.put, List.setIfInBounds_toArray, List.set_cons_zero, List.set_cons_succ]
              refine hr_take_w 17 (some 59) (.bool false) rfl rfl (by kernel_rfl) (by kernel_rfl) (by kernel_rfl) rfl (fun W hW => by obtain ⟨h0, h1⟩ := hW; go_simp) tH1 ?_
              simp only [Act.put, List.setIfInBounds_toArray, List.set_cons_zero, List.set_cons_succ]
              refine wpAnyH_done (by kernel_rfl) ?_ _
              refine NoPanic.normal ?_
              clear z1 y1
              have hBv := hB1.trans (tE1.mono hB1.size)
              have O1 := own_below (own_below HOW.out C1) tE1
              have I1 := IL1.below tE1
              go_wp2_with (at_builtin; refine wpList_appIs rfl _ _ rfl w.heap.size _ its rfl O1 _ ln lc js rfl I1 HN.out hBv.size ?_; intro v2 u2 own2 B2)
              have hBu := hBv.trans B2
              go_roundw
              case rel => exact ⟨k2 + 1, its ++ js, by omega, by go_num, HNX, own2, HKJ.out, hBu⟩
              case measure => simp [intOf]; omega
            · have CB : ∀ V, Below w1.heap.size w1 V → Calls Tryz.prog 20 #[.slice z.k.ao z.k.n z.k.cap, .slice y.k.ao y.k.n y.k.cap] V fun e w' => e = .returned (.bool false) ∧ Below V.heap.size V w' := fun V hV => by
                have := rbelow_any V z.k.ao y.k.ao z.k.n z.k.cap y.k.n y.k.cap z.k.xs y.k.xs (SZ.below hV) (SY.below hV)
                rwa [decide_eq_false hbl] at this
              have HR : Hid (layC (ps.map Part.xs) = .inl 3) := by
                show _ = _
                have hj : jn [] ls = false := jn_pre ls [] (k2 + 1) (by rw [HT.out, jn_snoc, List.nil_append, ← HJ.out.1, HJN.out, decide_eq_false hbl, Bool.and_false])
                unfold layC
                rw [HLL.out]
                simp only [hj]
                rfl
              clear HNJ hbl
              go_wp2_with fail
              have tHS : Hid (∀ V, Below w1.heap.size w1 V → V.cell? ⟨ab, aoff + (al - 1) * 2, none⟩ = some (.slice z.k.ao z.k.n z.k.cap) ∧ V.cell? ⟨lb, loff, none⟩ = some (.slice y.k.ao y.k.n y.k.cap)) := fun V hV => ⟨(hV.cell (World.block_lt_of_cell? _ _ z1)).trans z1, (hV.cell (World.block_lt_of_cell? _ _ y1)).trans y1⟩
              have tE0 : Below w1.heap.size w1 w1.drew := (Below.refl _ _).drew
              refine wp_region_noPanic ?_
              refine wp_region_held_drew (S := fun V => V.cell? ⟨ab, aoff + (al - 1) * 2, none⟩ = some (.slice z.k.ao z.k.n z.k.cap) ∧ V.cell? ⟨lb, loff, none⟩ = some (.slice y.k.ao y.k.n y.k.cap)) (by kernel_rfl) (tHS.out _ tE0) (fun tH0 => ?_)
              obtain ⟨tv0, hv0⟩ : ∃ v, v = w1.drew := ⟨_, rfl⟩
              rw [← hv0] at tH0 tE0 ⊢
              clear hv0
              refine hr_take_w 0 (some 42) (.slice (some ⟨ab, aoff, none⟩) al ac2) rfl rfl (by kernel_rfl) (by kernel_rfl) (by kernel_rfl) rfl (fun W hW => by obtain ⟨h0, h1⟩ := hW; go_simp) tH0 ?_
              simp only [Act.put, List.setIfInBounds_toArray, List.set_cons_zero, List.set_cons_succ]
              refine hr_take_w 1 (some 43) (.int .i64 al) rfl rfl (by kernel_rfl) (by kernel_rfl) (by kernel_rfl) rfl (fun W hW => by obtain ⟨h0, h1⟩ := hW; go_simp) tH0 ?_
              simp only [Act.put, List.setIfInBounds_toArray, List.set_cons_zero, List.set_cons_succ]
              refine hr_take_w 2 (some 44) (.bool true) rfl rfl (by kernel_rfl) (by kernel_rfl) (by kernel_rfl) rfl (fun W hW => by obtain ⟨h0, h1⟩ := hW; go_simp; omega) tH0 ?_
              simp only [Act.put, List.setIfInBounds_toArray, List.set_cons_zero, List.set_cons_succ]
              refine hr_take_w 3 (some 45) (.bool true) rfl rfl (by kernel_rfl) (by kernel_rfl) (by kernel_rfl) rfl (fun W hW => by obtain ⟨h0, h1⟩ := hW; go_simp) tH0 ?_
              simp only [Act.put, List.setIfInBounds_toArray, List.set_cons_zero, List.set_cons_succ]
              refine hr_take_w 4 (some 46) (.slice (some ⟨ab, aoff, none⟩) al ac2) rfl rfl (by kernel_rfl) (by kernel_rfl) (by kernel_rfl) rfl (fun W hW => by obtain ⟨h0, h1⟩ := hW; go_simp) tH0 ?_
              simp only [Act.put, List.setIfInBounds_toArray, List.set_cons_zero, List.set_cons_succ]
              refine hr_take_w 5 (some 47) (.slice (some ⟨ab, aoff, none⟩) al ac2) rfl rfl (by kernel_rfl) (by kernel_rfl) (by kernel_rfl) rfl (fun W hW => by obtain ⟨h0, h1⟩ := hW; go_simp) tH0 ?_
              simp only [Act.put, List.setIfInBounds_toArray, List.set_cons_zero, List.set_cons_succ]
              refine hr_take_w 6 (some 48) (.int .i64 al) rfl rfl (by kernel_rfl) (by kernel_rfl) (by kernel_rfl) rfl (fun W hW => by obtain ⟨h0, h1⟩ := hW; go_simp) tH0 ?_
              simp only [Act.put, List.setIfInBounds_toArray, List.set_cons_zero, List.set_cons_succ]
              refine hr_take_w 7 (some 49) (.int .i64 ((al - 1 : Nat) : Int)) rfl rfl (by kernel_rfl) (by kernel_rfl) (by kernel_rfl) rfl (fun W hW => by obtain ⟨h0, h1⟩ := hW; go_simp; simp [IntKind.wrap, IntKind.bits, IntKind.signed]; omega) tH0 ?_
              simp only [Act.put, List.setIfInBounds_toArray, List.set_cons_zero, List.set_cons_succ]
              refine hr_take_w 8 (some 50) (.pointer (some ⟨ab, aoff + (al - 1) * 2, none⟩)) rfl rfl (by kernel_rfl) (by kernel_rfl) (by kernel_rfl) rfl (fun W hW => by obtain ⟨h0, h1⟩ := hW; go_simp; intro hh; omega) tH0 ?_
              simp only [Act.put, List.setIfInBounds_toArray, List.set_cons_zero, List.set_cons_succ]
              refine hr_take_w 9 (some 51) (.pointer (some ⟨ab, aoff + (al - 1) * 2, none⟩)) rfl rfl (by kernel_rfl) (by kernel_rfl) (by kernel_rfl) rfl (fun W hW => by obtain ⟨h0, h1⟩ := hW; go_simp) tH0 ?_
              simp only [Act.put, List.setIfInBounds_toArray, List.set_cons_zero, List.set_cons_succ]
              refine hr_take_w 10 (some 52) (.slice z.k.ao z.k.n z.k.cap) rfl rfl (by kernel_rfl) (by kernel_rfl) (by kernel_rfl) rfl (fun W hW => by obtain ⟨h0, h1⟩ := hW; go_simp) tH0 ?_
              simp only [Act.put, List.setIfInBounds_toArray, List.set_cons_zero, List.set_cons_succ]
              refine hr_take_w 11 (some 53) (.slice (some ⟨lb, loff, none⟩) ln lc) rfl rfl (by kernel_rfl) (by kernel_rfl) (by kernel_rfl) rfl (fun W hW => by obtain ⟨h0, h1⟩ := hW; go_simp) tH0 ?_
              simp only [Act.put, List.setIfInBounds_toArray, List.set_cons_zero, List.set_cons_succ]
              refine hr_take_w 12 (some 54) (.pointer (some ⟨lb, loff, none⟩)) rfl rfl (by kernel_rfl) (by kernel_rfl) (by kernel_rfl) rfl (fun W hW => by obtain ⟨h0, h1⟩ := hW; go_simp) tH0 ?_
              simp only [Act.put, List.setIfInBounds_toArray, List.set_cons_zero, List.set_cons_succ]
              refine hr_take_w 13 (some 55) (.pointer (some ⟨lb, loff, none⟩)) rfl rfl (by kernel_rfl) (by kernel_rfl) (by kernel_rfl) rfl (fun W hW => by obtain ⟨h0, h1⟩ := hW; go_simp) tH0 ?_
              simp only [Act.put, List.setIfInBounds_toArray, List.set_cons_zero, List.set_cons_succ]
              refine hr_take_w 14 (some 56) (.slice y.k.ao y.k.n y.k.cap) rfl rfl (by kernel_rfl) (by kernel_rfl) (by kernel_rfl) rfl (fun W hW => by obtain ⟨h0, h1⟩ := hW; go_simp) tH0 ?_
              simp only [Act.put, List.setIfInBounds_toArray, List.set_cons_zero, List.set_cons_succ]
              refine hr_call_w 15 (some 57) 20 #[.slice z.k.ao z.k.n z.k.cap, .slice y.k.ao y.k.n y.k.cap] rfl rfl (by kernel_rfl) rfl (by go_simp) (fun v w' => v = .bool false ∧ Below tv0.heap.size tv0 w') ((CB tv0 tE0).mono (by
                rintro e w' ⟨rfl, C⟩
                exact ⟨_, rfl, rfl, C⟩)) ?_
              rintro v tv1 ⟨rfl, tC0⟩
              have tE1 := tE0.trans (tC0.mono tE0.size)
              have tH1 := tHS.out tv1 tE1
              refine ⟨tH1, ?_⟩
              simp only [Act.put, List.setIfInBounds_toArray, List.set_cons_zero, List.set_cons_succ]
              refine hr_take_w 16 (some 58) (.bool true) rfl rfl (by kernel_rfl) (by kernel_rfl) (by kernel_rfl) rfl (fun W hW => by obtain ⟨h0, h1⟩ := hW; go_simp) tH1 ?_
              simp only [Act.put, List.setIfInBounds_toArray, List.set_cons_zero, List.set_cons_succ]
              refine hr_take_w 17 (some 59) (.bool true) rfl rfl (by kernel_rfl) (by kernel_rfl) (by kernel_rfl) rfl (fun W hW => by obtain ⟨h0, h1⟩ := hW; go_simp) tH1 ?_
              simp only [Act.put, List.setIfInBounds_toArray, List.set_cons_zero, List.set_cons_succ]
              refine wpAnyH_done (by kernel_rfl) ?_ _
              refine NoPanic.normal ?_
              have hBe := hB1.trans (tE1.mono hB1.size)
              clear z1 y1
              go_wp2
              go_ret2
              refine ⟨fun y hy => ?_, fun l hl => ?_, hBe⟩
              · rw [HR.out] at hy
                obtain rfl := Sum.inl.inj hy
                exact ⟨rfl, by decide⟩
              · rw [HR.out] at hl
                cases hl
        · have hge2 : ¬ (k2 : Int) < (n : Int) := by omega
          have hall : ls.take k2 = ls := List.take_of_length_le (by have := HLO.out.1; omega)
          have HC : Hid (layC (ps.map Part.xs) = .inr (its.map IP.it)) := by
            show _ = _
            have h1 := HJ.out
            rw [hall] at h1
            unfold layC
            rw [HLL.out, h1.1]
            simp only [h1.2, if_true]
          clear hall
          go_wp2
          go_ret2
          refine ⟨fun y hy => ?_, fun l hl => ?_, hB2⟩
          · rw [HC.out] at hy
            cases hy
          · rw [HC.out] at hl
            obtain rfl := Sum.inr.inj hl
            exact ⟨_, _, _, its, rfl, ILA, rfl, HOK.out⟩
end Go.Proofs.YtkmkmekhodcioaaGreatDoor

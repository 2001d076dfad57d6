/-
  DigestForms: of two lists the forms are the same only if the lists are.
-/
import Derived.Test.YtihcgapecacneaaDoorRForm
import Derived.Test.YtihcgapecacneaaDoorLaws
import Derived.Test.YtihcgapecacneaaDoorSame
import Derived.Test.YtihcgapecacneaaDoorAbc
import Derived.Deep.RegionHeld3
namespace Go.Proofs.YtihcgapecacneaaDoor
open Go.RowKit

theorem Sl.ofHeap {w w' : World} {ao : Option Addr} {n cap : Nat} {xs : List Int} (h : Sl w ao n cap xs) (e : w'.heap = w.heap) : Sl w' ao n cap xs :=
  ⟨h.len, h.le, h.mx, h.nil, fun a ha i hi => (World.cell?_of_block (by rw [e])).trans (h.cell a ha i hi), h.byte⟩

theorem bytes_eq {s t : ByteArray} (h : s.toList = t.toList) : s = t := by
  rw [ByteArray.toList_eq, ByteArray.toList_eq] at h
  exact ByteArray.ext (Array.toList_inj.1 h)

theorem enc_cut {a b : Nat} {r r' : List Int} (ha : a < 18446744073709551616) (hb : b < 18446744073709551616) (h : enc a ++ r = enc b ++ r') : a = b ∧ r = r' := by
  have h1 := tk_enc ha r
  rw [h, tk_enc hb r'] at h1
  have e : a = b := (congrArg Prod.fst h1).symm
  subst e
  exact ⟨rfl, List.append_cancel_left h⟩
theorem bytes_cut {x y r r' : List Int} (hx : x.length < 18446744073709551616) (hy : y.length < 18446744073709551616) (h : enc x.length ++ x ++ r = enc y.length ++ y ++ r') : x = y ∧ r = r' := by
  rw [List.append_assoc, List.append_assoc] at h
  obtain ⟨e, h2⟩ := enc_cut hx hy h
  exact List.append_inj h2 e
theorem fmP_inj : ∀ (xs ys : List (List Int)), xs.length = ys.length → (∀ x ∈ xs, x.length < 18446744073709551616) → (∀ y ∈ ys, y.length < 18446744073709551616) → fmP xs = fmP ys → xs = ys
  | [], [], _, _, _, _ => rfl
  | [], _ :: _, h, _, _, _ => by simp at h
  | _ :: _, [], h, _, _, _ => by simp at h
  | x :: xs, y :: ys, h, hx, hy, e => by
    have e1 : ∀ (z : List Int) zs, fmP (z :: zs) = enc z.length ++ z ++ fmP zs := fun z zs => by simp [fmP]
    rw [e1, e1] at e
    obtain ⟨h1, h2⟩ := bytes_cut (hx x (List.mem_cons_self ..)) (hy y (List.mem_cons_self ..)) e
    rw [h1, fmP_inj xs ys (by simpa using h) (fun z hz => hx z (List.mem_cons_of_mem _ hz)) (fun z hz => hy z (List.mem_cons_of_mem _ hz)) h2]
theorem formL_inj {s t : List Int} {xs ys : List (List Int)} (hs : s.length < 18446744073709551616) (ht : t.length < 18446744073709551616) (hn : xs.length < 18446744073709551616) (hm : ys.length < 18446744073709551616)
    (hx : ∀ x ∈ xs, x.length < 18446744073709551616) (hy : ∀ y ∈ ys, y.length < 18446744073709551616) (h : formL s xs = formL t ys) : s = t ∧ xs = ys := by
  unfold formL at h
  rw [List.append_assoc, List.append_assoc (enc t.length ++ t)] at h
  obtain ⟨h1, h2⟩ := bytes_cut hs ht h
  obtain ⟨h3, h4⟩ := enc_cut hn hm h2
  exact ⟨h1, fmP_inj xs ys h3 hx hy h4⟩

set_option maxRecDepth 100000 in
set_option maxHeartbeats 4000000 in
theorem digestForms_any (w : World) (s t : ByteArray) (ao : Option Addr) (n cap : Nat) (ps : List Part) (bo : Option Addr) (m cap2 : Nat) (qs : List Part) (hs0 : s.size ≤ maxLen) (ht0 : t.size ≤ maxLen) (hP : PL w ao n cap ps) (hQ : PL w bo m cap2 qs) (hT : Tabs w) :
    Calls Tryd.prog 4 #[.string s, .string t, .slice ao n cap, .slice bo m cap2] w fun e w' => e = .returned (.bool true) ∧ Below w.heap.size w w' := by
  have h2 := hT.two
  unfold maxLen at hs0 ht0
  have hl := hP.len
  have hl2 := hQ.len
  by_cases ha : 200 < s.size
  · have d1 : (200 : Int) < (s.size : Int) := by omega
    have d2 : decide ((200 : Int) < (s.size : Int)) = true := by simp; omega
    go_enter Tryd.func4, Tryd.ntmps4
    go_wp2_with (go_at_call 6; refine (alive_any _ hT).mono ?_; rintro e w3 ⟨rfl, B3⟩)
    go_ret
    exact ⟨rfl, B3⟩
  have a1' : (s.size : Int) ≤ 200 := by omega
  have a2' : decide ((200 : Int) < (s.size : Int)) = false := by simp; omega
  by_cases hb : 200 < t.size
  · have d1 : (200 : Int) < (t.size : Int) := by omega
    have d2 : decide ((200 : Int) < (t.size : Int)) = true := by simp; omega
    go_enter Tryd.func4, Tryd.ntmps4
    go_wp2_with (go_at_call 6; refine (alive_any _ hT).mono ?_; rintro e w3 ⟨rfl, B3⟩)
    go_ret
    exact ⟨rfl, B3⟩
  have b1' : (t.size : Int) ≤ 200 := by omega
  have b2' : decide ((200 : Int) < (t.size : Int)) = false := by simp; omega
  have HE : Hid (∀ b, b = (decide (s = t) && decide ((n : Int) = (m : Int))) → b = true → s = t ∧ n = m) := by
    rintro b rfl hb
    simp at hb
    exact ⟨hb.1, by omega⟩
  go_enter Tryd.func4, Tryd.ntmps4
  go_wp2_with fail
  refine (light_any w ao n cap ps hP).mono ?_
  rintro e w0 ⟨⟨b, rfl, hb1⟩, hw0⟩
  subst hw0
  cases b
  · go_wp2_with (go_at_call 6; refine (alive_any _ hT).mono ?_; rintro e w3 ⟨rfl, B3⟩)
    go_ret
    exact ⟨rfl, B3⟩
  obtain ⟨hn, hq1⟩ := hb1 rfl
  clear hb1
  go_wp2_with fail
  refine (light_any _ bo m cap2 qs hQ).mono ?_
  rintro e w0 ⟨⟨b, rfl, hb1⟩, hw0⟩
  subst hw0
  cases b
  · go_wp2_with (go_at_call 6; refine (alive_any _ hT).mono ?_; rintro e w3 ⟨rfl, B3⟩)
    go_ret
    exact ⟨rfl, B3⟩
  obtain ⟨hm, hq2⟩ := hb1 rfl
  clear hb1 ha hb
  replace hq1 : ∀ q ∈ ps, q.n ≤ 1000000 := fun q hq => by have := hq1 q hq; omega
  replace hq2 : ∀ q ∈ qs, q.n ≤ 1000000 := fun q hq => by have := hq2 q hq; omega
  have fb1 : Byt (formL (sb s) (pxs ps)) := formL_byte s ps (by omega) (by omega) (fun q hq' => ⟨(hP.sl q hq').byte, by rw [(hP.sl q hq').len]; exact hq1 q hq'⟩)
  have fb2 : Byt (formL (sb t) (pxs qs)) := formL_byte t qs (by omega) (by omega) (fun q hq' => ⟨(hQ.sl q hq').byte, by rw [(hQ.sl q hq').len]; exact hq2 q hq'⟩)
  have HI : Hid (formL (sb s) (pxs ps) = formL (sb t) (pxs qs) → s = t ∧ pxs ps = pxs qs) := by
    intro e
    obtain ⟨e1, e2⟩ := formL_inj (by rw [sb_len]; omega) (by rw [sb_len]; omega) (by rw [pxs_len]; omega) (by rw [pxs_len]; omega)
      (fun x hx => by obtain ⟨q, hq, rfl⟩ := List.mem_map.1 hx; rw [(hP.sl q hq).len]; have := hq1 q hq; omega)
      (fun x hx => by obtain ⟨q, hq, rfl⟩ := List.mem_map.1 hx; rw [(hQ.sl q hq).len]; have := hq2 q hq; omega) e
    exact ⟨sb_inj e1, e2⟩
  have hni : (n : Int) ≤ 50 := by omega
  have hmi : (m : Int) ≤ 50 := by omega
  by_cases hE : s = t ∧ n = m
  · obtain ⟨rfl, rfl⟩ := hE
    have e1 : (s.toList == s.toList) = true := by simp
    have e2 : ((n : Int) == (n : Int)) = true := by simp
    go_wp2_with fail
    clear e1 e2
    go_loopw [9, 10] (fun v i wr => ∃ (b : Bool) (k : Nat), k ≤ n ∧ v = .bool b ∧ i = .int .i64 k ∧ Below w0.heap.size w0 wr ∧ wr.heap = w0.heap ∧ (b = true → (pxs ps).take k = (pxs qs).take k) ∧ (b = false → pxs ps ≠ pxs qs)) (fun _ i _ => n - (intOf i).toNat)
    case atStart => exact ⟨true, 0, by omega, rfl, rfl, Below.refl _ _, rfl, fun _ => by simp, fun h => by cases h⟩
    case round =>
      obtain ⟨b, k, hk, rfl, rfl, B0, hh, hy, hno⟩ := hrel
      have HH : Hid (wr.heap = w0.heap) := hh
      clear hh
      have s1 := B0.size
      cases b with
      | true =>
        by_cases hlt : k < n
        · have hki : (k : Int) < (n : Int) := by omega
          obtain ⟨ab, aof, rfl, hc1⟩ := hP.at (by omega)
          obtain ⟨bb, bof, rfl, hc2⟩ := hQ.at (by omega)
          have hk1 : k < ps.length := by omega
          have hk2 : k < qs.length := by omega
          have c1 : wr.cell? ⟨ab, aof + k, none⟩ = some ps[k].val := (World.cell?_of_block (by rw [HH.out])).trans (hc1 k hk1)
          have c2 : wr.cell? ⟨bb, bof + k, none⟩ = some qs[k].val := (World.cell?_of_block (by rw [HH.out])).trans (hc2 k hk2)
          have S1 := (hP.sl ps[k] (List.getElem_mem hk1)).ofHeap HH.out
          have S2 := (hQ.sl qs[k] (List.getElem_mem hk2)).ofHeap HH.out
          have HY : Hid ((pxs ps).take k = (pxs qs).take k) := hy rfl
          have HR : Hid (ps[k].xs = qs[k].xs → (pxs ps).take (k + 1) = (pxs qs).take (k + 1)) := by
            intro e
            have g1 : (pxs ps)[k]? = some ps[k].xs := by simp [pxs, hk1]
            have g2 : (pxs qs)[k]? = some qs[k].xs := by simp [pxs, hk2]
            rw [List.take_add_one, List.take_add_one, HY.out, g1, g2, e]
          have HN : Hid (ps[k].xs ≠ qs[k].xs → pxs ps ≠ pxs qs) := by
            intro e h
            apply e
            have g1 : (pxs ps)[k]? = some ps[k].xs := by simp [pxs, hk1]
            have g2 : (pxs qs)[k]? = some qs[k].xs := by simp [pxs, hk2]
            rw [h, g2] at g1
            exact (Option.some.inj g1).symm
          obtain ⟨x, hx⟩ : ∃ x, x = ps[k] := ⟨_, rfl⟩
          obtain ⟨y, hy⟩ : ∃ y, y = qs[k] := ⟨_, rfl⟩
          rw [← hx] at c1 S1 HR HN
          rw [← hy] at c2 S2 HR HN
          clear hx hy hno hc1 hc2 HY
          unfold Part.val at c1 c2
          go_wp2_with fail
          go_region_held3 (fun w' => w'.cell? ⟨ab, aof + k, none⟩ = some (.slice x.ao x.n x.cap) ∧ w'.cell? ⟨bb, bof + k, none⟩ = some (.slice y.ao y.n y.cap)) (first | go_keep | exact ⟨c1, c2⟩ | (refine ⟨?_, ?_⟩ <;> assumption)) (first | (go_at_call 7; refine (same_any _ _ _ _ _ _ _ _ _ (by exact Sl.ofHeap S1 rfl) (by exact Sl.ofHeap S2 rfl)).mono ?_; rintro e w' ⟨rfl, z2, rfl⟩))
          go_wp2
          go_roundw
          case rel =>
            refine ⟨decide (x.xs = y.xs), k + 1, by omega, rfl, by go_num, ⟨B0.os, B0.tape, B0.output, B0.size, B0.block⟩, HH.out, fun h => HR.out (by simpa using h), fun h => HN.out (by simpa using h)⟩
          case measure => simp [intOf]; omega
        · have hge : (n : Int) ≤ (k : Int) := by omega
          have hye := hy rfl
          rw [List.take_of_length_le (by rw [pxs_len]; omega), List.take_of_length_le (by rw [pxs_len]; omega)] at hye
          have HEQ : Hid (pxs ps = pxs qs) := hye
          clear hye hy hno
          go_wp2_with fail
          refine (rform_any wr s ao n cap ps (hP.below B0) (by omega) (by omega) hq1).mono ?_
          rintro e w3 ⟨v3, rfl, own3, C3⟩
          obtain ⟨fo, fc, rfl, S3, -⟩ := Sl.own own3 fb1
          have B3 : Below w0.heap.size w0 w3 := B0.trans (C3.mono s1)
          have t3 := B3.size
          clear own3 C3
          go_wp2_with fail
          refine (rform_any w3 s bo n cap2 qs (hQ.below B3) (by omega) (by omega) hq2).mono ?_
          rintro e w4 ⟨v4, rfl, own4, C4⟩
          obtain ⟨go, gc, rfl, S4, -⟩ := Sl.own own4 fb2
          have B4 : Below w0.heap.size w0 w4 := B3.trans (C4.mono t3)
          have S3' := S3.below C4
          have t4 := B4.size
          clear own4 C4 B3
          go_wp2_with fail
          refine (same_any _ _ _ _ _ _ _ _ _ S3' S4).mono ?_
          rintro e w5 ⟨rfl, q5, rfl⟩
          rw [show decide (formL (sb s) (pxs ps) = formL (sb s) (pxs qs)) = true from decide_eq_true (by rw [HEQ.out])]
          have B5 := bel_drewN B4 q5
          generalize w4.drewN q5 = w5 at B5 ⊢
          have T5 := hT.below B5 h2
          have t5 := B5.size
          clear B4 S3 S4 S3'
          go_wp2_with fail
          refine (of_any w5 s ao n cap ps (hP.below B5) T5 (by omega) (by omega) hq1).mono ?_
          rintro e w6 ⟨v6, rfl, own6, C6⟩
          obtain ⟨ho, hc, rfl, S6, -⟩ := Sl.own own6 (sumL_byte _)
          have B6 : Below w0.heap.size w0 w6 := B5.trans (C6.mono t5)
          have T6 := hT.below B6 h2
          have t6 := B6.size
          clear own6 C6 B5
          go_wp2_with fail
          refine (of_any w6 s bo n cap2 qs (hQ.below B6) T6 (by omega) (by omega) hq2).mono ?_
          rintro e w7 ⟨v7, rfl, own7, C7⟩
          obtain ⟨jo, jc, rfl, S7, -⟩ := Sl.own own7 (sumL_byte _)
          have B7 : Below w0.heap.size w0 w7 := B6.trans (C7.mono t6)
          have S6' := S6.below C7
          have t7 := B7.size
          clear own7 C7 B6
          go_wp2_with fail
          refine (same_any _ _ _ _ _ _ _ _ _ S6' S7).mono ?_
          rintro e w8 ⟨rfl, q8, rfl⟩
          rw [show decide (sumL (formL (sb s) (pxs ps)) = sumL (formL (sb s) (pxs qs))) = true from decide_eq_true (by rw [HEQ.out])]
          go_wp2_with fail
          refine (alive_any _ (hT.below (bel_drewN B7 q8) h2)).mono ?_
          rintro e w9 ⟨rfl, C9⟩
          go_wp2
          go_ret
          exact ⟨rfl, (bel_drewN B7 q8).trans (C9.mono t7)⟩
      | false =>
        have HNE : Hid (pxs ps ≠ pxs qs) := hno rfl
        have HD : Hid (decide (formL (sb s) (pxs ps) = formL (sb s) (pxs qs)) = false) := decide_eq_false fun e => HNE.out (HI.out e).2
        clear hno hy
        by_cases h0 : (k : Int) < (n : Int)
        all_goals
          go_wp2_with fail
          refine (rform_any wr s ao n cap ps (hP.below B0) (by omega) (by omega) hq1).mono ?_
          rintro e w3 ⟨v3, rfl, own3, C3⟩
          obtain ⟨fo, fc, rfl, S3, -⟩ := Sl.own own3 fb1
          have B3 : Below w0.heap.size w0 w3 := B0.trans (C3.mono s1)
          have t3 := B3.size
          clear own3 C3
          go_wp2_with fail
          refine (rform_any w3 s bo n cap2 qs (hQ.below B3) (by omega) (by omega) hq2).mono ?_
          rintro e w4 ⟨v4, rfl, own4, C4⟩
          obtain ⟨go, gc, rfl, S4, -⟩ := Sl.own own4 fb2
          have B4 : Below w0.heap.size w0 w4 := B3.trans (C4.mono t3)
          have S3' := S3.below C4
          have t4 := B4.size
          clear own4 C4 B3
          go_wp2_with fail
          refine (same_any _ _ _ _ _ _ _ _ _ S3' S4).mono ?_
          rintro e w5 ⟨rfl, q5, rfl⟩
          rw [HD.out]
          go_wp2_with fail
          refine (alive_any _ (hT.below (bel_drewN B4 q5) h2)).mono ?_
          rintro e w6 ⟨rfl, C6⟩
          go_wp2
          go_ret
          exact ⟨rfl, (bel_drewN B4 q5).trans (C6.mono t4)⟩
  · have HD : Hid (decide (formL (sb s) (pxs ps) = formL (sb t) (pxs qs)) = false) := by
      refine decide_eq_false fun e => hE ?_
      obtain ⟨e1, e2⟩ := HI.out e
      refine ⟨e1, ?_⟩
      have := congrArg List.length e2
      rw [pxs_len, pxs_len] at this
      omega
    have hor : (s.toList == t.toList) = false ∨ ((s.toList == t.toList) = true ∧ ((n : Int) == (m : Int)) = false) := by
      by_cases e : s = t
      · exact .inr ⟨by simp [e], by simp; intro e2; exact hE ⟨e, by omega⟩⟩
      · exact .inl (by simp; exact fun e2 => e (bytes_eq e2))
    have B0 : Below w0.heap.size w0 w0 := Below.refl _ _
    rcases hor with h1 | ⟨h1, h3⟩
    all_goals
      go_wp2_with fail
      go_loopw [9, 10] (fun v i wr => v = .bool false ∧ i = .int .i64 0 ∧ w0 = wr) (fun _ _ _ => 0)
      case atStart => exact ⟨rfl, rfl, rfl⟩
      case round =>
        obtain ⟨rfl, rfl, rfl⟩ := hrel
        by_cases h0 : (0 : Int) < (n : Int)
        all_goals
          go_wp2_with fail
          refine (rform_any w0 s ao n cap ps (hP.below B0) (by omega) (by omega) hq1).mono ?_
          rintro e w3 ⟨v3, rfl, own3, C3⟩
          obtain ⟨fo, fc, rfl, S3, -⟩ := Sl.own own3 fb1
          have B3 : Below w0.heap.size w0 w3 := B0.trans (C3.mono (Nat.le_refl _))
          have t3 := B3.size
          clear own3 C3
          go_wp2_with fail
          refine (rform_any w3 t bo m cap2 qs (hQ.below B3) (by omega) (by omega) hq2).mono ?_
          rintro e w4 ⟨v4, rfl, own4, C4⟩
          obtain ⟨go, gc, rfl, S4, -⟩ := Sl.own own4 fb2
          have B4 : Below w0.heap.size w0 w4 := B3.trans (C4.mono t3)
          have S3' := S3.below C4
          have t4 := B4.size
          clear own4 C4 B3
          go_wp2_with fail
          refine (same_any _ _ _ _ _ _ _ _ _ S3' S4).mono ?_
          rintro e w5 ⟨rfl, q5, rfl⟩
          rw [HD.out]
          go_wp2_with fail
          refine (alive_any _ (hT.below (bel_drewN B4 q5) h2)).mono ?_
          rintro e w6 ⟨rfl, C6⟩
          go_wp2
          go_ret
          exact ⟨rfl, (bel_drewN B4 q5).trans (C6.mono t4)⟩

end Go.Proofs.YtihcgapecacneaaDoor

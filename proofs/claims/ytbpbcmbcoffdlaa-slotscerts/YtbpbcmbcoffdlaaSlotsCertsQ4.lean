/-
  Texts in one: SlVote.
-/
import Derived.Test.YtbpbcmbcoffdlaaSlotsCertsQFL
import Derived.Test.YtbpbcmbcoffdlaaSlotsCertsQ3
namespace Go.Proofs.Ytbpbcmbcoffdlaa
open Go.RowKit
theorem jdgS_win {f low fr seq : Nat} (h : jdgS f low fr seq = 0) : low < seq ∧ seq ≤ low + 8 := by
  unfold jdgS at h
  split at h
  · omega
  · omega
def MsgPost (w : World) (base L M n : Nat) (ρ : Nat → Nat) (r : GT × Int) (e : Ending) (w' : World) : Prop :=
  ∃ n' F' B' ρ', e = .returned (.int .i64 r.2) ∧ LG w' base L M n' r.1 F' B' ρ' ∧ Stp base w w' ρ ρ' ∧ n' ≤ n + 1
set_option maxRecDepth 100000 in
set_option maxHeartbeats 4000000 in
theorem prepare_any (w : World) (base L M n : Nat) (g : GT) (F : Value → Option Value) (B : Nat → SB) (ρ : Nat → Nat) (h : LG w base L M n g F B ρ) (hn : n < maxLen) (s : SA) (sok : s.ok w) (sr : ∀ z, s.blk z → ρ z = 0) (sz : s.b.n ≤ 1000000 ∧ s.tag.n ≤ 1000000) (seq : Nat) (hs : seq < 18446744073709551616)
    (ao : Option Addr) (n1 cap : Nat) (xs : List Int) (S : Sl w ao n1 cap xs) (Sr : ∀ z, sblk ao n1 z → ρ z = 0) (n1z : n1 ≤ 1000000) :
    Calls Try.prog 28 #[.pointer (some ⟨L, 0, none⟩), s.val, .int .u64 (seq : Nat), .slice ao n1 cap] w (MsgPost w base L M n ρ (parG g s.v seq (strOfNums xs))) := by
  have hF : Hid (parG g s.v seq (strOfNums xs) = parG g s.v seq (strOfNums xs)) := rfl
  have lz := h.lowz
  have vz := h.viewz
  obtain ⟨W1, hW1⟩ : ∃ W1, W1 = (w.alloc (.cells #[.int .u64 s.fr, .slice s.b.ao s.b.n s.b.cap, .slice s.tag.ao s.tag.n s.tag.cap] 62)) := ⟨_, rfl⟩
  have b1 : Below w.heap.size w W1 := by rw [hW1]; exact (Below.refl _ w).alloc (Nat.le_refl _) _
  have AX : Arr W1 w.heap.size 62 [.int .u64 s.fr, .slice s.b.ao s.b.n s.b.cap, .slice s.tag.ao s.tag.n s.tag.cap] := by rw [hW1]; exact heap_alloc_new w _
  have x0 : W1.cell? ⟨w.heap.size, 0, none⟩ = some (.int .u64 s.fr) := AX.cell 0
  have HA : Hid (Arr W1 w.heap.size 62 [.int .u64 s.fr, .slice s.b.ao s.b.n s.b.cap, .slice s.tag.ao s.tag.n s.tag.cap]) := AX
  obtain ⟨K1, T1⟩ := h.below b1
  have R1 : rho w ρ w.heap.size = 0 := rho_new (Nat.le_refl _)
  have CJ := judge_log W1 L g.f g.low g.view M s.fr seq K1.lc h.f1 h.f4 (by omega) hs
  have HG : Hid (LG W1 base L M n g F B (rho w ρ) ∧ Stp base w W1 ρ (rho w ρ) ∧ rho w ρ w.heap.size = 0) := ⟨K1, T1, R1⟩
  have HS : Hid ((s.ok w ∧ ∀ z, s.blk z → ρ z = 0) ∧ Sl w ao n1 cap xs ∧ ∀ z, sblk ao n1 z → ρ z = 0) := ⟨⟨sok, sr⟩, S, Sr⟩
  have HQ : Hid (g.view < 18446744073709551616 ∧ s.fr < 18446744073709551616) := ⟨by omega, sok.fr⟩
  by_cases cj : jdgS g.f g.low s.fr seq ≠ 0
  · have hv : Hid (parG g s.v seq (strOfNums xs) = (g, jdgS g.f g.low s.fr seq)) := if_pos cj
    have tj : (jdgS g.f g.low s.fr seq != 0) = true := by simpa using cj
    rw [hv.out]
    generalize jdgS g.f g.low s.fr seq = jd at *
    clear h b1 AX K1 T1 R1 sok sr S Sr lz vz cj hF
    unfold SA.val
    go_enter Try.func28, Try.ntmps28
    go_wp2_with fail
    rw [← hW1]
    clear hW1
    go_wp2_with (go_at_call 48; refine CJ.mono ?_; rintro e w1 ⟨rfl, hw1⟩; have hw1 := hw1.symm; subst hw1)
    go_ret
    exact ⟨n, F, B, rho w ρ, rfl, HG.out.1, HG.out.2.1, by omega⟩
  by_cases cp : s.fr = prF g.view g.f
  · have hv : Hid (parG g s.v seq (strOfNums xs) = (g, 18)) := (if_neg cj).trans (if_pos cp)
    have tp : ((s.fr : Int) == (prF g.view g.f : Int)) = true := by simp; omega
    rw [hv.out]
    have tj : (jdgS g.f g.low s.fr seq != 0) = false := by simpa using cj
    generalize jdgS g.f g.low s.fr seq = jd at CJ tj
    clear h b1 AX K1 T1 R1 sok sr S Sr lz vz cj hF cp
    unfold SA.val
    go_enter Try.func28, Try.ntmps28
    go_wp2_with fail
    rw [← hW1]
    clear hW1
    go_wp2_with (go_at_call 48; refine CJ.mono ?_; rintro e w1 ⟨rfl, hw1⟩; have hw1 := hw1.symm; subst hw1)
    have tHS : Hid (∀ V, Below W1.heap.size W1 V → V.cell? ⟨w.heap.size, 0, none⟩ = some (.int .u64 s.fr)) := fun V hV => (Arr.below HA.out hV HA.out.lt).cell 0
    have tE0 : Below W1.heap.size W1 W1.drew := (Below.refl _ _).drew
    refine wp_region_noPanic ?_
    refine wp_region_held_drew (S := fun V => V.cell? ⟨w.heap.size, 0, none⟩ = some (.int .u64 s.fr)) (by kernel_rfl) (tHS.out _ tE0) (fun tH0 => ?_)
    obtain ⟨tv0, hv0⟩ : ∃ v, v = W1.drew := ⟨_, rfl⟩
    rw [← hv0] at tH0 tE0 ⊢
    clear hv0
    refine hr_take_w 0 (some 20) (.pointer (some ⟨w.heap.size, 0, none⟩)) rfl rfl (by kernel_rfl) (by kernel_rfl) (by kernel_rfl) rfl (fun W hW => by go_simp) tH0 ?_
    simp only [FL]
    refine hr_take_w 1 (some 21) (.int .u64 s.fr) rfl rfl (by kernel_rfl) (by kernel_rfl) (by kernel_rfl) rfl (fun W hW => by go_simp) tH0 ?_
    simp only [FL]
    refine hr_take_w 2 (some 22) (.pointer (some ⟨L, 0, none⟩)) rfl rfl (by kernel_rfl) (by kernel_rfl) (by kernel_rfl) rfl (fun W hW => by go_simp) tH0 ?_
    simp only [FL]
    refine hr_call_w 3 (some 23) 49 #[.pointer (some ⟨L, 0, none⟩)] rfl rfl (by kernel_rfl) rfl (by go_simp) (fun v w' => v = .int .u64 (prF g.view g.f : Nat) ∧ Below tv0.heap.size tv0 w') ((primary_log tv0 L g.f g.low g.view M (HG.out.1.lc.below tE0) HQ.out.1).mono (by
      rintro e w' ⟨rfl, C⟩
      exact ⟨_, rfl, rfl, C⟩)) ?_
    rintro v tv1 ⟨rfl, tC0⟩
    have tE1 := tE0.trans (tC0.mono tE0.size)
    have tH1 := tHS.out tv1 tE1
    refine ⟨tH1, ?_⟩
    simp only [FL]
    refine hr_take_w 4 (some 24) (.bool true) rfl rfl (by kernel_rfl) (by kernel_rfl) (by kernel_rfl) rfl (fun W hW => by go_simp) tH1 ?_
    simp only [FL]
    refine wpAnyH_done (by kernel_rfl) ?_ _
    refine NoPanic.normal ?_
    go_wp2
    go_ret
    obtain ⟨K2, T2⟩ := HG.out.1.below tE1
    exact ⟨n, F, B, _, rfl, K2, HG.out.2.1.trans T2, by omega⟩
  have tp : ((s.fr : Int) == (prF g.view g.f : Int)) = false := by simp; omega
  have tj : (jdgS g.f g.low s.fr seq != 0) = false := by simpa using cj
  have cj := Decidable.not_not.1 cj
  by_cases ca : (addPv g s.v seq (strOfNums xs)).2 ≠ 0
  · have hv : Hid (parG g s.v seq (strOfNums xs) = (g.put seq { g.slot seq with pv := (addPv g s.v seq (strOfNums xs)).1 }, (addPv g s.v seq (strOfNums xs)).2)) := (if_neg (not_not_intro cj)).trans ((if_neg cp).trans (if_pos ca))
    have ta : ((addPv g s.v seq (strOfNums xs)).2 != 0) = true := by simpa using ca
    rw [hv.out]
    clear h b1 AX K1 T1 R1 sok sr S Sr lz vz hF cp ca
    unfold SA.val
    go_enter Try.func28, Try.ntmps28
    go_wp2_with fail
    rw [← hW1]
    clear hW1
    go_wp2_with (go_at_call 48; refine CJ.mono ?_; rintro e w1 ⟨rfl, hw1⟩; have hw1 := hw1.symm; subst hw1)
    have tHS : Hid (∀ V, Below W1.heap.size W1 V → V.cell? ⟨w.heap.size, 0, none⟩ = some (.int .u64 s.fr)) := fun V hV => (Arr.below HA.out hV HA.out.lt).cell 0
    have tE0 : Below W1.heap.size W1 W1.drew := (Below.refl _ _).drew
    refine wp_region_noPanic ?_
    refine wp_region_held_drew (S := fun V => V.cell? ⟨w.heap.size, 0, none⟩ = some (.int .u64 s.fr)) (by kernel_rfl) (tHS.out _ tE0) (fun tH0 => ?_)
    obtain ⟨tv0, hv0⟩ : ∃ v, v = W1.drew := ⟨_, rfl⟩
    rw [← hv0] at tH0 tE0 ⊢
    clear hv0
    refine hr_take_w 0 (some 20) (.pointer (some ⟨w.heap.size, 0, none⟩)) rfl rfl (by kernel_rfl) (by kernel_rfl) (by kernel_rfl) rfl (fun W hW => by go_simp) tH0 ?_
    simp only [FL]
    refine hr_take_w 1 (some 21) (.int .u64 s.fr) rfl rfl (by kernel_rfl) (by kernel_rfl) (by kernel_rfl) rfl (fun W hW => by go_simp) tH0 ?_
    simp only [FL]
    refine hr_take_w 2 (some 22) (.pointer (some ⟨L, 0, none⟩)) rfl rfl (by kernel_rfl) (by kernel_rfl) (by kernel_rfl) rfl (fun W hW => by go_simp) tH0 ?_
    simp only [FL]
    refine hr_call_w 3 (some 23) 49 #[.pointer (some ⟨L, 0, none⟩)] rfl rfl (by kernel_rfl) rfl (by go_simp) (fun v w' => v = .int .u64 (prF g.view g.f : Nat) ∧ Below tv0.heap.size tv0 w') ((primary_log tv0 L g.f g.low g.view M (HG.out.1.lc.below tE0) HQ.out.1).mono (by
      rintro e w' ⟨rfl, C⟩
      exact ⟨_, rfl, rfl, C⟩)) ?_
    rintro v tv1 ⟨rfl, tC0⟩
    have tE1 := tE0.trans (tC0.mono tE0.size)
    have tH1 := tHS.out tv1 tE1
    refine ⟨tH1, ?_⟩
    simp only [FL]
    refine hr_take_w 4 (some 24) (.bool false) rfl rfl (by kernel_rfl) (by kernel_rfl) (by kernel_rfl) rfl (fun W hW => by go_simp) tH1 ?_
    simp only [FL]
    refine wpAnyH_done (by kernel_rfl) ?_ _
    refine NoPanic.normal ?_
    obtain ⟨K2, T2⟩ := HG.out.1.below tE1
    have CS := slot_any tv1 base L M n g F B _ K2 hn seq (jdgS_win cj)
    go_wp2_with (go_at_call 50; refine CS.mono ?_; rintro e w3 ⟨n3, F3, B3, ρ3, rfl, K3, T3, hn3⟩)
    have TT := (HG.out.2.1.trans T2).trans T3
    have sok3 := TT.sa HS.out.1.1 HS.out.1.2
    have S3 := TT.sl HS.out.2.1 HS.out.2.2
    obtain ⟨-, HX⟩ := K3.here seq _ (g.put_same _ _)
    obtain ⟨q1, q2, q3, q4⟩ := K3.ro seq _ (g.put_same _ _)
    have AB : Arr w3 w.heap.size 62 [.int .u64 s.fr, .slice s.b.ao s.b.n s.b.cap, .slice s.tag.ao s.tag.n s.tag.cap] := ((T2.trans T3).keep _ HA.out.lt (.inl HG.out.2.2)).trans HA.out
    have rB : ρ3 w.heap.size = 0 := ((T2.trans T3).role _ HA.out.lt).trans HG.out.2.2
    have nXp : (B3 seq).X ≠ (B3 seq).p := fun e => by rw [← e, q1] at q2; omega
    have nXq : (B3 seq).X ≠ (B3 seq).q := fun e => by rw [← e, q1] at q3; omega
    have nBp : w.heap.size ≠ (B3 seq).p := fun e => by rw [← e, rB] at q2; omega
    have nBq : w.heap.size ≠ (B3 seq).q := fun e => by rw [← e, rB] at q3; omega
    have nBX : w.heap.size ≠ (B3 seq).X := fun e => by rw [← e, rB] at q1; omega
    go_wp2_with fail
    have uHS : Hid (∀ V, Below w3.heap.size w3 V → V.cell? ⟨(B3 seq).X, 5, none⟩ = some (.pointer (some ⟨(B3 seq).p, 0, none⟩)) ∧ V.cell? ⟨w.heap.size, 0, none⟩ = some (.int .u64 s.fr) ∧ V.cell? ⟨w.heap.size, 1, none⟩ = some (.slice s.b.ao s.b.n s.b.cap) ∧ V.cell? ⟨w.heap.size, 2, none⟩ = some (.slice s.tag.ao s.tag.n s.tag.cap)) := fun V hV => by have K := Arr.below AB hV AB.lt; exact ⟨(Arr.below HX.mem hV HX.lt).cell 5, K.cell 0, K.cell 1, K.cell 2⟩
    have uE0 : Below w3.heap.size w3 w3.drew := (Below.refl _ _).drew
    refine wp_region_noPanic ?_
    refine wp_region_held_drew (S := fun V => V.cell? ⟨(B3 seq).X, 5, none⟩ = some (.pointer (some ⟨(B3 seq).p, 0, none⟩)) ∧ V.cell? ⟨w.heap.size, 0, none⟩ = some (.int .u64 s.fr) ∧ V.cell? ⟨w.heap.size, 1, none⟩ = some (.slice s.b.ao s.b.n s.b.cap) ∧ V.cell? ⟨w.heap.size, 2, none⟩ = some (.slice s.tag.ao s.tag.n s.tag.cap)) (by kernel_rfl) (uHS.out _ uE0) (fun uH0 => ?_)
    obtain ⟨uv0, hv0⟩ : ∃ v, v = w3.drew := ⟨_, rfl⟩
    rw [← hv0] at uH0 uE0 ⊢
    clear hv0
    refine hr_take_w 0 (some 28) (.pointer (some ⟨(B3 seq).X, 0, none⟩)) rfl rfl (by kernel_rfl) (by kernel_rfl) (by kernel_rfl) rfl (fun W hW => by obtain ⟨h0, h1, h2, h3⟩ := hW; go_simp) uH0 ?_
    simp only [FL]
    refine hr_take_w 1 (some 29) (.pointer (some ⟨(B3 seq).X, 0, none⟩)) rfl rfl (by kernel_rfl) (by kernel_rfl) (by kernel_rfl) rfl (fun W hW => by obtain ⟨h0, h1, h2, h3⟩ := hW; go_simp) uH0 ?_
    simp only [FL]
    refine hr_take_w 2 (some 30) (.pointer (some ⟨(B3 seq).X, 0, none⟩)) rfl rfl (by kernel_rfl) (by kernel_rfl) (by kernel_rfl) rfl (fun W hW => by obtain ⟨h0, h1, h2, h3⟩ := hW; go_simp) uH0 ?_
    simp only [FL]
    refine hr_take_w 3 (some 31) (.pointer (some ⟨(B3 seq).X, 5, none⟩)) rfl rfl (by kernel_rfl) (by kernel_rfl) (by kernel_rfl) rfl (fun W hW => by obtain ⟨h0, h1, h2, h3⟩ := hW; go_simp) uH0 ?_
    simp only [FL]
    refine hr_take_w 4 (some 32) (.pointer (some ⟨(B3 seq).p, 0, none⟩)) rfl rfl (by kernel_rfl) (by kernel_rfl) (by kernel_rfl) rfl (fun W hW => by obtain ⟨h0, h1, h2, h3⟩ := hW; go_simp) uH0 ?_
    simp only [FL]
    refine hr_take_w 5 (some 33) (.agg #[.int .u64 s.fr, .slice s.b.ao s.b.n s.b.cap, .slice s.tag.ao s.tag.n s.tag.cap]) rfl rfl (by kernel_rfl) (by kernel_rfl) (by kernel_rfl) rfl (fun W hW => by obtain ⟨h0, h1, h2, h3⟩ := hW; go_simp) uH0 ?_
    simp only [FL]
    refine hr_take_w 6 (some 34) (.slice ao n1 cap) rfl rfl (by kernel_rfl) (by kernel_rfl) (by kernel_rfl) rfl (fun W hW => by obtain ⟨h0, h1, h2, h3⟩ := hW; go_simp) uH0 ?_
    simp only [FL]
    have S9 := sok3.1.below uE0
    have S8 := S3.1.below uE0
    refine hr_call_w 7 (some 35) 53 #[.pointer (some ⟨(B3 seq).p, 0, none⟩), .agg #[.int .u64 s.fr, .slice s.b.ao s.b.n s.b.cap, .slice s.tag.ao s.tag.n s.tag.cap], .slice ao n1 cap] rfl rfl (by kernel_rfl) rfl (by go_simp) (fun v w' => v = .int .i64 (addPv g s.v seq (strOfNums xs)).2 ∧ QS w' (B3 seq).p g.f (addPv g s.v seq (strOfNums xs)).1 ∧ uv0.grownBy w' (some (B3 seq).p)) ((add_any uv0 (B3 seq).p g.f (g.slot seq).pv (HX.P.below uE0) s.fr HQ.out.2 s.b.ao s.tag.ao ao s.b.n s.b.cap s.tag.n s.tag.cap n1 cap s.b.xs s.tag.xs xs S9.b S9.tag S8 sz.1 sz.2 n1z).mono (by
      rintro e w' ⟨rfl, h1, h2⟩
      exact ⟨_, rfl, rfl, h1, h2⟩)) ?_
    rintro v w5 ⟨rfl, Q5, G5⟩
    refine ⟨⟨(grown_cell G5 (Nat.lt_of_lt_of_le HX.lt uE0.size) nXp).trans uH0.1, (grown_cell G5 (Nat.lt_of_lt_of_le AB.lt uE0.size) nBp).trans uH0.2.1, (grown_cell G5 (Nat.lt_of_lt_of_le AB.lt uE0.size) nBp).trans uH0.2.2.1, (grown_cell G5 (Nat.lt_of_lt_of_le AB.lt uE0.size) nBp).trans uH0.2.2.2⟩, ?_⟩
    simp only [FL]
    refine hr_take_w 8 (some 11) (.int .i64 (addPv g s.v seq (strOfNums xs)).2) rfl rfl (by kernel_rfl) (by kernel_rfl) (by kernel_rfl) rfl (fun W hW => by obtain ⟨h0, h1, h2, h3⟩ := hW; go_simp) ⟨(grown_cell G5 (Nat.lt_of_lt_of_le HX.lt uE0.size) nXp).trans uH0.1, (grown_cell G5 (Nat.lt_of_lt_of_le AB.lt uE0.size) nBp).trans uH0.2.1, (grown_cell G5 (Nat.lt_of_lt_of_le AB.lt uE0.size) nBp).trans uH0.2.2.1, (grown_cell G5 (Nat.lt_of_lt_of_le AB.lt uE0.size) nBp).trans uH0.2.2.2⟩ ?_
    simp only [FL]
    refine wpAnyH_done (by kernel_rfl) ?_ _
    refine NoPanic.normal ?_
    go_wp2
    go_ret
    obtain ⟨K4, T4⟩ := K3.below uE0
    obtain ⟨K5, T5⟩ := K4.putPv (g.put_same _ _) Q5 G5
    rw [g.put_put] at K5
    exact ⟨n3, F3, _, _, rfl, K5, (TT.trans T4).trans T5, hn3⟩
  · have hv : Hid (parG g s.v seq (strOfNums xs) = (g.put seq (certS g.f g.view { g.slot seq with pv := (addPv g s.v seq (strOfNums xs)).1 }), 0)) := (if_neg (not_not_intro cj)).trans ((if_neg cp).trans (if_neg ca))
    have ta : ((addPv g s.v seq (strOfNums xs)).2 != 0) = false := by simpa using ca
    rw [hv.out]
    clear h b1 AX K1 T1 R1 sok sr S Sr lz vz hF cp ca
    unfold SA.val
    go_enter Try.func28, Try.ntmps28
    go_wp2_with fail
    rw [← hW1]
    clear hW1
    go_wp2_with (go_at_call 48; refine CJ.mono ?_; rintro e w1 ⟨rfl, hw1⟩; have hw1 := hw1.symm; subst hw1)
    have tHS : Hid (∀ V, Below W1.heap.size W1 V → V.cell? ⟨w.heap.size, 0, none⟩ = some (.int .u64 s.fr)) := fun V hV => (Arr.below HA.out hV HA.out.lt).cell 0
    have tE0 : Below W1.heap.size W1 W1.drew := (Below.refl _ _).drew
    refine wp_region_noPanic ?_
    refine wp_region_held_drew (S := fun V => V.cell? ⟨w.heap.size, 0, none⟩ = some (.int .u64 s.fr)) (by kernel_rfl) (tHS.out _ tE0) (fun tH0 => ?_)
    obtain ⟨tv0, hv0⟩ : ∃ v, v = W1.drew := ⟨_, rfl⟩
    rw [← hv0] at tH0 tE0 ⊢
    clear hv0
    refine hr_take_w 0 (some 20) (.pointer (some ⟨w.heap.size, 0, none⟩)) rfl rfl (by kernel_rfl) (by kernel_rfl) (by kernel_rfl) rfl (fun W hW => by go_simp) tH0 ?_
    simp only [FL]
    refine hr_take_w 1 (some 21) (.int .u64 s.fr) rfl rfl (by kernel_rfl) (by kernel_rfl) (by kernel_rfl) rfl (fun W hW => by go_simp) tH0 ?_
    simp only [FL]
    refine hr_take_w 2 (some 22) (.pointer (some ⟨L, 0, none⟩)) rfl rfl (by kernel_rfl) (by kernel_rfl) (by kernel_rfl) rfl (fun W hW => by go_simp) tH0 ?_
    simp only [FL]
    refine hr_call_w 3 (some 23) 49 #[.pointer (some ⟨L, 0, none⟩)] rfl rfl (by kernel_rfl) rfl (by go_simp) (fun v w' => v = .int .u64 (prF g.view g.f : Nat) ∧ Below tv0.heap.size tv0 w') ((primary_log tv0 L g.f g.low g.view M (HG.out.1.lc.below tE0) HQ.out.1).mono (by
      rintro e w' ⟨rfl, C⟩
      exact ⟨_, rfl, rfl, C⟩)) ?_
    rintro v tv1 ⟨rfl, tC0⟩
    have tE1 := tE0.trans (tC0.mono tE0.size)
    have tH1 := tHS.out tv1 tE1
    refine ⟨tH1, ?_⟩
    simp only [FL]
    refine hr_take_w 4 (some 24) (.bool false) rfl rfl (by kernel_rfl) (by kernel_rfl) (by kernel_rfl) rfl (fun W hW => by go_simp) tH1 ?_
    simp only [FL]
    refine wpAnyH_done (by kernel_rfl) ?_ _
    refine NoPanic.normal ?_
    obtain ⟨K2, T2⟩ := HG.out.1.below tE1
    have CS := slot_any tv1 base L M n g F B _ K2 hn seq (jdgS_win cj)
    go_wp2_with (go_at_call 50; refine CS.mono ?_; rintro e w3 ⟨n3, F3, B3, ρ3, rfl, K3, T3, hn3⟩)
    have TT := (HG.out.2.1.trans T2).trans T3
    have sok3 := TT.sa HS.out.1.1 HS.out.1.2
    have S3 := TT.sl HS.out.2.1 HS.out.2.2
    obtain ⟨-, HX⟩ := K3.here seq _ (g.put_same _ _)
    obtain ⟨q1, q2, q3, q4⟩ := K3.ro seq _ (g.put_same _ _)
    have AB : Arr w3 w.heap.size 62 [.int .u64 s.fr, .slice s.b.ao s.b.n s.b.cap, .slice s.tag.ao s.tag.n s.tag.cap] := ((T2.trans T3).keep _ HA.out.lt (.inl HG.out.2.2)).trans HA.out
    have rB : ρ3 w.heap.size = 0 := ((T2.trans T3).role _ HA.out.lt).trans HG.out.2.2
    have nXp : (B3 seq).X ≠ (B3 seq).p := fun e => by rw [← e, q1] at q2; omega
    have nXq : (B3 seq).X ≠ (B3 seq).q := fun e => by rw [← e, q1] at q3; omega
    have nBp : w.heap.size ≠ (B3 seq).p := fun e => by rw [← e, rB] at q2; omega
    have nBq : w.heap.size ≠ (B3 seq).q := fun e => by rw [← e, rB] at q3; omega
    have nBX : w.heap.size ≠ (B3 seq).X := fun e => by rw [← e, rB] at q1; omega
    go_wp2_with fail
    have uHS : Hid (∀ V, Below w3.heap.size w3 V → V.cell? ⟨(B3 seq).X, 5, none⟩ = some (.pointer (some ⟨(B3 seq).p, 0, none⟩)) ∧ V.cell? ⟨w.heap.size, 0, none⟩ = some (.int .u64 s.fr) ∧ V.cell? ⟨w.heap.size, 1, none⟩ = some (.slice s.b.ao s.b.n s.b.cap) ∧ V.cell? ⟨w.heap.size, 2, none⟩ = some (.slice s.tag.ao s.tag.n s.tag.cap)) := fun V hV => by have K := Arr.below AB hV AB.lt; exact ⟨(Arr.below HX.mem hV HX.lt).cell 5, K.cell 0, K.cell 1, K.cell 2⟩
    have uE0 : Below w3.heap.size w3 w3.drew := (Below.refl _ _).drew
    refine wp_region_noPanic ?_
    refine wp_region_held_drew (S := fun V => V.cell? ⟨(B3 seq).X, 5, none⟩ = some (.pointer (some ⟨(B3 seq).p, 0, none⟩)) ∧ V.cell? ⟨w.heap.size, 0, none⟩ = some (.int .u64 s.fr) ∧ V.cell? ⟨w.heap.size, 1, none⟩ = some (.slice s.b.ao s.b.n s.b.cap) ∧ V.cell? ⟨w.heap.size, 2, none⟩ = some (.slice s.tag.ao s.tag.n s.tag.cap)) (by kernel_rfl) (uHS.out _ uE0) (fun uH0 => ?_)
    obtain ⟨uv0, hv0⟩ : ∃ v, v = w3.drew := ⟨_, rfl⟩
    rw [← hv0] at uH0 uE0 ⊢
    clear hv0
    refine hr_take_w 0 (some 28) (.pointer (some ⟨(B3 seq).X, 0, none⟩)) rfl rfl (by kernel_rfl) (by kernel_rfl) (by kernel_rfl) rfl (fun W hW => by obtain ⟨h0, h1, h2, h3⟩ := hW; go_simp) uH0 ?_
    simp only [FL]
    refine hr_take_w 1 (some 29) (.pointer (some ⟨(B3 seq).X, 0, none⟩)) rfl rfl (by kernel_rfl) (by kernel_rfl) (by kernel_rfl) rfl (fun W hW => by obtain ⟨h0, h1, h2, h3⟩ := hW; go_simp) uH0 ?_
    simp only [FL]
    refine hr_take_w 2 (some 30) (.pointer (some ⟨(B3 seq).X, 0, none⟩)) rfl rfl (by kernel_rfl) (by kernel_rfl) (by kernel_rfl) rfl (fun W hW => by obtain ⟨h0, h1, h2, h3⟩ := hW; go_simp) uH0 ?_
    simp only [FL]
    refine hr_take_w 3 (some 31) (.pointer (some ⟨(B3 seq).X, 5, none⟩)) rfl rfl (by kernel_rfl) (by kernel_rfl) (by kernel_rfl) rfl (fun W hW => by obtain ⟨h0, h1, h2, h3⟩ := hW; go_simp) uH0 ?_
    simp only [FL]
    refine hr_take_w 4 (some 32) (.pointer (some ⟨(B3 seq).p, 0, none⟩)) rfl rfl (by kernel_rfl) (by kernel_rfl) (by kernel_rfl) rfl (fun W hW => by obtain ⟨h0, h1, h2, h3⟩ := hW; go_simp) uH0 ?_
    simp only [FL]
    refine hr_take_w 5 (some 33) (.agg #[.int .u64 s.fr, .slice s.b.ao s.b.n s.b.cap, .slice s.tag.ao s.tag.n s.tag.cap]) rfl rfl (by kernel_rfl) (by kernel_rfl) (by kernel_rfl) rfl (fun W hW => by obtain ⟨h0, h1, h2, h3⟩ := hW; go_simp) uH0 ?_
    simp only [FL]
    refine hr_take_w 6 (some 34) (.slice ao n1 cap) rfl rfl (by kernel_rfl) (by kernel_rfl) (by kernel_rfl) rfl (fun W hW => by obtain ⟨h0, h1, h2, h3⟩ := hW; go_simp) uH0 ?_
    simp only [FL]
    have S9 := sok3.1.below uE0
    have S8 := S3.1.below uE0
    refine hr_call_w 7 (some 35) 53 #[.pointer (some ⟨(B3 seq).p, 0, none⟩), .agg #[.int .u64 s.fr, .slice s.b.ao s.b.n s.b.cap, .slice s.tag.ao s.tag.n s.tag.cap], .slice ao n1 cap] rfl rfl (by kernel_rfl) rfl (by go_simp) (fun v w' => v = .int .i64 (addPv g s.v seq (strOfNums xs)).2 ∧ QS w' (B3 seq).p g.f (addPv g s.v seq (strOfNums xs)).1 ∧ uv0.grownBy w' (some (B3 seq).p)) ((add_any uv0 (B3 seq).p g.f (g.slot seq).pv (HX.P.below uE0) s.fr HQ.out.2 s.b.ao s.tag.ao ao s.b.n s.b.cap s.tag.n s.tag.cap n1 cap s.b.xs s.tag.xs xs S9.b S9.tag S8 sz.1 sz.2 n1z).mono (by
      rintro e w' ⟨rfl, h1, h2⟩
      exact ⟨_, rfl, rfl, h1, h2⟩)) ?_
    rintro v w5 ⟨rfl, Q5, G5⟩
    refine ⟨⟨(grown_cell G5 (Nat.lt_of_lt_of_le HX.lt uE0.size) nXp).trans uH0.1, (grown_cell G5 (Nat.lt_of_lt_of_le AB.lt uE0.size) nBp).trans uH0.2.1, (grown_cell G5 (Nat.lt_of_lt_of_le AB.lt uE0.size) nBp).trans uH0.2.2.1, (grown_cell G5 (Nat.lt_of_lt_of_le AB.lt uE0.size) nBp).trans uH0.2.2.2⟩, ?_⟩
    simp only [FL]
    refine hr_take_w 8 (some 11) (.int .i64 (addPv g s.v seq (strOfNums xs)).2) rfl rfl (by kernel_rfl) (by kernel_rfl) (by kernel_rfl) rfl (fun W hW => by obtain ⟨h0, h1, h2, h3⟩ := hW; go_simp) ⟨(grown_cell G5 (Nat.lt_of_lt_of_le HX.lt uE0.size) nXp).trans uH0.1, (grown_cell G5 (Nat.lt_of_lt_of_le AB.lt uE0.size) nBp).trans uH0.2.1, (grown_cell G5 (Nat.lt_of_lt_of_le AB.lt uE0.size) nBp).trans uH0.2.2.1, (grown_cell G5 (Nat.lt_of_lt_of_le AB.lt uE0.size) nBp).trans uH0.2.2.2⟩ ?_
    simp only [FL]
    refine wpAnyH_done (by kernel_rfl) ?_ _
    refine NoPanic.normal ?_
    obtain ⟨K4, T4⟩ := K3.below uE0
    obtain ⟨K5, T5⟩ := K4.putPv (g.put_same _ _) Q5 G5
    rw [g.put_put] at K5
    have CC := certify_any w5 base L M n3 _ F3 _ _ K5 seq _ (g.put_same _ _)
    rw [if_pos rfl] at CC
    go_wp2_with (go_at_call 52; refine CC.mono ?_; rintro e w6 ⟨B6, ρ6, rfl, K6, T6⟩)
    go_ret
    rw [g.put_put] at K6
    exact ⟨n3, F3, B6, ρ6, rfl, K6, ((TT.trans T4).trans T5).trans T6, hn3⟩
end Go.Proofs.Ytbpbcmbcoffdlaa

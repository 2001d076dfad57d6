/-
  Texts in one: SlPre.
-/
import Derived.Test.YtbpbcmbcoffdlaaSlotsCertsQFL
import Derived.Test.YtbpbcmbcoffdlaaSlotsCertsQ4
namespace Go.Proofs.Ytbpbcmbcoffdlaa
open Go.RowKit
set_option maxRecDepth 100000 in
set_option maxHeartbeats 4000000 in
theorem pre_any (w : World) (base L M n : Nat) (g : GT) (F : Value → Option Value) (B : Nat → SB) (ρ : Nat → Nat) (h : LG w base L M n g F B ρ) (hn : n < maxLen) (s : SA) (sok : s.ok w) (sr : ∀ z, s.blk z → ρ z = 0) (sz : s.b.n ≤ 1000000 ∧ s.tag.n ≤ 1000000) (seq : Nat) (hs : seq < 18446744073709551616)
    (ao : Option Addr) (n1 cap : Nat) (xs : List Int) (S : Sl w ao n1 cap xs) (Sr : ∀ z, sblk ao n1 z → ρ z = 0) (n1z : n1 ≤ 1000000) :
    Calls Try.prog 27 #[.pointer (some ⟨L, 0, none⟩), s.val, .int .u64 (seq : Nat), .slice ao n1 cap] w (MsgPost w base L M n ρ (preG g s.v seq (strOfNums xs))) := by
  have hF : Hid (preG g s.v seq (strOfNums xs) = preG g s.v seq (strOfNums xs)) := rfl
  have lz := h.lowz
  have vz := h.viewz
  obtain ⟨W1, hW1⟩ : ∃ W1, W1 = (w.alloc (.cells #[.int .u64 s.fr, .slice s.b.ao s.b.n s.b.cap, .slice s.tag.ao s.tag.n s.tag.cap] 62)) := ⟨_, rfl⟩
  have b1 : Below w.heap.size w W1 := by rw [hW1]; exact (Below.refl _ w).alloc (Nat.le_refl _) _
  have AX : Arr W1 w.heap.size 62 [.int .u64 s.fr, .slice s.b.ao s.b.n s.b.cap, .slice s.tag.ao s.tag.n s.tag.cap] := by rw [hW1]; exact heap_alloc_new w _
  have x0 : W1.cell? ⟨w.heap.size, 0, none⟩ = some (.int .u64 s.fr) := AX.cell 0
  have HA : Hid (Arr W1 w.heap.size 62 [.int .u64 s.fr, .slice s.b.ao s.b.n s.b.cap, .slice s.tag.ao s.tag.n s.tag.cap]) := AX
  obtain ⟨K1, T1⟩ := h.below b1
  have R1 : rho w ρ w.heap.size = 0 := rho_new (Nat.le_refl _)
  have CJ := judge_log W1 L g.f g.low g.view M s.fr seq K1.lc h.f1 h.f4 (by omega) hs
  have HG : Hid (LG W1 base L M n g F B (rho w ρ) ∧ Stp base w W1 ρ (rho w ρ) ∧ rho w ρ w.heap.size = 0) := ⟨K1, T1, R1⟩
  have HS : Hid ((s.ok w ∧ ∀ z, s.blk z → ρ z = 0) ∧ Sl w ao n1 cap xs ∧ ∀ z, sblk ao n1 z → ρ z = 0) := ⟨⟨sok, sr⟩, S, Sr⟩
  have HQ : Hid (g.view < 18446744073709551616 ∧ s.fr < 18446744073709551616) := ⟨by omega, sok.fr⟩
  by_cases cj : jdgS g.f g.low s.fr seq ≠ 0
  · have hv : Hid (preG g s.v seq (strOfNums xs) = (g, jdgS g.f g.low s.fr seq)) := if_pos cj
    have tj : (jdgS g.f g.low s.fr seq != 0) = true := by simpa using cj
    rw [hv.out]
    generalize jdgS g.f g.low s.fr seq = jd at *
    clear h b1 AX K1 T1 R1 sok sr S Sr lz vz cj hF
    unfold SA.val
    go_enter Try.func27, Try.ntmps27
    go_wp2_with fail
    rw [← hW1]
    clear hW1
    go_wp2_with (go_at_call 48; refine CJ.mono ?_; rintro e w1 ⟨rfl, hw1⟩; have hw1 := hw1.symm; subst hw1)
    go_ret
    exact ⟨n, F, B, rho w ρ, rfl, HG.out.1, HG.out.2.1, by omega⟩
  have tj : (jdgS g.f g.low s.fr seq != 0) = false := by simpa using cj
  by_cases cp : s.fr ≠ prF g.view g.f
  · have hv : Hid (preG g s.v seq (strOfNums xs) = (g, 18)) := (if_neg cj).trans (if_pos cp)
    have tp : Hid (¬ (s.fr : Int) = (prF g.view g.f : Int)) := by show ¬ _; omega
    rw [hv.out]
    generalize jdgS g.f g.low s.fr seq = jd at CJ tj
    clear h b1 AX K1 T1 R1 sok sr S Sr lz vz hF cp cj
    unfold SA.val
    go_enter Try.func27, Try.ntmps27
    go_wp2_with fail
    rw [← hW1]
    clear hW1
    go_wp2_with (go_at_call 48; refine CJ.mono ?_; rintro e w1 ⟨rfl, hw1⟩; have hw1 := hw1.symm; subst hw1)
    have tHS : Hid (∀ V, Below W1.heap.size W1 V → V.cell? ⟨w.heap.size, 0, none⟩ = some (.int .u64 s.fr)) := fun V hV => (Arr.below HA.out hV HA.out.lt).cell 0
    have tE0 : Below W1.heap.size W1 W1.drew := (Below.refl _ _).drew
    refine wp_region_noPanic ?_
    refine wp_region_held_drew (S := fun V => V.cell? ⟨w.heap.size, 0, none⟩ = some (.int .u64 s.fr)) (by kernel_rfl) (tHS.out _ tE0) (fun tH0 => ?_)
    obtain ⟨tv0, hv0⟩ : ∃ v, v = W1.drew := ⟨_, rfl⟩
    rw [← hv0] at tH0 tE0 ⊢
    clear hv0
    refine hr_take_w 0 (some 19) (.pointer (some ⟨w.heap.size, 0, none⟩)) rfl rfl (by kernel_rfl) (by kernel_rfl) (by kernel_rfl) rfl (fun W hW => by go_simp) tH0 ?_
    simp only [FL]
    refine hr_take_w 1 (some 20) (.int .u64 s.fr) rfl rfl (by kernel_rfl) (by kernel_rfl) (by kernel_rfl) rfl (fun W hW => by go_simp) tH0 ?_
    simp only [FL]
    refine hr_take_w 2 (some 21) (.pointer (some ⟨L, 0, none⟩)) rfl rfl (by kernel_rfl) (by kernel_rfl) (by kernel_rfl) rfl (fun W hW => by go_simp) tH0 ?_
    simp only [FL]
    refine hr_call_w 3 (some 22) 49 #[.pointer (some ⟨L, 0, none⟩)] rfl rfl (by kernel_rfl) rfl (by go_simp) (fun v w' => v = .int .u64 (prF g.view g.f : Nat) ∧ Below tv0.heap.size tv0 w') ((primary_log tv0 L g.f g.low g.view M (HG.out.1.lc.below tE0) HQ.out.1).mono (by
      rintro e w' ⟨rfl, C⟩
      exact ⟨_, rfl, rfl, C⟩)) ?_
    rintro v tv1 ⟨rfl, tC0⟩
    have tE1 := tE0.trans (tC0.mono tE0.size)
    have tH1 := tHS.out tv1 tE1
    refine ⟨tH1, ?_⟩
    simp only [FL]
    refine hr_take_w 4 (some 23) (.bool true) rfl rfl (by kernel_rfl) (by kernel_rfl) (by kernel_rfl) rfl (fun W hW => by go_simp; exact tp.out) tH1 ?_
    simp only [FL]
    refine wpAnyH_done (by kernel_rfl) ?_ _
    refine NoPanic.normal ?_
    go_wp2
    go_ret
    obtain ⟨K2, T2⟩ := HG.out.1.below tE1
    exact ⟨n, F, B, _, rfl, K2, HG.out.2.1.trans T2, by omega⟩
  have tp : Hid ((s.fr : Int) = (prF g.view g.f : Int)) := by show _ = _; omega
  have cj2 := cj
  have cj := Decidable.not_not.1 cj
  cases ch : (g.slot seq).has with
  | true =>
    by_cases ce : (g.slot seq).sum = strOfNums xs
    · have hv : Hid (preG g s.v seq (strOfNums xs) = (g.put seq (g.slot seq), 0)) := (if_neg cj2).trans ((if_neg cp).trans ((if_pos ch).trans (by rw [if_pos ce])))
      have te : ((g.slot seq).sum.toList == (strOfNums xs).toList) = true := by rw [ce]; simp
      rw [hv.out]
      clear h b1 AX K1 T1 R1 sok sr S Sr lz vz hF cp ce cj2
      unfold SA.val
      go_enter Try.func27, Try.ntmps27
      go_wp2_with fail
      rw [← hW1]
      clear hW1
      go_wp2_with (go_at_call 48; refine CJ.mono ?_; rintro e w1 ⟨rfl, hw1⟩; have hw1 := hw1.symm; subst hw1)
      have tHS : Hid (∀ V, Below W1.heap.size W1 V → V.cell? ⟨w.heap.size, 0, none⟩ = some (.int .u64 s.fr)) := fun V hV => (Arr.below HA.out hV HA.out.lt).cell 0
      have tE0 : Below W1.heap.size W1 W1.drew := (Below.refl _ _).drew
      refine wp_region_noPanic ?_
      refine wp_region_held_drew (S := fun V => V.cell? ⟨w.heap.size, 0, none⟩ = some (.int .u64 s.fr)) (by kernel_rfl) (tHS.out _ tE0) (fun tH0 => ?_)
      obtain ⟨tv0, hv0⟩ : ∃ v, v = W1.drew := ⟨_, rfl⟩
      rw [← hv0] at tH0 tE0 ⊢
      clear hv0
      refine hr_take_w 0 (some 19) (.pointer (some ⟨w.heap.size, 0, none⟩)) rfl rfl (by kernel_rfl) (by kernel_rfl) (by kernel_rfl) rfl (fun W hW => by go_simp) tH0 ?_
      simp only [FL]
      refine hr_take_w 1 (some 20) (.int .u64 s.fr) rfl rfl (by kernel_rfl) (by kernel_rfl) (by kernel_rfl) rfl (fun W hW => by go_simp) tH0 ?_
      simp only [FL]
      refine hr_take_w 2 (some 21) (.pointer (some ⟨L, 0, none⟩)) rfl rfl (by kernel_rfl) (by kernel_rfl) (by kernel_rfl) rfl (fun W hW => by go_simp) tH0 ?_
      simp only [FL]
      refine hr_call_w 3 (some 22) 49 #[.pointer (some ⟨L, 0, none⟩)] rfl rfl (by kernel_rfl) rfl (by go_simp) (fun v w' => v = .int .u64 (prF g.view g.f : Nat) ∧ Below tv0.heap.size tv0 w') ((primary_log tv0 L g.f g.low g.view M (HG.out.1.lc.below tE0) HQ.out.1).mono (by
        rintro e w' ⟨rfl, C⟩
        exact ⟨_, rfl, rfl, C⟩)) ?_
      rintro v tv1 ⟨rfl, tC0⟩
      have tE1 := tE0.trans (tC0.mono tE0.size)
      have tH1 := tHS.out tv1 tE1
      refine ⟨tH1, ?_⟩
      simp only [FL]
      refine hr_take_w 4 (some 23) (.bool false) rfl rfl (by kernel_rfl) (by kernel_rfl) (by kernel_rfl) rfl (fun W hW => by go_simp; exact tp.out) tH1 ?_
      simp only [FL]
      refine wpAnyH_done (by kernel_rfl) ?_ _
      refine NoPanic.normal ?_
      obtain ⟨K2, T2⟩ := HG.out.1.below tE1
      have CS := slot_any tv1 base L M n g F B _ K2 hn seq (jdgS_win cj)
      go_wp2_with (go_at_call 50; refine CS.mono ?_; rintro e w3 ⟨n3, F3, B3, ρ3, rfl, K3, T3, hn3⟩)
      have TT := (HG.out.2.1.trans T2).trans T3
      have sok3 := TT.sa HS.out.1.1 HS.out.1.2
      have S3 := TT.sl HS.out.2.1 HS.out.2.2
      obtain ⟨-, HX⟩ := K3.here seq _ (g.put_same _ _)
      obtain ⟨q1, q2, q3, q4⟩ := K3.ro seq _ (g.put_same _ _)
      have AB : Arr w3 w.heap.size 62 [.int .u64 s.fr, .slice s.b.ao s.b.n s.b.cap, .slice s.tag.ao s.tag.n s.tag.cap] := ((T2.trans T3).keep _ HA.out.lt (.inl HG.out.2.2)).trans HA.out
      have rB : ρ3 w.heap.size = 0 := ((T2.trans T3).role _ HA.out.lt).trans HG.out.2.2
      have nBX : w.heap.size ≠ (B3 seq).X := fun e => by rw [← e, rB] at q1; omega
      have nSX : ∀ z, sblk ao n1 z → z ≠ (B3 seq).X := fun z hz e => by have := S3.2 z hz; rw [e, q1] at this; omega
      have hc0 : some (Value.bool (g.slot seq).has) = some (Value.bool true) := by rw [ch]
      go_wp2_with fail
      have uHS : Hid (∀ V, Below w3.heap.size w3 V → V.cell? ⟨(B3 seq).X, 0, none⟩ = some (.bool true) ∧ V.cell? ⟨(B3 seq).X, 1, none⟩ = some (.string (g.slot seq).sum) ∧ (convert 35 9 (.slice ao n1 cap)).run Try.prog V = .ok (.string (strOfNums xs)) V) := fun V hV => by have K := Arr.below HX.mem hV HX.lt; exact ⟨(K.cell 0).trans hc0, K.cell 1, conv_str (S3.1.below hV)⟩
      have uE0 : Below w3.heap.size w3 w3.drew := (Below.refl _ _).drew
      refine wp_region_noPanic ?_
      refine wp_region_held_drew (S := fun V => V.cell? ⟨(B3 seq).X, 0, none⟩ = some (.bool true) ∧ V.cell? ⟨(B3 seq).X, 1, none⟩ = some (.string (g.slot seq).sum) ∧ (convert 35 9 (.slice ao n1 cap)).run Try.prog V = .ok (.string (strOfNums xs)) V) (by kernel_rfl) (uHS.out _ uE0) (fun uH0 => ?_)
      obtain ⟨uv0, hv0⟩ : ∃ v, v = w3.drew := ⟨_, rfl⟩
      rw [← hv0] at uH0 uE0 ⊢
      clear hv0
      refine hr_take_w 0 (some 27) (.pointer (some ⟨(B3 seq).X, 0, none⟩)) rfl rfl (by kernel_rfl) (by kernel_rfl) (by kernel_rfl) rfl (fun W hW => by obtain ⟨h0, h1, h2⟩ := hW; go_simp) uH0 ?_
      simp only [FL]
      refine hr_take_w 1 (some 28) (.pointer (some ⟨(B3 seq).X, 0, none⟩)) rfl rfl (by kernel_rfl) (by kernel_rfl) (by kernel_rfl) rfl (fun W hW => by obtain ⟨h0, h1, h2⟩ := hW; go_simp) uH0 ?_
      simp only [FL]
      refine hr_take_w 2 (some 29) (.pointer (some ⟨(B3 seq).X, 0, none⟩)) rfl rfl (by kernel_rfl) (by kernel_rfl) (by kernel_rfl) rfl (fun W hW => by obtain ⟨h0, h1, h2⟩ := hW; go_simp) uH0 ?_
      simp only [FL]
      refine hr_take_w 3 (some 30) (.pointer (some ⟨(B3 seq).X, 0, none⟩)) rfl rfl (by kernel_rfl) (by kernel_rfl) (by kernel_rfl) rfl (fun W hW => by obtain ⟨h0, h1, h2⟩ := hW; go_simp) uH0 ?_
      simp only [FL]
      refine hr_take_w 4 (some 31) (.bool true) rfl rfl (by kernel_rfl) (by kernel_rfl) (by kernel_rfl) rfl (fun W hW => by obtain ⟨h0, h1, h2⟩ := hW; go_simp) uH0 ?_
      simp only [FL]
      refine hr_take_w 5 (some 32) (.bool true) rfl rfl (by kernel_rfl) (by kernel_rfl) (by kernel_rfl) rfl (fun W hW => by obtain ⟨h0, h1, h2⟩ := hW; go_simp) uH0 ?_
      simp only [FL]
      refine hr_take_w 6 (some 33) (.pointer (some ⟨(B3 seq).X, 0, none⟩)) rfl rfl (by kernel_rfl) (by kernel_rfl) (by kernel_rfl) rfl (fun W hW => by obtain ⟨h0, h1, h2⟩ := hW; go_simp) uH0 ?_
      simp only [FL]
      refine hr_take_w 7 (some 34) (.pointer (some ⟨(B3 seq).X, 0, none⟩)) rfl rfl (by kernel_rfl) (by kernel_rfl) (by kernel_rfl) rfl (fun W hW => by obtain ⟨h0, h1, h2⟩ := hW; go_simp) uH0 ?_
      simp only [FL]
      refine hr_take_w 8 (some 35) (.pointer (some ⟨(B3 seq).X, 0, none⟩)) rfl rfl (by kernel_rfl) (by kernel_rfl) (by kernel_rfl) rfl (fun W hW => by obtain ⟨h0, h1, h2⟩ := hW; go_simp) uH0 ?_
      simp only [FL]
      refine hr_take_w 9 (some 36) (.pointer (some ⟨(B3 seq).X, 1, none⟩)) rfl rfl (by kernel_rfl) (by kernel_rfl) (by kernel_rfl) rfl (fun W hW => by obtain ⟨h0, h1, h2⟩ := hW; go_simp) uH0 ?_
      simp only [FL]
      refine hr_take_w 10 (some 37) (.string (g.slot seq).sum) rfl rfl (by kernel_rfl) (by kernel_rfl) (by kernel_rfl) rfl (fun W hW => by obtain ⟨h0, h1, h2⟩ := hW; go_simp) uH0 ?_
      simp only [FL]
      refine hr_take_w 11 (some 38) (.slice ao n1 cap) rfl rfl (by kernel_rfl) (by kernel_rfl) (by kernel_rfl) rfl (fun W hW => by obtain ⟨h0, h1, h2⟩ := hW; go_simp) uH0 ?_
      simp only [FL]
      refine hr_take_w 12 (some 39) (.string (strOfNums xs)) rfl rfl (by kernel_rfl) (by kernel_rfl) (by kernel_rfl) rfl (fun W hW => by obtain ⟨h0, h1, h2⟩ := hW; go_simp) uH0 ?_
      simp only [FL]
      refine hr_take_w 13 (some 40) (.bool false) rfl rfl (by kernel_rfl) (by kernel_rfl) (by kernel_rfl) rfl (fun W hW => by obtain ⟨h0, h1, h2⟩ := hW; go_simp) uH0 ?_
      simp only [FL]
      refine hr_take_w 14 (some 41) (.bool false) rfl rfl (by kernel_rfl) (by kernel_rfl) (by kernel_rfl) rfl (fun W hW => by obtain ⟨h0, h1, h2⟩ := hW; go_simp) uH0 ?_
      simp only [FL]
      refine wpAnyH_done (by kernel_rfl) ?_ _
      refine NoPanic.normal ?_
      have c0 := uH0.1
      go_wp2
      go_ret
      obtain ⟨K4, T4⟩ := K3.below uE0
      exact ⟨n3, F3, B3, _, rfl, K4, TT.trans T4, hn3⟩
    · have hv : Hid (preG g s.v seq (strOfNums xs) = (g.put seq (g.slot seq), 18)) := (if_neg cj2).trans ((if_neg cp).trans ((if_pos ch).trans (by rw [if_neg ce])))
      have te : ((g.slot seq).sum.toList == (strOfNums xs).toList) = false := toL_ne ce
      rw [hv.out]
      clear h b1 AX K1 T1 R1 sok sr S Sr lz vz hF cp ce cj2
      unfold SA.val
      go_enter Try.func27, Try.ntmps27
      go_wp2_with fail
      rw [← hW1]
      clear hW1
      go_wp2_with (go_at_call 48; refine CJ.mono ?_; rintro e w1 ⟨rfl, hw1⟩; have hw1 := hw1.symm; subst hw1)
      have tHS : Hid (∀ V, Below W1.heap.size W1 V → V.cell? ⟨w.heap.size, 0, none⟩ = some (.int .u64 s.fr)) := fun V hV => (Arr.below HA.out hV HA.out.lt).cell 0
      have tE0 : Below W1.heap.size W1 W1.drew := (Below.refl _ _).drew
      refine wp_region_noPanic ?_
      refine wp_region_held_drew (S := fun V => V.cell? ⟨w.heap.size, 0, none⟩ = some (.int .u64 s.fr)) (by kernel_rfl) (tHS.out _ tE0) (fun tH0 => ?_)
      obtain ⟨tv0, hv0⟩ : ∃ v, v = W1.drew := ⟨_, rfl⟩
      rw [← hv0] at tH0 tE0 ⊢
      clear hv0
      refine hr_take_w 0 (some 19) (.pointer (some ⟨w.heap.size, 0, none⟩)) rfl rfl (by kernel_rfl) (by kernel_rfl) (by kernel_rfl) rfl (fun W hW => by go_simp) tH0 ?_
      simp only [FL]
      refine hr_take_w 1 (some 20) (.int .u64 s.fr) rfl rfl (by kernel_rfl) (by kernel_rfl) (by kernel_rfl) rfl (fun W hW => by go_simp) tH0 ?_
      simp only [FL]
      refine hr_take_w 2 (some 21) (.pointer (some ⟨L, 0, none⟩)) rfl rfl (by kernel_rfl) (by kernel_rfl) (by kernel_rfl) rfl (fun W hW => by go_simp) tH0 ?_
      simp only [FL]
      refine hr_call_w 3 (some 22) 49 #[.pointer (some ⟨L, 0, none⟩)] rfl rfl (by kernel_rfl) rfl (by go_simp) (fun v w' => v = .int .u64 (prF g.view g.f : Nat) ∧ Below tv0.heap.size tv0 w') ((primary_log tv0 L g.f g.low g.view M (HG.out.1.lc.below tE0) HQ.out.1).mono (by
        rintro e w' ⟨rfl, C⟩
        exact ⟨_, rfl, rfl, C⟩)) ?_
      rintro v tv1 ⟨rfl, tC0⟩
      have tE1 := tE0.trans (tC0.mono tE0.size)
      have tH1 := tHS.out tv1 tE1
      refine ⟨tH1, ?_⟩
      simp only [FL]
      refine hr_take_w 4 (some 23) (.bool false) rfl rfl (by kernel_rfl) (by kernel_rfl) (by kernel_rfl) rfl (fun W hW => by go_simp; exact tp.out) tH1 ?_
      simp only [FL]
      refine wpAnyH_done (by kernel_rfl) ?_ _
      refine NoPanic.normal ?_
      obtain ⟨K2, T2⟩ := HG.out.1.below tE1
      have CS := slot_any tv1 base L M n g F B _ K2 hn seq (jdgS_win cj)
      go_wp2_with (go_at_call 50; refine CS.mono ?_; rintro e w3 ⟨n3, F3, B3, ρ3, rfl, K3, T3, hn3⟩)
      have TT := (HG.out.2.1.trans T2).trans T3
      have sok3 := TT.sa HS.out.1.1 HS.out.1.2
      have S3 := TT.sl HS.out.2.1 HS.out.2.2
      obtain ⟨-, HX⟩ := K3.here seq _ (g.put_same _ _)
      obtain ⟨q1, q2, q3, q4⟩ := K3.ro seq _ (g.put_same _ _)
      have AB : Arr w3 w.heap.size 62 [.int .u64 s.fr, .slice s.b.ao s.b.n s.b.cap, .slice s.tag.ao s.tag.n s.tag.cap] := ((T2.trans T3).keep _ HA.out.lt (.inl HG.out.2.2)).trans HA.out
      have rB : ρ3 w.heap.size = 0 := ((T2.trans T3).role _ HA.out.lt).trans HG.out.2.2
      have nBX : w.heap.size ≠ (B3 seq).X := fun e => by rw [← e, rB] at q1; omega
      have nSX : ∀ z, sblk ao n1 z → z ≠ (B3 seq).X := fun z hz e => by have := S3.2 z hz; rw [e, q1] at this; omega
      have hc0 : some (Value.bool (g.slot seq).has) = some (Value.bool true) := by rw [ch]
      go_wp2_with fail
      have uHS : Hid (∀ V, Below w3.heap.size w3 V → V.cell? ⟨(B3 seq).X, 0, none⟩ = some (.bool true) ∧ V.cell? ⟨(B3 seq).X, 1, none⟩ = some (.string (g.slot seq).sum) ∧ (convert 35 9 (.slice ao n1 cap)).run Try.prog V = .ok (.string (strOfNums xs)) V) := fun V hV => by have K := Arr.below HX.mem hV HX.lt; exact ⟨(K.cell 0).trans hc0, K.cell 1, conv_str (S3.1.below hV)⟩
      have uE0 : Below w3.heap.size w3 w3.drew := (Below.refl _ _).drew
      refine wp_region_noPanic ?_
      refine wp_region_held_drew (S := fun V => V.cell? ⟨(B3 seq).X, 0, none⟩ = some (.bool true) ∧ V.cell? ⟨(B3 seq).X, 1, none⟩ = some (.string (g.slot seq).sum) ∧ (convert 35 9 (.slice ao n1 cap)).run Try.prog V = .ok (.string (strOfNums xs)) V) (by kernel_rfl) (uHS.out _ uE0) (fun uH0 => ?_)
      obtain ⟨uv0, hv0⟩ : ∃ v, v = w3.drew := ⟨_, rfl⟩
      rw [← hv0] at uH0 uE0 ⊢
      clear hv0
      refine hr_take_w 0 (some 27) (.pointer (some ⟨(B3 seq).X, 0, none⟩)) rfl rfl (by kernel_rfl) (by kernel_rfl) (by kernel_rfl) rfl (fun W hW => by obtain ⟨h0, h1, h2⟩ := hW; go_simp) uH0 ?_
      simp only [FL]
      refine hr_take_w 1 (some 28) (.pointer (some ⟨(B3 seq).X, 0, none⟩)) rfl rfl (by kernel_rfl) (by kernel_rfl) (by kernel_rfl) rfl (fun W hW => by obtain ⟨h0, h1, h2⟩ := hW; go_simp) uH0 ?_
      simp only [FL]
      refine hr_take_w 2 (some 29) (.pointer (some ⟨(B3 seq).X, 0, none⟩)) rfl rfl (by kernel_rfl) (by kernel_rfl) (by kernel_rfl) rfl (fun W hW => by obtain ⟨h0, h1, h2⟩ := hW; go_simp) uH0 ?_
      simp only [FL]
      refine hr_take_w 3 (some 30) (.pointer (some ⟨(B3 seq).X, 0, none⟩)) rfl rfl (by kernel_rfl) (by kernel_rfl) (by kernel_rfl) rfl (fun W hW => by obtain ⟨h0, h1, h2⟩ := hW; go_simp) uH0 ?_
      simp only [FL]
      refine hr_take_w 4 (some 31) (.bool true) rfl rfl (by kernel_rfl) (by kernel_rfl) (by kernel_rfl) rfl (fun W hW => by obtain ⟨h0, h1, h2⟩ := hW; go_simp) uH0 ?_
      simp only [FL]
      refine hr_take_w 5 (some 32) (.bool true) rfl rfl (by kernel_rfl) (by kernel_rfl) (by kernel_rfl) rfl (fun W hW => by obtain ⟨h0, h1, h2⟩ := hW; go_simp) uH0 ?_
      simp only [FL]
      refine hr_take_w 6 (some 33) (.pointer (some ⟨(B3 seq).X, 0, none⟩)) rfl rfl (by kernel_rfl) (by kernel_rfl) (by kernel_rfl) rfl (fun W hW => by obtain ⟨h0, h1, h2⟩ := hW; go_simp) uH0 ?_
      simp only [FL]
      refine hr_take_w 7 (some 34) (.pointer (some ⟨(B3 seq).X, 0, none⟩)) rfl rfl (by kernel_rfl) (by kernel_rfl) (by kernel_rfl) rfl (fun W hW => by obtain ⟨h0, h1, h2⟩ := hW; go_simp) uH0 ?_
      simp only [FL]
      refine hr_take_w 8 (some 35) (.pointer (some ⟨(B3 seq).X, 0, none⟩)) rfl rfl (by kernel_rfl) (by kernel_rfl) (by kernel_rfl) rfl (fun W hW => by obtain ⟨h0, h1, h2⟩ := hW; go_simp) uH0 ?_
      simp only [FL]
      refine hr_take_w 9 (some 36) (.pointer (some ⟨(B3 seq).X, 1, none⟩)) rfl rfl (by kernel_rfl) (by kernel_rfl) (by kernel_rfl) rfl (fun W hW => by obtain ⟨h0, h1, h2⟩ := hW; go_simp) uH0 ?_
      simp only [FL]
      refine hr_take_w 10 (some 37) (.string (g.slot seq).sum) rfl rfl (by kernel_rfl) (by kernel_rfl) (by kernel_rfl) rfl (fun W hW => by obtain ⟨h0, h1, h2⟩ := hW; go_simp) uH0 ?_
      simp only [FL]
      refine hr_take_w 11 (some 38) (.slice ao n1 cap) rfl rfl (by kernel_rfl) (by kernel_rfl) (by kernel_rfl) rfl (fun W hW => by obtain ⟨h0, h1, h2⟩ := hW; go_simp) uH0 ?_
      simp only [FL]
      refine hr_take_w 12 (some 39) (.string (strOfNums xs)) rfl rfl (by kernel_rfl) (by kernel_rfl) (by kernel_rfl) rfl (fun W hW => by obtain ⟨h0, h1, h2⟩ := hW; go_simp) uH0 ?_
      simp only [FL]
      refine hr_take_w 13 (some 40) (.bool true) rfl rfl (by kernel_rfl) (by kernel_rfl) (by kernel_rfl) rfl (fun W hW => by obtain ⟨h0, h1, h2⟩ := hW; go_simp) uH0 ?_
      simp only [FL]
      refine hr_take_w 14 (some 41) (.bool true) rfl rfl (by kernel_rfl) (by kernel_rfl) (by kernel_rfl) rfl (fun W hW => by obtain ⟨h0, h1, h2⟩ := hW; go_simp) uH0 ?_
      simp only [FL]
      refine wpAnyH_done (by kernel_rfl) ?_ _
      refine NoPanic.normal ?_
      have c0 := uH0.1
      go_wp2
      go_ret
      obtain ⟨K4, T4⟩ := K3.below uE0
      exact ⟨n3, F3, B3, _, rfl, K4, TT.trans T4, hn3⟩
  | false =>
    have hv : Hid (preG g s.v seq (strOfNums xs) = (g.put seq (certS g.f g.view { g.slot seq with has := true, sum := strOfNums xs, pre := s.v }), 0)) := (if_neg cj2).trans ((if_neg cp).trans (if_neg (by rw [ch]; simp)))
    rw [hv.out]
    clear h b1 AX K1 T1 R1 sok sr S Sr lz vz hF cp cj2
    unfold SA.val
    go_enter Try.func27, Try.ntmps27
    go_wp2_with fail
    rw [← hW1]
    clear hW1
    go_wp2_with (go_at_call 48; refine CJ.mono ?_; rintro e w1 ⟨rfl, hw1⟩; have hw1 := hw1.symm; subst hw1)
    have tHS : Hid (∀ V, Below W1.heap.size W1 V → V.cell? ⟨w.heap.size, 0, none⟩ = some (.int .u64 s.fr)) := fun V hV => (Arr.below HA.out hV HA.out.lt).cell 0
    have tE0 : Below W1.heap.size W1 W1.drew := (Below.refl _ _).drew
    refine wp_region_noPanic ?_
    refine wp_region_held_drew (S := fun V => V.cell? ⟨w.heap.size, 0, none⟩ = some (.int .u64 s.fr)) (by kernel_rfl) (tHS.out _ tE0) (fun tH0 => ?_)
    obtain ⟨tv0, hv0⟩ : ∃ v, v = W1.drew := ⟨_, rfl⟩
    rw [← hv0] at tH0 tE0 ⊢
    clear hv0
    refine hr_take_w 0 (some 19) (.pointer (some ⟨w.heap.size, 0, none⟩)) rfl rfl (by kernel_rfl) (by kernel_rfl) (by kernel_rfl) rfl (fun W hW => by go_simp) tH0 ?_
    simp only [FL]
    refine hr_take_w 1 (some 20) (.int .u64 s.fr) rfl rfl (by kernel_rfl) (by kernel_rfl) (by kernel_rfl) rfl (fun W hW => by go_simp) tH0 ?_
    simp only [FL]
    refine hr_take_w 2 (some 21) (.pointer (some ⟨L, 0, none⟩)) rfl rfl (by kernel_rfl) (by kernel_rfl) (by kernel_rfl) rfl (fun W hW => by go_simp) tH0 ?_
    simp only [FL]
    refine hr_call_w 3 (some 22) 49 #[.pointer (some ⟨L, 0, none⟩)] rfl rfl (by kernel_rfl) rfl (by go_simp) (fun v w' => v = .int .u64 (prF g.view g.f : Nat) ∧ Below tv0.heap.size tv0 w') ((primary_log tv0 L g.f g.low g.view M (HG.out.1.lc.below tE0) HQ.out.1).mono (by
      rintro e w' ⟨rfl, C⟩
      exact ⟨_, rfl, rfl, C⟩)) ?_
    rintro v tv1 ⟨rfl, tC0⟩
    have tE1 := tE0.trans (tC0.mono tE0.size)
    have tH1 := tHS.out tv1 tE1
    refine ⟨tH1, ?_⟩
    simp only [FL]
    refine hr_take_w 4 (some 23) (.bool false) rfl rfl (by kernel_rfl) (by kernel_rfl) (by kernel_rfl) rfl (fun W hW => by go_simp; exact tp.out) tH1 ?_
    simp only [FL]
    refine wpAnyH_done (by kernel_rfl) ?_ _
    refine NoPanic.normal ?_
    obtain ⟨K2, T2⟩ := HG.out.1.below tE1
    have CS := slot_any tv1 base L M n g F B _ K2 hn seq (jdgS_win cj)
    go_wp2_with (go_at_call 50; refine CS.mono ?_; rintro e w3 ⟨n3, F3, B3, ρ3, rfl, K3, T3, hn3⟩)
    have TT := (HG.out.2.1.trans T2).trans T3
    have sok3 := TT.sa HS.out.1.1 HS.out.1.2
    have S3 := TT.sl HS.out.2.1 HS.out.2.2
    obtain ⟨-, HX⟩ := K3.here seq _ (g.put_same _ _)
    obtain ⟨q1, q2, q3, q4⟩ := K3.ro seq _ (g.put_same _ _)
    have AB : Arr w3 w.heap.size 62 [.int .u64 s.fr, .slice s.b.ao s.b.n s.b.cap, .slice s.tag.ao s.tag.n s.tag.cap] := ((T2.trans T3).keep _ HA.out.lt (.inl HG.out.2.2)).trans HA.out
    have rB : ρ3 w.heap.size = 0 := ((T2.trans T3).role _ HA.out.lt).trans HG.out.2.2
    have nBX : w.heap.size ≠ (B3 seq).X := fun e => by rw [← e, rB] at q1; omega
    have nSX : ∀ z, sblk ao n1 z → z ≠ (B3 seq).X := fun z hz e => by have := S3.2 z hz; rw [e, q1] at this; omega
    have hc0 : some (Value.bool (g.slot seq).has) = some (Value.bool false) := by rw [ch]
    go_wp2_with fail
    have uHS : Hid (∀ V, Below w3.heap.size w3 V → V.cell? ⟨(B3 seq).X, 0, none⟩ = some (.bool false) ∧ V.cell? ⟨(B3 seq).X, 1, none⟩ = some (.string (g.slot seq).sum) ∧ (convert 35 9 (.slice ao n1 cap)).run Try.prog V = .ok (.string (strOfNums xs)) V) := fun V hV => by have K := Arr.below HX.mem hV HX.lt; exact ⟨(K.cell 0).trans hc0, K.cell 1, conv_str (S3.1.below hV)⟩
    have uE0 : Below w3.heap.size w3 w3.drew := (Below.refl _ _).drew
    refine wp_region_noPanic ?_
    refine wp_region_held_drew (S := fun V => V.cell? ⟨(B3 seq).X, 0, none⟩ = some (.bool false) ∧ V.cell? ⟨(B3 seq).X, 1, none⟩ = some (.string (g.slot seq).sum) ∧ (convert 35 9 (.slice ao n1 cap)).run Try.prog V = .ok (.string (strOfNums xs)) V) (by kernel_rfl) (uHS.out _ uE0) (fun uH0 => ?_)
    obtain ⟨uv0, hv0⟩ : ∃ v, v = w3.drew := ⟨_, rfl⟩
    rw [← hv0] at uH0 uE0 ⊢
    clear hv0
    refine hr_take_w 0 (some 27) (.pointer (some ⟨(B3 seq).X, 0, none⟩)) rfl rfl (by kernel_rfl) (by kernel_rfl) (by kernel_rfl) rfl (fun W hW => by obtain ⟨h0, h1, h2⟩ := hW; go_simp) uH0 ?_
    simp only [FL]
    refine hr_take_w 1 (some 28) (.pointer (some ⟨(B3 seq).X, 0, none⟩)) rfl rfl (by kernel_rfl) (by kernel_rfl) (by kernel_rfl) rfl (fun W hW => by obtain ⟨h0, h1, h2⟩ := hW; go_simp) uH0 ?_
    simp only [FL]
    refine hr_take_w 2 (some 29) (.pointer (some ⟨(B3 seq).X, 0, none⟩)) rfl rfl (by kernel_rfl) (by kernel_rfl) (by kernel_rfl) rfl (fun W hW => by obtain ⟨h0, h1, h2⟩ := hW; go_simp) uH0 ?_
    simp only [FL]
    refine hr_take_w 3 (some 30) (.pointer (some ⟨(B3 seq).X, 0, none⟩)) rfl rfl (by kernel_rfl) (by kernel_rfl) (by kernel_rfl) rfl (fun W hW => by obtain ⟨h0, h1, h2⟩ := hW; go_simp) uH0 ?_
    simp only [FL]
    refine hr_take_w 4 (some 31) (.bool false) rfl rfl (by kernel_rfl) (by kernel_rfl) (by kernel_rfl) rfl (fun W hW => by obtain ⟨h0, h1, h2⟩ := hW; go_simp) uH0 ?_
    simp only [FL]
    refine hr_take_w 5 (some 32) (.bool false) rfl rfl (by kernel_rfl) (by kernel_rfl) (by kernel_rfl) rfl (fun W hW => by obtain ⟨h0, h1, h2⟩ := hW; go_simp) uH0 ?_
    simp only [FL]
    refine hr_none 6 (some 33) rfl rfl (by kernel_rfl) (by kernel_rfl) (by kernel_rfl) rfl uH0 ?_
    simp only [FL]
    refine hr_none 7 (some 34) rfl rfl (by kernel_rfl) (by kernel_rfl) (by kernel_rfl) rfl uH0 ?_
    simp only [FL]
    refine hr_none 8 (some 35) rfl rfl (by kernel_rfl) (by kernel_rfl) (by kernel_rfl) rfl uH0 ?_
    simp only [FL]
    refine hr_none 9 (some 36) rfl rfl (by kernel_rfl) (by kernel_rfl) (by kernel_rfl) rfl uH0 ?_
    simp only [FL]
    refine hr_none 10 (some 37) rfl rfl (by kernel_rfl) (by kernel_rfl) (by kernel_rfl) rfl uH0 ?_
    simp only [FL]
    refine hr_none 11 (some 38) rfl rfl (by kernel_rfl) (by kernel_rfl) (by kernel_rfl) rfl uH0 ?_
    simp only [FL]
    refine hr_none 12 (some 39) rfl rfl (by kernel_rfl) (by kernel_rfl) (by kernel_rfl) rfl uH0 ?_
    simp only [FL]
    refine hr_none 13 (some 40) rfl rfl (by kernel_rfl) (by kernel_rfl) (by kernel_rfl) rfl uH0 ?_
    simp only [FL]
    refine hr_take_w 14 (some 41) (.bool false) rfl rfl (by kernel_rfl) (by kernel_rfl) (by kernel_rfl) rfl (fun W hW => by obtain ⟨h0, h1, h2⟩ := hW; go_simp) uH0 ?_
    simp only [FL]
    refine wpAnyH_done (by kernel_rfl) ?_ _
    refine NoPanic.normal ?_
    have c0 := uH0.1
    go_wp2_with fail
    have HK : Hid (∀ V, But uv0 (B3 seq).X V → V.cell? ⟨w.heap.size, 0, none⟩ = some (.int .u64 s.fr) ∧ V.cell? ⟨w.heap.size, 1, none⟩ = some (.slice s.b.ao s.b.n s.b.cap) ∧ V.cell? ⟨w.heap.size, 2, none⟩ = some (.slice s.tag.ao s.tag.n s.tag.cap) ∧ (convert 35 9 (.slice ao n1 cap)).run Try.prog V = .ok (.string (strOfNums xs)) V) := fun V hV => by
      have K := AB.below uE0 AB.lt
      have hl := Nat.lt_of_lt_of_le AB.lt uE0.size
      exact ⟨(hV.cell hl nBX).trans (K.cell 0), (hV.cell hl nBX).trans (K.cell 1), (hV.cell hl nBX).trans (K.cell 2), conv_str (hV.sl (S3.1.below uE0) nSX)⟩
    have xE00 : Below uv0.heap.size uv0 uv0.drew := (Below.refl _ _).drew
    refine wp_region_noPanic ?_
    refine wp_region_held_drew (S := fun V => But uv0 (B3 seq).X V) (by kernel_rfl) (But.of xE00) (fun xH0 => ?_)
    obtain ⟨xv0, hv0⟩ : ∃ v, v = uv0.drew := ⟨_, rfl⟩
    rw [← hv0] at xE00 xH0 ⊢
    clear hv0
    refine hr_take_w 0 (some 48) (.pointer (some ⟨(B3 seq).X, 0, none⟩)) rfl rfl (by kernel_rfl) (by kernel_rfl) (by kernel_rfl) rfl (fun W hW => by obtain ⟨h0, h1, h2, h3⟩ := HK.out W hW; go_simp) xH0 ?_
    simp only [FL]
    refine hr_take_w 1 (some 49) (.pointer (some ⟨(B3 seq).X, 0, none⟩)) rfl rfl (by kernel_rfl) (by kernel_rfl) (by kernel_rfl) rfl (fun W hW => by obtain ⟨h0, h1, h2, h3⟩ := HK.out W hW; go_simp) xH0 ?_
    simp only [FL]
    refine hr_take_w 2 (some 50) (.pointer (some ⟨(B3 seq).X, 0, none⟩)) rfl rfl (by kernel_rfl) (by kernel_rfl) (by kernel_rfl) rfl (fun W hW => by obtain ⟨h0, h1, h2, h3⟩ := HK.out W hW; go_simp) xH0 ?_
    simp only [FL]
    refine hr_take_w 3 (some 51) (.slice ao n1 cap) rfl rfl (by kernel_rfl) (by kernel_rfl) (by kernel_rfl) rfl (fun W hW => by obtain ⟨h0, h1, h2, h3⟩ := HK.out W hW; go_simp) xH0 ?_
    simp only [FL]
    refine hr_take_w 4 (some 52) (.string (strOfNums xs)) rfl rfl (by kernel_rfl) (by kernel_rfl) (by kernel_rfl) rfl (fun W hW => by obtain ⟨h0, h1, h2, h3⟩ := HK.out W hW; go_simp) xH0 ?_
    simp only [FL]
    refine hr_take_w 5 (some 53) (.agg #[.int .u64 s.fr, .slice s.b.ao s.b.n s.b.cap, .slice s.tag.ao s.tag.n s.tag.cap]) rfl rfl (by kernel_rfl) (by kernel_rfl) (by kernel_rfl) rfl (fun W hW => by obtain ⟨h0, h1, h2, h3⟩ := HK.out W hW; go_simp) xH0 ?_
    simp only [FL]
    have sok4 := sok3.1.below (uE0.trans (xE00.mono uE0.size))
    refine hr_call_w 6 (some 54) 51 #[.agg #[.int .u64 s.fr, .slice s.b.ao s.b.n s.b.cap, .slice s.tag.ao s.tag.n s.tag.cap]] rfl rfl (by kernel_rfl) rfl (by go_simp) (fun v w' => ∃ ro rc so sc, v = .agg #[.int .u64 s.fr, .slice ro s.b.n rc, .slice so s.tag.n sc] ∧ SA.ok ⟨s.fr, ⟨ro, s.b.n, rc, s.b.xs⟩, ⟨so, s.tag.n, sc, s.tag.xs⟩⟩ w' ∧ Below xv0.heap.size xv0 w' ∧ ∀ z, SA.blk ⟨s.fr, ⟨ro, s.b.n, rc, s.b.xs⟩, ⟨so, s.tag.n, sc, s.tag.xs⟩⟩ z → xv0.heap.size ≤ z) ((clone15 xv0 s sok4 sz).mono (by
      rintro e w' ⟨ro, rc, so, sc, rfl, h1, h2, h3, h4, h5⟩
      exact ⟨_, rfl, ro, rc, so, sc, rfl, ⟨HQ.out.2, h1, h2⟩, h3, fun z hz => hz.elim (h4 z) (h5 z)⟩)) ?_
    rintro v xv1 ⟨ro, rc, so, sc, rfl, OK1, xC1, N1⟩
    have xE1 : Below uv0.heap.size uv0 xv1 := xE00.trans (xC1.mono xE00.size)
    have xH1 := But.of (X := (B3 seq).X) xE1
    have A1 := Arr.below HX.mem (uE0.trans (xE1.mono uE0.size)) HX.lt
    have x0 : xv1.cell? ⟨(B3 seq).X, 0, none⟩ = some (.bool (g.slot seq).has) := A1.cell 0
    have y0 := A1.free 0
    refine ⟨xH1, ?_⟩
    simp only [FL]
    refine hr_take_w 7 (some 55) (.pointer (some ⟨(B3 seq).X, 0, none⟩)) rfl rfl (by kernel_rfl) (by kernel_rfl) (by kernel_rfl) rfl (fun W hW => by obtain ⟨h0, h1, h2, h3⟩ := HK.out W hW; go_simp) xH1 ?_
    simp only [FL]
    refine hr_take_w 8 (some 56) (.pointer (some ⟨(B3 seq).X, 0, none⟩)) rfl rfl (by kernel_rfl) (by kernel_rfl) (by kernel_rfl) rfl (fun W hW => by obtain ⟨h0, h1, h2, h3⟩ := HK.out W hW; go_simp) xH1 ?_
    simp only [FL]
    refine hr_take_w 9 (some 57) (.pointer (some ⟨(B3 seq).X, 0, none⟩)) rfl rfl (by kernel_rfl) (by kernel_rfl) (by kernel_rfl) rfl (fun W hW => by obtain ⟨h0, h1, h2, h3⟩ := HK.out W hW; go_simp) xH1 ?_
    simp only [FL]
    have g0 := But.grown xH1 (grown_set (bel_grown (Below.refl _ xv1) (some (B3 seq).X)) 0 (.bool true))
    have A2 := A1.set 0 (.bool true)
    obtain ⟨xv2, hxv2⟩ : ∃ v, v = xv1.setCell ⟨(B3 seq).X, 0, none⟩ (.bool true) := ⟨_, rfl⟩
    have G2 : xv1.grownBy xv2 (some (B3 seq).X) := by rw [hxv2]; exact grown_set (bel_grown (Below.refl _ xv1) (some (B3 seq).X)) 0 (.bool true)
    rw [← hxv2] at g0 A2
    refine hr_skip 10 none (w' := xv2) rfl rfl (by kernel_rfl) rfl (by rw [hxv2]; go_simp) g0 ?_
    simp only [Act.put]
    refine hr_take_w 11 (some 58) (.pointer (some ⟨(B3 seq).X, 0, none⟩)) rfl rfl (by kernel_rfl) (by kernel_rfl) (by kernel_rfl) rfl (fun W hW => by obtain ⟨h0, h1, h2, h3⟩ := HK.out W hW; go_simp) g0 ?_
    simp only [FL]
    refine hr_take_w 12 (some 59) (.pointer (some ⟨(B3 seq).X, 0, none⟩)) rfl rfl (by kernel_rfl) (by kernel_rfl) (by kernel_rfl) rfl (fun W hW => by obtain ⟨h0, h1, h2, h3⟩ := HK.out W hW; go_simp) g0 ?_
    simp only [FL]
    refine hr_take_w 13 (some 60) (.pointer (some ⟨(B3 seq).X, 1, none⟩)) rfl rfl (by kernel_rfl) (by kernel_rfl) (by kernel_rfl) rfl (fun W hW => by obtain ⟨h0, h1, h2, h3⟩ := HK.out W hW; go_simp) g0 ?_
    simp only [FL]
    have x1 : xv2.cell? ⟨(B3 seq).X, 1, none⟩ = some (.string (g.slot seq).sum) := A2.cell 1
    have y1 := A2.free 1
    have g1 := But.grown g0 (grown_set (bel_grown (Below.refl _ xv2) (some (B3 seq).X)) 1 (.string (strOfNums xs)))
    have A3 := A2.set 1 (.string (strOfNums xs))
    obtain ⟨xv3, hxv3⟩ : ∃ v, v = xv2.setCell ⟨(B3 seq).X, 1, none⟩ (.string (strOfNums xs)) := ⟨_, rfl⟩
    have G3 : xv2.grownBy xv3 (some (B3 seq).X) := by rw [hxv3]; exact grown_set (bel_grown (Below.refl _ xv2) (some (B3 seq).X)) 1 (.string (strOfNums xs))
    rw [← hxv3] at g1 A3
    refine hr_skip 14 none (w' := xv3) rfl rfl (by kernel_rfl) rfl (by rw [hxv3]; clear hxv3 hxv2; go_simp) g1 ?_
    simp only [Act.put]
    refine hr_take_w 15 (some 61) (.pointer (some ⟨(B3 seq).X, 0, none⟩)) rfl rfl (by kernel_rfl) (by kernel_rfl) (by kernel_rfl) rfl (fun W hW => by obtain ⟨h0, h1, h2, h3⟩ := HK.out W hW; go_simp) g1 ?_
    simp only [FL]
    refine hr_take_w 16 (some 62) (.pointer (some ⟨(B3 seq).X, 0, none⟩)) rfl rfl (by kernel_rfl) (by kernel_rfl) (by kernel_rfl) rfl (fun W hW => by obtain ⟨h0, h1, h2, h3⟩ := HK.out W hW; go_simp) g1 ?_
    simp only [FL]
    refine hr_take_w 17 (some 63) (.pointer (some ⟨(B3 seq).X, 2, none⟩)) rfl rfl (by kernel_rfl) (by kernel_rfl) (by kernel_rfl) rfl (fun W hW => by obtain ⟨h0, h1, h2, h3⟩ := HK.out W hW; go_simp) g1 ?_
    simp only [FL]
    obtain ⟨st, G4⟩ := store_part A3 (o := 2) (cs := [.int .u64 s.fr, .slice ro s.b.n rc, .slice so s.tag.n sc]) sgsz (Nat.le_add_right 5 6) (fun u hu => by simp only [List.mem_cons, List.not_mem_nil, or_false] at hu; rcases hu with rfl | rfl | rfl <;> rfl)
    have A4 := A3.setAll [.int .u64 s.fr, .slice ro s.b.n rc, .slice so s.tag.n sc] _ 2 _
    have g2 := But.grown g1 G4
    refine hr_skip 18 none (w' := xv3.setCells (B3 seq).X 2 [.int .u64 s.fr, .slice ro s.b.n rc, .slice so s.tag.n sc]) rfl rfl (by kernel_rfl) rfl (exec_store rfl rfl rfl st) g2 ?_
    simp only [Act.put]
    refine wpAnyH_done (by kernel_rfl) ?_ _
    refine NoPanic.normal ?_
    obtain ⟨K4, T4⟩ := K3.below uE0
    have hbs := K4.hbs
    have bX : base ≤ (B3 seq).X := K3.base_of (by rw [q1]; omega)
    have e4 : Below base uv0 (xv3.setCells (B3 seq).X 2 [.int .u64 s.fr, .slice ro s.b.n rc, .slice so s.tag.n sc]) := (((xE1.mono hbs).grown G2 (Nat.le_trans hbs xE1.size) (fun j hj => by cases hj; exact bX)).grown G3 (Nat.le_trans (Nat.le_trans hbs xE1.size) G2.size) (fun j hj => by cases hj; exact bX)).grown G4 (Nat.le_trans (Nat.le_trans (Nat.le_trans hbs xE1.size) G2.size) G3.size) (fun j hj => by cases hj; exact bX)
    have OK5 : SA.ok ⟨s.fr, ⟨ro, s.b.n, rc, s.b.xs⟩, ⟨so, s.tag.n, sc, s.tag.xs⟩⟩ (xv3.setCells (B3 seq).X 2 [.int .u64 s.fr, .slice ro s.b.n rc, .slice so s.tag.n sc]) := by
      refine elS_fine.kept _ xv1 _ OK1 fun z hz => ?_
      have h1 := N1 z hz
      have h2 := HX.lt
      have h3 := uE0.size
      have h4 := xE00.size
      have hl : z < xv1.heap.size := elS_fine.lt _ xv1 z OK1 hz
      have hne : some z ≠ some (B3 seq).X := fun e => by have := Option.some.inj e; omega
      exact ((G4.block z (Nat.lt_of_lt_of_le hl (Nat.le_trans G2.size G3.size)) hne).trans (G3.block z (Nat.lt_of_lt_of_le hl G2.size) hne)).trans (G2.block z hl hne)
    obtain ⟨K5, T5⟩ := K4.putPre (s := ⟨s.fr, ⟨ro, s.b.n, rc, s.b.xs⟩, ⟨so, s.tag.n, sc, s.tag.xs⟩⟩) (sum := strOfNums xs) (g.put_same _ _) A4 e4 g2 OK5 (fun z hz => Nat.le_trans xE00.size (N1 z hz)) (by rw [strOfNums_size, S3.1.len]; exact n1z) sz
    rw [g.put_put] at K5
    have CC := certify_any _ base L M n3 _ F3 _ _ K5 seq _ (g.put_same _ _)
    rw [if_pos rfl] at CC
    clear x0 y0 x1 y1 hxv2 hxv3
    go_wp2_with (go_at_call 52; refine CC.mono ?_; rintro e w6 ⟨B6, ρ6, rfl, K6, T6⟩)
    go_ret
    rw [g.put_put] at K6
    exact ⟨n3, F3, B6, ρ6, rfl, K6, ((TT.trans T4).trans T5).trans T6, hn3⟩
end Go.Proofs.Ytbpbcmbcoffdlaa

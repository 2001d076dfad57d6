/-
  OpOne.
-/
import Derived.Test.YtbfcilfdeemnpaaPRdQ
import Derived.Test.YtbfcilfdeemnpaaRReqs
namespace Go.Proofs.Ytbfcilfdeemnpaa
open Go.RowKit

theorem rdq_ne {xs : List Int} {k : Int} (h : rdQ xs = .inl k) : k ≠ 0 := by
  rw [show rdQ xs = rdT reqTh kindQ xs from rd_thr thr_q kindQ xs, rd_or] at h
  by_cases c : or2 (doneS (reqTh xs 0).2.1 (reqTh xs 0).2.2) (kindQ (reqTh xs 0).1) = 0
  · rw [if_pos c] at h
    cases h
  · rw [if_neg c] at h
    cases h
    exact c

set_option maxRecDepth 100000 in
set_option maxHeartbeats 8000000 in
theorem opOne_any (w : World) (ao : Option Addr) (n cap : Nat) (xs : List Int) (cut : Int) (h : Sl w ao n cap xs) (hcut : (Lit.int .i64 cut).wf = true) :
    Calls Try.prog 7 #[.slice ao n cap, .int .i64 cut] w fun e w' => e = .returned (.bool true) ∧ Below w.heap.size w w' := by
  have hcr : -9223372036854775808 ≤ cut ∧ cut ≤ 9223372036854775807 := by
    simp [Lit.wf, IntKind.min, IntKind.max, IntKind.signed, IntKind.bits] at hcut
    omega
  clear hcut
  by_cases hn : 20000 < n
  · have B := Below.refl w.heap.size w
    clear h hcr
    go_enter Try.func7, Try.ntmps7
    go_wp2_with (go_at_call 10; refine (alive6 _).mono ?_; rintro e wz ⟨rfl, Cz⟩; have Bz := B.trans (Cz.mono B.size))
    go_ret
    exact ⟨rfl, Bz⟩
  have hn : n ≤ 20000 := by omega
  have hle := h.le
  have hmx := h.mx
  unfold maxLen at hmx
  go_enter Try.func7, Try.ntmps7
  go_wp2_with fail
  refine (prdq_any w ao n cap xs h (by omega)).mono ?_
  intro e w1 PQ
  have B1 := PQ.bel
  have h1 := h.below B1
  cases hr : rdQ xs with
  | inl k =>
    have nk := rdq_ne hr
    obtain rfl := PQ.bad k hr
    clear PQ hr h h1 hcr hle hmx hn
    rw [show qVal 0 0 zeroOA = .agg #[.int .u64 0, .int .u64 0, .int .i64 0, .string ⟨#[]⟩, .string ⟨#[]⟩, .string ⟨#[]⟩, .int .u64 0, .string ⟨#[]⟩, .slice none 0 0, .slice none 0 0, .bool false, .slice none 0 0] from rfl]
    have i1 : (k != 0) = true := by simp [nk]
    have i2 : (k == 0) = false := by simp [nk]
    have B2 : Below w.heap.size w (w1.alloc (Obj.cells #[.int .u64 0, .int .u64 0, .int .i64 0, .string ⟨#[]⟩, .string ⟨#[]⟩, .string ⟨#[]⟩, .int .u64 0, .string ⟨#[]⟩, .slice none 0 0, .slice none 0 0, .bool false, .slice none 0 0] 30)) := B1.alloc B1.size _
    have K2 : QC (w1.alloc (Obj.cells #[.int .u64 0, .int .u64 0, .int .i64 0, .string ⟨#[]⟩, .string ⟨#[]⟩, .string ⟨#[]⟩, .int .u64 0, .string ⟨#[]⟩, .slice none 0 0, .slice none 0 0, .bool false, .slice none 0 0] 30)) w1.heap.size 0 0 zeroOA := heap_alloc_new w1 _
    have OW1 : ∀ W, OW W 1 (zeroOA, ([] : List (OD 0))) := fun W => ⟨zeroOA_ok W, rfl, fun _ _ _ hi => absurd hi (Nat.not_lt_zero _), fun _ hy => absurd hy (List.not_mem_nil)⟩
    have RQ : ∀ W, Calls Try.prog 23 #[.agg #[.int .u64 0, .int .u64 0, .int .i64 0, .string ⟨#[]⟩, .string ⟨#[]⟩, .string ⟨#[]⟩, .int .u64 0, .string ⟨#[]⟩, .slice none 0 0, .slice none 0 0, .bool false, .slice none 0 0], .agg #[.int .u64 0, .int .u64 0, .int .i64 0, .string ⟨#[]⟩, .string ⟨#[]⟩, .string ⟨#[]⟩, .int .u64 0, .string ⟨#[]⟩, .slice none 0 0, .slice none 0 0, .bool false, .slice none 0 0]] W fun e w' => e = .returned (.bool true) ∧ Below W.heap.size W w' := fun W => (rreqs_any 1 W 0 0 0 0 (zeroOA, []) (zeroOA, []) (OW1 W) (OW1 W) (by decide) (by decide)).mono (fun e w' h => ⟨h.1.trans (congrArg (fun b => Ending.returned (.bool (true && (true && b)))) (sameD_self 1 _)), h.2⟩)
    clear nk OW1
    go_wp2_with fail
    refine (RQ _).mono ?_
    rintro e w3 ⟨rfl, C⟩
    have D := B2.trans (C.mono B2.size)
    clear C B2 K2 RQ
    go_wp2_with (go_at_call 10; refine (alive6 _).mono ?_; rintro e wz ⟨rfl, Cz⟩; have Bz := D.trans (Cz.mono D.size))
    go_ret
    exact ⟨rfl, Bz⟩
  | inr q =>
    obtain ⟨o, l, rfl, Z1, Z2, ok, OL, ht, hz⟩ := PQ.good q hr
    obtain ⟨cl, st, t⟩ := q
    dsimp only at Z1 Z2 ht ⊢
    obtain ⟨hxs, _, hkq⟩ := rdAll_back good_q kindQ h1.byte hr
    have HC : Hid (∀ c, c < xs.length → rdQ (xs.take c) = .inl 2) := fun c hc => rdAll_cut good_q kindQ h1.byte hr c hc
    subst ht
    have HK : Hid (kq cl st (rightO o.s (l.map sn0)) = 0) := (kindq_read cl st hz).symm.trans hkq
    have HX : Hid (enc cl ++ (enc st ++ putA o l) = xs) := by show _ = _; rw [putA_P, hxs]; rfl
    have HL : Hid (xs.length = n) := h.len
    clear PQ hr h hxs hkq hz
    rw [show qVal cl st o = .agg #[.int .u64 cl, .int .u64 st, .int .i64 o.kind, .string o.row, .string o.fam, .string o.qual, .int .u64 o.time, .string o.to, .slice o.va.ao o.va.n o.va.cap, .slice o.wa.ao o.wa.n o.wa.cap, .bool o.has, .slice o.so o.sn o.sc] from rfl]
    have C2 : Below w1.heap.size w1 (w1.alloc (Obj.cells #[.int .u64 cl, .int .u64 st, .int .i64 o.kind, .string o.row, .string o.fam, .string o.qual, .int .u64 o.time, .string o.to, .slice o.va.ao o.va.n o.va.cap, .slice o.wa.ao o.wa.n o.wa.cap, .bool o.has, .slice o.so o.sn o.sc] 30)) := (Below.refl _ _).alloc (Nat.le_refl _) _
    have K2 : QC (w1.alloc (Obj.cells #[.int .u64 cl, .int .u64 st, .int .i64 o.kind, .string o.row, .string o.fam, .string o.qual, .int .u64 o.time, .string o.to, .slice o.va.ao o.va.n o.va.cap, .slice o.wa.ao o.wa.n o.wa.cap, .bool o.has, .slice o.so o.sn o.sc] 30)) w1.heap.size cl st o := heap_alloc_new w1 _
    have B2 := B1.trans (C2.mono B1.size)
    have h2 := h1.below C2
    have ok2 := ok.below C2
    have OL2 := OL.below C2
    clear C2 B1 h1 ok OL
    go_wp2_with fail
    refine (preq_any _ cl st o l Z1 Z2 ok2 OL2).mono ?_
    rintro e w3 ⟨⟨b3, m3, c3, rfl, S3⟩, C⟩
    rw [HK.out, if_pos rfl, HX.out] at S3
    rw [HK.out]
    have B3 := B2.trans (C.mono B2.size)
    have h3 := h2.below C
    clear C B2 K2 h2 ok2 OL2 HK HX Z1 Z2
    go_wp2_with fail
    refine (same_any w3 ao b3 n cap m3 c3 xs xs h3 S3).mono ?_
    rintro x w4 ⟨rfl, q, hw⟩
    rw [decide_eq_true rfl]
    have B4 : Below w.heap.size w w4 := by rw [hw]; exact belN B3 q
    have h4 : Sl w4 ao n cap xs := h3.below (by rw [hw]; exact belN (Below.refl _ _) q)
    clear hw S3 h3 B3
    by_cases c0 : cut < 0
    · clear h4 HC
      go_wp2_with (go_at_call 10; refine (alive6 _).mono ?_; rintro e wz ⟨rfl, Cz⟩; have Bz := B4.trans (Cz.mono B4.size))
      go_ret
      exact ⟨rfl, Bz⟩
    by_cases c1 : (n : Int) ≤ cut
    · clear h4 HC
      go_wp2_with (go_at_call 10; refine (alive6 _).mono ?_; rintro e wz ⟨rfl, Cz⟩; have Bz := B4.trans (Cz.mono B4.size))
      go_ret
      exact ⟨rfl, Bz⟩
    obtain ⟨c, rfl⟩ := Int.eq_ofNat_of_zero_le (by omega : 0 ≤ cut)
    have s4 := h4.take c (by omega)
    have HR : Hid (rdQ (xs.take c) = .inl 2) := HC.out c (by rw [HL.out]; omega)
    clear HC h4
    go_wp2_with fail
    refine (prdq_any w4 _ c _ _ s4 (by omega)).mono ?_
    intro e w5 PQ
    obtain rfl := PQ.bad 2 HR.out
    have B5 := B4.trans (PQ.bel.mono B4.size)
    clear PQ B4 s4
    rw [show qVal 0 0 zeroOA = .agg #[.int .u64 0, .int .u64 0, .int .i64 0, .string ⟨#[]⟩, .string ⟨#[]⟩, .string ⟨#[]⟩, .int .u64 0, .string ⟨#[]⟩, .slice none 0 0, .slice none 0 0, .bool false, .slice none 0 0] from rfl]
    have B6 : Below w.heap.size w (w5.alloc (Obj.cells #[.int .u64 0, .int .u64 0, .int .i64 0, .string ⟨#[]⟩, .string ⟨#[]⟩, .string ⟨#[]⟩, .int .u64 0, .string ⟨#[]⟩, .slice none 0 0, .slice none 0 0, .bool false, .slice none 0 0] 30)) := B5.alloc B5.size _
    go_wp2_with (go_at_call 10; refine (alive6 _).mono ?_; rintro e wz ⟨rfl, Cz⟩; have Bz := B6.trans (Cz.mono B6.size))
    go_ret
    exact ⟨rfl, Bz⟩
end Go.Proofs.Ytbfcilfdeemnpaa

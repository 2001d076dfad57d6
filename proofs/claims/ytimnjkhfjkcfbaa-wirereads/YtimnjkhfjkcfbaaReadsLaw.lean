/-
  The walk of WireReads: for every bytes and all asks the statement's function answers true.
-/
import Derived.Test.YtimnjkhfjkcfbaaPairs
import Derived.Test.YtimnjkhfjkcfbaaAlive
import Derived.Deep.RegionHeld3
namespace Go.Proofs.Ytimnjkhfjkcfbaa
open Go.RowKit

theorem new_readerL (w : World) (t : TypeId) (L : Nat) (bo : Option Addr) (n c : Nat) (xs : List Int) (hsl : Sl w bo n c xs) (hlt : ∀ a, bo = some a → 0 < n → a.block < L) (hL : L ≤ w.heap.size) (hn : n ≤ 1000000) :
    R (w.alloc (.cells #[.slice bo n c, .int .i64 0] t)) w.heap.size L xs 0 := by
  refine ⟨bo, n, c, ?_, ?_, ?_, ?_, hsl.below ((Below.refl _ w).alloc (Nat.le_refl _) _), hlt, hL, hn⟩
  · go_simp
  · go_simp
  · go_simp
  · go_simp

set_option maxHeartbeats 4000000 in
set_option maxRecDepth 100000 in
theorem wireReads_any (w : World) (ao lo : Option Addr) (n cap m lcap : Nat) (xs : List Int) (K M : Nat → Int) (h : Sl w ao n cap xs) (hl : Asks w lo m lcap K M) :
    Calls Try.prog 3 #[.slice ao n cap, .slice lo m lcap] w fun e w' => e = .returned (.bool true) ∧ Below w.heap.size w w' := by
  by_cases hbig : 10000 < n ∨ 100 < m
  · by_cases hn : 10000 < n
    all_goals
      go_enter Try.func3, Try.ntmps3
      go_wp2_with fail
      refine (alive_any _).mono ?_
      rintro e w1 ⟨rfl, hb1⟩
      go_wp2_with fail
      go_ret
      exact ⟨rfl, hb1⟩
  · have hn : n ≤ 10000 := by omega
    have hm : m ≤ 100 := by omega
    have hnb : decide ((10000 : Int) < (n : Int)) = false := by simp; omega
    have hmb : decide ((100 : Int) < (m : Int)) = false := by simp; omega
    clear hbig
    go_enter Try.func3, Try.ntmps3
    go_wp2_with fail
    refine (read_any _ _ _ _ xs h (by omega)).mono ?_
    rintro e w1 ⟨p, rfl, hp, hR1, hb1⟩
    have hplt : p < w1.heap.size := by obtain ⟨_, _, _, hr⟩ := hR1; exact hr.plt
    have hM1 := new_readerL w1 30 w.heap.size ao n cap xs (h.below hb1) h.lt hb1.size (by omega)
    have hA1 : Below w1.heap.size w1 (w1.alloc (.cells #[.slice ao n cap, .int .i64 0] 30)) := (Below.refl _ w1).alloc (Nat.le_refl _) _
    go_wp2_with fail
    refine (alive_any _).mono ?_
    rintro e w2 ⟨rfl, hb2⟩
    have hT : Two w w2 p w1.heap.size xs xs 0 := ⟨(hR1.below hA1).below hb2, hM1.below hb2, fun _ => rfl, hplt, hp, hb1.trans ((hA1.trans (hb2.mono (by simp))).mono hb1.size)⟩
    generalize w1.heap.size = q at hT ⊢
    clear hR1 hb1 hplt hM1 hA1 hb2 hp h hn hnb hmb
    go_wp2_with fail
    go_loopw [7] (fun i wr => ∃ (j : Nat) (xa xb : List Int) (k : Int), i = .int .i64 j ∧ j ≤ m ∧ Two w wr p q xa xb k) (fun i _ => m - (intOf i).toNat)
    case atStart => exact ⟨0, xs, xs, 0, rfl, Nat.zero_le _, hT⟩
    case round =>
      clear hT
      obtain ⟨j, xa, xb, k, rfl, hj, hT⟩ := hrel
      by_cases hlt : j < m
      · obtain ⟨b, off, rfl, hbw, hc⟩ := hl.at (by omega)
        have hbd := hl.bound j hlt
        have hlt1 : (j : Int) < (m : Int) := by omega
        obtain ⟨cK, cM⟩ := hc j hlt
        clear hc hl
        generalize K j = kk at cK
        generalize M j = mm at cM hbd
        have dK : wr.cell? ⟨b, off + j * 2, none⟩ = some (.int .i64 kk) := (hT.bel.cell (p := ⟨b, off + j * 2, none⟩) hbw).trans cK
        have dM : wr.cell? ⟨b, off + j * 2 + 1, none⟩ = some (.int .i64 mm) := (hT.bel.cell (p := ⟨b, off + j * 2 + 1, none⟩) hbw).trans cM
        by_cases e0 : kk = 0
        · subst e0
          go_wp2_with fail
          refine (uint_any _ _ _ _ _ hT.r).mono ?_
          rintro e w2 ⟨rfl, hR2, hg2⟩
          obtain ⟨hM2, hB2⟩ := hT.stepR hg2
          obtain ⟨s1, s2, s3⟩ := uint_same hT.same
          go_wp2_with fail
          refine (rUint_read _ _ _ _ _ hM2).mono ?_
          rintro e w3 ⟨rfl, hM3, hg3⟩
          obtain ⟨hR3, hB3⟩ := Two.stepM (w := w) hR2 hT.pq hT.lp hB2 hg3
          rw [s2] at hM3
          rw [s1]
          have hT3 : Two w w3 p q (uintS xa k).2.1 (uintT xb k).2.1 (uintS xa k).2.2 := ⟨hR3, hM3, s3, hT.pq, hT.lp, hB3⟩
          clear hR2 hg2 hM2 hB2 s1 s2 s3 hM3 hg3 hR3 hB3 hT
          generalize (uintS xa k).2.1 = xa3 at hT3
          generalize (uintT xb k).2.1 = xb3 at hT3
          generalize (uintS xa k).2.2 = k3 at hT3
          generalize ((uintS xa k).1 : Int) = res
          obtain ⟨lf, hlf⟩ : ∃ lf, (if k3 = 0 then (xa3.length : Int) else 0) = lf := ⟨_, rfl⟩
          have HL : Hid ((if k3 = 0 then (xa3.length : Int) else 0) = lf) := hlf
          obtain ⟨dn, hdn⟩ : ∃ dn, doneS xa3 k3 = dn := ⟨_, rfl⟩
          have HN : Hid (doneS xa3 k3 = dn) := hdn
          clear hlf hdn
          go_wp2_with fail
          refine (left_any _ _ _ _ _ hT3.r).mono ?_
          rintro e w5 ⟨rfl, hw5⟩
          rw [hw5, HL.out]
          clear hw5
          go_wp2_with fail
          refine (rLeft_any _ _ _ _ _ hT3.m).mono ?_
          rintro e w6 ⟨rfl, hw6⟩
          rw [hw6, left_same hT3.same, HL.out]
          clear hw6
          go_wp2_with fail
          refine (done_any _ _ _ _ _ hT3.r).mono ?_
          rintro e w7 ⟨rfl, hw7⟩
          rw [hw7, HN.out]
          clear hw7
          go_wp2_with fail
          refine (rDone_any _ _ _ _ _ hT3.m).mono ?_
          rintro e w8 ⟨rfl, hw8⟩
          rw [hw8, done_same hT3.same, HN.out]
          clear hw8
          go_wp2_with fail
          go_roundw
          case rel => exact ⟨j + 1, xa3, xb3, k3, by go_num, by omega, hT3⟩
          case measure => simp [intOf]; omega
        · have hb0 : (kk == 0) = false := by simp [e0]
          clear e0
          by_cases e1 : kk = 1
          · subst e1
            have hne1 : some b ≠ some p := by have := hT.lp; simp; omega
            have hne2 : some b ≠ some q := by have := hT.lp; have := hT.pq; simp; omega
            obtain ⟨s1, s2, s3⟩ := int_same hT.same mm
            have HS1 : Hid (_ = _) := s1
            have HS2 : Hid (_ = _) := s2
            clear s1 s2
            go_wp2_with fail
            go_region_held3 (fun w' => w'.cell? ⟨b, off + j * 2 + 1, none⟩ = some (.int .i64 mm))
              (first | go_keep | assumption)
              (first | (go_at_call 9; refine (int_any _ p p xa k mm hbd.2 hT.r.byte (by exact R.ofHeap hT.r rfl)).mono ?_; rintro e w2 ⟨rfl, hR2, hg2⟩; have hg2' := grown_of (a := wr) hg2 rfl rfl rfl rfl; obtain ⟨hM2, hB2⟩ := hT.stepR hg2'; have dM2 := hg2'.cell dM hne1; clear hg2 hg2') | (go_at_call 10; refine (rInt_any _ q w.heap.size xb k mm hbd.2 hT.m.byte (by exact R.ofHeap hM2 rfl)).mono ?_; rintro e w3 ⟨rfl, hM3, hg3⟩; have hg3' := grown_of (a := w2) hg3 rfl rfl rfl rfl; obtain ⟨hR3, hB3⟩ := Two.stepM (w := w) hR2 hT.pq hT.lp hB2 hg3'; have dM3 := hg3'.cell dM2 hne2; clear hg3 hg3'))
            rw [HS1.out]
            rw [HS2.out] at hM3
            have hT3 : Two w w3 p q (intS xa k mm).2.1 (intT xb k mm).2.1 (intS xa k mm).2.2 := ⟨hR3, hM3, s3, hT.pq, hT.lp, hB3⟩
            clear hR2 hM2 hB2 HS1 HS2 s3 hM3 hR3 hB3 hT dM dM2 dM3 hne1 hne2
            generalize (intS xa k mm).2.1 = xa3 at hT3
            generalize (intT xb k mm).2.1 = xb3 at hT3
            generalize (intS xa k mm).2.2 = k3 at hT3
            generalize ((intS xa k mm).1 : Int) = res
            obtain ⟨lf, hlf⟩ : ∃ lf, (if k3 = 0 then (xa3.length : Int) else 0) = lf := ⟨_, rfl⟩
            have HL : Hid ((if k3 = 0 then (xa3.length : Int) else 0) = lf) := hlf
            obtain ⟨dn, hdn⟩ : ∃ dn, doneS xa3 k3 = dn := ⟨_, rfl⟩
            have HN : Hid (doneS xa3 k3 = dn) := hdn
            clear hlf hdn
            go_wp2_with fail
            refine (left_any _ _ _ _ _ hT3.r).mono ?_
            rintro e w5 ⟨rfl, hw5⟩
            rw [hw5, HL.out]
            clear hw5
            go_wp2_with fail
            refine (rLeft_any _ _ _ _ _ hT3.m).mono ?_
            rintro e w6 ⟨rfl, hw6⟩
            rw [hw6, left_same hT3.same, HL.out]
            clear hw6
            go_wp2_with fail
            refine (done_any _ _ _ _ _ hT3.r).mono ?_
            rintro e w7 ⟨rfl, hw7⟩
            rw [hw7, HN.out]
            clear hw7
            go_wp2_with fail
            refine (rDone_any _ _ _ _ _ hT3.m).mono ?_
            rintro e w8 ⟨rfl, hw8⟩
            rw [hw8, done_same hT3.same, HN.out]
            clear hw8
            go_wp2_with fail
            go_roundw
            case rel => exact ⟨j + 1, xa3, xb3, k3, by go_num, by omega, hT3⟩
            case measure => simp [intOf]; omega
          · have hb1 : (kk == 1) = false := by simp [e1]
            clear e1
            by_cases e2 : kk = 2
            · subst e2
              have hne1 : some b ≠ some p := by have := hT.lp; simp; omega
              have hne2 : some b ≠ some q := by have := hT.lp; have := hT.pq; simp; omega
              have hqlt := hT.m.plt
              obtain ⟨s1, s2, s3⟩ := bytes_same hT.same mm
              have HS1 : Hid (_ = _) := s1
              have HS2 : Hid (_ = _) := s2
              clear s1 s2
              go_wp2_with fail
              go_region_held3 (fun w' => w'.cell? ⟨b, off + j * 2 + 1, none⟩ = some (.int .i64 mm))
                (first | go_keep | assumption)
                (first | (go_at_call 12; refine (bytes_any _ p p xa k mm hbd.2 (by exact R.ofHeap hT.r rfl)).mono ?_; rintro e w2 ⟨ro, rn, rc, rfl, hrs, hro, hR2, hg2⟩; have hg2' := grown_of (a := wr) hg2 rfl rfl rfl rfl; obtain ⟨hM2, hB2⟩ := hT.stepR hg2'; have dM2 := hg2'.cell dM hne1; have hro' : ∀ a, ro = some a → 0 < rn → a.block ≠ q := (fun a ha _ => by have h1 : wr.heap.size ≤ a.block := hro a ha; omega); clear hg2 hg2' hro) | (go_at_call 13; refine (rBytes_read _ q w.heap.size xb k mm hbd.2 (by exact R.ofHeap hM2 rfl)).mono ?_; rintro e w3 ⟨mo, mn, mc, rfl, hms, hM3, hg3⟩; have hg3' := grown_of (a := w2) hg3 rfl rfl rfl rfl; obtain ⟨hR3, hB3⟩ := Two.stepM (w := w) hR2 hT.pq hT.lp hB2 hg3'; have dM3 := hg3'.cell dM2 hne2; have hrs3 := hrs.keepNe hro' hg3'; clear hg3 hg3') | (go_at_call 11; refine (same_any _ _ _ _ _ _ _ _ _ (by exact Sl.ofHeap hrs3 rfl) (by exact Sl.ofHeap hms rfl)).mono ?_; rintro e w4 ⟨rfl, q4, hw4⟩; have hb4 : Below w3.heap.size w3 w4 := (by rw [hw4]; exact below_drewN _ _ _); have dM4 : w4.cell? ⟨b, off + j * 2 + 1, none⟩ = some (.int .i64 mm) := (by rw [hw4]; exact dM3); clear hw4))
              rw [HS1.out]
              rw [show decide ((bytesS xa k mm).1 = (bytesS xa k mm).1) = true from decide_eq_true rfl]
              rw [HS2.out] at hM3
              have hT3 : Two w w4 p q (bytesS xa k mm).2.1 (bytesT xb k mm).2.1 (bytesS xa k mm).2.2 := ⟨hR3.below hb4, hM3.below hb4, s3, hT.pq, hT.lp, hB3.trans (hb4.mono hB3.size)⟩
              clear hR2 hM2 hB2 HS1 HS2 s3 hM3 hR3 hB3 hT dM dM2 dM3 dM4 hne1 hne2 hrs hrs3 hms hb4 hro' hqlt
              generalize (bytesS xa k mm).2.1 = xa3 at hT3
              generalize (bytesT xb k mm).2.1 = xb3 at hT3
              generalize (bytesS xa k mm).2.2 = k3 at hT3
              obtain ⟨lf, hlf⟩ : ∃ lf, (if k3 = 0 then (xa3.length : Int) else 0) = lf := ⟨_, rfl⟩
              have HL : Hid ((if k3 = 0 then (xa3.length : Int) else 0) = lf) := hlf
              obtain ⟨dn, hdn⟩ : ∃ dn, doneS xa3 k3 = dn := ⟨_, rfl⟩
              have HN : Hid (doneS xa3 k3 = dn) := hdn
              clear hlf hdn
              go_wp2_with fail
              refine (left_any _ _ _ _ _ hT3.r).mono ?_
              rintro e w5 ⟨rfl, hw5⟩
              rw [hw5, HL.out]
              clear hw5
              go_wp2_with fail
              refine (rLeft_any _ _ _ _ _ hT3.m).mono ?_
              rintro e w6 ⟨rfl, hw6⟩
              rw [hw6, left_same hT3.same, HL.out]
              clear hw6
              go_wp2_with fail
              refine (done_any _ _ _ _ _ hT3.r).mono ?_
              rintro e w7 ⟨rfl, hw7⟩
              rw [hw7, HN.out]
              clear hw7
              go_wp2_with fail
              refine (rDone_any _ _ _ _ _ hT3.m).mono ?_
              rintro e w8 ⟨rfl, hw8⟩
              rw [hw8, done_same hT3.same, HN.out]
              clear hw8
              go_wp2_with fail
              go_roundw
              case rel => exact ⟨j + 1, xa3, xb3, k3, by go_num, by omega, hT3⟩
              case measure => simp [intOf]; omega
            · have hb2 : (kk == 2) = false := by simp [e2]
              clear e2
              by_cases e3 : kk = 3
              · subst e3
                go_wp2_with fail
                refine (bool_any _ _ _ _ _ hT.r).mono ?_
                rintro e w2 ⟨rfl, hR2, hg2⟩
                obtain ⟨hM2, hB2⟩ := hT.stepR hg2
                obtain ⟨s1, s2, s3⟩ := bool_same hT.same
                go_wp2_with fail
                refine (rBool_read _ _ _ _ _ hM2).mono ?_
                rintro e w3 ⟨rfl, hM3, hg3⟩
                obtain ⟨hR3, hB3⟩ := Two.stepM (w := w) hR2 hT.pq hT.lp hB2 hg3
                rw [s2] at hM3
                rw [s1]
                have hT3 : Two w w3 p q (boolS xa k).2.1 (boolT xb k).2.1 (boolS xa k).2.2 := ⟨hR3, hM3, s3, hT.pq, hT.lp, hB3⟩
                clear hR2 hg2 hM2 hB2 s1 s2 s3 hM3 hg3 hR3 hB3 hT
                generalize (boolS xa k).2.1 = xa3 at hT3
                generalize (boolT xb k).2.1 = xb3 at hT3
                generalize (boolS xa k).2.2 = k3 at hT3
                generalize (boolS xa k).1 = res
                obtain ⟨lf, hlf⟩ : ∃ lf, (if k3 = 0 then (xa3.length : Int) else 0) = lf := ⟨_, rfl⟩
                have HL : Hid ((if k3 = 0 then (xa3.length : Int) else 0) = lf) := hlf
                obtain ⟨dn, hdn⟩ : ∃ dn, doneS xa3 k3 = dn := ⟨_, rfl⟩
                have HN : Hid (doneS xa3 k3 = dn) := hdn
                clear hlf hdn
                go_wp2_with fail
                refine (left_any _ _ _ _ _ hT3.r).mono ?_
                rintro e w5 ⟨rfl, hw5⟩
                rw [hw5, HL.out]
                clear hw5
                go_wp2_with fail
                refine (rLeft_any _ _ _ _ _ hT3.m).mono ?_
                rintro e w6 ⟨rfl, hw6⟩
                rw [hw6, left_same hT3.same, HL.out]
                clear hw6
                go_wp2_with fail
                refine (done_any _ _ _ _ _ hT3.r).mono ?_
                rintro e w7 ⟨rfl, hw7⟩
                rw [hw7, HN.out]
                clear hw7
                go_wp2_with fail
                refine (rDone_any _ _ _ _ _ hT3.m).mono ?_
                rintro e w8 ⟨rfl, hw8⟩
                rw [hw8, done_same hT3.same, HN.out]
                clear hw8
                go_wp2_with fail
                go_roundw
                case rel => exact ⟨j + 1, xa3, xb3, k3, by go_num, by omega, hT3⟩
                case measure => simp [intOf]; omega
              · have hb3 : (kk == 3) = false := by simp [e3]
                clear e3
                by_cases e4 : kk = 4
                · subst e4
                  by_cases hfn : k ≠ 0 ∨ mm = 0
                  · go_wp2_with fail
                    refine (fail_not _ p k mm hT.r.kind hfn).mono ?_
                    rintro e w2 ⟨rfl, hw2⟩
                    rw [hw2]
                    clear hw2
                    go_wp2_with fail
                    refine (rFail_any _ _ _ _ _ mm hT.m).mono ?_
                    rintro e w3 ⟨rfl, hM3, hg3⟩
                    rw [show (if k = 0 then mm else k) = k from by split <;> omega] at hM3
                    obtain ⟨hR3, hB3⟩ := Two.stepM (w := w) hT.r hT.pq hT.lp hT.bel hg3
                    have hT3 : Two w w3 p q xa xb k := ⟨hR3, hM3, hT.same, hT.pq, hT.lp, hB3⟩
                    clear hM3 hg3 hR3 hB3 hT hfn
                    generalize xa = xa3 at hT3
                    generalize xb = xb3 at hT3
                    generalize k = k3 at hT3
                    obtain ⟨lf, hlf⟩ : ∃ lf, (if k3 = 0 then (xa3.length : Int) else 0) = lf := ⟨_, rfl⟩
                    have HL : Hid ((if k3 = 0 then (xa3.length : Int) else 0) = lf) := hlf
                    obtain ⟨dn, hdn⟩ : ∃ dn, doneS xa3 k3 = dn := ⟨_, rfl⟩
                    have HN : Hid (doneS xa3 k3 = dn) := hdn
                    clear hlf hdn
                    go_wp2_with fail
                    refine (left_any _ _ _ _ _ hT3.r).mono ?_
                    rintro e w5 ⟨rfl, hw5⟩
                    rw [hw5, HL.out]
                    clear hw5
                    go_wp2_with fail
                    refine (rLeft_any _ _ _ _ _ hT3.m).mono ?_
                    rintro e w6 ⟨rfl, hw6⟩
                    rw [hw6, left_same hT3.same, HL.out]
                    clear hw6
                    go_wp2_with fail
                    refine (done_any _ _ _ _ _ hT3.r).mono ?_
                    rintro e w7 ⟨rfl, hw7⟩
                    rw [hw7, HN.out]
                    clear hw7
                    go_wp2_with fail
                    refine (rDone_any _ _ _ _ _ hT3.m).mono ?_
                    rintro e w8 ⟨rfl, hw8⟩
                    rw [hw8, done_same hT3.same, HN.out]
                    clear hw8
                    go_wp2_with fail
                    go_roundw
                    case rel => exact ⟨j + 1, xa3, xb3, k3, by go_num, by omega, hT3⟩
                    case measure => simp [intOf]; omega
                  · have hk0 : k = 0 := by omega
                    subst hk0
                    have hm0 : mm ≠ 0 := by omega
                    clear hfn
                    go_wp2_with fail
                    refine (fail_any _ p p xa mm hT.r hm0).mono ?_
                    rintro e w2 ⟨rfl, hR2, hg2⟩
                    obtain ⟨hM2, hB2⟩ := hT.stepR hg2
                    go_wp2_with fail
                    refine (rFail_any _ _ _ _ _ mm hM2).mono ?_
                    rintro e w3 ⟨rfl, hM3, hg3⟩
                    rw [if_pos rfl] at hM3
                    obtain ⟨hR3, hB3⟩ := Two.stepM (w := w) hR2 hT.pq hT.lp hB2 hg3
                    have hT3 : Two w w3 p q [] xb mm := ⟨hR3, hM3, fun h => absurd h hm0, hT.pq, hT.lp, hB3⟩
                    clear hR2 hg2 hM2 hB2 hM3 hg3 hR3 hB3 hT hm0
                    generalize ([] : List Int) = xa3 at hT3
                    generalize xb = xb3 at hT3
                    have hk3 : ∃ k3, k3 = mm := ⟨_, rfl⟩
                    obtain ⟨k3, hk3⟩ := hk3
                    rw [← hk3] at hT3
                    have HK3 : Hid (k3 = mm) := hk3
                    clear hk3
                    obtain ⟨lf, hlf⟩ : ∃ lf, (if k3 = 0 then (xa3.length : Int) else 0) = lf := ⟨_, rfl⟩
                    have HL : Hid ((if k3 = 0 then (xa3.length : Int) else 0) = lf) := hlf
                    obtain ⟨dn, hdn⟩ : ∃ dn, doneS xa3 k3 = dn := ⟨_, rfl⟩
                    have HN : Hid (doneS xa3 k3 = dn) := hdn
                    clear hlf hdn
                    go_wp2_with fail
                    refine (left_any _ _ _ _ _ hT3.r).mono ?_
                    rintro e w5 ⟨rfl, hw5⟩
                    rw [hw5, HL.out]
                    clear hw5
                    go_wp2_with fail
                    refine (rLeft_any _ _ _ _ _ hT3.m).mono ?_
                    rintro e w6 ⟨rfl, hw6⟩
                    rw [hw6, left_same hT3.same, HL.out]
                    clear hw6
                    go_wp2_with fail
                    refine (done_any _ _ _ _ _ hT3.r).mono ?_
                    rintro e w7 ⟨rfl, hw7⟩
                    rw [hw7, HN.out]
                    clear hw7
                    go_wp2_with fail
                    refine (rDone_any _ _ _ _ _ hT3.m).mono ?_
                    rintro e w8 ⟨rfl, hw8⟩
                    rw [hw8, done_same hT3.same, HN.out]
                    clear hw8
                    go_wp2_with fail
                    go_roundw
                    case rel => exact ⟨j + 1, xa3, xb3, k3, by go_num, by omega, hT3⟩
                    case measure => simp [intOf]; omega
                · have hb4 : (kk == 4) = false := by simp [e4]
                  clear e4
                  have hT3 := hT
                  clear hT
                  generalize xa = xa3 at hT3
                  generalize xb = xb3 at hT3
                  generalize k = k3 at hT3
                  obtain ⟨lf, hlf⟩ : ∃ lf, (if k3 = 0 then (xa3.length : Int) else 0) = lf := ⟨_, rfl⟩
                  have HL : Hid ((if k3 = 0 then (xa3.length : Int) else 0) = lf) := hlf
                  obtain ⟨dn, hdn⟩ : ∃ dn, doneS xa3 k3 = dn := ⟨_, rfl⟩
                  have HN : Hid (doneS xa3 k3 = dn) := hdn
                  clear hlf hdn
                  go_wp2_with fail
                  refine (left_any _ _ _ _ _ hT3.r).mono ?_
                  rintro e w5 ⟨rfl, hw5⟩
                  rw [hw5, HL.out]
                  clear hw5
                  go_wp2_with fail
                  refine (rLeft_any _ _ _ _ _ hT3.m).mono ?_
                  rintro e w6 ⟨rfl, hw6⟩
                  rw [hw6, left_same hT3.same, HL.out]
                  clear hw6
                  go_wp2_with fail
                  refine (done_any _ _ _ _ _ hT3.r).mono ?_
                  rintro e w7 ⟨rfl, hw7⟩
                  rw [hw7, HN.out]
                  clear hw7
                  go_wp2_with fail
                  refine (rDone_any _ _ _ _ _ hT3.m).mono ?_
                  rintro e w8 ⟨rfl, hw8⟩
                  rw [hw8, done_same hT3.same, HN.out]
                  clear hw8
                  go_wp2_with fail
                  go_roundw
                  case rel => exact ⟨j + 1, xa3, xb3, k3, by go_num, by omega, hT3⟩
                  case measure => simp [intOf]; omega
      · have hle2 : (m : Int) ≤ (j : Int) := by omega
        have hB := hT.bel
        clear hT hl
        go_wp2_with fail
        go_ret
        exact ⟨rfl, hB⟩
end Go.Proofs.Ytimnjkhfjkcfbaa

/-
  The walk of WireBack: for all lists of numbers, bytes and truths the statement's function answers true.
-/
import Derived.Test.YtimnjkhfjkcfbaaRBytes
import Derived.Test.YtimnjkhfjkcfbaaRLaws
import Derived.Test.YtimnjkhfjkcfbaaAlive
import Derived.Test.YtimnjkhfjkcfbaaPairs
import Derived.Deep.RegionHeld3
namespace Go.Proofs.Ytimnjkhfjkcfbaa
open Go.RowKit

/-- A slice whose elements take one cell each: element i holds V i. -/
structure RowC (w : World) (o : Option Addr) (n : Nat) (V : Nat → Value) : Prop where
  nil : o = none → n = 0
  cell : ∀ a, o = some a → ∀ i, i < n → w.cell? (a.add i) = some (V i)
theorem RowC.at {w : World} {o : Option Addr} {n : Nat} {V : Nat → Value} (h : RowC w o n V) (hn : 0 < n) : ∃ b off, o = some ⟨b, off, none⟩ ∧ b < w.heap.size ∧ ∀ i, i < n → w.cell? ⟨b, off + i, none⟩ = some (V i) := by
  cases o with
  | none => have := h.nil rfl; omega
  | some a =>
    obtain ⟨b, off, spot⟩ := a
    have hc := h.cell _ rfl 0 hn
    have hs : spot = none := by simpa [Addr.add] using World.cell?_spot hc
    subst hs
    refine ⟨b, off, rfl, by simpa [Addr.add] using World.block_lt_of_cell? w _ hc, fun i hi => ?_⟩
    have := h.cell _ rfl i hi
    rw [Addr.add_lit] at this
    exact this

def putN (ns : List Nat) : List Int := ns.flatMap enc
def putP (ps : List (List Int)) : List Int := ps.flatMap fun x => enc x.length ++ x
def putT (ts : List Bool) : List Int := ts.flatMap enb

theorem getD_at {α : Type} (xs : List α) (d : α) (j : Nat) (h : j < xs.length) : xs.getD j d = xs[j] := by simp [List.getD, h]
theorem putN_snoc (ns : List Nat) (j : Nat) (h : j < ns.length) : putN (ns.take (j + 1)) = putN (ns.take j) ++ enc (ns.getD j 0) := by
  unfold putN
  rw [List.take_succ_eq_append_getElem h, List.flatMap_append, getD_at _ _ _ h, List.flatMap_cons, List.flatMap_nil, List.append_nil]
theorem putP_snoc (ps : List (List Int)) (j : Nat) (h : j < ps.length) : putP (ps.take (j + 1)) = putP (ps.take j) ++ (enc (ps.getD j []).length ++ ps.getD j []) := by
  unfold putP
  rw [List.take_succ_eq_append_getElem h, List.flatMap_append, getD_at _ _ _ h, List.flatMap_cons, List.flatMap_nil, List.append_nil]
theorem putT_snoc (ts : List Bool) (j : Nat) (h : j < ts.length) : putT (ts.take (j + 1)) = putT (ts.take j) ++ enb (ts.getD j false) := by
  unfold putT
  rw [List.take_succ_eq_append_getElem h, List.flatMap_append, getD_at _ _ _ h, List.flatMap_cons, List.flatMap_nil, List.append_nil]
theorem putN_cons (ns : List Nat) (j : Nat) (h : j < ns.length) : putN (ns.drop j) = enc (ns.getD j 0) ++ putN (ns.drop (j + 1)) := by
  unfold putN
  rw [List.drop_eq_getElem_cons h, getD_at _ _ _ h, List.flatMap_cons]
theorem putP_cons (ps : List (List Int)) (j : Nat) (h : j < ps.length) : putP (ps.drop j) = enc (ps.getD j []).length ++ (ps.getD j [] ++ putP (ps.drop (j + 1))) := by
  unfold putP
  rw [List.drop_eq_getElem_cons h, getD_at _ _ _ h, List.flatMap_cons, List.append_assoc]
theorem putT_cons (ts : List Bool) (j : Nat) (h : j < ts.length) : putT (ts.drop j) = enb (ts.getD j false) ++ putT (ts.drop (j + 1)) := by
  unfold putT
  rw [List.drop_eq_getElem_cons h, getD_at _ _ _ h, List.flatMap_cons]

/-- The bytes that are put so far, of at most so many. -/
def Sof (w wr : World) (v : Value) (B : Nat) (xs : List Int) : Prop := ∃ ao n cap, v = .slice ao n cap ∧ Sl wr ao n cap xs ∧ n ≤ B ∧ Below w.heap.size w wr

theorem Sof.next {w wr w2 : World} {v2 : Value} {B B2 n2 : Nat} {v : Value} {xs ys : List Int} (h : Sof w wr v B xs) (hown : w2.ownsRow wr.heap.size 5 1 v2 n2 (bv ys)) (hb : Below wr.heap.size wr w2) (hby : Byt ys) (hn : n2 ≤ B2) : Sof w w2 v2 B2 ys := by
  obtain ⟨ao, n, cap, _, _, _, hbel⟩ := h
  obtain ⟨bo, c, rfl, hs, _⟩ := Sl.own hown hby
  exact ⟨bo, n2, c, rfl, hs, hn, hbel.trans (hb.mono hbel.size)⟩

set_option maxHeartbeats 8000000 in
set_option maxRecDepth 100000 in
theorem wireBack_any (w : World) (no po bo : Option Addr) (n ncap l lcap t tcap : Nat) (ns : List Nat) (ps : List (List Int)) (ts : List Bool) (O : Nat → Option Addr) (L C : Nat → Nat)
    (hn : ns.length = n) (hl : ps.length = l) (ht : ts.length = t) (hN : RowC w no n fun i => .int .u64 ((ns.getD i 0 : Nat) : Int)) (hNs : ∀ x ∈ ns, x < 18446744073709551616)
    (hP : RowC w po l fun i => .slice (O i) (L i) (C i)) (hPs : ∀ i, i < l → Sl w (O i) (L i) (C i) (ps.getD i [])) (hT : RowC w bo t fun i => .bool (ts.getD i false)) :
    Calls Try.prog 4 #[.slice no n ncap, .slice po l lcap, .slice bo t tcap] w fun e w' => e = .returned (.bool true) ∧ Below w.heap.size w w' := by
  by_cases hbig : 50 < n ∨ 50 < l ∨ 50 < t
  · by_cases h1 : 50 < n
    · go_enter Try.func4, Try.ntmps4
      go_wp2_with fail
      refine (alive_any _).mono ?_
      rintro e w1 ⟨rfl, hb1⟩
      go_wp2_with fail
      go_ret
      exact ⟨rfl, hb1⟩
    · have h1b : decide ((50 : Int) < (n : Int)) = false := by simp; omega
      by_cases h2 : 50 < l
      · go_enter Try.func4, Try.ntmps4
        go_wp2_with fail
        refine (alive_any _).mono ?_
        rintro e w1 ⟨rfl, hb1⟩
        go_wp2_with fail
        go_ret
        exact ⟨rfl, hb1⟩
      · have h2b : decide ((50 : Int) < (l : Int)) = false := by simp; omega
        have h3 : 50 < t := by omega
        go_enter Try.func4, Try.ntmps4
        go_wp2_with fail
        refine (alive_any _).mono ?_
        rintro e w1 ⟨rfl, hb1⟩
        go_wp2_with fail
        go_ret
        exact ⟨rfl, hb1⟩
  · have h1 : n ≤ 50 := by omega
    have h2 : l ≤ 50 := by omega
    have h3 : t ≤ 50 := by omega
    have h1b : decide ((50 : Int) < (n : Int)) = false := by simp; omega
    have h2b : decide ((50 : Int) < (l : Int)) = false := by simp; omega
    have h3b : decide ((50 : Int) < (t : Int)) = false := by simp; omega
    clear hbig
    go_enter Try.func4, Try.ntmps4
    go_wp2_with fail
    go_loopw [7, 8] (fun v i wr => ∃ j : Nat, j ≤ n ∧ i = .int .i64 j ∧ Sof w wr v (10 * j) (putN (ns.take j))) (fun _ i _ => n - (intOf i).toNat)
    case atStart => exact ⟨0, Nat.zero_le _, rfl, none, 0, 0, rfl, Sl.nothing _, Nat.zero_le _, Below.refl _ _⟩
    case round =>
      obtain ⟨j, hj, rfl, hS⟩ := hrel
      by_cases hlt : j < n
      · obtain ⟨b, off, rfl, hbw, hc⟩ := hN.at (by omega)
        have hlt1 : (j : Int) < (n : Int) := by omega
        have cj := hc j hlt
        have hjs : ns.getD j 0 < 18446744073709551616 := hNs _ (by rw [List.getD_eq_getElem?_getD]; simp [hn, hlt])
        have hp := putN_snoc ns j (by omega)
        have HP : Hid (_ = _) := hp
        have hS' := hS
        obtain ⟨ao, an, ac, rfl, hsl, han, hbel⟩ := hS
        have dj : wr.cell? ⟨b, off + j, none⟩ = some (.int .u64 ((ns.getD j 0 : Nat) : Int)) := (hbel.cell (p := ⟨b, off + j, none⟩) hbw).trans cj
        have hel := enc_length hjs
        clear hc cj hp
        generalize ns.getD j 0 = x at *
        go_wp2_with fail
        refine (wUint_any _ _ _ _ x _ hsl (by omega) hjs).mono ?_
        rintro e w2 ⟨v2, rfl, hown2, hb2⟩
        have hS2 : Sof w w2 v2 (10 * (j + 1)) (putN (ns.take (j + 1))) := by
          rw [HP.out]
          exact hS'.next hown2 hb2 (hsl.byte.append (enc_byt hjs)) (by omega)
        clear hown2 hb2 hsl hS' dj HP
        go_wp2_with fail
        go_roundw
        case rel => exact ⟨j + 1, by omega, by go_num, hS2⟩
        case measure => simp [intOf]; omega
      · obtain rfl : j = n := by omega
        rw [List.take_of_length_le (by omega)] at hS
        have HNS : Hid (∀ x ∈ ns, x < 18446744073709551616) := hNs
        clear hNs
        go_wp2_with fail
        go_loopw [7, 9] (fun v i wr => ∃ i2 : Nat, i2 ≤ l ∧ i = .int .i64 i2 ∧ (∀ i3, i3 < i2 → L i3 ≤ 500) ∧ Sof w wr v (500 + 510 * i2) (putN ns ++ putP (ps.take i2))) (fun _ i _ => l - (intOf i).toNat)
        case atStart =>
          refine ⟨0, Nat.zero_le _, rfl, fun i3 h => by omega, ?_⟩
          obtain ⟨ao, an, ac, rfl, hsl, han, hbel⟩ := hS
          exact ⟨ao, an, ac, rfl, by simpa [putP] using hsl, by omega, hbel⟩
        case round =>
          clear hS
          obtain ⟨i2, hi2, rfl, hsm, hS⟩ := hrel
          by_cases hlt : i2 < l
          · obtain ⟨b, off, rfl, hbw, hc⟩ := hP.at (by omega)
            have hlt1 : (i2 : Int) < (l : Int) := by omega
            have cj := hc i2 hlt
            have hsp := hPs i2 hlt
            have hp := putP_snoc ps i2 (by omega)
            have HP : Hid (_ = _) := hp
            have hS' := hS
            obtain ⟨ao, an, ac, rfl, hsl, han, hbel⟩ := hS
            have dj : wr.cell? ⟨b, off + i2, none⟩ = some (.slice (O i2) (L i2) (C i2)) := (hbel.cell (p := ⟨b, off + i2, none⟩) hbw).trans cj
            have hsr := hsp.below hbel
            have hll := hsp.len
            clear hc cj hp hsp
            by_cases hbig : 500 < L i2
            · go_wp2_with fail
              refine (alive_any _).mono ?_
              rintro e w1 ⟨rfl, hb1⟩
              have hB := hbel.trans (hb1.mono hbel.size)
              clear hb1 hbel hsl hS' dj hsr
              go_wp2_with fail
              go_ret
              exact ⟨rfl, hB⟩
            · have hli : L i2 ≤ 500 := by omega
              have hel := enc_length (n := L i2) (by omega)
              have hsm2 : ∀ i3, i3 < i2 + 1 → L i3 ≤ 500 := fun i3 h => by
                by_cases h' : i3 < i2
                · exact hsm i3 h'
                · obtain rfl : i3 = i2 := by omega
                  exact hli
              have HSM : Hid (∀ i3, i3 < i2 + 1 → L i3 ≤ 500) := hsm2
              clear hbig hsm hsm2
              go_wp2_with fail
              refine (wBytes_any _ _ _ _ _ _ _ _ _ hsl hsr (by omega)).mono ?_
              rintro e w2 ⟨v2, rfl, hown2, hb2⟩
              have hS2 : Sof w w2 v2 (500 + 510 * (i2 + 1)) (putN ns ++ putP (ps.take (i2 + 1))) := by
                rw [HP.out, hll, ← List.append_assoc, ← List.append_assoc]
                exact hS'.next hown2 hb2 ((hsl.byte.append (enc_byt (by omega))).append hsr.byte) (by omega)
              clear hown2 hb2 hsl hS' dj HP hsr
              go_wp2_with fail
              go_roundw
              case rel => exact ⟨i2 + 1, by omega, by go_num, HSM.out, hS2⟩
              case measure => simp [intOf]; omega
          · obtain rfl : i2 = l := by omega
            rw [List.take_of_length_le (by omega)] at hS
            have HSM : Hid (∀ i3, i3 < i2 → L i3 ≤ 500) := hsm
            clear hsm
            go_wp2_with fail
            go_loopw [7, 10] (fun v i wr => ∃ j3 : Nat, j3 ≤ t ∧ i = .int .i64 j3 ∧ Sof w wr v (500 + 510 * 50 + j3) (putN ns ++ putP ps ++ putT (ts.take j3))) (fun _ i _ => t - (intOf i).toNat)
            case atStart =>
              refine ⟨0, Nat.zero_le _, rfl, ?_⟩
              obtain ⟨ao, an, ac, rfl, hsl, han, hbel⟩ := hS
              exact ⟨ao, an, ac, rfl, by simpa [putT] using hsl, by omega, hbel⟩
            case round =>
              clear hS
              obtain ⟨j3, hj3, rfl, hS⟩ := hrel
              by_cases hlt : j3 < t
              · obtain ⟨b, off, rfl, hbw, hc⟩ := hT.at (by omega)
                have hlt1 : (j3 : Int) < (t : Int) := by omega
                have cj := hc j3 hlt
                have hp := putT_snoc ts j3 (by omega)
                have HP : Hid (_ = _) := hp
                have hS' := hS
                obtain ⟨ao, an, ac, rfl, hsl, han, hbel⟩ := hS
                have dj : wr.cell? ⟨b, off + j3, none⟩ = some (.bool (ts.getD j3 false)) := (hbel.cell (p := ⟨b, off + j3, none⟩) hbw).trans cj
                clear hc cj hp
                generalize ts.getD j3 false = x at *
                go_wp2_with fail
                refine (wBool_any _ _ _ _ x _ hsl (by omega)).mono ?_
                rintro e w2 ⟨v2, rfl, hown2, hb2⟩
                have hS2 : Sof w w2 v2 (500 + 510 * 50 + (j3 + 1)) (putN ns ++ putP ps ++ putT (ts.take (j3 + 1))) := by
                  rw [HP.out, ← List.append_assoc]
                  exact hS'.next hown2 hb2 (hsl.byte.append (enb_byte x)) (by omega)
                clear hown2 hb2 hsl hS' dj HP
                go_wp2_with fail
                go_roundw
                case rel => exact ⟨j3 + 1, by omega, by go_num, hS2⟩
                case measure => simp [intOf]; omega
              · obtain rfl : j3 = t := by omega
                rw [List.take_of_length_le (by omega)] at hS
                obtain ⟨ao, an, ac, rfl, hsl, han, hbel⟩ := hS
                go_wp2_with fail
                refine (read_any _ _ _ _ _ hsl (by omega)).mono ?_
                rintro e w4 ⟨p, rfl, hp, hR4, hb4⟩
                have hB4 := hbel.trans (hb4.mono hbel.size)
                have hwp : w.heap.size ≤ p := Nat.le_trans hbel.size hp
                clear hsl hb4 hbel han hp
                have hR4' : R w4 p p (putN ns ++ (putP ps ++ putT ts)) 0 := by rw [← List.append_assoc]; exact hR4
                clear hR4
                go_wp2_with fail
                go_loopw [12] (fun i wr => ∃ j4 : Nat, j4 ≤ j ∧ i = .int .i64 j4 ∧ R wr p p (putN (ns.drop j4) ++ (putP ps ++ putT ts)) 0 ∧ Below w.heap.size w wr) (fun i _ => j - (intOf i).toNat)
                case atStart => exact ⟨0, Nat.zero_le _, rfl, hR4', hB4⟩
                case round =>
                  clear hR4' hB4
                  obtain ⟨j4, hj4, rfl, hR, hB⟩ := hrel
                  by_cases hlt : j4 < j
                  · obtain ⟨b, off, rfl, hbw, hc⟩ := hN.at (by omega)
                    have hlt1 : (j4 : Int) < (j : Int) := by omega
                    have cj := hc j4 hlt
                    have hjs : ns.getD j4 0 < 18446744073709551616 := HNS.out _ (by rw [List.getD_eq_getElem?_getD]; simp [hn, hlt])
                    have dj : wr.cell? ⟨b, off + j4, none⟩ = some (.int .u64 ((ns.getD j4 0 : Nat) : Int)) := (hB.cell (p := ⟨b, off + j4, none⟩) hbw).trans cj
                    have hne : some b ≠ some p := by simp; omega
                    rw [putN_cons ns j4 (by omega), List.append_assoc] at hR
                    have HU : Hid (_ = _) := uintS_enc hjs (putN (ns.drop (j4 + 1)) ++ (putP ps ++ putT ts))
                    clear hc cj
                    generalize ns.getD j4 0 = x at *
                    generalize hrst : putN (ns.drop (j4 + 1)) ++ (putP ps ++ putT ts) = rst at *
                    have HRST : Hid (_ = rst) := hrst
                    clear hrst
                    go_wp2_with fail
                    go_region_held3 (fun w' => w'.cell? ⟨b, off + j4, none⟩ = some (.int .u64 (x : Int)))
                      (first | go_keep | assumption)
                      (first | (go_at_call 7; refine (uint_any _ p p (enc x ++ rst) 0 (by exact R.ofHeap hR rfl)).mono ?_; rintro e w2 ⟨rfl, hR2, hg2⟩; have hg2' := grown_of (a := wr) hg2 rfl rfl rfl rfl; have dj2 := hg2'.cell dj hne; have hB2 := hB.trans (below_grown hg2' hB.size hwp); clear hg2 hg2'))
                    rw [HU.out] at hR2 ⊢
                    simp only at hR2 ⊢
                    clear HU hR dj dj2 hB hne
                    go_wp2_with fail
                    go_roundw
                    case rel => exact ⟨j4 + 1, by omega, by go_num, by rw [HRST.out]; exact hR2, hB2⟩
                    case measure => simp [intOf]; omega
                  · obtain rfl : j4 = j := by omega
                    rw [List.drop_eq_nil_of_le (by omega)] at hR
                    have hR5 : R wr p p (putP ps ++ putT ts) 0 := by simpa [putN] using hR
                    clear hR
                    go_wp2_with fail
                    go_loopw [13] (fun i wr => ∃ j5 : Nat, j5 ≤ i2 ∧ i = .int .i64 j5 ∧ R wr p p (putP (ps.drop j5) ++ putT ts) 0 ∧ Below w.heap.size w wr) (fun i _ => i2 - (intOf i).toNat)
                    case atStart => exact ⟨0, Nat.zero_le _, rfl, hR5, hB⟩
                    case round =>
                      clear hR5 hB
                      obtain ⟨j5, hj5, rfl, hR, hB⟩ := hrel
                      by_cases hlt : j5 < i2
                      · obtain ⟨b, off, rfl, hbw, hc⟩ := hP.at (by omega)
                        have hlt1 : (j5 : Int) < (i2 : Int) := by omega
                        have cj := hc j5 hlt
                        have hsp := hPs j5 hlt
                        have hll := hsp.len
                        have hl5 := HSM.out j5 hlt
                        have dj : wr.cell? ⟨b, off + j5, none⟩ = some (.slice (O j5) (L j5) (C j5)) := (hB.cell (p := ⟨b, off + j5, none⟩) hbw).trans cj
                        have hne : some b ≠ some p := by simp; omega
                        rw [putP_cons ps j5 (by omega), List.append_assoc, List.append_assoc, hll] at hR
                        clear hc cj
                        generalize ps.getD j5 [] = x at *
                        generalize hrst : putP (ps.drop (j5 + 1)) ++ putT ts = rst at *
                        have HRST : Hid (_ = rst) := hrst
                        clear hrst
                        have HU : Hid (bytesS (enc (L j5) ++ (x ++ rst)) 0 500 = (x, rst, 0)) := by
                          have := bytesS_put hll (by omega) rst 500
                          rw [if_neg (by omega)] at this
                          exact this
                        generalize hyy : enc (L j5) ++ (x ++ rst) = yy at *
                        clear hyy
                        go_wp2_with fail
                        go_region_held3 (fun w' => w'.cell? ⟨b, off + j5, none⟩ = some (.slice (O j5) (L j5) (C j5)))
                          (first | go_keep | assumption)
                          (first | (go_at_call 12; refine (bytes_any _ p p yy 0 500 (by omega) (by exact R.ofHeap hR rfl)).mono ?_; rintro e w2 ⟨ro, rn, rc, rfl, hrs, _, hR2, hg2⟩; have hg2' := grown_of (a := wr) hg2 rfl rfl rfl rfl; have dj2 := hg2'.cell dj hne; have hB2 := hB.trans (below_grown hg2' hB.size hwp); have hsp2 := hsp.below hB2; rw [HU.out] at hrs hR2; clear hg2 hg2') | (go_at_call 11; refine (same_any _ _ _ _ _ _ _ _ _ (by exact Sl.ofHeap hrs rfl) (by exact Sl.ofHeap hsp2 rfl)).mono ?_; rintro e w4 ⟨rfl, q4, hw4⟩; have hb4 : Below w2.heap.size w2 w4 := (by rw [hw4]; exact below_drewN _ _ _); have dj4 : w4.cell? ⟨b, off + j5, none⟩ = some (.slice (O j5) (L j5) (C j5)) := (by rw [hw4]; exact dj2); clear hw4))
                        have hR4 := hR2.below hb4
                        have hB4 := hB2.trans (hb4.mono hB2.size)
                        clear HU hR dj dj2 hB hne hrs hR2 hB2 hsp hsp2 hb4 dj4
                        go_wp2_with fail
                        go_roundw
                        case rel => exact ⟨j5 + 1, by omega, by go_num, by rw [HRST.out]; exact hR4, hB4⟩
                        case measure => simp [intOf]; omega
                      · obtain rfl : j5 = i2 := by omega
                        rw [List.drop_eq_nil_of_le (by omega)] at hR
                        have hR6 : R wr p p (putT ts) 0 := by simpa [putP] using hR
                        clear hR
                        go_wp2_with fail
                        go_loopw [14] (fun i wr => ∃ j6 : Nat, j6 ≤ j3 ∧ i = .int .i64 j6 ∧ R wr p p (putT (ts.drop j6)) 0 ∧ Below w.heap.size w wr) (fun i _ => j3 - (intOf i).toNat)
                        case atStart => exact ⟨0, Nat.zero_le _, rfl, hR6, hB⟩
                        case round =>
                          clear hR6 hB
                          obtain ⟨j6, hj6, rfl, hR, hB⟩ := hrel
                          by_cases hlt : j6 < j3
                          · obtain ⟨b, off, rfl, hbw, hc⟩ := hT.at (by omega)
                            have hlt1 : (j6 : Int) < (j3 : Int) := by omega
                            have cj := hc j6 hlt
                            have dj : wr.cell? ⟨b, off + j6, none⟩ = some (.bool (ts.getD j6 false)) := (hB.cell (p := ⟨b, off + j6, none⟩) hbw).trans cj
                            have hne : some b ≠ some p := by simp; omega
                            rw [putT_cons ts j6 (by omega)] at hR
                            clear hc cj
                            generalize ts.getD j6 false = x at *
                            generalize hrst : putT (ts.drop (j6 + 1)) = rst at *
                            have HRST : Hid (_ = rst) := hrst
                            clear hrst
                            have HU : Hid (_ = _) := boolS_put x rst
                            go_wp2_with fail
                            go_region_held3 (fun w' => w'.cell? ⟨b, off + j6, none⟩ = some (.bool x))
                              (first | go_keep | assumption)
                              (first | (go_at_call 14; refine (bool_any _ p p (enb x ++ rst) 0 (by exact R.ofHeap hR rfl)).mono ?_; rintro e w2 ⟨rfl, hR2, hg2⟩; have hg2' := grown_of (a := wr) hg2 rfl rfl rfl rfl; have dj2 := hg2'.cell dj hne; have hB2 := hB.trans (below_grown hg2' hB.size hwp); clear hg2 hg2'))
                            rw [HU.out] at hR2 ⊢
                            simp only at hR2 ⊢
                            clear HU hR dj dj2 hB hne
                            cases x
                            · go_wp2_with fail
                              go_roundw
                              case rel => exact ⟨j6 + 1, by omega, by go_num, by rw [HRST.out]; exact hR2, hB2⟩
                              case measure => simp [intOf]; omega
                            · go_wp2_with fail
                              go_roundw
                              case rel => exact ⟨j6 + 1, by omega, by go_num, by rw [HRST.out]; exact hR2, hB2⟩
                              case measure => simp [intOf]; omega
                          · obtain rfl : j6 = j3 := by omega
                            rw [List.drop_eq_nil_of_le (by omega)] at hR
                            have hR7 : R wr p p [] 0 := hR
                            clear hR
                            go_wp2_with fail
                            refine (done_any _ _ _ _ _ hR7).mono ?_
                            rintro e w5 ⟨rfl, hw5⟩
                            rw [hw5, show doneS [] 0 = 0 from by decide]
                            clear hw5
                            go_wp2_with fail
                            refine (left_any _ _ _ _ _ hR7).mono ?_
                            rintro e w6 ⟨rfl, hw6⟩
                            rw [hw6, if_pos rfl, List.length_nil]
                            clear hw6 hR7
                            go_wp2_with fail
                            refine (alive_any _).mono ?_
                            rintro e w7 ⟨rfl, hb7⟩
                            have hB7 := hB.trans (hb7.mono hB.size)
                            clear hb7 hB
                            go_wp2_with fail
                            go_ret
                            exact ⟨rfl, hB7⟩
end Go.Proofs.Ytimnjkhfjkcfbaa

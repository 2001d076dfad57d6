/-
  Texts in one: CConv, ChAlive, Same.
-/
import Derived.Test.YtdcebokfnbgkaaaDoorChooseKeepsQ0
import Derived.Test.YtdcebokfnbgkaaaDoorChooseKeepsQ2
import Derived.BigQuiet
import Derived.Laws.BytesArg
import Derived.Laws.IdiomStrings
import Derived.Lib.SmallJoins
import Derived.Deep.QuietTactic
namespace Go.Proofs.YtdcebokfnbgkaaaDoor
open Go.RowKit
theorem conv_str {w : World} {ao : Option Addr} {n cap : Nat} {xs : List Int} (h : Sl w ao n cap xs) : (convert 38 9 (.slice ao n cap)).run Tryd.prog w = .ok (.string (strOfNums xs)) w := by
  cases ao with
  | none =>
    obtain ⟨rfl, rfl⟩ := h.nil rfl
    obtain rfl : xs = [] := List.eq_nil_of_length_eq_zero h.len
    exact run_convert_bytes_nil w _ _ Tryd.underlying38 Tryd.underlying5 _ _ _ Tryd.underlying9
  | some a =>
    have hl := h.len
    have hc := run_convert_bytes_back (P := Tryd.prog) w 38 9 5 a cap (xs.map fun n => UInt8.ofNat n.toNat) Tryd.underlying38 Tryd.underlying5 Tryd.underlying9 (fun j hj => by
      have hj' : j < xs.length := by simpa using hj
      have hb := h.byte xs[j] (List.getElem_mem hj')
      rw [h.cells a rfl j _ (bv_get xs j hj')]
      simp only [List.getElem_map, UInt8.toNat_ofNat', List.getD, List.getElem?_eq_getElem hj', Option.getD_some, Option.some.injEq, Value.int.injEq, true_and]
      omega)
    rw [List.length_map, hl] at hc
    exact hc
open Go.RowKit
theorem sl_mark16 (w : World) (c : Int) (h : 0 ≤ c ∧ c ≤ 255) : Sl (w.alloc (.cells #[.int .u8 c] 5 (1, 2))) (some ⟨w.heap.size, 0, none⟩) 1 1 [c] := by
  refine ⟨rfl, Nat.le_refl _, by decide, fun h => by simp at h, fun a ha i hi => ?_, fun x hx => by simp at hx; omega⟩
  obtain rfl := Option.some.inj ha
  obtain rfl : i = 0 := by omega
  rw [Addr.add_lit, World.cell?_alloc_mark]
  rfl
theorem GL.ofArr {α : Type} {E : El α} (F : E.Fine) {W : World} {g : Nat} {t : TypeId} {l : List α} (A : Arr W g t ((l.map E.c).flatten)) (ok : ∀ x ∈ l, E.ok x W) (hm : l.length ≤ maxLen) : GL E W (some ⟨g, 0, none⟩) l.length l.length l := by
  refine ⟨rfl, Nat.le_refl _, hm, fun h => (by cases h), fun a ha i hi j v hv => ?_, ok⟩
  obtain rfl := Option.some.inj ha
  have hj : j < E.sz := by have := (List.getElem?_eq_some_iff.1 hv).1; rw [F.len] at this; exact this
  rw [Addr.add_lit, Nat.zero_add, A.cell, flat_get E.c E.sz F.len l i j hi hj]
  exact hv
def cE (a : Nat) : CA := ⟨a, 0, ⟨none, 0, 0, []⟩, ⟨none, 0, 0, []⟩⟩
theorem cE_ok (w : World) (a : Nat) (h : a < 18446744073709551616) : (cE a).ok w := ⟨h, by show 0 < _; omega, Sl.nothing w, GL.nothing _ w⟩
def pE (s : Nat) : PA := ⟨1, 3, ⟨some ⟨s, 0, none⟩, 1, 1, [120]⟩⟩
def lE (s : Nat) : List CA := [cE 1, ⟨2, 0, ⟨none, 0, 0, []⟩, ⟨some ⟨s + 1, 0, none⟩, 1, 1, [pE s]⟩⟩, cE 3]
def lF : List CA := [cE 1, cE 2, cE 4]
theorem lE_bad (s : Nat) : badC 1 ((lE s).map CA.cv) = false := rfl
theorem lE_picks (s : Nat) : picksV nullX (lowC ((lE s).map CA.cv)) (allP ((lE s).map CA.cv)) = [(1, 3, [120])] := rfl
theorem lE_low (s : Nat) : lowC ((lE s).map CA.cv) = 0 := rfl
theorem lF_bad : badC 1 (lF.map CA.cv) = false := rfl
theorem lF_picks : picksV nullX (lowC (lF.map CA.cv)) (allP (lF.map CA.cv)) = [] := rfl
theorem lF_low : lowC (lF.map CA.cv) = 0 := rfl
theorem s120 : strOfNums [120] = ⟨#[120]⟩ := by decide
set_option maxRecDepth 100000 in
set_option maxHeartbeats 4000000 in
theorem alive16 (w : World) (hT : Tabs w) : Calls Tryd.prog 7 #[] w fun e w' => e = .returned (.bool true) ∧ Below w.heap.size w w' := by
  have kc := fun (w : World) (C : Array Value) (n c g : Nat) (hg : g = w.heap.size) => Joins.run_convert_bytes_const_at (P := Tryd.prog) w 38 5 C n c g hg Tryd.underlying38 Tryd.underlying5
  obtain ⟨W1, hW1⟩ : ∃ W, W = w.alloc (.cells #[.int .u8 120] 5 (1, 2)) := ⟨_, rfl⟩
  have z1 : W1.heap.size = w.heap.size + 1 := by rw [hW1]; simp
  obtain ⟨W2, hW2⟩ : ∃ W, W = W1.alloc (.cells #[.int .u64 1, .int .u64 3, .slice (some ⟨w.heap.size, 0, none⟩) 1 1] 46) := ⟨_, rfl⟩
  have z2 : W2.heap.size = w.heap.size + 1 + 1 := by rw [hW2]; simp [z1]
  obtain ⟨W3, hW3⟩ : ∃ W, W = W2.alloc (.cells #[.int .u64 1, .int .u64 0, .slice none 0 0, .slice none 0 0, .int .u64 2, .int .u64 0, .slice none 0 0, .slice (some ⟨w.heap.size + 1, 0, none⟩) 1 1, .int .u64 3, .int .u64 0, .slice none 0 0, .slice none 0 0] 49) := ⟨_, rfl⟩
  have C1 : Below w.heap.size w W1 := by rw [hW1]; exact (Below.refl _ _).alloc (Nat.le_refl _) _
  have C2 : Below W1.heap.size W1 W2 := by rw [hW2]; exact (Below.refl _ _).alloc (Nat.le_refl _) _
  have C3 : Below W2.heap.size W2 W3 := by rw [hW3]; exact (Below.refl _ _).alloc (Nat.le_refl _) _
  have S1 : Sl W1 (some ⟨w.heap.size, 0, none⟩) 1 1 [120] := by rw [hW1]; exact sl_mark16 w 120 (by omega)
  have A2 : Arr W2 (w.heap.size + 1) 46 (([pE w.heap.size].map elP.c).flatten) := by rw [hW2, ← z1]; exact heap_alloc_new W1 _
  have A3 : Arr W3 (w.heap.size + 1 + 1) 49 (((lE w.heap.size).map elC.c).flatten) := by rw [hW3, ← z2]; exact heap_alloc_new W2 _
  have S3 := Sl.below (Sl.below S1 C2) C3
  have G2 : GL elP W2 (some ⟨w.heap.size + 1, 0, none⟩) 1 1 [pE w.heap.size] := GL.ofArr elP_fine A2 (fun x hx => by rw [List.mem_singleton.1 hx]; exact ⟨by show 1 < _; omega, by show 3 < _; omega, Sl.below S1 C2⟩) (by show 1 ≤ maxLen; decide)
  have G3 : GL elC W3 (some ⟨w.heap.size + 1 + 1, 0, none⟩) 3 3 (lE w.heap.size) := GL.ofArr elC_fine A3 (fun x hx => by
    unfold lE at hx
    simp only [List.mem_cons, List.not_mem_nil, or_false] at hx
    rcases hx with rfl | rfl | rfl
    · exact cE_ok _ 1 (by omega)
    · exact ⟨by show 2 < _; omega, by show 0 < _; omega, Sl.nothing _, G2.below elP_fine C3⟩
    · exact cE_ok _ 3 (by omega)) (by show 3 ≤ maxLen; decide)
  have E3 : Below w.heap.size w W3 := (C1.trans (C2.mono C1.size)).trans (C3.mono (by omega))
  have CP := pick_any W3 1 _ 3 3 _ G3 (by omega) (fun c hc => by
    unfold lE at hc
    simp only [List.mem_cons, List.not_mem_nil, or_false] at hc
    rcases hc with rfl | rfl | rfl
    · exact Nat.zero_le _
    · show 1 ≤ 1000; omega
    · exact Nat.zero_le _) (fun c hc p hp => by
    unfold lE at hc
    simp only [List.mem_cons, List.not_mem_nil, or_false] at hc
    rcases hc with rfl | rfl | rfl
    · exact absurd hp List.not_mem_nil
    · rw [List.mem_singleton.1 hp]; show 1 ≤ 1000000; omega
    · exact absurd hp List.not_mem_nil) (hT.below E3 hT.two)
  have HE3 : Hid (Below w.heap.size w W3) := E3
  clear C1 C2 C3 S1 A2 A3 S3 G2 G3 E3
  go_enter Tryd.func7, Tryd.ntmps7
  go_wp2_with fail
  rw [← hW1, ← hW2, ← hW3]
  clear kc hW1 hW2 hW3 z1 z2
  refine CP.mono ?_
  rintro e w4 ⟨E4, ⟨hb, -⟩ | ⟨-, po, pn, pc, ys, rfl, GP, hys⟩⟩
  · rw [lE_bad] at hb
    cases hb
  rw [lE_picks] at hys
  rw [lE_low]
  obtain ⟨p0, rfl, hp0⟩ := List.map_eq_singleton_iff.1 hys
  have hpn : pn = 1 := GP.len.symm
  subst hpn
  obtain ⟨W5, hW5⟩ : ∃ W, W = w4.alloc (.cells #[.int .u64 1, .int .u64 0, .slice none 0 0, .slice none 0 0, .int .u64 2, .int .u64 0, .slice none 0 0, .slice none 0 0, .int .u64 4, .int .u64 0, .slice none 0 0, .slice none 0 0] 49) := ⟨_, rfl⟩
  have C5 : Below w4.heap.size w4 W5 := by rw [hW5]; exact (Below.refl _ _).alloc (Nat.le_refl _) _
  have A5 : Arr W5 w4.heap.size 49 ((lF.map elC.c).flatten) := by rw [hW5]; exact heap_alloc_new w4 _
  have G5 : GL elC W5 (some ⟨w4.heap.size, 0, none⟩) 3 3 lF := GL.ofArr elC_fine A5 (fun x hx => by
    unfold lF at hx
    simp only [List.mem_cons, List.not_mem_nil, or_false] at hx
    rcases hx with rfl | rfl | rfl
    · exact cE_ok _ 1 (by omega)
    · exact cE_ok _ 2 (by omega)
    · exact cE_ok _ 4 (by omega)) (by show 3 ≤ maxLen; decide)
  have E5 := HE3.out.trans ((E4.trans (C5.mono E4.size)).mono HE3.out.size)
  have CQ := pick_any W5 1 _ 3 3 _ G5 (by omega) (fun c hc => by
    unfold lF at hc
    simp only [List.mem_cons, List.not_mem_nil, or_false] at hc
    rcases hc with rfl | rfl | rfl <;> exact Nat.zero_le _) (fun c hc p hp => by
    unfold lF at hc
    simp only [List.mem_cons, List.not_mem_nil, or_false] at hc
    rcases hc with rfl | rfl | rfl <;> exact absurd hp List.not_mem_nil) (hT.below E5 hT.two)
  have GP5 := GP.below elP_fine C5
  have HE5 : Hid (Below w.heap.size w W5) := E5
  clear CP hys GP A5 G5 E4 C5 E5 HE3
  go_wp2_with fail
  rw [← hW5]
  clear hW5
  refine CQ.mono ?_
  rintro e w6 ⟨E6, ⟨hb, -⟩ | ⟨-, qo, qn, qc, zs, rfl, GQ, hzs⟩⟩
  · rw [lF_bad] at hb
    cases hb
  rw [lF_picks] at hzs
  rw [lF_low]
  obtain rfl : zs = [] := List.map_eq_nil_iff.1 hzs
  have hqn : qn = 0 := GQ.len.symm
  subst hqn
  have GP6 := GP5.below elP_fine E6
  obtain ⟨pb, poff, rfl, hP⟩ := GP6.atP (by omega)
  have p2 := (hP 0 (by show 0 < 1; omega)).c2
  have p2 : w6.cell? ⟨pb, poff + 2, none⟩ = some (.slice p0.b.ao p0.b.n p0.b.cap) := by
    have e : poff + 0 * 3 + 2 = poff + 2 := by omega
    rw [e] at p2
    exact p2
  have hpx : p0.b.xs = [120] := congrArg (fun t => t.2.2) hp0
  have hS := (GP6.ok p0 (List.mem_singleton.2 rfl)).b
  rw [hpx] at hS
  have hcv := conv_str hS
  rw [s120] at hcv
  have E6b := HE5.out.trans (E6.mono HE5.out.size)
  have CN := null_any w6 (hT.below E6b hT.two)
  have HE6 : Hid (Below w.heap.size w w6) := E6b
  clear CQ hzs GP5 GP6 hP GQ E6 HE5 E6b hS hpx hp0
  go_wp2_with (go_at_call 14; refine CN.mono ?_; rintro e w7 ⟨ro, rc, rfl, -, E7, -⟩)
  go_ret
  exact ⟨rfl, HE6.out.trans (E7.mono HE6.out.size)⟩
open Go.RowKit
theorem below_drewN (w : World) (q B : Nat) : Below B w (w.drewN q) := ⟨rfl, rfl, rfl, Nat.le_refl _, fun _ _ => rfl⟩
theorem lists_of (n : Nat) (xs ys : List Int) (h1 : xs.length = n) (h2 : ys.length = n) (h : ∀ j, j < n → xs.getD j 0 = ys.getD j 0) : xs = ys := by
  apply List.ext_getElem (by omega)
  intro j hj hj2
  have := h j (by omega)
  simpa [List.getD, hj, hj2] using this
theorem Sl.at {w : World} {ao : Option Addr} {n cap : Nat} {xs : List Int} (h : Sl w ao n cap xs) (hn : 0 < n) :
    ∃ b off, ao = some ⟨b, off, none⟩ ∧ ∀ i, i < n → w.cell? ⟨b, off + i, none⟩ = some (.int .u8 (xs.getD i 0)) := by
  cases ao with
  | none => have := (h.nil rfl).1; omega
  | some a =>
    obtain ⟨b, off, spot⟩ := a
    have hc := h.cell _ rfl 0 hn
    have hs : spot = none := by simpa [Addr.add] using World.cell?_spot hc
    subst hs
    exact ⟨b, off, rfl, fun i hi => by have := h.cell _ rfl i hi; rw [Addr.add_lit] at this; exact this⟩
set_option maxHeartbeats 800000 in
theorem same_any (w : World) (ao bo : Option Addr) (n cap m cap2 : Nat) (xs ys : List Int) (h : Sl w ao n cap xs) (h2 : Sl w bo m cap2 ys) :
    Calls Tryd.prog 13 #[.slice ao n cap, .slice bo m cap2] w fun e w' =>
      e = .returned (.bool (decide (xs = ys))) ∧ ∃ q, w' = w.drewN q := by
  have hl := h.len
  have hl2 := h2.len
  have hle := h.le
  have hmx := h.mx
  unfold maxLen at hmx
  by_cases hnm : n = m
  · subst hnm
    have hne : ((n : Int) != (n : Int)) = false := by simp
    go_enter Tryd.func13, Tryd.ntmps13
    go_wp2
    go_loopw [5] (fun i wr => ∃ k q : Nat, k ≤ n ∧ i = .int .i64 k ∧ wr = w.drewN q ∧ ∀ j, j < k → xs.getD j 0 = ys.getD j 0) (fun i _ => n - (intOf i).toNat)
    case atStart => exact ⟨0, 0, Nat.zero_le _, rfl, rfl, fun j hj => by omega⟩
    case round =>
      obtain ⟨k, q, hk, rfl, rfl, heq⟩ := hrel
      by_cases hlt : k < n
      · obtain ⟨b, off, rfl, hc⟩ := h.at (by omega)
        obtain ⟨b2, off2, rfl, hc2⟩ := h2.at (by omega)
        have c1 := hc k hlt
        have c2 := hc2 k hlt
        have hlt1 : (k : Int) < (n : Int) := by omega
        clear hc hc2
        have k1 : k < xs.length := by omega
        have k2 : k < ys.length := by omega
        by_cases he : xs[k] = ys[k]
        · have hb : (xs[k] != ys[k]) = false := by simp [he]
          have hE : Hid (xs[k] = ys[k]) := he
          clear he
          go_wp2
          go_quiet (fail)
          go_wp2
          go_roundw
          case rel =>
            refine ⟨k + 1, _, by omega, by go_num, rfl, fun j hj => ?_⟩
            by_cases hjk : j < k
            · exact heq j hjk
            · obtain rfl : j = k := by omega
              simpa [List.getD, k1, k2] using hE.out
          case measure => simp [intOf]; omega
        · have hb : (xs[k] != ys[k]) = true := by simp [he]
          have hE : Hid (¬ xs[k] = ys[k]) := he
          clear he
          go_wp2
          go_quiet (fail)
          go_wp2
          go_ret
          have hd : decide (xs = ys) = false := decide_eq_false (fun hx => by subst hx; exact hE.out rfl)
          rw [hd, World.drewN_drewN]
          exact ⟨rfl, _, rfl⟩
      · obtain rfl : k = n := by omega
        go_wp2
        go_ret
        have hd : decide (xs = ys) = true := decide_eq_true (lists_of k xs ys hl hl2 heq)
        rw [hd]
        exact ⟨rfl, _, rfl⟩
  · have hne : ((n : Int) != (m : Int)) = true := by simp; omega
    go_enter Tryd.func13, Tryd.ntmps13
    go_wp2
    go_ret
    have hd : decide (xs = ys) = false := decide_eq_false (fun hx => by subst hx; omega)
    rw [hd]
    exact ⟨rfl, 0, rfl⟩
end Go.Proofs.YtdcebokfnbgkaaaDoor

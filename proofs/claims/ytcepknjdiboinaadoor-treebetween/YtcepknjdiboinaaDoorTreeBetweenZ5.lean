/-
  slices.BinarySearchFunc over keys that rise, and tree.place.
-/
import Derived.Test.YtcepknjdiboinaaDoorTreeBetweenZ4
import Derived.Test.YtcepknjdiboinaaDoorTreeBetweenZ3
import Derived.BigQuiet
namespace Go.Proofs.YtcepknjdiboinaaDoor
open Go.RowKit

/-- Where a key stands among some that rise: how many are below it; is it one of them? -/
structure At (ks : List Part) (key : List Int) (i : Nat) (b : Bool) : Prop where
  le : i ≤ ks.length
  lo : ∀ j (h : j < ks.length), j < i → cmpL ks[j].xs key < 0
  hi : ∀ j (h : j < ks.length), i ≤ j → ¬ cmpL ks[j].xs key < 0
  eq : b = true ↔ ∃ h : i < ks.length, ks[i].xs = key

/-- What a search answers. -/
def Found (w : World) (ks : List Part) (key : List Int) (e : Ending) (w' : World) : Prop := ∃ (i : Nat) (b : Bool), e = .returned (.tuple #[.int .i64 (i : Nat), .bool b]) ∧ At ks key i b ∧ Below w.heap.size w w'

set_option maxHeartbeats 1000000 in
set_option maxRecDepth 100000 in
theorem bsf_any (w : World) (ko xo : Option Addr) (n kc m xc : Nat) (ks : List Part) (key : List Int) (h : KL w ko n kc ks) (hx : Sl w xo m xc key) (hs : ks.Pairwise fun a b => cmpL a.xs b.xs < 0) (hn : n ≤ 1000000) :
    Calls Tryd.prog 76 #[.slice ko n kc, .slice xo m xc, .func (.func 44) #[] #[]] w (Found w ks key) := by
  have hl := h.len
  have hni : (n : Int) ≤ 1000000 := by omega
  go_enter Tryd.func76, Tryd.ntmps76
  go_wp2
  go_loopw [9, 10] (fun a b wr => ∃ i j : Nat, i ≤ j ∧ j ≤ n ∧ a = .int .i64 i ∧ b = .int .i64 j ∧ wr = w ∧ (∀ t (h : t < ks.length), t < i → cmpL ks[t].xs key < 0) ∧ (∀ t (h : t < ks.length), j ≤ t → ¬ cmpL ks[t].xs key < 0)) (fun a b _ => (intOf b).toNat - (intOf a).toNat)
  case atStart => exact ⟨0, n, Nat.zero_le _, Nat.le_refl _, rfl, rfl, rfl, fun t _ ht => by omega, fun t h1 h2 => by omega⟩
  case round =>
    obtain ⟨i, j, hij, hj, rfl, rfl, rfl, h1, h2⟩ := hrel
    by_cases hlt : i < j
    · have hlt' : (i : Int) < (j : Int) := by omega
      obtain ⟨b, off, rfl, hc⟩ := h.vl.at (by omega)
      have c1 := hc ((i + j) / 2) (by simp; omega)
      have S1 := h.sl (ks[(i + j) / 2]'(by omega)) (List.getElem_mem _)
      obtain ⟨q, hq⟩ : ∃ q, q = ks[(i + j) / 2]'(by omega) := ⟨_, rfl⟩
      have H1 : Hid (∀ t (h : t < ks.length), t < i → cmpL ks[t].xs key < 0) := h1
      have H2 : Hid (∀ t (h : t < ks.length), j ≤ t → ¬ cmpL ks[t].xs key < 0) := h2
      simp only [List.getElem_map] at c1
      rw [← hq] at S1 c1
      have HQ : Hid (q = ks[(i + j) / 2]'(by omega)) := hq
      clear hq hc h1 h2
      unfold Part.val at c1
      go_wp2_with (go_at_call 44; refine (bcmp_any wr q.ao xo q.n q.cap m xc q.xs key S1 hx).mono ?_; rintro e w2 ⟨rfl, hw⟩; obtain rfl := hw.symm; obtain ⟨c, hcq⟩ : ∃ c, c = cmpL q.xs key := ⟨_, rfl⟩; rw [← hcq]; have HC : Hid (c = cmpL q.xs key) := hcq; clear hcq)
      · have hneg : c < 0 := by assumption
        go_roundw
        case rel =>
          refine ⟨(i + j) / 2 + 1, j, by omega, hj, by go_num, rfl, trivial, fun t ht hti => ?_, fun t ht htj => by have := H2.out t ht htj; omega⟩
          have hq := HQ.out
          have hc := HC.out
          by_cases hth : t = (i + j) / 2
          · subst hth
            rw [← hq, ← hc]
            exact hneg
          · have h3 := List.pairwise_iff_getElem.1 hs t ((i + j) / 2) ht (by omega) (by omega)
            rw [← hq] at h3
            exact cmpL_lt_trans _ _ _ h3 (by rw [← hc]; exact hneg)
        case measure => simp [intOf]; omega
      · have hpos : ¬ c < 0 := by omega
        go_roundw
        case rel =>
          refine ⟨i, (i + j) / 2, by omega, by omega, rfl, by go_num, trivial, H1.out, fun t ht hti => ?_⟩
          have hq := HQ.out
          have hc := HC.out
          by_cases hth : t = (i + j) / 2
          · subst hth
            rw [← hq, ← hc]
            exact hpos
          · intro h4
            have h3 := List.pairwise_iff_getElem.1 hs ((i + j) / 2) t (by omega) ht (by omega)
            rw [← hq] at h3
            have := cmpL_lt_trans _ _ _ h3 h4
            rw [← hc] at this
            exact hpos this
        case measure => simp [intOf]; omega
    · obtain rfl : i = j := by omega
      have H1 : Hid (∀ t (h : t < ks.length), t < i → cmpL ks[t].xs key < 0) := h1
      have H2 : Hid (∀ t (h : t < ks.length), i ≤ t → ¬ cmpL ks[t].xs key < 0) := h2
      clear h1 h2
      by_cases hin : i < n
      · have hin' : (i : Int) < (n : Int) := by omega
        obtain ⟨b, off, rfl, hc⟩ := h.vl.at (by omega)
        have c1 := hc i (by simp; omega)
        have hil : i < ks.length := by omega
        have S1 := h.sl ks[i] (List.getElem_mem hil)
        obtain ⟨q, hq⟩ : ∃ q, q = ks[i] := ⟨_, rfl⟩
        simp only [List.getElem_map] at c1
        rw [← hq] at S1 c1
        have HQ : Hid (q = ks[i]) := hq
        clear hq hc
        unfold Part.val at c1
        go_wp2_with (go_at_call 44; refine (bcmp_any wr q.ao xo q.n q.cap m xc q.xs key S1 hx).mono ?_; rintro e w2 ⟨rfl, hw⟩; obtain rfl := hw.symm; obtain ⟨c, hcq⟩ : ∃ c, c = cmpL q.xs key := ⟨_, rfl⟩; rw [← hcq]; have HC : Hid (c = cmpL q.xs key) := hcq; clear hcq)
        go_ret2
        refine ⟨i, _, rfl, ⟨by omega, H1.out, fun j h k => by have := H2.out j h k; omega, ?_⟩, Below.refl _ _⟩
        have hq := HQ.out
        have hc := HC.out
        constructor
        · intro hb
          have : c = 0 := by simpa using hb
          exact ⟨hil, by rw [← hq]; exact cmpL_eq _ _ (by rw [← hc]; exact this)⟩
        · rintro ⟨_, he⟩
          rw [← hq] at he
          have : c = 0 := by rw [hc, he]; exact cmpL_self _
          simpa using this
      · have hin' : ¬ (i : Int) < (n : Int) := by omega
        go_wp2
        go_ret2
        refine ⟨i, false, rfl, ⟨by omega, H1.out, fun j h k => by have := H2.out j h k; omega, ?_⟩, Below.refl _ _⟩
        constructor
        · intro hb
          simp at hb
        · rintro ⟨hb, _⟩
          omega

/-- tree.place, of a node whose keys rise. -/
theorem place_any (w : World) (d : Nd) (h : d.ok w) (xo : Option Addr) (m xc : Nat) (key : List Int) (hx : Sl w xo m xc key) (hs : d.ks.Pairwise fun a b => cmpL a.xs b.xs < 0) (hn : d.ks.length ≤ 1000000) :
    Calls Tryd.prog 57 #[d.ptr, .slice xo m xc] w (Found w d.ks key) := by
  have c1 := h.c1
  have hk := h.kl
  unfold Nd.ptr
  go_enter Tryd.func57, Tryd.ntmps57
  go_wp2_with fail
  refine (bsf_any w d.ko xo d.ks.length d.kc m xc d.ks key hk hx hs hn).mono ?_
  rintro e w' ⟨i, b, rfl, hat, hb⟩
  go_wp2
  go_ret2
  exact ⟨i, b, rfl, hat, hb⟩
end Go.Proofs.YtcepknjdiboinaaDoor

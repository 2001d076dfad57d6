/-
  The program's Bytes; alive.
-/
import Derived.Test.YtbfcilfdeemnpaaPOp
import Derived.Test.YtbfcilfdeemnpaaMC
import Derived.Test.YtbfcilfdeemnpaaMB
namespace Go.Proofs.Ytbfcilfdeemnpaa
open Go.RowKit

theorem OWL.none {w : World} {o : OA} (h : o.ok w) (hz : o.sn = 0) : OWL w 0 o.so o.sn o.sc [] :=
  ⟨by rw [hz]; rfl, h.le, h.mx, h.nil, fun _ _ i hi => by simp at hi, fun _ hy => by simp at hy⟩
theorem pput_leaf (w : World) (ao : Option Addr) (n cap : Nat) (xs : List Int) (h : Sl w ao n cap xs) (hr : n ≤ 800000) (o : OA) (ho : o.ok w) (hf : o.s.fits) (hz : o.sn = 0) :
    Calls Try.prog 29 #[.slice ao n cap, o.val] w (PutPost w (xs ++ putS o.s 0)) := by
  have := pput_gen w ao n cap xs h 800000 (by omega) hr o ho hf [] (OWL.none ho hz) (by decide) (fun x hx => by simp at hx) (fun _ _ _ _ _ x hx => by simp at hx)
  simpa using this
theorem pput_any (w : World) (ao : Option Addr) (n cap : Nat) (xs : List Int) (h : Sl w ao n cap xs) (hr : n ≤ 700000) (o : OA) (ho : o.ok w) (hf : o.s.fits) (l : List OA) (L : OWL w 0 o.so o.sn o.sc l) (hl8 : l.length ≤ 8) (hlf : ∀ x ∈ l, x.s.fits) (hlz : ∀ x ∈ l, x.sn = 0) :
    Calls Try.prog 29 #[.slice ao n cap, o.val] w (PutPost w (xs ++ (putS o.s l.length ++ (l.map fun x => putS x.s 0).flatten))) :=
  pput_gen w ao n cap xs h 700000 (by omega) hr o ho hf l L hl8 hlf (fun W bo m c ys x hx S hm hok => pput_leaf W bo m c ys S (by omega) x hok (hlf x hx) (hlz x hx))

/-- What is put of an operation and its parts. -/
def putA (o : OA) (l : List OA) : List Int := putS o.s l.length ++ (l.map fun x => putS x.s 0).flatten
theorem putA_P (o : OA) (l : List OA) : putA o l = putP (o.s, l.map OA.s) := by
  unfold putA putP
  simp [Function.comp_def]
/-- Of what is right. -/
theorem right_parts {o : OA} {l : List OA} {w : World} (h : rightO o.s (l.map sn0) = true) (ho : o.ok w) (hl : ∀ x ∈ l, x.ok w) : o.s.fits ∧ l.length ≤ 8 ∧ (∀ x ∈ l, x.s.fits) ∧ ∀ x ∈ l, x.sn = 0 := by
  have h1 := rightP_of h
  have h2 := rightP_fits h1 ho.wf (fun s hs => by
    obtain ⟨q, hq, rfl⟩ := List.mem_map.1 hs
    obtain ⟨x, hx, rfl⟩ := List.mem_map.1 hq
    exact (hl x hx).wf)
  obtain ⟨f1, f2, f3⟩ := h2
  simp only [List.length_map] at f2
  refine ⟨f1, f2, fun x hx => f3 x.s ?_, fun x hx => ?_⟩
  · rw [List.map_map]
    exact List.mem_map.2 ⟨x, hx, rfl⟩
  · have := right_flat h
    have h3 : ∀ s ∈ l.map sn0, s.2 = 0 := by
      rw [this]
      intro s hs
      obtain ⟨q, _, rfl⟩ := List.mem_map.1 hs
      rfl
    exact h3 (sn0 x) (List.mem_map.2 ⟨x, hx, rfl⟩)

/-- What Bytes answers: the bytes, or nothing and a kind. -/
def BytesPost (w : World) (b : Bool) (ys : List Int) (e : Ending) (w' : World) : Prop :=
  (∃ bo m c, e = .returned (.tuple #[.slice bo m c, .int .i64 (kindO b)]) ∧ Sl w' bo m c (if b then ys else [])) ∧ Below w.heap.size w w'

set_option maxRecDepth 100000 in
set_option maxHeartbeats 4000000 in
theorem pbytes6_any (w : World) (o : OA) (l : List OA) (h : o.ok w) (hs : OWL w 0 o.so o.sn o.sc l) :
    Calls Try.prog 11 #[o.val] w (BytesPost w (rightO o.s (l.map sn0)) (putA o l)) := by
  have B : Below w.heap.size w (w.alloc (Obj.cells o.cells.toArray 28)) := (Below.refl _ w).alloc (Nat.le_refl _) _
  have K : OC (w.alloc (Obj.cells o.cells.toArray 28)) w.heap.size o := OC.new w o
  have h1 := h.below B
  have hs1 := hs.below B
  unfold OA.cells at B K
  have hp : rightO o.s (l.map sn0) = true → o.s.fits ∧ l.length ≤ 8 ∧ (∀ x ∈ l, x.s.fits) ∧ ∀ x ∈ l, x.sn = 0 := fun q => right_parts q h hs.ok
  clear h hs
  cases hb : rightO o.s (l.map sn0) with
  | false =>
    clear K hp
    unfold OA.val
    go_enter Try.func11, Try.ntmps11
    go_wp2_with (go_at_call 27; refine (pRight_any _ o l h1 hs1).mono ?_; rintro e w2 ⟨rfl, C⟩; have D := B.trans (C.mono B.size); rw [hb]; show _)
    go_ret2
    exact ⟨⟨none, 0, 0, rfl, Sl.nothing _⟩, D⟩
  | true =>
    obtain ⟨p1, p2, p3, p4⟩ := hp hb
    clear hp
    unfold OA.val
    go_enter Try.func11, Try.ntmps11
    go_wp2_with (first
      | (go_at_call 27; refine (pRight_any _ o l h1 hs1).mono ?_; rintro e w2 ⟨rfl, C⟩; have D := B.trans (C.mono B.size); rw [hb]; have K2 := K.keep C; obtain ⟨q0, q1, q2, q3, q4, q5, q6, q7, q8, q9⟩ := K2.cs; have h2 := h1.below C; have hs2 := hs1.below C; clear K K2 C h1 hs1)
      | (go_at_call 29; refine (pput_any _ none 0 0 [] (Sl.nothing _) (by omega) o h2 p1 l hs2 p2 p3 p4).mono ?_; rintro e w3 ⟨b3, m3, c3, rfl, S3, C⟩; have D3 := D.trans (C.mono D.size)))
    go_ret2
    exact ⟨⟨b3, m3, c3, rfl, S3⟩, D3⟩

def liveO : OA := ⟨7, ⟨#[97]⟩, ⟨#[98]⟩, ⟨#[]⟩, 0, ⟨#[]⟩, ⟨none, 0, 0, []⟩, ⟨none, 0, 0, []⟩, false, none, 0, 0⟩
theorem liveO_ok (w : World) : liveO.ok w :=
  ⟨by decide, by decide, by decide, by decide, by decide, by decide, Sl.nothing w, Sl.nothing w, Nat.le_refl _, Nat.zero_le _, fun _ => ⟨rfl, rfl⟩⟩

set_option maxHeartbeats 4000000 in
set_option maxRecDepth 100000 in
theorem alive6 (w : World) :
    Calls Try.prog 10 #[] w fun e w' => e = .returned (.bool true) ∧ Below w.heap.size w w' := by
  go_enter Try.func10, Try.ntmps10
  go_wp2_with fail
  refine (pbytes6_any w liveO [] (liveO_ok w) (OWL.none (liveO_ok w) rfl)).mono ?_
  rintro e w1 ⟨⟨ao, n, c, rfl, S1⟩, B1⟩
  have hb : rightO liveO.s (([] : List OA).map sn0) = true := by decide
  have hk : putA liveO [] = [7, 1, 97, 1, 98, 0, 0, 0, 0, 0, 0, 0] := by decide
  rw [hb] at S1 ⊢
  rw [hk] at S1
  rw [if_pos rfl] at S1
  clear hk hb
  have C1 : Below w1.heap.size w1 (w1.alloc (.cells (bv [7, 1, 97, 1, 98, 0, 0, 0, 0, 0, 0, 0]).toArray 5)) := (Below.refl _ w1).alloc (Nat.le_refl _) _
  have S2 := Sl.new w1 [7, 1, 97, 1, 98, 0, 0, 0, 0, 0, 0, 0] (by intro x hx; simp at hx; omega) (by decide)
  have S3 := S1.below C1
  have B2 : Below w.heap.size w (w1.alloc (.cells (bv [7, 1, 97, 1, 98, 0, 0, 0, 0, 0, 0, 0]).toArray 5)) := B1.trans (C1.mono B1.size)
  go_wp2_with fail
  refine (same_any _ ao _ n c 12 12 _ _ S3 S2).mono ?_
  rintro e w' ⟨rfl, q, hw⟩
  rw [decide_eq_true rfl]
  go_wp2
  go_ret
  exact ⟨rfl, belN B2 q⟩
end Go.Proofs.Ytbfcilfdeemnpaa

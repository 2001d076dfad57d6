/-
  The reference's Right (any operation that is small), Bytes.
-/
import Derived.Test.YtbfcilfdeemnpaaRRight
import Derived.Test.YtbfcilfdeemnpaaROp
import Derived.Test.YtbfcilfdeemnpaaPBytes6
namespace Go.Proofs.Ytbfcilfdeemnpaa
open Go.RowKit

theorem rright_leaf : ∀ (d : Nat) (w : World) (o : OA) (l : List (OD d)), OW w (d + 1) (o, l) → lightD (d + 1) (o, l) = true → 1 ≤ o.kind → o.kind ≤ 4 →
    Calls Try.prog 30 #[o.val] w fun e w' => e = .returned (.int .i64 (kindO (leaf o.s o.sn))) ∧ Below w.heap.size w w'
  | 0, w, o, l, h, hl, h1, h4 => by
    have := rright_step 0 w o l h hl (fun V y hy => by
      have := List.all_eq_true.1 (Bool.and_eq_true_iff.1 hl).2 y hy
      simp [lightD] at this)
    rw [right_not6 (by omega), List.length_map, show l.length = o.sn from h.2.1] at this
    exact this
  | d + 1, w, o, l, h, hl, h1, h4 => by
    have := rright_step (d + 1) w o l h hl (fun V y hy wy a1 a2 => rright_leaf d V y.1 y.2 wy (List.all_eq_true.1 (Bool.and_eq_true_iff.1 hl).2 y hy) a1 a2)
    rw [right_not6 (by omega), List.length_map, show l.length = o.sn from h.2.1] at this
    exact this
/-- The reference's Right, of an operation that is small. -/
theorem rright6 : ∀ (d : Nat) (w : World) (o : OA) (l : List (OD d)), OW w (d + 1) (o, l) → lightD (d + 1) (o, l) = true →
    Calls Try.prog 30 #[o.val] w fun e w' => e = .returned (.int .i64 (kindO (rightO o.s (l.map (snD d))))) ∧ Below w.heap.size w w'
  | 0, w, o, l, h, hl => rright_step 0 w o l h hl (fun V y hy => by
      have := List.all_eq_true.1 (Bool.and_eq_true_iff.1 hl).2 y hy
      simp [lightD] at this)
  | d + 1, w, o, l, h, hl => rright_step (d + 1) w o l h hl (fun V y hy wy a1 a2 => rright_leaf d V y.1 y.2 wy (List.all_eq_true.1 (Bool.and_eq_true_iff.1 hl).2 y hy) a1 a2)

theorem rput_leaf (w : World) (ao : Option Addr) (n cap : Nat) (xs : List Int) (h : Sl w ao n cap xs) (hr : n ≤ 800000) (o : OA) (ho : o.ok w) (hf : o.s.fits) (hz : o.sn = 0) :
    Calls Try.prog 31 #[.slice ao n cap, o.val] w (PutPost w (xs ++ putS o.s 0)) := by
  have := rput_gen w ao n cap xs h 800000 (by omega) hr o ho hf [] (OWL.none ho hz) (by decide) (fun x hx => by simp at hx) (fun _ _ _ _ _ x hx => by simp at hx)
  simpa using this
theorem rput_any (w : World) (ao : Option Addr) (n cap : Nat) (xs : List Int) (h : Sl w ao n cap xs) (hr : n ≤ 700000) (o : OA) (ho : o.ok w) (hf : o.s.fits) (l : List OA) (L : OWL w 0 o.so o.sn o.sc l) (hl8 : l.length ≤ 8) (hlf : ∀ x ∈ l, x.s.fits) (hlz : ∀ x ∈ l, x.sn = 0) :
    Calls Try.prog 31 #[.slice ao n cap, o.val] w (PutPost w (xs ++ (putS o.s l.length ++ (l.map fun x => putS x.s 0).flatten))) :=
  rput_gen w ao n cap xs h 700000 (by omega) hr o ho hf l L hl8 hlf (fun W bo m c ys x hx S hm hok => rput_leaf W bo m c ys S (by omega) x hok (hlf x hx) (hlz x hx))

set_option maxRecDepth 100000 in
set_option maxHeartbeats 4000000 in
/-- l: the parts, flat. -/
theorem rbytes6_any (d : Nat) (w : World) (o : OA) (pl : List (OD d)) (h : OW w (d + 1) (o, pl)) (hl : lightD (d + 1) (o, pl) = true) (l : List OA) (he : l = pl.map (topD d)) :
    Calls Try.prog 12 #[o.val] w (BytesPost w (rightO o.s (l.map sn0)) (putA o l)) := by
  have e1 : l.map sn0 = pl.map (snD d) := by rw [he]; exact map_flat d pl
  have B : Below w.heap.size w (w.alloc (Obj.cells o.cells.toArray 28)) := (Below.refl _ w).alloc (Nat.le_refl _) _
  have K : OC (w.alloc (Obj.cells o.cells.toArray 28)) w.heap.size o := OC.new w o
  have CR := rright6 d _ o pl (h.below B) hl
  rw [← e1] at CR
  have hs : OWL w 0 o.so o.sn o.sc l := by rw [he]; exact h.subs.flat
  have h1 := h.1.below B
  have hs1 := hs.below B
  unfold OA.cells at B K CR
  have hp : rightO o.s (l.map sn0) = true → o.s.fits ∧ l.length ≤ 8 ∧ (∀ x ∈ l, x.s.fits) ∧ ∀ x ∈ l, x.sn = 0 := fun q => right_parts q h.1 hs.ok
  clear h hs hl he e1
  cases hb : rightO o.s (l.map sn0) with
  | false =>
    rw [hb] at CR
    clear K hp
    unfold OA.val
    go_enter Try.func12, Try.ntmps12
    go_wp2_with (go_at_call 30; refine CR.mono ?_; rintro e w2 ⟨rfl, C⟩; have D := B.trans (C.mono B.size); rw [show kindO false = 6 from rfl])
    go_ret2
    exact ⟨⟨none, 0, 0, rfl, Sl.nothing _⟩, D⟩
  | true =>
    rw [hb] at CR
    obtain ⟨p1, p2, p3, p4⟩ := hp hb
    clear hp
    unfold OA.val
    go_enter Try.func12, Try.ntmps12
    go_wp2_with (first
      | (go_at_call 30; refine CR.mono ?_; rintro e w2 ⟨rfl, C⟩; have D := B.trans (C.mono B.size); rw [show kindO true = 0 from rfl]; have K2 := K.keep C; obtain ⟨q0, q1, q2, q3, q4, q5, q6, q7, q8, q9⟩ := K2.cs; have h2 := h1.below C; have hs2 := hs1.below C; clear K K2 C h1 hs1)
      | (go_at_call 31; refine (rput_any _ none 0 0 [] (Sl.nothing _) (by omega) o h2 p1 l hs2 p2 p3 p4).mono ?_; rintro e w3 ⟨b3, m3, c3, rfl, S3, C⟩; have D3 := D.trans (C.mono D.size)))
    go_ret2
    exact ⟨⟨b3, m3, c3, rfl, S3⟩, D3⟩
end Go.Proofs.Ytbfcilfdeemnpaa

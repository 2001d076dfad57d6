/-
  string(b); the reference's Below.
-/
import Derived.Test.YtepkjnklapamjaaCText
import Derived.Laws.BytesArg
import Derived.Laws.IdiomStrings
namespace Go.Proofs.Ytepkjnklapamjaa
open Go.RowKit

theorem sb_str {xs : List Int} (h : Byt xs) : sb (strOfNums xs) = xs := by
  unfold sb
  rw [strOfNums_data, List.map_map]
  refine (List.map_congr_left fun x hx => ?_).trans (List.map_id xs)
  have := h x hx
  simp only [Function.comp_apply, id_eq, UInt8.toNat_ofNat']
  omega
theorem conv_str {w : World} {ao : Option Addr} {n cap : Nat} {xs : List Int} (h : Sl w ao n cap xs) : (convert 27 9 (.slice ao n cap)).run Try.prog w = .ok (.string (strOfNums xs)) w := by
  cases ao with
  | none =>
    obtain ⟨rfl, rfl⟩ := h.nil rfl
    obtain rfl : xs = [] := List.eq_nil_of_length_eq_zero h.len
    exact run_convert_bytes_nil w _ _ Try.underlying27 Try.underlying5 _ _ _ Try.underlying9
  | some a =>
    have hl := h.len
    have hc := run_convert_bytes_back (P := Try.prog) w 27 9 5 a cap (xs.map fun n => UInt8.ofNat n.toNat) Try.underlying27 Try.underlying5 Try.underlying9 (fun j hj => by
      have hj' : j < xs.length := by simpa using hj
      have hb := h.byte xs[j] (List.getElem_mem hj')
      rw [h.cells a rfl j _ (bv_get xs j hj')]
      simp only [List.getElem_map, UInt8.toNat_ofNat', List.getD, List.getElem?_eq_getElem hj', Option.getD_some, Option.some.injEq, Value.int.injEq, true_and]
      omega)
    rw [List.length_map, hl] at hc
    exact hc

set_option maxHeartbeats 1000000 in
set_option maxRecDepth 100000 in
theorem rbelow_any (w : World) (ao bo : Option Addr) (n cap m cap2 : Nat) (xs ys : List Int) (h : Sl w ao n cap xs) (h2 : Sl w bo m cap2 ys) :
    Calls Try.prog 23 #[.slice ao n cap, .slice bo m cap2] w fun e w' => e = .returned (.bool (decide (cmpL xs ys < 0))) ∧ Below w.heap.size w w' := by
  have c1 := conv_str h
  have c2 := conv_str h2
  have hn := h.len
  have hm := h2.len
  have m1 := h.mx
  have m2 := h2.mx
  have l1 := h.le
  have l2 := h2.le
  go_enter Try.func23, Try.ntmps23
  go_wp2_with fail
  refine (text_any w (strOfNums xs) (strOfNums ys) (by rw [strOfNums_size]; omega) (by rw [strOfNums_size]; omega)).mono ?_
  rintro e w1 ⟨rfl, B⟩
  rw [sb_str h.byte, sb_str h2.byte]
  go_wp2
  go_ret
  exact ⟨rfl, B⟩
end Go.Proofs.Ytepkjnklapamjaa

/-
  What Apply keeps; Clone, Cells of a tablet that stands; the reference's Same, of cells that are the same.
-/
import Derived.Test.YthlpccajnmkbjaaGreatDoorY51
import Derived.Test.YthlpccajnmkbjaaGreatDoorY52
namespace Go.Proofs.YthlpccajnmkbjaaGreatDoor
open Go.RowKit

theorem inRows_all (r : ByteArray) : inRows ⟨#[]⟩ ⟨#[]⟩ r = true := by
  refine decide_eq_true ⟨fun h => ?_, .inl rfl⟩
  have : cmpL (sb r) [] < 0 := h
  cases hs : sb r <;> rw [hs] at this <;> simp [cmpL] at this
theorem mAll_stand {f t : ByteArray} {w : World} {row : ByteArray} (hrow : inRows f t row = true) : ∀ (l : List OA) (m : Nat) (cs : List CV), Stand f t m cs → (∀ x ∈ l, x.ok w ∧ leaf x.s x.sn = true ∧ x.row = row) → Stand f t (m + l.length) (mAll mStep l cs).1
  | [], m, cs, h, _ => h
  | o :: l, m, cs, h, hx => by
    obtain ⟨h1, h2, h3⟩ := hx o (List.mem_cons_self ..)
    have S1 := h.step h1 h2 (.inl (by rw [h3]; exact hrow))
    unfold mAll
    rw [List.length_cons]
    split
    · exact (mAll_stand hrow l (m + 1) _ S1 (fun x hx' => hx x (List.mem_cons_of_mem _ hx'))).mono (by omega)
    · exact S1.mono (by omega)
/-- What Apply keeps. -/
theorem Stand.apply {f t : ByteArray} {m : Nat} {cs : List CV} (h : Stand f t m cs) {o : OA} {l : List OA} {w : World} (hok : o.ok w) (hl : ∀ x ∈ l, x.ok w) : Stand f t (m + 8) (mApply f t cs o l).1 := by
  unfold mApply
  split
  · exact h.mono (by omega)
  rename_i hr
  split
  · exact h.mono (by omega)
  rename_i ho
  have hr : rightO o.s (l.map sn0) = true := by simpa using hr
  have ho : isOut f t o = false := by simpa using ho
  unfold keepM
  show Stand f t (m + 8) (if _ then _ else _)
  split
  · unfold mDo
    by_cases k : o.kind = 6
    · rw [if_pos k]
      have hrow : inRows f t o.row = true := by
        unfold isOut at ho
        rw [if_neg (by omega)] at ho
        simpa using ho
      have := parts_few hr k
      exact (mAll_stand hrow l m cs h fun x hx => by
        obtain ⟨p6, p8, pl, pr⟩ := right_part hr k hx
        exact ⟨hl x hx, pl, pr⟩).mono (by omega)
    · rw [if_neg k]
      refine (h.step hok (right_leaf hr) ?_).mono (by omega)
      by_cases k8 : o.kind = 8
      · exact .inr k8
      · unfold isOut at ho
        rw [if_neg k8] at ho
        exact .inl (by simpa using ho)
  · exact h.mono (by omega)

set_option maxHeartbeats 1000000 in
theorem clone_any10 (w : World) (p : Nat) (f t : ByteArray) (cs : List CV) (hT : TB w p f t cs) :
    Calls Tryz.prog 31 #[.pointer (some ⟨p, 0, none⟩)] w fun e w' => e = .returned (.pointer (some ⟨w.heap.size, 0, none⟩)) ∧ TB w' w.heap.size f t cs ∧ Below w.heap.size w w' := by
  obtain ⟨u, A0, TT0⟩ := hT
  have c0 : w.cell? ⟨p, 0, none⟩ = some (.string f) := Arr.cell A0 0
  have c1 : w.cell? ⟨p, 1, none⟩ = some (.string t) := Arr.cell A0 1
  have c2 : w.cell? ⟨p, 2, none⟩ = some (.pointer u) := Arr.cell A0 2
  have B : Below w.heap.size w (w.alloc (.cells #[.string f, .string t, .pointer u] 79)) := (Below.refl _ w).alloc (Nat.le_refl _) _
  have HT : Hid (TB (w.alloc (.cells #[.string f, .string t, .pointer u] 79)) w.heap.size f t cs) := ⟨u, heap_alloc_new w _, TT0.below B⟩
  clear A0 TT0
  go_enter Tryz.func31, Tryz.ntmps31
  go_wp2
  go_ret
  exact ⟨rfl, HT.out, B⟩

set_option maxHeartbeats 1000000 in
theorem same10_any (w : World) (ao bo : Option Addr) (n cap cap2 : Nat) (l l2 : List CA) (L : CL w ao n cap l) (L2 : CL w bo n cap2 l2) (hl : l.map CA.c = l2.map CA.c) (hn : n ≤ 1000) :
    Calls Tryz.prog 16 #[.slice ao n cap, .slice bo n cap2] w fun x w' => x = .returned (.bool true) ∧ Below w.heap.size w w' := by
  have CR := rresults_any w 0 ao bo n cap cap2 l l2 false L L2 hl hn
  unfold resV at CR
  clear L L2 hl
  go_enter Tryz.func16, Tryz.ntmps16
  go_wp2_with fail
  refine CR.mono ?_
  rintro e w2 ⟨rfl, C2⟩
  clear CR
  go_wp2
  go_ret
  exact ⟨rfl, C2⟩
theorem CL.len_of {w w' : World} {ao bo : Option Addr} {n m cap cap2 : Nat} {l l2 : List CA} (L : CL w ao n cap l) (L2 : CL w' bo m cap2 l2) (hl : l.map CA.c = l2.map CA.c) : m = n := by
  have := congrArg List.length hl
  rw [List.length_map, List.length_map, L.len, L2.len] at this
  exact this.symm
end Go.Proofs.YthlpccajnmkbjaaGreatDoor

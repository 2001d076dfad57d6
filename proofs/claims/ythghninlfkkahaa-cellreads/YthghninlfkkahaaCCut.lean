/-
  The reference's cut.
-/
import Derived.Test.YthghninlfkkahaaCEsc
import Derived.Test.YthghninlfkkahaaCConv
import Derived.Test.YthghninlfkkahaaHRegA
import Derived.Test.YthghninlfkkahaaSame
namespace Go.Proofs.Ythghninlfkkahaa
open Go.RowKit

theorem cutL_ne {c : Int} (r : List Int) (h : c ≠ 0) : cutL (c :: r) = (cutL r).map fun p => (c :: p.1, p.2) := by
  cases r with
  | nil => simp [cutL]
  | cons d r => rw [cutL, if_neg h]
theorem cutL_one (r : List Int) : cutL (0 :: 1 :: r) = some ([], r) := by simp [cutL]
theorem cutL_255 (r : List Int) : cutL (0 :: 255 :: r) = (cutL r).map fun p => (0 :: p.1, p.2) := by simp [cutL]
theorem cutL_other {d : Int} (r : List Int) (h1 : d ≠ 1) (h2 : d ≠ 255) : cutL (0 :: d :: r) = none := by simp [cutL, h1, h2]
theorem drop_at (xs : List Int) (k : Nat) (h : k < xs.length) : xs.drop k = xs.getD k 0 :: xs.drop (k + 1) := by
  rw [List.drop_eq_getElem_cons h]
  simp [List.getD, h]
theorem map_more {α : Type} (o : Option (List Int × α)) (acc ys : List Int) : (o.map fun p => (ys ++ p.1, p.2)).map (fun p => (acc ++ p.1, p.2)) = o.map fun p => ((acc ++ ys) ++ p.1, p.2) := by
  cases o <;> simp

/-- A slice of bytes from a place on. -/
theorem cutC {w : World} {b off : Nat} {n cap : Nat} {xs : List Int} (h : Sl w (some ⟨b, off, none⟩) n cap xs) (u : Nat) (hu : u ≤ n) : Sl w (some (if cap = u then ⟨b, off, none⟩ else ⟨b, off + u, none⟩)) (n - u) (cap - u) (xs.drop u) := by
  refine ⟨by simp [h.len], by have := h.le; omega, by have := h.mx; omega, fun e => by simp at e, fun a ha i hi => ?_, h.byte.drop u⟩
  have hle := h.le
  rw [if_neg (by omega)] at ha
  obtain rfl := Option.some.inj ha
  have := h.cell _ rfl (u + i) (by omega)
  rw [Addr.add_lit] at this ⊢
  rw [Nat.add_assoc, this]
  simp [List.getD]

/-- What cut leaves. -/
def CutPost (w' : World) (e : Ending) (o : Option (List Int × List Int)) : Prop :=
  match o with
  | none => e = .returned (.tuple #[.string ⟨#[]⟩, .slice none 0 0, .bool false])
  | some p => ∃ st bo m c, e = .returned (.tuple #[.string st, .slice bo m c, .bool true]) ∧ sb st = p.1 ∧ Sl w' bo m c p.2

set_option maxHeartbeats 4000000 in
set_option maxRecDepth 100000 in
theorem rcut_any (w : World) (ao : Option Addr) (n cap : Nat) (xs : List Int) (h : Sl w ao n cap xs) (hn : n ≤ 1000000) :
    Calls Try.prog 13 #[.slice ao n cap] w fun e w' => CutPost w' e (cutL xs) ∧ Below w.heap.size w w' := by
  have hl := h.len
  have hle := h.le
  have hmx := h.mx
  go_enter Try.func13, Try.ntmps13
  go_wp2_with fail
  go_loopw [5, 6] (fun s i wr => ∃ (k : Nat) (acc : List Int), k ≤ n ∧ acc.length ≤ k ∧ i = .int .i64 k ∧ wr.ownsRow w.heap.size 5 1 s acc.length (bv acc) ∧ Byt acc ∧ Below w.heap.size w wr ∧ cutL xs = (cutL (xs.drop k)).map fun p => (acc ++ p.1, p.2)) (fun _ i _ => n - (intOf i).toNat)
  case atStart => exact ⟨0, [], by omega, by simp, rfl, World.ownsRow_nil _ _ _ _, fun x hx => by simp at hx, Below.refl _ _, by simp⟩
  case round =>
    obtain ⟨k, acc, hk, ha, rfl, O, hb, B, hc⟩ := hrel
    have sz := B.size
    by_cases l : k < n
    · have il : (k : Int) < (n : Int) := by omega
      obtain ⟨b, off, rfl, hcell⟩ := (h.below B).at (by omega)
      have hx0 := h.byte.at k
      obtain ⟨c, hcc⟩ : ∃ c, c = xs.getD k 0 := ⟨_, rfl⟩
      have HCL : Hid (∀ i, i < n → wr.cell? ⟨b, off + i, none⟩ = some (.int .u8 (xs.getD i 0))) := hcell
      clear hcell
      have c0 := HCL.out k l
      rw [drop_at xs k (by omega)] at hc
      rw [← hcc] at c0 hc
      have hx0' : 0 ≤ c ∧ c ≤ 255 := by rw [hcc]; simpa [List.getD] using hx0
      clear hcc hx0
      by_cases z : c = 0
      · subst z
        by_cases lst : k + 1 = n
        · have f1 : ((k : Int) == (n : Int) - 1) = true := by simp; omega
          have f2 : IntKind.i64.wrap ((n : Int) - 1) = (k : Int) := by rw [IntKind.wrap_i64]; omega
          have hc' : Hid (cutL xs = none) := by
            show _ = _
            rw [hc, List.drop_eq_nil_of_le (by omega)]
            simp [cutL]
          clear hc
          go_wp2
          go_ret3
          exact ⟨by rw [hc'.out]; rfl, B⟩
        · have c1 := HCL.out (k + 1) (by omega)
          have hy0 := h.byte.at (k + 1)
          obtain ⟨d, hd⟩ : ∃ d, d = xs.getD (k + 1) 0 := ⟨_, rfl⟩
          rw [drop_at xs (k + 1) (by omega)] at hc
          rw [← hd] at c1 hc
          have hy0' : 0 ≤ d ∧ d ≤ 255 := by rw [hd]; simpa [List.getD] using hy0
          clear hd hy0
          have il1 : (k : Int) + 1 < (n : Int) := by omega
          have f1 : ((k : Int) == (n : Int) - 1) = false := by simp; omega
          by_cases d1 : d = 1
          · subst d1
            obtain ⟨so, sc, rfl, SS, -⟩ := Sl.own O hb
            clear O
            have hc' : Hid (cutL xs = some (acc, xs.drop (k + 2))) := by
              show _ = _
              rw [hc, cutL_one]
              simp
            clear hc
            have SR := h.below B
            go_wp2_with fail
            obtain ⟨wd, hwd⟩ : ∃ wd, wd = wr.drew := ⟨_, rfl⟩
            have BW : Below wr.heap.size wr wr.drew := (Below.refl _ wr).drew
            have SS' := conv_str (SS.below BW)
            have SR' := SR.below BW
            have BD : Below w.heap.size w wr.drew := B.drew
            refine wp_region_noPanic ?_
            refine wp_region_held_drew (S := fun V => (convert 22 9 (.slice so acc.length sc)).run Try.prog V = .ok (.string (strOfNums acc)) V) (by kernel_rfl) SS' (fun hH => ?_)
            rw [← hwd] at hH SR' BD ⊢
            clear hwd SS' BW SS SR
            obtain ⟨ad, had⟩ : ∃ ad : Addr, ad = (if cap = k + 2 then ⟨b, off, none⟩ else ⟨b, off + (k + 2), none⟩) := ⟨_, rfl⟩
            have SC : Sl wd (some ad) (n - (k + 2)) (cap - (k + 2)) (xs.drop (k + 2)) := by rw [had]; exact cutC SR' (k + 2) (by omega)
            have HAD : Hid (ad = (if cap = k + 2 then ⟨b, off, none⟩ else ⟨b, off + (k + 2), none⟩)) := had
            clear had SR'
            refine hr_take 0 (some 36) (.slice so acc.length sc) rfl rfl (by kernel_rfl) (by kernel_rfl) (by kernel_rfl) rfl (fun W hW => by go_simp) hH ?_
            simp only [Act.put, List.setIfInBounds_toArray, List.set_cons_zero, List.set_cons_succ]
            refine hr_take 1 (some 37) (.string (strOfNums acc)) rfl rfl (by kernel_rfl) (by kernel_rfl) (by kernel_rfl) rfl (fun W hW => by go_simp) hH ?_
            simp only [Act.put, List.setIfInBounds_toArray, List.set_cons_zero, List.set_cons_succ]
            refine hr_take 2 (some 38) (.slice (some ⟨b, off, none⟩) n cap) rfl rfl (by kernel_rfl) (by kernel_rfl) (by kernel_rfl) rfl (fun W hW => by go_simp) hH ?_
            simp only [Act.put, List.setIfInBounds_toArray, List.set_cons_zero, List.set_cons_succ]
            refine hr_take 3 (some 39) (.int .i64 k) rfl rfl (by kernel_rfl) (by kernel_rfl) (by kernel_rfl) rfl (fun W hW => by go_simp) hH ?_
            simp only [Act.put, List.setIfInBounds_toArray, List.set_cons_zero, List.set_cons_succ]
            refine hr_take 4 (some 40) (.int .i64 ((k : Int) + 2)) rfl rfl (by kernel_rfl) (by kernel_rfl) (by kernel_rfl) rfl (fun W hW => by go_simp; rw [IntKind.wrap_i64]; omega) hH ?_
            simp only [Act.put, List.setIfInBounds_toArray, List.set_cons_zero, List.set_cons_succ]
            refine hr_take 5 (some 41) (.slice (some ad) (n - (k + 2)) (cap - (k + 2))) rfl rfl (by kernel_rfl) (by kernel_rfl) (by kernel_rfl) rfl (fun W hW => by
              go_simp
              have e2 : ((k : Int) + 2).toNat = k + 2 := by omega
              rw [if_pos ⟨by omega, by omega⟩, e2, HAD.out]
              by_cases hh : cap = k + 2 <;> simp [hh]) hH ?_
            simp only [Act.put, List.setIfInBounds_toArray, List.set_cons_zero, List.set_cons_succ]
            refine hr_take 6 (some 2) (.string (strOfNums acc)) rfl rfl (by kernel_rfl) (by kernel_rfl) (by kernel_rfl) rfl (fun W hW => by go_simp) hH ?_
            simp only [Act.put, List.setIfInBounds_toArray, List.set_cons_zero, List.set_cons_succ]
            refine hr_take 7 (some 3) (.slice (some ad) (n - (k + 2)) (cap - (k + 2))) rfl rfl (by kernel_rfl) (by kernel_rfl) (by kernel_rfl) rfl (fun W hW => by go_simp) hH ?_
            simp only [Act.put, List.setIfInBounds_toArray, List.set_cons_zero, List.set_cons_succ]
            refine hr_take 8 (some 4) (.bool true) rfl rfl (by kernel_rfl) (by kernel_rfl) (by kernel_rfl) rfl (fun W hW => by go_simp) hH ?_
            simp only [Act.put, List.setIfInBounds_toArray, List.set_cons_zero, List.set_cons_succ]
            refine wpAnyH_done (by kernel_rfl) ?_ _
            refine NoPanic.normal ?_
            go_wp2
            go_ret3
            refine ⟨?_, BD⟩
            rw [hc'.out]
            exact ⟨_, _, _, _, rfl, sb_str hb, SC⟩
          · have g1 : (d == 1) = false := by simp [d1]
            by_cases d2 : d = 255
            · subst d2
              have hc' : Hid (cutL xs = (cutL (xs.drop (k + 2))).map fun p => ((acc ++ [0]) ++ p.1, p.2)) := by
                show _ = _
                rw [hc, cutL_255]
                exact map_more _ acc [0]
              clear hc
              go_wp2_with (at_builtin; refine wpList_app rfl (.tmp 48) (.tmp 49) rfl w.heap.size _ _ _ rfl (O.alloc _) _ 1 1 [0] rfl (Sl.one wr _ (by omega)) (by omega) (by simp; omega) ?_; intro v2 w2 O2 C2; have D2 : Below w.heap.size w w2 := (B.alloc (by omega) _).trans C2; clear C2 O)
              have O3 : w2.ownsRow w.heap.size 5 1 v2 (acc ++ [0]).length (bv (acc ++ [0])) := by
                simpa using O2
              go_roundw
              case rel => exact ⟨k + 2, acc ++ [0], by omega, by simp; omega, by go_num, O3, hb.append (by intro y hy; simp at hy; omega), D2, hc'.out⟩
              case measure => simp [intOf] <;> omega
            · have g2 : (d == 255) = false := by simp [d2]
              have hc' : Hid (cutL xs = none) := by
                show _ = _
                rw [hc, cutL_other _ d1 d2]
                rfl
              clear hc
              go_wp2
              go_ret3
              exact ⟨by rw [hc'.out]; rfl, B⟩
      · have g0 : (c == 0) = false := by simp [z]
        have hc' : Hid (cutL xs = (cutL (xs.drop (k + 1))).map fun p => ((acc ++ [c]) ++ p.1, p.2)) := by
          show _ = _
          rw [hc, cutL_ne _ z]
          exact map_more _ acc [c]
        clear hc
        go_wp2_with (at_builtin; refine wpList_app rfl (.tmp 18) (.tmp 23) rfl w.heap.size _ _ _ rfl (O.alloc _) _ 1 1 [c] rfl (Sl.one wr _ hx0') (by omega) (by simp; omega) ?_; intro v2 w2 O2 C2; have D2 : Below w.heap.size w w2 := (B.alloc (by omega) _).trans C2; clear C2 O)
        have O3 : w2.ownsRow w.heap.size 5 1 v2 (acc ++ [c]).length (bv (acc ++ [c])) := by
          simpa using O2
        go_roundw
        case rel => exact ⟨k + 1, acc ++ [c], by omega, by simp; omega, by go_num, O3, hb.append (by intro y hy; simp at hy; omega), D2, hc'.out⟩
        case measure => simp [intOf] <;> omega
    · have il : (n : Int) ≤ (k : Int) := by omega
      have hc' : Hid (cutL xs = none) := by
        show _ = _
        rw [hc, List.drop_eq_nil_of_le (by omega)]
        simp [cutL]
      clear hc
      go_wp2
      go_ret3
      exact ⟨by rw [hc'.out]; rfl, B⟩
end Go.Proofs.Ythghninlfkkahaa

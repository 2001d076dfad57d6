/-
  The reference's Add: a vote in its place.
-/
import Derived.Test.YtghemebgkhopnaaNumbersLaw14
import Derived.Test.YtghemebgkhopnaaQuVotes
import Derived.Test.YtghemebgkhopnaaGNew
import Derived.Test.YtghemebgkhopnaaHRegG
namespace Go.Proofs.Ytghemebgkhopnaa
open Go.RowKit

theorem tyV : GTy elV.sz 80 (.agg #[.int .u64 0, .slice none 0 0, .slice none 0 0, .slice none 0 0]) 36 27 := ⟨by kernel_rfl, rfl, Try.underlying27⟩
theorem szV (V : World) : (sizeOf 36).run Try.prog V = .ok 4 V := by
  obtain ⟨i0, hi, hz0, hz1, hz2⟩ := info_parts tyV.info
  have h1 : i0.size = 4 := hz1
  simp [sizeOf, typeInfo, hi, h1]
/-- What becomes of votes that rise, and what is answered. -/
def insV (f : Nat) (l : List VA) (y : VA) : List VA × Int :=
  if y.s.fr = 0 ∨ 3 * f + 1 < y.s.fr then (l, 15) else
  if ((l.dropWhile fun z => decide (z.s.fr < y.s.fr)).head?.map fun z => decide (z.s.fr = y.s.fr)) = some true then (l, 18) else
  ((l.takeWhile fun z => decide (z.s.fr < y.s.fr)) ++ [y] ++ l.dropWhile fun z => decide (z.s.fr < y.s.fr), 0)
theorem while_at {α : Type} (p : α → Bool) : ∀ (l : List α) (k : Nat), (∀ z ∈ l.take k, p z = true) → (∀ h : k < l.length, p l[k] = false) → k ≤ l.length → l.takeWhile p = l.take k ∧ l.dropWhile p = l.drop k
  | [], 0, _, _, _ => ⟨rfl, rfl⟩
  | [], k + 1, _, _, h => by simp at h
  | x :: l, 0, _, h2, _ => by
    have := h2 (by simp)
    simp only [List.getElem_cons_zero] at this
    simp [this]
  | x :: l, k + 1, h1, h2, h3 => by
    have hx := h1 x (by simp)
    obtain ⟨a, b⟩ := while_at p l k (fun z hz => h1 z (by simp [hz])) (fun h => by have := h2 (by simpa using h); simpa using this) (by simpa using h3)
    simp [hx, a, b]
theorem insV_out {f : Nat} {l : List VA} {y : VA} (h : y.s.fr = 0 ∨ 3 * f + 1 < y.s.fr) : insV f l y = (l, 15) := by unfold insV; rw [if_pos h]
theorem insV_same {f : Nat} {l : List VA} {y : VA} (h : ¬ (y.s.fr = 0 ∨ 3 * f + 1 < y.s.fr)) (k : Nat) (hk : k < l.length) (h1 : ∀ z ∈ l.take k, z.s.fr < y.s.fr) (h2 : l[k].s.fr = y.s.fr) : insV f l y = (l, 18) := by
  obtain ⟨a, b⟩ := while_at (fun z : VA => decide (z.s.fr < y.s.fr)) l k (fun z hz => by simpa using h1 z hz) (fun _ => by simpa using Nat.le_of_eq h2.symm) (by omega)
  unfold insV
  rw [if_neg h, b, List.head?_drop, List.getElem?_eq_getElem hk]
  rw [if_pos (by simp [h2])]
theorem insV_new {f : Nat} {l : List VA} {y : VA} (h : ¬ (y.s.fr = 0 ∨ 3 * f + 1 < y.s.fr)) (k : Nat) (hk : k ≤ l.length) (h1 : ∀ z ∈ l.take k, z.s.fr < y.s.fr) (h2 : ∀ h : k < l.length, y.s.fr < l[k].s.fr) : insV f l y = (l.take k ++ [y] ++ l.drop k, 0) := by
  obtain ⟨a, b⟩ := while_at (fun z : VA => decide (z.s.fr < y.s.fr)) l k (fun z hz => by simpa using h1 z hz) (fun q => by simpa using Nat.le_of_lt (h2 q)) hk
  unfold insV
  rw [if_neg h, a, b, if_neg]
  rw [List.head?_drop]
  by_cases q : k < l.length
  · rw [List.getElem?_eq_getElem q]
    have := h2 q
    simp
    omega
  · rw [List.getElem?_eq_none (by omega)]
    simp
/-- What Add answers. -/
def AddPost (w : World) (f : Nat) (l : List VA) (y : VA) (e : Ending) (w' : World) : Prop :=
  ∃ ro rn rc l', e = .returned (.tuple #[.slice ro rn rc, .int .i64 (insV f l y).2]) ∧ GL elV w' ro rn rc l' ∧ l' = (insV f l y).1 ∧ Below w.heap.size w w'

set_option maxHeartbeats 8000000 in
set_option maxRecDepth 100000 in
theorem radd_zero (w0 : World) (f : Nat) (h1 : 1 ≤ f) (h4 : f ≤ 4) (ao : Option Addr) (n cap : Nat) (l : List VA) (L : GL elV w0 ao n cap l) (s : SA) (hs : s.ok w0) (wo : Option Addr) (wn wc : Nat) (ws : List Int) (SW : Sl w0 wo wn wc ws) (_ : n ≤ 1000) (m : Nat) (hm : m = 3 * f + 1) (hz : s.fr = 0) : Calls Try.prog 19 #[.slice ao n cap, .int .i64 (f : Nat), .agg #[.int .u64 (s.fr : Nat), .slice s.b.ao s.b.n s.b.cap, .slice s.tag.ao s.tag.n s.tag.cap], .slice wo wn wc] w0 (AddPost w0 f l ⟨s, ⟨wo, wn, wc, ws⟩⟩) := by
  obtain ⟨y, hyy⟩ : ∃ y : VA, y = ⟨s, ⟨wo, wn, wc, ws⟩⟩ := ⟨_, rfl⟩
  rw [← hyy]
  have hyok : elV.ok y w0 := by rw [hyy]; exact ⟨hs, SW⟩
  have HY : Hid (elV.c y = [.int .u64 (s.fr : Nat), .slice s.b.ao s.b.n s.b.cap, .slice s.tag.ao s.tag.n s.tag.cap, .slice wo wn wc]) := by rw [hyy]; rfl
  have HYF : Hid (s.fr = y.s.fr) := by show _ = _; rw [hyy]
  have HOK : Hid (∀ x ∈ l, elV.ok x w0) := L.ok
  have hl1 := Nat.le_of_eq L.len
  have hl2 := Nat.le_of_eq L.len.symm
  have hle := L.le
  obtain ⟨W1, hW1⟩ : ∃ V, V = w0.alloc (.cells #[.int .u64 (s.fr : Nat), .slice s.b.ao s.b.n s.b.cap, .slice s.tag.ao s.tag.n s.tag.cap] 34) := ⟨_, rfl⟩
  have C1 : Below w0.heap.size w0 W1 := by rw [hW1]; exact (Below.refl _ _).alloc (Nat.le_refl _) _
  have K1 : Arr W1 w0.heap.size 34 [.int .u64 (s.fr : Nat), .slice s.b.ao s.b.n s.b.cap, .slice s.tag.ao s.tag.n s.tag.cap] := by rw [hW1]; exact heap_alloc_new w0 _
  have CN : ∀ V : World, Calls Try.prog 10 #[.int .i64 (f : Nat)] V fun e w' => e = .returned (.int .i64 (m : Nat)) ∧ Below V.heap.size V w' := fun V => by
    refine (rn_any f V).mono ?_
    rintro e w' ⟨rfl, rfl⟩
    rw [nF_t 3 (okF_t (by omega) (by omega)), hm]
    exact ⟨by congr 2, Below.refl _ _⟩
  have HM : Hid (m = 3 * f + 1) := hm
  have hm13 : (m : Int) ≤ 13 := by omega
  have iw : IntKind.u64.wrap (m : Int) = (m : Int) := by rw [IntKind.wrap_u64]; omega
  have y0 : W1.cell? ⟨w0.heap.size, 0, none⟩ = some (.int .u64 (s.fr : Nat)) := K1.cell 0
  have y1 : W1.cell? ⟨w0.heap.size, 1, none⟩ = some (.slice s.b.ao s.b.n s.b.cap) := K1.cell 1
  have y2 : W1.cell? ⟨w0.heap.size, 2, none⟩ = some (.slice s.tag.ao s.tag.n s.tag.cap) := K1.cell 2
  obtain ⟨N, hN⟩ : ∃ N, N = w0.heap.size := ⟨_, rfl⟩
  rw [← hN] at y0 y1 y2
  have HNW : Hid (N = w0.heap.size) := hN
  clear hm hyy K1 SW
  have i5 : ((s.fr : Int) == 0) = true := by simp; omega
  have HO : Hid (insV f l y = (l, 15)) := insV_out (.inl (by have := HYF.out; omega))
  clear CN hz
  go_enter Try.func19, Try.ntmps19
  go_wp2
  rw [← hW1, ← hN]
  clear hW1 hN
  have xHS : Hid (∀ V, Below W1.heap.size W1 V → V.cell? ⟨N, 0, none⟩ = some (.int .u64 (s.fr : Nat))) := fun V hV => (hV.cell (World.block_lt_of_cell? _ _ y0)).trans y0
  have xE0 : Below W1.heap.size W1 W1.drew := (Below.refl _ _).drew
  refine wp_region_noPanic ?_
  refine wp_region_held_drew (S := fun V => V.cell? ⟨N, 0, none⟩ = some (.int .u64 (s.fr : Nat))) (by kernel_rfl) (xHS.out _ xE0) (fun xH0 => ?_)
  obtain ⟨xv0, hv0⟩ : ∃ v, v = W1.drew := ⟨_, rfl⟩
  rw [← hv0] at xH0 xE0 ⊢
  clear hv0
  refine hr_take_w 0 (some 11) (.pointer (some ⟨N, 0, none⟩)) rfl rfl (by kernel_rfl) (by kernel_rfl) (by kernel_rfl) rfl (fun W hW => by go_simp) xH0 ?_
  simp only [Act.put, List.setIfInBounds_toArray, List.set_cons_zero, List.set_cons_succ]
  refine hr_take_w 1 (some 12) (.int .u64 (s.fr : Nat)) rfl rfl (by kernel_rfl) (by kernel_rfl) (by kernel_rfl) rfl (fun W hW => by go_simp) xH0 ?_
  simp only [Act.put, List.setIfInBounds_toArray, List.set_cons_zero, List.set_cons_succ]
  refine hr_take_w 2 (some 13) (.bool true) rfl rfl (by kernel_rfl) (by kernel_rfl) (by kernel_rfl) rfl (fun W hW => by go_simp) xH0 ?_
  simp only [Act.put, List.setIfInBounds_toArray, List.set_cons_zero, List.set_cons_succ]
  refine hr_take_w 3 (some 14) (.bool true) rfl rfl (by kernel_rfl) (by kernel_rfl) (by kernel_rfl) rfl (fun W hW => by go_simp) xH0 ?_
  simp only [Act.put, List.setIfInBounds_toArray, List.set_cons_zero, List.set_cons_succ]
  refine hr_none 4 (some 15) rfl rfl (by kernel_rfl) (by kernel_rfl) (by kernel_rfl) rfl xH0 ?_
  simp only [Act.put, List.setIfInBounds_toArray, List.set_cons_zero, List.set_cons_succ]
  refine hr_none 5 (some 16) rfl rfl (by kernel_rfl) (by kernel_rfl) (by kernel_rfl) rfl xH0 ?_
  simp only [Act.put, List.setIfInBounds_toArray, List.set_cons_zero, List.set_cons_succ]
  refine hr_none 6 (some 17) rfl rfl (by kernel_rfl) (by kernel_rfl) (by kernel_rfl) rfl xH0 ?_
  simp only [Act.put, List.setIfInBounds_toArray, List.set_cons_zero, List.set_cons_succ]
  refine hr_none 7 (some 18) rfl rfl (by kernel_rfl) (by kernel_rfl) (by kernel_rfl) rfl xH0 ?_
  simp only [Act.put, List.setIfInBounds_toArray, List.set_cons_zero, List.set_cons_succ]
  refine hr_none 8 (some 19) rfl rfl (by kernel_rfl) (by kernel_rfl) (by kernel_rfl) rfl xH0 ?_
  simp only [Act.put, List.setIfInBounds_toArray, List.set_cons_zero, List.set_cons_succ]
  refine hr_none 9 (some 20) rfl rfl (by kernel_rfl) (by kernel_rfl) (by kernel_rfl) rfl xH0 ?_
  simp only [Act.put, List.setIfInBounds_toArray, List.set_cons_zero, List.set_cons_succ]
  refine hr_take_w 10 (some 21) (.bool true) rfl rfl (by kernel_rfl) (by kernel_rfl) (by kernel_rfl) rfl (fun W hW => by go_simp) xH0 ?_
  simp only [Act.put, List.setIfInBounds_toArray, List.set_cons_zero, List.set_cons_succ]
  refine wpAnyH_done (by kernel_rfl) ?_ _
  refine NoPanic.normal ?_
  have B2 := C1.trans (xE0.mono C1.size)
  have L2 := L.below elV_fine B2
  clear xHS xH0
  go_wp2
  go_ret2
  exact ⟨_, _, _, _, by rw [HO.out]; rfl, L2, by rw [HO.out], B2⟩
set_option maxHeartbeats 8000000 in
set_option maxRecDepth 100000 in
theorem radd_over (w0 : World) (f : Nat) (h1 : 1 ≤ f) (h4 : f ≤ 4) (ao : Option Addr) (n cap : Nat) (l : List VA) (L : GL elV w0 ao n cap l) (s : SA) (hs : s.ok w0) (wo : Option Addr) (wn wc : Nat) (ws : List Int) (SW : Sl w0 wo wn wc ws) (_ : n ≤ 1000) (m : Nat) (hm : m = 3 * f + 1) (hz : m < s.fr) : Calls Try.prog 19 #[.slice ao n cap, .int .i64 (f : Nat), .agg #[.int .u64 (s.fr : Nat), .slice s.b.ao s.b.n s.b.cap, .slice s.tag.ao s.tag.n s.tag.cap], .slice wo wn wc] w0 (AddPost w0 f l ⟨s, ⟨wo, wn, wc, ws⟩⟩) := by
  obtain ⟨y, hyy⟩ : ∃ y : VA, y = ⟨s, ⟨wo, wn, wc, ws⟩⟩ := ⟨_, rfl⟩
  rw [← hyy]
  have hyok : elV.ok y w0 := by rw [hyy]; exact ⟨hs, SW⟩
  have HY : Hid (elV.c y = [.int .u64 (s.fr : Nat), .slice s.b.ao s.b.n s.b.cap, .slice s.tag.ao s.tag.n s.tag.cap, .slice wo wn wc]) := by rw [hyy]; rfl
  have HYF : Hid (s.fr = y.s.fr) := by show _ = _; rw [hyy]
  have HOK : Hid (∀ x ∈ l, elV.ok x w0) := L.ok
  have hl1 := Nat.le_of_eq L.len
  have hl2 := Nat.le_of_eq L.len.symm
  have hle := L.le
  obtain ⟨W1, hW1⟩ : ∃ V, V = w0.alloc (.cells #[.int .u64 (s.fr : Nat), .slice s.b.ao s.b.n s.b.cap, .slice s.tag.ao s.tag.n s.tag.cap] 34) := ⟨_, rfl⟩
  have C1 : Below w0.heap.size w0 W1 := by rw [hW1]; exact (Below.refl _ _).alloc (Nat.le_refl _) _
  have K1 : Arr W1 w0.heap.size 34 [.int .u64 (s.fr : Nat), .slice s.b.ao s.b.n s.b.cap, .slice s.tag.ao s.tag.n s.tag.cap] := by rw [hW1]; exact heap_alloc_new w0 _
  have CN : ∀ V : World, Calls Try.prog 10 #[.int .i64 (f : Nat)] V fun e w' => e = .returned (.int .i64 (m : Nat)) ∧ Below V.heap.size V w' := fun V => by
    refine (rn_any f V).mono ?_
    rintro e w' ⟨rfl, rfl⟩
    rw [nF_t 3 (okF_t (by omega) (by omega)), hm]
    exact ⟨by congr 2, Below.refl _ _⟩
  have HM : Hid (m = 3 * f + 1) := hm
  have hm13 : (m : Int) ≤ 13 := by omega
  have iw : IntKind.u64.wrap (m : Int) = (m : Int) := by rw [IntKind.wrap_u64]; omega
  have y0 : W1.cell? ⟨w0.heap.size, 0, none⟩ = some (.int .u64 (s.fr : Nat)) := K1.cell 0
  have y1 : W1.cell? ⟨w0.heap.size, 1, none⟩ = some (.slice s.b.ao s.b.n s.b.cap) := K1.cell 1
  have y2 : W1.cell? ⟨w0.heap.size, 2, none⟩ = some (.slice s.tag.ao s.tag.n s.tag.cap) := K1.cell 2
  obtain ⟨N, hN⟩ : ∃ N, N = w0.heap.size := ⟨_, rfl⟩
  rw [← hN] at y0 y1 y2
  have HNW : Hid (N = w0.heap.size) := hN
  clear hm hyy K1 SW
  have i5 : ((s.fr : Int) == 0) = false := by simp; omega
  have i6 : (m : Int) < (s.fr : Int) := by omega
  have HO : Hid (insV f l y = (l, 15)) := insV_out (.inr (by have := HM.out; have := HYF.out; omega))
  go_enter Try.func19, Try.ntmps19
  go_wp2
  rw [← hW1, ← hN]
  clear hW1 hN
  have xHS : Hid (∀ V, Below W1.heap.size W1 V → V.cell? ⟨N, 0, none⟩ = some (.int .u64 (s.fr : Nat))) := fun V hV => (hV.cell (World.block_lt_of_cell? _ _ y0)).trans y0
  have xE0 : Below W1.heap.size W1 W1.drew := (Below.refl _ _).drew
  refine wp_region_noPanic ?_
  refine wp_region_held_drew (S := fun V => V.cell? ⟨N, 0, none⟩ = some (.int .u64 (s.fr : Nat))) (by kernel_rfl) (xHS.out _ xE0) (fun xH0 => ?_)
  obtain ⟨xv0, hv0⟩ : ∃ v, v = W1.drew := ⟨_, rfl⟩
  rw [← hv0] at xH0 xE0 ⊢
  clear hv0
  refine hr_take_w 0 (some 11) (.pointer (some ⟨N, 0, none⟩)) rfl rfl (by kernel_rfl) (by kernel_rfl) (by kernel_rfl) rfl (fun W hW => by go_simp) xH0 ?_
  simp only [Act.put, List.setIfInBounds_toArray, List.set_cons_zero, List.set_cons_succ]
  refine hr_take_w 1 (some 12) (.int .u64 (s.fr : Nat)) rfl rfl (by kernel_rfl) (by kernel_rfl) (by kernel_rfl) rfl (fun W hW => by go_simp) xH0 ?_
  simp only [Act.put, List.setIfInBounds_toArray, List.set_cons_zero, List.set_cons_succ]
  refine hr_take_w 2 (some 13) (.bool false) rfl rfl (by kernel_rfl) (by kernel_rfl) (by kernel_rfl) rfl (fun W hW => by go_simp) xH0 ?_
  simp only [Act.put, List.setIfInBounds_toArray, List.set_cons_zero, List.set_cons_succ]
  refine hr_take_w 3 (some 14) (.bool false) rfl rfl (by kernel_rfl) (by kernel_rfl) (by kernel_rfl) rfl (fun W hW => by go_simp) xH0 ?_
  simp only [Act.put, List.setIfInBounds_toArray, List.set_cons_zero, List.set_cons_succ]
  refine hr_take_w 4 (some 15) (.pointer (some ⟨N, 0, none⟩)) rfl rfl (by kernel_rfl) (by kernel_rfl) (by kernel_rfl) rfl (fun W hW => by go_simp) xH0 ?_
  simp only [Act.put, List.setIfInBounds_toArray, List.set_cons_zero, List.set_cons_succ]
  refine hr_take_w 5 (some 16) (.int .u64 (s.fr : Nat)) rfl rfl (by kernel_rfl) (by kernel_rfl) (by kernel_rfl) rfl (fun W hW => by go_simp) xH0 ?_
  simp only [Act.put, List.setIfInBounds_toArray, List.set_cons_zero, List.set_cons_succ]
  refine hr_take_w 6 (some 17) (.int .i64 (f : Nat)) rfl rfl (by kernel_rfl) (by kernel_rfl) (by kernel_rfl) rfl (fun W hW => by go_simp) xH0 ?_
  simp only [Act.put, List.setIfInBounds_toArray, List.set_cons_zero, List.set_cons_succ]
  refine hr_call_w 7 (some 18) 10 #[.int .i64 (f : Nat)] rfl rfl (by kernel_rfl) rfl (by go_simp) (fun v w' => v = .int .i64 (m : Nat) ∧ Below xv0.heap.size xv0 w') ((CN xv0).mono (by
    rintro e w' ⟨rfl, C⟩
    exact ⟨_, rfl, rfl, C⟩)) ?_
  rintro v xv1 ⟨rfl, xC0⟩
  have xE1 := xE0.trans (xC0.mono xE0.size)
  have xH1 := xHS.out xv1 xE1
  refine ⟨xH1, ?_⟩
  simp only [Act.put, List.setIfInBounds_toArray, List.set_cons_zero, List.set_cons_succ]
  refine hr_take_w 8 (some 19) (.int .u64 (m : Nat)) rfl rfl (by kernel_rfl) (by kernel_rfl) (by kernel_rfl) rfl (fun W hW => by go_simp) xH1 ?_
  simp only [Act.put, List.setIfInBounds_toArray, List.set_cons_zero, List.set_cons_succ]
  refine hr_take_w 9 (some 20) (.bool true) rfl rfl (by kernel_rfl) (by kernel_rfl) (by kernel_rfl) rfl (fun W hW => by go_simp) xH1 ?_
  simp only [Act.put, List.setIfInBounds_toArray, List.set_cons_zero, List.set_cons_succ]
  refine hr_take_w 10 (some 21) (.bool true) rfl rfl (by kernel_rfl) (by kernel_rfl) (by kernel_rfl) rfl (fun W hW => by go_simp) xH1 ?_
  simp only [Act.put, List.setIfInBounds_toArray, List.set_cons_zero, List.set_cons_succ]
  refine wpAnyH_done (by kernel_rfl) ?_ _
  refine NoPanic.normal ?_
  have B2 := C1.trans (xE1.mono C1.size)
  have L2 := L.below elV_fine B2
  clear xHS xH0 xH1
  go_wp2
  go_ret2
  exact ⟨_, _, _, _, by rw [HO.out]; rfl, L2, by rw [HO.out], B2⟩
set_option maxHeartbeats 8000000 in
set_option maxRecDepth 100000 in
theorem radd_in (w0 : World) (f : Nat) (h1 : 1 ≤ f) (h4 : f ≤ 4) (ao : Option Addr) (n cap : Nat) (l : List VA) (L : GL elV w0 ao n cap l) (s : SA) (hs : s.ok w0) (wo : Option Addr) (wn wc : Nat) (ws : List Int) (SW : Sl w0 wo wn wc ws) (hn : n ≤ 1000) (m : Nat) (hm : m = 3 * f + 1) (hz : 1 ≤ s.fr) (hz2 : s.fr ≤ m) : Calls Try.prog 19 #[.slice ao n cap, .int .i64 (f : Nat), .agg #[.int .u64 (s.fr : Nat), .slice s.b.ao s.b.n s.b.cap, .slice s.tag.ao s.tag.n s.tag.cap], .slice wo wn wc] w0 (AddPost w0 f l ⟨s, ⟨wo, wn, wc, ws⟩⟩) := by
  obtain ⟨y, hyy⟩ : ∃ y : VA, y = ⟨s, ⟨wo, wn, wc, ws⟩⟩ := ⟨_, rfl⟩
  rw [← hyy]
  have hyok : elV.ok y w0 := by rw [hyy]; exact ⟨hs, SW⟩
  have HY : Hid (elV.c y = [.int .u64 (s.fr : Nat), .slice s.b.ao s.b.n s.b.cap, .slice s.tag.ao s.tag.n s.tag.cap, .slice wo wn wc]) := by rw [hyy]; rfl
  have HYF : Hid (s.fr = y.s.fr) := by show _ = _; rw [hyy]
  have HOK : Hid (∀ x ∈ l, elV.ok x w0) := L.ok
  have hl1 := Nat.le_of_eq L.len
  have hl2 := Nat.le_of_eq L.len.symm
  have hle := L.le
  obtain ⟨W1, hW1⟩ : ∃ V, V = w0.alloc (.cells #[.int .u64 (s.fr : Nat), .slice s.b.ao s.b.n s.b.cap, .slice s.tag.ao s.tag.n s.tag.cap] 34) := ⟨_, rfl⟩
  have C1 : Below w0.heap.size w0 W1 := by rw [hW1]; exact (Below.refl _ _).alloc (Nat.le_refl _) _
  have K1 : Arr W1 w0.heap.size 34 [.int .u64 (s.fr : Nat), .slice s.b.ao s.b.n s.b.cap, .slice s.tag.ao s.tag.n s.tag.cap] := by rw [hW1]; exact heap_alloc_new w0 _
  have CN : ∀ V : World, Calls Try.prog 10 #[.int .i64 (f : Nat)] V fun e w' => e = .returned (.int .i64 (m : Nat)) ∧ Below V.heap.size V w' := fun V => by
    refine (rn_any f V).mono ?_
    rintro e w' ⟨rfl, rfl⟩
    rw [nF_t 3 (okF_t (by omega) (by omega)), hm]
    exact ⟨by congr 2, Below.refl _ _⟩
  have HM : Hid (m = 3 * f + 1) := hm
  have hm13 : (m : Int) ≤ 13 := by omega
  have iw : IntKind.u64.wrap (m : Int) = (m : Int) := by rw [IntKind.wrap_u64]; omega
  have y0 : W1.cell? ⟨w0.heap.size, 0, none⟩ = some (.int .u64 (s.fr : Nat)) := K1.cell 0
  have y1 : W1.cell? ⟨w0.heap.size, 1, none⟩ = some (.slice s.b.ao s.b.n s.b.cap) := K1.cell 1
  have y2 : W1.cell? ⟨w0.heap.size, 2, none⟩ = some (.slice s.tag.ao s.tag.n s.tag.cap) := K1.cell 2
  obtain ⟨N, hN⟩ : ∃ N, N = w0.heap.size := ⟨_, rfl⟩
  rw [← hN] at y0 y1 y2
  have HNW : Hid (N = w0.heap.size) := hN
  clear hm hyy K1 SW
  have i5 : ((s.fr : Int) == 0) = false := by simp; omega
  have i6 : (s.fr : Int) ≤ (m : Int) := by omega
  have HO : Hid (¬ (y.s.fr = 0 ∨ 3 * f + 1 < y.s.fr)) := by show ¬ _; have := HM.out; have := HYF.out; omega
  go_enter Try.func19, Try.ntmps19
  go_wp2
  rw [← hW1, ← hN]
  clear hW1 hN
  have xHS : Hid (∀ V, Below W1.heap.size W1 V → V.cell? ⟨N, 0, none⟩ = some (.int .u64 (s.fr : Nat))) := fun V hV => (hV.cell (World.block_lt_of_cell? _ _ y0)).trans y0
  have xE0 : Below W1.heap.size W1 W1.drew := (Below.refl _ _).drew
  refine wp_region_noPanic ?_
  refine wp_region_held_drew (S := fun V => V.cell? ⟨N, 0, none⟩ = some (.int .u64 (s.fr : Nat))) (by kernel_rfl) (xHS.out _ xE0) (fun xH0 => ?_)
  obtain ⟨xv0, hv0⟩ : ∃ v, v = W1.drew := ⟨_, rfl⟩
  rw [← hv0] at xH0 xE0 ⊢
  clear hv0
  refine hr_take_w 0 (some 11) (.pointer (some ⟨N, 0, none⟩)) rfl rfl (by kernel_rfl) (by kernel_rfl) (by kernel_rfl) rfl (fun W hW => by go_simp) xH0 ?_
  simp only [Act.put, List.setIfInBounds_toArray, List.set_cons_zero, List.set_cons_succ]
  refine hr_take_w 1 (some 12) (.int .u64 (s.fr : Nat)) rfl rfl (by kernel_rfl) (by kernel_rfl) (by kernel_rfl) rfl (fun W hW => by go_simp) xH0 ?_
  simp only [Act.put, List.setIfInBounds_toArray, List.set_cons_zero, List.set_cons_succ]
  refine hr_take_w 2 (some 13) (.bool false) rfl rfl (by kernel_rfl) (by kernel_rfl) (by kernel_rfl) rfl (fun W hW => by go_simp) xH0 ?_
  simp only [Act.put, List.setIfInBounds_toArray, List.set_cons_zero, List.set_cons_succ]
  refine hr_take_w 3 (some 14) (.bool false) rfl rfl (by kernel_rfl) (by kernel_rfl) (by kernel_rfl) rfl (fun W hW => by go_simp) xH0 ?_
  simp only [Act.put, List.setIfInBounds_toArray, List.set_cons_zero, List.set_cons_succ]
  refine hr_take_w 4 (some 15) (.pointer (some ⟨N, 0, none⟩)) rfl rfl (by kernel_rfl) (by kernel_rfl) (by kernel_rfl) rfl (fun W hW => by go_simp) xH0 ?_
  simp only [Act.put, List.setIfInBounds_toArray, List.set_cons_zero, List.set_cons_succ]
  refine hr_take_w 5 (some 16) (.int .u64 (s.fr : Nat)) rfl rfl (by kernel_rfl) (by kernel_rfl) (by kernel_rfl) rfl (fun W hW => by go_simp) xH0 ?_
  simp only [Act.put, List.setIfInBounds_toArray, List.set_cons_zero, List.set_cons_succ]
  refine hr_take_w 6 (some 17) (.int .i64 (f : Nat)) rfl rfl (by kernel_rfl) (by kernel_rfl) (by kernel_rfl) rfl (fun W hW => by go_simp) xH0 ?_
  simp only [Act.put, List.setIfInBounds_toArray, List.set_cons_zero, List.set_cons_succ]
  refine hr_call_w 7 (some 18) 10 #[.int .i64 (f : Nat)] rfl rfl (by kernel_rfl) rfl (by go_simp) (fun v w' => v = .int .i64 (m : Nat) ∧ Below xv0.heap.size xv0 w') ((CN xv0).mono (by
    rintro e w' ⟨rfl, C⟩
    exact ⟨_, rfl, rfl, C⟩)) ?_
  rintro v xv1 ⟨rfl, xC0⟩
  have xE1 := xE0.trans (xC0.mono xE0.size)
  have xH1 := xHS.out xv1 xE1
  refine ⟨xH1, ?_⟩
  simp only [Act.put, List.setIfInBounds_toArray, List.set_cons_zero, List.set_cons_succ]
  refine hr_take_w 8 (some 19) (.int .u64 (m : Nat)) rfl rfl (by kernel_rfl) (by kernel_rfl) (by kernel_rfl) rfl (fun W hW => by go_simp) xH1 ?_
  simp only [Act.put, List.setIfInBounds_toArray, List.set_cons_zero, List.set_cons_succ]
  refine hr_take_w 9 (some 20) (.bool false) rfl rfl (by kernel_rfl) (by kernel_rfl) (by kernel_rfl) rfl (fun W hW => by go_simp) xH1 ?_
  simp only [Act.put, List.setIfInBounds_toArray, List.set_cons_zero, List.set_cons_succ]
  refine hr_take_w 10 (some 21) (.bool false) rfl rfl (by kernel_rfl) (by kernel_rfl) (by kernel_rfl) rfl (fun W hW => by go_simp) xH1 ?_
  simp only [Act.put, List.setIfInBounds_toArray, List.set_cons_zero, List.set_cons_succ]
  refine wpAnyH_done (by kernel_rfl) ?_ _
  refine NoPanic.normal ?_
  have B2 := C1.trans (xE1.mono C1.size)
  have xB := xE1
  have y0 := (xB.cell (World.block_lt_of_cell? _ _ y0)).trans y0
  have y1 := (xB.cell (World.block_lt_of_cell? _ _ y1)).trans y1
  have y2 := (xB.cell (World.block_lt_of_cell? _ _ y2)).trans y2
  clear xHS xH0 xH1 CN
  obtain ⟨W2, hW2⟩ : ∃ V, V = xv1 := ⟨_, rfl⟩
  rw [← hW2] at y0 y1 y2 B2 ⊢
  clear hW2 xB
  go_wp2_with fail
  go_loopw [10] (fun i wr => ∃ k : Nat, k ≤ n ∧ i = .int .i64 k ∧ Hid (∀ z ∈ l.take k, z.s.fr < y.s.fr) ∧ Below W2.heap.size W2 wr) (fun i _ => n - (intOf i).toNat)
  case atStart => exact ⟨0, Nat.zero_le _, rfl, fun z hz => by simp at hz, Below.refl _ _⟩
  case round =>
    obtain ⟨k, hk, rfl, HL, B1⟩ := hrel
    have y0 := (B1.cell (World.block_lt_of_cell? _ _ y0)).trans y0
    have y1 := (B1.cell (World.block_lt_of_cell? _ _ y1)).trans y1
    have y2 := (B1.cell (World.block_lt_of_cell? _ _ y2)).trans y2
    have BR := B2.trans (B1.mono B2.size)
    obtain ⟨dn, hdn⟩ : ∃ d, d = n - k := ⟨_, rfl⟩
    have F1 : ∀ W, _ := fun W => run_uptoG (W := W) Try.underlying27 szV (ao := ao) (n := n) (cap := cap) (i := k) (by omega)
    have F2 : ∀ W, _ := fun W => run_backG (W := W) Try.underlying27 szV (ao := ao) (n := n) (cap := cap) (j := k) hk
    have LF := L.front k hk
    have LD := L.from k hk
    obtain ⟨ro, hro⟩ : ∃ a, a = bkG 4 ao cap k := ⟨_, rfl⟩
    rw [← hdn] at F2 LD
    rw [← hro] at F2
    rw [show bkG elV.sz ao cap k = ro from hro.symm] at LD
    have hdl : dn ≤ n := by omega
    clear hro hdn
    by_cases hlt : k < n
    · have hkl : k < l.length := by omega
      have hki : (k : Int) < (n : Int) := by omega
      obtain ⟨b, off, ea, hc⟩ := (L.below elV_fine BR).atV (by omega)
      have x0 := (hc k hkl).c0
      subst ea
      have HTK : Hid (l.take (k + 1) = l.take k ++ [l[k]]) := List.take_succ_eq_append_getElem hkl
      have HSAME : Hid (l[k].s.fr = y.s.fr → insV f l y = (l, 18)) := fun q => insV_same HO.out k hkl HL.out q
      have HNEW0 : Hid (y.s.fr < l[k].s.fr → insV f l y = (l.take k ++ [y] ++ l.drop k, 0)) := fun q => insV_new HO.out k (by omega) HL.out (fun _ => q)
      obtain ⟨u, hu⟩ : ∃ u, u = l[k] := ⟨_, rfl⟩
      rw [← hu] at x0 HTK HSAME HNEW0
      obtain ⟨tb, htb⟩ : ∃ b, b = decide ((u.s.fr : Int) < (s.fr : Int)) := ⟨_, rfl⟩
      have HTB : Hid (decide ((u.s.fr : Int) < (s.fr : Int)) = tb) := htb.symm
      obtain ⟨kb, hkb⟩ : ∃ b, b = ((u.s.fr : Int) == (s.fr : Int)) := ⟨_, rfl⟩
      have HKB : Hid (((u.s.fr : Int) == (s.fr : Int)) = kb) := hkb.symm
      clear hc hu htb hkb
      go_wp2_with fail
      have zHS : Hid (∀ V, Below wr.heap.size wr V → V.cell? ⟨b, off + k * 4, none⟩ = some (.int .u64 (u.s.fr : Nat)) ∧ V.cell? ⟨N, 0, none⟩ = some (.int .u64 (s.fr : Nat))) := fun V hV => ⟨(hV.cell (World.block_lt_of_cell? _ _ x0)).trans x0, (hV.cell (World.block_lt_of_cell? _ _ y0)).trans y0⟩
      have zE0 : Below wr.heap.size wr wr.drew := (Below.refl _ _).drew
      refine wp_region_noPanic ?_
      refine wp_region_held_drew (S := fun V => V.cell? ⟨b, off + k * 4, none⟩ = some (.int .u64 (u.s.fr : Nat)) ∧ V.cell? ⟨N, 0, none⟩ = some (.int .u64 (s.fr : Nat))) (by kernel_rfl) (zHS.out _ zE0) (fun zH0 => ?_)
      obtain ⟨zv0, hv0⟩ : ∃ v, v = wr.drew := ⟨_, rfl⟩
      rw [← hv0] at zH0 zE0 ⊢
      clear hv0
      refine hr_take_w 0 (some 23) (.int .i64 (k : Nat)) rfl rfl (by kernel_rfl) (by kernel_rfl) (by kernel_rfl) rfl (fun W hW => by obtain ⟨h0, h1⟩ := hW; go_simp) zH0 ?_
      simp only [Act.put, List.setIfInBounds_toArray, List.set_cons_zero, List.set_cons_succ]
      refine hr_take_w 1 (some 24) (.slice (some ⟨b, off, none⟩) n cap) rfl rfl (by kernel_rfl) (by kernel_rfl) (by kernel_rfl) rfl (fun W hW => by obtain ⟨h0, h1⟩ := hW; go_simp) zH0 ?_
      simp only [Act.put, List.setIfInBounds_toArray, List.set_cons_zero, List.set_cons_succ]
      refine hr_take_w 2 (some 25) (.int .i64 n) rfl rfl (by kernel_rfl) (by kernel_rfl) (by kernel_rfl) rfl (fun W hW => by obtain ⟨h0, h1⟩ := hW; go_simp) zH0 ?_
      simp only [Act.put, List.setIfInBounds_toArray, List.set_cons_zero, List.set_cons_succ]
      refine hr_take_w 3 (some 26) (.bool true) rfl rfl (by kernel_rfl) (by kernel_rfl) (by kernel_rfl) rfl (fun W hW => by obtain ⟨h0, h1⟩ := hW; go_simp) zH0 ?_
      simp only [Act.put, List.setIfInBounds_toArray, List.set_cons_zero, List.set_cons_succ]
      refine hr_take_w 4 (some 27) (.bool true) rfl rfl (by kernel_rfl) (by kernel_rfl) (by kernel_rfl) rfl (fun W hW => by obtain ⟨h0, h1⟩ := hW; go_simp) zH0 ?_
      simp only [Act.put, List.setIfInBounds_toArray, List.set_cons_zero, List.set_cons_succ]
      refine hr_take_w 5 (some 28) (.slice (some ⟨b, off, none⟩) n cap) rfl rfl (by kernel_rfl) (by kernel_rfl) (by kernel_rfl) rfl (fun W hW => by obtain ⟨h0, h1⟩ := hW; go_simp) zH0 ?_
      simp only [Act.put, List.setIfInBounds_toArray, List.set_cons_zero, List.set_cons_succ]
      refine hr_take_w 6 (some 29) (.int .i64 (k : Nat)) rfl rfl (by kernel_rfl) (by kernel_rfl) (by kernel_rfl) rfl (fun W hW => by obtain ⟨h0, h1⟩ := hW; go_simp) zH0 ?_
      simp only [Act.put, List.setIfInBounds_toArray, List.set_cons_zero, List.set_cons_succ]
      refine hr_take_w 7 (some 30) (.pointer (some ⟨b, off + k * 4, none⟩)) rfl rfl (by kernel_rfl) (by kernel_rfl) (by kernel_rfl) rfl (fun W hW => by obtain ⟨h0, h1⟩ := hW; go_simp) zH0 ?_
      simp only [Act.put, List.setIfInBounds_toArray, List.set_cons_zero, List.set_cons_succ]
      refine hr_take_w 8 (some 31) (.pointer (some ⟨b, off + k * 4, none⟩)) rfl rfl (by kernel_rfl) (by kernel_rfl) (by kernel_rfl) rfl (fun W hW => by obtain ⟨h0, h1⟩ := hW; go_simp) zH0 ?_
      simp only [Act.put, List.setIfInBounds_toArray, List.set_cons_zero, List.set_cons_succ]
      refine hr_take_w 9 (some 32) (.pointer (some ⟨b, off + k * 4, none⟩)) rfl rfl (by kernel_rfl) (by kernel_rfl) (by kernel_rfl) rfl (fun W hW => by obtain ⟨h0, h1⟩ := hW; go_simp) zH0 ?_
      simp only [Act.put, List.setIfInBounds_toArray, List.set_cons_zero, List.set_cons_succ]
      refine hr_take_w 10 (some 33) (.int .u64 (u.s.fr : Nat)) rfl rfl (by kernel_rfl) (by kernel_rfl) (by kernel_rfl) rfl (fun W hW => by obtain ⟨h0, h1⟩ := hW; go_simp) zH0 ?_
      simp only [Act.put, List.setIfInBounds_toArray, List.set_cons_zero, List.set_cons_succ]
      refine hr_take_w 11 (some 34) (.pointer (some ⟨N, 0, none⟩)) rfl rfl (by kernel_rfl) (by kernel_rfl) (by kernel_rfl) rfl (fun W hW => by obtain ⟨h0, h1⟩ := hW; go_simp) zH0 ?_
      simp only [Act.put, List.setIfInBounds_toArray, List.set_cons_zero, List.set_cons_succ]
      refine hr_take_w 12 (some 35) (.int .u64 (s.fr : Nat)) rfl rfl (by kernel_rfl) (by kernel_rfl) (by kernel_rfl) rfl (fun W hW => by obtain ⟨h0, h1⟩ := hW; go_simp) zH0 ?_
      simp only [Act.put, List.setIfInBounds_toArray, List.set_cons_zero, List.set_cons_succ]
      refine hr_take_w 13 (some 36) (.bool tb) rfl rfl (by kernel_rfl) (by kernel_rfl) (by kernel_rfl) rfl (fun W hW => by obtain ⟨h0, h1⟩ := hW; rw [← HTB.out]; go_simp) zH0 ?_
      simp only [Act.put, List.setIfInBounds_toArray, List.set_cons_zero, List.set_cons_succ]
      refine hr_take_w 14 (some 37) (.bool tb) rfl rfl (by kernel_rfl) (by kernel_rfl) (by kernel_rfl) rfl (fun W hW => by obtain ⟨h0, h1⟩ := hW; go_simp) zH0 ?_
      simp only [Act.put, List.setIfInBounds_toArray, List.set_cons_zero, List.set_cons_succ]
      refine wpAnyH_done (by kernel_rfl) ?_ _
      refine NoPanic.normal ?_
      have zB : Below wr.heap.size wr zv0 := zE0
      have x0 := (zB.cell (World.block_lt_of_cell? _ _ x0)).trans x0
      have y0 := (zB.cell (World.block_lt_of_cell? _ _ y0)).trans y0
      have y1 := (zB.cell (World.block_lt_of_cell? _ _ y1)).trans y1
      have y2 := (zB.cell (World.block_lt_of_cell? _ _ y2)).trans y2
      have BV := BR.trans (zB.mono BR.size)
      clear zHS zH0
      cases tb with
      | true =>
        have HL2 : Hid (∀ z ∈ l.take (k + 1), z.s.fr < y.s.fr) := by
          intro z hz
          rw [HTK.out] at hz
          rcases List.mem_append.1 hz with hz | hz
          · exact HL.out z hz
          · rw [List.mem_singleton.1 hz]
            have := of_decide_eq_true HTB.out
            have := HYF.out
            omega
        clear F1 F2
        go_wp2
        go_roundw
        case rel => exact ⟨k + 1, by omega, by go_num, HL2, B1.trans (zB.mono B1.size)⟩
        case measure => simp [intOf]; omega
      | false =>
        have hge : ¬ u.s.fr < y.s.fr := by
          have := of_decide_eq_false HTB.out
          have := HYF.out
          omega
        have hge : Hid (¬ u.s.fr < y.s.fr) := hge
        go_wp2_with fail
        have vHS : Hid (∀ V, Below zv0.heap.size zv0 V → V.cell? ⟨b, off + k * 4, none⟩ = some (.int .u64 (u.s.fr : Nat)) ∧ V.cell? ⟨N, 0, none⟩ = some (.int .u64 (s.fr : Nat))) := fun V hV => ⟨(hV.cell (World.block_lt_of_cell? _ _ x0)).trans x0, (hV.cell (World.block_lt_of_cell? _ _ y0)).trans y0⟩
        have vE0 : Below zv0.heap.size zv0 zv0.drew := (Below.refl _ _).drew
        refine wp_region_noPanic ?_
        refine wp_region_held_drew (S := fun V => V.cell? ⟨b, off + k * 4, none⟩ = some (.int .u64 (u.s.fr : Nat)) ∧ V.cell? ⟨N, 0, none⟩ = some (.int .u64 (s.fr : Nat))) (by kernel_rfl) (vHS.out _ vE0) (fun vH0 => ?_)
        obtain ⟨vv0, hv0⟩ : ∃ v, v = zv0.drew := ⟨_, rfl⟩
        rw [← hv0] at vH0 vE0 ⊢
        clear hv0
        refine hr_take_w 0 (some 40) (.int .i64 (k : Nat)) rfl rfl (by kernel_rfl) (by kernel_rfl) (by kernel_rfl) rfl (fun W hW => by obtain ⟨h0, h1⟩ := hW; go_simp) vH0 ?_
        simp only [Act.put, List.setIfInBounds_toArray, List.set_cons_zero, List.set_cons_succ]
        refine hr_take_w 1 (some 41) (.slice (some ⟨b, off, none⟩) n cap) rfl rfl (by kernel_rfl) (by kernel_rfl) (by kernel_rfl) rfl (fun W hW => by obtain ⟨h0, h1⟩ := hW; go_simp) vH0 ?_
        simp only [Act.put, List.setIfInBounds_toArray, List.set_cons_zero, List.set_cons_succ]
        refine hr_take_w 2 (some 42) (.int .i64 n) rfl rfl (by kernel_rfl) (by kernel_rfl) (by kernel_rfl) rfl (fun W hW => by obtain ⟨h0, h1⟩ := hW; go_simp) vH0 ?_
        simp only [Act.put, List.setIfInBounds_toArray, List.set_cons_zero, List.set_cons_succ]
        refine hr_take_w 3 (some 43) (.bool true) rfl rfl (by kernel_rfl) (by kernel_rfl) (by kernel_rfl) rfl (fun W hW => by obtain ⟨h0, h1⟩ := hW; go_simp) vH0 ?_
        simp only [Act.put, List.setIfInBounds_toArray, List.set_cons_zero, List.set_cons_succ]
        refine hr_take_w 4 (some 44) (.bool true) rfl rfl (by kernel_rfl) (by kernel_rfl) (by kernel_rfl) rfl (fun W hW => by obtain ⟨h0, h1⟩ := hW; go_simp) vH0 ?_
        simp only [Act.put, List.setIfInBounds_toArray, List.set_cons_zero, List.set_cons_succ]
        refine hr_take_w 5 (some 45) (.slice (some ⟨b, off, none⟩) n cap) rfl rfl (by kernel_rfl) (by kernel_rfl) (by kernel_rfl) rfl (fun W hW => by obtain ⟨h0, h1⟩ := hW; go_simp) vH0 ?_
        simp only [Act.put, List.setIfInBounds_toArray, List.set_cons_zero, List.set_cons_succ]
        refine hr_take_w 6 (some 46) (.int .i64 (k : Nat)) rfl rfl (by kernel_rfl) (by kernel_rfl) (by kernel_rfl) rfl (fun W hW => by obtain ⟨h0, h1⟩ := hW; go_simp) vH0 ?_
        simp only [Act.put, List.setIfInBounds_toArray, List.set_cons_zero, List.set_cons_succ]
        refine hr_take_w 7 (some 47) (.pointer (some ⟨b, off + k * 4, none⟩)) rfl rfl (by kernel_rfl) (by kernel_rfl) (by kernel_rfl) rfl (fun W hW => by obtain ⟨h0, h1⟩ := hW; go_simp) vH0 ?_
        simp only [Act.put, List.setIfInBounds_toArray, List.set_cons_zero, List.set_cons_succ]
        refine hr_take_w 8 (some 48) (.pointer (some ⟨b, off + k * 4, none⟩)) rfl rfl (by kernel_rfl) (by kernel_rfl) (by kernel_rfl) rfl (fun W hW => by obtain ⟨h0, h1⟩ := hW; go_simp) vH0 ?_
        simp only [Act.put, List.setIfInBounds_toArray, List.set_cons_zero, List.set_cons_succ]
        refine hr_take_w 9 (some 49) (.pointer (some ⟨b, off + k * 4, none⟩)) rfl rfl (by kernel_rfl) (by kernel_rfl) (by kernel_rfl) rfl (fun W hW => by obtain ⟨h0, h1⟩ := hW; go_simp) vH0 ?_
        simp only [Act.put, List.setIfInBounds_toArray, List.set_cons_zero, List.set_cons_succ]
        refine hr_take_w 10 (some 50) (.int .u64 (u.s.fr : Nat)) rfl rfl (by kernel_rfl) (by kernel_rfl) (by kernel_rfl) rfl (fun W hW => by obtain ⟨h0, h1⟩ := hW; go_simp) vH0 ?_
        simp only [Act.put, List.setIfInBounds_toArray, List.set_cons_zero, List.set_cons_succ]
        refine hr_take_w 11 (some 51) (.pointer (some ⟨N, 0, none⟩)) rfl rfl (by kernel_rfl) (by kernel_rfl) (by kernel_rfl) rfl (fun W hW => by obtain ⟨h0, h1⟩ := hW; go_simp) vH0 ?_
        simp only [Act.put, List.setIfInBounds_toArray, List.set_cons_zero, List.set_cons_succ]
        refine hr_take_w 12 (some 52) (.int .u64 (s.fr : Nat)) rfl rfl (by kernel_rfl) (by kernel_rfl) (by kernel_rfl) rfl (fun W hW => by obtain ⟨h0, h1⟩ := hW; go_simp) vH0 ?_
        simp only [Act.put, List.setIfInBounds_toArray, List.set_cons_zero, List.set_cons_succ]
        refine hr_take_w 13 (some 53) (.bool kb) rfl rfl (by kernel_rfl) (by kernel_rfl) (by kernel_rfl) rfl (fun W hW => by obtain ⟨h0, h1⟩ := hW; rw [← HKB.out]; go_simp) vH0 ?_
        simp only [Act.put, List.setIfInBounds_toArray, List.set_cons_zero, List.set_cons_succ]
        refine hr_take_w 14 (some 54) (.bool kb) rfl rfl (by kernel_rfl) (by kernel_rfl) (by kernel_rfl) rfl (fun W hW => by obtain ⟨h0, h1⟩ := hW; go_simp) vH0 ?_
        simp only [Act.put, List.setIfInBounds_toArray, List.set_cons_zero, List.set_cons_succ]
        refine wpAnyH_done (by kernel_rfl) ?_ _
        refine NoPanic.normal ?_
        have yB : Below zv0.heap.size zv0 vv0 := vE0
        have y0 := (yB.cell (World.block_lt_of_cell? _ _ y0)).trans y0
        have y1 := (yB.cell (World.block_lt_of_cell? _ _ y1)).trans y1
        have y2 := (yB.cell (World.block_lt_of_cell? _ _ y2)).trans y2
        have BW := BV.trans (yB.mono BV.size)
        clear vHS vH0 x0
        cases kb with
        | true =>
          have HX : Hid (insV f l y = (l, 18)) := HSAME.out (by have := HKB.out; have := HYF.out; simp at *; omega)
          have L2 := L.below elV_fine BW
          clear F1 F2 LD LF
          go_wp2
          go_ret2
          exact ⟨_, _, _, _, by rw [HX.out]; rfl, L2, by rw [HX.out], BW⟩
        | false =>
          have HNEW : Hid (insV f l y = (l.take k ++ [y] ++ l.drop k, 0)) := HNEW0.out (by have h1 := HKB.out; have h2 := HYF.out; have h3 := hge.out; simp at h1; omega)
          have LK := LF.below elV_fine BW
          have LR := LD.below elV_fine BW
          clear LD LF
          go_wp2
          have tHS : Hid (∀ V, Below vv0.heap.size vv0 V → V.cell? ⟨N, 0, none⟩ = some (.int .u64 (s.fr : Nat)) ∧ V.cell? ⟨N, 1, none⟩ = some (.slice s.b.ao s.b.n s.b.cap) ∧ V.cell? ⟨N, 2, none⟩ = some (.slice s.tag.ao s.tag.n s.tag.cap)) := fun V hV => ⟨(hV.cell (World.block_lt_of_cell? _ _ y0)).trans y0, (hV.cell (World.block_lt_of_cell? _ _ y1)).trans y1, (hV.cell (World.block_lt_of_cell? _ _ y2)).trans y2⟩
          have tE0 : Below vv0.heap.size vv0 vv0.drew := (Below.refl _ _).drew
          refine wp_region_noPanic ?_
          refine wp_region_held_drew (S := fun V => V.cell? ⟨N, 0, none⟩ = some (.int .u64 (s.fr : Nat)) ∧ V.cell? ⟨N, 1, none⟩ = some (.slice s.b.ao s.b.n s.b.cap) ∧ V.cell? ⟨N, 2, none⟩ = some (.slice s.tag.ao s.tag.n s.tag.cap)) (by kernel_rfl) (tHS.out _ tE0) (fun tH0 => ?_)
          obtain ⟨tv0, hv0⟩ : ∃ v, v = vv0.drew := ⟨_, rfl⟩
          rw [← hv0] at tH0 tE0 ⊢
          clear hv0
          refine hr_take_w 1 (some 57) (.slice (some ⟨b, off, none⟩) n cap) rfl rfl (by kernel_rfl) (by kernel_rfl) (by kernel_rfl) rfl (fun W hW => by obtain ⟨h0, h1, h2⟩ := hW; go_simp) tH0 ?_
          simp only [Act.put, List.setIfInBounds_toArray, List.set_cons_zero, List.set_cons_succ]
          refine hr_take_w 2 (some 58) (.int .i64 (k : Nat)) rfl rfl (by kernel_rfl) (by kernel_rfl) (by kernel_rfl) rfl (fun W hW => by obtain ⟨h0, h1, h2⟩ := hW; go_simp) tH0 ?_
          simp only [Act.put, List.setIfInBounds_toArray, List.set_cons_zero, List.set_cons_succ]
          refine hr_take_w 3 (some 59) (.slice (some ⟨b, off, none⟩) k cap) rfl rfl (by kernel_rfl) (by kernel_rfl) (by kernel_rfl) rfl (fun W hW => by obtain ⟨h0, h1, h2⟩ := hW; simp [execOp, Act.eval, F1]) tH0 ?_
          simp only [Act.put, List.setIfInBounds_toArray, List.set_cons_zero, List.set_cons_succ]
          refine hr_take_w 5 (some 61) (.agg #[.int .u64 (s.fr : Nat), .slice s.b.ao s.b.n s.b.cap, .slice s.tag.ao s.tag.n s.tag.cap]) rfl rfl (by kernel_rfl) (by kernel_rfl) (by kernel_rfl) rfl (fun W hW => by obtain ⟨h0, h1, h2⟩ := hW; go_simp) tH0 ?_
          simp only [Act.put, List.setIfInBounds_toArray, List.set_cons_zero, List.set_cons_succ]
          refine hr_take_w 6 (some 62) (.slice wo wn wc) rfl rfl (by kernel_rfl) (by kernel_rfl) (by kernel_rfl) rfl (fun W hW => by obtain ⟨h0, h1, h2⟩ := hW; go_simp) tH0 ?_
          simp only [Act.put, List.setIfInBounds_toArray, List.set_cons_zero, List.set_cons_succ]
          refine hr_take_w 7 (some 63) (.agg #[.int .u64 (s.fr : Nat), .slice s.b.ao s.b.n s.b.cap, .slice s.tag.ao s.tag.n s.tag.cap, .slice wo wn wc]) rfl rfl (by kernel_rfl) (by kernel_rfl) (by kernel_rfl) rfl (fun W hW => by obtain ⟨h0, h1, h2⟩ := hW; go_simp) tH0 ?_
          simp only [Act.put, List.setIfInBounds_toArray, List.set_cons_zero, List.set_cons_succ]
          refine hr_take_w 10 (some 66) (.slice (some ⟨b, off, none⟩) n cap) rfl rfl (by kernel_rfl) (by kernel_rfl) (by kernel_rfl) rfl (fun W hW => by obtain ⟨h0, h1, h2⟩ := hW; go_simp) tH0 ?_
          simp only [Act.put, List.setIfInBounds_toArray, List.set_cons_zero, List.set_cons_succ]
          refine hr_take_w 11 (some 67) (.int .i64 (k : Nat)) rfl rfl (by kernel_rfl) (by kernel_rfl) (by kernel_rfl) rfl (fun W hW => by obtain ⟨h0, h1, h2⟩ := hW; go_simp) tH0 ?_
          simp only [Act.put, List.setIfInBounds_toArray, List.set_cons_zero, List.set_cons_succ]
          refine hr_take_w 12 (some 68) (.slice ro dn (cap - k)) rfl rfl (by kernel_rfl) (by kernel_rfl) (by kernel_rfl) rfl (fun W hW => by obtain ⟨h0, h1, h2⟩ := hW; simp [execOp, Act.eval, F2]) tH0 ?_
          simp only [Act.put, List.setIfInBounds_toArray, List.set_cons_zero, List.set_cons_succ]
          refine wpAnyH_effto 4 (fun zi zv zw => (zi = 0 → ∃ g, zv = .slice (some ⟨g, 0, none⟩) 0 0 ∧ vv0.heap.size ≤ g ∧ Arr zw g 36 []) ∧ (zi = 4 → ∃ vo vn vc, zv = .slice vo vn vc ∧ GNew elV 36 w0 zw vv0.heap.size (.slice vo vn vc) (l.take k)) ∧ (zi = 8 → ∃ g, zv = .slice (some ⟨g, 0, none⟩) 1 1 ∧ Arr zw g 36 [.int .u64 (s.fr : Nat), .slice s.b.ao s.b.n s.b.cap, .slice s.tag.ao s.tag.n s.tag.cap, .slice wo wn wc])) [(0, 56), (4, 60), (8, 64)] 70 (by kernel_rfl) (by decide) (by decide) rfl ?_ (fun W hW => tHS.out W (tE0.trans (hW.mono tE0.size))) ?_ ?_
          · intro zi v w w' h hb
            refine ⟨fun e => ?_, fun e => ?_, fun e => ?_⟩
            · have h := h.1 e
              obtain ⟨g, h1, h2, h3⟩ := h
              exact ⟨g, h1, h2, h3.below hb h3.lt⟩
            · have h := h.2.1 e
              obtain ⟨vo, vn, vc, h1, h2⟩ := h
              exact ⟨vo, vn, vc, h1, h2.below hb⟩
            · have h := h.2.2 e
              obtain ⟨g, h1, h2⟩ := h
              exact ⟨g, h1, h2.below hb h2.lt⟩
          · intro zp zhi o a w ho hs hb hdep
            have tEB := tE0.trans (hb.mono tE0.size)
            simp only [List.mem_cons, List.not_mem_nil, or_false] at zhi
            rcases zhi with rfl | rfl | rfl
            · obtain rfl : _ = o := Option.some.inj (show some _ = some o from ho)
              exact .inl ⟨_, _, by go_simp, ⟨fun _ => ⟨_, rfl, tEB.size, heap_alloc_new w _⟩, fun e => absurd e (by decide), fun e => absurd e (by decide)⟩, (Below.refl _ _).alloc (Nat.le_refl _) _⟩
            · obtain rfl : _ = o := Option.some.inj (show some _ = some o from ho)
              obtain ⟨x56, t56, f56⟩ := (hdep 0 (by kernel_rfl)).at 56 (by kernel_rfl)
              replace f56 := f56.1 rfl
              have t59 : a.tmps[59]? = some (.slice (some ⟨b, off, none⟩) k cap) := hs.get 59 (by kernel_rfl) rfl
              obtain ⟨g, rfl, hg1, hg2⟩ := f56
              obtain ⟨v', w', hr, h1, h2⟩ := run_appG0 (w0 := w0) elV_fine tyV 27 hg1 hg2 (LK.below elV_fine tEB) (fun q hq => HOK.out q (List.mem_of_mem_take hq)) (by omega) (by omega) tEB.size
              obtain ⟨vo, vn, vc, rfl⟩ := h1.slice
              exact .inl ⟨_, w', by simp [execOp, Act.eval, resolve, invoke, builtin, hr, t56, t59], ⟨fun e => absurd e (by decide), fun _ => ⟨_, _, _, rfl, h1⟩, fun e => absurd e (by decide)⟩, h2⟩
            · obtain rfl : _ = o := Option.some.inj (show some _ = some o from ho)
              have t63 : a.tmps[63]? = some (.agg #[.int .u64 (s.fr : Nat), .slice s.b.ao s.b.n s.b.cap, .slice s.tag.ao s.tag.n s.tag.cap, .slice wo wn wc]) := hs.get 63 (by kernel_rfl) rfl
              exact .inl ⟨_, _, by go_simp, ⟨fun e => absurd e (by decide), fun e => absurd e (by decide), fun _ => ⟨_, rfl, heap_alloc_new w _⟩⟩, (Below.refl _ _).alloc (Nat.le_refl _) _⟩
          intro zf tv1 hb hh
          have tE1 := tE0.trans (hb.mono tE0.size)
          obtain ⟨vo, vn, vc, e4, N4⟩ := (hh (4, 60) (by simp)).2.1 rfl
          obtain ⟨gc, e8, A8⟩ := (hh (8, 64) (by simp)).2.2 rfl
          clear hh hb
          simp only [putL, List.foldl_cons, List.foldl_nil, e4, e8]
          clear e4 e8
          simp only [Act.put, List.setIfInBounds_toArray, List.set_cons_zero, List.set_cons_succ]
          refine hr_ex 9 (some 65) rfl rfl (by kernel_rfl) rfl (R := fun v w' => ∃ r1 n1 c1, v = .slice r1 n1 c1 ∧ GNew elV 36 w0 w' vv0.heap.size (.slice r1 n1 c1) (l.take k ++ [y]) ∧ Below vv0.heap.size tv1 w') (by obtain ⟨v', w', hr, h3, h4⟩ := run_appG1 elV_fine tyV 27 N4 tE1.size (ad := ⟨gc, 0, none⟩) (cp := 1) (y := y) (fun j q hq => by rw [Addr.add_lit, Nat.zero_add, Arr.cell A8]; rw [HY.out] at hq; exact hq) hyok (by rw [List.length_take]; omega) (by rw [List.length_take]; unfold maxLen; omega); obtain ⟨r1, n1, c1, rfl⟩ := h3.slice; exact ⟨_, w', by simp [execOp, Act.eval, resolve, invoke, builtin, hr], _, _, _, rfl, h3, h4⟩) ?_
          rintro v tv2 ⟨r1, n1, c1, rfl, N5, tC1⟩
          have tE2 := tE1.trans tC1
          have tH2 := tHS.out tv2 tE2
          refine ⟨tH2, ?_⟩
          simp only [Act.put, List.setIfInBounds_toArray, List.set_cons_zero, List.set_cons_succ]
          refine hr_ex 13 (some 69) rfl rfl (by kernel_rfl) rfl (R := fun v w' => ∃ r2 n2 c2, v = .slice r2 n2 c2 ∧ GNew elV 36 w0 w' vv0.heap.size (.slice r2 n2 c2) (l.take k ++ [y] ++ l.drop k) ∧ Below vv0.heap.size tv2 w') (by obtain ⟨v', w', hr, h3, h4⟩ := run_appGs elV_fine tyV 27 N5 tE2.size (LR.below elV_fine tE2) (fun q hq => HOK.out q (List.mem_of_mem_drop hq)) (by rw [List.length_append, List.length_take]; simp; omega) (by rw [List.length_append, List.length_take]; simp [maxLen]; omega); obtain ⟨r2, n2, c2, rfl⟩ := h3.slice; exact ⟨_, w', by simp [execOp, Act.eval, resolve, invoke, builtin, hr], _, _, _, rfl, h3, h4⟩) ?_
          rintro v tv3 ⟨r2, n2, c2, rfl, N6, tC2⟩
          have tE3 := tE2.trans tC2
          have tH3 := tHS.out tv3 tE3
          refine ⟨tH3, ?_⟩
          simp only [Act.put, List.setIfInBounds_toArray, List.set_cons_zero, List.set_cons_succ]
          refine hr_take_w 14 (some 8) (.slice r2 n2 c2) rfl rfl (by kernel_rfl) (by kernel_rfl) (by kernel_rfl) rfl (fun W hW => by obtain ⟨h0, h1, h2⟩ := hW; go_simp) tH3 ?_
          simp only [Act.put, List.setIfInBounds_toArray, List.set_cons_zero, List.set_cons_succ]
          refine hr_take_w 15 (some 9) (.int .i64 0) rfl rfl (by kernel_rfl) (by kernel_rfl) (by kernel_rfl) rfl (fun W hW => by obtain ⟨h0, h1, h2⟩ := hW; go_simp) tH3 ?_
          simp only [Act.put, List.setIfInBounds_toArray, List.set_cons_zero, List.set_cons_succ]
          refine wpAnyH_done (by kernel_rfl) ?_ _
          refine NoPanic.normal ?_
          clear tHS tH2 tH3
          have BF := BW.trans (tE3.mono BW.size)
          obtain ⟨ao2, cap2, hv, L2, -⟩ := N6.gl elV_fine BF
          have L3 : GL elV tv3 r2 n2 c2 (l.take k ++ [y] ++ l.drop k) := by
            simp only [Value.slice.injEq] at hv
            obtain ⟨e1, e2, e3⟩ := hv
            rw [e1, e2, e3]
            exact L2
          clear hv L2 N6
          go_wp2
          go_ret2
          exact ⟨_, _, _, _, by rw [HNEW.out]; rfl, L3, by rw [HNEW.out], BF⟩
    · have hge : ¬ (k : Int) < (n : Int) := by omega
      have HNEW : Hid (insV f l y = (l.take k ++ [y] ++ l.drop k, 0)) := insV_new HO.out k (by omega) HL.out (fun q => by omega)
      go_wp2_with fail
      have zHS : Hid (∀ V, Below wr.heap.size wr V → True) := fun _ _ => trivial
      have zE0 : Below wr.heap.size wr wr.drew := (Below.refl _ _).drew
      refine wp_region_noPanic ?_
      refine wp_region_held_drew (S := fun V => True) (by kernel_rfl) (zHS.out _ zE0) (fun zH0 => ?_)
      obtain ⟨zv0, hv0⟩ : ∃ v, v = wr.drew := ⟨_, rfl⟩
      rw [← hv0] at zE0 ⊢
      clear hv0
      refine hr_take_w 0 (some 23) (.int .i64 (k : Nat)) rfl rfl (by kernel_rfl) (by kernel_rfl) (by kernel_rfl) rfl (fun W hW => by go_simp) zH0 ?_
      simp only [Act.put, List.setIfInBounds_toArray, List.set_cons_zero, List.set_cons_succ]
      refine hr_take_w 1 (some 24) (.slice ao n cap) rfl rfl (by kernel_rfl) (by kernel_rfl) (by kernel_rfl) rfl (fun W hW => by go_simp) zH0 ?_
      simp only [Act.put, List.setIfInBounds_toArray, List.set_cons_zero, List.set_cons_succ]
      refine hr_take_w 2 (some 25) (.int .i64 n) rfl rfl (by kernel_rfl) (by kernel_rfl) (by kernel_rfl) rfl (fun W hW => by go_simp) zH0 ?_
      simp only [Act.put, List.setIfInBounds_toArray, List.set_cons_zero, List.set_cons_succ]
      refine hr_take_w 3 (some 26) (.bool false) rfl rfl (by kernel_rfl) (by kernel_rfl) (by kernel_rfl) rfl (fun W hW => by go_simp) zH0 ?_
      simp only [Act.put, List.setIfInBounds_toArray, List.set_cons_zero, List.set_cons_succ]
      refine hr_take_w 4 (some 27) (.bool false) rfl rfl (by kernel_rfl) (by kernel_rfl) (by kernel_rfl) rfl (fun W hW => by go_simp) zH0 ?_
      simp only [Act.put, List.setIfInBounds_toArray, List.set_cons_zero, List.set_cons_succ]
      refine hr_none 5 (some 28) rfl rfl (by kernel_rfl) (by kernel_rfl) (by kernel_rfl) rfl zH0 ?_
      simp only [Act.put, List.setIfInBounds_toArray, List.set_cons_zero, List.set_cons_succ]
      refine hr_none 6 (some 29) rfl rfl (by kernel_rfl) (by kernel_rfl) (by kernel_rfl) rfl zH0 ?_
      simp only [Act.put, List.setIfInBounds_toArray, List.set_cons_zero, List.set_cons_succ]
      refine hr_none 7 (some 30) rfl rfl (by kernel_rfl) (by kernel_rfl) (by kernel_rfl) rfl zH0 ?_
      simp only [Act.put, List.setIfInBounds_toArray, List.set_cons_zero, List.set_cons_succ]
      refine hr_none 8 (some 31) rfl rfl (by kernel_rfl) (by kernel_rfl) (by kernel_rfl) rfl zH0 ?_
      simp only [Act.put, List.setIfInBounds_toArray, List.set_cons_zero, List.set_cons_succ]
      refine hr_none 9 (some 32) rfl rfl (by kernel_rfl) (by kernel_rfl) (by kernel_rfl) rfl zH0 ?_
      simp only [Act.put, List.setIfInBounds_toArray, List.set_cons_zero, List.set_cons_succ]
      refine hr_none 10 (some 33) rfl rfl (by kernel_rfl) (by kernel_rfl) (by kernel_rfl) rfl zH0 ?_
      simp only [Act.put, List.setIfInBounds_toArray, List.set_cons_zero, List.set_cons_succ]
      refine hr_none 11 (some 34) rfl rfl (by kernel_rfl) (by kernel_rfl) (by kernel_rfl) rfl zH0 ?_
      simp only [Act.put, List.setIfInBounds_toArray, List.set_cons_zero, List.set_cons_succ]
      refine hr_none 12 (some 35) rfl rfl (by kernel_rfl) (by kernel_rfl) (by kernel_rfl) rfl zH0 ?_
      simp only [Act.put, List.setIfInBounds_toArray, List.set_cons_zero, List.set_cons_succ]
      refine hr_none 13 (some 36) rfl rfl (by kernel_rfl) (by kernel_rfl) (by kernel_rfl) rfl zH0 ?_
      simp only [Act.put, List.setIfInBounds_toArray, List.set_cons_zero, List.set_cons_succ]
      refine hr_take_w 14 (some 37) (.bool false) rfl rfl (by kernel_rfl) (by kernel_rfl) (by kernel_rfl) rfl (fun W hW => by go_simp) zH0 ?_
      simp only [Act.put, List.setIfInBounds_toArray, List.set_cons_zero, List.set_cons_succ]
      refine wpAnyH_done (by kernel_rfl) ?_ _
      refine NoPanic.normal ?_
      have zB : Below wr.heap.size wr zv0 := zE0
      have y0 := (zB.cell (World.block_lt_of_cell? _ _ y0)).trans y0
      have y1 := (zB.cell (World.block_lt_of_cell? _ _ y1)).trans y1
      have y2 := (zB.cell (World.block_lt_of_cell? _ _ y2)).trans y2
      have BV := BR.trans (zB.mono BR.size)
      clear zHS zH0
      go_wp2_with fail
      have vHS : Hid (∀ V, Below zv0.heap.size zv0 V → True) := fun _ _ => trivial
      have vE0 : Below zv0.heap.size zv0 zv0.drew := (Below.refl _ _).drew
      refine wp_region_noPanic ?_
      refine wp_region_held_drew (S := fun V => True) (by kernel_rfl) (vHS.out _ vE0) (fun vH0 => ?_)
      obtain ⟨vv0, hv0⟩ : ∃ v, v = zv0.drew := ⟨_, rfl⟩
      rw [← hv0] at vE0 ⊢
      clear hv0
      refine hr_take_w 0 (some 40) (.int .i64 (k : Nat)) rfl rfl (by kernel_rfl) (by kernel_rfl) (by kernel_rfl) rfl (fun W hW => by go_simp) vH0 ?_
      simp only [Act.put, List.setIfInBounds_toArray, List.set_cons_zero, List.set_cons_succ]
      refine hr_take_w 1 (some 41) (.slice ao n cap) rfl rfl (by kernel_rfl) (by kernel_rfl) (by kernel_rfl) rfl (fun W hW => by go_simp) vH0 ?_
      simp only [Act.put, List.setIfInBounds_toArray, List.set_cons_zero, List.set_cons_succ]
      refine hr_take_w 2 (some 42) (.int .i64 n) rfl rfl (by kernel_rfl) (by kernel_rfl) (by kernel_rfl) rfl (fun W hW => by go_simp) vH0 ?_
      simp only [Act.put, List.setIfInBounds_toArray, List.set_cons_zero, List.set_cons_succ]
      refine hr_take_w 3 (some 43) (.bool false) rfl rfl (by kernel_rfl) (by kernel_rfl) (by kernel_rfl) rfl (fun W hW => by go_simp) vH0 ?_
      simp only [Act.put, List.setIfInBounds_toArray, List.set_cons_zero, List.set_cons_succ]
      refine hr_take_w 4 (some 44) (.bool false) rfl rfl (by kernel_rfl) (by kernel_rfl) (by kernel_rfl) rfl (fun W hW => by go_simp) vH0 ?_
      simp only [Act.put, List.setIfInBounds_toArray, List.set_cons_zero, List.set_cons_succ]
      refine hr_none 5 (some 45) rfl rfl (by kernel_rfl) (by kernel_rfl) (by kernel_rfl) rfl vH0 ?_
      simp only [Act.put, List.setIfInBounds_toArray, List.set_cons_zero, List.set_cons_succ]
      refine hr_none 6 (some 46) rfl rfl (by kernel_rfl) (by kernel_rfl) (by kernel_rfl) rfl vH0 ?_
      simp only [Act.put, List.setIfInBounds_toArray, List.set_cons_zero, List.set_cons_succ]
      refine hr_none 7 (some 47) rfl rfl (by kernel_rfl) (by kernel_rfl) (by kernel_rfl) rfl vH0 ?_
      simp only [Act.put, List.setIfInBounds_toArray, List.set_cons_zero, List.set_cons_succ]
      refine hr_none 8 (some 48) rfl rfl (by kernel_rfl) (by kernel_rfl) (by kernel_rfl) rfl vH0 ?_
      simp only [Act.put, List.setIfInBounds_toArray, List.set_cons_zero, List.set_cons_succ]
      refine hr_none 9 (some 49) rfl rfl (by kernel_rfl) (by kernel_rfl) (by kernel_rfl) rfl vH0 ?_
      simp only [Act.put, List.setIfInBounds_toArray, List.set_cons_zero, List.set_cons_succ]
      refine hr_none 10 (some 50) rfl rfl (by kernel_rfl) (by kernel_rfl) (by kernel_rfl) rfl vH0 ?_
      simp only [Act.put, List.setIfInBounds_toArray, List.set_cons_zero, List.set_cons_succ]
      refine hr_none 11 (some 51) rfl rfl (by kernel_rfl) (by kernel_rfl) (by kernel_rfl) rfl vH0 ?_
      simp only [Act.put, List.setIfInBounds_toArray, List.set_cons_zero, List.set_cons_succ]
      refine hr_none 12 (some 52) rfl rfl (by kernel_rfl) (by kernel_rfl) (by kernel_rfl) rfl vH0 ?_
      simp only [Act.put, List.setIfInBounds_toArray, List.set_cons_zero, List.set_cons_succ]
      refine hr_none 13 (some 53) rfl rfl (by kernel_rfl) (by kernel_rfl) (by kernel_rfl) rfl vH0 ?_
      simp only [Act.put, List.setIfInBounds_toArray, List.set_cons_zero, List.set_cons_succ]
      refine hr_take_w 14 (some 54) (.bool false) rfl rfl (by kernel_rfl) (by kernel_rfl) (by kernel_rfl) rfl (fun W hW => by go_simp) vH0 ?_
      simp only [Act.put, List.setIfInBounds_toArray, List.set_cons_zero, List.set_cons_succ]
      refine wpAnyH_done (by kernel_rfl) ?_ _
      refine NoPanic.normal ?_
      have yB : Below zv0.heap.size zv0 vv0 := vE0
      have y0 := (yB.cell (World.block_lt_of_cell? _ _ y0)).trans y0
      have y1 := (yB.cell (World.block_lt_of_cell? _ _ y1)).trans y1
      have y2 := (yB.cell (World.block_lt_of_cell? _ _ y2)).trans y2
      have BW := BV.trans (yB.mono BV.size)
      clear vHS vH0
      have LK := LF.below elV_fine BW
      have LR := LD.below elV_fine BW
      clear LD LF
      go_wp2
      have tHS : Hid (∀ V, Below vv0.heap.size vv0 V → V.cell? ⟨N, 0, none⟩ = some (.int .u64 (s.fr : Nat)) ∧ V.cell? ⟨N, 1, none⟩ = some (.slice s.b.ao s.b.n s.b.cap) ∧ V.cell? ⟨N, 2, none⟩ = some (.slice s.tag.ao s.tag.n s.tag.cap)) := fun V hV => ⟨(hV.cell (World.block_lt_of_cell? _ _ y0)).trans y0, (hV.cell (World.block_lt_of_cell? _ _ y1)).trans y1, (hV.cell (World.block_lt_of_cell? _ _ y2)).trans y2⟩
      have tE0 : Below vv0.heap.size vv0 vv0.drew := (Below.refl _ _).drew
      refine wp_region_noPanic ?_
      refine wp_region_held_drew (S := fun V => V.cell? ⟨N, 0, none⟩ = some (.int .u64 (s.fr : Nat)) ∧ V.cell? ⟨N, 1, none⟩ = some (.slice s.b.ao s.b.n s.b.cap) ∧ V.cell? ⟨N, 2, none⟩ = some (.slice s.tag.ao s.tag.n s.tag.cap)) (by kernel_rfl) (tHS.out _ tE0) (fun tH0 => ?_)
      obtain ⟨tv0, hv0⟩ : ∃ v, v = vv0.drew := ⟨_, rfl⟩
      rw [← hv0] at tH0 tE0 ⊢
      clear hv0
      refine hr_take_w 1 (some 57) (.slice ao n cap) rfl rfl (by kernel_rfl) (by kernel_rfl) (by kernel_rfl) rfl (fun W hW => by obtain ⟨h0, h1, h2⟩ := hW; go_simp) tH0 ?_
      simp only [Act.put, List.setIfInBounds_toArray, List.set_cons_zero, List.set_cons_succ]
      refine hr_take_w 2 (some 58) (.int .i64 (k : Nat)) rfl rfl (by kernel_rfl) (by kernel_rfl) (by kernel_rfl) rfl (fun W hW => by obtain ⟨h0, h1, h2⟩ := hW; go_simp) tH0 ?_
      simp only [Act.put, List.setIfInBounds_toArray, List.set_cons_zero, List.set_cons_succ]
      refine hr_take_w 3 (some 59) (.slice ao k cap) rfl rfl (by kernel_rfl) (by kernel_rfl) (by kernel_rfl) rfl (fun W hW => by obtain ⟨h0, h1, h2⟩ := hW; simp [execOp, Act.eval, F1]) tH0 ?_
      simp only [Act.put, List.setIfInBounds_toArray, List.set_cons_zero, List.set_cons_succ]
      refine hr_take_w 5 (some 61) (.agg #[.int .u64 (s.fr : Nat), .slice s.b.ao s.b.n s.b.cap, .slice s.tag.ao s.tag.n s.tag.cap]) rfl rfl (by kernel_rfl) (by kernel_rfl) (by kernel_rfl) rfl (fun W hW => by obtain ⟨h0, h1, h2⟩ := hW; go_simp) tH0 ?_
      simp only [Act.put, List.setIfInBounds_toArray, List.set_cons_zero, List.set_cons_succ]
      refine hr_take_w 6 (some 62) (.slice wo wn wc) rfl rfl (by kernel_rfl) (by kernel_rfl) (by kernel_rfl) rfl (fun W hW => by obtain ⟨h0, h1, h2⟩ := hW; go_simp) tH0 ?_
      simp only [Act.put, List.setIfInBounds_toArray, List.set_cons_zero, List.set_cons_succ]
      refine hr_take_w 7 (some 63) (.agg #[.int .u64 (s.fr : Nat), .slice s.b.ao s.b.n s.b.cap, .slice s.tag.ao s.tag.n s.tag.cap, .slice wo wn wc]) rfl rfl (by kernel_rfl) (by kernel_rfl) (by kernel_rfl) rfl (fun W hW => by obtain ⟨h0, h1, h2⟩ := hW; go_simp) tH0 ?_
      simp only [Act.put, List.setIfInBounds_toArray, List.set_cons_zero, List.set_cons_succ]
      refine hr_take_w 10 (some 66) (.slice ao n cap) rfl rfl (by kernel_rfl) (by kernel_rfl) (by kernel_rfl) rfl (fun W hW => by obtain ⟨h0, h1, h2⟩ := hW; go_simp) tH0 ?_
      simp only [Act.put, List.setIfInBounds_toArray, List.set_cons_zero, List.set_cons_succ]
      refine hr_take_w 11 (some 67) (.int .i64 (k : Nat)) rfl rfl (by kernel_rfl) (by kernel_rfl) (by kernel_rfl) rfl (fun W hW => by obtain ⟨h0, h1, h2⟩ := hW; go_simp) tH0 ?_
      simp only [Act.put, List.setIfInBounds_toArray, List.set_cons_zero, List.set_cons_succ]
      refine hr_take_w 12 (some 68) (.slice ro dn (cap - k)) rfl rfl (by kernel_rfl) (by kernel_rfl) (by kernel_rfl) rfl (fun W hW => by obtain ⟨h0, h1, h2⟩ := hW; simp [execOp, Act.eval, F2]) tH0 ?_
      simp only [Act.put, List.setIfInBounds_toArray, List.set_cons_zero, List.set_cons_succ]
      refine wpAnyH_effto 4 (fun zi zv zw => (zi = 0 → ∃ g, zv = .slice (some ⟨g, 0, none⟩) 0 0 ∧ vv0.heap.size ≤ g ∧ Arr zw g 36 []) ∧ (zi = 4 → ∃ vo vn vc, zv = .slice vo vn vc ∧ GNew elV 36 w0 zw vv0.heap.size (.slice vo vn vc) (l.take k)) ∧ (zi = 8 → ∃ g, zv = .slice (some ⟨g, 0, none⟩) 1 1 ∧ Arr zw g 36 [.int .u64 (s.fr : Nat), .slice s.b.ao s.b.n s.b.cap, .slice s.tag.ao s.tag.n s.tag.cap, .slice wo wn wc])) [(0, 56), (4, 60), (8, 64)] 70 (by kernel_rfl) (by decide) (by decide) rfl ?_ (fun W hW => tHS.out W (tE0.trans (hW.mono tE0.size))) ?_ ?_
      · intro zi v w w' h hb
        refine ⟨fun e => ?_, fun e => ?_, fun e => ?_⟩
        · have h := h.1 e
          obtain ⟨g, h1, h2, h3⟩ := h
          exact ⟨g, h1, h2, h3.below hb h3.lt⟩
        · have h := h.2.1 e
          obtain ⟨vo, vn, vc, h1, h2⟩ := h
          exact ⟨vo, vn, vc, h1, h2.below hb⟩
        · have h := h.2.2 e
          obtain ⟨g, h1, h2⟩ := h
          exact ⟨g, h1, h2.below hb h2.lt⟩
      · intro zp zhi o a w ho hs hb hdep
        have tEB := tE0.trans (hb.mono tE0.size)
        simp only [List.mem_cons, List.not_mem_nil, or_false] at zhi
        rcases zhi with rfl | rfl | rfl
        · obtain rfl : _ = o := Option.some.inj (show some _ = some o from ho)
          exact .inl ⟨_, _, by go_simp, ⟨fun _ => ⟨_, rfl, tEB.size, heap_alloc_new w _⟩, fun e => absurd e (by decide), fun e => absurd e (by decide)⟩, (Below.refl _ _).alloc (Nat.le_refl _) _⟩
        · obtain rfl : _ = o := Option.some.inj (show some _ = some o from ho)
          obtain ⟨x56, t56, f56⟩ := (hdep 0 (by kernel_rfl)).at 56 (by kernel_rfl)
          replace f56 := f56.1 rfl
          have t59 : a.tmps[59]? = some (.slice ao k cap) := hs.get 59 (by kernel_rfl) rfl
          obtain ⟨g, rfl, hg1, hg2⟩ := f56
          obtain ⟨v', w', hr, h1, h2⟩ := run_appG0 (w0 := w0) elV_fine tyV 27 hg1 hg2 (LK.below elV_fine tEB) (fun q hq => HOK.out q (List.mem_of_mem_take hq)) (by omega) (by omega) tEB.size
          obtain ⟨vo, vn, vc, rfl⟩ := h1.slice
          exact .inl ⟨_, w', by simp [execOp, Act.eval, resolve, invoke, builtin, hr, t56, t59], ⟨fun e => absurd e (by decide), fun _ => ⟨_, _, _, rfl, h1⟩, fun e => absurd e (by decide)⟩, h2⟩
        · obtain rfl : _ = o := Option.some.inj (show some _ = some o from ho)
          have t63 : a.tmps[63]? = some (.agg #[.int .u64 (s.fr : Nat), .slice s.b.ao s.b.n s.b.cap, .slice s.tag.ao s.tag.n s.tag.cap, .slice wo wn wc]) := hs.get 63 (by kernel_rfl) rfl
          exact .inl ⟨_, _, by go_simp, ⟨fun e => absurd e (by decide), fun e => absurd e (by decide), fun _ => ⟨_, rfl, heap_alloc_new w _⟩⟩, (Below.refl _ _).alloc (Nat.le_refl _) _⟩
      intro zf tv1 hb hh
      have tE1 := tE0.trans (hb.mono tE0.size)
      obtain ⟨vo, vn, vc, e4, N4⟩ := (hh (4, 60) (by simp)).2.1 rfl
      obtain ⟨gc, e8, A8⟩ := (hh (8, 64) (by simp)).2.2 rfl
      clear hh hb
      simp only [putL, List.foldl_cons, List.foldl_nil, e4, e8]
      clear e4 e8
      simp only [Act.put, List.setIfInBounds_toArray, List.set_cons_zero, List.set_cons_succ]
      refine hr_ex 9 (some 65) rfl rfl (by kernel_rfl) rfl (R := fun v w' => ∃ r1 n1 c1, v = .slice r1 n1 c1 ∧ GNew elV 36 w0 w' vv0.heap.size (.slice r1 n1 c1) (l.take k ++ [y]) ∧ Below vv0.heap.size tv1 w') (by obtain ⟨v', w', hr, h3, h4⟩ := run_appG1 elV_fine tyV 27 N4 tE1.size (ad := ⟨gc, 0, none⟩) (cp := 1) (y := y) (fun j q hq => by rw [Addr.add_lit, Nat.zero_add, Arr.cell A8]; rw [HY.out] at hq; exact hq) hyok (by rw [List.length_take]; omega) (by rw [List.length_take]; unfold maxLen; omega); obtain ⟨r1, n1, c1, rfl⟩ := h3.slice; exact ⟨_, w', by simp [execOp, Act.eval, resolve, invoke, builtin, hr], _, _, _, rfl, h3, h4⟩) ?_
      rintro v tv2 ⟨r1, n1, c1, rfl, N5, tC1⟩
      have tE2 := tE1.trans tC1
      have tH2 := tHS.out tv2 tE2
      refine ⟨tH2, ?_⟩
      simp only [Act.put, List.setIfInBounds_toArray, List.set_cons_zero, List.set_cons_succ]
      refine hr_ex 13 (some 69) rfl rfl (by kernel_rfl) rfl (R := fun v w' => ∃ r2 n2 c2, v = .slice r2 n2 c2 ∧ GNew elV 36 w0 w' vv0.heap.size (.slice r2 n2 c2) (l.take k ++ [y] ++ l.drop k) ∧ Below vv0.heap.size tv2 w') (by obtain ⟨v', w', hr, h3, h4⟩ := run_appGs elV_fine tyV 27 N5 tE2.size (LR.below elV_fine tE2) (fun q hq => HOK.out q (List.mem_of_mem_drop hq)) (by rw [List.length_append, List.length_take]; simp; omega) (by rw [List.length_append, List.length_take]; simp [maxLen]; omega); obtain ⟨r2, n2, c2, rfl⟩ := h3.slice; exact ⟨_, w', by simp [execOp, Act.eval, resolve, invoke, builtin, hr], _, _, _, rfl, h3, h4⟩) ?_
      rintro v tv3 ⟨r2, n2, c2, rfl, N6, tC2⟩
      have tE3 := tE2.trans tC2
      have tH3 := tHS.out tv3 tE3
      refine ⟨tH3, ?_⟩
      simp only [Act.put, List.setIfInBounds_toArray, List.set_cons_zero, List.set_cons_succ]
      refine hr_take_w 14 (some 8) (.slice r2 n2 c2) rfl rfl (by kernel_rfl) (by kernel_rfl) (by kernel_rfl) rfl (fun W hW => by obtain ⟨h0, h1, h2⟩ := hW; go_simp) tH3 ?_
      simp only [Act.put, List.setIfInBounds_toArray, List.set_cons_zero, List.set_cons_succ]
      refine hr_take_w 15 (some 9) (.int .i64 0) rfl rfl (by kernel_rfl) (by kernel_rfl) (by kernel_rfl) rfl (fun W hW => by obtain ⟨h0, h1, h2⟩ := hW; go_simp) tH3 ?_
      simp only [Act.put, List.setIfInBounds_toArray, List.set_cons_zero, List.set_cons_succ]
      refine wpAnyH_done (by kernel_rfl) ?_ _
      refine NoPanic.normal ?_
      clear tHS tH2 tH3
      have BF := BW.trans (tE3.mono BW.size)
      obtain ⟨ao2, cap2, hv, L2, -⟩ := N6.gl elV_fine BF
      have L3 : GL elV tv3 r2 n2 c2 (l.take k ++ [y] ++ l.drop k) := by
        simp only [Value.slice.injEq] at hv
        obtain ⟨e1, e2, e3⟩ := hv
        rw [e1, e2, e3]
        exact L2
      clear hv L2 N6
      go_wp2
      go_ret2
      exact ⟨_, _, _, _, by rw [HNEW.out]; rfl, L3, by rw [HNEW.out], BF⟩
theorem radd_any (w0 : World) (f : Nat) (h1 : 1 ≤ f) (h4 : f ≤ 4) (ao : Option Addr) (n cap : Nat) (l : List VA) (L : GL elV w0 ao n cap l) (s : SA) (hs : s.ok w0) (wo : Option Addr) (wn wc : Nat) (ws : List Int) (SW : Sl w0 wo wn wc ws) (hn : n ≤ 1000) : Calls Try.prog 19 #[.slice ao n cap, .int .i64 (f : Nat), .agg #[.int .u64 (s.fr : Nat), .slice s.b.ao s.b.n s.b.cap, .slice s.tag.ao s.tag.n s.tag.cap], .slice wo wn wc] w0 (AddPost w0 f l ⟨s, ⟨wo, wn, wc, ws⟩⟩) := by
  by_cases hz : s.fr = 0
  · exact radd_zero w0 f h1 h4 ao n cap l L s hs wo wn wc ws SW hn _ rfl hz
  · by_cases hz2 : 3 * f + 1 < s.fr
    · exact radd_over w0 f h1 h4 ao n cap l L s hs wo wn wc ws SW hn _ rfl hz2
    · exact radd_in w0 f h1 h4 ao n cap l L s hs wo wn wc ws SW hn _ rfl (by omega) (by omega)
end Go.Proofs.Ytghemebgkhopnaa

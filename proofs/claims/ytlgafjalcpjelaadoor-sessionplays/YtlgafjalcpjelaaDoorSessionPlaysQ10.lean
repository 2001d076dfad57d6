/-
  Texts in one: FormsB, PPut, CKeys, PKey, PutL, PResult, ResBack.
-/
import Derived.Test.YtlgafjalcpjelaaDoorSessionPlaysQFL
import Derived.Test.YtlgafjalcpjelaaDoorSessionPlaysQ9
import Derived.Test.YtlgafjalcpjelaaDoorSessionPlaysQ0
import Derived.Test.YtlgafjalcpjelaaDoorSessionPlaysQ3
import Derived.Test.YtlgafjalcpjelaaDoorSessionPlaysQ2
namespace Go.Proofs.YtlgafjalcpjelaaDoor
open Go.RowKit
set_option maxHeartbeats 400000 in
theorem wBool_any (w : World) (ao : Option Addr) (n cap : Nat) (b : Bool) (xs : List Int) (h : Sl w ao n cap xs) (hr : n + 30 ≤ 140737488355328) :
    Calls Tryd.prog 43 #[.slice ao n cap, .bool b] w fun e w' =>
      ∃ v, e = .returned v ∧ w'.ownsRow w.heap.size 5 1 v (n + 1) (bv (xs ++ enb b)) ∧ Below w.heap.size w w' := by
  cases b
  all_goals
    go_enter Tryd.func43, Tryd.ntmps43
    go_wp2_with fail
    refine (withRoom_any w ao n cap 1 xs h (by omega)).mono ?_
    rintro e w1 ⟨rfl, hown1, hb1⟩
    have hs := hb1.size
    go_wp2_with (at_builtin; refine wpList_app rfl _ _ rfl w.heap.size _ _ _ rfl (hown1.alloc _) _ _ _ _ rfl (Sl.one w1 _ (by decide)) (by omega) (by simp; omega) ?_; intro v3 w3 hown3 hb3)
    have hb4 := (hb1.alloc hs _).trans hb3
    clear hb1 hown1 hb3
    go_ret
    exact ⟨v3, rfl, hown3, hb4⟩
open Go.RowKit
theorem sl_of_own {w w' : World} {v : Value} {n : Nat} {xs : List Int} (h : w'.ownsRow w.heap.size 5 1 v n (bv xs)) (hb : Byt xs) : ∃ ao m cap, v = .slice ao m cap ∧ Sl w' ao m cap xs := by
  obtain ⟨ao, cap, e, s, _⟩ := Sl.own h hb
  exact ⟨ao, n, cap, e, s⟩
theorem fUint (w : World) (ao : Option Addr) (n cap m : Nat) (xs : List Int) (h : Sl w ao n cap xs) (hr : n ≤ 1000000) (hm : m < 18446744073709551616) :
    Calls Tryd.prog 31 #[.slice ao n cap, .int .u64 m] w fun e w' => ∃ bo k c, e = .returned (.slice bo k c) ∧ Sl w' bo k c (xs ++ enc m) ∧ Below w.heap.size w w' := by
  refine (wUint_any w ao n cap m xs h (by omega) hm).mono ?_
  rintro e w' ⟨v, rfl, O, B⟩
  obtain ⟨bo, k, c, rfl, s⟩ := sl_of_own O (h.byte.append (enc_byte hm))
  exact ⟨bo, k, c, rfl, s, B⟩
theorem fBytes (w : World) (ao bo : Option Addr) (n cap m cap2 : Nat) (xs ys : List Int) (h : Sl w ao n cap xs) (h2 : Sl w bo m cap2 ys) (hr : n ≤ 1000000) (hr2 : m ≤ 1000000) :
    Calls Tryd.prog 32 #[.slice ao n cap, .slice bo m cap2] w fun e w' => ∃ bo k c, e = .returned (.slice bo k c) ∧ Sl w' bo k c (xs ++ byts ys) ∧ Below w.heap.size w w' := by
  refine (wBytes_any w ao bo n cap m cap2 xs ys h h2 (by omega)).mono ?_
  rintro e w' ⟨v, rfl, O, B⟩
  have e1 : xs ++ enc m ++ ys = xs ++ byts ys := by unfold byts; rw [h2.len, List.append_assoc]
  rw [e1] at O
  obtain ⟨bo, k, c, rfl, s⟩ := sl_of_own O (h.byte.append (by unfold byts; rw [h2.len]; exact Byt.append (enc_byte (n := m) (by omega)) h2.byte))
  exact ⟨bo, k, c, rfl, s, B⟩
theorem fBool (w : World) (ao : Option Addr) (n cap : Nat) (b : Bool) (xs : List Int) (h : Sl w ao n cap xs) (hr : n ≤ 1000000) :
    Calls Tryd.prog 43 #[.slice ao n cap, .bool b] w fun e w' => ∃ bo k c, e = .returned (.slice bo k c) ∧ Sl w' bo k c (xs ++ enb b) ∧ Below w.heap.size w w' := by
  refine (wBool_any w ao n cap b xs h (by omega)).mono ?_
  rintro e w' ⟨v, rfl, O, B⟩
  obtain ⟨bo, k, c, rfl, s⟩ := sl_of_own O (h.byte.append (enb_byte b))
  exact ⟨bo, k, c, rfl, s, B⟩
theorem txt_len {s : ByteArray} (h : s.size ≤ 32) : (txt s).length ≤ 42 := by
  have := enc_length (n := s.size) (by omega)
  unfold txt
  rw [List.length_append, sb_len]
  omega
theorem txt_byts (s : ByteArray) : byts (sb s) = txt s := by unfold byts txt; rw [sb_len]
set_option maxRecDepth 100000 in
set_option maxHeartbeats 1000000 in
theorem ptexts_any (w : World) (ao : Option Addr) (n cap : Nat) (xs : List Int) (h : Sl w ao n cap xs) (hr : n ≤ 900000) (g : Nat) (ss : List ByteArray) (hs : ∀ i (hi : i < ss.length), w.cell? ⟨g, i, none⟩ = some (.string ss[i])) (hl : ss.length ≤ 3) (h32 : ∀ s ∈ ss, s.size ≤ 32) :
    Calls Tryd.prog 56 #[.slice ao n cap, .slice (some ⟨g, 0, none⟩) ss.length ss.length] w fun e w' => ∃ bo k c, e = .returned (.slice bo k c) ∧ Sl w' bo k c (xs ++ (ss.map txt).flatten) ∧ Below w.heap.size w w' := by
  have hxl := h.len
  go_enter Tryd.func56, Tryd.ntmps56
  go_wp2
  go_loopw [0, 6, 9] (fun b _ i wr => ∃ (k : Nat) (bo : Option Addr) (m c : Nat), k ≤ ss.length ∧ i = .int .i64 k ∧ b = .slice bo m c ∧ Sl wr bo m c (xs ++ ((ss.take k).map txt).flatten) ∧ m ≤ n + 42 * k ∧ Below w.heap.size w wr) (fun _ _ i _ => ss.length - (intOf i).toNat)
  case atStart => exact ⟨0, ao, n, cap, Nat.zero_le _, rfl, rfl, by simpa using h, by omega, Below.refl _ _⟩
  case round =>
    obtain ⟨k, bo, m, c, hk, rfl, rfl, S, hm, B⟩ := hrel
    by_cases hlt : k < ss.length
    · have i1 : (k : Int) < (ss.length : Int) := by omega
      have q1 : wr.cell? ⟨g, k, none⟩ = some (.string ss[k]) := (B.cell (World.block_lt_of_cell? w _ (hs k hlt))).trans (hs k hlt)
      have z1 := h32 _ (List.getElem_mem hlt)
      have HT : Hid (((ss.take (k + 1)).map txt).flatten = ((ss.take k).map txt).flatten ++ txt ss[k]) := by
        show _ = _
        rw [List.take_succ_eq_append_getElem hlt, List.map_append, List.flatten_append]
        simp
      obtain ⟨s, hs1⟩ : ∃ s, s = ss[k] := ⟨_, rfl⟩
      obtain ⟨p, hp⟩ : ∃ p, p = ((ss.take k).map txt).flatten := ⟨_, rfl⟩
      rw [← hs1] at q1 z1 HT
      rw [← hp] at S HT
      clear hs1 hp hs h32
      have hm1 : m ≤ 1000000 := by omega
      have hm2 : s.size ≤ 1000000 := by omega
      go_wp2_with (refine wpList_conv_bytes rfl (.tmp 14) rfl s rfl (by omega) ?_; intro g1 c1 w1 hg1 S1 B1; have D1 : Below w.heap.size w w1 := B.trans (B1.mono B.size); have T1 := S.below B1; have hl1 := S.len; clear B1 S hg1)
      refine (fBytes w1 bo (some ⟨g1, 0, none⟩) m c s.size c1 (xs ++ p) (sb s) T1 S1 hm1 hm2).mono ?_
      rintro e w2 ⟨bo2, m2, c2, rfl, S2, B2⟩
      have D2 := D1.trans (B2.mono D1.size)
      have l2 := S2.len
      rw [txt_byts] at S2 l2
      clear B2 T1 S1
      go_wp2
      have hl2 := txt_len z1
      go_roundw
      case rel => exact ⟨k + 1, bo2, m2, c2, by omega, by go_num, rfl, by rw [HT.out, ← List.append_assoc]; exact S2, by simp only [List.length_append] at l2 hl1; omega, D2⟩
      case measure => simp [intOf]; omega
    · have i1 : (ss.length : Int) ≤ (k : Int) := by omega
      rw [List.take_of_length_le (by omega)] at S
      go_wp2
      go_ret
      exact ⟨bo, m, c, rfl, S, B⟩
open Go.RowKit
def KyC (V : World) (p : Nat) (k : KA) : Prop := V.heap[p]? = some (.cells #[.string k.row, .string k.fam, .string k.qual, .int .u64 k.time] 69)
theorem KyC.lt {V : World} {p : Nat} {k : KA} (h : KyC V p k) : p < V.heap.size := (Array.getElem?_eq_some_iff.1 h).1
theorem KyC.below {V V' : World} {p n : Nat} {k : KA} (h : KyC V p k) (hb : Below n V V') (hp : p < n) : KyC V' p k := (hb.block p hp).trans h
theorem KyC.keep {V V' : World} {p : Nat} {k : KA} (h : KyC V p k) (hb : Below V.heap.size V V') : KyC V' p k := h.below hb h.lt
theorem KyC.new (w : World) (k : KA) : KyC (w.alloc (.cells #[.string k.row, .string k.fam, .string k.qual, .int .u64 k.time] 69)) w.heap.size k := heap_alloc_new w _
theorem KyC.c0 {V : World} {p : Nat} {k : KA} (h : KyC V p k) : V.cell? ⟨p, 0, none⟩ = some (.string k.row) := cell_of_row V p 0 _ _ _ h
theorem KyC.c1 {V : World} {p : Nat} {k : KA} (h : KyC V p k) : V.cell? ⟨p, 1, none⟩ = some (.string k.fam) := cell_of_row V p 1 _ _ _ h
theorem KyC.c2 {V : World} {p : Nat} {k : KA} (h : KyC V p k) : V.cell? ⟨p, 2, none⟩ = some (.string k.qual) := cell_of_row V p 2 _ _ _ h
theorem KyC.c3 {V : World} {p : Nat} {k : KA} (h : KyC V p k) : V.cell? ⟨p, 3, none⟩ = some (.int .u64 k.time) := cell_of_row V p 3 _ _ _ h
open Go.RowKit
def putK (k : KA) : List Int := txt k.row ++ (txt k.fam ++ (txt k.qual ++ enc k.time))
structure KA.fits (k : KA) : Prop where
  row : k.row.size ≤ 32
  fam : k.fam.size ≤ 32
  qual : k.qual.size ≤ 32
  time : k.time < 18446744073709551616
set_option maxRecDepth 100000 in
set_option maxHeartbeats 4000000 in
theorem pkey_any (w : World) (ao : Option Addr) (n cap : Nat) (xs : List Int) (h : Sl w ao n cap xs) (hr : n ≤ 900000) (k : KA) (hk : k.fits) :
    Calls Tryd.prog 42 #[.slice ao n cap, k.val] w fun e w' => ∃ bo m c, e = .returned (.slice bo m c) ∧ Sl w' bo m c (xs ++ putK k) ∧ Below w.heap.size w w' := by
  have hxl := h.len
  have B : Below w.heap.size w (w.alloc (.cells #[.string k.row, .string k.fam, .string k.qual, .int .u64 k.time] 69)) := (Below.refl _ w).alloc (Nat.le_refl _) _
  have K := KyC.new w k
  have h1 := h.below B
  unfold KA.val
  go_enter Tryd.func42, Tryd.ntmps42
  go_wp2_with fail
  obtain ⟨w1, hw1⟩ : ∃ W, W = w.alloc (.cells #[.string k.row, .string k.fam, .string k.qual, .int .u64 k.time] 69) := ⟨_, rfl⟩
  obtain ⟨N, hN⟩ : ∃ N, N = w.heap.size := ⟨_, rfl⟩
  rw [← hw1] at B K h1 ⊢
  rw [← hN] at B K ⊢
  have HN : Hid (N = w.heap.size) := hN
  clear h hw1 hN
  have HS : Hid (∀ V, Below w1.heap.size w1 V → V.cell? ⟨N, 0, none⟩ = some (.string k.row) ∧ V.cell? ⟨N, 1, none⟩ = some (.string k.fam) ∧ V.cell? ⟨N, 2, none⟩ = some (.string k.qual) ∧ V.cell? ⟨N, 3, none⟩ = some (.int .u64 k.time)) := fun V hV => have q := K.keep hV; ⟨q.c0, q.c1, q.c2, q.c3⟩
  have E0 : Below w1.heap.size w1 w1.drew := (Below.refl _ _).drew
  refine wp_region_noPanic ?_
  refine wp_region_held_drew (S := fun V => V.cell? ⟨N, 0, none⟩ = some (.string k.row) ∧ V.cell? ⟨N, 1, none⟩ = some (.string k.fam) ∧ V.cell? ⟨N, 2, none⟩ = some (.string k.qual) ∧ V.cell? ⟨N, 3, none⟩ = some (.int .u64 k.time)) (by kernel_rfl) (HS.out _ E0) (fun H0 => ?_)
  obtain ⟨v0, hv0⟩ : ∃ v, v = w1.drew := ⟨_, rfl⟩
  rw [← hv0] at H0 E0 ⊢
  clear hv0
  refine hr_take_w 0 (some 5) (.slice ao n cap) rfl rfl (by kernel_rfl) (by kernel_rfl) (by kernel_rfl) rfl (fun W hW => by obtain ⟨h0, h1, h2, h3⟩ := hW; go_simp) H0 ?_
  simp only [FL]
  refine hr_take_w 1 (some 6) (.pointer (some ⟨N, 0, none⟩)) rfl rfl (by kernel_rfl) (by kernel_rfl) (by kernel_rfl) rfl (fun W hW => by obtain ⟨h0, h1, h2, h3⟩ := hW; go_simp) H0 ?_
  simp only [FL]
  refine hr_take_w 2 (some 7) (.string k.row) rfl rfl (by kernel_rfl) (by kernel_rfl) (by kernel_rfl) rfl (fun W hW => by obtain ⟨h0, h1, h2, h3⟩ := hW; go_simp) H0 ?_
  simp only [FL]
  refine hr_take_w 3 (some 8) (.pointer (some ⟨N, 1, none⟩)) rfl rfl (by kernel_rfl) (by kernel_rfl) (by kernel_rfl) rfl (fun W hW => by obtain ⟨h0, h1, h2, h3⟩ := hW; go_simp) H0 ?_
  simp only [FL]
  refine hr_take_w 4 (some 9) (.string k.fam) rfl rfl (by kernel_rfl) (by kernel_rfl) (by kernel_rfl) rfl (fun W hW => by obtain ⟨h0, h1, h2, h3⟩ := hW; go_simp) H0 ?_
  simp only [FL]
  refine hr_take_w 5 (some 10) (.pointer (some ⟨N, 2, none⟩)) rfl rfl (by kernel_rfl) (by kernel_rfl) (by kernel_rfl) rfl (fun W hW => by obtain ⟨h0, h1, h2, h3⟩ := hW; go_simp) H0 ?_
  simp only [FL]
  refine hr_take_w 6 (some 11) (.string k.qual) rfl rfl (by kernel_rfl) (by kernel_rfl) (by kernel_rfl) rfl (fun W hW => by obtain ⟨h0, h1, h2, h3⟩ := hW; go_simp) H0 ?_
  simp only [FL]
  refine hr_take_w 9 (some 14) (.pointer (some ⟨N, 3, none⟩)) rfl rfl (by kernel_rfl) (by kernel_rfl) (by kernel_rfl) rfl (fun W hW => by obtain ⟨h0, h1, h2, h3⟩ := hW; go_simp) H0 ?_
  simp only [FL]
  refine hr_take_w 10 (some 15) (.int .u64 k.time) rfl rfl (by kernel_rfl) (by kernel_rfl) (by kernel_rfl) rfl (fun W hW => by obtain ⟨h0, h1, h2, h3⟩ := hW; go_simp) H0 ?_
  simp only [FL]
  obtain ⟨g, hg⟩ : ∃ g, g = v0.heap.size := ⟨_, rfl⟩
  obtain ⟨u0, hu0⟩ : ∃ V, V = v0.alloc (.cells #[.string k.row, .string k.fam, .string k.qual] 9) := ⟨_, rfl⟩
  have U0 : Below v0.heap.size v0 u0 := by rw [hu0]; exact (Below.refl _ _).alloc (Nat.le_refl _) _
  have hc : ∀ i (hi : i < [k.row, k.fam, k.qual].length), u0.cell? ⟨g, i, none⟩ = some (.string [k.row, k.fam, k.qual][i]) := fun i hi => by
    rw [hu0, hg, cell_of_row _ v0.heap.size i #[.string k.row, .string k.fam, .string k.qual] 9 (0, 0) (heap_alloc_new v0 _)]
    have hi : i < 3 := hi
    obtain rfl | rfl | rfl : i = 0 ∨ i = 1 ∨ i = 2 := by omega
    all_goals rfl
  have E1 := E0.trans (U0.mono E0.size)
  have H1 := HS.out u0 E1
  refine hr_do 7 (some 12) (.slice (some ⟨g, 0, none⟩) 3 3) rfl rfl (by kernel_rfl) rfl (w' := u0) (by rw [hu0, hg]; go_simp) H1 ?_
  simp only [FL]
  clear hu0 hg U0
  have s1 := h1.below E1
  obtain ⟨v1, hv1⟩ : ∃ V, V = u0 := ⟨_, rfl⟩
  rw [← hv1] at hc E1 H1 s1 ⊢
  clear hv1
  have h32 : ∀ s ∈ [k.row, k.fam, k.qual], s.size ≤ 32 := by
    intro s hs
    simp only [List.mem_cons, List.not_mem_nil, or_false] at hs
    rcases hs with rfl | rfl | rfl
    · exact hk.row
    · exact hk.fam
    · exact hk.qual
  have l0 := txt_len hk.row
  have l1 := txt_len hk.fam
  have l2 := txt_len hk.qual
  refine hr_call_w 8 (some 13) 56 #[.slice ao n cap, .slice (some ⟨g, 0, none⟩) 3 3] rfl rfl (by kernel_rfl) rfl (by go_simp) (fun v w' => ∃ bo m c, v = .slice bo m c ∧ Sl w' bo m c (xs ++ ([k.row, k.fam, k.qual].map txt).flatten) ∧ Below v1.heap.size v1 w') ((ptexts_any v1 ao n cap xs s1 hr g [k.row, k.fam, k.qual] hc (Nat.le_refl 3) h32).mono (by
    rintro e w' ⟨bo, m, c, rfl, F, C⟩
    exact ⟨_, rfl, bo, m, c, rfl, F, C⟩)) ?_
  rintro v v2 ⟨bo, m, c, rfl, F1, C1⟩
  have E2 := E1.trans (C1.mono E1.size)
  have H2 := HS.out v2 E2
  refine ⟨H2, ?_⟩
  simp only [FL]
  have lm := F1.len
  simp only [List.map_cons, List.map_nil, List.flatten_cons, List.flatten_nil, List.length_append, List.append_nil] at lm
  refine hr_call_w 11 (some 16) 31 #[.slice bo m c, .int .u64 k.time] rfl rfl (by kernel_rfl) rfl (by go_simp) (fun v w' => ∃ bo2 m2 c2, v = .slice bo2 m2 c2 ∧ Sl w' bo2 m2 c2 (xs ++ ([k.row, k.fam, k.qual].map txt).flatten ++ enc k.time) ∧ Below v2.heap.size v2 w') ((fUint v2 bo m c k.time _ F1 (by omega) hk.time).mono (by
    rintro e w' ⟨bo2, m2, c2, rfl, F, C⟩
    exact ⟨_, rfl, bo2, m2, c2, rfl, F, C⟩)) ?_
  rintro v v3 ⟨bo2, m2, c2, rfl, F2, C2⟩
  have E3 := E2.trans (C2.mono E2.size)
  have H3 := HS.out v3 E3
  refine ⟨H3, ?_⟩
  simp only [FL]
  refine hr_take_w 12 (some 4) (.slice bo2 m2 c2) rfl rfl (by kernel_rfl) (by kernel_rfl) (by kernel_rfl) rfl (fun W hW => by obtain ⟨h0, h1, h2, h3⟩ := hW; go_simp) H3 ?_
  simp only [FL]
  refine wpAnyH_done (by kernel_rfl) ?_ _
  refine NoPanic.normal ?_
  have D := B.trans (E3.mono (by have := B.size; have := HN.out; omega))
  have fin : xs ++ ([k.row, k.fam, k.qual].map txt).flatten ++ enc k.time = xs ++ putK k := by
    unfold putK
    simp
  rw [fin] at F2
  go_wp2
  go_ret
  exact ⟨bo2, m2, c2, rfl, F2, by rw [← HN.out]; exact D⟩
open Go.RowKit
theorem fUintI (w : World) (ao : Option Addr) (n cap : Nat) (m : Int) (xs : List Int) (h : Sl w ao n cap xs) (hr : n ≤ 1000000) (h0 : 0 ≤ m) (hm : m < 18446744073709551616) :
    Calls Tryd.prog 31 #[.slice ao n cap, .int .u64 m] w fun e w' => ∃ bo k c, e = .returned (.slice bo k c) ∧ Sl w' bo k c (xs ++ enc m.toNat) ∧ Below w.heap.size w w' := by
  obtain ⟨k, rfl⟩ : ∃ k : Nat, m = k := ⟨m.toNat, (Int.toNat_of_nonneg h0).symm⟩
  exact fUint w ao n cap k xs h hr (by omega)
theorem byts_len {l : List Int} (h : l.length ≤ 256) : (byts l).length ≤ 266 := by
  have := enc_length (n := l.length) (by omega)
  unfold byts
  rw [List.length_append]
  omega
theorem putK_len {k : KA} (h : k.fits) : (putK k).length ≤ 136 := by
  have := txt_len h.row
  have := txt_len h.fam
  have := txt_len h.qual
  have := enc_length h.time
  unfold putK
  simp only [List.length_append]
  omega
theorem enb_len (b : Bool) : (enb b).length = 1 := by cases b <;> rfl
def PutPost (w : World) (ys : List Int) (e : Ending) (w' : World) : Prop := ∃ bo m c, e = .returned (.slice bo m c) ∧ Sl w' bo m c ys ∧ Below w.heap.size w w'
open Go.RowKit
theorem putC_key (c : CA) : putC c.c = putK c.key ++ (byts c.va.xs ++ enb c.gone) := by
  unfold putC putK CA.key CA.c
  simp only [List.append_assoc]
theorem putC_len {c : CA} (hk : c.key.fits) (hv : c.va.xs.length ≤ 256) : (putC c.c).length ≤ 410 := by
  rw [putC_key]
  have := putK_len hk
  have := byts_len hv
  have := enb_len c.gone
  simp only [List.length_append]
  omega
theorem putR_res (e : Int) (l : List CA) (m : Bool) : putR (resR e l m) = enc e.toNat ++ (enc l.length ++ ((l.map fun c => putC c.c).flatten ++ enb m)) := by
  unfold putR resR
  simp only [List.length_map, List.map_map]
  rfl
theorem right_cells {e : Int} {l : List CA} {m : Bool} {w : World} (h : rightR (resR e l m) = true) (hl : ∀ c ∈ l, c.ok w) : (0 ≤ e ∧ e ≤ 18) ∧ l.length ≤ 16 ∧ ∀ c ∈ l, c.key.fits ∧ c.va.xs.length ≤ 256 := by
  have h0 := h
  unfold rightR at h0
  have h1 := of_decide_eq_true (Bool.and_eq_true_iff.1 h0).1
  have h2 := rightR_fits h (fun c hc => by
    obtain ⟨x, hx, rfl⟩ := List.mem_map.1 hc
    exact (hl x hx).wf)
  obtain ⟨_, h3, h4⟩ := h2
  have h1 : 0 ≤ e ∧ e ≤ 18 ∧ (l.map CA.c).length ≤ 16 := h1
  refine ⟨⟨h1.1, h1.2.1⟩, by simpa [resR] using h3, fun c hc => ?_⟩
  have h5 := h4 c.c (List.mem_map.2 ⟨c, hc, rfl⟩)
  exact ⟨⟨h5.row, h5.fam, h5.qual, h5.time⟩, h5.value.1⟩
def ResPost (w : World) (r : RV) (e : Ending) (w' : World) : Prop :=
  (∃ bo k c, e = .returned (.tuple #[.slice bo k c, .int .i64 (kindR r)]) ∧ Sl w' bo k c (if rightR r then putR r else [])) ∧ Below w.heap.size w w'
set_option maxRecDepth 100000 in
set_option maxHeartbeats 8000000 in
theorem presult_any (w : World) (e : Int) (ao : Option Addr) (n cap : Nat) (l : List CA) (m : Bool) (L : CL w ao n cap l) :
    Calls Tryd.prog 29 #[resV e ao n cap m] w (ResPost w (resR e l m)) := by
  have hl : l.length = n := L.len
  have B : Below w.heap.size w (w.alloc (Obj.cells #[.int .i64 e, .slice ao n cap, .bool m] 37)) := (Below.refl _ w).alloc (Nat.le_refl _) _
  have K : RC (w.alloc (Obj.cells #[.int .i64 e, .slice ao n cap, .bool m] 37)) w.heap.size e ao n cap m := heap_alloc_new w _
  have L1 := L.below B
  have hp : rightR (resR e l m) = true → (0 ≤ e ∧ e ≤ 18) ∧ l.length ≤ 16 ∧ ∀ c ∈ l, c.key.fits ∧ c.va.xs.length ≤ 256 := fun q => right_cells q L.ok
  clear L
  unfold resV
  go_enter Tryd.func29, Tryd.ntmps29
  go_wp2_with fail
  obtain ⟨w1, hw1⟩ : ∃ W, W = w.alloc (Obj.cells #[.int .i64 e, .slice ao n cap, .bool m] 37) := ⟨_, rfl⟩
  obtain ⟨N, hN⟩ : ∃ N, N = w.heap.size := ⟨_, rfl⟩
  rw [← hw1] at B K L1 ⊢
  rw [← hN] at B K ⊢
  have HN : Hid (N = w.heap.size) := hN
  clear hw1 hN
  refine (prr_any w1 e ao n cap l m L1).mono ?_
  rintro x w2 ⟨rfl, C⟩
  have K2 := K.keep C
  have B2 := B.trans (C.mono (by have := B.size; have := K.lt; omega))
  have L2 := L1.below C
  clear C K B L1
  cases hb : rightR (resR e l m) with
  | false =>
    have hk : kindR (resR e l m) = 1 := by unfold kindR; rw [hb]; rfl
    rw [hk]
    go_wp2
    go_ret2
    exact ⟨⟨none, 0, 0, by rw [hk] <;> rfl, by rw [hb]; exact Sl.nothing _⟩, by rw [← HN.out]; exact B2⟩
  | true =>
    have hk : kindR (resR e l m) = 0 := by unfold kindR; rw [hb]; rfl
    rw [hk]
    obtain ⟨⟨e0, e18⟩, l16, hcf⟩ := hp hb
    clear hp
    have r0 := K2.c0
    have r1 := K2.c1
    have r2 := K2.c2
    go_wp2_with fail
    clear r0 r1 r2
    refine (fUintI w2 none 0 0 e [] (Sl.nothing _) (by omega) e0 (by omega)).mono ?_
    rintro x w3 ⟨b3, m3, c3, rfl, S3, C⟩
    have K3 := K2.keep C
    have B3 := B2.trans (C.mono (by have := B2.size; have := K2.lt; omega))
    have L3 := L2.below C
    clear C K2 B2 L2
    have l3 := S3.len
    have g0 := enc_length (n := e.toNat) (by omega)
    have g1 := enc_length (n := n) (by omega)
    simp only [List.length_append, List.length_nil] at l3
    have r0 := K3.c0
    have r1 := K3.c1
    have r2 := K3.c2
    go_wp2_with fail
    clear r0 r1 r2
    refine (fUint w3 b3 m3 c3 n _ S3 (by omega) (by omega)).mono ?_
    rintro x w4 ⟨b4, m4, c4, rfl, S4, C⟩
    have K4 := K3.keep C
    have B4 := B3.trans (C.mono (by have := B3.size; have := K3.lt; omega))
    have L4 := L3.below C
    clear C K3 B3 L3
    have l4 := S4.len
    simp only [List.length_append, List.length_nil] at l4
    have m4b : m4 ≤ 20 := by omega
    clear l3 l4 S3 g0 g1
    rw [List.nil_append] at S4
    have r1 := K4.c1
    go_wp2_with fail
    clear r1
    go_loopw [5, 7, 26] (fun b _ i wr => ∃ (k : Nat) (bo : Option Addr) (m c : Nat), k ≤ n ∧ i = .int .i64 k ∧ b = .slice bo m c ∧ Sl wr bo m c (enc e.toNat ++ enc n ++ ((l.take k).map fun c => putC c.c).flatten) ∧ m ≤ 20 + 410 * k ∧ Below N w wr ∧ Below w4.heap.size w4 wr) (fun _ _ i _ => n - (intOf i).toNat)
    case atStart => exact ⟨0, b4, m4, c4, Nat.zero_le _, rfl, rfl, by simpa using S4, by omega, B4, Below.refl _ _⟩
    case round =>
      clear S4 B4
      obtain ⟨k, bo, m1, c1, hk1, rfl, rfl, S, hm, B, C⟩ := hrel
      have K5 := K4.keep C
      clear K4
      by_cases hlt : k < n
      · obtain ⟨b, off, ea, hc⟩ := L4.at (by omega)
        have hkl : k < l.length := by omega
        have X := (hc k hkl).below C
        have hok : (l[k]).ok wr := (L4.ok _ (List.getElem_mem hkl)).below C
        have hcf1 := hcf _ (List.getElem_mem hkl)
        have i6 : (k : Int) < (n : Int) := by omega
        have HT : Hid (((l.take (k + 1)).map fun c => putC c.c).flatten = ((l.take k).map fun c => putC c.c).flatten ++ putC l[k].c) := by
          show _ = _
          rw [List.take_succ_eq_append_getElem hkl, List.map_append, List.flatten_append]
          simp
        obtain ⟨c, hx⟩ : ∃ c : CA, c = l[k] := ⟨_, rfl⟩
        obtain ⟨p, hp⟩ : ∃ p, p = ((l.take k).map fun c => putC c.c).flatten := ⟨_, rfl⟩
        rw [← hx] at hok HT X hcf1
        rw [← hp] at S HT
        clear hx hc hp
        rw [ea]
        clear ea
        obtain ⟨u0, hu0⟩ : ∃ V, V = wr.alloc (Obj.cells #[.string c.row, .string c.fam, .string c.qual, .int .u64 c.time, .slice c.va.ao c.va.n c.va.cap, .bool c.gone] 71) := ⟨_, rfl⟩
        obtain ⟨M, hM⟩ : ∃ M, M = wr.heap.size := ⟨_, rfl⟩
        have U0 : Below wr.heap.size wr u0 := by rw [hu0]; exact (Below.refl _ _).alloc (Nat.le_refl _) _
        have KU : u0.heap[M]? = some (.cells #[.string c.row, .string c.fam, .string c.qual, .int .u64 c.time, .slice c.va.ao c.va.n c.va.cap, .bool c.gone] 71) := by rw [hu0, hM]; exact heap_alloc_new wr _
        have HC : Hid (∀ V, Below u0.heap.size u0 V → V.cell? ⟨M, 0, none⟩ = some (.string c.row) ∧ V.cell? ⟨M, 1, none⟩ = some (.string c.fam) ∧ V.cell? ⟨M, 2, none⟩ = some (.string c.qual) ∧ V.cell? ⟨M, 3, none⟩ = some (.int .u64 c.time) ∧ V.cell? ⟨M, 4, none⟩ = some (.slice c.va.ao c.va.n c.va.cap) ∧ V.cell? ⟨M, 5, none⟩ = some (.bool c.gone)) := fun V hV => by
          have q := (hV.block M ((Array.getElem?_eq_some_iff.1 KU).1)).trans KU
          exact ⟨cell_of_row V M 0 _ _ _ q, cell_of_row V M 1 _ _ _ q, cell_of_row V M 2 _ _ _ q, cell_of_row V M 3 _ _ _ q, cell_of_row V M 4 _ _ _ q, cell_of_row V M 5 _ _ _ q⟩
        have sU := S.below U0
        have hokU := hok.below U0
        have BU := B.trans (U0.mono (by have := B.size; have := HN.out; omega))
        have DU := C.trans (U0.mono C.size)
        have lS := S.len
        have g1 := putK_len hcf1.1
        have g2 := byts_len hcf1.2
        have g3 := enb_len c.gone
        simp only [List.length_append] at lS
        obtain ⟨q0, q1, q2, q3, q4, q5⟩ := X
        go_wp2_with fail
        rw [← hu0, ← hM]
        clear hu0 hM q0 q1 q2 q3 q4 q5 KU S
        refine (pkey_any u0 bo m1 c1 _ sU (by omega) c.key hcf1.1).mono ?_
        rintro x w5 ⟨b5, m5, c5, rfl, S5, C5⟩
        have A5 : Below u0.heap.size u0 w5 := C5
        have l5 := S5.len
        simp only [List.length_append] at l5
        obtain ⟨q0, q1, q2, q3, q4, q5⟩ := HC.out w5 A5
        go_wp2_with fail
        clear q0 q1 q2 q3 q4 q5 C5
        refine (fBytes w5 b5 _ m5 c5 _ _ _ _ S5 (hokU.below A5).va (by omega) (by have := hokU.va.len; omega)).mono ?_
        rintro x w6 ⟨b6, m6, c6, rfl, S6, C6⟩
        have A6 := A5.trans (C6.mono A5.size)
        have l6 := S6.len
        simp only [List.length_append] at l6
        obtain ⟨q0, q1, q2, q3, q4, q5⟩ := HC.out w6 A6
        go_wp2_with fail
        clear q0 q1 q2 q3 q4 q5 C6
        refine (fBool w6 b6 m6 c6 c.gone _ S6 (by omega)).mono ?_
        rintro x w7 ⟨b7, m7, c7, rfl, S7, C7⟩
        have A7 := A6.trans (C7.mono A6.size)
        have l7 := S7.len
        simp only [List.length_append] at l7
        have m7b : m7 ≤ 20 + 410 * (k + 1) := by omega
        have B7 := BU.trans (A7.mono (by have := BU.size; have := HN.out; omega))
        have D7 := DU.trans (A7.mono DU.size)
        have fin : enc e.toNat ++ enc n ++ p ++ putK c.key ++ byts c.va.xs ++ enb c.gone = enc e.toNat ++ enc n ++ (p ++ putC c.c) := by
          rw [putC_key]
          simp only [List.append_assoc]
        rw [fin] at S7
        clear C7 l5 l6 l7 lS S5 S6 sU
        go_wp2
        go_roundw
        case rel => exact ⟨k + 1, b7, m7, c7, by omega, by go_num, rfl, by rw [HT.out]; exact S7, m7b, B7, D7⟩
        case measure => simp [intOf]; omega
      · have i6 : (n : Int) ≤ (k : Int) := by omega
        rw [List.take_of_length_le (by omega)] at S
        have r2 := K5.c2
        go_wp2_with fail
        clear r2
        refine (fBool wr bo m1 c1 m _ S (by omega)).mono ?_
        rintro x w5 ⟨b5, m5, c5, rfl, S5, C5⟩
        have B5 := B.trans (C5.mono (by have := B.size; have := HN.out; omega))
        go_wp2
        go_ret2
        refine ⟨⟨b5, m5, c5, by rw [hk] <;> rfl, ?_⟩, by rw [← HN.out]; exact B5⟩
        rw [if_pos hb, putR_res, hl]
        simpa only [List.append_assoc] using S5
open Go.RowKit
theorem res_back {w : World} {e : Int} {l : List CA} {m : Bool} (hr : rightR (resR e l m) = true) (hl : ∀ c ∈ l, c.ok w) : rdR (putR (resR e l m)) = .inr (resR e l m) ∧ (putR (resR e l m)).length ≤ 8000 := by
  have hf := rightR_fits hr (fun c hc => by
    obtain ⟨x, hx, rfl⟩ := List.mem_map.1 hc
    exact (hl x hx).wf)
  refine ⟨rdAll_put good_r kindR _ hf (by unfold kindR; rw [hr]; rfl), ?_⟩
  obtain ⟨h1, h2, h3⟩ := right_cells hr hl
  have g2 : ∀ k : List CA, (∀ c ∈ k, c.key.fits ∧ c.va.xs.length ≤ 256) → ((k.map fun c => putC c.c).flatten).length ≤ 410 * k.length := by
    intro k
    induction k with
    | nil => intro _; simp
    | cons a k ih =>
      intro hk
      have i1 := ih (fun x hx => hk x (List.mem_cons_of_mem _ hx))
      have i0 := hk a (List.mem_cons_self ..)
      have i2 := putC_len i0.1 i0.2
      simp only [List.map_cons, List.flatten_cons, List.length_append, List.length_cons]
      omega
  have g3 := g2 l h3
  have g4 := enc_length (n := e.toNat) (by omega)
  have g5 := enc_length (n := l.length) (by omega)
  have g6 := enb_len m
  rw [putR_res]
  simp only [List.length_append]
  omega
end Go.Proofs.YtlgafjalcpjelaaDoor

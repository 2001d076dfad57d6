/-
  Texts in one: MgPut, ResBack, MgPutT, MgZero.
-/
import Derived.Test.YtkjaapomaaakmaaGreatMessageBytesQFL
import Derived.Test.YtkjaapomaaakmaaGreatMessageBytesQ28
import Derived.Test.YtkjaapomaaakmaaGreatMessageBytesQ14
import Derived.Test.YtkjaapomaaakmaaGreatMessageBytesQ0
import Derived.Deep.Slices
import Derived.ArgAppend
import Derived.Deep.Upon
import Derived.DataElems
namespace Go.Proofs.YtkjaapomaaakmaaGreat
open Go.RowKit
set_option maxRecDepth 100000 in
set_option maxHeartbeats 4000000 in
theorem putForm_any (w : World) (base : Nat) (v : Value) (xs : List Int) (h : Buf w base v xs) (hb : base ≤ w.heap.size) (ao : Option Addr) (m c : Nat) (ys : List Int) (S : Sl w ao m c ys) (hn : xs.length + m ≤ 1000000000) :
  Calls Tryz.prog 39 #[v, .slice ao m c] w (BufPost w base v (xs ++ byts ys)) := by
 have CB := wBytes_any w none ao 0 0 m c [] ys (Sl.nothing w) S (by omega)
 have hl := S.len
 have hby := S.byte
 have hel := enc_length (n := m) (by omega)
 clear S
 go_enter Tryz.func39, Tryz.ntmps39
 go_wp2_with fail
 refine CB.mono ?_
 rintro e w1 ⟨u, rfl, own1, C1⟩
 simp only [List.nil_append, Nat.zero_add] at own1
 obtain ⟨uo, uc, rfl, S1, -⟩ := Sl.own own1 (Byt.append (enc_byte (n := m) (by omega)) hby)
 have h1 := h.below C1
 have hb1 : base ≤ w1.heap.size := Nat.le_trans hb C1.size
 have T1 := Bst.below C1 v
 clear CB own1 C1 h
 go_wp2_with (refine wpList_appB rfl (.tmp 5) (.tmp 7) rfl base v xs rfl h1 uo _ uc _ rfl S1 (by omega) hb1 ?_; intro v2 w2 H2 T2)
 go_ret
 refine ⟨v2, rfl, ?_, T1.trans T2⟩
 unfold byts
 rw [hl]
 exact H2
set_option maxRecDepth 100000 in
set_option maxHeartbeats 4000000 in
theorem putNumbers_any (w : World) (base : Nat) (v : Value) (xs : List Int) (h : Buf w base v xs) (hb : base ≤ w.heap.size) (g : Nat) (ns : List Nat) (L : Nat) (hL : ns.length = L) (hL3 : L ≤ 3) (G : ∀ i (hi : i < ns.length), w.cell? ⟨g, i, none⟩ = some (.int .u64 ns[i])) (hg : v.ownBlock ≠ some g) (hns : ∀ n ∈ ns, n < 18446744073709551616) (hn : xs.length ≤ 1000000000) :
  Calls Tryz.prog 38 #[v, .slice (some ⟨g, 0, none⟩) L L] w (BufPost w base v (xs ++ (ns.map enc).flatten)) := by
 go_enter Tryz.func38, Tryz.ntmps38
 go_wp2
 go_loopw [0, 9] (fun u' i wr => ∃ (k : Nat) (u : Value), k ≤ L ∧ i = .int .i64 k ∧ u = u' ∧ Buf wr base u (xs ++ ((ns.take k).map enc).flatten) ∧ Bst w v wr u) (fun _ i _ => L - (intOf i).toNat)
 case atStart => exact ⟨0, v, Nat.zero_le _, rfl, rfl, by simpa using h, Bst.refl _ _⟩
 case round =>
  clear h
  obtain ⟨k, u, hk, rfl, rfl, H, T⟩ := hrel
  have hbr : base ≤ wr.heap.size := Nat.le_trans hb T.gr.size
  by_cases hlt : k < L
  ·have hki : (k : Int) < (L : Int) := by omega
   have hkl : k < ns.length := by omega
   have hlL : (L : Int) ≤ 3 := by omega
   have c0 := G k hkl
   have hz := World.block_lt_of_cell? w _ c0
   have c1 : wr.cell? ⟨g, k, none⟩ = some (.int .u64 ns[k]) := (World.cell?_of_block (a := ⟨g, k, none⟩) (T.block hz hg)).trans c0
   have hnk := hns _ (List.getElem_mem hkl)
   have HX : Hid (((ns.take (k + 1)).map enc).flatten = ((ns.take k).map enc).flatten ++ enc ns[k]) := by
    show _ = _
    have e1 : (List.map enc [ns[k]]).flatten = enc ns[k] := by simp
    rw [List.take_succ_eq_append_getElem hkl, List.map_append, List.flatten_append, e1]
   have hlen : ((ns.take k).map enc).flatten.length ≤ 30 := by
    have : ∀ l : List Nat, (∀ n ∈ l, n < 18446744073709551616) → (l.map enc).flatten.length ≤ l.length * 10 := by
     intro l
     induction l with
     | nil => intro _; simp
     | cons a l ih =>
      intro hh
      have h1 := enc_length (hh a (List.mem_cons_self ..))
      have h2 := ih (fun n hn => hh n (List.mem_cons_of_mem _ hn))
      simp only [List.map_cons, List.flatten_cons, List.length_append, List.length_cons]
      omega
    have h1 := this (ns.take k) (fun n hn => hns n (List.mem_of_mem_take hn))
    rw [List.length_take] at h1
    omega
   obtain ⟨q, hq⟩ : ∃ q, q = ns[k] := ⟨_, rfl⟩
   rw [← hq] at c1 hnk HX
   obtain ⟨zs, hzs⟩ : ∃ z, z = xs ++ ((ns.take k).map enc).flatten := ⟨_, rfl⟩
   have hzl : zs.length ≤ 1000000030 := by rw [hzs, List.length_append]; omega
   have HZ : Hid (xs ++ ((ns.take (k + 1)).map enc).flatten = zs ++ enc q) := by
    show _ = _
    rw [HX.out, hzs, List.append_assoc]
   rw [← hzs] at H
   have he := enc_length hnk
   clear hq hzs HX hlen c0 hz
   have CU := wUint_any wr none 0 0 q [] (Sl.nothing wr) (by omega) hnk
   go_wp2_with fail
   refine CU.mono ?_
   rintro e w1 ⟨u1, rfl, own1, C1⟩
   simp only [List.nil_append, Nat.zero_add] at own1
   obtain ⟨uo, uc, rfl, S1, -⟩ := Sl.own own1 (enc_byte hnk)
   have H1 := H.below C1
   have hb1 : base ≤ w1.heap.size := Nat.le_trans hbr C1.size
   have T1 := T.trans (Bst.below C1 u)
   clear CU own1 C1 H T
   go_wp2_with (refine wpList_appB rfl (.tmp 13) (.tmp 15) rfl base u zs rfl H1 uo _ uc _ rfl S1 (by omega) hb1 ?_; intro v2 w2 H2 T2)
   go_roundw
   case rel => exact ⟨k + 1, v2, by omega, by go_num, rfl, by rw [HZ.out]; exact H2, T1.trans T2⟩
   case measure => simp [intOf]; omega
  ·have hge : (L : Int) ≤ (k : Int) := by omega
   have hlL : (L : Int) ≤ 3 := by omega
   have HX : Hid ((ns.take k).map enc = ns.map enc) := by
    show _ = _
    rw [List.take_of_length_le (by omega)]
   go_wp2
   go_ret
   exact ⟨u, rfl, by rw [← HX.out]; exact H, T⟩
open Go.RowKit
theorem res_back {w : World} {e : Int} {l : List CA} {m : Bool} (hr : rightR (resR e l m) = true) (hl : ∀ c ∈ l, c.ok w) : rdR (putR (resR e l m)) = .inr (resR e l m) ∧ (putR (resR e l m)).length ≤ 8000 := by
 have hf := rightR_fits hr (fun c hc => by
  obtain ⟨x, hx, rfl⟩ := List.mem_map.1 hc
  exact (hl x hx).wf)
 refine ⟨rdAll_put good_r kindR _ hf (by unfold kindR; rw [hr]; rfl), ?_⟩
 obtain ⟨h1, h2, h3⟩ := right_cells hr hl
 have g2 : ∀ k : List CA, (∀ c ∈ k, c.key.fits ∧ c.va.xs.length ≤ 256) → ((k.map fun c => putC c.c).flatten).length ≤ 410 * k.length := by
  intro k
  induction k with
  | nil => intro _; simp
  | cons a k ih =>
   intro hk
   have i1 := ih (fun x hx => hk x (List.mem_cons_of_mem _ hx))
   have i0 := hk a (List.mem_cons_self ..)
   have i2 := putC_len i0.1 i0.2
   simp only [List.map_cons, List.flatten_cons, List.length_append, List.length_cons]
   omega
 have g3 := g2 l h3
 have g4 := enc_length (n := e.toNat) (by omega)
 have g5 := enc_length (n := l.length) (by omega)
 have g6 := enb_len m
 rw [putR_res]
 simp only [List.length_append]
 omega
open Go.RowKit
def SA.fit (s : SA) : Prop := s.b.n ≤ 65536 ∧ s.tag.n ≤ 32
theorem byts_lim (l : List Int) (h : l.length < 18446744073709551616) : (byts l).length ≤ l.length + 10 := by
 unfold byts
 have := enc_length h
 rw [List.length_append]
 omega
theorem putV_len {s : SA} {w : World} (h : s.ok w) (hf : s.fit) : (putV s.v).length ≤ 65700 := by
 have h1 := enc_length h.fr
 have h2 := byts_lim s.b.xs (by have := h.b.len; have := hf.1; omega)
 have h3 := byts_lim s.tag.xs (by have := h.tag.len; have := hf.2; omega)
 have h4 := h.b.len
 have h5 := h.tag.len
 have h6 := hf.1
 have h7 := hf.2
 show (enc s.fr ++ (byts s.b.xs ++ byts s.tag.xs)).length ≤ _
 simp only [List.length_append]
 omega
theorem flatV_len {w : World} : ∀ l : List SA, (∀ s ∈ l, s.ok w ∧ s.fit) → ((l.map fun s => putV s.v).flatten).length ≤ l.length * 65700
 | [], _ => by simp
 | s :: l, h => by
  have h1 := flatV_len l (fun x hx => h x (List.mem_cons_of_mem _ hx))
  have h2 := h s (List.mem_cons_self ..)
  have h3 := putV_len h2.1 h2.2
  simp only [List.map_cons, List.flatten_cons, List.length_append, List.length_cons]
  omega
theorem putVs_map (l : List SA) : putLs putV (l.map SA.v) = enc l.length ++ (l.map fun s => putV s.v).flatten := by
 unfold putLs
 rw [List.length_map, List.map_map]
 rfl
set_option maxRecDepth 100000 in
set_option maxHeartbeats 8000000 in
theorem putTexts_any (w : World) (base : Nat) (v : Value) (xs : List Int) (h : Buf w base v xs) (hb : base ≤ w.heap.size) (w0 : World) (hw0 : Below base w0 w) (hbs : w0.heap.size = base) (ao : Option Addr) (n cap : Nat) (l : List SA) (L : GL elS w0 ao n cap l) (hn : n ≤ 16) (hf : ∀ s ∈ l, s.fit) (hx : xs.length ≤ 500000000) :
  Calls Tryz.prog 42 #[v, .slice ao n cap] w (BufPost w base v (xs ++ putLs putV (l.map SA.v))) := by
 have hl := L.len
 have hni : (n : Int) ≤ 16 := by omega
 have hen := enc_length (n := n) (by omega)
 have HP : Hid (putLs putV (l.map SA.v) = enc n ++ (l.map fun s => putV s.v).flatten) := by show _ = _; rw [putVs_map, hl]
 have C0 : Below w.heap.size w (w.alloc (.cells #[.int .u64 n] 22)) := (Below.refl _ _).alloc (Nat.le_refl _) _
 have G0 : (w.alloc (.cells #[.int .u64 n] 22)).heap[w.heap.size]? = some (.cells #[.int .u64 n] 22) := heap_alloc_new _ _
 have CN := putNumbers_any (w.alloc (.cells #[.int .u64 n] 22)) base v xs (h.below C0) (Nat.le_trans hb C0.size) w.heap.size [n] 1 rfl (by decide) (fun i hi => by obtain rfl : i = 0 := (by have : i < 1 := hi; omega); exact cell_of_row _ _ 0 _ _ _ G0) (h.new (Nat.le_refl _)) (fun m hm => by rw [List.mem_singleton.1 hm]; omega) (by omega)
 have T0 := Bst.below C0 v
 have e0 : xs ++ ([n].map enc).flatten = xs ++ enc n := by simp
 rw [e0] at CN
 have iw : IntKind.u64.wrap (n : Int) = (n : Int) := by
  unfold IntKind.wrap
  simp [IntKind.bits, IntKind.signed]
  omega
 clear e0
 go_enter Tryz.func42, Tryz.ntmps42
 go_wp2_with fail
 refine CN.mono ?_
 rintro e w1 ⟨v1, rfl, H1, T1⟩
 have T1 := T0.trans T1
 have hb1 : base ≤ w1.heap.size := Nat.le_trans hb T1.gr.size
 have B1 := h.bel T1 hb
 clear CN G0 C0 T0 iw
 go_wp2_with fail
 go_loopw [0, 15] (fun u' i wr => ∃ (k : Nat) (u : Value), k ≤ n ∧ i = .int .i64 k ∧ u = u' ∧ Buf wr base u (xs ++ enc n ++ ((l.take k).map fun s => putV s.v).flatten) ∧ Bst w v wr u) (fun _ i _ => n - (intOf i).toNat)
 case atStart => exact ⟨0, v1, Nat.zero_le _, rfl, rfl, by simpa using H1, T1⟩
 case round =>
  clear H1 T1 B1 hb1
  obtain ⟨k, u, hk, rfl, rfl, H, T⟩ := hrel
  have hbr : base ≤ wr.heap.size := Nat.le_trans hb T.gr.size
  have Bw : Below base w0 wr := hw0.trans (h.bel T hb)
  by_cases hlt : k < n
  ·have hki : (k : Int) < (n : Int) := by omega
   have hkl : k < l.length := by omega
   have Lr : GL elS wr ao n cap l := L.kept elS_fine fun z hz => Bw.block z (by rw [← hbs]; exact L.lt elS_fine hz)
   obtain ⟨b, off, rfl, hc⟩ := Lr.atS (by omega)
   have X := hc k hkl
   have hok : (l[k]).ok w0 := L.ok _ (List.getElem_mem hkl)
   have hfk := hf _ (List.getElem_mem hkl)
   have HX : Hid (((l.take (k + 1)).map fun s => putV s.v).flatten = ((l.take k).map fun s => putV s.v).flatten ++ putV (l[k]).v) := by
    show _ = _
    rw [List.take_succ_eq_append_getElem hkl, List.map_append, List.flatten_append]
    simp
   have hfl := flatV_len (w := w0) (l.take k) (fun s hs => ⟨L.ok s (List.mem_of_mem_take hs), hf s (List.mem_of_mem_take hs)⟩)
   rw [List.length_take] at hfl
   obtain ⟨s, hs⟩ : ∃ s, s = l[k] := ⟨_, rfl⟩
   rw [← hs] at X hok hfk HX
   obtain ⟨zs, hzs⟩ : ∃ z, z = xs ++ enc n ++ ((l.take k).map fun s => putV s.v).flatten := ⟨_, rfl⟩
   have hzl : zs.length ≤ 600000000 := by
    rw [hzs]
    simp only [List.length_append]
    have : min k l.length * 65700 ≤ 16 * 65700 := Nat.mul_le_mul_right _ (by omega)
    omega
   have HZ : Hid (xs ++ enc n ++ ((l.take (k + 1)).map fun s => putV s.v).flatten = zs ++ enc s.fr ++ byts s.b.xs ++ byts s.tag.xs) := by
    show _ = _
    rw [HX.out, hzs]
    show _ ++ (_ ++ (enc s.fr ++ (byts s.b.xs ++ byts s.tag.xs))) = _
    simp only [List.append_assoc]
   rw [← hzs] at H
   have hfe := enc_length hok.fr
   have hbl : (byts s.b.xs).length ≤ 65546 := by
    have h1 := hok.b.len
    have h2 := hfk.1
    have := byts_lim s.b.xs (by omega)
    omega
   have hb16 := hfk.1
   have ht32 := hfk.2
   clear hs hzs HX hfl hc Lr
   obtain ⟨q0, q1, q2⟩ := X
   have C1 : Below wr.heap.size wr (wr.alloc (.cells #[.int .u64 s.fr, .slice s.b.ao s.b.n s.b.cap, .slice s.tag.ao s.tag.n s.tag.cap] 114)) := (Below.refl _ _).alloc (Nat.le_refl _) _
   have KP : (wr.alloc (.cells #[.int .u64 s.fr, .slice s.b.ao s.b.n s.b.cap, .slice s.tag.ao s.tag.n s.tag.cap] 114)).heap[wr.heap.size]? = some (.cells #[.int .u64 s.fr, .slice s.b.ao s.b.n s.b.cap, .slice s.tag.ao s.tag.n s.tag.cap] 114) := heap_alloc_new _ _
   have Bu := H.below C1
   have neP := H.new (z := wr.heap.size) (Nat.le_refl _)
   have T1 := T.trans (Bst.below C1 u)
   have hb0 : base ≤ (wr.alloc (.cells #[.int .u64 s.fr, .slice s.b.ao s.b.n s.b.cap, .slice s.tag.ao s.tag.n s.tag.cap] 114)).heap.size := Nat.le_trans hbr C1.size
   have B1 := Bw.trans (C1.mono hbr)
   go_wp2_with fail
   obtain ⟨w1, hw1⟩ : ∃ W, W = wr.alloc (.cells #[.int .u64 s.fr, .slice s.b.ao s.b.n s.b.cap, .slice s.tag.ao s.tag.n s.tag.cap] 114) := ⟨_, rfl⟩
   obtain ⟨P, hP'⟩ : ∃ P, P = wr.heap.size := ⟨_, rfl⟩
   rw [← hw1] at KP Bu T1 hb0 B1 ⊢
   rw [← hP'] at KP neP ⊢
   clear hw1 hP' C1 H T Bw q0 q1 q2
   have hP : P < w1.heap.size := (Array.getElem?_eq_some_iff.1 KP).1
   have SB : ∀ (V : World) {u2 : Value}, Bst w1 u V u2 → Sl V s.b.ao s.b.n s.b.cap s.b.xs := fun V u2 t => hok.b.kept fun z hz => (B1.trans (Bu.bel t hb0)).block z (by rw [← hbs]; exact hok.b.blk_lt hz)
   have ST : ∀ (V : World) {u2 : Value}, Bst w1 u V u2 → Sl V s.tag.ao s.tag.n s.tag.cap s.tag.xs := fun V u2 t => hok.tag.kept fun z hz => (B1.trans (Bu.bel t hb0)).block z (by rw [← hbs]; exact hok.tag.blk_lt hz)
   have HS : Hid (∀ V : World, V.heap[P]? = some (.cells #[.int .u64 s.fr, .slice s.b.ao s.b.n s.b.cap, .slice s.tag.ao s.tag.n s.tag.cap] 114) → V.cell? ⟨P, 0, none⟩ = some (.int .u64 s.fr) ∧ V.cell? ⟨P, 1, none⟩ = some (.slice s.b.ao s.b.n s.b.cap) ∧ V.cell? ⟨P, 2, none⟩ = some (.slice s.tag.ao s.tag.n s.tag.cap)) := fun V k => ⟨cell_of_row V P 0 _ _ _ k, cell_of_row V P 1 _ _ _ k, cell_of_row V P 2 _ _ _ k⟩
   have D0 : Below w1.heap.size w1 w1.drew := (Below.refl _ _).drew
   refine wp_region_noPanic ?_
   refine wp_region_held_drew (S := fun V => V.cell? ⟨P, 0, none⟩ = some (.int .u64 s.fr) ∧ V.cell? ⟨P, 1, none⟩ = some (.slice s.b.ao s.b.n s.b.cap) ∧ V.cell? ⟨P, 2, none⟩ = some (.slice s.tag.ao s.tag.n s.tag.cap)) (by kernel_rfl) (HS.out _ ((D0.block P hP).trans KP)) (fun H0 => ?_)
   obtain ⟨v0, hv0⟩ : ∃ v, v = w1.drew := ⟨_, rfl⟩
   rw [← hv0] at H0 D0 ⊢
   clear hv0
   have P0 := (D0.block P hP).trans KP
   refine zT 0 (some 19) (u) rfl rfl (by kernel_rfl) rfl (fun W ⟨h0, h1, h2⟩ => by go_simp) H0 ?_
   simp only [FL]
   refine zT 1 (some 20) (.pointer (some ⟨P, 0, none⟩)) rfl rfl (by kernel_rfl) rfl (fun W ⟨h0, h1, h2⟩ => by go_simp) H0 ?_
   simp only [FL]
   refine zT 2 (some 21) (.int .u64 s.fr) rfl rfl (by kernel_rfl) rfl (fun W ⟨h0, h1, h2⟩ => by go_simp) H0 ?_
   simp only [FL]
   refine zT 5 (some 24) (.pointer (some ⟨P, 1, none⟩)) rfl rfl (by kernel_rfl) rfl (fun W ⟨h0, h1, h2⟩ => by go_simp) H0 ?_
   simp only [FL]
   refine zT 6 (some 25) (.slice s.b.ao s.b.n s.b.cap) rfl rfl (by kernel_rfl) rfl (fun W ⟨h0, h1, h2⟩ => by go_simp) H0 ?_
   simp only [FL]
   refine zT 8 (some 27) (.pointer (some ⟨P, 2, none⟩)) rfl rfl (by kernel_rfl) rfl (fun W ⟨h0, h1, h2⟩ => by go_simp) H0 ?_
   simp only [FL]
   refine zT 9 (some 28) (.slice s.tag.ao s.tag.n s.tag.cap) rfl rfl (by kernel_rfl) rfl (fun W ⟨h0, h1, h2⟩ => by go_simp) H0 ?_
   simp only [FL]
   refine hr_ex 3 (some 22) rfl rfl (by kernel_rfl) rfl (R := fun v w' => ∃ g, v = .slice (some ⟨g, 0, none⟩) 1 1 ∧ w'.heap[g]? = some (.cells #[.int .u64 s.fr] 22) ∧ v0.heap.size ≤ g ∧ Below v0.heap.size v0 w') ⟨_, _, by go_simp, _, rfl, heap_alloc_new _ _, Nat.le_refl _, (Below.refl _ _).alloc (Nat.le_refl _) _⟩ ?_
   rintro v v1 ⟨g, rfl, G, hg, C1⟩
   have hP0 : P < v0.heap.size := Nat.lt_of_lt_of_le hP D0.size
   have hP1 : P < v1.heap.size := Nat.lt_of_lt_of_le hP0 C1.size
   have P1 := (C1.block P hP0).trans P0
   have Bu0 := Bu.below D0
   have Bu1 := Bu0.below C1
   have hb1 : base ≤ v1.heap.size := Nat.le_trans hb0 (Nat.le_trans D0.size C1.size)
   have ne1 : u.ownBlock ≠ some P := neP
   have ng := Bu0.new hg
   have E1 : Bst w1 u v1 u := (Bst.below D0 u).trans (Bst.below C1 u)
   have H1 := HS.out v1 P1
   refine ⟨H1, ?_⟩
   simp only [FL]
   refine hr_call_w 4 (some 23) 38 #[u, .slice (some ⟨g, 0, none⟩) 1 1] rfl rfl (by kernel_rfl) rfl (by go_simp) (fun v w' => Buf w' base v (zs ++ ([s.fr].map enc).flatten) ∧ Bst v1 u w' v) ((putNumbers_any v1 base u zs Bu1 hb1 g [s.fr] 1 rfl (by decide) (fun i hi => by obtain rfl : i = 0 := (by have : i < 1 := hi; omega); exact cell_of_row v1 g 0 _ _ _ G) ng (fun n hn => by rw [List.mem_singleton.1 hn]; exact hok.fr) (by omega)).mono (by
    rintro e w' ⟨v', rfl, F, T⟩
    exact ⟨_, rfl, F, T⟩)) ?_
   rintro u2 v2 ⟨F2, T2⟩
   have hb2 : base ≤ v2.heap.size := Nat.le_trans hb1 T2.gr.size
   have hP2 : P < v2.heap.size := Nat.lt_of_lt_of_le hP1 T2.gr.size
   have P2 := (T2.block hP1 ne1).trans P1
   have ne2 := T2.off hP1 ne1
   have E2 := E1.trans T2
   have H2 := HS.out v2 P2
   refine ⟨H2, ?_⟩
   simp only [FL]
   have e2 : zs ++ ([s.fr].map enc).flatten = zs ++ enc s.fr := by simp
   rw [e2] at F2
   refine hr_call_w 7 (some 26) 39 #[u2, .slice s.b.ao s.b.n s.b.cap] rfl rfl (by kernel_rfl) rfl (by go_simp) (fun v w' => Buf w' base v (zs ++ enc s.fr ++ byts s.b.xs) ∧ Bst v2 u2 w' v) ((putForm_any v2 base u2 _ F2 hb2 s.b.ao s.b.n s.b.cap s.b.xs (SB v2 E2) (by rw [List.length_append]; omega)).mono (by
    rintro e w' ⟨v', rfl, F, T⟩
    exact ⟨_, rfl, F, T⟩)) ?_
   rintro u3 v3 ⟨F3, T3⟩
   have hb3 : base ≤ v3.heap.size := Nat.le_trans hb2 T3.gr.size
   have hP3 : P < v3.heap.size := Nat.lt_of_lt_of_le hP2 T3.gr.size
   have P3 := (T3.block hP2 ne2).trans P2
   have ne3 := T3.off hP2 ne2
   have E3 := E2.trans T3
   have H3 := HS.out v3 P3
   refine ⟨H3, ?_⟩
   simp only [FL]
   refine hr_call_w 10 (some 29) 39 #[u3, .slice s.tag.ao s.tag.n s.tag.cap] rfl rfl (by kernel_rfl) rfl (by go_simp) (fun v w' => Buf w' base v (zs ++ enc s.fr ++ byts s.b.xs ++ byts s.tag.xs) ∧ Bst v3 u3 w' v) ((putForm_any v3 base u3 _ F3 hb3 s.tag.ao s.tag.n s.tag.cap s.tag.xs (ST v3 E3) (by rw [List.length_append, List.length_append]; omega)).mono (by
    rintro e w' ⟨v', rfl, F, T⟩
    exact ⟨_, rfl, F, T⟩)) ?_
   rintro u4 v4 ⟨F4, T4⟩
   have hb4 : base ≤ v4.heap.size := Nat.le_trans hb3 T4.gr.size
   have hP4 : P < v4.heap.size := Nat.lt_of_lt_of_le hP3 T4.gr.size
   have P4 := (T4.block hP3 ne3).trans P3
   have ne4 := T4.off hP3 ne3
   have E4 := E3.trans T4
   have H4 := HS.out v4 P4
   refine ⟨H4, ?_⟩
   simp only [FL]
   refine zT 11 (some 0) (u4) rfl rfl (by kernel_rfl) rfl (fun W ⟨h0, h1, h2⟩ => by go_simp) H4 ?_
   simp only [FL]
   refine wpAnyH_done (by kernel_rfl) ?_ _
   refine NoPanic.normal ?_
   have TF := T1.trans E4
   clear E1 E2 E3 E4 T2 T3 T4 H0 H1 H2 H3 H4 F2 F3 P0 P1 P2 P3 P4 HS SB ST
   go_wp2
   go_roundw
   case rel => exact ⟨k + 1, u4, by omega, by go_num, rfl, by rw [HZ.out]; exact F4, TF⟩
   case measure => simp [intOf]; omega
  ·have hge : (n : Int) ≤ (k : Int) := by omega
   have HX : Hid ((l.take k).map (fun s => putV s.v) = l.map fun s => putV s.v) := by
    show _ = _
    rw [List.take_of_length_le (by omega)]
   go_wp2
   go_ret
   refine ⟨u, rfl, ?_, T⟩
   rw [HP.out, ← HX.out, ← List.append_assoc]
   exact H
open Go.RowKit
set_option maxRecDepth 100000 in
set_option maxHeartbeats 4000000 in
theorem eqCells0 (w : World) (ao : Option Addr) (n cap : Nat) (fv : Value) :
  Calls Tryz.prog 111 #[.slice ao n cap, .slice none 0 0, fv] w fun e w' => e = .returned (.bool (decide (n = 0))) ∧ w' = w := by
 by_cases c : n = 0
 ·subst c
  go_enter Tryz.func111, Tryz.ntmps111
  go_wp2
  go_loopw [17] (fun i wr => i = .int .i64 0 ∧ wr = w) (fun _ _ => 0)
  case atStart => exact ⟨rfl, rfl⟩
  case round =>
   obtain ⟨rfl, rfl⟩ := hrel
   go_wp2
   go_ret
   exact ⟨rfl, rfl⟩
 ·have i : ((n : Int) != 0) = true := by simp; omega
  have hv : Hid (decide (n = 0) = false) := decide_eq_false c
  clear c
  go_enter Tryz.func111, Tryz.ntmps111
  go_wp2
  go_ret
  exact ⟨by rw [hv.out] <;> rfl, rfl⟩
def zr1 (e : Int) (cn : Nat) (m : Bool) : Bool := decide (e = 0 ∧ cn = 0) && !m
set_option maxRecDepth 100000 in
set_option maxHeartbeats 4000000 in
theorem sameResult0 (w : World) (e : Int) (co : Option Addr) (cn cc : Nat) (m : Bool) :
  Calls Tryz.prog 72 #[.agg #[.int .i64 e, .slice co cn cc, .bool m], .agg #[.int .i64 0, .slice none 0 0, .bool false]] w fun x w' => x = .returned (.bool (zr1 e cn m)) ∧ Below w.heap.size w w' := by
 have B0 : Below w.heap.size w (w.alloc (Obj.cells #[.int .i64 e, .slice co cn cc, .bool m] 28)) := (Below.refl _ w).alloc (Nat.le_refl _) _
 have B : Below w.heap.size w ((w.alloc (Obj.cells #[.int .i64 e, .slice co cn cc, .bool m] 28)).alloc (Obj.cells #[.int .i64 0, .slice none 0 0, .bool false] 28)) := B0.alloc B0.size _
 clear B0
 by_cases c0 : e = 0
 ·subst c0
  cases m with
  | true =>
   go_enter Tryz.func72, Tryz.ntmps72
   go_wp2
   go_ret
   exact ⟨by unfold zr1; simp, B⟩
  | false =>
   have CC := eqCells0 ((w.alloc (Obj.cells #[.int .i64 0, .slice co cn cc, .bool false] 28)).alloc (Obj.cells #[.int .i64 0, .slice none 0 0, .bool false] 28)) co cn cc (.func (.func 112) #[] #[])
   have hv : Hid (zr1 0 cn false = decide (cn = 0)) := by show _ = _; unfold zr1; simp
   go_enter Tryz.func72, Tryz.ntmps72
   go_wp2_with (go_at_call 111; refine CC.mono ?_; rintro x w' ⟨rfl, hw⟩; obtain rfl := hw.symm; clear hw)
   go_ret
   exact ⟨by rw [hv.out] <;> rfl, B⟩
 ·have i0 : (e == 0) = false := by simp [c0]
  have hv : Hid (zr1 e cn m = false) := by
   show _ = _
   unfold zr1
   rw [decide_eq_false (by omega), Bool.false_and]
  clear c0
  go_enter Tryz.func72, Tryz.ntmps72
  go_wp2
  go_ret
  exact ⟨by rw [hv.out] <;> rfl, B⟩
def zr2 (cl st vw : Nat) (e : Int) (cn : Nat) (m : Bool) : Bool := decide (cl = 0 ∧ st = 0 ∧ vw = 0) && zr1 e cn m
set_option maxRecDepth 100000 in
set_option maxHeartbeats 4000000 in
theorem sameReply0 (w : World) (cl st vw : Nat) (e : Int) (co : Option Addr) (cn cc : Nat) (m : Bool) :
  Calls Tryz.prog 32 #[.agg #[.int .u64 cl, .int .u64 st, .int .u64 vw, .int .i64 e, .slice co cn cc, .bool m], .agg #[.int .u64 0, .int .u64 0, .int .u64 0, .int .i64 0, .slice none 0 0, .bool false]] w fun x w' => x = .returned (.bool (zr2 cl st vw e cn m)) ∧ Below w.heap.size w w' := by
 have B0 : Below w.heap.size w (w.alloc (Obj.cells #[.int .u64 cl, .int .u64 st, .int .u64 vw, .int .i64 e, .slice co cn cc, .bool m] 30)) := (Below.refl _ w).alloc (Nat.le_refl _) _
 have B : Below w.heap.size w ((w.alloc (Obj.cells #[.int .u64 cl, .int .u64 st, .int .u64 vw, .int .i64 e, .slice co cn cc, .bool m] 30)).alloc (Obj.cells #[.int .u64 0, .int .u64 0, .int .u64 0, .int .i64 0, .slice none 0 0, .bool false] 30)) := B0.alloc B0.size _
 clear B0
 by_cases c0 : ¬ cl = 0
 ·have i0 : ((cl : Int) == 0) = false := by simp; omega
  have hv : Hid (zr2 cl st vw e cn m = false) := by
   show _ = _
   unfold zr2
   rw [decide_eq_false (by omega), Bool.false_and]
  clear c0
  go_enter Tryz.func32, Tryz.ntmps32
  go_wp2
  go_ret
  exact ⟨by rw [hv.out] <;> rfl, B⟩
 have i0 : ((cl : Int) == 0) = true := by simp; omega
 by_cases c1 : ¬ st = 0
 ·have i1 : ((st : Int) == 0) = false := by simp; omega
  have hv : Hid (zr2 cl st vw e cn m = false) := by
   show _ = _
   unfold zr2
   rw [decide_eq_false (by omega), Bool.false_and]
  clear c0 c1
  go_enter Tryz.func32, Tryz.ntmps32
  go_wp2
  go_ret
  exact ⟨by rw [hv.out] <;> rfl, B⟩
 have i1 : ((st : Int) == 0) = true := by simp; omega
 by_cases c2 : ¬ vw = 0
 ·have i2 : ((vw : Int) == 0) = false := by simp; omega
  have hv : Hid (zr2 cl st vw e cn m = false) := by
   show _ = _
   unfold zr2
   rw [decide_eq_false (by omega), Bool.false_and]
  clear c0 c1 c2
  go_enter Tryz.func32, Tryz.ntmps32
  go_wp2
  go_ret
  exact ⟨by rw [hv.out] <;> rfl, B⟩
 have i2 : ((vw : Int) == 0) = true := by simp; omega
 have hv : Hid (zr2 cl st vw e cn m = zr1 e cn m) := by
  show _ = _
  unfold zr2
  rw [decide_eq_true (by omega), Bool.true_and]
 have CC := sameResult0 ((w.alloc (Obj.cells #[.int .u64 cl, .int .u64 st, .int .u64 vw, .int .i64 e, .slice co cn cc, .bool m] 30)).alloc (Obj.cells #[.int .u64 0, .int .u64 0, .int .u64 0, .int .i64 0, .slice none 0 0, .bool false] 30)) e co cn cc m
 clear c0 c1 c2
 go_enter Tryz.func32, Tryz.ntmps32
 go_wp2_with (go_at_call 72; refine CC.mono ?_; rintro x w' ⟨rfl, C⟩; have D := B.trans (C.mono B.size))
 go_ret
 exact ⟨by rw [hv.out] <;> rfl, D⟩
theorem BM.rz_eq (x : BM) : x.rz = zr2 x.cl x.st x.vw x.e x.c.n x.more := by
 unfold BM.rz zr2 zr1
 rw [Bool.eq_iff_iff]
 simp [and_assoc]
end Go.Proofs.YtkjaapomaaakmaaGreat

/-
  tree.Make.
-/
import Derived.Test.YtkmkmekhodcioaaGreatDoorChunkLaysZ16
import Derived.Test.YtkmkmekhodcioaaGreatDoorChunkLaysZ17
import Derived.Test.YtkmkmekhodcioaaGreatDoorChunkLaysZ18
import Derived.Test.YtkmkmekhodcioaaGreatDoorChunkLaysZ4
import Derived.Laws.MakeOwn
namespace Go.Proofs.YtkmkmekhodcioaaGreatDoor
open Go.RowKit

theorem own_some {w : World} {base : Nat} {v : Value} {ls : List LP} {q : LP} (h : w.ownsRow base 62 3 v (ls ++ [q]).length (flatL (ls ++ [q]))) : ∃ g c, v = .slice (some ⟨g, 0, none⟩) (ls ++ [q]).length c := by
  rcases h.2 with ⟨_, e⟩ | ⟨g, cap, cur, rfl, _⟩
  · simp at e
  · exact ⟨g, cap, rfl⟩
/-- append of a leaf. -/
theorem appL {w : World} {base : Nat} {v : Value} {ls : List LP} {q : LP} {g c : Nat} (own : w.ownsRow base 62 3 v ls.length (flatL ls)) (hb : base ≤ w.heap.size) (hn : ls.length ≤ 1000000) (ty : TypeId)
    (G : w.heap[g]? = some (.cells #[.int .i64 q.L, q.k.val, q.v.val] 62)) :
    ∃ v' w1, (Builtin.append_ #[60, 60] ty #[v, .slice (some ⟨g, 0, none⟩) 1 c]).run Tryz.prog w = .ok v' w1 ∧ w1.ownsRow base 62 3 v' (ls ++ [q]).length (flatL (ls ++ [q])) ∧ w.grownBy w1 v.ownBlock := by
  obtain ⟨i0, hi, hz0, hz1, hz2⟩ := info_parts leafInfo
  obtain ⟨v', w1, h1, h2, h3, -⟩ := run_append_own (P := Tryz.prog) w base 60 ty 62 i0 _ 3 56 Tryz.underlying60 hi hz0 hz1 hz2 rfl (by decide) v ls.length (flatL ls) own ⟨g, 0, none⟩ 1 c (encL q) rfl
    (fun j u hu => by
      rw [Addr.add_lit, Nat.zero_add, cell_of_row w g j _ _ _ G]
      match j, hu with
      | 0, hu => exact hu
      | 1, hu => exact hu
      | 2, hu => exact hu
      | j + 3, hu => simp [encL] at hu) (fun u hu => flatL_one [q] u (by simpa [flatL] using hu)) (by simp only [maxLen]; omega) (by omega) hb
  refine ⟨v', w1, h1, ?_, h3⟩
  rw [flatL_app, List.length_append]
  exact h2
/-- What Make answers. -/
def MakePost (w : World) (its : List IP) (e : Ending) (w' : World) : Prop := ∃ (u : Option Addr) (kd : Int), e = .returned (.tuple #[.pointer u, .int .i64 kd]) ∧ Below w.heap.size w w' ∧
  ((kd = 0 ∧ jL its 0 = 0 ∧ ∃ l, l.Perm (its.map IP.it) ∧ Srt l ∧ TT w' (.pointer u) l) ∨ (kd ≠ 0 ∧ u = none ∧ (jL its 0 = 0 → ¬ ((its.map IP.it).map It.k).Nodup)))
/-- Sorted, and none beside one of its key. -/
theorem srt_of : ∀ (ls : List LP), RiseL ls → (∀ i (h : i + 1 < ls.length), ls[i].k.xs ≠ ls[i + 1].k.xs) → Srt (ls.map LP.it)
  | [], _, _ => List.Pairwise.nil
  | [q], _, _ => Srt.one _
  | q :: p :: ls, h, hd => by
    obtain ⟨h1, h2⟩ := List.pairwise_cons.1 h
    have ih := srt_of (p :: ls) h2 (fun i hi => hd (i + 1) (by simpa using hi))
    have h3 : cmpL q.k.xs p.k.xs < 0 := by
      rcases cmpL_total q.k.xs p.k.xs with h3 | h3 | h3
      · exact h3
      · exact absurd h3 (hd 0 (by simp))
      · exact absurd h3 (h1 p (List.mem_cons_self ..))
    refine List.pairwise_cons.2 ⟨fun y hy => ?_, ih⟩
    rcases List.mem_cons.1 hy with rfl | hy
    · exact h3
    · exact cmpL_lt_trans _ _ _ h3 ((Srt.cons ih).1 y hy)

set_option maxHeartbeats 4000000 in
set_option maxRecDepth 100000 in
theorem tmake_any (w : World) (ao : Option Addr) (n cap : Nat) (its : List IP) (hT : Tabs w) (h : IL w ao n cap its) (hn : n ≤ 50000) (hb : ∀ q ∈ its, q.k.n ≤ 1000000 ∧ q.v.n ≤ 1000000) : Calls Tryz.prog 14 #[.slice ao n cap] w (MakePost w its) := by
  have h2 := hT.two
  have hl1 := Nat.le_of_eq h.len
  have hl2 := Nat.le_of_eq h.len.symm
  have hni : (n : Int) ≤ 50000 := by omega
  have CJ := judge_any w ao n cap its h (by omega) hb
  have HB : Hid (∀ q ∈ its, q.k.n ≤ 1000000 ∧ q.v.n ≤ 1000000) := hb
  clear hb
  obtain ⟨kd, hkd⟩ : ∃ kd, kd = jL its 0 := ⟨_, rfl⟩
  rw [← hkd] at CJ
  have HKD : Hid (kd = jL its 0) := hkd
  clear hkd
  go_enter Tryz.func14, Tryz.ntmps14
  go_wp2_with fail
  refine CJ.mono ?_
  rintro e w1 ⟨rfl, B1⟩
  clear CJ
  by_cases hz : kd = 0
  · subst hz
    obtain ⟨i0, hi, hz0, hz1, hz2⟩ := info_parts leafInfo
    obtain ⟨w2, hmk, own0, hg2⟩ := run_make_own (P := Tryz.prog) w1 w.heap.size 60 62 i0 _ 3 Tryz.underlying60 hi hz0 hz1 .i64 .i64 n (by rw [hz2]; omega) (by simp only [maxLen]; omega) B1.size
    have B2 : Below w.heap.size w w2 := B1.trans ((Below.refl _ _).grown hg2 B1.size (by simp))
    clear hi hz0 hz1 hz2 hg2
    go_wp2
    clear hmk
    go_loopw [5, 20] (fun f i wr => ∃ (kk g lc : Nat) (ls : List LP), kk ≤ n ∧ i = .int .i64 kk ∧ f = .slice (some ⟨g, 0, none⟩) kk lc ∧ wr.ownsRow w.heap.size 62 3 (.slice (some ⟨g, 0, none⟩) kk lc) ls.length (flatL ls) ∧ ls.length = kk ∧ ls.map LP.it = (its.take kk).map IP.it ∧ (∀ q ∈ ls, q.L = lev q.k.xs ∧ SlT wr q.k ∧ SlT wr q.v) ∧ Below w.heap.size w wr) (fun _ i _ => n - (intOf i).toNat)
    case atStart => exact ⟨0, w1.heap.size, n, [], Nat.zero_le _, rfl, rfl, own0, rfl, rfl, fun _ h => by simp at h, B2⟩
    case round =>
      clear own0 B2 B1
      obtain ⟨kk, g, lc, ls, hkk, rfl, rfl, OWN0, hll, hls, hok, B0⟩ := hrel
      have HLL : Hid (ls.length = kk) := hll
      have hll1 := Nat.le_of_eq hll
      have HLS : Hid (ls.map LP.it = (its.take kk).map IP.it) := hls
      have HOK0 : Hid (∀ q ∈ ls, q.L = lev q.k.xs ∧ SlT wr q.k ∧ SlT wr q.v) := hok
      clear hll hls hok
      by_cases hlt : kk < n
      · have hki : (kk : Int) < (n : Int) := by omega
        obtain ⟨b, off, rfl, hc⟩ := (h.below B0).at (by omega)
        obtain ⟨c1, c2⟩ := hc kk (by omega)
        obtain ⟨q, hq⟩ : ∃ q, q = its[kk] := ⟨_, rfl⟩
        rw [← hq] at c1 c2
        obtain ⟨sk, sv⟩ := h.sl q (by rw [hq]; exact List.getElem_mem _)
        obtain ⟨hkn, hvn⟩ := HB.out q (by rw [hq]; exact List.getElem_mem _)
        have HQ : Hid (its.take (kk + 1) = its.take kk ++ [q]) := by
          show _ = _
          rw [hq, List.take_succ_eq_append_getElem (by omega)]
        unfold Part.val at c1 c2
        clear hc hq
        go_wp2
        clear c1 c2
        have AI : Arr (wr.alloc (.cells #[.slice q.k.ao q.k.n q.k.cap, .slice q.v.ao q.v.n q.v.cap] 43)) wr.heap.size 43 [.slice q.k.ao q.k.n q.k.cap, .slice q.v.ao q.v.n q.v.cap] := heap_alloc_new wr _
        have BA : Below wr.heap.size wr (wr.alloc (.cells #[.slice q.k.ao q.k.n q.k.cap, .slice q.v.ao q.v.n q.v.cap] 43)) := (Below.refl _ _).alloc (Nat.le_refl _) _
        obtain ⟨W, hW⟩ : ∃ W, W = wr.alloc (.cells #[.slice q.k.ao q.k.n q.k.cap, .slice q.v.ao q.v.n q.v.cap] 43) := ⟨_, rfl⟩
        rw [← hW] at AI BA ⊢
        clear hW
        have OWN := own_below OWN0 BA
        have B := B0.trans (BA.mono B0.size)
        have HOK : Hid (∀ q ∈ ls, q.L = lev q.k.xs ∧ SlT W q.k ∧ SlT W q.v) := fun y hy => ⟨(HOK0.out y hy).1, (HOK0.out y hy).2.1.kp (KpB.below BA), (HOK0.out y hy).2.2.kp (KpB.below BA)⟩
        clear OWN0 B0 HOK0 BA
        have HS : Hid (∀ V, Below W.heap.size W V → V.cell? ⟨wr.heap.size, 0, none⟩ = some (.slice q.k.ao q.k.n q.k.cap) ∧ V.cell? ⟨wr.heap.size, 1, none⟩ = some (.slice q.v.ao q.v.n q.v.cap)) := fun V hV => ⟨(arr_below AI hV).cell 0, (arr_below AI hV).cell 1⟩
        have E0 : Below W.heap.size W W.drew := (Below.refl _ _).drew
        refine wp_region_noPanic ?_
        refine wp_region_held_drew (S := fun V => V.cell? ⟨wr.heap.size, 0, none⟩ = some (.slice q.k.ao q.k.n q.k.cap) ∧ V.cell? ⟨wr.heap.size, 1, none⟩ = some (.slice q.v.ao q.v.n q.v.cap)) (by kernel_rfl) (HS.out _ E0) (fun H0 => ?_)
        obtain ⟨v0, hv0⟩ : ∃ v, v = W.drew := ⟨_, rfl⟩
        rw [← hv0] at H0 E0 ⊢
        clear hv0
        refine hr_take_w 0 (some 24) (.slice (some ⟨g, 0, none⟩) kk lc) rfl rfl (by kernel_rfl) (by kernel_rfl) (by kernel_rfl) rfl (fun W hW => by obtain ⟨h0, h1⟩ := hW; go_simp) H0 ?_
        simp only [Act.put, List.setIfInBounds_toArray, List.set_cons_zero, List.set_cons_succ]
        refine hr_take_w 1 (some 25) (.pointer (some ⟨wr.heap.size, 0, none⟩)) rfl rfl (by kernel_rfl) (by kernel_rfl) (by kernel_rfl) rfl (fun W hW => by obtain ⟨h0, h1⟩ := hW; go_simp) H0 ?_
        simp only [Act.put, List.setIfInBounds_toArray, List.set_cons_zero, List.set_cons_succ]
        refine hr_take_w 2 (some 26) (.slice q.k.ao q.k.n q.k.cap) rfl rfl (by kernel_rfl) (by kernel_rfl) (by kernel_rfl) rfl (fun W hW => by obtain ⟨h0, h1⟩ := hW; go_simp) H0 ?_
        simp only [Act.put, List.setIfInBounds_toArray, List.set_cons_zero, List.set_cons_succ]
        refine hr_take_w 4 (some 28) (.pointer (some ⟨wr.heap.size, 0, none⟩)) rfl rfl (by kernel_rfl) (by kernel_rfl) (by kernel_rfl) rfl (fun W hW => by obtain ⟨h0, h1⟩ := hW; go_simp) H0 ?_
        simp only [Act.put, List.setIfInBounds_toArray, List.set_cons_zero, List.set_cons_succ]
        refine hr_take_w 5 (some 29) (.slice q.k.ao q.k.n q.k.cap) rfl rfl (by kernel_rfl) (by kernel_rfl) (by kernel_rfl) rfl (fun W hW => by obtain ⟨h0, h1⟩ := hW; go_simp) H0 ?_
        simp only [Act.put, List.setIfInBounds_toArray, List.set_cons_zero, List.set_cons_succ]
        refine hr_take_w 7 (some 31) (.pointer (some ⟨wr.heap.size, 1, none⟩)) rfl rfl (by kernel_rfl) (by kernel_rfl) (by kernel_rfl) rfl (fun W hW => by obtain ⟨h0, h1⟩ := hW; go_simp) H0 ?_
        simp only [Act.put, List.setIfInBounds_toArray, List.set_cons_zero, List.set_cons_succ]
        refine hr_take_w 8 (some 32) (.slice q.v.ao q.v.n q.v.cap) rfl rfl (by kernel_rfl) (by kernel_rfl) (by kernel_rfl) rfl (fun W hW => by obtain ⟨h0, h1⟩ := hW; go_simp) H0 ?_
        simp only [Act.put, List.setIfInBounds_toArray, List.set_cons_zero, List.set_cons_succ]
        refine wpAnyH_effto 2 (fun zi zv zw => (zi = 3 → zv = .int .i64 (lev q.k.xs : Nat)) ∧ (zi = 6 → ∃ ro rc, zv = .slice ro q.k.n rc ∧ SlT zw ⟨ro, q.k.n, rc, q.k.xs⟩) ∧ (zi = 9 → ∃ ro rc, zv = .slice ro q.v.n rc ∧ SlT zw ⟨ro, q.v.n, rc, q.v.xs⟩) ∧ (zi = 10 → ∃ ko kc vo vc, zv = .agg #[.int .i64 (lev q.k.xs : Nat), .slice ko q.k.n kc, .slice vo q.v.n vc] ∧ SlT zw ⟨ko, q.k.n, kc, q.k.xs⟩ ∧ SlT zw ⟨vo, q.v.n, vc, q.v.xs⟩) ∧ (zi = 11 → ∃ ko kc vo vc g1, zv = .slice (some ⟨g1, 0, none⟩) 1 1 ∧ zw.heap[g1]? = some (.cells #[.int .i64 (lev q.k.xs : Nat), .slice ko q.k.n kc, .slice vo q.v.n vc] 62) ∧ SlT zw ⟨ko, q.k.n, kc, q.k.xs⟩ ∧ SlT zw ⟨vo, q.v.n, vc, q.v.xs⟩)) [(3, 27), (6, 30), (9, 33), (10, 34), (11, 35)] 64 (by kernel_rfl) (by decide) (by decide) rfl ?_ (fun w hw => HS.out w (E0.trans (hw.mono E0.size))) ?_ ?_
        · intro zi v w w' h hb
          refine ⟨fun e => ?_, fun e => ?_, fun e => ?_, fun e => ?_, fun e => ?_⟩
          · have h := h.1 e
            exact h
          · have h := h.2.1 e
            obtain ⟨ro, rc, h1, h2⟩ := h
            exact ⟨ro, rc, h1, h2.kp (KpB.below hb)⟩
          · have h := h.2.2.1 e
            obtain ⟨ro, rc, h1, h2⟩ := h
            exact ⟨ro, rc, h1, h2.kp (KpB.below hb)⟩
          · have h := h.2.2.2.1 e
            obtain ⟨ko, kc, vo, vc, h1, h2, h3⟩ := h
            exact ⟨ko, kc, vo, vc, h1, h2.kp (KpB.below hb), h3.kp (KpB.below hb)⟩
          · have h := h.2.2.2.2 e
            obtain ⟨ko, kc, vo, vc, g1, h1, h2, h3, h4⟩ := h
            exact ⟨ko, kc, vo, vc, g1, h1, (hb.block g1 (Array.getElem?_eq_some_iff.1 h2).1).trans h2, h3.kp (KpB.below hb), h4.kp (KpB.below hb)⟩
        · intro zp zhi o a w ho hs hb hdep
          have EB := E0.trans (hb.mono E0.size)
          simp only [List.mem_cons, List.not_mem_nil, or_false] at zhi
          rcases zhi with rfl | rfl | rfl | rfl | rfl
          · obtain rfl : _ = o := Option.some.inj (show some _ = some o from ho)
            have t26 : a.tmps[26]? = some (.slice q.k.ao q.k.n q.k.cap) := hs.get 26 (by kernel_rfl) rfl
            have BB := B.trans (EB.mono B.size)
            have CL := level_any w q.k.ao q.k.n q.k.cap q.k.xs (hT.below BB h2) (sk.below BB) hkn
            refine .inr ⟨30, #[.slice q.k.ao q.k.n q.k.cap], by go_simp, CL.mono ?_⟩
            rintro e w' ⟨rfl, C⟩
            exact ⟨_, rfl, ⟨fun _ => rfl, fun e => absurd e (by decide), fun e => absurd e (by decide), fun e => absurd e (by decide), fun e => absurd e (by decide)⟩, C⟩
          · obtain rfl : _ = o := Option.some.inj (show some _ = some o from ho)
            have t29 : a.tmps[29]? = some (.slice q.k.ao q.k.n q.k.cap) := hs.get 29 (by kernel_rfl) rfl
            have CO := ownT_any w q.k.ao q.k.n q.k.cap q.k.xs (sk.below (B.trans (EB.mono B.size))) hkn
            refine .inr ⟨31, #[.slice q.k.ao q.k.n q.k.cap], by go_simp, CO.mono ?_⟩
            rintro e w' ⟨ro, rc, rfl, S, C⟩
            exact ⟨_, rfl, ⟨fun e => absurd e (by decide), fun _ => ⟨ro, rc, rfl, S⟩, fun e => absurd e (by decide), fun e => absurd e (by decide), fun e => absurd e (by decide)⟩, C⟩
          · obtain rfl : _ = o := Option.some.inj (show some _ = some o from ho)
            have t32 : a.tmps[32]? = some (.slice q.v.ao q.v.n q.v.cap) := hs.get 32 (by kernel_rfl) rfl
            have CO := ownT_any w q.v.ao q.v.n q.v.cap q.v.xs (sv.below (B.trans (EB.mono B.size))) hvn
            refine .inr ⟨31, #[.slice q.v.ao q.v.n q.v.cap], by go_simp, CO.mono ?_⟩
            rintro e w' ⟨ro, rc, rfl, S, C⟩
            exact ⟨_, rfl, ⟨fun e => absurd e (by decide), fun e => absurd e (by decide), fun _ => ⟨ro, rc, rfl, S⟩, fun e => absurd e (by decide), fun e => absurd e (by decide)⟩, C⟩
          · obtain rfl : _ = o := Option.some.inj (show some _ = some o from ho)
            obtain ⟨x27, t27, f27⟩ := (hdep 3 (by kernel_rfl)).at 27 (by kernel_rfl)
            replace f27 := f27.1 rfl
            obtain ⟨x30, t30, f30⟩ := (hdep 6 (by kernel_rfl)).at 30 (by kernel_rfl)
            replace f30 := f30.2.1 rfl
            obtain ⟨x33, t33, f33⟩ := (hdep 9 (by kernel_rfl)).at 33 (by kernel_rfl)
            replace f33 := f33.2.2.1 rfl
            subst f27
            obtain ⟨ko, kc, rfl, SK⟩ := f30
            obtain ⟨vo, vc, rfl, SV⟩ := f33
            exact .inl ⟨.agg #[.int .i64 (lev q.k.xs : Nat), .slice ko q.k.n kc, .slice vo q.v.n vc], w, by go_simp, ⟨fun e => absurd e (by decide), fun e => absurd e (by decide), fun e => absurd e (by decide), fun _ => ⟨ko, kc, vo, vc, rfl, SK, SV⟩, fun e => absurd e (by decide)⟩, Below.refl _ _⟩
          · obtain rfl : _ = o := Option.some.inj (show some _ = some o from ho)
            obtain ⟨x34, t34, f34⟩ := (hdep 10 (by kernel_rfl)).at 34 (by kernel_rfl)
            replace f34 := f34.2.2.2.1 rfl
            obtain ⟨ko, kc, vo, vc, rfl, SK, SV⟩ := f34
            have CA : Below w.heap.size w (w.alloc (.cells #[.int .i64 (lev q.k.xs : Nat), .slice ko q.k.n kc, .slice vo q.v.n vc] 62)) := (Below.refl _ _).alloc (Nat.le_refl _) _
            exact .inl ⟨_, _, by go_simp, ⟨fun e => absurd e (by decide), fun e => absurd e (by decide), fun e => absurd e (by decide), fun e => absurd e (by decide), fun _ => ⟨ko, kc, vo, vc, _, rfl, heap_alloc_new w _, SK.kp (KpB.below CA), SV.kp (KpB.below CA)⟩⟩, CA⟩
        intro zf v1 hb hh
        have E1 := E0.trans (hb.mono E0.size)
        obtain ⟨ko, kc, vo, vc, g1, e11, G1, SK, SV⟩ := (hh (11, 35) (by simp)).2.2.2.2 rfl
        clear hh hb
        simp only [putL, List.foldl_cons, List.foldl_nil, e11]
        clear e11
        simp only [Act.put, List.setIfInBounds_toArray, List.set_cons_zero, List.set_cons_succ]
        have own1 := own_below OWN E1
        have AI1 := arr_below AI E1
        obtain ⟨v2, W1, ha, own2, hg2⟩ := appL (q := ⟨lev q.k.xs, ⟨ko, q.k.n, kc, q.k.xs⟩, ⟨vo, q.v.n, vc, q.v.xs⟩⟩) (c := 1) own1 (Nat.le_trans B.size E1.size) (by omega) 60 G1
        have KP2 := KpB.row own1 (by decide) hg2
        have AI2 : Arr W1 wr.heap.size 43 [.slice q.k.ao q.k.n q.k.cap, .slice q.v.ao q.v.n q.v.cap] := AI1.grown hg2 (fun e => arr_not_row AI1 (by decide) own1 e.symm)
        have H2 : W1.cell? ⟨wr.heap.size, 0, none⟩ = some (.slice q.k.ao q.k.n q.k.cap) ∧ W1.cell? ⟨wr.heap.size, 1, none⟩ = some (.slice q.v.ao q.v.n q.v.cap) := ⟨AI2.cell 0, AI2.cell 1⟩
        obtain ⟨g2, lc2, rfl⟩ := own_some own2
        have B2 : Below w.heap.size w W1 := B.trans ((E1.mono B.size).trans ((Below.refl _ _).grown hg2 (Nat.le_trans B.size E1.size) (fun x hx => (own1.lt x hx).1)))
        refine hr_ex 12 (some 36) rfl rfl (by kernel_rfl) rfl (R := fun v w' => .slice (some ⟨g2, 0, none⟩) (ls ++ [LP.mk (lev q.k.xs) ⟨ko, q.k.n, kc, q.k.xs⟩ ⟨vo, q.v.n, vc, q.v.xs⟩]).length lc2 = v ∧ W1 = w') ⟨_, W1, by simp [execOp, Act.eval, resolve, invoke, builtin, ha], rfl, rfl⟩ ?_
        rintro v w' ⟨rfl, rfl⟩
        refine ⟨H2, ?_⟩
        simp only [Act.put, List.setIfInBounds_toArray, List.set_cons_zero, List.set_cons_succ]
        refine hr_take_w 13 (some 5) (.slice (some ⟨g2, 0, none⟩) (ls ++ [LP.mk (lev q.k.xs) ⟨ko, q.k.n, kc, q.k.xs⟩ ⟨vo, q.v.n, vc, q.v.xs⟩]).length lc2) rfl rfl (by kernel_rfl) (by kernel_rfl) (by kernel_rfl) rfl (fun W hW => by obtain ⟨h0, h1⟩ := hW; go_simp) H2 ?_
        simp only [Act.put, List.setIfInBounds_toArray, List.set_cons_zero, List.set_cons_succ]
        refine wpAnyH_done (by kernel_rfl) ?_ _
        refine NoPanic.normal ?_
        have KP := (KpB.below E1).trans KP2
        clear H2 AI AI1 AI2 own1 OWN hg2 ha G1 E1 HS H0 E0
        go_wp2
        go_roundw
        case rel =>
          refine ⟨kk + 1, g2, lc2, ls ++ [LP.mk (lev q.k.xs) ⟨ko, q.k.n, kc, q.k.xs⟩ ⟨vo, q.v.n, vc, q.v.xs⟩], by omega, by go_num, ?_, ?_, ?_, ?_, fun y hy => ?_, B2⟩
          · rw [List.length_append, HLL.out]
            rfl
          · rw [List.length_append, HLL.out] at own2 ⊢
            exact own2
          · rw [List.length_append, HLL.out]
            rfl
          · rw [List.map_append, HLS.out, HQ.out, List.map_append]
            rfl
          · rcases List.mem_append.1 hy with hy | hy
            · exact ⟨(HOK.out y hy).1, (HOK.out y hy).2.1.kp KP, (HOK.out y hy).2.2.kp KP⟩
            · rw [List.mem_singleton.1 hy]
              exact ⟨rfl, SK.kp KP2, SV.kp KP2⟩
        case measure => simp [intOf]; omega
      · have hge : ¬ (kk : Int) < (n : Int) := by omega
        have hkn : n = kk := by omega
        subst hkn
        have hPerm0 : ls.map LP.it = its.map IP.it := by rw [HLS.out, List.take_of_length_le (by omega)]
        have HP0 : Hid (ls.map LP.it = its.map IP.it) := hPerm0
        clear hPerm0
        have CSo := sortL_any wr w.heap.size g n lc ls (by rw [HLL.out] at OWN0; exact OWN0) (fun q hq => (HOK0.out q hq).2) (by omega)
        go_wp2_with fail
        refine CSo.mono ?_
        rintro e w3 ⟨rfl, ls2, hp, hsrt, LL3, KP3, C3⟩
        have B3 := B0.trans C3
        have HOK : Hid (∀ q ∈ ls2, q.ok w3) := fun q hq => by
          have h1 := HOK0.out q (hp.mem_iff.1 hq)
          exact ⟨(h1.2.1.kp KP3).1, (h1.2.2.kp KP3).1, h1.1⟩
        have HPm : Hid ((ls2.map LP.it).Perm (its.map IP.it)) := by
          show List.Perm _ _
          rw [← HP0.out]
          exact hp.map LP.it
        have HSR : Hid (RiseL ls2) := hsrt
        have hl3 := Nat.le_of_eq LL3.len
        have hl4 := Nat.le_of_eq LL3.len.symm
        clear CSo hp hsrt KP3 C3 OWN0 HLL HLS HOK0 HP0 B0
        go_wp2
        go_loopw [42] (fun i wr => ∃ ii : Nat, ii ≤ n ∧ i = .int .i64 ii ∧ (∀ j (h : j + 1 < ls2.length), j + 1 < ii → ls2[j].k.xs ≠ ls2[j + 1].k.xs) ∧ Below w3.heap.size w3 wr) (fun i _ => n - (intOf i).toNat)
        case atStart => exact ⟨0, Nat.zero_le _, rfl, fun j _ h => by omega, Below.refl _ _⟩
        case round =>
          obtain ⟨ii, hii, rfl, hdist, C4⟩ := hrel
          have HD : Hid (∀ j (h : j + 1 < ls2.length), j + 1 < ii → ls2[j].k.xs ≠ ls2[j + 1].k.xs) := hdist
          clear hdist
          by_cases hlt2 : ii < n
          · have hki : (ii : Int) < (n : Int) := by omega
            obtain ⟨c1, c2, c3⟩ := LL3.cells3 C4 ii (by omega)
            obtain ⟨q, hq⟩ : ∃ q, q = ls2[ii] := ⟨_, rfl⟩
            rw [← hq] at c1 c2 c3
            have HQ : Hid (q = ls2[ii]) := hq
            obtain ⟨sk, sv, -⟩ := HOK.out q (by rw [hq]; exact List.getElem_mem _)
            clear hq
            unfold Part.val at c2 c3
            rw [Nat.zero_add] at c1 c2 c3
            go_wp2
            clear c1 c2 c3
            have LFn := Lf.new wr q.L (.slice q.k.ao q.k.n q.k.cap) (.slice q.v.ao q.v.n q.v.cap) 62
            have BA : Below wr.heap.size wr (wr.alloc (.cells #[.int .i64 q.L, .slice q.k.ao q.k.n q.k.cap, .slice q.v.ao q.v.n q.v.cap] 62)) := (Below.refl _ _).alloc (Nat.le_refl _) _
            obtain ⟨W, hW⟩ : ∃ W, W = wr.alloc (.cells #[.int .i64 q.L, .slice q.k.ao q.k.n q.k.cap, .slice q.v.ao q.v.n q.v.cap] 62) := ⟨_, rfl⟩
            rw [← hW] at LFn BA ⊢
            clear hW
            have C5 := C4.trans (BA.mono C4.size)
            by_cases hi0 : ii = 0
            · subst hi0
              have HS : Hid (∀ V, Below W.heap.size W V → True) := fun _ _ => trivial
              have E0 : Below W.heap.size W W.drew := (Below.refl _ _).drew
              refine wp_region_noPanic ?_
              refine wp_region_held_drew (S := fun V => True) (by kernel_rfl) trivial (fun _ => ?_)
              obtain ⟨v0, hv0⟩ : ∃ v, v = W.drew := ⟨_, rfl⟩
              rw [← hv0] at E0 ⊢
              clear hv0
              refine hr_take_w 0 (some 47) (.int .i64 ((0 : Nat) : Int)) rfl rfl (by kernel_rfl) (by kernel_rfl) (by kernel_rfl) rfl (fun W hW => by go_simp) trivial ?_
              simp only [Act.put, List.setIfInBounds_toArray, List.set_cons_zero, List.set_cons_succ]
              refine hr_take_w 1 (some 48) (.bool false) rfl rfl (by kernel_rfl) (by kernel_rfl) (by kernel_rfl) rfl (fun W hW => by go_simp) trivial ?_
              simp only [Act.put, List.setIfInBounds_toArray, List.set_cons_zero, List.set_cons_succ]
              refine hr_take_w 2 (some 49) (.bool false) rfl rfl (by kernel_rfl) (by kernel_rfl) (by kernel_rfl) rfl (fun W hW => by go_simp) trivial ?_
              simp only [Act.put, List.setIfInBounds_toArray, List.set_cons_zero, List.set_cons_succ]
              refine hr_none 3 (some 50) rfl rfl (by kernel_rfl) (by kernel_rfl) (by kernel_rfl) rfl trivial ?_
              simp only [Act.put, List.setIfInBounds_toArray, List.set_cons_zero, List.set_cons_succ]
              refine hr_none 4 (some 51) rfl rfl (by kernel_rfl) (by kernel_rfl) (by kernel_rfl) rfl trivial ?_
              simp only [Act.put, List.setIfInBounds_toArray, List.set_cons_zero, List.set_cons_succ]
              refine hr_none 5 (some 52) rfl rfl (by kernel_rfl) (by kernel_rfl) (by kernel_rfl) rfl trivial ?_
              simp only [Act.put, List.setIfInBounds_toArray, List.set_cons_zero, List.set_cons_succ]
              refine hr_none 6 (some 53) rfl rfl (by kernel_rfl) (by kernel_rfl) (by kernel_rfl) rfl trivial ?_
              simp only [Act.put, List.setIfInBounds_toArray, List.set_cons_zero, List.set_cons_succ]
              refine hr_none 7 (some 54) rfl rfl (by kernel_rfl) (by kernel_rfl) (by kernel_rfl) rfl trivial ?_
              simp only [Act.put, List.setIfInBounds_toArray, List.set_cons_zero, List.set_cons_succ]
              refine hr_none 8 (some 55) rfl rfl (by kernel_rfl) (by kernel_rfl) (by kernel_rfl) rfl trivial ?_
              simp only [Act.put, List.setIfInBounds_toArray, List.set_cons_zero, List.set_cons_succ]
              refine hr_none 9 (some 56) rfl rfl (by kernel_rfl) (by kernel_rfl) (by kernel_rfl) rfl trivial ?_
              simp only [Act.put, List.setIfInBounds_toArray, List.set_cons_zero, List.set_cons_succ]
              refine hr_none 10 (some 57) rfl rfl (by kernel_rfl) (by kernel_rfl) (by kernel_rfl) rfl trivial ?_
              simp only [Act.put, List.setIfInBounds_toArray, List.set_cons_zero, List.set_cons_succ]
              refine hr_none 11 (some 58) rfl rfl (by kernel_rfl) (by kernel_rfl) (by kernel_rfl) rfl trivial ?_
              simp only [Act.put, List.setIfInBounds_toArray, List.set_cons_zero, List.set_cons_succ]
              refine hr_take_w 12 (some 59) (.bool false) rfl rfl (by kernel_rfl) (by kernel_rfl) (by kernel_rfl) rfl (fun W hW => by go_simp) trivial ?_
              simp only [Act.put, List.setIfInBounds_toArray, List.set_cons_zero, List.set_cons_succ]
              refine wpAnyH_done (by kernel_rfl) ?_ _
              refine NoPanic.normal ?_
              go_wp2
              go_roundw
              case rel => exact ⟨1, by omega, by go_num, fun j hj h1 => by omega, C5.trans (E0.mono C5.size)⟩
              case measure => simp [intOf]; omega
            · have hipos : decide (0 < ii) = true := by simp; omega
              obtain ⟨cp0, cp1, cp2⟩ := LL3.cells3 C5 (ii - 1) (by omega)
              obtain ⟨p, hp⟩ : ∃ p, p = ls2[ii - 1] := ⟨_, rfl⟩
              rw [← hp] at cp1
              have HPq : Hid (p = ls2[ii - 1]) := hp
              obtain ⟨sp, -, -⟩ := HOK.out p (by rw [hp]; exact List.getElem_mem _)
              clear hp cp0 cp2
              unfold Part.val at cp1
              rw [Nat.zero_add] at cp1
              have cp := cp1
              clear cp1
              have cq := LFn.c1
              obtain ⟨bb, hbb⟩ : ∃ b : Bool, b = true ↔ p.k.xs = q.k.xs := ⟨decide (p.k.xs = q.k.xs), by simp⟩
              have HBB : Hid (bb = true ↔ p.k.xs = q.k.xs) := hbb
              clear hbb
              have hi1 : ii - 1 < n := by omega
              have hwr : IntKind.i64.wrap ((ii : Int) - 1) = ((ii - 1 : Nat) : Int) := by
                simp [IntKind.wrap, IntKind.bits, IntKind.signed]
                omega
              have hi2 : ((ii - 1 : Nat) : Int) < (n : Int) := by omega
              have HE : Hid (ls2[ii - 1 + 1]'(by omega) = q) := by
                show _ = _
                rw [HQ.out]
                congr 1
                omega
              have HS : Hid (∀ V, Below W.heap.size W V → V.cell? ⟨g, (ii - 1) * 3 + 1, none⟩ = some (.slice p.k.ao p.k.n p.k.cap) ∧ V.cell? ⟨wr.heap.size, 1, none⟩ = some (.slice q.k.ao q.k.n q.k.cap)) := fun V hV => ⟨(hV.cell (World.block_lt_of_cell? _ _ cp)).trans cp, (hV.cell (World.block_lt_of_cell? _ _ cq)).trans cq⟩
              have E0 : Below W.heap.size W W.drew := (Below.refl _ _).drew
              refine wp_region_noPanic ?_
              refine wp_region_held_drew (S := fun V => V.cell? ⟨g, (ii - 1) * 3 + 1, none⟩ = some (.slice p.k.ao p.k.n p.k.cap) ∧ V.cell? ⟨wr.heap.size, 1, none⟩ = some (.slice q.k.ao q.k.n q.k.cap)) (by kernel_rfl) (HS.out _ E0) (fun H0 => ?_)
              obtain ⟨v0, hv0⟩ : ∃ v, v = W.drew := ⟨_, rfl⟩
              rw [← hv0] at H0 E0 ⊢
              clear hv0
              refine hr_take_w 0 (some 47) (.int .i64 (ii : Nat)) rfl rfl (by kernel_rfl) (by kernel_rfl) (by kernel_rfl) rfl (fun W hW => by obtain ⟨h0, h1⟩ := hW; go_simp) H0 ?_
              simp only [Act.put, List.setIfInBounds_toArray, List.set_cons_zero, List.set_cons_succ]
              refine hr_take_w 1 (some 48) (.bool true) rfl rfl (by kernel_rfl) (by kernel_rfl) (by kernel_rfl) rfl (fun W hW => by obtain ⟨h0, h1⟩ := hW; go_simp) H0 ?_
              simp only [Act.put, List.setIfInBounds_toArray, List.set_cons_zero, List.set_cons_succ]
              refine hr_take_w 2 (some 49) (.bool true) rfl rfl (by kernel_rfl) (by kernel_rfl) (by kernel_rfl) rfl (fun W hW => by obtain ⟨h0, h1⟩ := hW; go_simp) H0 ?_
              simp only [Act.put, List.setIfInBounds_toArray, List.set_cons_zero, List.set_cons_succ]
              refine hr_take_w 3 (some 50) (.slice (some ⟨g, 0, none⟩) n lc) rfl rfl (by kernel_rfl) (by kernel_rfl) (by kernel_rfl) rfl (fun W hW => by obtain ⟨h0, h1⟩ := hW; go_simp) H0 ?_
              simp only [Act.put, List.setIfInBounds_toArray, List.set_cons_zero, List.set_cons_succ]
              refine hr_take_w 4 (some 51) (.int .i64 (ii : Nat)) rfl rfl (by kernel_rfl) (by kernel_rfl) (by kernel_rfl) rfl (fun W hW => by obtain ⟨h0, h1⟩ := hW; go_simp) H0 ?_
              simp only [Act.put, List.setIfInBounds_toArray, List.set_cons_zero, List.set_cons_succ]
              refine hr_take_w 5 (some 52) (.int .i64 ((ii - 1 : Nat) : Int)) rfl rfl (by kernel_rfl) (by kernel_rfl) (by kernel_rfl) rfl (fun W hW => by obtain ⟨h0, h1⟩ := hW; go_simp) H0 ?_
              simp only [Act.put, List.setIfInBounds_toArray, List.set_cons_zero, List.set_cons_succ]
              refine hr_take_w 6 (some 53) (.pointer (some ⟨g, (ii - 1) * 3, none⟩)) rfl rfl (by kernel_rfl) (by kernel_rfl) (by kernel_rfl) rfl (fun W hW => by obtain ⟨h0, h1⟩ := hW; go_simp) H0 ?_
              simp only [Act.put, List.setIfInBounds_toArray, List.set_cons_zero, List.set_cons_succ]
              refine hr_take_w 7 (some 54) (.pointer (some ⟨g, (ii - 1) * 3 + 1, none⟩)) rfl rfl (by kernel_rfl) (by kernel_rfl) (by kernel_rfl) rfl (fun W hW => by obtain ⟨h0, h1⟩ := hW; go_simp) H0 ?_
              simp only [Act.put, List.setIfInBounds_toArray, List.set_cons_zero, List.set_cons_succ]
              refine hr_take_w 8 (some 55) (.slice p.k.ao p.k.n p.k.cap) rfl rfl (by kernel_rfl) (by kernel_rfl) (by kernel_rfl) rfl (fun W hW => by obtain ⟨h0, h1⟩ := hW; go_simp) H0 ?_
              simp only [Act.put, List.setIfInBounds_toArray, List.set_cons_zero, List.set_cons_succ]
              refine hr_take_w 9 (some 56) (.pointer (some ⟨wr.heap.size, 1, none⟩)) rfl rfl (by kernel_rfl) (by kernel_rfl) (by kernel_rfl) rfl (fun W hW => by obtain ⟨h0, h1⟩ := hW; go_simp) H0 ?_
              simp only [Act.put, List.setIfInBounds_toArray, List.set_cons_zero, List.set_cons_succ]
              refine hr_take_w 10 (some 57) (.slice q.k.ao q.k.n q.k.cap) rfl rfl (by kernel_rfl) (by kernel_rfl) (by kernel_rfl) rfl (fun W hW => by obtain ⟨h0, h1⟩ := hW; go_simp) H0 ?_
              simp only [Act.put, List.setIfInBounds_toArray, List.set_cons_zero, List.set_cons_succ]
              refine hr_call_w 11 (some 58) 24 #[.slice p.k.ao p.k.n p.k.cap, .slice q.k.ao q.k.n q.k.cap] rfl rfl (by kernel_rfl) rfl (by go_simp) (fun v w' => v = .bool bb ∧ Below v0.heap.size v0 w') ((bequal_b v0 p.k.ao q.k.ao p.k.n p.k.cap q.k.n q.k.cap p.k.xs q.k.xs (sp.below (C5.trans (E0.mono C5.size))) (sk.below (C5.trans (E0.mono C5.size))) bb HBB.out).mono (by
                rintro e w' ⟨rfl, C⟩
                exact ⟨_, rfl, rfl, C⟩)) ?_
              rintro v v1 ⟨rfl, C0⟩
              have E1 := E0.trans (C0.mono E0.size)
              have H1 := HS.out v1 E1
              refine ⟨H1, ?_⟩
              simp only [Act.put, List.setIfInBounds_toArray, List.set_cons_zero, List.set_cons_succ]
              refine hr_take_w 12 (some 59) (.bool bb) rfl rfl (by kernel_rfl) (by kernel_rfl) (by kernel_rfl) rfl (fun W hW => by obtain ⟨h0, h1⟩ := hW; go_simp) H1 ?_
              simp only [Act.put, List.setIfInBounds_toArray, List.set_cons_zero, List.set_cons_succ]
              refine wpAnyH_done (by kernel_rfl) ?_ _
              refine NoPanic.normal ?_
              clear cp cq HS H0 H1
              have C6 := C5.trans (E1.mono C5.size)
              cases bb with
              | true =>
                go_wp2
                go_ret2
                refine ⟨none, 1, rfl, B3.trans (C6.mono B3.size), .inr ⟨by decide, rfl, fun _ hnd => ?_⟩⟩
                have hnd2 : ((ls2.map LP.it).map It.k).Nodup := (HPm.out.map It.k).nodup_iff.2 hnd
                have he : p.k.xs = q.k.xs := HBB.out.1 (by simp)
                rw [List.map_map] at hnd2
                have hnd3 := List.pairwise_iff_getElem.1 hnd2 (ii - 1) ii (by simp; omega) (by simp; omega) (by omega)
                simp only [List.getElem_map, Function.comp_apply] at hnd3
                rw [← HPq.out, ← HQ.out] at hnd3
                exact hnd3 he
              | false =>
                go_wp2
                go_roundw
                case rel =>
                  refine ⟨ii + 1, by omega, by go_num, fun j hj h1 => ?_, C6⟩
                  by_cases hji : j + 1 < ii
                  · exact HD.out j hj hji
                  · have hj2 : j = ii - 1 := by omega
                    subst hj2
                    rw [HE.out, ← HPq.out]
                    intro he
                    have := HBB.out.2 he
                    simp at this
                case measure => simp [intOf]; omega
          · have hge2 : ¬ (ii : Int) < (n : Int) := by omega
            have hik : n = ii := by omega
            subst hik
            have hok4 : ∀ q ∈ ls2, q.ok wr := fun q hq => ⟨(HOK.out q hq).1.below C4, (HOK.out q hq).2.1.below C4, (HOK.out q hq).2.2⟩
            have CSh := shape_fuel wr n wr (some ⟨g, 0, none⟩) n lc ls2 (LL3.below C4) hok4 (Below.refl _ _) hn (Nat.le_refl _)
            have B4 := B3.trans (C4.mono B3.size)
            have HS4 : Hid (Srt (ls2.map LP.it)) := srt_of ls2 HSR.out (fun j hj => HD.out j hj (by omega))
            clear hok4 HSR HD LL3 HOK
            go_wp2_with fail
            refine CSh.mono ?_
            rintro e w5 ⟨v5, rfl, O5, C5⟩
            have T5 := O5.now
            have B5 := B4.trans (C5.mono B4.size)
            clear CSh O5 C5
            have CT := treeOf_any w5 _ _ T5
            go_wp2_with fail
            refine CT.mono ?_
            rintro e w6 ⟨u, rfl, T6, C6⟩
            have B6 := B5.trans (C6.mono B5.size)
            obtain ⟨u6, rfl⟩ := T6.ptr
            clear CT C6 T5
            go_wp2
            go_ret2
            exact ⟨u6, 0, rfl, B6, .inl ⟨rfl, HKD.out.symm, _, HPm.out, HS4.out, T6⟩⟩
  · have hzb : (kd != 0) = true := by simp [hz]
    have HZ : Hid (¬ kd = 0) := hz
    clear hz
    go_wp2
    go_ret2
    exact ⟨none, kd, rfl, B1, .inr ⟨HZ.out, rfl, fun e => absurd (HKD.out.trans e) HZ.out⟩⟩
end Go.Proofs.YtkmkmekhodcioaaGreatDoor

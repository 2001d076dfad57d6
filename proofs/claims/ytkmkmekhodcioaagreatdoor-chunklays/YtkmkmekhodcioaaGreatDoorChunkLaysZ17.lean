/-
  tree.shape.
-/
import Derived.Test.YtkmkmekhodcioaaGreatDoorChunkLaysZ16
namespace Go.Proofs.YtkmkmekhodcioaaGreatDoor
open Go.RowKit

theorem LL.cells3 {w w' : World} {b off n cap : Nat} {ls : List LP} (h : LL w (some ⟨b, off, none⟩) n cap ls) (hb : Below w.heap.size w w') (i : Nat) (hi : i < ls.length) :
    w'.cell? ⟨b, off + i * 3, none⟩ = some (.int .i64 ls[i].L) ∧ w'.cell? ⟨b, off + i * 3 + 1, none⟩ = some ls[i].k.val ∧ w'.cell? ⟨b, off + i * 3 + 2, none⟩ = some ls[i].v.val := by
  have := (h.below hb).cell _ rfl i hi
  rw [Addr.add_lit, Addr.add_lit, Addr.add_lit, ← Nat.add_assoc, ← Nat.add_assoc] at this
  exact this
/-- A leaf in a block of its own, apart from a node's. -/
structure LfO (W : World) (g : Nat) (k v c : Value) (lb L : Nat) (a b : Value) : Prop where
  lf : Lf W lb L a b
  off : Off g k v c lb
theorem LfO.chg {W W' : World} {g : Nat} {k v c k' v' c' : Value} {lb L : Nat} {a b : Value} (h : LfO W g k v c lb L a b) (hc : Chg W W' g k v c k' v' c') : LfO W' g k' v' c' lb L a b := by
  have hlt : lb < W.heap.size := World.block_lt_of_cell? _ _ h.lf.c0
  obtain ⟨h1, h2⟩ := hc.off lb hlt h.off
  exact ⟨⟨(World.cell?_of_block (a := ⟨lb, 0, none⟩) h1).trans h.lf.c0, (World.cell?_of_block (a := ⟨lb, 1, none⟩) h1).trans h.lf.c1, (World.cell?_of_block (a := ⟨lb, 2, none⟩) h1).trans h.lf.c2⟩, h2⟩
/-- While a node's lists are being made. -/
structure ShI (w0 wI wr : World) (M : Nat) (l : List It) (i fr : Nat) (k v c : Value) (ks vs : List Part) (us : List Value) (segs : List (List It)) (xs : List It) : Prop where
  nb : NB wr wI.heap.size wI.heap.size 99 56 (M : Int) k v c (ks.map Part.val) (vs.map Part.val) us
  b : Below wI.heap.size wI wr
  prt : Prt lev M l i fr segs xs
  ek : ks.map Part.xs = xs.map It.k
  ev : vs.map Part.xs = xs.map It.v
  kf : KidsF wr w0.heap.size wI.heap.size wI.heap.size k v c us segs
  sk : ∀ q ∈ ks, Sl w0 q.ao q.n q.cap q.xs
  sv : ∀ q ∈ vs, Sl w0 q.ao q.n q.cap q.xs

set_option maxHeartbeats 4000000 in
set_option maxRecDepth 100000 in
theorem shape_fuel (w0 : World) : ∀ (N : Nat) (wI : World) (ao : Option Addr) (n cap : Nat) (ls : List LP) (_ : LL wI ao n cap ls) (_ : ∀ q ∈ ls, q.ok w0) (_ : Below w0.heap.size w0 wI) (_ : n ≤ 50000) (_ : n ≤ N),
    Calls Tryz.prog 36 #[.slice ao n cap] wI (OnT w0.heap.size wI (ls.map LP.it)) := by
  intro N
  induction N using Nat.strongRecOn with | _ N ih => ?_
  intro wI ao n cap ls hL hok h0 hn hN
  have hl1 := Nat.le_of_eq hL.len
  have hl2 := Nat.le_of_eq hL.len.symm
  have hni : (n : Int) ≤ 50000 := by omega
  by_cases hz : n = 0
  · subst hz
    obtain rfl : ls = [] := List.eq_nil_of_length_eq_zero hL.len
    go_enter Tryz.func36, Tryz.ntmps36
    go_wp2
    go_ret
    exact OnT.nil _ _
  obtain ⟨b, off, rfl, hc⟩ := hL.at (by omega)
  have c0 := (hc 0 (by omega)).1
  rw [Nat.zero_mul, Nat.add_zero] at c0
  clear hc
  have hzi : ¬ (n : Int) = 0 := by omega
  obtain ⟨M0, hM0⟩ : ∃ M, M = ls[0].L := ⟨_, rfl⟩
  rw [← hM0] at c0
  have HM0 : Hid (∃ q ∈ ls, q.L = M0) := ⟨ls[0], List.getElem_mem _, hM0.symm⟩
  clear hM0
  go_enter Tryz.func36, Tryz.ntmps36
  go_wp2
  clear c0
  go_loopw [20] (fun i wr => ∃ (kk M : Nat), kk ≤ n ∧ i = .int .i64 kk ∧ NB wr wI.heap.size wI.heap.size 99 56 (M : Int) (.slice none 0 0) (.slice none 0 0) (.slice none 0 0) [] [] [] ∧ Below wI.heap.size wI wr ∧ (∀ j (h : j < ls.length), j < kk → ls[j].L ≤ M) ∧ ∃ q ∈ ls, q.L = M) (fun i _ => n - (intOf i).toNat)
  case atStart => exact ⟨0, M0, Nat.zero_le _, rfl, NB.new wI 99 56 (M0 : Int), (Below.refl _ _).alloc (Nat.le_refl _) _, fun j _ h => by omega, HM0.out⟩
  case round =>
    obtain ⟨kk, M, hkk, rfl, N, B, hle, hex⟩ := hrel
    have HLE : Hid (∀ j (h : j < ls.length), j < kk → ls[j].L ≤ M) := hle
    have HEX : Hid (∃ q ∈ ls, q.L = M) := hex
    clear hle hex
    by_cases hlt : kk < n
    · have hki : (kk : Int) < (n : Int) := by omega
      obtain ⟨c1, c2, c3⟩ := hL.cells3 B kk (by omega)
      obtain ⟨q, hq⟩ : ∃ q, q = ls[kk] := ⟨_, rfl⟩
      rw [← hq] at c1 c2 c3
      have HQ : Hid (q = ls[kk]) := hq
      clear hq
      unfold Part.val at c2 c3
      go_wp2
      clear c1 c2 c3
      have LF := Lf.new wr q.L (.slice q.k.ao q.k.n q.k.cap) (.slice q.v.ao q.v.n q.v.cap) 62
      have BA : Below wr.heap.size wr (wr.alloc (.cells #[.int .i64 q.L, .slice q.k.ao q.k.n q.k.cap, .slice q.v.ao q.v.n q.v.cap] 62)) := (Below.refl _ _).alloc (Nat.le_refl _) _
      obtain ⟨W, hW⟩ : ∃ W, W = wr.alloc (.cells #[.int .i64 q.L, .slice q.k.ao q.k.n q.k.cap, .slice q.v.ao q.v.n q.v.cap] 62) := ⟨_, rfl⟩
      rw [← hW] at LF BA ⊢
      clear hW
      replace N := N.below BA
      replace B := B.trans (BA.mono B.size)
      have E0 : Below W.heap.size W W.drew := (Below.refl _ _).drew
      refine wp_region_noPanic ?_
      refine wp_region_held_drew (S := fun _ => True) (by kernel_rfl) trivial (fun _ => ?_)
      obtain ⟨v0, hv0⟩ : ∃ v, v = W.drew := ⟨_, rfl⟩
      rw [← hv0] at E0 ⊢
      clear hv0
      refine hr_take_w 0 (some 24) (.pointer (some ⟨wI.heap.size, 0, none⟩)) rfl rfl (by kernel_rfl) (by kernel_rfl) (by kernel_rfl) rfl (fun W hW => by go_simp) trivial ?_
      simp only [Act.put, List.setIfInBounds_toArray, List.set_cons_zero, List.set_cons_succ]
      refine hr_take_w 1 (some 25) (.pointer (some ⟨wI.heap.size, 0, none⟩)) rfl rfl (by kernel_rfl) (by kernel_rfl) (by kernel_rfl) rfl (fun W hW => by go_simp) trivial ?_
      simp only [Act.put, List.setIfInBounds_toArray, List.set_cons_zero, List.set_cons_succ]
      refine hr_take_w 2 (some 26) (.pointer (some ⟨wI.heap.size, 0, none⟩)) rfl rfl (by kernel_rfl) (by kernel_rfl) (by kernel_rfl) rfl (fun W hW => by go_simp) trivial ?_
      simp only [Act.put, List.setIfInBounds_toArray, List.set_cons_zero, List.set_cons_succ]
      refine hr_take_w 3 (some 27) (.pointer (some ⟨wI.heap.size, 0, none⟩)) rfl rfl (by kernel_rfl) (by kernel_rfl) (by kernel_rfl) rfl (fun W hW => by go_simp) trivial ?_
      simp only [Act.put, List.setIfInBounds_toArray, List.set_cons_zero, List.set_cons_succ]
      refine hr_take_w 5 (some 29) (.pointer (some ⟨wr.heap.size, 0, none⟩)) rfl rfl (by kernel_rfl) (by kernel_rfl) (by kernel_rfl) rfl (fun W hW => by go_simp) trivial ?_
      simp only [Act.put, List.setIfInBounds_toArray, List.set_cons_zero, List.set_cons_succ]
      refine wpAnyH_effto 3 (fun zi zv zw => (zi = 4 → zv = .int .i64 (M : Nat)) ∧ (zi = 6 → zv = .int .i64 (q.L : Nat)) ∧ (zi = 7 → zv = .int .i64 (max M q.L : Nat))) [(4, 28), (6, 30), (7, 31)] 103 (by kernel_rfl) (by decide) (by decide) rfl ?_ (fun _ _ => trivial) ?_ ?_
      · intro zi v w w' h hb
        refine ⟨fun e => ?_, fun e => ?_, fun e => ?_⟩
        · have h := h.1 e
          exact h
        · have h := h.2.1 e
          exact h
        · have h := h.2.2 e
          exact h
      · intro zp zhi o a w ho hs hb hdep
        have EB := E0.trans (hb.mono E0.size)
        simp only [List.mem_cons, List.not_mem_nil, or_false] at zhi
        rcases zhi with rfl | rfl | rfl
        · obtain rfl : _ = o := Option.some.inj (show some _ = some o from ho)
          have t27 : a.tmps[27]? = some (.pointer (some ⟨wI.heap.size, 0, none⟩)) := hs.get 27 (by kernel_rfl) rfl
          have N' := N.below EB
          have lc := N'.arr.cell 0
          exact .inl ⟨.int .i64 (M : Nat), w, by go_simp, ⟨fun _ => rfl, fun e => absurd e (by decide), fun e => absurd e (by decide)⟩, Below.refl _ _⟩
        · obtain rfl : _ = o := Option.some.inj (show some _ = some o from ho)
          have t29 : a.tmps[29]? = some (.pointer (some ⟨wr.heap.size, 0, none⟩)) := hs.get 29 (by kernel_rfl) rfl
          have lc := (LF.below EB).c0
          exact .inl ⟨.int .i64 (q.L : Nat), w, by go_simp, ⟨fun e => absurd e (by decide), fun _ => rfl, fun e => absurd e (by decide)⟩, Below.refl _ _⟩
        · obtain rfl : _ = o := Option.some.inj (show some _ = some o from ho)
          obtain ⟨x28, t28, f28⟩ := (hdep 4 (by kernel_rfl)).at 28 (by kernel_rfl)
          replace f28 := f28.1 rfl
          obtain ⟨x30, t30, f30⟩ := (hdep 6 (by kernel_rfl)).at 30 (by kernel_rfl)
          replace f30 := f30.2.1 rfl
          subst f28
          subst f30
          exact .inl ⟨.int .i64 (max M q.L : Nat), w, by go_simp; omega, ⟨fun e => absurd e (by decide), fun e => absurd e (by decide), fun _ => rfl⟩, Below.refl _ _⟩
      intro zf v1 hb hh
      have E1 := E0.trans (hb.mono E0.size)
      obtain e4 := (hh (4, 28) (by simp)).1 rfl
      obtain e6 := (hh (6, 30) (by simp)).2.1 rfl
      obtain e7 := (hh (7, 31) (by simp)).2.2 rfl
      clear hh hb
      simp only [putL, List.foldl_cons, List.foldl_nil, e4, e6, e7]
      clear e4 e6 e7
      simp only [Act.put, List.setIfInBounds_toArray, List.set_cons_zero, List.set_cons_succ]
      have N1 := N.below E1
      have lc := N1.arr.cell 0
      have lf := N1.arr.free 0
      obtain ⟨N2, C2, B2⟩ := N1.level (by decide) (by decide) ((max M q.L : Nat) : Int)
      refine hr_take_w 8 (some 32) (.pointer (some ⟨wI.heap.size, 0, none⟩)) rfl rfl (by kernel_rfl) (by kernel_rfl) (by kernel_rfl) rfl (fun W hW => by go_simp) trivial ?_
      simp only [Act.put, List.setIfInBounds_toArray, List.set_cons_zero, List.set_cons_succ]
      refine hr_take_w 9 (some 33) (.pointer (some ⟨wI.heap.size, 0, none⟩)) rfl rfl (by kernel_rfl) (by kernel_rfl) (by kernel_rfl) rfl (fun W hW => by go_simp) trivial ?_
      simp only [Act.put, List.setIfInBounds_toArray, List.set_cons_zero, List.set_cons_succ]
      refine hr_skip 10 none (w' := v1.setCell ⟨wI.heap.size, 0, none⟩ (.int .i64 (max M q.L : Nat))) rfl rfl (by kernel_rfl) rfl (by go_simp) trivial ?_
      simp only [Act.put]
      refine wpAnyH_done (by kernel_rfl) ?_ _
      refine NoPanic.normal ?_
      clear lc lf
      have B3 := B.trans ((E1.mono B.size).trans B2)
      go_wp2
      go_roundw
      case rel =>
        refine ⟨kk + 1, max M q.L, by omega, by go_num, N2, B3, fun j hj hjk => ?_, ?_⟩
        · by_cases hjj : j = kk
          · subst hjj
            rw [← HQ.out]
            omega
          · have := HLE.out j hj (by omega)
            omega
        · by_cases hmx : M ≤ q.L
          · exact ⟨ls[kk], List.getElem_mem _, by rw [← HQ.out]; omega⟩
          · obtain ⟨y, hy, hyl⟩ := HEX.out
            exact ⟨y, hy, by omega⟩
      case measure => simp [intOf]; omega
    · have hge : ¬ (kk : Int) < (n : Int) := by omega
      have hkn : n = kk := by omega
      subst hkn
      have HMX : Hid (∀ j (h : j < ls.length), ls[j].L ≤ M) := fun j h => HLE.out j h (by omega)
      clear HLE
      go_wp2
      go_loopw [6, 37] (fun f i wr => ∃ (ii fr : Nat) (k v c : Value) (ks vs : List Part) (us : List Value) (segs : List (List It)) (xs : List It), i = .int .i64 ii ∧ f = .int .i64 fr ∧ ShI w0 wI wr M (ls.map LP.it) ii fr k v c ks vs us segs xs) (fun _ i _ => n - (intOf i).toNat)
      case atStart => exact ⟨0, 0, _, _, _, [], [], [], [], [], rfl, rfl, N, B, Prt.start _ _ _, rfl, rfl, KidsF.nil _ _ _ _ _ _ _, fun _ h => by simp at h, fun _ h => by simp at h⟩
      case round =>
        clear N B
        obtain ⟨ii, fr, k, v, c, ks, vs, us, segs, xs, rfl, rfl, H⟩ := hrel
        have hfr := H.prt.le
        have hin : ii ≤ n := by have := H.prt.hi; rw [List.length_map] at this; omega
        have hic : ii ≤ cap := Nat.le_trans hin hL.le
        by_cases hlt : ii < n
        · have hki : (ii : Int) < (n : Int) := by omega
          obtain ⟨c1, c2, c3⟩ := hL.cells3 H.b ii (by omega)
          obtain ⟨q, hq⟩ : ∃ q, q = ls[ii] := ⟨_, rfl⟩
          rw [← hq] at c1 c2 c3
          have HQ : Hid (q = ls[ii]) := hq
          have hqo := hok q (by rw [hq]; exact List.getElem_mem _)
          have hqI : ∀ (hh : ii < (ls.map LP.it).length), (ls.map LP.it)[ii] = q.it := fun hh => by rw [List.getElem_map, hq]
          clear hq
          have HQI : Hid (∀ (hh : ii < (ls.map LP.it).length), (ls.map LP.it)[ii] = q.it) := hqI
          clear hqI
          unfold Part.val at c2 c3
          go_wp2
          clear c1 c2 c3
          have LFn := Lf.new wr q.L (.slice q.k.ao q.k.n q.k.cap) (.slice q.v.ao q.v.n q.v.cap) 62
          have BA : Below wr.heap.size wr (wr.alloc (.cells #[.int .i64 q.L, .slice q.k.ao q.k.n q.k.cap, .slice q.v.ao q.v.n q.v.cap] 62)) := (Below.refl _ _).alloc (Nat.le_refl _) _
          obtain ⟨W, hW⟩ : ∃ W, W = wr.alloc (.cells #[.int .i64 q.L, .slice q.k.ao q.k.n q.k.cap, .slice q.v.ao q.v.n q.v.cap] 62) := ⟨_, rfl⟩
          rw [← hW] at LFn BA ⊢
          clear hW
          have LF : LfO W wI.heap.size k v c wr.heap.size q.L (.slice q.k.ao q.k.n q.k.cap) (.slice q.v.ao q.v.n q.v.cap) := ⟨LFn, H.nb.offNew (Nat.le_refl _)⟩
          have N := H.nb.below BA
          have B := H.b.trans (BA.mono H.b.size)
          have KF := H.kf.chg (Chg.below BA)
          have HP := H.prt
          have HEK : Hid (ks.map Part.xs = xs.map It.k) := H.ek
          have HEV : Hid (vs.map Part.xs = xs.map It.v) := H.ev
          have HSK : Hid (∀ q ∈ ks, Sl w0 q.ao q.n q.cap q.xs) := H.sk
          have HSV : Hid (∀ q ∈ vs, Sl w0 q.ao q.n q.cap q.xs) := H.sv
          have hxl := H.prt.len
          have hkl := congrArg List.length H.ek
          have hvl := congrArg List.length H.ev
          have hsl : segs.length ≤ ii := H.prt.many
          rw [List.length_map, List.length_map] at hkl hvl
          have HXL : Hid (ks.length ≤ 50000 ∧ vs.length ≤ 50000 ∧ segs.length ≤ 50000) := ⟨by omega, by omega, by omega⟩
          have HLL : Hid (segs.length = xs.length) := hxl
          clear H LFn BA hxl hkl hvl hsl
          have lc0 := LF.lf.c0
          have lc3 := N.arr.cell 0
          by_cases hlv : q.L = M
          · have hlvb : ((q.L : Int) == (M : Int)) = true := by simp [hlv]
            have HLV : Hid (q.L = M) := hlv
            clear hlv
            have tHS : Hid (∀ V, Below W.heap.size W V → V.cell? ⟨wr.heap.size, 0, none⟩ = some (.int .i64 (q.L : Nat)) ∧ V.cell? ⟨wI.heap.size, 0, none⟩ = some (.int .i64 (M : Nat))) := fun V hV => ⟨(hV.cell (World.block_lt_of_cell? _ _ lc0)).trans lc0, (hV.cell (World.block_lt_of_cell? _ _ lc3)).trans lc3⟩
            have tE0 : Below W.heap.size W W.drew := (Below.refl _ _).drew
            refine wp_region_noPanic ?_
            refine wp_region_held_drew (S := fun V => V.cell? ⟨wr.heap.size, 0, none⟩ = some (.int .i64 (q.L : Nat)) ∧ V.cell? ⟨wI.heap.size, 0, none⟩ = some (.int .i64 (M : Nat))) (by kernel_rfl) (tHS.out _ tE0) (fun tH0 => ?_)
            obtain ⟨tv0, hv0⟩ : ∃ v, v = W.drew := ⟨_, rfl⟩
            rw [← hv0] at tH0 tE0 ⊢
            clear hv0
            refine hr_take_w 0 (some 42) (.pointer (some ⟨wr.heap.size, 0, none⟩)) rfl rfl (by kernel_rfl) (by kernel_rfl) (by kernel_rfl) rfl (fun W hW => by obtain ⟨h0, h1⟩ := hW; go_simp) tH0 ?_
            simp only [Act.put, List.setIfInBounds_toArray, List.set_cons_zero, List.set_cons_succ]
            refine hr_take_w 1 (some 43) (.int .i64 (q.L : Nat)) rfl rfl (by kernel_rfl) (by kernel_rfl) (by kernel_rfl) rfl (fun W hW => by obtain ⟨h0, h1⟩ := hW; go_simp) tH0 ?_
            simp only [Act.put, List.setIfInBounds_toArray, List.set_cons_zero, List.set_cons_succ]
            refine hr_take_w 2 (some 44) (.pointer (some ⟨wI.heap.size, 0, none⟩)) rfl rfl (by kernel_rfl) (by kernel_rfl) (by kernel_rfl) rfl (fun W hW => by obtain ⟨h0, h1⟩ := hW; go_simp) tH0 ?_
            simp only [Act.put, List.setIfInBounds_toArray, List.set_cons_zero, List.set_cons_succ]
            refine hr_take_w 3 (some 45) (.pointer (some ⟨wI.heap.size, 0, none⟩)) rfl rfl (by kernel_rfl) (by kernel_rfl) (by kernel_rfl) rfl (fun W hW => by obtain ⟨h0, h1⟩ := hW; go_simp) tH0 ?_
            simp only [Act.put, List.setIfInBounds_toArray, List.set_cons_zero, List.set_cons_succ]
            refine hr_take_w 4 (some 46) (.pointer (some ⟨wI.heap.size, 0, none⟩)) rfl rfl (by kernel_rfl) (by kernel_rfl) (by kernel_rfl) rfl (fun W hW => by obtain ⟨h0, h1⟩ := hW; go_simp) tH0 ?_
            simp only [Act.put, List.setIfInBounds_toArray, List.set_cons_zero, List.set_cons_succ]
            refine hr_take_w 5 (some 47) (.int .i64 (M : Nat)) rfl rfl (by kernel_rfl) (by kernel_rfl) (by kernel_rfl) rfl (fun W hW => by obtain ⟨h0, h1⟩ := hW; go_simp) tH0 ?_
            simp only [Act.put, List.setIfInBounds_toArray, List.set_cons_zero, List.set_cons_succ]
            refine hr_take_w 6 (some 48) (.bool true) rfl rfl (by kernel_rfl) (by kernel_rfl) (by kernel_rfl) rfl (fun W hW => by obtain ⟨h0, h1⟩ := hW; go_simp) tH0 ?_
            simp only [Act.put, List.setIfInBounds_toArray, List.set_cons_zero, List.set_cons_succ]
            refine wpAnyH_done (by kernel_rfl) ?_ _
            refine NoPanic.normal ?_
            clear lc0 lc3 tHS tH0
            replace N := N.below tE0
            replace B := B.trans (tE0.mono B.size)
            replace KF := KF.chg (Chg.below tE0)
            replace LF := LF.chg (Chg.below tE0)
            go_wp2
            have E0 : Below tv0.heap.size tv0 tv0.drew := (Below.refl _ _).drew
            refine wp_region_noPanic ?_
            refine wp_region_held_drew (S := fun _ => True) (by kernel_rfl) trivial (fun _ => ?_)
            obtain ⟨v0, hv0⟩ : ∃ v, v = tv0.drew := ⟨_, rfl⟩
            rw [← hv0] at E0 ⊢
            clear hv0
            refine hr_take_w 0 (some 49) (.pointer (some ⟨wI.heap.size, 0, none⟩)) rfl rfl (by kernel_rfl) (by kernel_rfl) (by kernel_rfl) rfl (fun W hW => by go_simp) trivial ?_
            simp only [Act.put, List.setIfInBounds_toArray, List.set_cons_zero, List.set_cons_succ]
            refine hr_take_w 1 (some 50) (.pointer (some ⟨wI.heap.size, 0, none⟩)) rfl rfl (by kernel_rfl) (by kernel_rfl) (by kernel_rfl) rfl (fun W hW => by go_simp) trivial ?_
            simp only [Act.put, List.setIfInBounds_toArray, List.set_cons_zero, List.set_cons_succ]
            refine hr_take_w 2 (some 51) (.pointer (some ⟨wI.heap.size, 0, none⟩)) rfl rfl (by kernel_rfl) (by kernel_rfl) (by kernel_rfl) rfl (fun W hW => by go_simp) trivial ?_
            simp only [Act.put, List.setIfInBounds_toArray, List.set_cons_zero, List.set_cons_succ]
            refine hr_take_w 3 (some 52) (.pointer (some ⟨wI.heap.size, 3, none⟩)) rfl rfl (by kernel_rfl) (by kernel_rfl) (by kernel_rfl) rfl (fun W hW => by go_simp) trivial ?_
            simp only [Act.put, List.setIfInBounds_toArray, List.set_cons_zero, List.set_cons_succ]
            refine hr_take_w 5 (some 54) (.slice (some ⟨b, off, none⟩) n cap) rfl rfl (by kernel_rfl) (by kernel_rfl) (by kernel_rfl) rfl (fun W hW => by go_simp) trivial ?_
            simp only [Act.put, List.setIfInBounds_toArray, List.set_cons_zero, List.set_cons_succ]
            refine hr_take_w 6 (some 55) (.int .i64 (fr : Nat)) rfl rfl (by kernel_rfl) (by kernel_rfl) (by kernel_rfl) rfl (fun W hW => by go_simp) trivial ?_
            simp only [Act.put, List.setIfInBounds_toArray, List.set_cons_zero, List.set_cons_succ]
            refine hr_take_w 7 (some 56) (.int .i64 (ii : Nat)) rfl rfl (by kernel_rfl) (by kernel_rfl) (by kernel_rfl) rfl (fun W hW => by go_simp) trivial ?_
            simp only [Act.put, List.setIfInBounds_toArray, List.set_cons_zero, List.set_cons_succ]
            refine hr_take_w 8 (some 57) (.int .i64 (ii : Nat)) rfl rfl (by kernel_rfl) (by kernel_rfl) (by kernel_rfl) rfl (fun W hW => by go_simp) trivial ?_
            simp only [Act.put, List.setIfInBounds_toArray, List.set_cons_zero, List.set_cons_succ]
            refine hr_take_w 9 (some 58) (.slice (bk3 (some ⟨b, off, none⟩) ii fr) (ii - fr) (ii - fr)) rfl rfl (by kernel_rfl) (by kernel_rfl) (by kernel_rfl) rfl (fun W hW => by simp [execOp, Act.eval, run_mid3 (W := W) (n := n) hfr hic]) trivial ?_
            simp only [Act.put, List.setIfInBounds_toArray, List.set_cons_zero, List.set_cons_succ]
            refine wpAnyH_effto 4 (fun zi zv zw => (zi = 4 → zv = c) ∧ (zi = 10 → ∃ po, zv = .pointer po ∧ Far zw w0.heap.size wI.heap.size wI.heap.size k v c fun x => T x (.pointer po) (((ls.take ii).drop fr).map LP.it)) ∧ (zi = 11 → ∃ po g1, zv = .slice (some ⟨g1, 0, none⟩) 1 1 ∧ VL zw (some ⟨g1, 0, none⟩) 1 1 [.pointer po] ∧ Far zw w0.heap.size wI.heap.size wI.heap.size k v c fun x => T x (.pointer po) (((ls.take ii).drop fr).map LP.it))) [(4, 53), (10, 59), (11, 60)] 103 (by kernel_rfl) (by decide) (by decide) rfl ?_ (fun _ _ => trivial) ?_ ?_
            · intro zi v w w' h hb
              refine ⟨fun e => ?_, fun e => ?_, fun e => ?_⟩
              · have h := h.1 e
                exact h
              · have h := h.2.1 e
                obtain ⟨po, h1, h2⟩ := h
                exact ⟨po, h1, h2.chg (Chg.below hb)⟩
              · have h := h.2.2 e
                obtain ⟨po, g1, h1, h2, h3⟩ := h
                exact ⟨po, g1, h1, h2.below hb, h3.chg (Chg.below hb)⟩
            · intro zp zhi o a w ho hs hb hdep
              have EB := E0.trans (hb.mono E0.size)
              simp only [List.mem_cons, List.not_mem_nil, or_false] at zhi
              rcases zhi with rfl | rfl | rfl
              · obtain rfl : _ = o := Option.some.inj (show some _ = some o from ho)
                have t52 : a.tmps[52]? = some (.pointer (some ⟨wI.heap.size, 3, none⟩)) := hs.get 52 (by kernel_rfl) rfl
                have N' := N.below EB
                have lc := N'.arr.cell 3
                exact .inl ⟨c, w, by go_simp, ⟨fun _ => rfl, fun e => absurd e (by decide), fun e => absurd e (by decide)⟩, Below.refl _ _⟩
              · obtain rfl : _ = o := Option.some.inj (show some _ = some o from ho)
                have t58 : a.tmps[58]? = some (.slice (bk3 (some ⟨b, off, none⟩) ii fr) (ii - fr) (ii - fr)) := hs.get 58 (by kernel_rfl) rfl
                have N' := N.below EB
                have BB := B.trans (EB.mono B.size)
                have hsz := BB.size
                have CS := ih (ii - fr) (by omega) w (bk3 (some ⟨b, off, none⟩) ii fr) (ii - fr) (ii - fr) ((ls.take ii).drop fr) ((hL.part hfr hin (Nat.le_refl ii) (by omega)).below BB) (fun y hy => hok y (List.mem_of_mem_take (List.mem_of_mem_drop hy))) (h0.trans (BB.mono h0.size)) (by omega) (by omega)
                refine .inr ⟨36, #[.slice (bk3 (some ⟨b, off, none⟩) ii fr) (ii - fr) (ii - fr)], by go_simp, CS.mono ?_⟩
                rintro e w' ⟨po, rfl, O, C⟩
                exact ⟨_, rfl, ⟨fun e => absurd e (by decide), fun _ => ⟨po, rfl, O.far hsz (fun x hx => N'.offLow (by have := h0.size; omega)) (fun x hx => N'.offNew hx)⟩, fun e => absurd e (by decide)⟩, C⟩
              · obtain rfl : _ = o := Option.some.inj (show some _ = some o from ho)
                obtain ⟨x59, t59, f59⟩ := (hdep 10 (by kernel_rfl)).at 59 (by kernel_rfl)
                replace f59 := f59.2.1 rfl
                obtain ⟨po, rfl, T1⟩ := f59
                have CA : Below w.heap.size w (w.alloc (.cells #[.pointer po] 56)) := (Below.refl _ _).alloc (Nat.le_refl _) _
                exact .inl ⟨_, _, by go_simp, ⟨fun e => absurd e (by decide), fun e => absurd e (by decide), fun _ => ⟨po, _, rfl, VL.new w [.pointer po] 56 (by simp [maxLen]), T1.chg (Chg.below CA)⟩⟩, CA⟩
            intro zf v1 hb hh
            have E1 := E0.trans (hb.mono E0.size)
            obtain e4 := (hh (4, 53) (by simp)).1 rfl
            obtain ⟨po, g1, e11, G1, T1⟩ := (hh (11, 60) (by simp)).2.2 rfl
            clear hh hb
            simp only [putL, List.foldl_cons, List.foldl_nil, e4, e11]
            clear e4 e11
            simp only [Act.put, List.setIfInBounds_toArray, List.set_cons_zero, List.set_cons_succ]
            have N1 := N.below E1
            have D1 : Chg tv0 v1 wI.heap.size k v c k v c := Chg.below E1
            have KF1 := (KF.chg D1).app T1
            obtain ⟨c2, W1, ha, P1⟩ := N1.appC (by decide) (by decide) (ps := 97) (ty := 97) Tryz.underlying97 ninfo G1 rfl (by rw [KF.len]; have := HXL.out; omega)
            obtain ⟨co2, cn2, cc2, rfl⟩ := row_slice P1.nb.oc
            refine hr_ex 12 (some 61) rfl rfl (by kernel_rfl) rfl (R := fun v w' => (.slice co2 cn2 cc2) = v ∧ W1 = w') ⟨_, W1, by simp [execOp, Act.eval, resolve, invoke, builtin, ha], rfl, rfl⟩ ?_
            rintro v w' ⟨rfl, rfl⟩
            refine ⟨trivial, ?_⟩
            simp only [Act.put, List.setIfInBounds_toArray, List.set_cons_zero, List.set_cons_succ]
            refine hr_take_w 13 (some 62) (.pointer (some ⟨wI.heap.size, 0, none⟩)) rfl rfl (by kernel_rfl) (by kernel_rfl) (by kernel_rfl) rfl (fun W hW => by go_simp) trivial ?_
            simp only [Act.put, List.setIfInBounds_toArray, List.set_cons_zero, List.set_cons_succ]
            refine hr_take_w 14 (some 63) (.pointer (some ⟨wI.heap.size, 3, none⟩)) rfl rfl (by kernel_rfl) (by kernel_rfl) (by kernel_rfl) rfl (fun W hW => by go_simp) trivial ?_
            simp only [Act.put, List.setIfInBounds_toArray, List.set_cons_zero, List.set_cons_succ]
            have lc := P1.arr.cell 3
            have lf := P1.arr.free 3
            refine hr_skip 15 none (w' := W1.setCell ⟨wI.heap.size, 3, none⟩ (.slice co2 cn2 cc2)) rfl rfl (by kernel_rfl) rfl (by go_simp) trivial ?_
            simp only [Act.put]
            refine wpAnyH_done (by kernel_rfl) ?_ _
            refine NoPanic.normal ?_
            clear lc lf ha
            have N2 := P1.nb
            have KF2 := KF1.chg P1.chg
            have LF2 := LF.chg (D1.trans P1.chg)
            have B2 := B.trans ((E1.mono B.size).trans P1.below)
            obtain ⟨W2, hW2⟩ : ∃ W2, W2 = W1.setCell ⟨wI.heap.size, 3, none⟩ (.slice co2 cn2 cc2) := ⟨_, rfl⟩
            rw [← hW2] at N2 KF2 B2 LF2 ⊢
            clear hW2
            go_wp2
            have pE0 : Below W2.heap.size W2 W2.drew := (Below.refl _ _).drew
            refine wp_region_noPanic ?_
            refine wp_region_held_drew (S := fun _ => True) (by kernel_rfl) trivial (fun _ => ?_)
            obtain ⟨pv0, hv0⟩ : ∃ v, v = W2.drew := ⟨_, rfl⟩
            rw [← hv0] at pE0 ⊢
            clear hv0
            refine hr_take_w 0 (some 64) (.pointer (some ⟨wI.heap.size, 0, none⟩)) rfl rfl (by kernel_rfl) (by kernel_rfl) (by kernel_rfl) rfl (fun W hW => by go_simp) trivial ?_
            simp only [Act.put, List.setIfInBounds_toArray, List.set_cons_zero, List.set_cons_succ]
            refine hr_take_w 1 (some 65) (.pointer (some ⟨wI.heap.size, 0, none⟩)) rfl rfl (by kernel_rfl) (by kernel_rfl) (by kernel_rfl) rfl (fun W hW => by go_simp) trivial ?_
            simp only [Act.put, List.setIfInBounds_toArray, List.set_cons_zero, List.set_cons_succ]
            refine hr_take_w 2 (some 66) (.pointer (some ⟨wI.heap.size, 0, none⟩)) rfl rfl (by kernel_rfl) (by kernel_rfl) (by kernel_rfl) rfl (fun W hW => by go_simp) trivial ?_
            simp only [Act.put, List.setIfInBounds_toArray, List.set_cons_zero, List.set_cons_succ]
            refine hr_take_w 3 (some 67) (.pointer (some ⟨wI.heap.size, 1, none⟩)) rfl rfl (by kernel_rfl) (by kernel_rfl) (by kernel_rfl) rfl (fun W hW => by go_simp) trivial ?_
            simp only [Act.put, List.setIfInBounds_toArray, List.set_cons_zero, List.set_cons_succ]
            refine hr_take_w 5 (some 69) (.pointer (some ⟨wr.heap.size, 1, none⟩)) rfl rfl (by kernel_rfl) (by kernel_rfl) (by kernel_rfl) rfl (fun W hW => by go_simp) trivial ?_
            simp only [Act.put, List.setIfInBounds_toArray, List.set_cons_zero, List.set_cons_succ]
            refine wpAnyH_effto 4 (fun zi zv zw => (zi = 4 → zv = k) ∧ (zi = 6 → zv = .slice q.k.ao q.k.n q.k.cap) ∧ (zi = 7 → ∃ g1, zv = .slice (some ⟨g1, 0, none⟩) 1 1 ∧ VL zw (some ⟨g1, 0, none⟩) 1 1 [.slice q.k.ao q.k.n q.k.cap])) [(4, 68), (6, 70), (7, 71)] 103 (by kernel_rfl) (by decide) (by decide) rfl ?_ (fun _ _ => trivial) ?_ ?_
            · intro zi v w w' h hb
              refine ⟨fun e => ?_, fun e => ?_, fun e => ?_⟩
              · have h := h.1 e
                exact h
              · have h := h.2.1 e
                exact h
              · have h := h.2.2 e
                obtain ⟨g1, h1, h2⟩ := h
                exact ⟨g1, h1, h2.below hb⟩
            · intro zp zhi o a w ho hs hb hdep
              have pEB := pE0.trans (hb.mono pE0.size)
              simp only [List.mem_cons, List.not_mem_nil, or_false] at zhi
              rcases zhi with rfl | rfl | rfl
              · obtain rfl : _ = o := Option.some.inj (show some _ = some o from ho)
                have t67 : a.tmps[67]? = some (.pointer (some ⟨wI.heap.size, 1, none⟩)) := hs.get 67 (by kernel_rfl) rfl
                have N' := N2.below pEB
                have lc := N'.arr.cell 1
                exact .inl ⟨k, w, by go_simp, ⟨fun _ => rfl, fun e => absurd e (by decide), fun e => absurd e (by decide)⟩, Below.refl _ _⟩
              · obtain rfl : _ = o := Option.some.inj (show some _ = some o from ho)
                have t69 : a.tmps[69]? = some (.pointer (some ⟨wr.heap.size, 1, none⟩)) := hs.get 69 (by kernel_rfl) rfl
                have lc := (LF2.lf.below pEB).c1
                exact .inl ⟨.slice q.k.ao q.k.n q.k.cap, w, by go_simp, ⟨fun e => absurd e (by decide), fun _ => rfl, fun e => absurd e (by decide)⟩, Below.refl _ _⟩
              · obtain rfl : _ = o := Option.some.inj (show some _ = some o from ho)
                obtain ⟨x70, t70, f70⟩ := (hdep 6 (by kernel_rfl)).at 70 (by kernel_rfl)
                replace f70 := f70.2.1 rfl
                subst f70
                exact .inl ⟨_, _, by go_simp, ⟨fun e => absurd e (by decide), fun e => absurd e (by decide), fun _ => ⟨_, rfl, VL.new w [.slice q.k.ao q.k.n q.k.cap] 23 (by simp [maxLen])⟩⟩, (Below.refl _ _).alloc (Nat.le_refl _) _⟩
            intro zf pv1 hb hh
            have pE1 := pE0.trans (hb.mono pE0.size)
            obtain e4 := (hh (4, 68) (by simp)).1 rfl
            obtain e6 := (hh (6, 70) (by simp)).2.1 rfl
            obtain ⟨g1, e7, G1⟩ := (hh (7, 71) (by simp)).2.2 rfl
            clear hh hb
            simp only [putL, List.foldl_cons, List.foldl_nil, e4, e6, e7]
            clear e4 e6 e7
            simp only [Act.put, List.setIfInBounds_toArray, List.set_cons_zero, List.set_cons_succ]
            have N1 := N2.below pE1
            obtain ⟨x1, W1, ha, P1⟩ := N1.appK (by decide) (by decide) (ty := 22) (u := .slice q.k.ao q.k.n q.k.cap) G1 rfl (by rw [List.length_map]; have := HXL.out; omega)
            obtain ⟨ko2, kn2, kc2, rfl⟩ := row_slice P1.nb.ok
            refine hr_ex 8 (some 72) rfl rfl (by kernel_rfl) rfl (R := fun v w' => (.slice ko2 kn2 kc2) = v ∧ W1 = w') ⟨_, W1, by simp [execOp, Act.eval, resolve, invoke, builtin, ha], rfl, rfl⟩ ?_
            rintro v w' ⟨rfl, rfl⟩
            refine ⟨trivial, ?_⟩
            simp only [Act.put, List.setIfInBounds_toArray, List.set_cons_zero, List.set_cons_succ]
            refine hr_take_w 9 (some 73) (.pointer (some ⟨wI.heap.size, 0, none⟩)) rfl rfl (by kernel_rfl) (by kernel_rfl) (by kernel_rfl) rfl (fun W hW => by go_simp) trivial ?_
            simp only [Act.put, List.setIfInBounds_toArray, List.set_cons_zero, List.set_cons_succ]
            refine hr_take_w 10 (some 74) (.pointer (some ⟨wI.heap.size, 1, none⟩)) rfl rfl (by kernel_rfl) (by kernel_rfl) (by kernel_rfl) rfl (fun W hW => by go_simp) trivial ?_
            simp only [Act.put, List.setIfInBounds_toArray, List.set_cons_zero, List.set_cons_succ]
            have lc := P1.arr.cell 1
            have lf := P1.arr.free 1
            refine hr_skip 11 none (w' := W1.setCell ⟨wI.heap.size, 1, none⟩ (.slice ko2 kn2 kc2)) rfl rfl (by kernel_rfl) rfl (by go_simp) trivial ?_
            simp only [Act.put]
            refine wpAnyH_done (by kernel_rfl) ?_ _
            refine NoPanic.normal ?_
            clear lc lf ha
            have D1 := (Chg.below (g := wI.heap.size) (k := k) (v := v) (c := (.slice co2 cn2 cc2)) pE1).trans P1.chg
            have N3 := P1.nb
            have KF3 := KF2.chg D1
            have B3 := B2.trans ((pE1.mono B2.size).trans P1.below)
            have LF3 := LF2.chg D1
            obtain ⟨W3, hW2⟩ : ∃ W2, W2 = W1.setCell ⟨wI.heap.size, 1, none⟩ (.slice ko2 kn2 kc2) := ⟨_, rfl⟩
            rw [← hW2] at N3 KF3 B3 LF3 ⊢
            clear hW2
            go_wp2
            have rE0 : Below W3.heap.size W3 W3.drew := (Below.refl _ _).drew
            refine wp_region_noPanic ?_
            refine wp_region_held_drew (S := fun _ => True) (by kernel_rfl) trivial (fun _ => ?_)
            obtain ⟨rv0, hv0⟩ : ∃ v, v = W3.drew := ⟨_, rfl⟩
            rw [← hv0] at rE0 ⊢
            clear hv0
            refine hr_take_w 0 (some 75) (.pointer (some ⟨wI.heap.size, 0, none⟩)) rfl rfl (by kernel_rfl) (by kernel_rfl) (by kernel_rfl) rfl (fun W hW => by go_simp) trivial ?_
            simp only [Act.put, List.setIfInBounds_toArray, List.set_cons_zero, List.set_cons_succ]
            refine hr_take_w 1 (some 76) (.pointer (some ⟨wI.heap.size, 0, none⟩)) rfl rfl (by kernel_rfl) (by kernel_rfl) (by kernel_rfl) rfl (fun W hW => by go_simp) trivial ?_
            simp only [Act.put, List.setIfInBounds_toArray, List.set_cons_zero, List.set_cons_succ]
            refine hr_take_w 2 (some 77) (.pointer (some ⟨wI.heap.size, 0, none⟩)) rfl rfl (by kernel_rfl) (by kernel_rfl) (by kernel_rfl) rfl (fun W hW => by go_simp) trivial ?_
            simp only [Act.put, List.setIfInBounds_toArray, List.set_cons_zero, List.set_cons_succ]
            refine hr_take_w 3 (some 78) (.pointer (some ⟨wI.heap.size, 2, none⟩)) rfl rfl (by kernel_rfl) (by kernel_rfl) (by kernel_rfl) rfl (fun W hW => by go_simp) trivial ?_
            simp only [Act.put, List.setIfInBounds_toArray, List.set_cons_zero, List.set_cons_succ]
            refine hr_take_w 5 (some 80) (.pointer (some ⟨wr.heap.size, 2, none⟩)) rfl rfl (by kernel_rfl) (by kernel_rfl) (by kernel_rfl) rfl (fun W hW => by go_simp) trivial ?_
            simp only [Act.put, List.setIfInBounds_toArray, List.set_cons_zero, List.set_cons_succ]
            refine wpAnyH_effto 4 (fun zi zv zw => (zi = 4 → zv = v) ∧ (zi = 6 → zv = .slice q.v.ao q.v.n q.v.cap) ∧ (zi = 7 → ∃ g1, zv = .slice (some ⟨g1, 0, none⟩) 1 1 ∧ VL zw (some ⟨g1, 0, none⟩) 1 1 [.slice q.v.ao q.v.n q.v.cap])) [(4, 79), (6, 81), (7, 82)] 103 (by kernel_rfl) (by decide) (by decide) rfl ?_ (fun _ _ => trivial) ?_ ?_
            · intro zi v w w' h hb
              refine ⟨fun e => ?_, fun e => ?_, fun e => ?_⟩
              · have h := h.1 e
                exact h
              · have h := h.2.1 e
                exact h
              · have h := h.2.2 e
                obtain ⟨g1, h1, h2⟩ := h
                exact ⟨g1, h1, h2.below hb⟩
            · intro zp zhi o a w ho hs hb hdep
              have rEB := rE0.trans (hb.mono rE0.size)
              simp only [List.mem_cons, List.not_mem_nil, or_false] at zhi
              rcases zhi with rfl | rfl | rfl
              · obtain rfl : _ = o := Option.some.inj (show some _ = some o from ho)
                have t78 : a.tmps[78]? = some (.pointer (some ⟨wI.heap.size, 2, none⟩)) := hs.get 78 (by kernel_rfl) rfl
                have N' := N3.below rEB
                have lc := N'.arr.cell 2
                exact .inl ⟨v, w, by go_simp, ⟨fun _ => rfl, fun e => absurd e (by decide), fun e => absurd e (by decide)⟩, Below.refl _ _⟩
              · obtain rfl : _ = o := Option.some.inj (show some _ = some o from ho)
                have t80 : a.tmps[80]? = some (.pointer (some ⟨wr.heap.size, 2, none⟩)) := hs.get 80 (by kernel_rfl) rfl
                have lc := (LF3.lf.below rEB).c2
                exact .inl ⟨.slice q.v.ao q.v.n q.v.cap, w, by go_simp, ⟨fun e => absurd e (by decide), fun _ => rfl, fun e => absurd e (by decide)⟩, Below.refl _ _⟩
              · obtain rfl : _ = o := Option.some.inj (show some _ = some o from ho)
                obtain ⟨x81, t81, f81⟩ := (hdep 6 (by kernel_rfl)).at 81 (by kernel_rfl)
                replace f81 := f81.2.1 rfl
                subst f81
                exact .inl ⟨_, _, by go_simp, ⟨fun e => absurd e (by decide), fun e => absurd e (by decide), fun _ => ⟨_, rfl, VL.new w [.slice q.v.ao q.v.n q.v.cap] 23 (by simp [maxLen])⟩⟩, (Below.refl _ _).alloc (Nat.le_refl _) _⟩
            intro zf rv1 hb hh
            have rE1 := rE0.trans (hb.mono rE0.size)
            obtain e4 := (hh (4, 79) (by simp)).1 rfl
            obtain e6 := (hh (6, 81) (by simp)).2.1 rfl
            obtain ⟨g1, e7, G1⟩ := (hh (7, 82) (by simp)).2.2 rfl
            clear hh hb
            simp only [putL, List.foldl_cons, List.foldl_nil, e4, e6, e7]
            clear e4 e6 e7
            simp only [Act.put, List.setIfInBounds_toArray, List.set_cons_zero, List.set_cons_succ]
            have N1 := N3.below rE1
            obtain ⟨x2, W1, ha, P1⟩ := N1.appV (by decide) (by decide) (ty := 22) (u := .slice q.v.ao q.v.n q.v.cap) G1 rfl (by rw [List.length_map]; have := HXL.out; omega)
            obtain ⟨vo2, vn2, vc2, rfl⟩ := row_slice P1.nb.ov
            refine hr_ex 8 (some 83) rfl rfl (by kernel_rfl) rfl (R := fun v w' => (.slice vo2 vn2 vc2) = v ∧ W1 = w') ⟨_, W1, by simp [execOp, Act.eval, resolve, invoke, builtin, ha], rfl, rfl⟩ ?_
            rintro v w' ⟨rfl, rfl⟩
            refine ⟨trivial, ?_⟩
            simp only [Act.put, List.setIfInBounds_toArray, List.set_cons_zero, List.set_cons_succ]
            refine hr_take_w 9 (some 84) (.pointer (some ⟨wI.heap.size, 0, none⟩)) rfl rfl (by kernel_rfl) (by kernel_rfl) (by kernel_rfl) rfl (fun W hW => by go_simp) trivial ?_
            simp only [Act.put, List.setIfInBounds_toArray, List.set_cons_zero, List.set_cons_succ]
            refine hr_take_w 10 (some 85) (.pointer (some ⟨wI.heap.size, 2, none⟩)) rfl rfl (by kernel_rfl) (by kernel_rfl) (by kernel_rfl) rfl (fun W hW => by go_simp) trivial ?_
            simp only [Act.put, List.setIfInBounds_toArray, List.set_cons_zero, List.set_cons_succ]
            have lc := P1.arr.cell 2
            have lf := P1.arr.free 2
            refine hr_skip 11 none (w' := W1.setCell ⟨wI.heap.size, 2, none⟩ (.slice vo2 vn2 vc2)) rfl rfl (by kernel_rfl) rfl (by go_simp) trivial ?_
            simp only [Act.put]
            refine wpAnyH_done (by kernel_rfl) ?_ _
            refine NoPanic.normal ?_
            clear lc lf ha
            have D1 := (Chg.below (g := wI.heap.size) (k := (.slice ko2 kn2 kc2)) (v := v) (c := (.slice co2 cn2 cc2)) rE1).trans P1.chg
            have N4 := P1.nb
            have KF4 := KF3.chg D1
            have B4 := B3.trans ((rE1.mono B3.size).trans P1.below)
            have LF4 := LF3.chg D1
            obtain ⟨W4, hW2⟩ : ∃ W2, W2 = W1.setCell ⟨wI.heap.size, 2, none⟩ (.slice vo2 vn2 vc2) := ⟨_, rfl⟩
            rw [← hW2] at N4 KF4 B4 LF4 ⊢
            clear hW2
            go_wp2
            go_roundw
            case rel =>
              have HT := HP.take (by rw [List.length_map]; omega) (by rw [HQI.out]; show lev q.k.xs = M; rw [← hqo.2.2]; exact HLV.out)
              refine ⟨ii + 1, ii + 1, (.slice ko2 kn2 kc2), (.slice vo2 vn2 vc2), (.slice co2 cn2 cc2), ks ++ [q.k], vs ++ [q.v], us ++ [.pointer po], _, _, by go_num, by go_num, ?_, B4, HT, ?_, ?_, ?_, ?_, ?_⟩
              · rw [List.map_append, List.map_append]
                exact N4
              · rw [List.map_append, List.map_append, HEK.out, HQI.out]
                rfl
              · rw [List.map_append, List.map_append, HEV.out, HQI.out]
                rfl
              · rw [← List.map_take, ← List.map_drop]
                exact KF4
              · intro y hy
                rcases List.mem_append.1 hy with hy | hy
                · exact HSK.out y hy
                · rw [List.mem_singleton.1 hy]; exact hqo.1
              · intro y hy
                rcases List.mem_append.1 hy with hy | hy
                · exact HSV.out y hy
                · rw [List.mem_singleton.1 hy]; exact hqo.2.1
            case measure => simp [intOf]; omega
          · have hlvb : ((q.L : Int) == (M : Int)) = false := by simp; omega
            have HLV : Hid (¬ q.L = M) := hlv
            clear hlv
            have tHS : Hid (∀ V, Below W.heap.size W V → V.cell? ⟨wr.heap.size, 0, none⟩ = some (.int .i64 (q.L : Nat)) ∧ V.cell? ⟨wI.heap.size, 0, none⟩ = some (.int .i64 (M : Nat))) := fun V hV => ⟨(hV.cell (World.block_lt_of_cell? _ _ lc0)).trans lc0, (hV.cell (World.block_lt_of_cell? _ _ lc3)).trans lc3⟩
            have tE0 : Below W.heap.size W W.drew := (Below.refl _ _).drew
            refine wp_region_noPanic ?_
            refine wp_region_held_drew (S := fun V => V.cell? ⟨wr.heap.size, 0, none⟩ = some (.int .i64 (q.L : Nat)) ∧ V.cell? ⟨wI.heap.size, 0, none⟩ = some (.int .i64 (M : Nat))) (by kernel_rfl) (tHS.out _ tE0) (fun tH0 => ?_)
            obtain ⟨tv0, hv0⟩ : ∃ v, v = W.drew := ⟨_, rfl⟩
            rw [← hv0] at tH0 tE0 ⊢
            clear hv0
            refine hr_take_w 0 (some 42) (.pointer (some ⟨wr.heap.size, 0, none⟩)) rfl rfl (by kernel_rfl) (by kernel_rfl) (by kernel_rfl) rfl (fun W hW => by obtain ⟨h0, h1⟩ := hW; go_simp) tH0 ?_
            simp only [Act.put, List.setIfInBounds_toArray, List.set_cons_zero, List.set_cons_succ]
            refine hr_take_w 1 (some 43) (.int .i64 (q.L : Nat)) rfl rfl (by kernel_rfl) (by kernel_rfl) (by kernel_rfl) rfl (fun W hW => by obtain ⟨h0, h1⟩ := hW; go_simp) tH0 ?_
            simp only [Act.put, List.setIfInBounds_toArray, List.set_cons_zero, List.set_cons_succ]
            refine hr_take_w 2 (some 44) (.pointer (some ⟨wI.heap.size, 0, none⟩)) rfl rfl (by kernel_rfl) (by kernel_rfl) (by kernel_rfl) rfl (fun W hW => by obtain ⟨h0, h1⟩ := hW; go_simp) tH0 ?_
            simp only [Act.put, List.setIfInBounds_toArray, List.set_cons_zero, List.set_cons_succ]
            refine hr_take_w 3 (some 45) (.pointer (some ⟨wI.heap.size, 0, none⟩)) rfl rfl (by kernel_rfl) (by kernel_rfl) (by kernel_rfl) rfl (fun W hW => by obtain ⟨h0, h1⟩ := hW; go_simp) tH0 ?_
            simp only [Act.put, List.setIfInBounds_toArray, List.set_cons_zero, List.set_cons_succ]
            refine hr_take_w 4 (some 46) (.pointer (some ⟨wI.heap.size, 0, none⟩)) rfl rfl (by kernel_rfl) (by kernel_rfl) (by kernel_rfl) rfl (fun W hW => by obtain ⟨h0, h1⟩ := hW; go_simp) tH0 ?_
            simp only [Act.put, List.setIfInBounds_toArray, List.set_cons_zero, List.set_cons_succ]
            refine hr_take_w 5 (some 47) (.int .i64 (M : Nat)) rfl rfl (by kernel_rfl) (by kernel_rfl) (by kernel_rfl) rfl (fun W hW => by obtain ⟨h0, h1⟩ := hW; go_simp) tH0 ?_
            simp only [Act.put, List.setIfInBounds_toArray, List.set_cons_zero, List.set_cons_succ]
            refine hr_take_w 6 (some 48) (.bool false) rfl rfl (by kernel_rfl) (by kernel_rfl) (by kernel_rfl) rfl (fun W hW => by obtain ⟨h0, h1⟩ := hW; go_simp) tH0 ?_
            simp only [Act.put, List.setIfInBounds_toArray, List.set_cons_zero, List.set_cons_succ]
            refine wpAnyH_done (by kernel_rfl) ?_ _
            refine NoPanic.normal ?_
            clear lc0 lc3 tHS tH0
            replace N := N.below tE0
            replace B := B.trans (tE0.mono B.size)
            replace KF := KF.chg (Chg.below tE0)
            go_wp2
            go_roundw
            case rel =>
              refine ⟨ii + 1, fr, _, _, _, ks, vs, us, segs, xs, by go_num, rfl, N, B, HP.skip (by rw [List.length_map]; omega) ?_, HEK.out, HEV.out, KF, HSK.out, HSV.out⟩
              rw [HQI.out]
              have h1 := hqo.2.2
              have h2 := HLV.out
              have h3 := HMX.out ii (by omega)
              rw [← HQ.out] at h3
              show lev q.k.xs < M
              omega
            case measure => simp [intOf]; omega
        · have hge : ¬ (ii : Int) < (n : Int) := by omega
          have hik : n = ii := by omega
          subst hik
          go_wp2
          have N := H.nb
          have B := H.b
          have KF := H.kf
          have HP := H.prt
          have hsl : segs.length ≤ n := H.prt.many
          have HAT : Hid (∃ x ∈ ls.map LP.it, lev x.k = M) := by
            obtain ⟨q, hq, hqM⟩ := HEX.out
            exact ⟨q.it, List.mem_map_of_mem hq, by rw [← hqM, (hok q hq).2.2]; rfl⟩
          have hln : (ls.map LP.it).length = n := by rw [List.length_map]; omega
          have hfr0 : 0 < fr := by
            rw [← hln] at HP
            exact HP.pos HAT.out
          have HXL : Hid (segs.length ≤ 50000) := by show _ ≤ _; omega
          clear hsl
          have E0 : Below wr.heap.size wr wr.drew := (Below.refl _ _).drew
          refine wp_region_noPanic ?_
          refine wp_region_held_drew (S := fun _ => True) (by kernel_rfl) trivial (fun _ => ?_)
          obtain ⟨v0, hv0⟩ : ∃ v, v = wr.drew := ⟨_, rfl⟩
          rw [← hv0] at E0 ⊢
          clear hv0
          refine hr_take_w 0 (some 89) (.pointer (some ⟨wI.heap.size, 0, none⟩)) rfl rfl (by kernel_rfl) (by kernel_rfl) (by kernel_rfl) rfl (fun W hW => by go_simp) trivial ?_
          simp only [Act.put, List.setIfInBounds_toArray, List.set_cons_zero, List.set_cons_succ]
          refine hr_take_w 1 (some 90) (.pointer (some ⟨wI.heap.size, 0, none⟩)) rfl rfl (by kernel_rfl) (by kernel_rfl) (by kernel_rfl) rfl (fun W hW => by go_simp) trivial ?_
          simp only [Act.put, List.setIfInBounds_toArray, List.set_cons_zero, List.set_cons_succ]
          refine hr_take_w 2 (some 91) (.pointer (some ⟨wI.heap.size, 0, none⟩)) rfl rfl (by kernel_rfl) (by kernel_rfl) (by kernel_rfl) rfl (fun W hW => by go_simp) trivial ?_
          simp only [Act.put, List.setIfInBounds_toArray, List.set_cons_zero, List.set_cons_succ]
          refine hr_take_w 3 (some 92) (.pointer (some ⟨wI.heap.size, 3, none⟩)) rfl rfl (by kernel_rfl) (by kernel_rfl) (by kernel_rfl) rfl (fun W hW => by go_simp) trivial ?_
          simp only [Act.put, List.setIfInBounds_toArray, List.set_cons_zero, List.set_cons_succ]
          refine hr_take_w 5 (some 94) (.slice (some ⟨b, off, none⟩) n cap) rfl rfl (by kernel_rfl) (by kernel_rfl) (by kernel_rfl) rfl (fun W hW => by go_simp) trivial ?_
          simp only [Act.put, List.setIfInBounds_toArray, List.set_cons_zero, List.set_cons_succ]
          refine hr_take_w 6 (some 95) (.int .i64 (fr : Nat)) rfl rfl (by kernel_rfl) (by kernel_rfl) (by kernel_rfl) rfl (fun W hW => by go_simp) trivial ?_
          simp only [Act.put, List.setIfInBounds_toArray, List.set_cons_zero, List.set_cons_succ]
          refine hr_take_w 7 (some 96) (.slice (bk3 (some ⟨b, off, none⟩) cap fr) (n - fr) (cap - fr)) rfl rfl (by kernel_rfl) (by kernel_rfl) (by kernel_rfl) rfl (fun W hW => by simp [execOp, Act.eval, run_back3 (W := W) (cap := cap) hfr]) trivial ?_
          simp only [Act.put, List.setIfInBounds_toArray, List.set_cons_zero, List.set_cons_succ]
          refine wpAnyH_effto 4 (fun zi zv zw => (zi = 4 → zv = c) ∧ (zi = 8 → ∃ po, zv = .pointer po ∧ Far zw w0.heap.size wI.heap.size wI.heap.size k v c fun x => T x (.pointer po) (((ls.take n).drop fr).map LP.it)) ∧ (zi = 9 → ∃ po g1, zv = .slice (some ⟨g1, 0, none⟩) 1 1 ∧ VL zw (some ⟨g1, 0, none⟩) 1 1 [.pointer po] ∧ Far zw w0.heap.size wI.heap.size wI.heap.size k v c fun x => T x (.pointer po) (((ls.take n).drop fr).map LP.it))) [(4, 93), (8, 97), (9, 98)] 103 (by kernel_rfl) (by decide) (by decide) rfl ?_ (fun _ _ => trivial) ?_ ?_
          · intro zi v w w' h hb
            refine ⟨fun e => ?_, fun e => ?_, fun e => ?_⟩
            · have h := h.1 e
              exact h
            · have h := h.2.1 e
              obtain ⟨po, h1, h2⟩ := h
              exact ⟨po, h1, h2.chg (Chg.below hb)⟩
            · have h := h.2.2 e
              obtain ⟨po, g1, h1, h2, h3⟩ := h
              exact ⟨po, g1, h1, h2.below hb, h3.chg (Chg.below hb)⟩
          · intro zp zhi o a w ho hs hb hdep
            have EB := E0.trans (hb.mono E0.size)
            simp only [List.mem_cons, List.not_mem_nil, or_false] at zhi
            rcases zhi with rfl | rfl | rfl
            · obtain rfl : _ = o := Option.some.inj (show some _ = some o from ho)
              have t92 : a.tmps[92]? = some (.pointer (some ⟨wI.heap.size, 3, none⟩)) := hs.get 92 (by kernel_rfl) rfl
              have N' := N.below EB
              have lc := N'.arr.cell 3
              exact .inl ⟨c, w, by go_simp, ⟨fun _ => rfl, fun e => absurd e (by decide), fun e => absurd e (by decide)⟩, Below.refl _ _⟩
            · obtain rfl : _ = o := Option.some.inj (show some _ = some o from ho)
              have t96 : a.tmps[96]? = some (.slice (bk3 (some ⟨b, off, none⟩) cap fr) (n - fr) (cap - fr)) := hs.get 96 (by kernel_rfl) rfl
              have N' := N.below EB
              have BB := B.trans (EB.mono B.size)
              have hsz := BB.size
              have CS := ih (n - fr) (by omega) w (bk3 (some ⟨b, off, none⟩) cap fr) (n - fr) (cap - fr) ((ls.take n).drop fr) ((hL.part hfr (Nat.le_refl n) hL.le (Nat.le_refl cap)).below BB) (fun y hy => hok y (List.mem_of_mem_take (List.mem_of_mem_drop hy))) (h0.trans (BB.mono h0.size)) (by omega) (by omega)
              refine .inr ⟨36, #[.slice (bk3 (some ⟨b, off, none⟩) cap fr) (n - fr) (cap - fr)], by go_simp, CS.mono ?_⟩
              rintro e w' ⟨po, rfl, O, C⟩
              exact ⟨_, rfl, ⟨fun e => absurd e (by decide), fun _ => ⟨po, rfl, O.far hsz (fun x hx => N'.offLow (by have := h0.size; omega)) (fun x hx => N'.offNew hx)⟩, fun e => absurd e (by decide)⟩, C⟩
            · obtain rfl : _ = o := Option.some.inj (show some _ = some o from ho)
              obtain ⟨x97, t97, f97⟩ := (hdep 8 (by kernel_rfl)).at 97 (by kernel_rfl)
              replace f97 := f97.2.1 rfl
              obtain ⟨po, rfl, T1⟩ := f97
              have CA : Below w.heap.size w (w.alloc (.cells #[.pointer po] 56)) := (Below.refl _ _).alloc (Nat.le_refl _) _
              exact .inl ⟨_, _, by go_simp, ⟨fun e => absurd e (by decide), fun e => absurd e (by decide), fun _ => ⟨po, _, rfl, VL.new w [.pointer po] 56 (by simp [maxLen]), T1.chg (Chg.below CA)⟩⟩, CA⟩
          intro zf v1 hb hh
          have E1 := E0.trans (hb.mono E0.size)
          obtain e4 := (hh (4, 93) (by simp)).1 rfl
          obtain ⟨po, g1, e9, G1, T1⟩ := (hh (9, 98) (by simp)).2.2 rfl
          clear hh hb
          simp only [putL, List.foldl_cons, List.foldl_nil, e4, e9]
          clear e4 e9
          simp only [Act.put, List.setIfInBounds_toArray, List.set_cons_zero, List.set_cons_succ]
          have N1 := N.below E1
          have D1 : Chg wr v1 wI.heap.size k v c k v c := Chg.below E1
          have KF1 := (KF.chg D1).app T1
          obtain ⟨c2, W1, ha, P1⟩ := N1.appC (by decide) (by decide) (ps := 97) (ty := 97) Tryz.underlying97 ninfo G1 rfl (by rw [KF.len]; have := HXL.out; omega)
          obtain ⟨co2, cn2, cc2, rfl⟩ := row_slice P1.nb.oc
          refine hr_ex 10 (some 99) rfl rfl (by kernel_rfl) rfl (R := fun v w' => (.slice co2 cn2 cc2) = v ∧ W1 = w') ⟨_, W1, by simp [execOp, Act.eval, resolve, invoke, builtin, ha], rfl, rfl⟩ ?_
          rintro v w' ⟨rfl, rfl⟩
          refine ⟨trivial, ?_⟩
          simp only [Act.put, List.setIfInBounds_toArray, List.set_cons_zero, List.set_cons_succ]
          refine hr_take_w 11 (some 100) (.pointer (some ⟨wI.heap.size, 0, none⟩)) rfl rfl (by kernel_rfl) (by kernel_rfl) (by kernel_rfl) rfl (fun W hW => by go_simp) trivial ?_
          simp only [Act.put, List.setIfInBounds_toArray, List.set_cons_zero, List.set_cons_succ]
          refine hr_take_w 12 (some 101) (.pointer (some ⟨wI.heap.size, 3, none⟩)) rfl rfl (by kernel_rfl) (by kernel_rfl) (by kernel_rfl) rfl (fun W hW => by go_simp) trivial ?_
          simp only [Act.put, List.setIfInBounds_toArray, List.set_cons_zero, List.set_cons_succ]
          have lc := P1.arr.cell 3
          have lf := P1.arr.free 3
          refine hr_skip 13 none (w' := W1.setCell ⟨wI.heap.size, 3, none⟩ (.slice co2 cn2 cc2)) rfl rfl (by kernel_rfl) rfl (by go_simp) trivial ?_
          simp only [Act.put]
          refine wpAnyH_done (by kernel_rfl) ?_ _
          refine NoPanic.normal ?_
          clear lc lf ha
          have N2 := P1.nb
          have KF2 := KF1.chg P1.chg
          have B2 := B.trans ((E1.mono B.size).trans P1.below)
          obtain ⟨W2, hW2⟩ : ∃ W2, W2 = W1.setCell ⟨wI.heap.size, 3, none⟩ (.slice co2 cn2 cc2) := ⟨_, rfl⟩
          rw [← hW2] at N2 KF2 B2 ⊢
          clear hW2
          go_wp2
          go_ret
          refine ⟨_, rfl, ?_, B2⟩
          have hm := h0.size
          have hD := HP
          rw [← hln] at hD
          refine N2.onT (Nat.le_trans hm B2.size) (fun b hb => (B2.block b (by omega)).trans (h0.block b hb)) H.sk H.sv (hD.done HAT.out) H.ek H.ev ?_
          rw [List.take_of_length_le (by omega), List.map_drop] at KF2
          exact KF2
end Go.Proofs.YtkmkmekhodcioaaGreatDoor

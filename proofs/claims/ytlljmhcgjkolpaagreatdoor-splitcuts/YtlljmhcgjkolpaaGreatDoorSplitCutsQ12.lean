/-
  Texts in one: PCut7.
-/
import Derived.Test.YtlljmhcgjkolpaaGreatDoorSplitCutsQFL
import Derived.Test.YtlljmhcgjkolpaaGreatDoorSplitCutsQ11
import Derived.Test.YtlljmhcgjkolpaaGreatDoorSplitCutsQ3
namespace Go.Proofs.YtlljmhcgjkolpaaGreatDoor
open Go.RowKit
def RetT2 (w : World) (l1 l2 : List It) (e : Ending) (w' : World) : Prop := ∃ u v, e = .returned (.tuple #[u, v]) ∧ T w' u l1 ∧ T w' v l2 ∧ Below w.heap.size w w'
set_option maxHeartbeats 4000000 in
set_option maxRecDepth 100000 in
theorem cut_fuel : ∀ (N : Nat) (w : World) (v : Value) (l : List It) (xo : Option Addr) (m xc : Nat) (key : List Int), l.length ≤ N → T w v l → Srt l → ¬ has key l → Sl w xo m xc key → l.length ≤ 100000 →
    Calls Tryz.prog 135 #[v, .slice xo m xc] w (RetT2 w (lo key l) (hi key l)) := by
  intro N
  induction N with
  | zero =>
    intro w v l xo m xc key hN hT hs hk hx hn
    obtain rfl : l = [] := List.eq_nil_of_length_eq_zero (by omega)
    rcases hT.is with ⟨-, rfl⟩ | ⟨d, segs, xs, rfl, hNd⟩
    · go_enter Tryz.func135, Tryz.ntmps135
      go_wp2
      go_ret2
      exact ⟨_, _, rfl, T.nil _, T.nil _, Below.refl _ _⟩
    · have h0 := hNd.shp.pos
      have := hNd.shp.key xs[0] (List.getElem_mem h0)
      simp at this
  | succ N ih =>
    intro w v l xo m xc key hN hT hs hk hx hn
    rcases hT.is with ⟨rfl, rfl⟩ | ⟨d, segs, xs, rfl, h⟩
    · go_enter Tryz.func135, Tryz.ntmps135
      go_wp2
      go_ret2
      exact ⟨_, _, rfl, T.nil _, T.nil _, Below.refl _ _⟩
    · have hm := h.many
      have hnk1 := Nat.le_of_eq h.nk
      have hnk2 := Nat.le_of_eq h.nk.symm
      have hnv1 := Nat.le_of_eq h.nv
      have hnv2 := Nat.le_of_eq h.nv.symm
      have hnc1 := Nat.le_of_eq h.nc
      have hnc2 := Nat.le_of_eq h.nc.symm
      have hpos := h.shp.pos
      have CP := place_any w d h.ok xo m xc key hx (h.rise hs) (by omega)
      unfold Nd.ptr at CP ⊢
      go_enter Tryz.func135, Tryz.ntmps135
      go_wp2_with fail
      refine CP.mono ?_
      rintro e w1 ⟨i, b, rfl, hat, B1⟩
      clear CP
      obtain ⟨s, A, B, c, hA, hB, hB2, hf⟩ := h.found hs hat
      cases b with
      | true =>
        obtain ⟨hi, he⟩ := hf rfl
        exact absurd ⟨xs[i], h.shp.key _ (List.getElem_mem hi), he⟩ hk
      | false =>
      have hB3 := hB2 rfl
      have hlo : Hid (lo key l = A ++ lo key s) := by show _ = _; rw [c.el]; exact lo_mid hA hB
      have hhi : Hid (hi key l = hi key s ++ B) := by show _ = _; rw [c.el]; exact hi_mid hA hB3
      have hle := c.le
      have N1 := h.below B1
      have x1 := hx.below B1
      obtain ⟨kb, ko, s', u, eco, hs1, hs2, hcell, hTk, hlen⟩ := N1.kidAt i hle
      obtain rfl : s = s' := Option.some.inj (c.seg.symm.trans hs1)
      have CI := ih w1 u s xo m xc key (by omega) hTk (by rw [c.el] at hs; exact hs.app.2.1.app.1) (fun ⟨y, hy, he⟩ => hk ⟨y, h.shp.seg _ (List.mem_of_getElem? c.seg) y hy, he⟩) x1 (by omega)
      have c3 := N1.ok.c3
      rw [eco] at c3
      have hii : (i : Int) < (d.cs.length : Int) := by omega
      go_wp2_with fail
      refine CI.mono ?_
      rintro e w2 ⟨u1, u2, rfl, T1, T2, B2'⟩
      have B2 : Below w.heap.size w w2 := B1.trans (B2'.mono B1.size)
      have N2 := h.below B2
      obtain ⟨p1, rfl⟩ := T1.ptr
      obtain ⟨p2, rfl⟩ := T2.ptr
      clear CI c3 hcell x1 N1 B2' hs1 hs2 hTk eco
      have kle := h.ok.kl.vl.le
      have vle := h.ok.vl.vl.le
      have cle := h.ok.cl.le
      have FK : ∀ W, _ := fun W => run_front (P := Tryz.prog) (W := W) (t := 99) (ao := d.ko) (n := d.ks.length) (cap := d.kc) (i := i) (c := i) Tryz.underlying99 (Nat.le_refl _) (by omega) ksize
      have FV : ∀ W, _ := fun W => run_front (P := Tryz.prog) (W := W) (t := 99) (ao := d.vo) (n := d.vs.length) (cap := d.vc) (i := i) (c := i) Tryz.underlying99 (Nat.le_refl _) (by omega) ksize
      have FC : ∀ W, _ := fun W => run_upto (P := Tryz.prog) (W := W) (t := 174) (ao := d.co) (n := d.cs.length) (cap := d.cc) (i := i) Tryz.underlying174 (by omega) nsize
      have GK : ∀ W, _ := fun W => run_back (P := Tryz.prog) (W := W) (t := 99) (ao := d.ko) (n := d.ks.length) (cap := d.kc) (j := i) Tryz.underlying99 (by omega) ksize
      have GV : ∀ W, _ := fun W => run_back (P := Tryz.prog) (W := W) (t := 99) (ao := d.vo) (n := d.vs.length) (cap := d.vc) (j := i) Tryz.underlying99 (by omega) ksize
      have GC : ∀ W, _ := fun W => run_back (P := Tryz.prog) (W := W) (t := 174) (ao := d.co) (n := d.cs.length) (cap := d.cc) (j := i) Tryz.underlying174 (by omega) nsize
      have c1 := N2.ok.c1
      by_cases hi0 : 0 < i
      · have hi0' : (0 : Int) < (i : Int) := by omega
        go_wp2_with fail
        have aHS : Hid (∀ V, Below w2.heap.size w2 V → V.cell? ⟨d.b, 0, none⟩ = some (.int .i64 d.L) ∧ V.cell? ⟨d.b, 1, none⟩ = some (.slice d.ko d.ks.length d.kc) ∧ V.cell? ⟨d.b, 2, none⟩ = some (.slice d.vo d.vs.length d.vc) ∧ V.cell? ⟨d.b, 3, none⟩ = some (.slice d.co d.cs.length d.cc)) := fun V hV => ⟨(N2.ok.below hV).c0, (N2.ok.below hV).c1, (N2.ok.below hV).c2, (N2.ok.below hV).c3⟩
        have aE0 : Below w2.heap.size w2 w2.drew := (Below.refl _ _).drew
        refine wp_region_noPanic ?_
        refine wp_region_held_drew (S := fun V => V.cell? ⟨d.b, 0, none⟩ = some (.int .i64 d.L) ∧ V.cell? ⟨d.b, 1, none⟩ = some (.slice d.ko d.ks.length d.kc) ∧ V.cell? ⟨d.b, 2, none⟩ = some (.slice d.vo d.vs.length d.vc) ∧ V.cell? ⟨d.b, 3, none⟩ = some (.slice d.co d.cs.length d.cc)) (by kernel_rfl) (aHS.out _ aE0) (fun aH0 => ?_)
        obtain ⟨av0, hv0⟩ : ∃ v, v = w2.drew := ⟨_, rfl⟩
        rw [← hv0] at aH0 aE0 ⊢
        clear hv0
        refine hr_take_w 0 (some 30) (.pointer (some ⟨d.b, 0, none⟩)) rfl rfl (by kernel_rfl) (by kernel_rfl) (by kernel_rfl) rfl (fun W hW => by obtain ⟨h0, h1, h2, h3⟩ := hW; go_simp) aH0 ?_
        simp only [FL]
        refine hr_take_w 1 (some 31) (.pointer (some ⟨d.b, 0, none⟩)) rfl rfl (by kernel_rfl) (by kernel_rfl) (by kernel_rfl) rfl (fun W hW => by obtain ⟨h0, h1, h2, h3⟩ := hW; go_simp) aH0 ?_
        simp only [FL]
        refine hr_take_w 2 (some 32) (.pointer (some ⟨d.b, 0, none⟩)) rfl rfl (by kernel_rfl) (by kernel_rfl) (by kernel_rfl) rfl (fun W hW => by obtain ⟨h0, h1, h2, h3⟩ := hW; go_simp) aH0 ?_
        simp only [FL]
        refine hr_take_w 3 (some 33) (.int .i64 d.L) rfl rfl (by kernel_rfl) (by kernel_rfl) (by kernel_rfl) rfl (fun W hW => by obtain ⟨h0, h1, h2, h3⟩ := hW; go_simp) aH0 ?_
        simp only [FL]
        refine hr_take_w 4 (some 34) (.pointer (some ⟨d.b, 0, none⟩)) rfl rfl (by kernel_rfl) (by kernel_rfl) (by kernel_rfl) rfl (fun W hW => by obtain ⟨h0, h1, h2, h3⟩ := hW; go_simp) aH0 ?_
        simp only [FL]
        refine hr_take_w 5 (some 35) (.pointer (some ⟨d.b, 0, none⟩)) rfl rfl (by kernel_rfl) (by kernel_rfl) (by kernel_rfl) rfl (fun W hW => by obtain ⟨h0, h1, h2, h3⟩ := hW; go_simp) aH0 ?_
        simp only [FL]
        refine hr_take_w 6 (some 36) (.pointer (some ⟨d.b, 1, none⟩)) rfl rfl (by kernel_rfl) (by kernel_rfl) (by kernel_rfl) rfl (fun W hW => by obtain ⟨h0, h1, h2, h3⟩ := hW; go_simp) aH0 ?_
        simp only [FL]
        refine hr_take_w 7 (some 37) (.slice d.ko d.ks.length d.kc) rfl rfl (by kernel_rfl) (by kernel_rfl) (by kernel_rfl) rfl (fun W hW => by obtain ⟨h0, h1, h2, h3⟩ := hW; go_simp) aH0 ?_
        simp only [FL]
        refine hr_take_w 8 (some 38) (.int .i64 i) rfl rfl (by kernel_rfl) (by kernel_rfl) (by kernel_rfl) rfl (fun W hW => by obtain ⟨h0, h1, h2, h3⟩ := hW; go_simp) aH0 ?_
        simp only [FL]
        refine hr_take_w 9 (some 39) (.int .i64 i) rfl rfl (by kernel_rfl) (by kernel_rfl) (by kernel_rfl) rfl (fun W hW => by obtain ⟨h0, h1, h2, h3⟩ := hW; go_simp) aH0 ?_
        simp only [FL]
        refine hr_take_w 10 (some 40) (.slice d.ko i i) rfl rfl (by kernel_rfl) (by kernel_rfl) (by kernel_rfl) rfl (fun W hW => by obtain ⟨h0, h1, h2, h3⟩ := hW; simp [execOp, Act.eval, FK]) aH0 ?_
        simp only [FL]
        refine hr_take_w 11 (some 41) (.pointer (some ⟨d.b, 0, none⟩)) rfl rfl (by kernel_rfl) (by kernel_rfl) (by kernel_rfl) rfl (fun W hW => by obtain ⟨h0, h1, h2, h3⟩ := hW; go_simp) aH0 ?_
        simp only [FL]
        refine hr_take_w 12 (some 42) (.pointer (some ⟨d.b, 0, none⟩)) rfl rfl (by kernel_rfl) (by kernel_rfl) (by kernel_rfl) rfl (fun W hW => by obtain ⟨h0, h1, h2, h3⟩ := hW; go_simp) aH0 ?_
        simp only [FL]
        refine hr_take_w 13 (some 43) (.pointer (some ⟨d.b, 2, none⟩)) rfl rfl (by kernel_rfl) (by kernel_rfl) (by kernel_rfl) rfl (fun W hW => by obtain ⟨h0, h1, h2, h3⟩ := hW; go_simp) aH0 ?_
        simp only [FL]
        refine hr_take_w 14 (some 44) (.slice d.vo d.vs.length d.vc) rfl rfl (by kernel_rfl) (by kernel_rfl) (by kernel_rfl) rfl (fun W hW => by obtain ⟨h0, h1, h2, h3⟩ := hW; go_simp) aH0 ?_
        simp only [FL]
        refine hr_take_w 15 (some 45) (.int .i64 i) rfl rfl (by kernel_rfl) (by kernel_rfl) (by kernel_rfl) rfl (fun W hW => by obtain ⟨h0, h1, h2, h3⟩ := hW; go_simp) aH0 ?_
        simp only [FL]
        refine hr_take_w 16 (some 46) (.int .i64 i) rfl rfl (by kernel_rfl) (by kernel_rfl) (by kernel_rfl) rfl (fun W hW => by obtain ⟨h0, h1, h2, h3⟩ := hW; go_simp) aH0 ?_
        simp only [FL]
        refine hr_take_w 17 (some 47) (.slice d.vo i i) rfl rfl (by kernel_rfl) (by kernel_rfl) (by kernel_rfl) rfl (fun W hW => by obtain ⟨h0, h1, h2, h3⟩ := hW; simp [execOp, Act.eval, FV]) aH0 ?_
        simp only [FL]
        refine hr_take_w 18 (some 48) (.pointer (some ⟨d.b, 0, none⟩)) rfl rfl (by kernel_rfl) (by kernel_rfl) (by kernel_rfl) rfl (fun W hW => by obtain ⟨h0, h1, h2, h3⟩ := hW; go_simp) aH0 ?_
        simp only [FL]
        refine hr_take_w 19 (some 49) (.pointer (some ⟨d.b, 0, none⟩)) rfl rfl (by kernel_rfl) (by kernel_rfl) (by kernel_rfl) rfl (fun W hW => by obtain ⟨h0, h1, h2, h3⟩ := hW; go_simp) aH0 ?_
        simp only [FL]
        refine hr_take_w 20 (some 50) (.pointer (some ⟨d.b, 3, none⟩)) rfl rfl (by kernel_rfl) (by kernel_rfl) (by kernel_rfl) rfl (fun W hW => by obtain ⟨h0, h1, h2, h3⟩ := hW; go_simp) aH0 ?_
        simp only [FL]
        refine hr_take_w 21 (some 51) (.slice d.co d.cs.length d.cc) rfl rfl (by kernel_rfl) (by kernel_rfl) (by kernel_rfl) rfl (fun W hW => by obtain ⟨h0, h1, h2, h3⟩ := hW; go_simp) aH0 ?_
        simp only [FL]
        refine hr_take_w 22 (some 52) (.int .i64 i) rfl rfl (by kernel_rfl) (by kernel_rfl) (by kernel_rfl) rfl (fun W hW => by obtain ⟨h0, h1, h2, h3⟩ := hW; go_simp) aH0 ?_
        simp only [FL]
        refine hr_take_w 23 (some 53) (.slice d.co i d.cc) rfl rfl (by kernel_rfl) (by kernel_rfl) (by kernel_rfl) rfl (fun W hW => by obtain ⟨h0, h1, h2, h3⟩ := hW; simp [execOp, Act.eval, FC]) aH0 ?_
        simp only [FL]
        refine hr_take_w 24 (some 54) (.int .i64 i) rfl rfl (by kernel_rfl) (by kernel_rfl) (by kernel_rfl) rfl (fun W hW => by obtain ⟨h0, h1, h2, h3⟩ := hW; go_simp) aH0 ?_
        simp only [FL]
        refine hr_take_w 25 (some 55) (.int .i64 i) rfl rfl (by kernel_rfl) (by kernel_rfl) (by kernel_rfl) rfl (fun W hW => by obtain ⟨h0, h1, h2, h3⟩ := hW; go_simp) aH0 ?_
        simp only [FL]
        refine hr_take_w 26 (some 56) (.pointer p1) rfl rfl (by kernel_rfl) (by kernel_rfl) (by kernel_rfl) rfl (fun W hW => by obtain ⟨h0, h1, h2, h3⟩ := hW; go_simp) aH0 ?_
        simp only [FL]
        refine hr_ex 27 (some 57) rfl rfl (by kernel_rfl) rfl (R := fun v w' => ∃ g, v = .slice (some ⟨g, 0, none⟩) 1 1 ∧ VL w' (some ⟨g, 0, none⟩) 1 1 [.pointer p1] ∧ Below av0.heap.size av0 w') (⟨_, _, by go_simp, _, rfl, VL.new av0 [.pointer p1] 136 (by simp [maxLen]), (Below.refl _ _).alloc (Nat.le_refl _) _⟩) ?_
        rintro v av1 ⟨ag0, rfl, aG0, aC0⟩
        have aE1 := aE0.trans (aC0.mono aE0.size)
        have aH1 := aHS.out av1 aE1
        refine ⟨aH1, ?_⟩
        simp only [FL]
        refine hr_call_w 28 (some 58) 139 #[.slice d.co i d.cc, .int .i64 i, .int .i64 i, .slice (some ⟨ag0, 0, none⟩) 1 1] rfl rfl (by kernel_rfl) rfl (by go_simp) (fun v w' => ∃ ro rc, v = .slice ro (i + 1 + (i - i)) rc ∧ VL w' ro (i + 1 + (i - i)) rc ((d.cs.take i).take i ++ [.pointer p1] ++ (d.cs.take i).drop i) ∧ Below av1.heap.size av1 w') ((chgN_any av1 d.co (some ⟨ag0, 0, none⟩) i d.cc 1 1 i i (d.cs.take i) [.pointer p1] ((N2.ok.cl.below aE1).front i d.cc (by omega) (by omega) (Nat.le_refl _)) aG0 (fun y hy => N2.one y (List.mem_of_mem_take hy)) (by intro y hy; rw [List.mem_singleton.1 hy]; rfl) (by omega) (by omega) (by omega)).mono (by
          rintro e w' ⟨ro, rc, rfl, F, C⟩
          exact ⟨_, rfl, ro, rc, rfl, F, C⟩)) ?_
        rintro v av2 ⟨ro, rc, rfl, aF1, aC1⟩
        have aE2 := aE1.trans (aC1.mono aE1.size)
        have aH2 := aHS.out av2 aE2
        clear aG0
        refine ⟨aH2, ?_⟩
        simp only [FL]
        refine hr_take_w 29 (some 59) (.agg #[.int .i64 d.L, .slice d.ko i i, .slice d.vo i i, .slice ro (i + 1 + (i - i)) rc]) rfl rfl (by kernel_rfl) (by kernel_rfl) (by kernel_rfl) rfl (fun W hW => by obtain ⟨h0, h1, h2, h3⟩ := hW; go_simp) aH2 ?_
        simp only [FL]
        refine hr_ex 30 (some 60) rfl rfl (by kernel_rfl) rfl (R := fun v w' => ∃ g, v = .pointer (some ⟨g, 0, none⟩) ∧ w'.heap[g]? = some (.cells #[.int .i64 d.L, .slice d.ko i i, .slice d.vo i i, .slice ro (i + 1 + (i - i)) rc] 176) ∧ Below av2.heap.size av2 w') (⟨_, _, by go_simp, _, rfl, heap_alloc_new av2 _, (Below.refl _ _).alloc (Nat.le_refl _) _⟩) ?_
        rintro v av3 ⟨ag2, rfl, aG2, aC2⟩
        have aE3 := aE2.trans (aC2.mono aE2.size)
        have aH3 := aHS.out av3 aE3
        refine ⟨aH3, ?_⟩
        simp only [FL]
        refine hr_take_w 31 (some 4) (.pointer (some ⟨ag2, 0, none⟩)) rfl rfl (by kernel_rfl) (by kernel_rfl) (by kernel_rfl) rfl (fun W hW => by obtain ⟨h0, h1, h2, h3⟩ := hW; go_simp) aH3 ?_
        simp only [FL]
        refine wpAnyH_done (by kernel_rfl) ?_ _
        refine NoPanic.normal ?_
        have tl : T av3 (.pointer (some ⟨ag2, 0, none⟩)) (A ++ lo key s) := by
          have k3 := aF1.below aC2
          rw [show i + 1 + (i - i) = i + 1 from by omega, show (d.cs.take i).take i ++ [.pointer p1] ++ (d.cs.take i).drop i = d.cs.take i ++ [.pointer p1] from by simp [List.take_take]] at k3
          rw [show i + 1 + (i - i) = i + 1 from by omega] at aG2
          have N3 := N2.below aE3
          exact T.make aG2 (N3.ok.kl.front i i (by omega) (Nat.le_refl _) (by have := N3.ok.kl.vl.le; omega)) (N3.ok.vl.front i i (by omega) (Nat.le_refl _) (by have := N3.ok.vl.vl.le; omega)) k3 (c.front (by omega) (fun x hx => c.ls x (mem_lo.1 hx).1)) (by rw [List.map_take, List.map_take, N3.ek]) (by rw [List.map_take, List.map_take, N3.ev]) ((N3.kids.take i).app (Kids.one (T1.below aE3)))
        have B3 : Below w.heap.size w av3 := B2.trans (aE3.mono B2.size)
        clear aF1 aG2
        have N4 := h.below B3
        have T4 := T2.below aE3
        have c1 := N4.ok.c1
        by_cases hil : i < d.ks.length
        · have hil' : (i : Int) < (d.ks.length : Int) := by omega
          go_wp2_with fail
          have bHS : Hid (∀ V, Below av3.heap.size av3 V → V.cell? ⟨d.b, 0, none⟩ = some (.int .i64 d.L) ∧ V.cell? ⟨d.b, 1, none⟩ = some (.slice d.ko d.ks.length d.kc) ∧ V.cell? ⟨d.b, 2, none⟩ = some (.slice d.vo d.vs.length d.vc) ∧ V.cell? ⟨d.b, 3, none⟩ = some (.slice d.co d.cs.length d.cc)) := fun V hV => ⟨(N4.ok.below hV).c0, (N4.ok.below hV).c1, (N4.ok.below hV).c2, (N4.ok.below hV).c3⟩
          have bE0 : Below av3.heap.size av3 av3.drew := (Below.refl _ _).drew
          refine wp_region_noPanic ?_
          refine wp_region_held_drew (S := fun V => V.cell? ⟨d.b, 0, none⟩ = some (.int .i64 d.L) ∧ V.cell? ⟨d.b, 1, none⟩ = some (.slice d.ko d.ks.length d.kc) ∧ V.cell? ⟨d.b, 2, none⟩ = some (.slice d.vo d.vs.length d.vc) ∧ V.cell? ⟨d.b, 3, none⟩ = some (.slice d.co d.cs.length d.cc)) (by kernel_rfl) (bHS.out _ bE0) (fun bH0 => ?_)
          obtain ⟨bv0, hv0⟩ : ∃ v, v = av3.drew := ⟨_, rfl⟩
          rw [← hv0] at bH0 bE0 ⊢
          clear hv0
          refine hr_take_w 0 (some 68) (.pointer (some ⟨d.b, 0, none⟩)) rfl rfl (by kernel_rfl) (by kernel_rfl) (by kernel_rfl) rfl (fun W hW => by obtain ⟨h0, h1, h2, h3⟩ := hW; go_simp) bH0 ?_
          simp only [FL]
          refine hr_take_w 1 (some 69) (.pointer (some ⟨d.b, 0, none⟩)) rfl rfl (by kernel_rfl) (by kernel_rfl) (by kernel_rfl) rfl (fun W hW => by obtain ⟨h0, h1, h2, h3⟩ := hW; go_simp) bH0 ?_
          simp only [FL]
          refine hr_take_w 2 (some 70) (.pointer (some ⟨d.b, 0, none⟩)) rfl rfl (by kernel_rfl) (by kernel_rfl) (by kernel_rfl) rfl (fun W hW => by obtain ⟨h0, h1, h2, h3⟩ := hW; go_simp) bH0 ?_
          simp only [FL]
          refine hr_take_w 3 (some 71) (.int .i64 d.L) rfl rfl (by kernel_rfl) (by kernel_rfl) (by kernel_rfl) rfl (fun W hW => by obtain ⟨h0, h1, h2, h3⟩ := hW; go_simp) bH0 ?_
          simp only [FL]
          refine hr_take_w 4 (some 72) (.pointer (some ⟨d.b, 0, none⟩)) rfl rfl (by kernel_rfl) (by kernel_rfl) (by kernel_rfl) rfl (fun W hW => by obtain ⟨h0, h1, h2, h3⟩ := hW; go_simp) bH0 ?_
          simp only [FL]
          refine hr_take_w 5 (some 73) (.pointer (some ⟨d.b, 0, none⟩)) rfl rfl (by kernel_rfl) (by kernel_rfl) (by kernel_rfl) rfl (fun W hW => by obtain ⟨h0, h1, h2, h3⟩ := hW; go_simp) bH0 ?_
          simp only [FL]
          refine hr_take_w 6 (some 74) (.pointer (some ⟨d.b, 1, none⟩)) rfl rfl (by kernel_rfl) (by kernel_rfl) (by kernel_rfl) rfl (fun W hW => by obtain ⟨h0, h1, h2, h3⟩ := hW; go_simp) bH0 ?_
          simp only [FL]
          refine hr_take_w 7 (some 75) (.slice d.ko d.ks.length d.kc) rfl rfl (by kernel_rfl) (by kernel_rfl) (by kernel_rfl) rfl (fun W hW => by obtain ⟨h0, h1, h2, h3⟩ := hW; go_simp) bH0 ?_
          simp only [FL]
          refine hr_take_w 8 (some 76) (.int .i64 i) rfl rfl (by kernel_rfl) (by kernel_rfl) (by kernel_rfl) rfl (fun W hW => by obtain ⟨h0, h1, h2, h3⟩ := hW; go_simp) bH0 ?_
          simp only [FL]
          refine hr_take_w 9 (some 77) (.slice (bk d.ko d.kc i) (d.ks.length - i) (d.kc - i)) rfl rfl (by kernel_rfl) (by kernel_rfl) (by kernel_rfl) rfl (fun W hW => by obtain ⟨h0, h1, h2, h3⟩ := hW; simp [execOp, Act.eval, GK]) bH0 ?_
          simp only [FL]
          refine hr_take_w 10 (some 78) (.pointer (some ⟨d.b, 0, none⟩)) rfl rfl (by kernel_rfl) (by kernel_rfl) (by kernel_rfl) rfl (fun W hW => by obtain ⟨h0, h1, h2, h3⟩ := hW; go_simp) bH0 ?_
          simp only [FL]
          refine hr_take_w 11 (some 79) (.pointer (some ⟨d.b, 0, none⟩)) rfl rfl (by kernel_rfl) (by kernel_rfl) (by kernel_rfl) rfl (fun W hW => by obtain ⟨h0, h1, h2, h3⟩ := hW; go_simp) bH0 ?_
          simp only [FL]
          refine hr_take_w 12 (some 80) (.pointer (some ⟨d.b, 2, none⟩)) rfl rfl (by kernel_rfl) (by kernel_rfl) (by kernel_rfl) rfl (fun W hW => by obtain ⟨h0, h1, h2, h3⟩ := hW; go_simp) bH0 ?_
          simp only [FL]
          refine hr_take_w 13 (some 81) (.slice d.vo d.vs.length d.vc) rfl rfl (by kernel_rfl) (by kernel_rfl) (by kernel_rfl) rfl (fun W hW => by obtain ⟨h0, h1, h2, h3⟩ := hW; go_simp) bH0 ?_
          simp only [FL]
          refine hr_take_w 14 (some 82) (.int .i64 i) rfl rfl (by kernel_rfl) (by kernel_rfl) (by kernel_rfl) rfl (fun W hW => by obtain ⟨h0, h1, h2, h3⟩ := hW; go_simp) bH0 ?_
          simp only [FL]
          refine hr_take_w 15 (some 83) (.slice (bk d.vo d.vc i) (d.vs.length - i) (d.vc - i)) rfl rfl (by kernel_rfl) (by kernel_rfl) (by kernel_rfl) rfl (fun W hW => by obtain ⟨h0, h1, h2, h3⟩ := hW; simp [execOp, Act.eval, GV]) bH0 ?_
          simp only [FL]
          refine hr_take_w 16 (some 84) (.pointer (some ⟨d.b, 0, none⟩)) rfl rfl (by kernel_rfl) (by kernel_rfl) (by kernel_rfl) rfl (fun W hW => by obtain ⟨h0, h1, h2, h3⟩ := hW; go_simp) bH0 ?_
          simp only [FL]
          refine hr_take_w 17 (some 85) (.pointer (some ⟨d.b, 0, none⟩)) rfl rfl (by kernel_rfl) (by kernel_rfl) (by kernel_rfl) rfl (fun W hW => by obtain ⟨h0, h1, h2, h3⟩ := hW; go_simp) bH0 ?_
          simp only [FL]
          refine hr_take_w 18 (some 86) (.pointer (some ⟨d.b, 3, none⟩)) rfl rfl (by kernel_rfl) (by kernel_rfl) (by kernel_rfl) rfl (fun W hW => by obtain ⟨h0, h1, h2, h3⟩ := hW; go_simp) bH0 ?_
          simp only [FL]
          refine hr_take_w 19 (some 87) (.slice d.co d.cs.length d.cc) rfl rfl (by kernel_rfl) (by kernel_rfl) (by kernel_rfl) rfl (fun W hW => by obtain ⟨h0, h1, h2, h3⟩ := hW; go_simp) bH0 ?_
          simp only [FL]
          refine hr_take_w 20 (some 88) (.int .i64 i) rfl rfl (by kernel_rfl) (by kernel_rfl) (by kernel_rfl) rfl (fun W hW => by obtain ⟨h0, h1, h2, h3⟩ := hW; go_simp) bH0 ?_
          simp only [FL]
          refine hr_take_w 21 (some 89) (.slice (bk d.co d.cc i) (d.cs.length - i) (d.cc - i)) rfl rfl (by kernel_rfl) (by kernel_rfl) (by kernel_rfl) rfl (fun W hW => by obtain ⟨h0, h1, h2, h3⟩ := hW; simp [execOp, Act.eval, GC]) bH0 ?_
          simp only [FL]
          refine hr_take_w 22 (some 90) (.pointer p2) rfl rfl (by kernel_rfl) (by kernel_rfl) (by kernel_rfl) rfl (fun W hW => by obtain ⟨h0, h1, h2, h3⟩ := hW; go_simp) bH0 ?_
          simp only [FL]
          refine hr_ex 23 (some 91) rfl rfl (by kernel_rfl) rfl (R := fun v w' => ∃ g, v = .slice (some ⟨g, 0, none⟩) 1 1 ∧ VL w' (some ⟨g, 0, none⟩) 1 1 [.pointer p2] ∧ Below bv0.heap.size bv0 w') (⟨_, _, by go_simp, _, rfl, VL.new bv0 [.pointer p2] 136 (by simp [maxLen]), (Below.refl _ _).alloc (Nat.le_refl _) _⟩) ?_
          rintro v bv1 ⟨bg0, rfl, bG0, bC0⟩
          have bE1 := bE0.trans (bC0.mono bE0.size)
          have bH1 := bHS.out bv1 bE1
          refine ⟨bH1, ?_⟩
          simp only [FL]
          refine hr_call_w 24 (some 92) 139 #[.slice (bk d.co d.cc i) (d.cs.length - i) (d.cc - i), .int .i64 0, .int .i64 1, .slice (some ⟨bg0, 0, none⟩) 1 1] rfl rfl (by kernel_rfl) rfl (by go_simp) (fun v w' => ∃ ro2 rc2, v = .slice ro2 (0 + 1 + (d.cs.length - i - 1)) rc2 ∧ VL w' ro2 (0 + 1 + (d.cs.length - i - 1)) rc2 ((d.cs.drop i).take 0 ++ [.pointer p2] ++ (d.cs.drop i).drop 1) ∧ Below bv1.heap.size bv1 w') ((chgN_any bv1 (bk d.co d.cc i) (some ⟨bg0, 0, none⟩) (d.cs.length - i) (d.cc - i) 1 1 0 1 (d.cs.drop i) [.pointer p2] ((N4.ok.cl.below bE1).from i (by omega)) bG0 (fun y hy => N4.one y (List.mem_of_mem_drop hy)) (by intro y hy; rw [List.mem_singleton.1 hy]; rfl) (by omega) (by omega) (by omega)).mono (by
            rintro e w' ⟨ro2, rc2, rfl, F, C⟩
            exact ⟨_, rfl, ro2, rc2, rfl, F, C⟩)) ?_
          rintro v bv2 ⟨ro2, rc2, rfl, bF1, bC1⟩
          have bE2 := bE1.trans (bC1.mono bE1.size)
          have bH2 := bHS.out bv2 bE2
          clear bG0
          refine ⟨bH2, ?_⟩
          simp only [FL]
          refine hr_take_w 25 (some 93) (.agg #[.int .i64 d.L, .slice (bk d.ko d.kc i) (d.ks.length - i) (d.kc - i), .slice (bk d.vo d.vc i) (d.vs.length - i) (d.vc - i), .slice ro2 (0 + 1 + (d.cs.length - i - 1)) rc2]) rfl rfl (by kernel_rfl) (by kernel_rfl) (by kernel_rfl) rfl (fun W hW => by obtain ⟨h0, h1, h2, h3⟩ := hW; go_simp) bH2 ?_
          simp only [FL]
          refine hr_ex 26 (some 94) rfl rfl (by kernel_rfl) rfl (R := fun v w' => ∃ g, v = .pointer (some ⟨g, 0, none⟩) ∧ w'.heap[g]? = some (.cells #[.int .i64 d.L, .slice (bk d.ko d.kc i) (d.ks.length - i) (d.kc - i), .slice (bk d.vo d.vc i) (d.vs.length - i) (d.vc - i), .slice ro2 (0 + 1 + (d.cs.length - i - 1)) rc2] 176) ∧ Below bv2.heap.size bv2 w') (⟨_, _, by go_simp, _, rfl, heap_alloc_new bv2 _, (Below.refl _ _).alloc (Nat.le_refl _) _⟩) ?_
          rintro v bv3 ⟨bg2, rfl, bG2, bC2⟩
          have bE3 := bE2.trans (bC2.mono bE2.size)
          have bH3 := bHS.out bv3 bE3
          refine ⟨bH3, ?_⟩
          simp only [FL]
          refine hr_take_w 27 (some 5) (.pointer (some ⟨bg2, 0, none⟩)) rfl rfl (by kernel_rfl) (by kernel_rfl) (by kernel_rfl) rfl (fun W hW => by obtain ⟨h0, h1, h2, h3⟩ := hW; go_simp) bH3 ?_
          simp only [FL]
          refine wpAnyH_done (by kernel_rfl) ?_ _
          refine NoPanic.normal ?_
          have tr : T bv3 (.pointer (some ⟨bg2, 0, none⟩)) (hi key s ++ B) := by
            have k3 := bF1.below bC2
            rw [show (d.cs.drop i).take 0 ++ [.pointer p2] ++ (d.cs.drop i).drop 1 = .pointer p2 :: d.cs.drop (i + 1) from by simp] at k3
            have N3 := N4.below bE3
            exact T.make bG2 (N3.ok.kl.from i (by omega)) (N3.ok.vl.from i (by omega)) k3 (c.back (by omega) (fun x hx => c.ls x (mem_hi.1 hx).1)) (by rw [List.map_drop, List.map_drop, N3.ek]) (by rw [List.map_drop, List.map_drop, N3.ev]) (Kids.cons (T4.below bE3) (N3.kids.drop (i + 1)))
          have B4 : Below w.heap.size w bv3 := B3.trans (bE3.mono B3.size)
          clear bF1 bG2
          go_wp2
          go_ret2
          refine ⟨_, _, rfl, ?_, ?_, B4⟩
          · rw [hlo.out]
            exact tl.below bE3
          · rw [hhi.out]
            exact tr
        · have hil' : ¬ (i : Int) < (d.ks.length : Int) := by omega
          have hBn : Hid (B = []) := by
            show _ = _
            have hd : xs.drop i = [] := List.drop_eq_nil_of_le (by omega)
            rw [c.eB, hd]
            rfl
          go_wp2
          go_ret2
          refine ⟨_, _, rfl, ?_, ?_, B3⟩
          · rw [hlo.out]
            exact tl
          · rw [hhi.out, hBn.out, List.append_nil]
            exact T4
      · have hi0' : ¬ (0 : Int) < (i : Int) := by omega
        have hAn : Hid (A = []) := by
          show _ = _
          obtain rfl : i = 0 := by omega
          rw [c.eA]
          rfl
        have hil : i < d.ks.length := by omega
        have hil' : (i : Int) < (d.ks.length : Int) := by omega
        go_wp2_with fail
        have bHS : Hid (∀ V, Below w2.heap.size w2 V → V.cell? ⟨d.b, 0, none⟩ = some (.int .i64 d.L) ∧ V.cell? ⟨d.b, 1, none⟩ = some (.slice d.ko d.ks.length d.kc) ∧ V.cell? ⟨d.b, 2, none⟩ = some (.slice d.vo d.vs.length d.vc) ∧ V.cell? ⟨d.b, 3, none⟩ = some (.slice d.co d.cs.length d.cc)) := fun V hV => ⟨(N2.ok.below hV).c0, (N2.ok.below hV).c1, (N2.ok.below hV).c2, (N2.ok.below hV).c3⟩
        have bE0 : Below w2.heap.size w2 w2.drew := (Below.refl _ _).drew
        refine wp_region_noPanic ?_
        refine wp_region_held_drew (S := fun V => V.cell? ⟨d.b, 0, none⟩ = some (.int .i64 d.L) ∧ V.cell? ⟨d.b, 1, none⟩ = some (.slice d.ko d.ks.length d.kc) ∧ V.cell? ⟨d.b, 2, none⟩ = some (.slice d.vo d.vs.length d.vc) ∧ V.cell? ⟨d.b, 3, none⟩ = some (.slice d.co d.cs.length d.cc)) (by kernel_rfl) (bHS.out _ bE0) (fun bH0 => ?_)
        obtain ⟨bv0, hv0⟩ : ∃ v, v = w2.drew := ⟨_, rfl⟩
        rw [← hv0] at bH0 bE0 ⊢
        clear hv0
        refine hr_take_w 0 (some 68) (.pointer (some ⟨d.b, 0, none⟩)) rfl rfl (by kernel_rfl) (by kernel_rfl) (by kernel_rfl) rfl (fun W hW => by obtain ⟨h0, h1, h2, h3⟩ := hW; go_simp) bH0 ?_
        simp only [FL]
        refine hr_take_w 1 (some 69) (.pointer (some ⟨d.b, 0, none⟩)) rfl rfl (by kernel_rfl) (by kernel_rfl) (by kernel_rfl) rfl (fun W hW => by obtain ⟨h0, h1, h2, h3⟩ := hW; go_simp) bH0 ?_
        simp only [FL]
        refine hr_take_w 2 (some 70) (.pointer (some ⟨d.b, 0, none⟩)) rfl rfl (by kernel_rfl) (by kernel_rfl) (by kernel_rfl) rfl (fun W hW => by obtain ⟨h0, h1, h2, h3⟩ := hW; go_simp) bH0 ?_
        simp only [FL]
        refine hr_take_w 3 (some 71) (.int .i64 d.L) rfl rfl (by kernel_rfl) (by kernel_rfl) (by kernel_rfl) rfl (fun W hW => by obtain ⟨h0, h1, h2, h3⟩ := hW; go_simp) bH0 ?_
        simp only [FL]
        refine hr_take_w 4 (some 72) (.pointer (some ⟨d.b, 0, none⟩)) rfl rfl (by kernel_rfl) (by kernel_rfl) (by kernel_rfl) rfl (fun W hW => by obtain ⟨h0, h1, h2, h3⟩ := hW; go_simp) bH0 ?_
        simp only [FL]
        refine hr_take_w 5 (some 73) (.pointer (some ⟨d.b, 0, none⟩)) rfl rfl (by kernel_rfl) (by kernel_rfl) (by kernel_rfl) rfl (fun W hW => by obtain ⟨h0, h1, h2, h3⟩ := hW; go_simp) bH0 ?_
        simp only [FL]
        refine hr_take_w 6 (some 74) (.pointer (some ⟨d.b, 1, none⟩)) rfl rfl (by kernel_rfl) (by kernel_rfl) (by kernel_rfl) rfl (fun W hW => by obtain ⟨h0, h1, h2, h3⟩ := hW; go_simp) bH0 ?_
        simp only [FL]
        refine hr_take_w 7 (some 75) (.slice d.ko d.ks.length d.kc) rfl rfl (by kernel_rfl) (by kernel_rfl) (by kernel_rfl) rfl (fun W hW => by obtain ⟨h0, h1, h2, h3⟩ := hW; go_simp) bH0 ?_
        simp only [FL]
        refine hr_take_w 8 (some 76) (.int .i64 i) rfl rfl (by kernel_rfl) (by kernel_rfl) (by kernel_rfl) rfl (fun W hW => by obtain ⟨h0, h1, h2, h3⟩ := hW; go_simp) bH0 ?_
        simp only [FL]
        refine hr_take_w 9 (some 77) (.slice (bk d.ko d.kc i) (d.ks.length - i) (d.kc - i)) rfl rfl (by kernel_rfl) (by kernel_rfl) (by kernel_rfl) rfl (fun W hW => by obtain ⟨h0, h1, h2, h3⟩ := hW; simp [execOp, Act.eval, GK]) bH0 ?_
        simp only [FL]
        refine hr_take_w 10 (some 78) (.pointer (some ⟨d.b, 0, none⟩)) rfl rfl (by kernel_rfl) (by kernel_rfl) (by kernel_rfl) rfl (fun W hW => by obtain ⟨h0, h1, h2, h3⟩ := hW; go_simp) bH0 ?_
        simp only [FL]
        refine hr_take_w 11 (some 79) (.pointer (some ⟨d.b, 0, none⟩)) rfl rfl (by kernel_rfl) (by kernel_rfl) (by kernel_rfl) rfl (fun W hW => by obtain ⟨h0, h1, h2, h3⟩ := hW; go_simp) bH0 ?_
        simp only [FL]
        refine hr_take_w 12 (some 80) (.pointer (some ⟨d.b, 2, none⟩)) rfl rfl (by kernel_rfl) (by kernel_rfl) (by kernel_rfl) rfl (fun W hW => by obtain ⟨h0, h1, h2, h3⟩ := hW; go_simp) bH0 ?_
        simp only [FL]
        refine hr_take_w 13 (some 81) (.slice d.vo d.vs.length d.vc) rfl rfl (by kernel_rfl) (by kernel_rfl) (by kernel_rfl) rfl (fun W hW => by obtain ⟨h0, h1, h2, h3⟩ := hW; go_simp) bH0 ?_
        simp only [FL]
        refine hr_take_w 14 (some 82) (.int .i64 i) rfl rfl (by kernel_rfl) (by kernel_rfl) (by kernel_rfl) rfl (fun W hW => by obtain ⟨h0, h1, h2, h3⟩ := hW; go_simp) bH0 ?_
        simp only [FL]
        refine hr_take_w 15 (some 83) (.slice (bk d.vo d.vc i) (d.vs.length - i) (d.vc - i)) rfl rfl (by kernel_rfl) (by kernel_rfl) (by kernel_rfl) rfl (fun W hW => by obtain ⟨h0, h1, h2, h3⟩ := hW; simp [execOp, Act.eval, GV]) bH0 ?_
        simp only [FL]
        refine hr_take_w 16 (some 84) (.pointer (some ⟨d.b, 0, none⟩)) rfl rfl (by kernel_rfl) (by kernel_rfl) (by kernel_rfl) rfl (fun W hW => by obtain ⟨h0, h1, h2, h3⟩ := hW; go_simp) bH0 ?_
        simp only [FL]
        refine hr_take_w 17 (some 85) (.pointer (some ⟨d.b, 0, none⟩)) rfl rfl (by kernel_rfl) (by kernel_rfl) (by kernel_rfl) rfl (fun W hW => by obtain ⟨h0, h1, h2, h3⟩ := hW; go_simp) bH0 ?_
        simp only [FL]
        refine hr_take_w 18 (some 86) (.pointer (some ⟨d.b, 3, none⟩)) rfl rfl (by kernel_rfl) (by kernel_rfl) (by kernel_rfl) rfl (fun W hW => by obtain ⟨h0, h1, h2, h3⟩ := hW; go_simp) bH0 ?_
        simp only [FL]
        refine hr_take_w 19 (some 87) (.slice d.co d.cs.length d.cc) rfl rfl (by kernel_rfl) (by kernel_rfl) (by kernel_rfl) rfl (fun W hW => by obtain ⟨h0, h1, h2, h3⟩ := hW; go_simp) bH0 ?_
        simp only [FL]
        refine hr_take_w 20 (some 88) (.int .i64 i) rfl rfl (by kernel_rfl) (by kernel_rfl) (by kernel_rfl) rfl (fun W hW => by obtain ⟨h0, h1, h2, h3⟩ := hW; go_simp) bH0 ?_
        simp only [FL]
        refine hr_take_w 21 (some 89) (.slice (bk d.co d.cc i) (d.cs.length - i) (d.cc - i)) rfl rfl (by kernel_rfl) (by kernel_rfl) (by kernel_rfl) rfl (fun W hW => by obtain ⟨h0, h1, h2, h3⟩ := hW; simp [execOp, Act.eval, GC]) bH0 ?_
        simp only [FL]
        refine hr_take_w 22 (some 90) (.pointer p2) rfl rfl (by kernel_rfl) (by kernel_rfl) (by kernel_rfl) rfl (fun W hW => by obtain ⟨h0, h1, h2, h3⟩ := hW; go_simp) bH0 ?_
        simp only [FL]
        refine hr_ex 23 (some 91) rfl rfl (by kernel_rfl) rfl (R := fun v w' => ∃ g, v = .slice (some ⟨g, 0, none⟩) 1 1 ∧ VL w' (some ⟨g, 0, none⟩) 1 1 [.pointer p2] ∧ Below bv0.heap.size bv0 w') (⟨_, _, by go_simp, _, rfl, VL.new bv0 [.pointer p2] 136 (by simp [maxLen]), (Below.refl _ _).alloc (Nat.le_refl _) _⟩) ?_
        rintro v bv1 ⟨bg0, rfl, bG0, bC0⟩
        have bE1 := bE0.trans (bC0.mono bE0.size)
        have bH1 := bHS.out bv1 bE1
        refine ⟨bH1, ?_⟩
        simp only [FL]
        refine hr_call_w 24 (some 92) 139 #[.slice (bk d.co d.cc i) (d.cs.length - i) (d.cc - i), .int .i64 0, .int .i64 1, .slice (some ⟨bg0, 0, none⟩) 1 1] rfl rfl (by kernel_rfl) rfl (by go_simp) (fun v w' => ∃ ro2 rc2, v = .slice ro2 (0 + 1 + (d.cs.length - i - 1)) rc2 ∧ VL w' ro2 (0 + 1 + (d.cs.length - i - 1)) rc2 ((d.cs.drop i).take 0 ++ [.pointer p2] ++ (d.cs.drop i).drop 1) ∧ Below bv1.heap.size bv1 w') ((chgN_any bv1 (bk d.co d.cc i) (some ⟨bg0, 0, none⟩) (d.cs.length - i) (d.cc - i) 1 1 0 1 (d.cs.drop i) [.pointer p2] ((N2.ok.cl.below bE1).from i (by omega)) bG0 (fun y hy => N2.one y (List.mem_of_mem_drop hy)) (by intro y hy; rw [List.mem_singleton.1 hy]; rfl) (by omega) (by omega) (by omega)).mono (by
          rintro e w' ⟨ro2, rc2, rfl, F, C⟩
          exact ⟨_, rfl, ro2, rc2, rfl, F, C⟩)) ?_
        rintro v bv2 ⟨ro2, rc2, rfl, bF1, bC1⟩
        have bE2 := bE1.trans (bC1.mono bE1.size)
        have bH2 := bHS.out bv2 bE2
        clear bG0
        refine ⟨bH2, ?_⟩
        simp only [FL]
        refine hr_take_w 25 (some 93) (.agg #[.int .i64 d.L, .slice (bk d.ko d.kc i) (d.ks.length - i) (d.kc - i), .slice (bk d.vo d.vc i) (d.vs.length - i) (d.vc - i), .slice ro2 (0 + 1 + (d.cs.length - i - 1)) rc2]) rfl rfl (by kernel_rfl) (by kernel_rfl) (by kernel_rfl) rfl (fun W hW => by obtain ⟨h0, h1, h2, h3⟩ := hW; go_simp) bH2 ?_
        simp only [FL]
        refine hr_ex 26 (some 94) rfl rfl (by kernel_rfl) rfl (R := fun v w' => ∃ g, v = .pointer (some ⟨g, 0, none⟩) ∧ w'.heap[g]? = some (.cells #[.int .i64 d.L, .slice (bk d.ko d.kc i) (d.ks.length - i) (d.kc - i), .slice (bk d.vo d.vc i) (d.vs.length - i) (d.vc - i), .slice ro2 (0 + 1 + (d.cs.length - i - 1)) rc2] 176) ∧ Below bv2.heap.size bv2 w') (⟨_, _, by go_simp, _, rfl, heap_alloc_new bv2 _, (Below.refl _ _).alloc (Nat.le_refl _) _⟩) ?_
        rintro v bv3 ⟨bg2, rfl, bG2, bC2⟩
        have bE3 := bE2.trans (bC2.mono bE2.size)
        have bH3 := bHS.out bv3 bE3
        refine ⟨bH3, ?_⟩
        simp only [FL]
        refine hr_take_w 27 (some 5) (.pointer (some ⟨bg2, 0, none⟩)) rfl rfl (by kernel_rfl) (by kernel_rfl) (by kernel_rfl) rfl (fun W hW => by obtain ⟨h0, h1, h2, h3⟩ := hW; go_simp) bH3 ?_
        simp only [FL]
        refine wpAnyH_done (by kernel_rfl) ?_ _
        refine NoPanic.normal ?_
        have tr : T bv3 (.pointer (some ⟨bg2, 0, none⟩)) (hi key s ++ B) := by
          have k3 := bF1.below bC2
          rw [show (d.cs.drop i).take 0 ++ [.pointer p2] ++ (d.cs.drop i).drop 1 = .pointer p2 :: d.cs.drop (i + 1) from by simp] at k3
          have N3 := N2.below bE3
          exact T.make bG2 (N3.ok.kl.from i (by omega)) (N3.ok.vl.from i (by omega)) k3 (c.back (by omega) (fun x hx => c.ls x (mem_hi.1 hx).1)) (by rw [List.map_drop, List.map_drop, N3.ek]) (by rw [List.map_drop, List.map_drop, N3.ev]) (Kids.cons (T2.below bE3) (N3.kids.drop (i + 1)))
        have B4 : Below w.heap.size w bv3 := B2.trans (bE3.mono B2.size)
        clear bF1 bG2
        go_wp2
        go_ret2
        refine ⟨_, _, rfl, ?_, ?_, B4⟩
        · rw [hlo.out]
          exact by rw [hAn.out, List.nil_append]; exact T1.below bE3
        · rw [hhi.out]
          exact tr
end Go.Proofs.YtlljmhcgjkolpaaGreatDoor

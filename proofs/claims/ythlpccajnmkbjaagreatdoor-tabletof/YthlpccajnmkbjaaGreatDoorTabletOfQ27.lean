/-
  Texts in one: RShape7.
-/
import Derived.Test.YthlpccajnmkbjaaGreatDoorTabletOfQFL
import Derived.Test.YthlpccajnmkbjaaGreatDoorTabletOfQ22
import Derived.Test.YthlpccajnmkbjaaGreatDoorTabletOfQ26
import Derived.Test.YthlpccajnmkbjaaGreatDoorTabletOfQ16
namespace Go.Proofs.YthlpccajnmkbjaaGreatDoor
open Go.RowKit
theorem rninfo : (Tryz.prog.info? 54).map (fun i => (i.zero, i.size, i.bytes)) = some (some (.pointer none), 1, 8) := by kernel_rfl
theorem run_midR {W : World} {ao : Option Addr} {n cap j i : Nat} (h1 : j ≤ i) (h2 : i ≤ cap) :
    (Instr.sliceAt 56 (.slice ao n cap) (some (.int .i64 (j : Nat))) (some (.int .i64 (i : Nat))) none).run Tryz.prog W = .ok (.slice (bk2 ao cap j) (i - j) (cap - j)) W := by
  have ht := Tryz.underlying56
  have he : Tryz.prog.elem 56 = 101 := by simp [Program.elem, ht]
  rw [run_sliceAt_slice W 56 _ _ _ _ (by rw [he]; exact ht), run_slice_lh W 56 ao n cap (by rw [he]; exact ht) .i64 .i64 j i (by omega) (by omega) (by omega), he, size2]
  simp only [Result.andThen_ok, sliced, Int.toNat_natCast, bk2]
theorem IL.cells2 {w w' : World} {b off n cap : Nat} {its : List IP} (h : IL w (some ⟨b, off, none⟩) n cap its) (hb : Below w.heap.size w w') (i : Nat) (hi : i < its.length) :
    w'.cell? ⟨b, off + i * 2, none⟩ = some (.slice its[i].k.ao its[i].k.n its[i].k.cap) ∧ w'.cell? ⟨b, off + i * 2 + 1, none⟩ = some (.slice its[i].v.ao its[i].v.n its[i].v.cap) := by
  have := (h.below hb).cell _ rfl i hi
  rw [Addr.add_lit, Addr.add_lit, ← Nat.add_assoc] at this
  exact this
structure RSh (w0 wI wr : World) (M : Nat) (l : List It) (i fr : Nat) (k v c : Value) (ks vs : List Part) (us : List Value) (segs : List (List It)) (xs : List It) : Prop where
  nb : NB wr wI.heap.size wI.heap.size 97 54 (M : Int) k v c (ks.map Part.val) (vs.map Part.val) us
  b : Below wI.heap.size wI wr
  prt : Prt lev M l i fr segs xs
  ek : ks.map Part.xs = xs.map It.k
  ev : vs.map Part.xs = xs.map It.v
  kf : KidsF wr w0.heap.size wI.heap.size wI.heap.size k v c us segs
  sk : ∀ q ∈ ks, Sl w0 q.ao q.n q.cap q.xs
  sv : ∀ q ∈ vs, Sl w0 q.ao q.n q.cap q.xs
set_option maxHeartbeats 4000000 in
set_option maxRecDepth 100000 in
theorem rshape_fuel (w0 : World) : ∀ (N : Nat) (wI : World) (ao : Option Addr) (n cap : Nat) (its : List IP) (_ : IL wI ao n cap its) (_ : ∀ q ∈ its, q.ok w0 ∧ q.k.n ≤ 50000) (_ : Below w0.heap.size w0 wI) (_ : n ≤ 50000) (_ : n ≤ N),
    Calls Tryz.prog 25 #[.slice ao n cap] wI (OnT w0.heap.size wI (its.map IP.it)) := by
  intro N
  induction N using Nat.strongRecOn with | _ N ih => ?_
  intro wI ao n cap its hL hok h0 hn hN
  have hl1 := Nat.le_of_eq hL.len
  have hl2 := Nat.le_of_eq hL.len.symm
  have hni : (n : Int) ≤ 50000 := by omega
  by_cases hz : n = 0
  · subst hz
    obtain rfl : its = [] := List.eq_nil_of_length_eq_zero hL.len
    go_enter Tryz.func25, Tryz.ntmps25
    go_wp2
    go_ret
    exact OnT.nil _ _
  obtain ⟨b, off, rfl, hc⟩ := hL.at (by omega)
  clear hc
  have hzi : ¬ (n : Int) = 0 := by omega
  go_enter Tryz.func25, Tryz.ntmps25
  go_wp2
  go_loopw [4] (fun i wr => ∃ (kk M : Nat), kk ≤ n ∧ i = .int .i64 kk ∧ NB wr wI.heap.size wI.heap.size 97 54 (M : Int) (.slice none 0 0) (.slice none 0 0) (.slice none 0 0) [] [] [] ∧ Below wI.heap.size wI wr ∧ Hid (∀ j (h : j < its.length), j < kk → lev its[j].k.xs ≤ M) ∧ Hid (M = 0 ∨ ∃ q ∈ its, lev q.k.xs = M)) (fun i _ => n - (intOf i).toNat)
  case atStart => exact ⟨0, 0, Nat.zero_le _, rfl, NB.new wI 97 54 0, (Below.refl _ _).alloc (Nat.le_refl _) _, fun j _ h => by omega, .inl rfl⟩
  case round =>
    obtain ⟨kk, M, hkk, rfl, N, B, HLE, HEX⟩ := hrel
    by_cases hlt : kk < n
    · have hki : (kk : Int) < (n : Int) := by omega
      have hkl : kk < its.length := by omega
      obtain ⟨q, hq⟩ : ∃ q, q = its[kk] := ⟨_, rfl⟩
      have HQ : Hid (q = its[kk]) := hq
      have HC : Hid (∀ V, Below wI.heap.size wI V → V.cell? ⟨b, off + kk * 2, none⟩ = some (.slice q.k.ao q.k.n q.k.cap) ∧ V.cell? ⟨b, off + kk * 2 + 1, none⟩ = some (.slice q.v.ao q.v.n q.v.cap)) := fun V hV => by rw [hq]; exact hL.cells2 hV kk hkl
      have hqo := hok q (by rw [hq]; exact List.getElem_mem _)
      have hqI := hqo.1.below h0
      have hqn := hqo.2
      clear hq
      go_wp2
      have E0 : Below wr.heap.size wr wr.drew := (Below.refl _ _).drew
      refine wp_region_noPanic ?_
      refine wp_region_held_drew (S := fun _ => True) (by kernel_rfl) trivial (fun _ => ?_)
      obtain ⟨v0, hv0⟩ : ∃ v, v = wr.drew := ⟨_, rfl⟩
      rw [← hv0] at E0 ⊢
      clear hv0
      refine hr_take_w 0 (some 18) (.pointer (some ⟨wI.heap.size, 0, none⟩)) rfl rfl (by kernel_rfl) (by kernel_rfl) (by kernel_rfl) rfl (fun W hW => by go_simp) trivial ?_
      simp only [FL]
      refine hr_take_w 1 (some 19) (.pointer (some ⟨wI.heap.size, 0, none⟩)) rfl rfl (by kernel_rfl) (by kernel_rfl) (by kernel_rfl) rfl (fun W hW => by go_simp) trivial ?_
      simp only [FL]
      refine hr_take_w 2 (some 20) (.pointer (some ⟨wI.heap.size, 0, none⟩)) rfl rfl (by kernel_rfl) (by kernel_rfl) (by kernel_rfl) rfl (fun W hW => by go_simp) trivial ?_
      simp only [FL]
      refine hr_take_w 3 (some 21) (.pointer (some ⟨wI.heap.size, 0, none⟩)) rfl rfl (by kernel_rfl) (by kernel_rfl) (by kernel_rfl) rfl (fun W hW => by go_simp) trivial ?_
      simp only [FL]
      refine hr_take_w 5 (some 23) (.slice (some ⟨b, off, none⟩) n cap) rfl rfl (by kernel_rfl) (by kernel_rfl) (by kernel_rfl) rfl (fun W hW => by go_simp) trivial ?_
      simp only [FL]
      refine hr_take_w 6 (some 24) (.int .i64 (kk : Nat)) rfl rfl (by kernel_rfl) (by kernel_rfl) (by kernel_rfl) rfl (fun W hW => by go_simp) trivial ?_
      simp only [FL]
      refine hr_take_w 7 (some 25) (.pointer (some ⟨b, off + kk * 2, none⟩)) rfl rfl (by kernel_rfl) (by kernel_rfl) (by kernel_rfl) rfl (fun W hW => by go_simp) trivial ?_
      simp only [FL]
      refine hr_take_w 8 (some 26) (.pointer (some ⟨b, off + kk * 2, none⟩)) rfl rfl (by kernel_rfl) (by kernel_rfl) (by kernel_rfl) rfl (fun W hW => by go_simp) trivial ?_
      simp only [FL]
      refine wpAnyH_effto 3 (fun zi zv zw => (zi = 4 → zv = .int .i64 (M : Nat)) ∧ (zi = 9 → zv = .slice q.k.ao q.k.n q.k.cap) ∧ (zi = 10 → zv = .int .i64 (lev q.k.xs : Nat)) ∧ (zi = 11 → zv = .int .i64 (max M (lev q.k.xs) : Nat))) [(4, 22), (9, 27), (10, 28), (11, 29)] 107 (by kernel_rfl) (by decide) (by decide) rfl ?_ (fun _ _ => trivial) ?_ ?_
      · intro zi v w w' h hb
        refine ⟨fun e => ?_, fun e => ?_, fun e => ?_, fun e => ?_⟩
        · have h := h.1 e
          exact h
        · have h := h.2.1 e
          exact h
        · have h := h.2.2.1 e
          exact h
        · have h := h.2.2.2 e
          exact h
      · intro zp zhi o a w ho hs hb hdep
        have EB := E0.trans (hb.mono E0.size)
        simp only [List.mem_cons, List.not_mem_nil, or_false] at zhi
        rcases zhi with rfl | rfl | rfl | rfl
        · obtain rfl : _ = o := Option.some.inj (show some _ = some o from ho)
          have t21 : a.tmps[21]? = some (.pointer (some ⟨wI.heap.size, 0, none⟩)) := hs.get 21 (by kernel_rfl) rfl
          have N' := N.below EB
          have lc := N'.arr.cell 0
          exact .inl ⟨.int .i64 (M : Nat), w, by go_simp, ⟨fun _ => rfl, fun e => absurd e (by decide), fun e => absurd e (by decide), fun e => absurd e (by decide)⟩, Below.refl _ _⟩
        · obtain rfl : _ = o := Option.some.inj (show some _ = some o from ho)
          have t26 : a.tmps[26]? = some (.pointer (some ⟨b, off + kk * 2, none⟩)) := hs.get 26 (by kernel_rfl) rfl
          have lc := (HC.out w (B.trans (EB.mono B.size))).1
          exact .inl ⟨.slice q.k.ao q.k.n q.k.cap, w, by go_simp, ⟨fun e => absurd e (by decide), fun _ => rfl, fun e => absurd e (by decide), fun e => absurd e (by decide)⟩, Below.refl _ _⟩
        · obtain rfl : _ = o := Option.some.inj (show some _ = some o from ho)
          obtain ⟨x27, t27, f27⟩ := (hdep 9 (by kernel_rfl)).at 27 (by kernel_rfl)
          replace f27 := f27.2.1 rfl
          subst f27
          refine .inr ⟨57, #[.slice q.k.ao q.k.n q.k.cap], by go_simp, (rlevel_any w q.k.ao q.k.n q.k.cap q.k.xs (hqI.1.below (B.trans (EB.mono B.size))) hqn).mono ?_⟩
          rintro e w' ⟨rfl, C⟩
          exact ⟨_, rfl, ⟨fun e => absurd e (by decide), fun e => absurd e (by decide), fun _ => rfl, fun e => absurd e (by decide)⟩, C⟩
        · obtain rfl : _ = o := Option.some.inj (show some _ = some o from ho)
          obtain ⟨x22, t22, f22⟩ := (hdep 4 (by kernel_rfl)).at 22 (by kernel_rfl)
          replace f22 := f22.1 rfl
          obtain ⟨x28, t28, f28⟩ := (hdep 10 (by kernel_rfl)).at 28 (by kernel_rfl)
          replace f28 := f28.2.2.1 rfl
          subst f22
          subst f28
          exact .inl ⟨.int .i64 (max M (lev q.k.xs) : Nat), w, by go_simp; omega, ⟨fun e => absurd e (by decide), fun e => absurd e (by decide), fun e => absurd e (by decide), fun _ => rfl⟩, Below.refl _ _⟩
      intro zf v1 hb hh
      have E1 := E0.trans (hb.mono E0.size)
      obtain e4 := (hh (4, 22) (by simp)).1 rfl
      obtain e9 := (hh (9, 27) (by simp)).2.1 rfl
      obtain e10 := (hh (10, 28) (by simp)).2.2.1 rfl
      obtain e11 := (hh (11, 29) (by simp)).2.2.2 rfl
      clear hh hb
      simp only [putL, List.foldl_cons, List.foldl_nil, e4, e9, e10, e11]
      clear e4 e9 e10 e11
      simp only [FL]
      have N1 := N.below E1
      have lc := N1.arr.cell 0
      have lf := N1.arr.free 0
      obtain ⟨N2, C2, B2⟩ := N1.level (by decide) (by decide) ((max M (lev q.k.xs) : Nat) : Int)
      refine hr_take_w 12 (some 30) (.pointer (some ⟨wI.heap.size, 0, none⟩)) rfl rfl (by kernel_rfl) (by kernel_rfl) (by kernel_rfl) rfl (fun W hW => by go_simp) trivial ?_
      simp only [FL]
      refine hr_take_w 13 (some 31) (.pointer (some ⟨wI.heap.size, 0, none⟩)) rfl rfl (by kernel_rfl) (by kernel_rfl) (by kernel_rfl) rfl (fun W hW => by go_simp) trivial ?_
      simp only [FL]
      refine hr_skip 14 none (w' := v1.setCell ⟨wI.heap.size, 0, none⟩ (.int .i64 (max M (lev q.k.xs) : Nat))) rfl rfl (by kernel_rfl) rfl (by go_simp) trivial ?_
      simp only [Act.put]
      refine wpAnyH_done (by kernel_rfl) ?_ _
      refine NoPanic.normal ?_
      clear lc lf
      have B3 := B.trans ((E1.mono B.size).trans B2)
      go_wp2
      go_roundw
      case rel =>
        refine ⟨kk + 1, max M (lev q.k.xs), by omega, by go_num, N2, B3, fun j hj hjk => ?_, ?_⟩
        · by_cases hjj : j = kk
          · subst hjj
            rw [← HQ.out]
            omega
          · have := HLE.out j hj (by omega)
            omega
        · by_cases hmx : M ≤ lev q.k.xs
          · exact .inr ⟨its[kk], List.getElem_mem _, by rw [← HQ.out]; omega⟩
          · rcases HEX.out with h | ⟨y, hy, hyl⟩
            · exact absurd h (by omega)
            · exact .inr ⟨y, hy, by omega⟩
      case measure => simp [intOf]; omega
    · have hge : ¬ (kk : Int) < (n : Int) := by omega
      have hkn : n = kk := by omega
      subst hkn
      have HMX : Hid (∀ j (h : j < its.length), lev its[j].k.xs ≤ M) := fun j h => HLE.out j h (by omega)
      have HEQ : Hid (∃ q ∈ its, lev q.k.xs = M) := by
        rcases HEX.out with h | h
        · exact ⟨its[0], List.getElem_mem (by omega), by have := HMX.out 0 (by omega); omega⟩
        · exact h
      clear HLE HEX
      go_wp2
      go_loopw [5, 6] (fun f i wr => ∃ (ii fr : Nat) (k v c : Value) (ks vs : List Part) (us : List Value) (segs : List (List It)) (xs : List It), i = .int .i64 ii ∧ f = .int .i64 fr ∧ RSh w0 wI wr M (its.map IP.it) ii fr k v c ks vs us segs xs) (fun _ i _ => n - (intOf i).toNat)
      case atStart => exact ⟨0, 0, _, _, _, [], [], [], [], [], rfl, rfl, N, B, Prt.start _ _ _, rfl, rfl, KidsF.nil _ _ _ _ _ _ _, fun _ h => by simp at h, fun _ h => by simp at h⟩
      case round =>
        clear N B
        obtain ⟨ii, fr, k, v, c, ks, vs, us, segs, xs, rfl, rfl, H⟩ := hrel
        have hfr := H.prt.le
        have hin : ii ≤ n := by have := H.prt.hi; rw [List.length_map] at this; omega
        have hic : ii ≤ cap := Nat.le_trans hin hL.le
        by_cases hlt : ii < n
        · have hki : (ii : Int) < (n : Int) := by omega
          have hkl : ii < its.length := by omega
          obtain ⟨q, hq⟩ : ∃ q, q = its[ii] := ⟨_, rfl⟩
          have HQ : Hid (q = its[ii]) := hq
          have HC : Hid (∀ V, Below wI.heap.size wI V → V.cell? ⟨b, off + ii * 2, none⟩ = some (.slice q.k.ao q.k.n q.k.cap) ∧ V.cell? ⟨b, off + ii * 2 + 1, none⟩ = some (.slice q.v.ao q.v.n q.v.cap)) := fun V hV => by rw [hq]; exact hL.cells2 hV ii hkl
          have hqo := hok q (by rw [hq]; exact List.getElem_mem _)
          have hqI := hqo.1.below h0
          have hqn := hqo.2
          have HQI : Hid (∀ (hh : ii < (its.map IP.it).length), (its.map IP.it)[ii] = q.it) := fun hh => by rw [List.getElem_map, hq]
          clear hq
          have N := H.nb
          have B := H.b
          have KF := H.kf
          have HP := H.prt
          have HEK : Hid (ks.map Part.xs = xs.map It.k) := H.ek
          have HEV : Hid (vs.map Part.xs = xs.map It.v) := H.ev
          have HSK : Hid (∀ q ∈ ks, Sl w0 q.ao q.n q.cap q.xs) := H.sk
          have HSV : Hid (∀ q ∈ vs, Sl w0 q.ao q.n q.cap q.xs) := H.sv
          have hxl := H.prt.len
          have hkl2 := congrArg List.length H.ek
          have hvl := congrArg List.length H.ev
          have hsl : segs.length ≤ ii := H.prt.many
          rw [List.length_map, List.length_map] at hkl2 hvl
          have HXL : Hid (ks.length ≤ 50000 ∧ vs.length ≤ 50000 ∧ segs.length ≤ 50000) := ⟨by omega, by omega, by omega⟩
          have HLL : Hid (segs.length = xs.length) := hxl
          clear H hxl hkl2 hvl hsl
          have lc0 := (HC.out wr B).1
          have lc3 := N.arr.cell 0
          by_cases hlv : lev q.k.xs = M
          · have hlvb : ((lev q.k.xs : Int) == (M : Int)) = true := by simp [hlv]
            have HLV : Hid (lev q.k.xs = M) := hlv
            clear hlv
            go_wp2
            have tHS : Hid (∀ V, Below wr.heap.size wr V → V.cell? ⟨b, off + ii * 2, none⟩ = some (.slice q.k.ao q.k.n q.k.cap) ∧ V.cell? ⟨wI.heap.size, 0, none⟩ = some (.int .i64 (M : Nat))) := fun V hV => ⟨(hV.cell (World.block_lt_of_cell? _ _ lc0)).trans lc0, (hV.cell (World.block_lt_of_cell? _ _ lc3)).trans lc3⟩
            have tE0 : Below wr.heap.size wr wr.drew := (Below.refl _ _).drew
            refine wp_region_noPanic ?_
            refine wp_region_held_drew (S := fun V => V.cell? ⟨b, off + ii * 2, none⟩ = some (.slice q.k.ao q.k.n q.k.cap) ∧ V.cell? ⟨wI.heap.size, 0, none⟩ = some (.int .i64 (M : Nat))) (by kernel_rfl) (tHS.out _ tE0) (fun tH0 => ?_)
            obtain ⟨tv0, hv0⟩ : ∃ v, v = wr.drew := ⟨_, rfl⟩
            rw [← hv0] at tH0 tE0 ⊢
            clear hv0
            refine hr_take_w 0 (some 38) (.slice (some ⟨b, off, none⟩) n cap) rfl rfl (by kernel_rfl) (by kernel_rfl) (by kernel_rfl) rfl (fun W hW => by obtain ⟨h0, h1⟩ := hW; go_simp) tH0 ?_
            simp only [FL]
            refine hr_take_w 1 (some 39) (.int .i64 (ii : Nat)) rfl rfl (by kernel_rfl) (by kernel_rfl) (by kernel_rfl) rfl (fun W hW => by obtain ⟨h0, h1⟩ := hW; go_simp) tH0 ?_
            simp only [FL]
            refine hr_take_w 2 (some 40) (.pointer (some ⟨b, off + ii * 2, none⟩)) rfl rfl (by kernel_rfl) (by kernel_rfl) (by kernel_rfl) rfl (fun W hW => by obtain ⟨h0, h1⟩ := hW; go_simp) tH0 ?_
            simp only [FL]
            refine hr_take_w 3 (some 41) (.pointer (some ⟨b, off + ii * 2, none⟩)) rfl rfl (by kernel_rfl) (by kernel_rfl) (by kernel_rfl) rfl (fun W hW => by obtain ⟨h0, h1⟩ := hW; go_simp) tH0 ?_
            simp only [FL]
            refine hr_take_w 4 (some 42) (.slice q.k.ao q.k.n q.k.cap) rfl rfl (by kernel_rfl) (by kernel_rfl) (by kernel_rfl) rfl (fun W hW => by obtain ⟨h0, h1⟩ := hW; go_simp) tH0 ?_
            simp only [FL]
            refine hr_take_w 6 (some 44) (.pointer (some ⟨wI.heap.size, 0, none⟩)) rfl rfl (by kernel_rfl) (by kernel_rfl) (by kernel_rfl) rfl (fun W hW => by obtain ⟨h0, h1⟩ := hW; go_simp) tH0 ?_
            simp only [FL]
            refine hr_take_w 7 (some 45) (.pointer (some ⟨wI.heap.size, 0, none⟩)) rfl rfl (by kernel_rfl) (by kernel_rfl) (by kernel_rfl) rfl (fun W hW => by obtain ⟨h0, h1⟩ := hW; go_simp) tH0 ?_
            simp only [FL]
            refine hr_take_w 8 (some 46) (.pointer (some ⟨wI.heap.size, 0, none⟩)) rfl rfl (by kernel_rfl) (by kernel_rfl) (by kernel_rfl) rfl (fun W hW => by obtain ⟨h0, h1⟩ := hW; go_simp) tH0 ?_
            simp only [FL]
            refine hr_take_w 9 (some 47) (.int .i64 (M : Nat)) rfl rfl (by kernel_rfl) (by kernel_rfl) (by kernel_rfl) rfl (fun W hW => by obtain ⟨h0, h1⟩ := hW; go_simp) tH0 ?_
            simp only [FL]
            refine hr_call_w 5 (some 43) 57 #[.slice q.k.ao q.k.n q.k.cap] rfl rfl (by kernel_rfl) rfl (by go_simp) (fun v w' => v = .int .i64 (lev q.k.xs : Nat) ∧ Below tv0.heap.size tv0 w') ((rlevel_any tv0 q.k.ao q.k.n q.k.cap q.k.xs (hqI.1.below (B.trans (tE0.mono B.size))) hqn).mono (by
              rintro e w' ⟨rfl, C⟩
              exact ⟨_, rfl, rfl, C⟩)) ?_
            rintro v tv1 ⟨rfl, tC0⟩
            have tE1 := tE0.trans (tC0.mono tE0.size)
            have tH1 := tHS.out tv1 tE1
            refine ⟨tH1, ?_⟩
            simp only [FL]
            refine hr_take_w 10 (some 48) (.bool true) rfl rfl (by kernel_rfl) (by kernel_rfl) (by kernel_rfl) rfl (fun W hW => by obtain ⟨h0, h1⟩ := hW; go_simp) tH1 ?_
            simp only [FL]
            refine wpAnyH_done (by kernel_rfl) ?_ _
            refine NoPanic.normal ?_
            clear lc0 lc3 tHS tH0 tH1
            replace N := N.below tE1
            replace B := B.trans (tE1.mono B.size)
            replace KF := KF.chg (Chg.below tE1)
            go_wp2
            have pE0 : Below tv1.heap.size tv1 tv1.drew := (Below.refl _ _).drew
            refine wp_region_noPanic ?_
            refine wp_region_held_drew (S := fun _ => True) (by kernel_rfl) trivial (fun _ => ?_)
            obtain ⟨pv0, hv0⟩ : ∃ v, v = tv1.drew := ⟨_, rfl⟩
            rw [← hv0] at pE0 ⊢
            clear hv0
            refine hr_take_w 0 (some 49) (.pointer (some ⟨wI.heap.size, 0, none⟩)) rfl rfl (by kernel_rfl) (by kernel_rfl) (by kernel_rfl) rfl (fun W hW => by go_simp) trivial ?_
            simp only [FL]
            refine hr_take_w 1 (some 50) (.pointer (some ⟨wI.heap.size, 0, none⟩)) rfl rfl (by kernel_rfl) (by kernel_rfl) (by kernel_rfl) rfl (fun W hW => by go_simp) trivial ?_
            simp only [FL]
            refine hr_take_w 2 (some 51) (.pointer (some ⟨wI.heap.size, 0, none⟩)) rfl rfl (by kernel_rfl) (by kernel_rfl) (by kernel_rfl) rfl (fun W hW => by go_simp) trivial ?_
            simp only [FL]
            refine hr_take_w 3 (some 52) (.pointer (some ⟨wI.heap.size, 1, none⟩)) rfl rfl (by kernel_rfl) (by kernel_rfl) (by kernel_rfl) rfl (fun W hW => by go_simp) trivial ?_
            simp only [FL]
            refine hr_take_w 5 (some 54) (.slice (some ⟨b, off, none⟩) n cap) rfl rfl (by kernel_rfl) (by kernel_rfl) (by kernel_rfl) rfl (fun W hW => by go_simp) trivial ?_
            simp only [FL]
            refine hr_take_w 6 (some 55) (.int .i64 (ii : Nat)) rfl rfl (by kernel_rfl) (by kernel_rfl) (by kernel_rfl) rfl (fun W hW => by go_simp) trivial ?_
            simp only [FL]
            refine hr_take_w 7 (some 56) (.pointer (some ⟨b, off + ii * 2, none⟩)) rfl rfl (by kernel_rfl) (by kernel_rfl) (by kernel_rfl) rfl (fun W hW => by go_simp) trivial ?_
            simp only [FL]
            refine hr_take_w 8 (some 57) (.pointer (some ⟨b, off + ii * 2, none⟩)) rfl rfl (by kernel_rfl) (by kernel_rfl) (by kernel_rfl) rfl (fun W hW => by go_simp) trivial ?_
            simp only [FL]
            refine wpAnyH_effto 4 (fun zi zv zw => (zi = 4 → zv = k) ∧ (zi = 9 → zv = .slice q.k.ao q.k.n q.k.cap) ∧ (zi = 10 → ∃ g1, zv = .slice (some ⟨g1, 0, none⟩) 1 1 ∧ VL zw (some ⟨g1, 0, none⟩) 1 1 [.slice q.k.ao q.k.n q.k.cap])) [(4, 53), (9, 58), (10, 59)] 107 (by kernel_rfl) (by decide) (by decide) rfl ?_ (fun _ _ => trivial) ?_ ?_
            · intro zi v w w' h hb
              refine ⟨fun e => ?_, fun e => ?_, fun e => ?_⟩
              · have h := h.1 e
                exact h
              · have h := h.2.1 e
                exact h
              · have h := h.2.2 e
                obtain ⟨g1, h1, h2⟩ := h
                exact ⟨g1, h1, h2.below hb⟩
            · intro zp zhi o a w ho hs hb hdep
              have pEB := pE0.trans (hb.mono pE0.size)
              simp only [List.mem_cons, List.not_mem_nil, or_false] at zhi
              rcases zhi with rfl | rfl | rfl
              · obtain rfl : _ = o := Option.some.inj (show some _ = some o from ho)
                have t52 : a.tmps[52]? = some (.pointer (some ⟨wI.heap.size, 1, none⟩)) := hs.get 52 (by kernel_rfl) rfl
                have N' := N.below pEB
                have lc := N'.arr.cell 1
                exact .inl ⟨k, w, by go_simp, ⟨fun _ => rfl, fun e => absurd e (by decide), fun e => absurd e (by decide)⟩, Below.refl _ _⟩
              · obtain rfl : _ = o := Option.some.inj (show some _ = some o from ho)
                have t57 : a.tmps[57]? = some (.pointer (some ⟨b, off + ii * 2, none⟩)) := hs.get 57 (by kernel_rfl) rfl
                have lc := (HC.out w (B.trans (pEB.mono B.size))).1
                exact .inl ⟨.slice q.k.ao q.k.n q.k.cap, w, by go_simp, ⟨fun e => absurd e (by decide), fun _ => rfl, fun e => absurd e (by decide)⟩, Below.refl _ _⟩
              · obtain rfl : _ = o := Option.some.inj (show some _ = some o from ho)
                obtain ⟨x58, t58, f58⟩ := (hdep 9 (by kernel_rfl)).at 58 (by kernel_rfl)
                replace f58 := f58.2.1 rfl
                subst f58
                exact .inl ⟨_, _, by go_simp, ⟨fun e => absurd e (by decide), fun e => absurd e (by decide), fun _ => ⟨_, rfl, VL.new w [.slice q.k.ao q.k.n q.k.cap] 40 (by simp [maxLen])⟩⟩, (Below.refl _ _).alloc (Nat.le_refl _) _⟩
            intro zf pv1 hb hh
            have pE1 := pE0.trans (hb.mono pE0.size)
            obtain e4 := (hh (4, 53) (by simp)).1 rfl
            obtain e9 := (hh (9, 58) (by simp)).2.1 rfl
            obtain ⟨g1, e10, G1⟩ := (hh (10, 59) (by simp)).2.2 rfl
            clear hh hb
            simp only [putL, List.foldl_cons, List.foldl_nil, e4, e9, e10]
            clear e4 e9 e10
            simp only [FL]
            have N1 := N.below pE1
            obtain ⟨x1, W1, ha, P1⟩ := N1.appK (by decide) (by decide) (ty := 90) (u := .slice q.k.ao q.k.n q.k.cap) G1 rfl (by rw [List.length_map]; have := HXL.out; omega)
            obtain ⟨ko2, kn2, kc2, rfl⟩ := row_slice P1.nb.ok
            refine hr_ex 11 (some 60) rfl rfl (by kernel_rfl) rfl (R := fun v w' => (.slice ko2 kn2 kc2) = v ∧ W1 = w') ⟨_, W1, by simp [execOp, Act.eval, resolve, invoke, builtin, ha], rfl, rfl⟩ ?_
            rintro v w' ⟨rfl, rfl⟩
            refine ⟨trivial, ?_⟩
            simp only [FL]
            refine hr_take_w 12 (some 61) (.pointer (some ⟨wI.heap.size, 0, none⟩)) rfl rfl (by kernel_rfl) (by kernel_rfl) (by kernel_rfl) rfl (fun W hW => by go_simp) trivial ?_
            simp only [FL]
            refine hr_take_w 13 (some 62) (.pointer (some ⟨wI.heap.size, 1, none⟩)) rfl rfl (by kernel_rfl) (by kernel_rfl) (by kernel_rfl) rfl (fun W hW => by go_simp) trivial ?_
            simp only [FL]
            have lc := P1.arr.cell 1
            have lf := P1.arr.free 1
            refine hr_skip 14 none (w' := W1.setCell ⟨wI.heap.size, 1, none⟩ (.slice ko2 kn2 kc2)) rfl rfl (by kernel_rfl) rfl (by go_simp) trivial ?_
            simp only [Act.put]
            refine wpAnyH_done (by kernel_rfl) ?_ _
            refine NoPanic.normal ?_
            clear lc lf ha
            have D1 := (Chg.below (g := wI.heap.size) (k := k) (v := v) (c := c) pE1).trans P1.chg
            have N3 := P1.nb
            have KF3 := KF.chg D1
            have B3 := B.trans ((pE1.mono B.size).trans P1.below)
            obtain ⟨W3, hW2⟩ : ∃ W2, W2 = W1.setCell ⟨wI.heap.size, 1, none⟩ (.slice ko2 kn2 kc2) := ⟨_, rfl⟩
            rw [← hW2] at N3 KF3 B3 ⊢
            clear hW2
            go_wp2
            have rE0 : Below W3.heap.size W3 W3.drew := (Below.refl _ _).drew
            refine wp_region_noPanic ?_
            refine wp_region_held_drew (S := fun _ => True) (by kernel_rfl) trivial (fun _ => ?_)
            obtain ⟨rv0, hv0⟩ : ∃ v, v = W3.drew := ⟨_, rfl⟩
            rw [← hv0] at rE0 ⊢
            clear hv0
            refine hr_take_w 0 (some 63) (.pointer (some ⟨wI.heap.size, 0, none⟩)) rfl rfl (by kernel_rfl) (by kernel_rfl) (by kernel_rfl) rfl (fun W hW => by go_simp) trivial ?_
            simp only [FL]
            refine hr_take_w 1 (some 64) (.pointer (some ⟨wI.heap.size, 0, none⟩)) rfl rfl (by kernel_rfl) (by kernel_rfl) (by kernel_rfl) rfl (fun W hW => by go_simp) trivial ?_
            simp only [FL]
            refine hr_take_w 2 (some 65) (.pointer (some ⟨wI.heap.size, 0, none⟩)) rfl rfl (by kernel_rfl) (by kernel_rfl) (by kernel_rfl) rfl (fun W hW => by go_simp) trivial ?_
            simp only [FL]
            refine hr_take_w 3 (some 66) (.pointer (some ⟨wI.heap.size, 2, none⟩)) rfl rfl (by kernel_rfl) (by kernel_rfl) (by kernel_rfl) rfl (fun W hW => by go_simp) trivial ?_
            simp only [FL]
            refine hr_take_w 5 (some 68) (.slice (some ⟨b, off, none⟩) n cap) rfl rfl (by kernel_rfl) (by kernel_rfl) (by kernel_rfl) rfl (fun W hW => by go_simp) trivial ?_
            simp only [FL]
            refine hr_take_w 6 (some 69) (.int .i64 (ii : Nat)) rfl rfl (by kernel_rfl) (by kernel_rfl) (by kernel_rfl) rfl (fun W hW => by go_simp) trivial ?_
            simp only [FL]
            refine hr_take_w 7 (some 70) (.pointer (some ⟨b, off + ii * 2, none⟩)) rfl rfl (by kernel_rfl) (by kernel_rfl) (by kernel_rfl) rfl (fun W hW => by go_simp) trivial ?_
            simp only [FL]
            refine hr_take_w 8 (some 71) (.pointer (some ⟨b, off + ii * 2 + 1, none⟩)) rfl rfl (by kernel_rfl) (by kernel_rfl) (by kernel_rfl) rfl (fun W hW => by go_simp) trivial ?_
            simp only [FL]
            refine wpAnyH_effto 4 (fun zi zv zw => (zi = 4 → zv = v) ∧ (zi = 9 → zv = .slice q.v.ao q.v.n q.v.cap) ∧ (zi = 10 → ∃ g1, zv = .slice (some ⟨g1, 0, none⟩) 1 1 ∧ VL zw (some ⟨g1, 0, none⟩) 1 1 [.slice q.v.ao q.v.n q.v.cap])) [(4, 67), (9, 72), (10, 73)] 107 (by kernel_rfl) (by decide) (by decide) rfl ?_ (fun _ _ => trivial) ?_ ?_
            · intro zi v w w' h hb
              refine ⟨fun e => ?_, fun e => ?_, fun e => ?_⟩
              · have h := h.1 e
                exact h
              · have h := h.2.1 e
                exact h
              · have h := h.2.2 e
                obtain ⟨g1, h1, h2⟩ := h
                exact ⟨g1, h1, h2.below hb⟩
            · intro zp zhi o a w ho hs hb hdep
              have rEB := rE0.trans (hb.mono rE0.size)
              simp only [List.mem_cons, List.not_mem_nil, or_false] at zhi
              rcases zhi with rfl | rfl | rfl
              · obtain rfl : _ = o := Option.some.inj (show some _ = some o from ho)
                have t66 : a.tmps[66]? = some (.pointer (some ⟨wI.heap.size, 2, none⟩)) := hs.get 66 (by kernel_rfl) rfl
                have N' := N3.below rEB
                have lc := N'.arr.cell 2
                exact .inl ⟨v, w, by go_simp, ⟨fun _ => rfl, fun e => absurd e (by decide), fun e => absurd e (by decide)⟩, Below.refl _ _⟩
              · obtain rfl : _ = o := Option.some.inj (show some _ = some o from ho)
                have t71 : a.tmps[71]? = some (.pointer (some ⟨b, off + ii * 2 + 1, none⟩)) := hs.get 71 (by kernel_rfl) rfl
                have lc := (HC.out w (B3.trans (rEB.mono B3.size))).2
                exact .inl ⟨.slice q.v.ao q.v.n q.v.cap, w, by go_simp, ⟨fun e => absurd e (by decide), fun _ => rfl, fun e => absurd e (by decide)⟩, Below.refl _ _⟩
              · obtain rfl : _ = o := Option.some.inj (show some _ = some o from ho)
                obtain ⟨x72, t72, f72⟩ := (hdep 9 (by kernel_rfl)).at 72 (by kernel_rfl)
                replace f72 := f72.2.1 rfl
                subst f72
                exact .inl ⟨_, _, by go_simp, ⟨fun e => absurd e (by decide), fun e => absurd e (by decide), fun _ => ⟨_, rfl, VL.new w [.slice q.v.ao q.v.n q.v.cap] 40 (by simp [maxLen])⟩⟩, (Below.refl _ _).alloc (Nat.le_refl _) _⟩
            intro zf rv1 hb hh
            have rE1 := rE0.trans (hb.mono rE0.size)
            obtain e4 := (hh (4, 67) (by simp)).1 rfl
            obtain e9 := (hh (9, 72) (by simp)).2.1 rfl
            obtain ⟨g1, e10, G1⟩ := (hh (10, 73) (by simp)).2.2 rfl
            clear hh hb
            simp only [putL, List.foldl_cons, List.foldl_nil, e4, e9, e10]
            clear e4 e9 e10
            simp only [FL]
            have N1 := N3.below rE1
            obtain ⟨x2, W1, ha, P1⟩ := N1.appV (by decide) (by decide) (ty := 90) (u := .slice q.v.ao q.v.n q.v.cap) G1 rfl (by rw [List.length_map]; have := HXL.out; omega)
            obtain ⟨vo2, vn2, vc2, rfl⟩ := row_slice P1.nb.ov
            refine hr_ex 11 (some 74) rfl rfl (by kernel_rfl) rfl (R := fun v w' => (.slice vo2 vn2 vc2) = v ∧ W1 = w') ⟨_, W1, by simp [execOp, Act.eval, resolve, invoke, builtin, ha], rfl, rfl⟩ ?_
            rintro v w' ⟨rfl, rfl⟩
            refine ⟨trivial, ?_⟩
            simp only [FL]
            refine hr_take_w 12 (some 75) (.pointer (some ⟨wI.heap.size, 0, none⟩)) rfl rfl (by kernel_rfl) (by kernel_rfl) (by kernel_rfl) rfl (fun W hW => by go_simp) trivial ?_
            simp only [FL]
            refine hr_take_w 13 (some 76) (.pointer (some ⟨wI.heap.size, 2, none⟩)) rfl rfl (by kernel_rfl) (by kernel_rfl) (by kernel_rfl) rfl (fun W hW => by go_simp) trivial ?_
            simp only [FL]
            have lc := P1.arr.cell 2
            have lf := P1.arr.free 2
            refine hr_skip 14 none (w' := W1.setCell ⟨wI.heap.size, 2, none⟩ (.slice vo2 vn2 vc2)) rfl rfl (by kernel_rfl) rfl (by go_simp) trivial ?_
            simp only [Act.put]
            refine wpAnyH_done (by kernel_rfl) ?_ _
            refine NoPanic.normal ?_
            clear lc lf ha
            have D1 := (Chg.below (g := wI.heap.size) (k := (.slice ko2 kn2 kc2)) (v := v) (c := c) rE1).trans P1.chg
            have N4 := P1.nb
            have KF4 := KF3.chg D1
            have B4 := B3.trans ((rE1.mono B3.size).trans P1.below)
            obtain ⟨W4, hW2⟩ : ∃ W2, W2 = W1.setCell ⟨wI.heap.size, 2, none⟩ (.slice vo2 vn2 vc2) := ⟨_, rfl⟩
            rw [← hW2] at N4 KF4 B4 ⊢
            clear hW2
            go_wp2
            have sE0 : Below W4.heap.size W4 W4.drew := (Below.refl _ _).drew
            refine wp_region_noPanic ?_
            refine wp_region_held_drew (S := fun _ => True) (by kernel_rfl) trivial (fun _ => ?_)
            obtain ⟨sv0, hv0⟩ : ∃ v, v = W4.drew := ⟨_, rfl⟩
            rw [← hv0] at sE0 ⊢
            clear hv0
            refine hr_take_w 0 (some 77) (.pointer (some ⟨wI.heap.size, 0, none⟩)) rfl rfl (by kernel_rfl) (by kernel_rfl) (by kernel_rfl) rfl (fun W hW => by go_simp) trivial ?_
            simp only [FL]
            refine hr_take_w 1 (some 78) (.pointer (some ⟨wI.heap.size, 0, none⟩)) rfl rfl (by kernel_rfl) (by kernel_rfl) (by kernel_rfl) rfl (fun W hW => by go_simp) trivial ?_
            simp only [FL]
            refine hr_take_w 2 (some 79) (.pointer (some ⟨wI.heap.size, 0, none⟩)) rfl rfl (by kernel_rfl) (by kernel_rfl) (by kernel_rfl) rfl (fun W hW => by go_simp) trivial ?_
            simp only [FL]
            refine hr_take_w 3 (some 80) (.pointer (some ⟨wI.heap.size, 3, none⟩)) rfl rfl (by kernel_rfl) (by kernel_rfl) (by kernel_rfl) rfl (fun W hW => by go_simp) trivial ?_
            simp only [FL]
            refine hr_take_w 5 (some 82) (.slice (some ⟨b, off, none⟩) n cap) rfl rfl (by kernel_rfl) (by kernel_rfl) (by kernel_rfl) rfl (fun W hW => by go_simp) trivial ?_
            simp only [FL]
            refine hr_take_w 6 (some 83) (.int .i64 (fr : Nat)) rfl rfl (by kernel_rfl) (by kernel_rfl) (by kernel_rfl) rfl (fun W hW => by go_simp) trivial ?_
            simp only [FL]
            refine hr_take_w 7 (some 84) (.int .i64 (ii : Nat)) rfl rfl (by kernel_rfl) (by kernel_rfl) (by kernel_rfl) rfl (fun W hW => by go_simp) trivial ?_
            simp only [FL]
            refine hr_take_w 8 (some 85) (.slice (bk2 (some ⟨b, off, none⟩) cap fr) (ii - fr) (cap - fr)) rfl rfl (by kernel_rfl) (by kernel_rfl) (by kernel_rfl) rfl (fun W hW => by simp [execOp, Act.eval, run_midR (W := W) (n := n) hfr hic]) trivial ?_
            simp only [FL]
            refine wpAnyH_effto 4 (fun zi zv zw => (zi = 4 → zv = c) ∧ (zi = 9 → ∃ po, zv = .pointer po ∧ Far zw w0.heap.size wI.heap.size wI.heap.size (.slice ko2 kn2 kc2) (.slice vo2 vn2 vc2) c fun x => T x (.pointer po) (((its.drop fr).take (ii - fr)).map IP.it)) ∧ (zi = 10 → ∃ po g1, zv = .slice (some ⟨g1, 0, none⟩) 1 1 ∧ VL zw (some ⟨g1, 0, none⟩) 1 1 [.pointer po] ∧ Far zw w0.heap.size wI.heap.size wI.heap.size (.slice ko2 kn2 kc2) (.slice vo2 vn2 vc2) c fun x => T x (.pointer po) (((its.drop fr).take (ii - fr)).map IP.it))) [(4, 81), (9, 86), (10, 87)] 107 (by kernel_rfl) (by decide) (by decide) rfl ?_ (fun _ _ => trivial) ?_ ?_
            · intro zi v w w' h hb
              refine ⟨fun e => ?_, fun e => ?_, fun e => ?_⟩
              · have h := h.1 e
                exact h
              · have h := h.2.1 e
                obtain ⟨po, h1, h2⟩ := h
                exact ⟨po, h1, h2.chg (Chg.below hb)⟩
              · have h := h.2.2 e
                obtain ⟨po, g1, h1, h2, h3⟩ := h
                exact ⟨po, g1, h1, h2.below hb, h3.chg (Chg.below hb)⟩
            · intro zp zhi o a w ho hs hb hdep
              have sEB := sE0.trans (hb.mono sE0.size)
              simp only [List.mem_cons, List.not_mem_nil, or_false] at zhi
              rcases zhi with rfl | rfl | rfl
              · obtain rfl : _ = o := Option.some.inj (show some _ = some o from ho)
                have t80 : a.tmps[80]? = some (.pointer (some ⟨wI.heap.size, 3, none⟩)) := hs.get 80 (by kernel_rfl) rfl
                have N' := N4.below sEB
                have lc := N'.arr.cell 3
                exact .inl ⟨c, w, by go_simp, ⟨fun _ => rfl, fun e => absurd e (by decide), fun e => absurd e (by decide)⟩, Below.refl _ _⟩
              · obtain rfl : _ = o := Option.some.inj (show some _ = some o from ho)
                have t85 : a.tmps[85]? = some (.slice (bk2 (some ⟨b, off, none⟩) cap fr) (ii - fr) (cap - fr)) := hs.get 85 (by kernel_rfl) rfl
                have N' := N4.below sEB
                have BB := B4.trans (sEB.mono B4.size)
                have hsz := BB.size
                have CS := ih (ii - fr) (by omega) w (bk2 (some ⟨b, off, none⟩) cap fr) (ii - fr) (cap - fr) ((its.drop fr).take (ii - fr)) (((hL.from fr (by omega)).front (ii - fr) (by omega)).below BB) (fun y hy => hok y (List.mem_of_mem_drop (List.mem_of_mem_take hy))) (h0.trans (BB.mono h0.size)) (by omega) (by omega)
                refine .inr ⟨25, #[.slice (bk2 (some ⟨b, off, none⟩) cap fr) (ii - fr) (cap - fr)], by go_simp, CS.mono ?_⟩
                rintro e w' ⟨po, rfl, O, C⟩
                exact ⟨_, rfl, ⟨fun e => absurd e (by decide), fun _ => ⟨po, rfl, O.far hsz (fun x hx => N'.offLow (by have := h0.size; omega)) (fun x hx => N'.offNew hx)⟩, fun e => absurd e (by decide)⟩, C⟩
              · obtain rfl : _ = o := Option.some.inj (show some _ = some o from ho)
                obtain ⟨x86, t86, f86⟩ := (hdep 9 (by kernel_rfl)).at 86 (by kernel_rfl)
                replace f86 := f86.2.1 rfl
                obtain ⟨po, rfl, T1⟩ := f86
                have CA : Below w.heap.size w (w.alloc (.cells #[.pointer po] 54)) := (Below.refl _ _).alloc (Nat.le_refl _) _
                exact .inl ⟨_, _, by go_simp, ⟨fun e => absurd e (by decide), fun e => absurd e (by decide), fun _ => ⟨po, _, rfl, VL.new w [.pointer po] 54 (by simp [maxLen]), T1.chg (Chg.below CA)⟩⟩, CA⟩
            intro zf sv1 hb hh
            have sE1 := sE0.trans (hb.mono sE0.size)
            obtain e4 := (hh (4, 81) (by simp)).1 rfl
            obtain ⟨po, g1, e10, G1, T1⟩ := (hh (10, 87) (by simp)).2.2 rfl
            clear hh hb
            simp only [putL, List.foldl_cons, List.foldl_nil, e4, e10]
            clear e4 e10
            simp only [FL]
            have N1 := N4.below sE1
            have D1 : Chg W4 sv1 wI.heap.size (.slice ko2 kn2 kc2) (.slice vo2 vn2 vc2) c (.slice ko2 kn2 kc2) (.slice vo2 vn2 vc2) c := Chg.below sE1
            have KF1 := (KF4.chg D1).app T1
            obtain ⟨c2, W1, ha, P1⟩ := N1.appC (by decide) (by decide) (ps := 95) (ty := 95) Tryz.underlying95 rninfo G1 rfl (by rw [KF4.len]; have := HXL.out; omega)
            obtain ⟨co2, cn2, cc2, rfl⟩ := row_slice P1.nb.oc
            refine hr_ex 11 (some 88) rfl rfl (by kernel_rfl) rfl (R := fun v w' => (.slice co2 cn2 cc2) = v ∧ W1 = w') ⟨_, W1, by simp [execOp, Act.eval, resolve, invoke, builtin, ha], rfl, rfl⟩ ?_
            rintro v w' ⟨rfl, rfl⟩
            refine ⟨trivial, ?_⟩
            simp only [FL]
            refine hr_take_w 12 (some 89) (.pointer (some ⟨wI.heap.size, 0, none⟩)) rfl rfl (by kernel_rfl) (by kernel_rfl) (by kernel_rfl) rfl (fun W hW => by go_simp) trivial ?_
            simp only [FL]
            refine hr_take_w 13 (some 90) (.pointer (some ⟨wI.heap.size, 3, none⟩)) rfl rfl (by kernel_rfl) (by kernel_rfl) (by kernel_rfl) rfl (fun W hW => by go_simp) trivial ?_
            simp only [FL]
            have lc := P1.arr.cell 3
            have lf := P1.arr.free 3
            refine hr_skip 14 none (w' := W1.setCell ⟨wI.heap.size, 3, none⟩ (.slice co2 cn2 cc2)) rfl rfl (by kernel_rfl) rfl (by go_simp) trivial ?_
            simp only [Act.put]
            refine wpAnyH_done (by kernel_rfl) ?_ _
            refine NoPanic.normal ?_
            clear lc lf ha
            have N5 := P1.nb
            have KF5 := KF1.chg P1.chg
            have B5 := B4.trans ((sE1.mono B4.size).trans P1.below)
            obtain ⟨W5, hW5⟩ : ∃ W5, W5 = W1.setCell ⟨wI.heap.size, 3, none⟩ (.slice co2 cn2 cc2) := ⟨_, rfl⟩
            rw [← hW5] at N5 KF5 B5 ⊢
            clear hW5
            go_wp2
            go_roundw
            case rel =>
              have HT := HP.take (by rw [List.length_map]; omega) (by rw [HQI.out]; exact HLV.out)
              refine ⟨ii + 1, ii + 1, (.slice ko2 kn2 kc2), (.slice vo2 vn2 vc2), (.slice co2 cn2 cc2), ks ++ [q.k], vs ++ [q.v], us ++ [.pointer po], _, _, by go_num, by go_num, ?_, B5, HT, ?_, ?_, ?_, ?_, ?_⟩
              · rw [List.map_append, List.map_append]
                exact N5
              · rw [List.map_append, List.map_append, HEK.out, HQI.out]
                rfl
              · rw [List.map_append, List.map_append, HEV.out, HQI.out]
                rfl
              · rw [← List.map_take, ← List.map_drop, List.drop_take]
                exact KF5
              · intro y hy
                rcases List.mem_append.1 hy with hy | hy
                · exact HSK.out y hy
                · rw [List.mem_singleton.1 hy]; exact hqo.1.1
              · intro y hy
                rcases List.mem_append.1 hy with hy | hy
                · exact HSV.out y hy
                · rw [List.mem_singleton.1 hy]; exact hqo.1.2
            case measure => simp [intOf]; omega
          · have hlvb : ((lev q.k.xs : Int) == (M : Int)) = false := by simp; omega
            have HLV : Hid (¬ lev q.k.xs = M) := hlv
            clear hlv
            go_wp2
            have tHS : Hid (∀ V, Below wr.heap.size wr V → V.cell? ⟨b, off + ii * 2, none⟩ = some (.slice q.k.ao q.k.n q.k.cap) ∧ V.cell? ⟨wI.heap.size, 0, none⟩ = some (.int .i64 (M : Nat))) := fun V hV => ⟨(hV.cell (World.block_lt_of_cell? _ _ lc0)).trans lc0, (hV.cell (World.block_lt_of_cell? _ _ lc3)).trans lc3⟩
            have tE0 : Below wr.heap.size wr wr.drew := (Below.refl _ _).drew
            refine wp_region_noPanic ?_
            refine wp_region_held_drew (S := fun V => V.cell? ⟨b, off + ii * 2, none⟩ = some (.slice q.k.ao q.k.n q.k.cap) ∧ V.cell? ⟨wI.heap.size, 0, none⟩ = some (.int .i64 (M : Nat))) (by kernel_rfl) (tHS.out _ tE0) (fun tH0 => ?_)
            obtain ⟨tv0, hv0⟩ : ∃ v, v = wr.drew := ⟨_, rfl⟩
            rw [← hv0] at tH0 tE0 ⊢
            clear hv0
            refine hr_take_w 0 (some 38) (.slice (some ⟨b, off, none⟩) n cap) rfl rfl (by kernel_rfl) (by kernel_rfl) (by kernel_rfl) rfl (fun W hW => by obtain ⟨h0, h1⟩ := hW; go_simp) tH0 ?_
            simp only [FL]
            refine hr_take_w 1 (some 39) (.int .i64 (ii : Nat)) rfl rfl (by kernel_rfl) (by kernel_rfl) (by kernel_rfl) rfl (fun W hW => by obtain ⟨h0, h1⟩ := hW; go_simp) tH0 ?_
            simp only [FL]
            refine hr_take_w 2 (some 40) (.pointer (some ⟨b, off + ii * 2, none⟩)) rfl rfl (by kernel_rfl) (by kernel_rfl) (by kernel_rfl) rfl (fun W hW => by obtain ⟨h0, h1⟩ := hW; go_simp) tH0 ?_
            simp only [FL]
            refine hr_take_w 3 (some 41) (.pointer (some ⟨b, off + ii * 2, none⟩)) rfl rfl (by kernel_rfl) (by kernel_rfl) (by kernel_rfl) rfl (fun W hW => by obtain ⟨h0, h1⟩ := hW; go_simp) tH0 ?_
            simp only [FL]
            refine hr_take_w 4 (some 42) (.slice q.k.ao q.k.n q.k.cap) rfl rfl (by kernel_rfl) (by kernel_rfl) (by kernel_rfl) rfl (fun W hW => by obtain ⟨h0, h1⟩ := hW; go_simp) tH0 ?_
            simp only [FL]
            refine hr_take_w 6 (some 44) (.pointer (some ⟨wI.heap.size, 0, none⟩)) rfl rfl (by kernel_rfl) (by kernel_rfl) (by kernel_rfl) rfl (fun W hW => by obtain ⟨h0, h1⟩ := hW; go_simp) tH0 ?_
            simp only [FL]
            refine hr_take_w 7 (some 45) (.pointer (some ⟨wI.heap.size, 0, none⟩)) rfl rfl (by kernel_rfl) (by kernel_rfl) (by kernel_rfl) rfl (fun W hW => by obtain ⟨h0, h1⟩ := hW; go_simp) tH0 ?_
            simp only [FL]
            refine hr_take_w 8 (some 46) (.pointer (some ⟨wI.heap.size, 0, none⟩)) rfl rfl (by kernel_rfl) (by kernel_rfl) (by kernel_rfl) rfl (fun W hW => by obtain ⟨h0, h1⟩ := hW; go_simp) tH0 ?_
            simp only [FL]
            refine hr_take_w 9 (some 47) (.int .i64 (M : Nat)) rfl rfl (by kernel_rfl) (by kernel_rfl) (by kernel_rfl) rfl (fun W hW => by obtain ⟨h0, h1⟩ := hW; go_simp) tH0 ?_
            simp only [FL]
            refine hr_call_w 5 (some 43) 57 #[.slice q.k.ao q.k.n q.k.cap] rfl rfl (by kernel_rfl) rfl (by go_simp) (fun v w' => v = .int .i64 (lev q.k.xs : Nat) ∧ Below tv0.heap.size tv0 w') ((rlevel_any tv0 q.k.ao q.k.n q.k.cap q.k.xs (hqI.1.below (B.trans (tE0.mono B.size))) hqn).mono (by
              rintro e w' ⟨rfl, C⟩
              exact ⟨_, rfl, rfl, C⟩)) ?_
            rintro v tv1 ⟨rfl, tC0⟩
            have tE1 := tE0.trans (tC0.mono tE0.size)
            have tH1 := tHS.out tv1 tE1
            refine ⟨tH1, ?_⟩
            simp only [FL]
            refine hr_take_w 10 (some 48) (.bool false) rfl rfl (by kernel_rfl) (by kernel_rfl) (by kernel_rfl) rfl (fun W hW => by obtain ⟨h0, h1⟩ := hW; go_simp) tH1 ?_
            simp only [FL]
            refine wpAnyH_done (by kernel_rfl) ?_ _
            refine NoPanic.normal ?_
            clear lc0 lc3 tHS tH0 tH1
            replace N := N.below tE1
            replace B := B.trans (tE1.mono B.size)
            replace KF := KF.chg (Chg.below tE1)
            go_wp2
            go_roundw
            case rel =>
              refine ⟨ii + 1, fr, _, _, _, ks, vs, us, segs, xs, by go_num, rfl, N, B, HP.skip (by rw [List.length_map]; omega) ?_, HEK.out, HEV.out, KF, HSK.out, HSV.out⟩
              rw [HQI.out]
              have h2 := HLV.out
              have h3 := HMX.out ii (by omega)
              rw [← HQ.out] at h3
              show lev q.k.xs < M
              omega
            case measure => simp [intOf]; omega
        · have hge : ¬ (ii : Int) < (n : Int) := by omega
          have hik : n = ii := by omega
          subst hik
          go_wp2
          have N := H.nb
          have B := H.b
          have KF := H.kf
          have HP := H.prt
          have hsl : segs.length ≤ n := H.prt.many
          have HAT : Hid (∃ x ∈ its.map IP.it, lev x.k = M) := by
            obtain ⟨q, hq, hqM⟩ := HEQ.out
            exact ⟨q.it, List.mem_map_of_mem hq, hqM⟩
          have hln : (its.map IP.it).length = n := by rw [List.length_map]; omega
          have hfr0 : 0 < fr := by
            rw [← hln] at HP
            exact HP.pos HAT.out
          have HXL : Hid (segs.length ≤ 50000) := by show _ ≤ _; omega
          clear hsl
          have zE0 : Below wr.heap.size wr wr.drew := (Below.refl _ _).drew
          refine wp_region_noPanic ?_
          refine wp_region_held_drew (S := fun _ => True) (by kernel_rfl) trivial (fun _ => ?_)
          obtain ⟨zv0, hv0⟩ : ∃ v, v = wr.drew := ⟨_, rfl⟩
          rw [← hv0] at zE0 ⊢
          clear hv0
          refine hr_take_w 0 (some 93) (.pointer (some ⟨wI.heap.size, 0, none⟩)) rfl rfl (by kernel_rfl) (by kernel_rfl) (by kernel_rfl) rfl (fun W hW => by go_simp) trivial ?_
          simp only [FL]
          refine hr_take_w 1 (some 94) (.pointer (some ⟨wI.heap.size, 0, none⟩)) rfl rfl (by kernel_rfl) (by kernel_rfl) (by kernel_rfl) rfl (fun W hW => by go_simp) trivial ?_
          simp only [FL]
          refine hr_take_w 2 (some 95) (.pointer (some ⟨wI.heap.size, 0, none⟩)) rfl rfl (by kernel_rfl) (by kernel_rfl) (by kernel_rfl) rfl (fun W hW => by go_simp) trivial ?_
          simp only [FL]
          refine hr_take_w 3 (some 96) (.pointer (some ⟨wI.heap.size, 3, none⟩)) rfl rfl (by kernel_rfl) (by kernel_rfl) (by kernel_rfl) rfl (fun W hW => by go_simp) trivial ?_
          simp only [FL]
          refine hr_take_w 5 (some 98) (.slice (some ⟨b, off, none⟩) n cap) rfl rfl (by kernel_rfl) (by kernel_rfl) (by kernel_rfl) rfl (fun W hW => by go_simp) trivial ?_
          simp only [FL]
          refine hr_take_w 6 (some 99) (.int .i64 (fr : Nat)) rfl rfl (by kernel_rfl) (by kernel_rfl) (by kernel_rfl) rfl (fun W hW => by go_simp) trivial ?_
          simp only [FL]
          refine hr_take_w 7 (some 100) (.slice (bk2 (some ⟨b, off, none⟩) cap fr) (n - fr) (cap - fr)) rfl rfl (by kernel_rfl) (by kernel_rfl) (by kernel_rfl) rfl (fun W hW => by simp [execOp, Act.eval, run_back2 (W := W) (cap := cap) hfr]) trivial ?_
          simp only [FL]
          refine wpAnyH_effto 4 (fun zi zv zw => (zi = 4 → zv = c) ∧ (zi = 8 → ∃ po, zv = .pointer po ∧ Far zw w0.heap.size wI.heap.size wI.heap.size k v c fun x => T x (.pointer po) ((its.drop fr).map IP.it)) ∧ (zi = 9 → ∃ po g1, zv = .slice (some ⟨g1, 0, none⟩) 1 1 ∧ VL zw (some ⟨g1, 0, none⟩) 1 1 [.pointer po] ∧ Far zw w0.heap.size wI.heap.size wI.heap.size k v c fun x => T x (.pointer po) ((its.drop fr).map IP.it))) [(4, 97), (8, 101), (9, 102)] 107 (by kernel_rfl) (by decide) (by decide) rfl ?_ (fun _ _ => trivial) ?_ ?_
          · intro zi v w w' h hb
            refine ⟨fun e => ?_, fun e => ?_, fun e => ?_⟩
            · have h := h.1 e
              exact h
            · have h := h.2.1 e
              obtain ⟨po, h1, h2⟩ := h
              exact ⟨po, h1, h2.chg (Chg.below hb)⟩
            · have h := h.2.2 e
              obtain ⟨po, g1, h1, h2, h3⟩ := h
              exact ⟨po, g1, h1, h2.below hb, h3.chg (Chg.below hb)⟩
          · intro zp zhi o a w ho hs hb hdep
            have zEB := zE0.trans (hb.mono zE0.size)
            simp only [List.mem_cons, List.not_mem_nil, or_false] at zhi
            rcases zhi with rfl | rfl | rfl
            · obtain rfl : _ = o := Option.some.inj (show some _ = some o from ho)
              have t96 : a.tmps[96]? = some (.pointer (some ⟨wI.heap.size, 3, none⟩)) := hs.get 96 (by kernel_rfl) rfl
              have N' := N.below zEB
              have lc := N'.arr.cell 3
              exact .inl ⟨c, w, by go_simp, ⟨fun _ => rfl, fun e => absurd e (by decide), fun e => absurd e (by decide)⟩, Below.refl _ _⟩
            · obtain rfl : _ = o := Option.some.inj (show some _ = some o from ho)
              have t100 : a.tmps[100]? = some (.slice (bk2 (some ⟨b, off, none⟩) cap fr) (n - fr) (cap - fr)) := hs.get 100 (by kernel_rfl) rfl
              have N' := N.below zEB
              have BB := B.trans (zEB.mono B.size)
              have hsz := BB.size
              have CS := ih (n - fr) (by omega) w (bk2 (some ⟨b, off, none⟩) cap fr) (n - fr) (cap - fr) (its.drop fr) ((hL.from fr (by omega)).below BB) (fun y hy => hok y (List.mem_of_mem_drop hy)) (h0.trans (BB.mono h0.size)) (by omega) (by omega)
              refine .inr ⟨25, #[.slice (bk2 (some ⟨b, off, none⟩) cap fr) (n - fr) (cap - fr)], by go_simp, CS.mono ?_⟩
              rintro e w' ⟨po, rfl, O, C⟩
              exact ⟨_, rfl, ⟨fun e => absurd e (by decide), fun _ => ⟨po, rfl, O.far hsz (fun x hx => N'.offLow (by have := h0.size; omega)) (fun x hx => N'.offNew hx)⟩, fun e => absurd e (by decide)⟩, C⟩
            · obtain rfl : _ = o := Option.some.inj (show some _ = some o from ho)
              obtain ⟨x101, t101, f101⟩ := (hdep 8 (by kernel_rfl)).at 101 (by kernel_rfl)
              replace f101 := f101.2.1 rfl
              obtain ⟨po, rfl, T1⟩ := f101
              have CA : Below w.heap.size w (w.alloc (.cells #[.pointer po] 54)) := (Below.refl _ _).alloc (Nat.le_refl _) _
              exact .inl ⟨_, _, by go_simp, ⟨fun e => absurd e (by decide), fun e => absurd e (by decide), fun _ => ⟨po, _, rfl, VL.new w [.pointer po] 54 (by simp [maxLen]), T1.chg (Chg.below CA)⟩⟩, CA⟩
          intro zf zv1 hb hh
          have zE1 := zE0.trans (hb.mono zE0.size)
          obtain e4 := (hh (4, 97) (by simp)).1 rfl
          obtain ⟨po, g1, e9, G1, T1⟩ := (hh (9, 102) (by simp)).2.2 rfl
          clear hh hb
          simp only [putL, List.foldl_cons, List.foldl_nil, e4, e9]
          clear e4 e9
          simp only [FL]
          have N1 := N.below zE1
          have D1 : Chg wr zv1 wI.heap.size k v c k v c := Chg.below zE1
          have KF1 := (KF.chg D1).app T1
          obtain ⟨c2, W1, ha, P1⟩ := N1.appC (by decide) (by decide) (ps := 95) (ty := 95) Tryz.underlying95 rninfo G1 rfl (by rw [KF.len]; have := HXL.out; omega)
          obtain ⟨co2, cn2, cc2, rfl⟩ := row_slice P1.nb.oc
          refine hr_ex 10 (some 103) rfl rfl (by kernel_rfl) rfl (R := fun v w' => (.slice co2 cn2 cc2) = v ∧ W1 = w') ⟨_, W1, by simp [execOp, Act.eval, resolve, invoke, builtin, ha], rfl, rfl⟩ ?_
          rintro v w' ⟨rfl, rfl⟩
          refine ⟨trivial, ?_⟩
          simp only [FL]
          refine hr_take_w 11 (some 104) (.pointer (some ⟨wI.heap.size, 0, none⟩)) rfl rfl (by kernel_rfl) (by kernel_rfl) (by kernel_rfl) rfl (fun W hW => by go_simp) trivial ?_
          simp only [FL]
          refine hr_take_w 12 (some 105) (.pointer (some ⟨wI.heap.size, 3, none⟩)) rfl rfl (by kernel_rfl) (by kernel_rfl) (by kernel_rfl) rfl (fun W hW => by go_simp) trivial ?_
          simp only [FL]
          have lc := P1.arr.cell 3
          have lf := P1.arr.free 3
          refine hr_skip 13 none (w' := W1.setCell ⟨wI.heap.size, 3, none⟩ (.slice co2 cn2 cc2)) rfl rfl (by kernel_rfl) rfl (by go_simp) trivial ?_
          simp only [Act.put]
          refine wpAnyH_done (by kernel_rfl) ?_ _
          refine NoPanic.normal ?_
          clear lc lf ha
          have N5 := P1.nb
          have KF5 := KF1.chg P1.chg
          have B5 := B.trans ((zE1.mono B.size).trans P1.below)
          obtain ⟨W5, hW5⟩ : ∃ W5, W5 = W1.setCell ⟨wI.heap.size, 3, none⟩ (.slice co2 cn2 cc2) := ⟨_, rfl⟩
          rw [← hW5] at N5 KF5 B5 ⊢
          clear hW5
          go_wp2
          go_ret
          refine ⟨_, rfl, ?_, B5⟩
          have hm := h0.size
          have hD := HP
          rw [← hln] at hD
          refine N5.onT (Nat.le_trans hm B5.size) (fun b hb => (B5.block b (by omega)).trans (h0.block b hb)) H.sk H.sv (hD.done HAT.out) H.ek H.ev ?_
          rw [List.map_drop] at KF5
          exact KF5
end Go.Proofs.YthlpccajnmkbjaaGreatDoor

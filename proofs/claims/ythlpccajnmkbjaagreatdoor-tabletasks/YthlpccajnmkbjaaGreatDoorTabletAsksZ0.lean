/-
  Texts in one: TbRoot, TbParts, SameT.
-/
import Derived.Test.YthlpccajnmkbjaaGreatDoorY22
import Derived.Test.YthlpccajnmkbjaaGreatDoorY41
import Derived.Test.YthlpccajnmkbjaaGreatDoorY14
import Derived.Test.YthlpccajnmkbjaaGreatDoorY34
import Derived.Test.YthlpccajnmkbjaaGreatDoorY53
import Derived.Test.YthlpccajnmkbjaaGreatDoorY9
namespace Go.Proofs.YthlpccajnmkbjaaGreatDoor
open Go.RowKit

def wdTab : ByteArray := { data := #[116, 97, 98, 108, 101, 116] }
/-- A tablet's root. -/
def rootT (f t : ByteArray) (cs : List CV) : List Int := sumL (formL (sb wdTab) [sb f, sb t, hashI (cs.map itm)])
theorem CGood.szs {cs : List CV} (h : CGood cs) (hn : cs.length ≤ 1000) : Szs (cs.map itm) := by
  refine ⟨by rw [List.length_map]; omega, fun x hx => ?_⟩
  obtain ⟨c, hc, rfl⟩ := List.mem_map.1 hx
  have h1 := keyL_le (h c hc).right
  have h2 := itV_len c
  have h3 := (h c hc).val
  exact ⟨Nat.le_trans h1 (by omega), by show (itV c).length ≤ 1000000; omega⟩

set_option maxHeartbeats 4000000 in
set_option maxRecDepth 100000 in
theorem troot_any (w : World) (p : Nat) (f t : ByteArray) (cs : List CV) (hTb : Tabs w) (hT : TB w p f t cs) (hg : CGood cs) (hn : cs.length ≤ 1000) (hf : f.size ≤ 32) (ht : t.size ≤ 32) :
    Calls Tryz.prog 20 #[.pointer (some ⟨p, 0, none⟩)] w fun e w' => ∃ ao cap, e = .returned (.slice ao 32 cap) ∧ Sl w' ao 32 cap (rootT f t cs) ∧ Below w.heap.size w w' := by
  have t2 := hTb.two
  obtain ⟨u, A0, T0⟩ := hT
  have c0 : w.cell? ⟨p, 0, none⟩ = some (.string f) := Arr.cell A0 0
  have c1 : w.cell? ⟨p, 1, none⟩ = some (.string t) := Arr.cell A0 1
  have c2 : w.cell? ⟨p, 2, none⟩ = some (.pointer u) := Arr.cell A0 2
  have CR : Hid (∀ V, Below w.heap.size w V → Calls Tryz.prog 23 #[.pointer u] V fun e w' => ∃ ro rc, e = .returned (.slice ro 32 rc) ∧ Sl w' ro 32 rc (hashI (cs.map itm)) ∧ Below V.heap.size V w') := fun V hV => by
    refine (root_any V (.pointer u) (cs.map itm) (T0.below hV) (hTb.below hV t2) (hg.szs hn)).mono ?_
    rintro e w' ⟨ao, cap, rfl, S, B⟩
    exact ⟨ao, cap, rfl, S.1, B⟩
  have CO : Hid (∀ V, Below w.heap.size w V → ∀ (a : Option Addr) (g1 k1 g2 k2 : Nat) (ro : Option Addr) (rc : Nat), PL V a 3 3 [⟨some ⟨g1, 0, none⟩, f.size, k1, sb f⟩, ⟨some ⟨g2, 0, none⟩, t.size, k2, sb t⟩, ⟨ro, 32, rc, hashI (cs.map itm)⟩] → Calls Tryz.prog 51 #[.string { data := #[116, 97, 98, 108, 101, 116] }, .slice a 3 3] V fun e w' => ∃ so sc, e = .returned (.slice so 32 sc) ∧ Sl w' so 32 sc (rootT f t cs) ∧ Below V.heap.size V w') := fun V hV a g1 k1 g2 k2 ro rc P3 => by
    refine (of_any V wdTab a 3 3 _ P3 (hTb.below hV t2) (by decide) (by omega) (fun q hq => by
      simp only [List.mem_cons, List.not_mem_nil, or_false] at hq
      rcases hq with rfl | rfl | rfl <;> simp only <;> omega)).mono ?_
    rintro e w' ⟨v, rfl, own, B⟩
    obtain ⟨so, sc, rfl, S, -⟩ := Sl.own own (sumL_byte _)
    exact ⟨so, sc, rfl, S, B⟩
  clear A0 T0 hg hTb
  go_enter Tryz.func20, Tryz.ntmps20
  go_wp2
  have zHS : Hid (∀ V, Below w.heap.size w V → V.cell? ⟨p, 0, none⟩ = some (.string f) ∧ V.cell? ⟨p, 1, none⟩ = some (.string t) ∧ V.cell? ⟨p, 2, none⟩ = some (.pointer u)) := fun V hV => ⟨(hV.cell (World.block_lt_of_cell? _ _ c0)).trans c0, (hV.cell (World.block_lt_of_cell? _ _ c1)).trans c1, (hV.cell (World.block_lt_of_cell? _ _ c2)).trans c2⟩
  have zE0 : Below w.heap.size w w.drew := (Below.refl _ _).drew
  refine wp_region_noPanic ?_
  refine wp_region_held_drew (S := fun V => V.cell? ⟨p, 0, none⟩ = some (.string f) ∧ V.cell? ⟨p, 1, none⟩ = some (.string t) ∧ V.cell? ⟨p, 2, none⟩ = some (.pointer u)) (by kernel_rfl) (zHS.out _ zE0) (fun zH0 => ?_)
  obtain ⟨zv0, hv0⟩ : ∃ v, v = w.drew := ⟨_, rfl⟩
  rw [← hv0] at zH0 zE0 ⊢
  clear hv0
  refine hr_take_w 0 (some 5) (.pointer (some ⟨p, 0, none⟩)) rfl rfl (by kernel_rfl) (by kernel_rfl) (by kernel_rfl) rfl (fun W hW => by obtain ⟨h0, h1, h2⟩ := hW; go_simp) zH0 ?_
  simp only [Act.put, List.setIfInBounds_toArray, List.set_cons_zero, List.set_cons_succ]
  refine hr_take_w 1 (some 6) (.pointer (some ⟨p, 0, none⟩)) rfl rfl (by kernel_rfl) (by kernel_rfl) (by kernel_rfl) rfl (fun W hW => by obtain ⟨h0, h1, h2⟩ := hW; go_simp) zH0 ?_
  simp only [Act.put, List.setIfInBounds_toArray, List.set_cons_zero, List.set_cons_succ]
  refine hr_take_w 2 (some 7) (.pointer (some ⟨p, 0, none⟩)) rfl rfl (by kernel_rfl) (by kernel_rfl) (by kernel_rfl) rfl (fun W hW => by obtain ⟨h0, h1, h2⟩ := hW; go_simp) zH0 ?_
  simp only [Act.put, List.setIfInBounds_toArray, List.set_cons_zero, List.set_cons_succ]
  refine hr_take_w 3 (some 8) (.string f) rfl rfl (by kernel_rfl) (by kernel_rfl) (by kernel_rfl) rfl (fun W hW => by obtain ⟨h0, h1, h2⟩ := hW; go_simp) zH0 ?_
  simp only [Act.put, List.setIfInBounds_toArray, List.set_cons_zero, List.set_cons_succ]
  refine hr_take_w 5 (some 10) (.pointer (some ⟨p, 0, none⟩)) rfl rfl (by kernel_rfl) (by kernel_rfl) (by kernel_rfl) rfl (fun W hW => by obtain ⟨h0, h1, h2⟩ := hW; go_simp) zH0 ?_
  simp only [Act.put, List.setIfInBounds_toArray, List.set_cons_zero, List.set_cons_succ]
  refine hr_take_w 6 (some 11) (.pointer (some ⟨p, 0, none⟩)) rfl rfl (by kernel_rfl) (by kernel_rfl) (by kernel_rfl) rfl (fun W hW => by obtain ⟨h0, h1, h2⟩ := hW; go_simp) zH0 ?_
  simp only [Act.put, List.setIfInBounds_toArray, List.set_cons_zero, List.set_cons_succ]
  refine hr_take_w 7 (some 12) (.pointer (some ⟨p, 1, none⟩)) rfl rfl (by kernel_rfl) (by kernel_rfl) (by kernel_rfl) rfl (fun W hW => by obtain ⟨h0, h1, h2⟩ := hW; go_simp) zH0 ?_
  simp only [Act.put, List.setIfInBounds_toArray, List.set_cons_zero, List.set_cons_succ]
  refine hr_take_w 8 (some 13) (.string t) rfl rfl (by kernel_rfl) (by kernel_rfl) (by kernel_rfl) rfl (fun W hW => by obtain ⟨h0, h1, h2⟩ := hW; go_simp) zH0 ?_
  simp only [Act.put, List.setIfInBounds_toArray, List.set_cons_zero, List.set_cons_succ]
  refine hr_take_w 10 (some 15) (.pointer (some ⟨p, 0, none⟩)) rfl rfl (by kernel_rfl) (by kernel_rfl) (by kernel_rfl) rfl (fun W hW => by obtain ⟨h0, h1, h2⟩ := hW; go_simp) zH0 ?_
  simp only [Act.put, List.setIfInBounds_toArray, List.set_cons_zero, List.set_cons_succ]
  refine hr_take_w 11 (some 16) (.pointer (some ⟨p, 0, none⟩)) rfl rfl (by kernel_rfl) (by kernel_rfl) (by kernel_rfl) rfl (fun W hW => by obtain ⟨h0, h1, h2⟩ := hW; go_simp) zH0 ?_
  simp only [Act.put, List.setIfInBounds_toArray, List.set_cons_zero, List.set_cons_succ]
  refine hr_take_w 12 (some 17) (.pointer (some ⟨p, 2, none⟩)) rfl rfl (by kernel_rfl) (by kernel_rfl) (by kernel_rfl) rfl (fun W hW => by obtain ⟨h0, h1, h2⟩ := hW; go_simp) zH0 ?_
  simp only [Act.put, List.setIfInBounds_toArray, List.set_cons_zero, List.set_cons_succ]
  refine hr_take_w 13 (some 18) (.pointer u) rfl rfl (by kernel_rfl) (by kernel_rfl) (by kernel_rfl) rfl (fun W hW => by obtain ⟨h0, h1, h2⟩ := hW; go_simp) zH0 ?_
  simp only [Act.put, List.setIfInBounds_toArray, List.set_cons_zero, List.set_cons_succ]
  refine wpAnyH_effto 3 (fun zi zv zw => (zi = 4 → ∃ g c, zv = .slice (some ⟨g, 0, none⟩) f.size c ∧ Sl zw (some ⟨g, 0, none⟩) f.size c (sb f)) ∧ (zi = 9 → ∃ g c, zv = .slice (some ⟨g, 0, none⟩) t.size c ∧ Sl zw (some ⟨g, 0, none⟩) t.size c (sb t)) ∧ (zi = 14 → ∃ ro rc, zv = .slice ro 32 rc ∧ Sl zw ro 32 rc (hashI (cs.map itm)))) [(4, 9), (9, 14), (14, 19)] 22 (by kernel_rfl) (by decide) (by decide) rfl ?_ (fun W hW => zHS.out W (zE0.trans (hW.mono zE0.size))) ?_ ?_
  · intro zi v w w' h hb
    refine ⟨fun e => ?_, fun e => ?_, fun e => ?_⟩
    · have h := h.1 e
      obtain ⟨g, c, h1, h2⟩ := h
      exact ⟨g, c, h1, h2.below hb⟩
    · have h := h.2.1 e
      obtain ⟨g, c, h1, h2⟩ := h
      exact ⟨g, c, h1, h2.below hb⟩
    · have h := h.2.2 e
      obtain ⟨ro, rc, h1, h2⟩ := h
      exact ⟨ro, rc, h1, h2.below hb⟩
  · intro zp zhi o a w ho hs hb hdep
    have zEB := zE0.trans (hb.mono zE0.size)
    simp only [List.mem_cons, List.not_mem_nil, or_false] at zhi
    rcases zhi with rfl | rfl | rfl
    · obtain rfl : _ = o := Option.some.inj (show some _ = some o from ho)
      have t8 : a.tmps[8]? = some (.string f) := hs.get 8 (by kernel_rfl) rfl
      have hr := Lib.run_convert_string_bytes (P := Tryz.prog) w 9 40 5 f Tryz.underlying9 Tryz.underlying40 Tryz.underlying5
      exact .inl ⟨_, _, by go_simp, ⟨fun _ => ⟨_, _, rfl, bytesWorld_sl w f (by omega)⟩, fun e => absurd e (by decide), fun e => absurd e (by decide)⟩, bytesWorld_below w f⟩
    · obtain rfl : _ = o := Option.some.inj (show some _ = some o from ho)
      have t13 : a.tmps[13]? = some (.string t) := hs.get 13 (by kernel_rfl) rfl
      have hr := Lib.run_convert_string_bytes (P := Tryz.prog) w 9 40 5 t Tryz.underlying9 Tryz.underlying40 Tryz.underlying5
      exact .inl ⟨_, _, by go_simp, ⟨fun e => absurd e (by decide), fun _ => ⟨_, _, rfl, bytesWorld_sl w t (by omega)⟩, fun e => absurd e (by decide)⟩, bytesWorld_below w t⟩
    · obtain rfl : _ = o := Option.some.inj (show some _ = some o from ho)
      have t18 : a.tmps[18]? = some (.pointer u) := hs.get 18 (by kernel_rfl) rfl
      refine .inr ⟨23, #[.pointer u], by go_simp, (CR.out w zEB).mono ?_⟩
      rintro e w' ⟨ro, rc, rfl, S1, C⟩
      exact ⟨_, rfl, ⟨fun e => absurd e (by decide), fun e => absurd e (by decide), fun _ => ⟨ro, rc, rfl, S1⟩⟩, C⟩
  intro zf zv1 hb hh
  have zE1 := zE0.trans (hb.mono zE0.size)
  obtain ⟨g1, k1, e4, S1⟩ := (hh (4, 9) (by simp)).1 rfl
  obtain ⟨g2, k2, e9, S2⟩ := (hh (9, 14) (by simp)).2.1 rfl
  obtain ⟨ro, rc, e14, S3⟩ := (hh (14, 19) (by simp)).2.2 rfl
  clear hh hb
  simp only [putL, List.foldl_cons, List.foldl_nil, e4, e9, e14]
  clear e4 e9 e14
  simp only [Act.put, List.setIfInBounds_toArray, List.set_cons_zero, List.set_cons_succ]
  refine hr_ex 15 (some 20) rfl rfl (by kernel_rfl) rfl (R := fun v w' => ∃ g, v = .slice (some ⟨g, 0, none⟩) 3 3 ∧ VL w' (some ⟨g, 0, none⟩) 3 3 [.slice (some ⟨g1, 0, none⟩) f.size k1, .slice (some ⟨g2, 0, none⟩) t.size k2, .slice ro 32 rc] ∧ Below zv1.heap.size zv1 w') (⟨_, _, by go_simp, _, rfl, VL.new zv1 [.slice (some ⟨g1, 0, none⟩) f.size k1, .slice (some ⟨g2, 0, none⟩) t.size k2, .slice ro 32 rc] 40 (by simp [maxLen]), (Below.refl _ _).alloc (Nat.le_refl _) _⟩) ?_
  rintro v zv2 ⟨zg1, rfl, zG1, zC1⟩
  have zE2 := zE1.trans (zC1.mono zE1.size)
  have zH2 := zHS.out zv2 zE2
  have S1 := S1.below zC1
  have S2 := S2.below zC1
  have S3 := S3.below zC1
  refine ⟨zH2, ?_⟩
  simp only [Act.put, List.setIfInBounds_toArray, List.set_cons_zero, List.set_cons_succ]
  have P3 : PL zv2 (some ⟨zg1, 0, none⟩) 3 3 [⟨some ⟨g1, 0, none⟩, f.size, k1, sb f⟩, ⟨some ⟨g2, 0, none⟩, t.size, k2, sb t⟩, ⟨ro, 32, rc, hashI (cs.map itm)⟩] := ⟨rfl, Nat.le_refl _, by decide, fun h => by simp at h, fun a ha i hi => match i, hi with | 0, _ => zG1.cell a ha 0 (by simp) | 1, _ => zG1.cell a ha 1 (by simp) | 2, _ => zG1.cell a ha 2 (by simp) | n + 3, h => absurd h (by simp), fun q hq => by
    simp only [List.mem_cons, List.not_mem_nil, or_false] at hq
    rcases hq with rfl | rfl | rfl
    · exact S1
    · exact S2
    · exact S3⟩
  refine hr_call_w 16 (some 21) 51 #[.string { data := #[116, 97, 98, 108, 101, 116] }, .slice (some ⟨zg1, 0, none⟩) 3 3] rfl rfl (by kernel_rfl) rfl (by go_simp) (fun v w' => ∃ dq dc, v = .slice dq 32 dc ∧ Sl w' dq 32 dc (rootT f t cs) ∧ Below zv2.heap.size zv2 w') ((CO.out zv2 zE2 _ _ _ _ _ _ _ P3).mono (by
    rintro e w' ⟨dq, dc, rfl, F, C⟩
    exact ⟨_, rfl, dq, dc, rfl, F, C⟩)) ?_
  rintro v zv3 ⟨dq, dc, rfl, zF2, zC2⟩
  have zE3 := zE2.trans (zC2.mono zE2.size)
  have zH3 := zHS.out zv3 zE3
  refine ⟨zH3, ?_⟩
  simp only [Act.put, List.setIfInBounds_toArray, List.set_cons_zero, List.set_cons_succ]
  refine hr_take_w 17 (some 2) (.slice dq 32 dc) rfl rfl (by kernel_rfl) (by kernel_rfl) (by kernel_rfl) rfl (fun W hW => by obtain ⟨h0, h1, h2⟩ := hW; go_simp) zH3 ?_
  simp only [Act.put, List.setIfInBounds_toArray, List.set_cons_zero, List.set_cons_succ]
  refine wpAnyH_done (by kernel_rfl) ?_ _
  refine NoPanic.normal ?_
  go_wp2
  go_ret
  exact ⟨dq, dc, rfl, zF2, zE3⟩
end Go.Proofs.YthlpccajnmkbjaaGreatDoor

namespace Go.Proofs.YthlpccajnmkbjaaGreatDoor
open Go.RowKit

theorem OW.parts3 {w : World} {x : OD 3} (h : OW w 3 x) : ∃ pl : List OA, OWL w 0 (topD 3 x).so (topD 3 x).sn (topD 3 x).sc pl := ⟨_, (OW.subs (d := 2) h).flat⟩
theorem apply_leaf {ds : List CV} {o : OA} {pl : List OA} (hl : leaf o.s o.sn = true) (hn : pl.length = o.sn) (k6 : o.kind ≠ 6) (k8 : o.kind ≠ 8) : mApply ⟨#[]⟩ ⟨#[]⟩ ds o pl = (keepM ds (mStep ds o), (mStep ds o).2) := by
  unfold mApply
  rw [right_not6 k6, List.length_map, hn, hl, if_neg (by simp)]
  unfold isOut
  rw [if_neg k8, inRows_all, if_neg (by simp)]
  unfold mDo
  rw [if_neg k6]
theorem apply_batch {cs : List CV} {o : OA} {pl : List OA} (hr : rightO o.s (pl.map sn0) = true) (hk : o.kind = 6) : mApply ⟨#[]⟩ ⟨#[]⟩ cs o pl = (if (mAll mStep pl cs).2 = 0 then (mAll mStep pl cs).1 else cs, ⟨(mAll mStep pl cs).2, [], false⟩) := by
  unfold mApply
  rw [hr, if_neg (by simp)]
  unfold isOut
  rw [if_neg (show ¬ o.kind = 8 by omega), inRows_all, if_neg (by simp)]
  unfold mDo keepM
  rw [if_pos hk]
theorem apply_wrong {cs : List CV} {o : OA} {pl : List OA} (hr : rightO o.s (pl.map sn0) = false) : mApply ⟨#[]⟩ ⟨#[]⟩ cs o pl = (cs, ⟨6, [], false⟩) := by
  unfold mApply
  rw [if_pos hr]
/-- A result in a block of its own stands while another block is written. -/
theorem RC.wr {V V' : World} {p q : Nat} {e : Int} {ao : Option Addr} {n cap : Nat} {m : Bool} (h : RC V p e ao n cap m) (k : Wr q V V') (hne : p ≠ q) : RC V' p e ao n cap m := (k.block p h.lt hne).trans h
theorem OC.wr {V V' : World} {p q : Nat} {o : OA} (h : OC V p o) (k : Wr q V V') (hne : p ≠ q) : OC V' p o := (k.block p h.lt hne).trans h
end Go.Proofs.YthlpccajnmkbjaaGreatDoor

namespace Go.Proofs.YthlpccajnmkbjaaGreatDoor
open Go.RowKit

theorem same_true (w : World) (ao bo : Option Addr) (n cap m cap2 : Nat) (xs : List Int) (h : Sl w ao n cap xs) (h2 : Sl w bo m cap2 xs) :
    Calls Tryz.prog 19 #[.slice ao n cap, .slice bo m cap2] w fun e w' => e = .returned (.bool true) ∧ Below w.heap.size w w' := by
  refine (same_any w ao bo n cap m cap2 xs xs h h2).mono ?_
  rintro e w' ⟨rfl, q, rfl⟩
  exact ⟨by simp, ⟨rfl, rfl, rfl, Nat.le_refl _, fun _ _ => rfl⟩⟩
end Go.Proofs.YthlpccajnmkbjaaGreatDoor

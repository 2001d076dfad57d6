/-
  Texts in one: RHash7.
-/
import Derived.Test.YthlpccajnmkbjaaGreatDoorTabletOfQFL
import Derived.Test.YthlpccajnmkbjaaGreatDoorTabletOfQ30
import Derived.Test.YthlpccajnmkbjaaGreatDoorTabletOfQ26
namespace Go.Proofs.YthlpccajnmkbjaaGreatDoor
open Go.RowKit
def Sz9 (l : List It) : Prop := l.length ≤ 100 ∧ ∀ x ∈ l, x.k.length ≤ 256 ∧ x.v.length ≤ 100000
theorem rsumT (w : World) (ao : Option Addr) (n cap : Nat) (xs : List Int) (hS : Sl w ao n cap xs) (hn : n ≤ 100000) :
    Calls Tryz.prog 55 #[.slice ao n cap] w fun e w' => ∃ so sc, e = .returned (.slice so 32 sc) ∧ SlT w' ⟨so, 32, sc, sumL xs⟩ ∧ Below w.heap.size w w' := by
  refine (rsum_any w ao n cap xs hS hn).mono ?_
  rintro e w' ⟨v, rfl, own, B⟩
  obtain ⟨so, sc, rfl, S⟩ := SlT.own own (sumL_byte _)
  exact ⟨so, sc, rfl, S, B⟩
theorem emptyH_byte : Byt emptyH := by
  intro x hx
  simp [emptyH] at hx
  omega
set_option maxHeartbeats 1000000 in
set_option maxRecDepth 100000 in
theorem rhash_nil (w : World) : Calls Tryz.prog 24 #[.pointer none] w fun e w' => ∃ ro rc, e = .returned (.slice ro 32 rc) ∧ SlT w' ⟨ro, 32, rc, hashI []⟩ ∧ Below w.heap.size w w' := by
  have B0 : Below w.heap.size w (w.alloc (.cells (bv emptyH).toArray 5 (5, 6))) := (Below.refl _ w).alloc (Nat.le_refl _) _
  have S0 := Sl.const w emptyH (5, 6) emptyH_byte (by simp [emptyH, maxLen])
  have kc0 := Lib.run_convert_bytes_const (P := Tryz.prog) w 40 5 #[.int .u8 101, .int .u8 109, .int .u8 112, .int .u8 116, .int .u8 121] 5 5 Tryz.underlying40 Tryz.underlying5
  have CS := rsumT _ _ 5 5 emptyH S0 (by omega)
  go_enter Tryz.func24, Tryz.ntmps24
  go_wp2_with fail
  refine CS.mono ?_
  rintro e w1 ⟨so, sc, rfl, S1, C⟩
  go_wp2
  go_ret
  exact ⟨so, sc, rfl, S1, B0.trans (C.mono B0.size)⟩
set_option maxHeartbeats 8000000 in
set_option maxRecDepth 100000 in
theorem rhash_fuel : ∀ (N : Nat) (w : World) (v : Value) (l : List It), T w v l → Sz9 l → l.length ≤ N →
    Calls Tryz.prog 24 #[v] w fun e w' => ∃ ro rc, e = .returned (.slice ro 32 rc) ∧ SlT w' ⟨ro, 32, rc, hashI l⟩ ∧ Below w.heap.size w w' := by
  intro N
  induction N using Nat.strongRecOn with | _ N ih => ?_
  intro w v l hT hz hN
  rcases hT.is with ⟨rfl, rfl⟩ | ⟨d, segs, xs, rfl, hN1⟩
  · exact rhash_nil w
  have HN : Hid (Nod w l d segs xs) := hN1
  have HZ : Hid (Sz9 l) := hz
  have hml := hN1.many
  have hzl := hz.1
  have b1 := hN1.ok.c1
  have b2 := hN1.ok.c2
  have b3 := hN1.ok.c3
  obtain ⟨m, hm⟩ : ∃ m, m = d.ks.length := ⟨_, rfl⟩
  have hvm : d.vs.length = m := by rw [hm, hN1.nk, hN1.nv]
  obtain ⟨cn, hcn⟩ : ∃ n, n = d.cs.length := ⟨_, rfl⟩
  have hcm : cn = m + 1 := by rw [hcn, hN1.nc, hm, hN1.nk]
  rw [← hm] at b1
  rw [hvm] at b2
  rw [← hcn] at b3
  have HMK : Hid (m = d.ks.length ∧ d.vs.length = m ∧ cn = d.cs.length ∧ m = xs.length) := ⟨hm, hvm, hcn, by rw [hm, hN1.nk]⟩
  have hcx1 : cn ≤ m + 1 := by omega
  have hcx2 : m + 1 ≤ cn := by omega
  have hmx : m ≤ 100 := by have := HMK.out.2.2.2; omega
  have hmi : (m : Int) ≤ 100 := by omega
  have HIH : Hid (∀ M, M < N → ∀ (w : World) (v : Value) (l : List It), T w v l → Sz9 l → l.length ≤ M → Calls Tryz.prog 24 #[v] w fun e w' => ∃ ro rc, e = .returned (.slice ro 32 rc) ∧ SlT w' ⟨ro, 32, rc, hashI l⟩ ∧ Below w.heap.size w w') := ih
  have hbe : ((cn : Int) != (m : Int) + 1) = false := by simp; omega
  have hmpos : 0 < m := by have := HMK.out.2.2.2; have := hN1.shp.pos; omega
  have hmw : IntKind.i64.wrap ((m : Int) + 1) = (m : Int) + 1 := by simp [IntKind.wrap, IntKind.bits, IntKind.signed]; omega
  obtain ⟨vb, voff, ev0, -⟩ := hN1.ok.vl.vl.at (by rw [hvm]; exact hmpos)
  obtain ⟨cb, coff, s0, u0, ec0, -⟩ := hN1.kidAt 0 (Nat.zero_le _)
  rw [ev0] at b2
  rw [ec0] at b3
  have HEV : Hid (d.vo = some ⟨vb, voff, none⟩) := ev0
  have HEC : Hid (d.co = some ⟨cb, coff, none⟩) := ec0
  clear hm hvm hcn hcm hz hT ih hN1 ev0 ec0
  unfold Nd.ptr
  go_enter Tryz.func24, Tryz.ntmps24
  go_wp2_with fail
  have tHS : Hid (∀ V, Below w.heap.size w V → V.cell? ⟨d.b, 1, none⟩ = some (.slice d.ko m d.kc) ∧ V.cell? ⟨d.b, 2, none⟩ = some (.slice (some ⟨vb, voff, none⟩) m d.vc) ∧ V.cell? ⟨d.b, 3, none⟩ = some (.slice (some ⟨cb, coff, none⟩) cn d.cc)) := fun V hV => ⟨(hV.cell (World.block_lt_of_cell? _ _ b1)).trans b1, (hV.cell (World.block_lt_of_cell? _ _ b2)).trans b2, (hV.cell (World.block_lt_of_cell? _ _ b3)).trans b3⟩
  have tE0 : Below w.heap.size w w.drew := (Below.refl _ _).drew
  refine wp_region_noPanic ?_
  refine wp_region_held_drew (S := fun V => V.cell? ⟨d.b, 1, none⟩ = some (.slice d.ko m d.kc) ∧ V.cell? ⟨d.b, 2, none⟩ = some (.slice (some ⟨vb, voff, none⟩) m d.vc) ∧ V.cell? ⟨d.b, 3, none⟩ = some (.slice (some ⟨cb, coff, none⟩) cn d.cc)) (by kernel_rfl) (tHS.out _ tE0) (fun tH0 => ?_)
  obtain ⟨tv0, hv0⟩ : ∃ v, v = w.drew := ⟨_, rfl⟩
  rw [← hv0] at tH0 tE0 ⊢
  clear hv0
  refine hr_take_w 0 (some 12) (.pointer (some ⟨d.b, 0, none⟩)) rfl rfl (by kernel_rfl) (by kernel_rfl) (by kernel_rfl) rfl (fun W hW => by obtain ⟨h0, h1, h2⟩ := hW; go_simp) tH0 ?_
  simp only [FL]
  refine hr_take_w 1 (some 13) (.pointer (some ⟨d.b, 0, none⟩)) rfl rfl (by kernel_rfl) (by kernel_rfl) (by kernel_rfl) rfl (fun W hW => by obtain ⟨h0, h1, h2⟩ := hW; go_simp) tH0 ?_
  simp only [FL]
  refine hr_take_w 2 (some 14) (.pointer (some ⟨d.b, 2, none⟩)) rfl rfl (by kernel_rfl) (by kernel_rfl) (by kernel_rfl) rfl (fun W hW => by obtain ⟨h0, h1, h2⟩ := hW; go_simp) tH0 ?_
  simp only [FL]
  refine hr_take_w 3 (some 15) (.slice (some ⟨vb, voff, none⟩) m d.vc) rfl rfl (by kernel_rfl) (by kernel_rfl) (by kernel_rfl) rfl (fun W hW => by obtain ⟨h0, h1, h2⟩ := hW; go_simp) tH0 ?_
  simp only [FL]
  refine hr_take_w 4 (some 16) (.int .i64 m) rfl rfl (by kernel_rfl) (by kernel_rfl) (by kernel_rfl) rfl (fun W hW => by obtain ⟨h0, h1, h2⟩ := hW; go_simp) tH0 ?_
  simp only [FL]
  refine hr_take_w 5 (some 17) (.pointer (some ⟨d.b, 0, none⟩)) rfl rfl (by kernel_rfl) (by kernel_rfl) (by kernel_rfl) rfl (fun W hW => by obtain ⟨h0, h1, h2⟩ := hW; go_simp) tH0 ?_
  simp only [FL]
  refine hr_take_w 6 (some 18) (.pointer (some ⟨d.b, 0, none⟩)) rfl rfl (by kernel_rfl) (by kernel_rfl) (by kernel_rfl) rfl (fun W hW => by obtain ⟨h0, h1, h2⟩ := hW; go_simp) tH0 ?_
  simp only [FL]
  refine hr_take_w 7 (some 19) (.pointer (some ⟨d.b, 1, none⟩)) rfl rfl (by kernel_rfl) (by kernel_rfl) (by kernel_rfl) rfl (fun W hW => by obtain ⟨h0, h1, h2⟩ := hW; go_simp) tH0 ?_
  simp only [FL]
  refine hr_take_w 8 (some 20) (.slice d.ko m d.kc) rfl rfl (by kernel_rfl) (by kernel_rfl) (by kernel_rfl) rfl (fun W hW => by obtain ⟨h0, h1, h2⟩ := hW; go_simp) tH0 ?_
  simp only [FL]
  refine hr_take_w 9 (some 21) (.int .i64 m) rfl rfl (by kernel_rfl) (by kernel_rfl) (by kernel_rfl) rfl (fun W hW => by obtain ⟨h0, h1, h2⟩ := hW; go_simp) tH0 ?_
  simp only [FL]
  refine hr_take_w 10 (some 22) (.bool false) rfl rfl (by kernel_rfl) (by kernel_rfl) (by kernel_rfl) rfl (fun W hW => by obtain ⟨h0, h1, h2⟩ := hW; go_simp) tH0 ?_
  simp only [FL]
  refine hr_take_w 11 (some 23) (.bool false) rfl rfl (by kernel_rfl) (by kernel_rfl) (by kernel_rfl) rfl (fun W hW => by obtain ⟨h0, h1, h2⟩ := hW; go_simp) tH0 ?_
  simp only [FL]
  refine hr_take_w 12 (some 24) (.pointer (some ⟨d.b, 0, none⟩)) rfl rfl (by kernel_rfl) (by kernel_rfl) (by kernel_rfl) rfl (fun W hW => by obtain ⟨h0, h1, h2⟩ := hW; go_simp) tH0 ?_
  simp only [FL]
  refine hr_take_w 13 (some 25) (.pointer (some ⟨d.b, 0, none⟩)) rfl rfl (by kernel_rfl) (by kernel_rfl) (by kernel_rfl) rfl (fun W hW => by obtain ⟨h0, h1, h2⟩ := hW; go_simp) tH0 ?_
  simp only [FL]
  refine hr_take_w 14 (some 26) (.pointer (some ⟨d.b, 3, none⟩)) rfl rfl (by kernel_rfl) (by kernel_rfl) (by kernel_rfl) rfl (fun W hW => by obtain ⟨h0, h1, h2⟩ := hW; go_simp) tH0 ?_
  simp only [FL]
  refine hr_take_w 15 (some 27) (.slice (some ⟨cb, coff, none⟩) cn d.cc) rfl rfl (by kernel_rfl) (by kernel_rfl) (by kernel_rfl) rfl (fun W hW => by obtain ⟨h0, h1, h2⟩ := hW; go_simp) tH0 ?_
  simp only [FL]
  refine hr_take_w 16 (some 28) (.int .i64 cn) rfl rfl (by kernel_rfl) (by kernel_rfl) (by kernel_rfl) rfl (fun W hW => by obtain ⟨h0, h1, h2⟩ := hW; go_simp) tH0 ?_
  simp only [FL]
  refine hr_take_w 17 (some 29) (.pointer (some ⟨d.b, 0, none⟩)) rfl rfl (by kernel_rfl) (by kernel_rfl) (by kernel_rfl) rfl (fun W hW => by obtain ⟨h0, h1, h2⟩ := hW; go_simp) tH0 ?_
  simp only [FL]
  refine hr_take_w 18 (some 30) (.pointer (some ⟨d.b, 0, none⟩)) rfl rfl (by kernel_rfl) (by kernel_rfl) (by kernel_rfl) rfl (fun W hW => by obtain ⟨h0, h1, h2⟩ := hW; go_simp) tH0 ?_
  simp only [FL]
  refine hr_take_w 19 (some 31) (.pointer (some ⟨d.b, 1, none⟩)) rfl rfl (by kernel_rfl) (by kernel_rfl) (by kernel_rfl) rfl (fun W hW => by obtain ⟨h0, h1, h2⟩ := hW; go_simp) tH0 ?_
  simp only [FL]
  refine hr_take_w 20 (some 32) (.slice d.ko m d.kc) rfl rfl (by kernel_rfl) (by kernel_rfl) (by kernel_rfl) rfl (fun W hW => by obtain ⟨h0, h1, h2⟩ := hW; go_simp) tH0 ?_
  simp only [FL]
  refine hr_take_w 21 (some 33) (.int .i64 m) rfl rfl (by kernel_rfl) (by kernel_rfl) (by kernel_rfl) rfl (fun W hW => by obtain ⟨h0, h1, h2⟩ := hW; go_simp) tH0 ?_
  simp only [FL]
  refine hr_take_w 22 (some 34) (.int .i64 ((m : Int) + 1)) rfl rfl (by kernel_rfl) (by kernel_rfl) (by kernel_rfl) rfl (fun W hW => by obtain ⟨h0, h1, h2⟩ := hW; go_simp) tH0 ?_
  simp only [FL]
  refine hr_take_w 23 (some 35) (.bool false) rfl rfl (by kernel_rfl) (by kernel_rfl) (by kernel_rfl) rfl (fun W hW => by obtain ⟨h0, h1, h2⟩ := hW; go_simp) tH0 ?_
  simp only [FL]
  refine hr_take_w 24 (some 36) (.bool false) rfl rfl (by kernel_rfl) (by kernel_rfl) (by kernel_rfl) rfl (fun W hW => by obtain ⟨h0, h1, h2⟩ := hW; go_simp) tH0 ?_
  simp only [FL]
  refine wpAnyH_done (by kernel_rfl) ?_ _
  refine NoPanic.normal ?_
  clear tHS tH0 hbe
  go_wp2_with fail
  obtain ⟨ws, hws⟩ : ∃ W, W = tv0 := ⟨_, rfl⟩
  rw [← hws] at tE0 ⊢
  clear hws
  go_loopw [3, 5] (fun v i wr => ∃ (k : Nat) (qs : List Part), k ≤ m ∧ i = .int .i64 k ∧ RwI ws.heap.size wr v qs ∧ Hid (qs.map Part.xs = (xs.map fun x => sumL x.v).take k) ∧ Below ws.heap.size ws wr) (fun _ i _ => m - (intOf i).toNat)
  case atStart => exact ⟨0, [], Nat.zero_le _, rfl, RwI.nil ws, rfl, Below.refl _ _⟩
  case round =>
    obtain ⟨k, qs, hkn, rfl, K, HQ, hB⟩ := hrel
    have hBw := tE0.trans (hB.mono tE0.size)
    have HQL : Hid (qs.length = k) := by
      show _ = _
      have := congrArg List.length HQ.out
      rw [List.length_map, List.length_take, List.length_map] at this
      have := HMK.out.2.2.2
      omega
    have b2r := (hBw.cell (World.block_lt_of_cell? _ _ b2)).trans b2
    by_cases hlt : k < m
    · have hki : (k : Int) < (m : Int) := by omega
      have hkv : k < d.vs.length := by have := HMK.out.2.1; omega
      have hkx : k < xs.length := by have := HMK.out.2.2.2; omega
      have VLr := HN.out.ok.vl.below hBw
      obtain ⟨b, off, e0, hc⟩ := VLr.vl.at (by have := HMK.out.2.1; omega)
      have e1 := HEV.out.symm.trans e0
      cases e1
      clear e0
      have c1 := hc k (by simpa using hkv)
      rw [List.getElem_map] at c1
      have S := VLr.sl d.vs[k] (List.getElem_mem hkv)
      rw [HN.out.valAt k hkv hkx] at S
      have HTK : Hid ((xs.map fun x => sumL x.v).take (k + 1) = (xs.map fun x => sumL x.v).take k ++ [sumL xs[k].v]) := take_snoc (fun x : It => sumL x.v) xs k hkx
      have hyl : xs[k].v.length ≤ 100000 := (HZ.out.2 _ (HN.out.shp.key _ (List.getElem_mem hkx))).2
      obtain ⟨y, hy⟩ : ∃ y, y = xs[k].v := ⟨_, rfl⟩
      rw [← hy] at S HTK hyl
      obtain ⟨q, hq⟩ : ∃ q, q = d.vs[k] := ⟨_, rfl⟩
      rw [← hq] at c1 S
      unfold Part.val at c1
      have CS := rsumT wr q.ao q.n q.cap y S (by have := S.len; omega)
      clear hc hq hy S VLr
      go_wp2_with fail
      refine CS.mono ?_
      rintro e w1 ⟨s1, sc1, rfl, S1, C1⟩
      have K1 := K.kc (KC.below C1)
      have hB1 := hB.trans (C1.mono hB.size)
      obtain ⟨v', W3, hrun, K3, B3, -⟩ := K1.step S1 rfl (by have := HQL.out; omega) 90 1
      unfold Part.val at hrun
      have HRUN : Hid ((Builtin.append_ #[90, 90] 90 #[_, .slice (some ⟨w1.heap.size, 0, none⟩) 1 1]).run Tryz.prog (w1.alloc (.cells #[.slice s1 32 sc1] 40)) = .ok v' W3) := hrun
      have HK3 : Hid (RwI ws.heap.size W3 v' (qs ++ [⟨s1, 32, sc1, sumL y⟩])) := K3
      have hB3 := hB1.trans B3
      clear CS S1 C1 K1 hrun K3 B3 K hB1 b2r
      go_wp2_with (at_builtin; refine wpList_appR rfl _ _ _ _ rfl _ _ _ rfl rfl HRUN.out ?_)
      go_roundw
      case rel =>
        refine ⟨k + 1, qs ++ [⟨s1, 32, sc1, sumL y⟩], by omega, by go_num, HK3.out, ?_, hB3⟩
        show _ = _
        rw [List.map_append, HQ.out, HTK.out]
        rfl
      case measure => simp [intOf]; omega
    · have hge : ¬ (k : Int) < (m : Int) := by omega
      obtain ⟨wa, rfl⟩ : ∃ W', W' = wr := ⟨wr, rfl⟩
      have HSX : Hid (qs.map Part.xs = xs.map fun x => sumL x.v) := by
        show _ = _
        rw [HQ.out, List.take_of_length_le (by rw [List.length_map]; have := HMK.out.2.2.2; omega)]
      obtain ⟨so, sc, rfl, KLs⟩ := K.kl
      obtain ⟨sn, hsn⟩ : ∃ n, n = qs.length := ⟨_, rfl⟩
      have hsm : sn ≤ 100 := by have := HQL.out; omega
      rw [← hsn] at KLs ⊢
      have HKS : Hid (KL wa so sn sc qs) := KLs
      clear K HQ hsn KLs HQL
      go_wp2_with fail
      clear b2r
      go_loopw [4, 6] (fun v i wr => ∃ (k : Nat) (ks : List Part), k ≤ cn ∧ i = .int .i64 k ∧ RwI wa.heap.size wr v ks ∧ Hid (ks.map Part.xs = (segs.map hashI).take k) ∧ Below wa.heap.size wa wr) (fun _ i _ => cn - (intOf i).toNat)
      case atStart => exact ⟨0, [], Nat.zero_le _, rfl, RwI.nil wa, rfl, Below.refl _ _⟩
      case round =>
        obtain ⟨k, ks, hkn, rfl, K, HQ, hB2⟩ := hrel
        have hBx := hBw.trans (hB2.mono hBw.size)
        have HQL : Hid (ks.length = k) := by
          show _ = _
          have := congrArg List.length HQ.out
          rw [List.length_map, List.length_take, List.length_map] at this
          have := HN.out.shp.len
          have := HMK.out.2.2.2
          omega
        have b3r := (hBx.cell (World.block_lt_of_cell? _ _ b3)).trans b3
        by_cases hlt : k < cn
        · have hki : (k : Int) < (cn : Int) := by omega
          have hks : k < segs.length := by have := HN.out.shp.len; have := HMK.out.2.2.2; omega
          obtain ⟨b, off, s, u, e0, hs, hu, c1, ht, hsl⟩ := (HN.out.below hBx).kidAt k (by have := HMK.out.2.2.2; omega)
          have e1 := HEC.out.symm.trans e0
          cases e1
          clear e0
          have hsm' : s ∈ segs := List.mem_of_getElem? hs
          have HTK : Hid ((segs.map hashI).take (k + 1) = (segs.map hashI).take k ++ [hashI s]) := by
            show _ = _
            rw [take_snoc hashI segs k hks]
            have : segs[k] = s := by rw [List.getElem?_eq_getElem hks] at hs; exact Option.some.inj hs
            rw [this]
          have CH := HIH.out s.length (by omega) wr u s ht ⟨by have := HZ.out.1; omega, fun x hx => HZ.out.2 x (HN.out.shp.seg s hsm' x hx)⟩ (Nat.le_refl _)
          clear hu ht hs
          go_wp2_with fail
          refine CH.mono ?_
          rintro e w1 ⟨h1, hc1, rfl, S1, C1⟩
          have K1 := K.kc (KC.below C1)
          have hB4 := hB2.trans (C1.mono hB2.size)
          obtain ⟨v', W3, hrun, K3, B3, -⟩ := K1.step S1 rfl (by have := HQL.out; omega) 90 1
          unfold Part.val at hrun
          have HRUN : Hid ((Builtin.append_ #[90, 90] 90 #[_, .slice (some ⟨w1.heap.size, 0, none⟩) 1 1]).run Tryz.prog (w1.alloc (.cells #[.slice h1 32 hc1] 40)) = .ok v' W3) := hrun
          have HK3 : Hid (RwI wa.heap.size W3 v' (ks ++ [⟨h1, 32, hc1, hashI s⟩])) := K3
          have hB5 := hB4.trans B3
          clear CH S1 C1 K1 hrun K3 B3 K hB4 b3r c1
          go_wp2_with (at_builtin; refine wpList_appR rfl _ _ _ _ rfl _ _ _ rfl rfl HRUN.out ?_)
          go_roundw
          case rel =>
            refine ⟨k + 1, ks ++ [⟨h1, 32, hc1, hashI s⟩], by omega, by go_num, HK3.out, ?_, hB5⟩
            show _ = _
            rw [List.map_append, HQ.out, HTK.out]
            rfl
          case measure => simp [intOf]; omega
        · have hge2 : ¬ (k : Int) < (cn : Int) := by omega
          have HCX : Hid (ks.map Part.xs = segs.map hashI) := by
            show _ = _
            rw [HQ.out, List.take_of_length_le (by rw [List.length_map, HN.out.shp.len]; have := HMK.out.2.2.2; omega)]
          obtain ⟨co, cc, rfl, KLc⟩ := K.kl
          obtain ⟨kn, hkn2⟩ : ∃ n, n = ks.length := ⟨_, rfl⟩
          have hkn1 : kn ≤ 101 := by rw [hkn2, HQL.out]; omega
          rw [← hkn2] at KLc ⊢
          have c0 := (hBx.cell (World.block_lt_of_cell? _ _ HN.out.ok.c0)).trans HN.out.ok.c0
          have c1 := (hBx.cell (World.block_lt_of_cell? _ _ b1)).trans b1
          have KLk := HN.out.ok.kl.below hBx
          rw [← HMK.out.1] at KLk
          have KLs := HKS.out.below hB2
          have ek : pxs d.ks = xs.map It.k := HN.out.ek
          have es : pxs qs = xs.map fun x => sumL x.v := HSX.out
          have ec : pxs ks = segs.map hashI := HCX.out
          have hL := HN.out.L_le
          obtain ⟨FF, hFF⟩ : ∃ FF, FF = formN d.L (xs.map It.k) (xs.map fun x => sumL x.v) (segs.map hashI) := ⟨_, rfl⟩
          have hB1 : ∀ x ∈ xs.map It.k, x.length ≤ 256 := fun x hx => by
            obtain ⟨y, hy, rfl⟩ := List.mem_map.1 hx
            exact (HZ.out.2 y (HN.out.shp.key y hy)).1
          have hB2' : ∀ x ∈ (xs.map fun x => sumL x.v), x.length ≤ 256 := fun x hx => by
            obtain ⟨y, hy, rfl⟩ := List.mem_map.1 hx
            rw [sumL_len]
            omega
          have hB3 : ∀ x ∈ segs.map hashI, x.length ≤ 256 := fun x hx => by
            obtain ⟨y, hy, rfl⟩ := List.mem_map.1 hx
            rw [hashI_len]
            omega
          have hx1 : xs.length ≤ 100 := by have := HMK.out.2.2.2; omega
          have hFL : FF.length ≤ 100000 := by
            have := formN_len (B := 256) (L := d.L) (by decide) (by omega) (by rw [List.length_map]; omega) hB1 hB2' hB3
            rw [← hFF, List.length_map] at this
            have h3 : xs.length * (3 * (256 + 10)) ≤ 100 * (3 * (256 + 10)) := Nat.mul_le_mul_right _ hx1
            omega
          have CF : ∀ V, Below wr.heap.size wr V → Calls Tryz.prog 56 #[.int .i64 d.L, .slice d.ko m d.kc, .slice so sn sc, .slice co kn cc] V fun e w' => ∃ fo fn fc, e = .returned (.slice fo fn fc) ∧ (Sl w' fo fn fc FF) ∧ Below V.heap.size V w' := fun V hV => by
            refine (rform7_any V d.L d.ko so co m d.kc sn sc kn cc d.ks qs ks (KLk.below hV).pl (KLs.below hV).pl (KLc.below hV).pl (by omega) (by omega) (by omega) (by omega) (by rw [ek, es, ec, ← hFF]; omega)).mono ?_
            rintro e w' ⟨fo, fc, rfl, S, B⟩
            rw [ek, es, ec, ← hFF] at S
            rw [ek, es, ec, ← hFF]
            exact ⟨fo, _, fc, rfl, S, B⟩
          have HH : Hid (sumL FF = hashI l) := by
            show _ = _
            rw [hashI_node HN.out.shp, hFF]
          clear hFF ek es ec KLk KLs KLc hB1 hB2' hB3
          go_wp2_with fail
          have zHS : Hid (∀ V, Below wr.heap.size wr V → V.cell? ⟨d.b, 0, none⟩ = some (.int .i64 d.L) ∧ V.cell? ⟨d.b, 1, none⟩ = some (.slice d.ko m d.kc)) := fun V hV => ⟨(hV.cell (World.block_lt_of_cell? _ _ c0)).trans c0, (hV.cell (World.block_lt_of_cell? _ _ c1)).trans c1⟩
          have zE0 : Below wr.heap.size wr wr.drew := (Below.refl _ _).drew
          refine wp_region_noPanic ?_
          refine wp_region_held_drew (S := fun V => V.cell? ⟨d.b, 0, none⟩ = some (.int .i64 d.L) ∧ V.cell? ⟨d.b, 1, none⟩ = some (.slice d.ko m d.kc)) (by kernel_rfl) (zHS.out _ zE0) (fun zH0 => ?_)
          obtain ⟨zv0, hv0⟩ : ∃ v, v = wr.drew := ⟨_, rfl⟩
          rw [← hv0] at zH0 zE0 ⊢
          clear hv0
          refine hr_take_w 0 (some 78) (.pointer (some ⟨d.b, 0, none⟩)) rfl rfl (by kernel_rfl) (by kernel_rfl) (by kernel_rfl) rfl (fun W hW => by obtain ⟨h0, h1⟩ := hW; go_simp) zH0 ?_
          simp only [FL]
          refine hr_take_w 1 (some 79) (.pointer (some ⟨d.b, 0, none⟩)) rfl rfl (by kernel_rfl) (by kernel_rfl) (by kernel_rfl) rfl (fun W hW => by obtain ⟨h0, h1⟩ := hW; go_simp) zH0 ?_
          simp only [FL]
          refine hr_take_w 2 (some 80) (.pointer (some ⟨d.b, 0, none⟩)) rfl rfl (by kernel_rfl) (by kernel_rfl) (by kernel_rfl) rfl (fun W hW => by obtain ⟨h0, h1⟩ := hW; go_simp) zH0 ?_
          simp only [FL]
          refine hr_take_w 3 (some 81) (.int .i64 d.L) rfl rfl (by kernel_rfl) (by kernel_rfl) (by kernel_rfl) rfl (fun W hW => by obtain ⟨h0, h1⟩ := hW; go_simp) zH0 ?_
          simp only [FL]
          refine hr_take_w 4 (some 82) (.pointer (some ⟨d.b, 0, none⟩)) rfl rfl (by kernel_rfl) (by kernel_rfl) (by kernel_rfl) rfl (fun W hW => by obtain ⟨h0, h1⟩ := hW; go_simp) zH0 ?_
          simp only [FL]
          refine hr_take_w 5 (some 83) (.pointer (some ⟨d.b, 0, none⟩)) rfl rfl (by kernel_rfl) (by kernel_rfl) (by kernel_rfl) rfl (fun W hW => by obtain ⟨h0, h1⟩ := hW; go_simp) zH0 ?_
          simp only [FL]
          refine hr_take_w 6 (some 84) (.pointer (some ⟨d.b, 1, none⟩)) rfl rfl (by kernel_rfl) (by kernel_rfl) (by kernel_rfl) rfl (fun W hW => by obtain ⟨h0, h1⟩ := hW; go_simp) zH0 ?_
          simp only [FL]
          refine hr_take_w 7 (some 85) (.slice d.ko m d.kc) rfl rfl (by kernel_rfl) (by kernel_rfl) (by kernel_rfl) rfl (fun W hW => by obtain ⟨h0, h1⟩ := hW; go_simp) zH0 ?_
          simp only [FL]
          refine hr_take_w 8 (some 86) (.slice so sn sc) rfl rfl (by kernel_rfl) (by kernel_rfl) (by kernel_rfl) rfl (fun W hW => by obtain ⟨h0, h1⟩ := hW; go_simp) zH0 ?_
          simp only [FL]
          refine hr_take_w 9 (some 87) (.slice co kn cc) rfl rfl (by kernel_rfl) (by kernel_rfl) (by kernel_rfl) rfl (fun W hW => by obtain ⟨h0, h1⟩ := hW; go_simp) zH0 ?_
          simp only [FL]
          refine hr_call_w 10 (some 88) 56 #[.int .i64 d.L, .slice d.ko m d.kc, .slice so sn sc, .slice co kn cc] rfl rfl (by kernel_rfl) rfl (by go_simp) (fun v w' => ∃ fo fn fc, v = .slice fo fn fc ∧ (Sl w' fo fn fc FF) ∧ Below zv0.heap.size zv0 w') ((CF zv0 zE0).mono (by
            rintro e w' ⟨fo, fn, fc, rfl, F, C⟩
            exact ⟨_, rfl, fo, fn, fc, rfl, F, C⟩)) ?_
          rintro v zv1 ⟨fo, fn, fc, rfl, zF0, zC0⟩
          have zE1 := zE0.trans (zC0.mono zE0.size)
          have zH1 := zHS.out zv1 zE1
          refine ⟨zH1, ?_⟩
          simp only [FL]
          have CSM := rsumT zv1 fo fn fc FF zF0 (by have := zF0.len; omega)
          refine hr_call_w 11 (some 89) 55 #[.slice fo fn fc] rfl rfl (by kernel_rfl) rfl (by go_simp) (fun v w' => ∃ ro rc, v = .slice ro 32 rc ∧ (SlT w' ⟨ro, 32, rc, sumL FF⟩) ∧ Below zv1.heap.size zv1 w') ((CSM).mono (by
            rintro e w' ⟨ro, rc, rfl, F, C⟩
            exact ⟨_, rfl, ro, rc, rfl, F, C⟩)) ?_
          rintro v zv2 ⟨ro, rc, rfl, zF1, zC1⟩
          have zE2 := zE1.trans (zC1.mono zE1.size)
          have zH2 := zHS.out zv2 zE2
          refine ⟨zH2, ?_⟩
          simp only [FL]
          refine hr_take_w 12 (some 2) (.slice ro 32 rc) rfl rfl (by kernel_rfl) (by kernel_rfl) (by kernel_rfl) rfl (fun W hW => by obtain ⟨h0, h1⟩ := hW; go_simp) zH2 ?_
          simp only [FL]
          refine wpAnyH_done (by kernel_rfl) ?_ _
          refine NoPanic.normal ?_
          have hBe := hBx.trans (zE2.mono hBx.size)
          go_wp2
          go_ret
          refine ⟨ro, rc, rfl, ?_, hBe⟩
          rw [← HH.out]
          exact zF1
end Go.Proofs.YthlpccajnmkbjaaGreatDoor

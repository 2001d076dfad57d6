/-
  Texts in one: RbOf.
-/
import Derived.Test.YtlljmhcgjkolpaaGreatDoorSplitCutsQFL
import Derived.Test.YtlljmhcgjkolpaaGreatDoorSplitCutsQ24
import Derived.Test.YtlljmhcgjkolpaaGreatDoorSplitCutsQ22
import Derived.Test.YtlljmhcgjkolpaaGreatDoorSplitCutsQ25
import Derived.Test.YtlljmhcgjkolpaaGreatDoorSplitCutsQ26
namespace Go.Proofs.YtlljmhcgjkolpaaGreatDoor
open Go.RowKit
theorem CL.rt {w w' : World} {q : Nat} {ty : TypeId} {f t : ByteArray} {x : Option Addr} {y z : Nat} (h : Arr w q ty [.string f, .string t, .slice x y z]) (k : Wr q w w') {ao : Option Addr} {n cap : Nat} {l : List CA} (S : CL w ao n cap l) : CL w' ao n cap l := by
  refine ⟨S.len, S.le, S.mx, S.nil, fun a ha i hi j v hv => ?_, fun c hc => ⟨(S.ok c hc).row, (S.ok c hc).fam, (S.ok c hc).qual, (S.ok c hc).time, (S.ok c hc).va.wr h (by simp) k⟩⟩
  have h3 := S.cell a ha i hi 3 _ rfl
  have hne := (k.off h h3 (by simp)).2
  rw [add_block] at hne
  exact k.cell (S.cell a ha i hi j v hv) (by rw [add_block]; exact hne)
theorem layAll_csrt : ∀ (cs ds : List CV), CSrt ds → CSrt (layAll ds cs)
  | [], _, h => h
  | c :: cs, _, h => layAll_csrt cs _ (h.ins c)
def ROfPost (w : World) (f t : ByteArray) (cs : List CV) (e : Ending) (w' : World) : Prop :=
  (ofK f t cs = 0 ∧ ∃ bo m c l2, e = .returned (.tuple #[.agg #[.string f, .string t, .slice bo m c], .int .i64 0]) ∧ CL w' bo m c l2 ∧ l2.map CA.c = layAll [] cs ∧ Below w.heap.size w w') ∨
  (ofK f t cs ≠ 0 ∧ e = .returned (.tuple #[.agg #[.string ⟨#[]⟩, .string ⟨#[]⟩, .slice none 0 0], .int .i64 (ofK f t cs)]) ∧ Below w.heap.size w w')
set_option maxHeartbeats 16000000 in
set_option maxRecDepth 100000 in
theorem rof10_any (w : World) (f t : ByteArray) (ao : Option Addr) (n cap : Nat) (l : List CA) (hf : f.size ≤ maxLen) (ht : t.size ≤ maxLen) (L : CL w ao n cap l) (hn : n ≤ 800) :
    Calls Tryz.prog 12 #[.string f, .string t, .slice ao n cap] w (ROfPost w f t (l.map CA.c)) := by
  have hl1 := Nat.le_of_eq L.len
  have hl2 := Nat.le_of_eq L.len.symm
  obtain ⟨cs, hcs⟩ : ∃ cs, cs = l.map CA.c := ⟨_, rfl⟩
  have HCS : Hid (cs = l.map CA.c) := hcs
  rw [← hcs]
  clear hcs
  have hlc : cs.length = l.length := by rw [HCS.out, List.length_map]
  have HLC : Hid (cs.length = n) := by show _ = _; rw [hlc]; exact L.len
  have HTM : Hid (∀ c ∈ cs, c.time < 18446744073709551616) := fun c hc => by
    rw [HCS.out] at hc
    obtain ⟨x, hx, rfl⟩ := List.mem_map.1 hc
    exact (L.ok x hx).time
  clear hlc
  obtain ⟨W1, hW1⟩ : ∃ V, V = w.alloc (.cells #[.string ⟨#[]⟩, .string ⟨#[]⟩, .slice none 0 0] 39) := ⟨_, rfl⟩
  have C1 : Below w.heap.size w W1 := by rw [hW1]; exact (Below.refl _ _).alloc (Nat.le_refl _) _
  have R1 : Arr W1 w.heap.size 39 [.string ⟨#[]⟩, .string ⟨#[]⟩, .slice none 0 0] := by rw [hW1]; exact heap_alloc_new w _
  have CR := rright10_any W1 f t hf ht
  obtain ⟨nb, hnb⟩ : ∃ b, b = decide (newK f t = 0) := ⟨_, rfl⟩
  rw [← hnb] at CR
  have HNB : Hid (nb = decide (newK f t = 0)) := hnb
  clear hnb
  go_enter Tryz.func12, Tryz.ntmps12
  go_wp2_with fail
  rw [← hW1]
  clear hW1
  refine CR.mono ?_
  rintro e w1 ⟨rfl, D1⟩
  have B1 := C1.trans (D1.mono C1.size)
  have RX := arr_below R1 D1
  clear CR R1
  cases nb with
  | false =>
    have r0 : w1.cell? ⟨w.heap.size, 0, none⟩ = some (.string ⟨#[]⟩) := RX.cell 0
    have r1 : w1.cell? ⟨w.heap.size, 1, none⟩ = some (.string ⟨#[]⟩) := RX.cell 1
    have r2 : w1.cell? ⟨w.heap.size, 2, none⟩ = some (.slice none 0 0) := RX.cell 2
    have f0 := RX.free 0
    have f1 := RX.free 1
    have f2 := RX.free 2
    have lt := RX.lt
    have KW : Wr w.heap.size w1 (((w1.setCell ⟨w.heap.size, 0, none⟩ (.string ⟨#[]⟩)).setCell ⟨w.heap.size, 1, none⟩ (.string ⟨#[]⟩)).setCell ⟨w.heap.size, 2, none⟩ (.slice none 0 0)) := (((Wr.refl _ _).set 0 _).set 1 _).set 2 _
    have BX := KW.below B1 B1.size (Nat.le_refl _)
    have HK : Hid (ofK f t cs = 1) := ofK_1 (of_decide_eq_false HNB.out.symm)
    go_wp2
    exact bodyPost_ret (v := .tuple #[.agg #[.string ⟨#[]⟩, .string ⟨#[]⟩, .slice none 0 0], .int .i64 1]) (by simp [results, Tryz.results12, go_sem, r0, r1, r2]) rfl (.inr ⟨by rw [HK.out]; decide, by rw [HK.out], BX⟩)
  | true =>
    have HN0 : Hid (newK f t = 0) := by
      have h := HNB.out.symm
      have h2 : newK f t = 0 := of_decide_eq_true h
      exact h2
    obtain ⟨w2, hw2⟩ : ∃ V, V = w1.alloc (.cells #[.string f, .string t, .slice none 0 0] 39) := ⟨_, rfl⟩
    have D2 : Below w1.heap.size w1 w2 := by rw [hw2]; exact (Below.refl _ _).alloc (Nat.le_refl _) _
    have Q2 : Arr w2 w1.heap.size 39 [.string f, .string t, .slice none 0 0] := by rw [hw2]; exact heap_alloc_new w1 _
    have B2 := B1.trans (D2.mono B1.size)
    have R2 := arr_below RX D2
    have hq : w.heap.size < w1.heap.size := RX.lt
    obtain ⟨q, hqe⟩ : ∃ q, q = w1.heap.size := ⟨_, rfl⟩
    go_wp2
    rw [← hw2]
    rw [← hqe] at Q2 hq ⊢
    clear hw2 RX D2 B1 HNB hqe
    go_loopw [9] (fun i wr => ∃ j : Nat, j ≤ n ∧ i = .int .i64 j ∧ Hid (∀ x ∈ cs.take j, notR x = false) ∧ Below w2.heap.size w2 wr) (fun i _ => n - (intOf i).toNat)
    case atStart => exact ⟨0, Nat.zero_le _, rfl, fun x hx => by simp at hx, Below.refl _ _⟩
    case round =>
      obtain ⟨j, hj, rfl, HP, B⟩ := hrel
      by_cases hlt : j < n
      · have BW := B2.trans (B.mono B2.size)
        have hjl : j < l.length := by omega
        have hji : (j : Int) < (n : Int) := by omega
        have hjc : j < cs.length := by rw [HCS.out, List.length_map]; exact hjl
        have hcj : cs[j] = l[j].c := by
          have := HCS.out
          subst this
          exact List.getElem_map ..
        have hmem : l[j].c ∈ cs := by rw [← hcj]; exact List.getElem_mem hjc
        have hok := (L.ok _ (List.getElem_mem hjl)).below BW
        obtain ⟨b, off, ea, hc⟩ := L.at (by omega)
        have X := (hc j hjl).below BW
        have HTK : Hid (cs.take (j + 1) = cs.take j ++ [l[j].c]) := by
          show _ = _
          rw [List.take_succ_eq_append_getElem hjc, hcj]
        obtain ⟨c, hce⟩ : ∃ c, c = l[j] := ⟨_, rfl⟩
        rw [← hce] at X hmem hok HTK
        subst ea
        obtain ⟨x0, x1, x2, x3, x4, x5⟩ := X
        clear hc hcj hce
        have CK := rright_any wr c.key
        rw [show c.key.val = .agg #[.string c.row, .string c.fam, .string c.qual, .int .u64 c.time] from rfl] at CK
        obtain ⟨kd, hkd⟩ : ∃ k, k = c.key.kind := ⟨_, rfl⟩
        rw [← hkd] at CK
        have HKD : Hid (kd = if c.key.isRight = true then 0 else 5) := hkd
        clear hkd
        go_wp2_with fail
        refine CK.mono ?_
        rintro e w4 ⟨rfl, D4⟩
        have B4 := BW.trans (D4.mono BW.size)
        have B24 := B.trans (D4.mono B.size)
        have RX := arr_below R2 B24
        clear CK x0 x1 x2 x3 x4 x5
        by_cases hr : c.key.isRight = true
        · obtain rfl : kd = 0 := by rw [HKD.out, if_pos hr]
          have HV : notR c.c = false := by
            unfold notR
            rw [show c.c.ky = c.key from rfl, hr]
            rfl
          have HP2 : Hid (∀ x ∈ cs.take (j + 1), notR x = false) := fun x hx => by
            rw [HTK.out] at hx
            rcases List.mem_append.1 hx with hx | hx
            · exact HP.out x hx
            · rw [List.mem_singleton.1 hx]; exact HV
          clear HV hr HKD
          go_wp2
          go_roundw
          case rel => exact ⟨j + 1, by omega, by go_num, HP2, B24⟩
          case measure => simp [intOf]; omega
        · obtain rfl : kd = 5 := by rw [HKD.out, if_neg hr]
          have HV : notR c.c = true := by
            unfold notR
            rw [show c.c.ky = c.key from rfl]
            simpa using hr
          have HFC : Hid (ofK f t cs = 5) := ofK_5 HN0.out hmem HV
          clear HV hr HKD
          have r0 : w4.cell? ⟨w.heap.size, 0, none⟩ = some (.string ⟨#[]⟩) := RX.cell 0
          have r1 : w4.cell? ⟨w.heap.size, 1, none⟩ = some (.string ⟨#[]⟩) := RX.cell 1
          have r2 : w4.cell? ⟨w.heap.size, 2, none⟩ = some (.slice none 0 0) := RX.cell 2
          have f0 := RX.free 0
          have f1 := RX.free 1
          have f2 := RX.free 2
          have lt := RX.lt
          have KW : Wr w.heap.size w4 (((w4.setCell ⟨w.heap.size, 0, none⟩ (.string ⟨#[]⟩)).setCell ⟨w.heap.size, 1, none⟩ (.string ⟨#[]⟩)).setCell ⟨w.heap.size, 2, none⟩ (.slice none 0 0)) := (((Wr.refl _ _).set 0 _).set 1 _).set 2 _
          have BX := KW.below B4 B4.size (Nat.le_refl _)
          have HK : Hid (ofK f t cs = 5) := HFC.out
          go_wp2
          exact bodyPost_ret (v := .tuple #[.agg #[.string ⟨#[]⟩, .string ⟨#[]⟩, .slice none 0 0], .int .i64 5]) (by simp [results, Tryz.results12, go_sem, r0, r1, r2]) rfl (.inr ⟨by rw [HK.out]; decide, by rw [HK.out], BX⟩)
      have hge : ¬ (j : Int) < (n : Int) := by omega
      have HA1 : Hid (∀ x ∈ cs, notR x = false) := by
        have h := HP.out
        rw [List.take_of_length_le (by rw [HCS.out, List.length_map]; omega)] at h
        exact h
      clear HP
      obtain ⟨wa, hwa⟩ : ∃ V, V = wr := ⟨_, rfl⟩
      subst hwa
      have BA := B
      clear B hlt hj
      go_wp2
      go_loopw [10] (fun i wr => ∃ j : Nat, j ≤ n ∧ i = .int .i64 j ∧ Hid (∀ x ∈ cs.take j, inRows f t x.row = true) ∧ Below w2.heap.size w2 wr) (fun i _ => n - (intOf i).toNat)
      case atStart => exact ⟨0, Nat.zero_le _, rfl, fun x hx => by simp at hx, BA⟩
      case round =>
        obtain ⟨j, hj, rfl, HP, B⟩ := hrel
        by_cases hlt : j < n
        · have BW := B2.trans (B.mono B2.size)
          have hjl : j < l.length := by omega
          have hji : (j : Int) < (n : Int) := by omega
          have hjc : j < cs.length := by rw [HCS.out, List.length_map]; exact hjl
          have hcj : cs[j] = l[j].c := by
            have := HCS.out
            subst this
            exact List.getElem_map ..
          have hmem : l[j].c ∈ cs := by rw [← hcj]; exact List.getElem_mem hjc
          have hok := (L.ok _ (List.getElem_mem hjl)).below BW
          obtain ⟨b, off, ea, hc⟩ := L.at (by omega)
          have X := (hc j hjl).below BW
          have HTK : Hid (cs.take (j + 1) = cs.take j ++ [l[j].c]) := by
            show _ = _
            rw [List.take_succ_eq_append_getElem hjc, hcj]
          obtain ⟨c, hce⟩ : ∃ c, c = l[j] := ⟨_, rfl⟩
          rw [← hce] at X hmem hok HTK
          subst ea
          obtain ⟨x0, x1, x2, x3, x4, x5⟩ := X
          clear hc hcj hce
          have Q4 := arr_below Q2 B
          have q0 : wr.cell? ⟨q, 0, none⟩ = some (.string f) := Q4.cell 0
          have q1 : wr.cell? ⟨q, 1, none⟩ = some (.string t) := Q4.cell 1
          have q2 : wr.cell? ⟨q, 2, none⟩ = some (.slice none 0 0) := Q4.cell 2
          have HIN : Hid (∀ V, Calls Tryz.prog 34 #[.agg #[.string f, .string t, .slice none 0 0], .string c.row] V fun e w' => e = .returned (.bool (inRows f t c.row)) ∧ Below V.heap.size V w') := fun V => rinside10_any V f t c.row none 0 0 hf ht hok.row
          obtain ⟨rb, hrb⟩ : ∃ b, b = inRows f t c.row := ⟨_, rfl⟩
          rw [← hrb] at HIN
          have HRB : Hid (inRows f t c.c.row = rb) := hrb.symm
          clear hrb Q4
          go_wp2
          have zHS : Hid (∀ V, Below wr.heap.size wr V → V.cell? ⟨q, 0, none⟩ = some (.string f) ∧ V.cell? ⟨q, 1, none⟩ = some (.string t) ∧ V.cell? ⟨q, 2, none⟩ = some (.slice none 0 0) ∧ V.cell? ⟨b, off + j * 6, none⟩ = some (.string c.row)) := fun V hV => ⟨(hV.cell (World.block_lt_of_cell? _ _ q0)).trans q0, (hV.cell (World.block_lt_of_cell? _ _ q1)).trans q1, (hV.cell (World.block_lt_of_cell? _ _ q2)).trans q2, (hV.cell (World.block_lt_of_cell? _ _ x0)).trans x0⟩
          have zE0 : Below wr.heap.size wr wr.drew := (Below.refl _ _).drew
          refine wp_region_noPanic ?_
          refine wp_region_held_drew (S := fun V => V.cell? ⟨q, 0, none⟩ = some (.string f) ∧ V.cell? ⟨q, 1, none⟩ = some (.string t) ∧ V.cell? ⟨q, 2, none⟩ = some (.slice none 0 0) ∧ V.cell? ⟨b, off + j * 6, none⟩ = some (.string c.row)) (by kernel_rfl) (zHS.out _ zE0) (fun zH0 => ?_)
          obtain ⟨zv0, hv0⟩ : ∃ v, v = wr.drew := ⟨_, rfl⟩
          rw [← hv0] at zH0 zE0 ⊢
          clear hv0
          refine hr_take_w 0 (some 42) (.agg #[.string f, .string t, .slice none 0 0]) rfl rfl (by kernel_rfl) (by kernel_rfl) (by kernel_rfl) rfl (fun W hW => by obtain ⟨h0, h1, h2, h3⟩ := hW; go_simp) zH0 ?_
          simp only [FL]
          refine hr_take_w 1 (some 43) (.slice (some ⟨b, off, none⟩) n cap) rfl rfl (by kernel_rfl) (by kernel_rfl) (by kernel_rfl) rfl (fun W hW => by obtain ⟨h0, h1, h2, h3⟩ := hW; go_simp) zH0 ?_
          simp only [FL]
          refine hr_take_w 2 (some 44) (.int .i64 (j : Nat)) rfl rfl (by kernel_rfl) (by kernel_rfl) (by kernel_rfl) rfl (fun W hW => by obtain ⟨h0, h1, h2, h3⟩ := hW; go_simp) zH0 ?_
          simp only [FL]
          refine hr_take_w 3 (some 45) (.pointer (some ⟨b, off + j * 6, none⟩)) rfl rfl (by kernel_rfl) (by kernel_rfl) (by kernel_rfl) rfl (fun W hW => by obtain ⟨h0, h1, h2, h3⟩ := hW; go_simp) zH0 ?_
          simp only [FL]
          refine hr_take_w 4 (some 46) (.pointer (some ⟨b, off + j * 6, none⟩)) rfl rfl (by kernel_rfl) (by kernel_rfl) (by kernel_rfl) rfl (fun W hW => by obtain ⟨h0, h1, h2, h3⟩ := hW; go_simp) zH0 ?_
          simp only [FL]
          refine hr_take_w 5 (some 47) (.pointer (some ⟨b, off + j * 6, none⟩)) rfl rfl (by kernel_rfl) (by kernel_rfl) (by kernel_rfl) rfl (fun W hW => by obtain ⟨h0, h1, h2, h3⟩ := hW; go_simp) zH0 ?_
          simp only [FL]
          refine hr_take_w 6 (some 48) (.string c.row) rfl rfl (by kernel_rfl) (by kernel_rfl) (by kernel_rfl) rfl (fun W hW => by obtain ⟨h0, h1, h2, h3⟩ := hW; go_simp) zH0 ?_
          simp only [FL]
          refine hr_call_w 7 (some 49) 34 #[.agg #[.string f, .string t, .slice none 0 0], .string c.row] rfl rfl (by kernel_rfl) rfl (by go_simp) (fun v w' => v = .bool rb ∧ Below zv0.heap.size zv0 w') ((HIN.out zv0).mono (by
            rintro e w' ⟨rfl, C⟩
            exact ⟨_, rfl, rfl, C⟩)) ?_
          rintro v zv1 ⟨rfl, zC0⟩
          have zE1 := zE0.trans (zC0.mono zE0.size)
          have zH1 := zHS.out zv1 zE1
          refine ⟨zH1, ?_⟩
          simp only [FL]
          refine hr_take_w 8 (some 50) (.bool (!rb)) rfl rfl (by kernel_rfl) (by kernel_rfl) (by kernel_rfl) rfl (fun W hW => by obtain ⟨h0, h1, h2, h3⟩ := hW; go_simp) zH1 ?_
          simp only [FL]
          refine wpAnyH_done (by kernel_rfl) ?_ _
          refine NoPanic.normal ?_
          have zB : Below wr.heap.size wr zv1 := zE1
          have B4 := BW.trans (zB.mono BW.size)
          have B24 := B.trans (zB.mono B.size)
          have RX := arr_below R2 B24
          clear zHS zH0 zH1 HIN x0 x1 x2 x3 x4 x5 q0 q1 q2
          cases rb with
          | true =>
            have HV : inRows f t c.c.row = true := HRB.out
            have HP2 : Hid (∀ x ∈ cs.take (j + 1), inRows f t x.row = true) := fun x hx => by
              rw [HTK.out] at hx
              rcases List.mem_append.1 hx with hx | hx
              · exact HP.out x hx
              · rw [List.mem_singleton.1 hx]; exact HV
            clear HV
            go_wp2
            go_roundw
            case rel => exact ⟨j + 1, by omega, by go_num, HP2, B24⟩
            case measure => simp [intOf]; omega
          | false =>
            have HFC : Hid (ofK f t cs = 8) := ofK_8 HN0.out HA1.out hmem HRB.out
            have r0 : zv1.cell? ⟨w.heap.size, 0, none⟩ = some (.string ⟨#[]⟩) := RX.cell 0
            have r1 : zv1.cell? ⟨w.heap.size, 1, none⟩ = some (.string ⟨#[]⟩) := RX.cell 1
            have r2 : zv1.cell? ⟨w.heap.size, 2, none⟩ = some (.slice none 0 0) := RX.cell 2
            have f0 := RX.free 0
            have f1 := RX.free 1
            have f2 := RX.free 2
            have lt := RX.lt
            have KW : Wr w.heap.size zv1 (((zv1.setCell ⟨w.heap.size, 0, none⟩ (.string ⟨#[]⟩)).setCell ⟨w.heap.size, 1, none⟩ (.string ⟨#[]⟩)).setCell ⟨w.heap.size, 2, none⟩ (.slice none 0 0)) := (((Wr.refl _ _).set 0 _).set 1 _).set 2 _
            have BX := KW.below B4 B4.size (Nat.le_refl _)
            have HK : Hid (ofK f t cs = 8) := HFC.out
            go_wp2
            exact bodyPost_ret (v := .tuple #[.agg #[.string ⟨#[]⟩, .string ⟨#[]⟩, .slice none 0 0], .int .i64 8]) (by simp [results, Tryz.results12, go_sem, r0, r1, r2]) rfl (.inr ⟨by rw [HK.out]; decide, by rw [HK.out], BX⟩)
        have hge : ¬ (j : Int) < (n : Int) := by omega
        have HA2 : Hid (∀ x ∈ cs, inRows f t x.row = true) := by
          have h := HP.out
          rw [List.take_of_length_le (by rw [HCS.out, List.length_map]; omega)] at h
          exact h
        clear HP
        obtain ⟨wb, hwb⟩ : ∃ V, V = wr := ⟨_, rfl⟩
        subst hwb
        have BB := B
        clear B hlt hj BA
        go_wp2
        go_loopw [11] (fun i wr => ∃ j : Nat, j ≤ n ∧ i = .int .i64 j ∧ Hid (∀ x ∈ cs.take j, wrongV x = false) ∧ Below w2.heap.size w2 wr) (fun i _ => n - (intOf i).toNat)
        case atStart => exact ⟨0, Nat.zero_le _, rfl, fun x hx => by simp at hx, BB⟩
        case round =>
          obtain ⟨j, hj, rfl, HP, B⟩ := hrel
          by_cases hlt : j < n
          · have BW := B2.trans (B.mono B2.size)
            have hjl : j < l.length := by omega
            have hji : (j : Int) < (n : Int) := by omega
            have hjc : j < cs.length := by rw [HCS.out, List.length_map]; exact hjl
            have hcj : cs[j] = l[j].c := by
              have := HCS.out
              subst this
              exact List.getElem_map ..
            have hmem : l[j].c ∈ cs := by rw [← hcj]; exact List.getElem_mem hjc
            have hok := (L.ok _ (List.getElem_mem hjl)).below BW
            obtain ⟨b, off, ea, hc⟩ := L.at (by omega)
            have X := (hc j hjl).below BW
            have HTK : Hid (cs.take (j + 1) = cs.take j ++ [l[j].c]) := by
              show _ = _
              rw [List.take_succ_eq_append_getElem hjc, hcj]
            obtain ⟨c, hce⟩ : ∃ c, c = l[j] := ⟨_, rfl⟩
            rw [← hce] at X hmem hok HTK
            subst ea
            obtain ⟨x0, x1, x2, x3, x4, x5⟩ := X
            clear hc hcj hce
            have RX := arr_below R2 B
            have hvl : c.va.xs.length = c.va.n := hok.va.len
            have HWV : Hid (wrongV c.c = (decide (256 < c.va.n) || (c.gone && decide (0 < c.va.n)))) := by
              show (decide (256 < c.va.xs.length) || (c.gone && decide (0 < c.va.xs.length))) = _
              rw [hvl]
            clear hvl
            by_cases g1 : 256 < c.va.n
            · have i1 : (256 : Int) < (c.va.n : Int) := by omega
              have HFC : Hid (ofK f t cs = 1) := ofK_w HN0.out HA1.out HA2.out (.inl ⟨_, hmem, by rw [HWV.out, decide_eq_true g1]; rfl⟩)
              have r0 : wr.cell? ⟨w.heap.size, 0, none⟩ = some (.string ⟨#[]⟩) := RX.cell 0
              have r1 : wr.cell? ⟨w.heap.size, 1, none⟩ = some (.string ⟨#[]⟩) := RX.cell 1
              have r2 : wr.cell? ⟨w.heap.size, 2, none⟩ = some (.slice none 0 0) := RX.cell 2
              have f0 := RX.free 0
              have f1 := RX.free 1
              have f2 := RX.free 2
              have lt := RX.lt
              have KW : Wr w.heap.size wr (((wr.setCell ⟨w.heap.size, 0, none⟩ (.string ⟨#[]⟩)).setCell ⟨w.heap.size, 1, none⟩ (.string ⟨#[]⟩)).setCell ⟨w.heap.size, 2, none⟩ (.slice none 0 0)) := (((Wr.refl _ _).set 0 _).set 1 _).set 2 _
              have BX := KW.below BW BW.size (Nat.le_refl _)
              have HK : Hid (ofK f t cs = 1) := HFC.out
              go_wp2
              exact bodyPost_ret (v := .tuple #[.agg #[.string ⟨#[]⟩, .string ⟨#[]⟩, .slice none 0 0], .int .i64 1]) (by simp [results, Tryz.results12, go_sem, r0, r1, r2]) rfl (.inr ⟨by rw [HK.out]; decide, by rw [HK.out], BX⟩)
            have i1 : ¬ (256 : Int) < (c.va.n : Int) := by omega
            cases hg : c.gone with
            | false =>
              rw [hg] at x5
              have HV : wrongV c.c = false := by rw [HWV.out, decide_eq_false g1, hg]; rfl
              have HP2 : Hid (∀ x ∈ cs.take (j + 1), wrongV x = false) := fun x hx => by
                rw [HTK.out] at hx
                rcases List.mem_append.1 hx with hx | hx
                · exact HP.out x hx
                · rw [List.mem_singleton.1 hx]; exact HV
              clear HV
              go_wp2
              go_roundw
              case rel => exact ⟨j + 1, by omega, by go_num, HP2, B⟩
              case measure => simp [intOf]; omega
            | true =>
              rw [hg] at x5
              by_cases g2 : 0 < c.va.n
              · have i2 : (0 : Int) < (c.va.n : Int) := by omega
                have HFC : Hid (ofK f t cs = 1) := ofK_w HN0.out HA1.out HA2.out (.inl ⟨_, hmem, by rw [HWV.out, decide_eq_true g2, hg]; exact Bool.or_true _⟩)
                have r0 : wr.cell? ⟨w.heap.size, 0, none⟩ = some (.string ⟨#[]⟩) := RX.cell 0
                have r1 : wr.cell? ⟨w.heap.size, 1, none⟩ = some (.string ⟨#[]⟩) := RX.cell 1
                have r2 : wr.cell? ⟨w.heap.size, 2, none⟩ = some (.slice none 0 0) := RX.cell 2
                have f0 := RX.free 0
                have f1 := RX.free 1
                have f2 := RX.free 2
                have lt := RX.lt
                have KW : Wr w.heap.size wr (((wr.setCell ⟨w.heap.size, 0, none⟩ (.string ⟨#[]⟩)).setCell ⟨w.heap.size, 1, none⟩ (.string ⟨#[]⟩)).setCell ⟨w.heap.size, 2, none⟩ (.slice none 0 0)) := (((Wr.refl _ _).set 0 _).set 1 _).set 2 _
                have BX := KW.below BW BW.size (Nat.le_refl _)
                have HK : Hid (ofK f t cs = 1) := HFC.out
                go_wp2
                exact bodyPost_ret (v := .tuple #[.agg #[.string ⟨#[]⟩, .string ⟨#[]⟩, .slice none 0 0], .int .i64 1]) (by simp [results, Tryz.results12, go_sem, r0, r1, r2]) rfl (.inr ⟨by rw [HK.out]; decide, by rw [HK.out], BX⟩)
              · have i2 : ¬ (0 : Int) < (c.va.n : Int) := by omega
                have HV : wrongV c.c = false := by rw [HWV.out, decide_eq_false g1, decide_eq_false g2, hg]; rfl
                have HP2 : Hid (∀ x ∈ cs.take (j + 1), wrongV x = false) := fun x hx => by
                  rw [HTK.out] at hx
                  rcases List.mem_append.1 hx with hx | hx
                  · exact HP.out x hx
                  · rw [List.mem_singleton.1 hx]; exact HV
                clear HV
                go_wp2
                go_roundw
                case rel => exact ⟨j + 1, by omega, by go_num, HP2, B⟩
                case measure => simp [intOf]; omega
          have hge : ¬ (j : Int) < (n : Int) := by omega
          have HA3 : Hid (∀ x ∈ cs, wrongV x = false) := by
            have h := HP.out
            rw [List.take_of_length_le (by rw [HCS.out, List.length_map]; omega)] at h
            exact h
          clear HP
          obtain ⟨wc, hwc⟩ : ∃ V, V = wr := ⟨_, rfl⟩
          subst hwc
          have B3 := B2.trans (B.mono B2.size)
          have Q3 := arr_below Q2 B
          have R3 := arr_below R2 B
          clear B hlt hj BB Q2 R2
          go_wp2
          go_loopw [12] (fun i wr => ∃ (j : Nat) (bo : Option Addr) (bm bc : Nat) (l2 : List CA), j ≤ n ∧ i = .int .i64 j ∧ Arr wr q 39 [.string f, .string t, .slice bo bm bc] ∧ CL wr bo bm bc l2 ∧ Hid (l2.map CA.c = layAll [] (cs.take j)) ∧ Arr wr w.heap.size 39 [.string ⟨#[]⟩, .string ⟨#[]⟩, .slice none 0 0] ∧ Below w.heap.size w wr) (fun i _ => n - (intOf i).toNat)
          case atStart => exact ⟨0, none, 0, 0, [], Nat.zero_le _, rfl, Q3, CL.nothing _, rfl, R3, B3⟩
          case round =>
            obtain ⟨j, bo, bm, bc, l2, hj, rfl, A1, LB, HL2, RB, BW⟩ := hrel
            have hl2n : bm ≤ 800 := by
              have h1 := LB.len
              have h2 := congrArg List.length HL2.out
              rw [List.length_map] at h2
              have h3 := layAll_len (cs.take j) []
              rw [List.length_take, List.length_nil] at h3
              omega
            have HSR : Hid (CSrt (l2.map CA.c)) := by
              show CSrt _
              rw [HL2.out]
              exact layAll_csrt _ _ List.Pairwise.nil
            by_cases hlt : j < n
            · have q2 : wr.cell? ⟨q, 2, none⟩ = some (.slice bo bm bc) := A1.cell 2
              have hjl : j < l.length := by omega
              have hji : (j : Int) < (n : Int) := by omega
              have hjc : j < cs.length := by rw [HCS.out, List.length_map]; exact hjl
              have hcj : cs[j] = l[j].c := by
                have := HCS.out
                subst this
                exact List.getElem_map ..
              have hmem : l[j].c ∈ cs := by rw [← hcj]; exact List.getElem_mem hjc
              have hok := (L.ok _ (List.getElem_mem hjl)).below BW
              obtain ⟨b, off, ea, hc⟩ := L.at (by omega)
              have X := (hc j hjl).below BW
              have HTK : Hid (cs.take (j + 1) = cs.take j ++ [l[j].c]) := by
                show _ = _
                rw [List.take_succ_eq_append_getElem hjc, hcj]
              obtain ⟨c, hce⟩ : ∃ c, c = l[j] := ⟨_, rfl⟩
              rw [← hce] at X hmem hok HTK
              subst ea
              obtain ⟨x0, x1, x2, x3, x4, x5⟩ := X
              clear hc hcj hce
              have HPT : Hid (∀ V, Below wr.heap.size wr V → Calls Tryz.prog 35 #[.slice bo bm bc, .agg #[.string c.row, .string c.fam, .string c.qual, .int .u64 c.time, .slice c.va.ao c.va.n c.va.cap, .bool c.gone]] V (LsPost V (cIns (l2.map CA.c) c.c))) := fun V hV => rput10_any V bo bm bc l2 c (LB.below hV) HSR.out (hok.below hV) (by omega)
              go_wp2
              have zE0 : Below wr.heap.size wr wr.drew := (Below.refl _ _).drew
              refine wp_region_noPanic ?_
              refine wp_region_held_drew (S := fun _ => True) (by kernel_rfl) trivial (fun _ => ?_)
              obtain ⟨zv0, hv0⟩ : ∃ v, v = wr.drew := ⟨_, rfl⟩
              rw [← hv0] at zE0 ⊢
              clear hv0
              refine hr_take_w 0 (some 88) (.pointer (some ⟨q, 2, none⟩)) rfl rfl (by kernel_rfl) (by kernel_rfl) (by kernel_rfl) rfl (fun W hW => by go_simp) trivial ?_
              simp only [FL]
              refine hr_take_w 2 (some 90) (.slice (some ⟨b, off, none⟩) n cap) rfl rfl (by kernel_rfl) (by kernel_rfl) (by kernel_rfl) rfl (fun W hW => by go_simp) trivial ?_
              simp only [FL]
              refine hr_take_w 3 (some 91) (.int .i64 (j : Nat)) rfl rfl (by kernel_rfl) (by kernel_rfl) (by kernel_rfl) rfl (fun W hW => by go_simp) trivial ?_
              simp only [FL]
              refine hr_take_w 4 (some 92) (.pointer (some ⟨b, off + j * 6, none⟩)) rfl rfl (by kernel_rfl) (by kernel_rfl) (by kernel_rfl) rfl (fun W hW => by go_simp) trivial ?_
              simp only [FL]
              refine wpAnyH_effto 2 (fun zi zv zw => (zi = 1 → zv = .slice bo bm bc) ∧ (zi = 5 → zv = .agg #[.string c.row, .string c.fam, .string c.qual, .int .u64 c.time, .slice c.va.ao c.va.n c.va.cap, .bool c.gone]) ∧ (zi = 6 → ∃ po pm pc pl, zv = .slice po pm pc ∧ CL zw po pm pc pl ∧ pl.map CA.c = cIns (l2.map CA.c) c.c)) [(1, 89), (5, 93), (6, 94)] 124 (by kernel_rfl) (by decide) (by decide) rfl ?_ (fun _ _ => trivial) ?_ ?_
              · intro zi v w w' h hb
                refine ⟨fun e => ?_, fun e => ?_, fun e => ?_⟩
                · have h := h.1 e
                  exact h
                · have h := h.2.1 e
                  exact h
                · have h := h.2.2 e
                  obtain ⟨po, pm, pc, pl, h1, h2, h3⟩ := h
                  exact ⟨po, pm, pc, pl, h1, h2.below hb, h3⟩
              · intro zp zhi o a w ho hs hb hdep
                have zEB := zE0.trans (hb.mono zE0.size)
                simp only [List.mem_cons, List.not_mem_nil, or_false] at zhi
                rcases zhi with rfl | rfl | rfl
                · obtain rfl : _ = o := Option.some.inj (show some _ = some o from ho)
                  have t88 : a.tmps[88]? = some (.pointer (some ⟨q, 2, none⟩)) := hs.get 88 (by kernel_rfl) rfl
                  have lc := (zEB.cell (World.block_lt_of_cell? _ _ q2)).trans q2
                  exact .inl ⟨.slice bo bm bc, w, by go_simp, ⟨fun _ => rfl, fun e => absurd e (by decide), fun e => absurd e (by decide)⟩, Below.refl _ _⟩
                · obtain rfl : _ = o := Option.some.inj (show some _ = some o from ho)
                  have t92 : a.tmps[92]? = some (.pointer (some ⟨b, off + j * 6, none⟩)) := hs.get 92 (by kernel_rfl) rfl
                  have l0 := (zEB.cell (World.block_lt_of_cell? _ _ x0)).trans x0
                  have l1 := (zEB.cell (World.block_lt_of_cell? _ _ x1)).trans x1
                  have l2 := (zEB.cell (World.block_lt_of_cell? _ _ x2)).trans x2
                  have l3 := (zEB.cell (World.block_lt_of_cell? _ _ x3)).trans x3
                  have l4 := (zEB.cell (World.block_lt_of_cell? _ _ x4)).trans x4
                  have l5 := (zEB.cell (World.block_lt_of_cell? _ _ x5)).trans x5
                  exact .inl ⟨.agg #[.string c.row, .string c.fam, .string c.qual, .int .u64 c.time, .slice c.va.ao c.va.n c.va.cap, .bool c.gone], w, by go_simp, ⟨fun e => absurd e (by decide), fun _ => rfl, fun e => absurd e (by decide)⟩, Below.refl _ _⟩
                · obtain rfl : _ = o := Option.some.inj (show some _ = some o from ho)
                  obtain ⟨x89, t89, f89⟩ := (hdep 1 (by kernel_rfl)).at 89 (by kernel_rfl)
                  replace f89 := f89.1 rfl
                  obtain ⟨x93, t93, f93⟩ := (hdep 5 (by kernel_rfl)).at 93 (by kernel_rfl)
                  replace f93 := f93.2.1 rfl
                  subst f89 f93
                  refine .inr ⟨35, #[.slice bo bm bc, .agg #[.string c.row, .string c.fam, .string c.qual, .int .u64 c.time, .slice c.va.ao c.va.n c.va.cap, .bool c.gone]], by go_simp, (HPT.out w zEB).mono ?_⟩
                  rintro e w' ⟨po, pm, pc, pl, rfl, h1, h2, C⟩
                  exact ⟨_, rfl, ⟨fun e => absurd e (by decide), fun e => absurd e (by decide), fun _ => ⟨po, pm, pc, pl, rfl, h1, h2⟩⟩, C⟩
              intro zf zv1 hb hh
              have zE1 := zE0.trans (hb.mono zE0.size)
              obtain e1 := (hh (1, 89) (by simp)).1 rfl
              obtain e5 := (hh (5, 93) (by simp)).2.1 rfl
              obtain ⟨po, pm, pc, pl, e6, L6, hpl⟩ := (hh (6, 94) (by simp)).2.2 rfl
              clear hh hb
              simp only [putL, List.foldl_cons, List.foldl_nil, e1, e5, e6]
              clear e1 e5 e6
              simp only [FL]
              have A4 := arr_below A1 zE1
              have fq := Arr.free A4 2
              have q2' : zv1.cell? ⟨q, 2, none⟩ = some (.slice bo bm bc) := Arr.cell A4 2
              refine hr_take_w 7 (some 95) (.pointer (some ⟨q, 2, none⟩)) rfl rfl (by kernel_rfl) (by kernel_rfl) (by kernel_rfl) rfl (fun W hW => by go_simp) trivial ?_
              simp only [FL]
              refine hr_skip 8 none (w' := zv1.setCell ⟨q, 2, none⟩ (.slice po pm pc)) rfl rfl (by kernel_rfl) rfl (by go_simp) trivial ?_
              simp only [Act.put]
              refine wpAnyH_done (by kernel_rfl) ?_ _
              refine NoPanic.normal ?_
              have KW : Wr q zv1 (zv1.setCell ⟨q, 2, none⟩ (.slice po pm pc)) := (Wr.refl _ _).set 2 _
              have A5 : Arr (zv1.setCell ⟨q, 2, none⟩ (.slice po pm pc)) q 39 [.string f, .string t, .slice po pm pc] := heap_setCell_same zv1 q 2 _ _ _ A4
              have L5 := L6.rt A4 KW
              have BZ := BW.trans (zE1.mono BW.size)
              have B5 := KW.below BZ BZ.size (Nat.le_of_lt hq)
              have R5 : Arr (zv1.setCell ⟨q, 2, none⟩ (.slice po pm pc)) w.heap.size 39 [.string ⟨#[]⟩, .string ⟨#[]⟩, .slice none 0 0] := (KW.block _ (arr_below RB zE1).lt (by omega)).trans (arr_below RB zE1)
              have HL5 : Hid (pl.map CA.c = layAll [] (cs.take (j + 1))) := by
                show _ = _
                rw [hpl, HL2.out, HTK.out, layAll_snoc]
              obtain ⟨w6, hw6⟩ : ∃ V, V = zv1.setCell ⟨q, 2, none⟩ (.slice po pm pc) := ⟨_, rfl⟩
              rw [← hw6] at A5 L5 B5 R5 ⊢
              clear hw6 KW A4 L6 hpl A1 LB RB fq q2' x0 x1 x2 x3 x4 x5 q2
              go_wp2
              go_roundw
              case rel => exact ⟨j + 1, po, pm, pc, pl, by omega, by go_num, A5, L5, HL5, R5, B5⟩
              case measure => simp [intOf]; omega
            have hge : ¬ (j : Int) < (n : Int) := by omega
            have HLA : Hid (l2.map CA.c = layAll [] cs) := by
              have h := HL2.out
              rw [List.take_of_length_le (by rw [HCS.out, List.length_map]; omega)] at h
              exact h
            have HBM : Hid (bm = (layAll [] cs).length) := by
              show _ = _
              rw [← HLA.out, List.length_map]
              exact LB.len.symm
            obtain ⟨wd, hwd⟩ : ∃ V, V = wr := ⟨_, rfl⟩
            subst hwd
            have q2 : wd.cell? ⟨q, 2, none⟩ = some (.slice bo bm bc) := A1.cell 2
            clear HL2 hlt hj
            by_cases hd : bm = n
            case neg =>
              have hne : ((bm : Int) != (n : Int)) = true := by simp; omega
              have HFC : Hid (ofK f t cs = 1) := ofK_w HN0.out HA1.out HA2.out (.inr ((dup_iff HTM.out).1 (by rw [← HBM.out, HLC.out]; exact hd)))
              clear hd
              have r0 : wd.cell? ⟨w.heap.size, 0, none⟩ = some (.string ⟨#[]⟩) := RB.cell 0
              have r1 : wd.cell? ⟨w.heap.size, 1, none⟩ = some (.string ⟨#[]⟩) := RB.cell 1
              have r2 : wd.cell? ⟨w.heap.size, 2, none⟩ = some (.slice none 0 0) := RB.cell 2
              have f0 := RB.free 0
              have f1 := RB.free 1
              have f2 := RB.free 2
              have lt := RB.lt
              have KW : Wr w.heap.size wd (((wd.setCell ⟨w.heap.size, 0, none⟩ (.string ⟨#[]⟩)).setCell ⟨w.heap.size, 1, none⟩ (.string ⟨#[]⟩)).setCell ⟨w.heap.size, 2, none⟩ (.slice none 0 0)) := (((Wr.refl _ _).set 0 _).set 1 _).set 2 _
              have BX := KW.below BW BW.size (Nat.le_refl _)
              have HK : Hid (ofK f t cs = 1) := HFC.out
              go_wp2
              exact bodyPost_ret (v := .tuple #[.agg #[.string ⟨#[]⟩, .string ⟨#[]⟩, .slice none 0 0], .int .i64 1]) (by simp [results, Tryz.results12, go_sem, r0, r1, r2]) rfl (.inr ⟨by rw [HK.out]; decide, by rw [HK.out], BX⟩)
            have hne : ((bm : Int) != (n : Int)) = false := by simp; omega
            have HND : Hid (¬ 1 < mostK (cs.map CV.ky)) := fun h => (dup_iff HTM.out).2 h (by rw [← HBM.out, HLC.out]; exact hd)
            clear hd
            have HND2 := HND
            go_wp2
            go_loopw [13] (fun i wr => ∃ j : Nat, j ≤ n ∧ i = .int .i64 j ∧ Hid (∀ x ∈ cs.take j, (colC x.ky cs).length ≤ 4) ∧ Below wd.heap.size wd wr) (fun i _ => n - (intOf i).toNat)
            case atStart => exact ⟨0, Nat.zero_le _, rfl, fun x hx => by simp at hx, Below.refl _ _⟩
            case round =>
              obtain ⟨j, hj, rfl, HP, B⟩ := hrel
              have BX1 := BW.trans (B.mono BW.size)
              have RX1 := arr_below RB B
              by_cases hlt : j < n
              · skip
                have hjl : j < l.length := by omega
                have hji : (j : Int) < (n : Int) := by omega
                have hjc : j < cs.length := by rw [HCS.out, List.length_map]; exact hjl
                have hcj : cs[j] = l[j].c := by
                  have := HCS.out
                  subst this
                  exact List.getElem_map ..
                have hmem : l[j].c ∈ cs := by rw [← hcj]; exact List.getElem_mem hjc
                have hok := (L.ok _ (List.getElem_mem hjl)).below BX1
                obtain ⟨b, off, ea, hc⟩ := L.at (by omega)
                have X := (hc j hjl).below BX1
                have HTK : Hid (cs.take (j + 1) = cs.take j ++ [l[j].c]) := by
                  show _ = _
                  rw [List.take_succ_eq_append_getElem hjc, hcj]
                obtain ⟨c, hce⟩ : ∃ c, c = l[j] := ⟨_, rfl⟩
                rw [← hce] at X hmem hok HTK
                subst ea
                obtain ⟨x0, x1, x2, x3, x4, x5⟩ := X
                clear hc hcj hce
                have CC5 := rcol10_any wr (some ⟨b, off, none⟩) n cap l c.key (L.below BX1) (by omega)
                rw [show c.key.val = .agg #[.string c.row, .string c.fam, .string c.qual, .int .u64 c.time] from rfl, ← HCS.out, show c.key = c.c.ky from rfl] at CC5
                go_wp2_with fail
                refine CC5.mono ?_
                rintro e w5 ⟨co, cm, cc, cl, rfl, L5, hcl, D5⟩
                have B5 := BX1.trans (D5.mono BX1.size)
                have B55 := B.trans (D5.mono B.size)
                have RX5 := arr_below RX1 D5
                have HCM : Hid (cm = (colC c.c.ky cs).length) := by
                  show _ = _
                  have := L5.len
                  rw [← this, ← List.length_map (f := CA.c), hcl]
                  rfl
                clear CC5 hcl L5 x0 x1 x2 x3 x4 x5
                by_cases g : 4 < cm
                · have i4 : (4 : Int) < (cm : Int) := by omega
                  have HFC : Hid (ofK f t cs = 4) := ofK_4 HN0.out HA1.out HA2.out HA3.out HND2.out ((many_iff cs).1 ⟨_, hmem, by rw [← HCM.out]; exact g⟩)
                  have r0 : w5.cell? ⟨w.heap.size, 0, none⟩ = some (.string ⟨#[]⟩) := RX5.cell 0
                  have r1 : w5.cell? ⟨w.heap.size, 1, none⟩ = some (.string ⟨#[]⟩) := RX5.cell 1
                  have r2 : w5.cell? ⟨w.heap.size, 2, none⟩ = some (.slice none 0 0) := RX5.cell 2
                  have f0 := RX5.free 0
                  have f1 := RX5.free 1
                  have f2 := RX5.free 2
                  have lt := RX5.lt
                  have KW : Wr w.heap.size w5 (((w5.setCell ⟨w.heap.size, 0, none⟩ (.string ⟨#[]⟩)).setCell ⟨w.heap.size, 1, none⟩ (.string ⟨#[]⟩)).setCell ⟨w.heap.size, 2, none⟩ (.slice none 0 0)) := (((Wr.refl _ _).set 0 _).set 1 _).set 2 _
                  have BX := KW.below B5 B5.size (Nat.le_refl _)
                  have HK : Hid (ofK f t cs = 4) := HFC.out
                  go_wp2
                  exact bodyPost_ret (v := .tuple #[.agg #[.string ⟨#[]⟩, .string ⟨#[]⟩, .slice none 0 0], .int .i64 4]) (by simp [results, Tryz.results12, go_sem, r0, r1, r2]) rfl (.inr ⟨by rw [HK.out]; decide, by rw [HK.out], BX⟩)
                · have i4 : ¬ (4 : Int) < (cm : Int) := by omega
                  have HP2 : Hid (∀ x ∈ cs.take (j + 1), (colC x.ky cs).length ≤ 4) := fun x hx => by
                    rw [HTK.out] at hx
                    rcases List.mem_append.1 hx with hx | hx
                    · exact HP.out x hx
                    · rw [List.mem_singleton.1 hx, ← HCM.out]; omega
                  go_wp2
                  go_roundw
                  case rel => exact ⟨j + 1, by omega, by go_num, HP2, B55⟩
                  case measure => simp [intOf]; omega
              have hge : ¬ (j : Int) < (n : Int) := by omega
              have HM4 : Hid (¬ 4 < mostK (cs.map fun c => c.ky.colK)) := fun h => by
                obtain ⟨c, hc, h2⟩ := (many_iff cs).2 h
                have := HP.out c (by rw [List.take_of_length_le (by rw [HCS.out, List.length_map]; omega)]; exact hc)
                omega
              have HOF := ofK_9 HN0.out HA1.out HA2.out HA3.out HND2.out HM4.out
              rw [HLC.out] at HOF
              clear hlt hj
              by_cases g : 32 < n
              · have i9 : (32 : Int) < (n : Int) := by omega
                have HFC : Hid (ofK f t cs = 9) := by show _ = _; rw [HOF, if_pos g]
                clear HOF
                have r0 : wr.cell? ⟨w.heap.size, 0, none⟩ = some (.string ⟨#[]⟩) := RX1.cell 0
                have r1 : wr.cell? ⟨w.heap.size, 1, none⟩ = some (.string ⟨#[]⟩) := RX1.cell 1
                have r2 : wr.cell? ⟨w.heap.size, 2, none⟩ = some (.slice none 0 0) := RX1.cell 2
                have f0 := RX1.free 0
                have f1 := RX1.free 1
                have f2 := RX1.free 2
                have lt := RX1.lt
                have KW : Wr w.heap.size wr (((wr.setCell ⟨w.heap.size, 0, none⟩ (.string ⟨#[]⟩)).setCell ⟨w.heap.size, 1, none⟩ (.string ⟨#[]⟩)).setCell ⟨w.heap.size, 2, none⟩ (.slice none 0 0)) := (((Wr.refl _ _).set 0 _).set 1 _).set 2 _
                have BX := KW.below BX1 BX1.size (Nat.le_refl _)
                have HK : Hid (ofK f t cs = 9) := HFC.out
                go_wp2
                exact bodyPost_ret (v := .tuple #[.agg #[.string ⟨#[]⟩, .string ⟨#[]⟩, .slice none 0 0], .int .i64 9]) (by simp [results, Tryz.results12, go_sem, r0, r1, r2]) rfl (.inr ⟨by rw [HK.out]; decide, by rw [HK.out], BX⟩)
              have i9 : ¬ (32 : Int) < (n : Int) := by omega
              have HFC : Hid (ofK f t cs = 0) := by show _ = _; rw [HOF, if_neg g]
              clear HOF
              have A5 := arr_below A1 B
              have L5 := LB.below B
              have q0 : wr.cell? ⟨q, 0, none⟩ = some (.string f) := A5.cell 0
              have q1 : wr.cell? ⟨q, 1, none⟩ = some (.string t) := A5.cell 1
              have q2 : wr.cell? ⟨q, 2, none⟩ = some (.slice bo bm bc) := A5.cell 2
              have r0 : wr.cell? ⟨w.heap.size, 0, none⟩ = some (.string ⟨#[]⟩) := RX1.cell 0
              have r1 : wr.cell? ⟨w.heap.size, 1, none⟩ = some (.string ⟨#[]⟩) := RX1.cell 1
              have r2 : wr.cell? ⟨w.heap.size, 2, none⟩ = some (.slice none 0 0) := RX1.cell 2
              have f0 := RX1.free 0
              have f1 := RX1.free 1
              have f2 := RX1.free 2
              have lt := RX1.lt
              have KW : Wr w.heap.size wr (((wr.setCell ⟨w.heap.size, 0, none⟩ (.string f)).setCell ⟨w.heap.size, 1, none⟩ (.string t)).setCell ⟨w.heap.size, 2, none⟩ (.slice bo bm bc)) := (((Wr.refl _ _).set 0 _).set 1 _).set 2 _
              have BX := KW.below BX1 BX1.size (Nat.le_refl _)
              have L6 := L5.rt RX1 KW
              clear L5 A5 A1 LB
              go_wp2
              exact bodyPost_ret (v := .tuple #[.agg #[.string f, .string t, .slice bo bm bc], .int .i64 0]) (by simp [results, Tryz.results12, go_sem, r0, r1, r2]) rfl (.inl ⟨HFC.out, _, _, _, l2, rfl, L6, HLA.out, BX⟩)
end Go.Proofs.YtlljmhcgjkolpaaGreatDoor

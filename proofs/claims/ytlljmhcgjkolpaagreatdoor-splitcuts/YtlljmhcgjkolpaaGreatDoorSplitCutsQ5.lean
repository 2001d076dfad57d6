/-
  Texts in one: PWalk, HRegF, PLen, PJudge, PItemM.
-/
import Derived.Test.YtlljmhcgjkolpaaGreatDoorSplitCutsQFL
import Derived.Test.YtlljmhcgjkolpaaGreatDoorSplitCutsQ3
import Derived.Test.YtlljmhcgjkolpaaGreatDoorSplitCutsQ1
namespace Go.Proofs.YtlljmhcgjkolpaaGreatDoor
open Go.RowKit
def ge (lo : List Int) (l : List It) : List It := l.filter fun x => decide (¬ cmpL x.k lo < 0)
theorem ge_append (lo : List Int) (a b : List It) : ge lo (a ++ b) = ge lo a ++ ge lo b := by simp [ge]
theorem ge_none {lo : List Int} {l : List It} (h : ∀ x ∈ l, cmpL x.k lo < 0) : ge lo l = [] := List.filter_eq_nil_iff.2 fun x hx => by simpa using h x hx
theorem ge_one {lo : List Int} {x : It} (h : ¬ cmpL x.k lo < 0) : ge lo [x] = [x] := by simp only [ge, List.filter_cons, decide_eq_true h, if_true, List.filter_nil]
def BPost (b : Bool) (Q R : World → Prop) (w : World) : Prop := (b = true ∧ Q w) ∨ (b = false ∧ R w)
def WPost (Q R : World → Prop) (e : Ending) (w : World) : Prop := (e = .returned (.bool true) ∧ Q w) ∨ (e = .returned (.bool false) ∧ R w)
set_option maxHeartbeats 4000000 in
set_option maxRecDepth 100000 in
theorem walk_fuel (w0 : World) (g : Nat) (lb : Array Value) (eg : ∀ args w, (callFunc g args).run Tryz.prog w = .ok (.enter g args) w) (Iv : List It → World → Prop) (St : World → Prop) (ok : It → Prop) (F : List It)
    (hIb : ∀ pre W, Iv pre W → Below w0.heap.size w0 W) (hSb : ∀ W, St W → Below w0.heap.size w0 W) (hgr : ∀ pre W W', Iv pre W → Below W.heap.size W W' → Iv pre W')
    (lo : List Int) (xo : Option Addr) (m xc : Nat) (hx : Sl w0 xo m xc lo)
    (hand : ∀ pre W (k y : Part) (x : It), Iv pre W → ok x → (∃ post, pre ++ x :: post = F) → ¬ cmpL x.k lo < 0 → k.xs = x.k → y.xs = x.v → Sl W k.ao k.n k.cap k.xs → Sl W y.ao y.n y.cap y.xs → Calls Tryz.prog g (#[k.val, y.val] ++ lb) W (WPost (Iv (pre ++ [x])) St)) :
    ∀ (N : Nat) (l : List It) (v : Value) (pre post : List It) (W : World), l.length ≤ N → pre ++ (ge lo l ++ post) = F → T w0 v l → Srt l → (∀ x ∈ l, ok x) → l.length ≤ 100000 → Iv pre W → Calls Tryz.prog 122 #[v, .slice xo m xc, .func (.func g) #[] lb] W (WPost (Iv (pre ++ ge lo l)) St) := by
  intro N
  induction N with
  | zero =>
    intro l v pre post W hN hF hT hs hok hn hI
    rcases hT.is with ⟨rfl, rfl⟩ | ⟨d, segs, xs, rfl, h⟩
    · go_enter Tryz.func122, Tryz.ntmps122
      go_wp2
      go_ret
      exact .inl ⟨rfl, by simpa [ge] using hI⟩
    · have h1 := h.shp.pos
      have h2 := h.many
      omega
  | succ N ih =>
    intro l v pre post W hN hF hT hs hok hn hI
    rcases hT.is with ⟨rfl, rfl⟩ | ⟨d, segs, xs, rfl, h⟩
    · go_enter Tryz.func122, Tryz.ntmps122
      go_wp2
      go_ret
      exact .inl ⟨rfl, by simpa [ge] using hI⟩
    have HF : Hid (pre ++ (ge lo l ++ post) = F) := hF
    clear hF
    have hb := hIb _ _ hI
    have hm := h.many
    have hnk1 := Nat.le_of_eq h.nk
    have hnk2 := Nat.le_of_eq h.nk.symm
    have hnv1 := Nat.le_of_eq h.nv
    have hnv2 := Nat.le_of_eq h.nv.symm
    have hnc1 := Nat.le_of_eq h.nc
    have hnc2 := Nat.le_of_eq h.nc.symm
    have hpos := h.shp.pos
    have CP := place_any W d (h.ok.below hb) xo m xc lo (hx.below hb) (h.rise hs) (by omega)
    unfold Nd.ptr at CP ⊢
    go_enter Tryz.func122, Tryz.ntmps122
    go_wp2_with fail
    refine CP.mono ?_
    rintro e W1 ⟨i, b0, rfl, hat, B1⟩
    have hI := hgr _ _ _ hI B1
    obtain ⟨s0, A, B, c, hA, hB, -, -⟩ := h.found hs hat
    have hle := c.le
    have HI0 : Hid (ge lo (wvA (segs.take i) (xs.take i)) = []) := by show _ = _; rw [← c.eA]; exact ge_none hA
    have HHi : Hid (∀ j (hj : j < xs.length), i ≤ j → ¬ cmpL xs[j].k lo < 0) := fun j hj hij => by rw [← h.keyAt j (by omega) hj]; exact hat.hi j (by omega) hij
    clear CP hat c hA hB B1
    go_wp2_with fail
    go_loopw [7] (fun a wr => ∃ j : Nat, a = .int .i64 j ∧ i ≤ j ∧ j ≤ xs.length ∧ Iv (pre ++ ge lo (wvA (segs.take j) (xs.take j))) wr) (fun a _ => xs.length - (intOf a).toNat)
    case atStart => exact ⟨i, rfl, Nat.le_refl _, hle, by rw [HI0.out, List.append_nil]; exact hI⟩
    case round =>
      clear hI hb
      obtain ⟨j, rfl, hij, hj, hI⟩ := hrel
      have hb := hIb _ _ hI
      have Nr := h.below hb
      obtain ⟨cb, cf, s, u, eco, hs1, hs2, hcell, hTk, hlen⟩ := h.kidAt j hj
      obtain ⟨q, rfl⟩ := hTk.ptr
      have hsm : s ∈ segs := List.mem_of_getElem? hs1
      obtain ⟨ss, Aj, Bj, cj⟩ := h.shp.cut j hj
      obtain rfl : ss = s := Option.some.inj (cj.seg.symm.trans hs1)
      have hss : Srt ss := by
        have h1 := hs
        rw [cj.el] at h1
        exact h1.app.2.1.app.1
      have HFk : Hid (pre ++ ge lo (wvA (segs.take j) (xs.take j)) ++ (ge lo ss ++ (ge lo Bj ++ post)) = F) := by
        show _ = _
        rw [← HF.out, cj.el, cj.eA]
        simp only [ge_append, List.append_assoc]
      have CI : Hid (∀ V, Iv (pre ++ ge lo (wvA (segs.take j) (xs.take j))) V → Calls Tryz.prog 122 #[.pointer q, .slice xo m xc, .func (.func g) #[] lb] V (WPost (Iv (pre ++ ge lo (wvA (segs.take j) (xs.take j)) ++ ge lo ss)) St)) := fun V hV => ih ss (.pointer q) _ (ge lo Bj ++ post) V (by omega) HFk.out hTk hss (fun x hx => hok x (h.shp.seg _ hsm x hx)) (by omega) hV
      have hji : (j : Int) < (d.cs.length : Int) := by omega
      by_cases hlt : j < d.ks.length
      · have hlt' : (j : Int) < (d.ks.length : Int) := by omega
        have hlv : (j : Int) < (d.vs.length : Int) := by omega
        have hjx : j < xs.length := by omega
        have hjv : j < d.vs.length := by omega
        obtain ⟨ab, af, eak, hck⟩ := h.ok.kl.vl.at (by omega)
        obtain ⟨vb, vf, eav, hcv⟩ := h.ok.vl.vl.at (by omega)
        have ck := hck j (by simpa using hlt)
        have cv := hcv j (by simpa using hjv)
        have SK := h.ok.kl.sl d.ks[j] (List.getElem_mem hlt)
        have SV := h.ok.vl.sl d.vs[j] (List.getElem_mem hjv)
        have ek := h.keyAt j hlt hjx
        have ev := h.valAt j hjv hjx
        simp only [List.getElem_map] at ck cv
        obtain ⟨k, hk⟩ : ∃ k, k = d.ks[j] := ⟨_, rfl⟩
        obtain ⟨y, hy⟩ : ∃ y, y = d.vs[j] := ⟨_, rfl⟩
        rw [← hk] at ck SK ek
        rw [← hy] at cv SV ev
        have c1 := h.ok.c1
        have c2 := h.ok.c2
        have c3 := h.ok.c3
        rw [eak] at c1
        rw [eav] at c2
        rw [eco] at c3
        have c1r : wr.cell? ⟨d.b, 1, none⟩ = some (.slice (some ⟨ab, af, none⟩) d.ks.length d.kc) := (hb.cell (p := ⟨d.b, 1, none⟩) h.ok.lt).trans c1
        have HW : Hid (ge lo (wvA (segs.take (j + 1)) (xs.take (j + 1))) = ge lo (wvA (segs.take j) (xs.take j)) ++ ge lo ss ++ [xs[j]]) := by
          show _ = _
          have hjs : j < segs.length := by have := h.shp.len; omega
          have e1 : segs[j] = ss := by
            have := cj.seg
            rw [List.getElem?_eq_getElem hjs] at this
            exact Option.some.inj this
          have e2 : ge lo [xs[j]] = [xs[j]] := ge_one (by have := HHi.out j hjx hij; omega)
          rw [List.take_add_one, List.take_add_one, List.getElem?_eq_getElem hjs, List.getElem?_eq_getElem hjx, wvA_app _ _ _ _ (by simp; omega), e1]
          simp only [Option.toList_some, wvA, ge_append]
          have e3 : ge lo (xs[j] :: []) = [xs[j]] := e2
          rw [e3, List.append_assoc]
        have HFx : Hid (∃ p2, pre ++ ge lo (wvA (segs.take j) (xs.take j)) ++ ge lo ss ++ xs[j] :: p2 = F) := by
          obtain ⟨t, Q, -, -, -, -, hBe⟩ := cj.next hjx
          refine ⟨ge lo (t ++ weave ([] :: Q) (xs.drop (j + 1))) ++ post, ?_⟩
          have e2 : ge lo Bj = xs[j] :: ge lo (t ++ weave ([] :: Q) (xs.drop (j + 1))) := by
            rw [hBe, show xs[j] :: (t ++ weave ([] :: Q) (xs.drop (j + 1))) = [xs[j]] ++ (t ++ weave ([] :: Q) (xs.drop (j + 1))) from rfl, ge_append, ge_one (by have := HHi.out j hjx hij; omega)]
            rfl
          rw [← HFk.out, e2]
          simp
        have CH : Hid (∀ V, Iv (pre ++ ge lo (wvA (segs.take j) (xs.take j)) ++ ge lo ss) V → Calls Tryz.prog g ((#[Value.slice k.ao k.n k.cap, Value.slice y.ao y.n y.cap] : Array Value) ++ lb) V (WPost (Iv (pre ++ ge lo (wvA (segs.take (j + 1)) (xs.take (j + 1))))) St)) := by
          intro V hV
          rw [HW.out, ← List.append_assoc, ← List.append_assoc]
          exact hand _ V k y xs[j] hV (hok _ (h.shp.key _ (List.getElem_mem hjx))) HFx.out (by have := HHi.out j hjx hij; omega) ek ev (SK.below (hIb _ _ hV)) (SV.below (hIb _ _ hV))
        have CS : Hid (∀ V, Below w0.heap.size w0 V → V.cell? ⟨d.b, 1, none⟩ = some (.slice (some ⟨ab, af, none⟩) d.ks.length d.kc) ∧ V.cell? ⟨d.b, 2, none⟩ = some (.slice (some ⟨vb, vf, none⟩) d.vs.length d.vc) ∧ V.cell? ⟨d.b, 3, none⟩ = some (.slice (some ⟨cb, cf, none⟩) d.cs.length d.cc) ∧ V.cell? ⟨cb, cf + j, none⟩ = some (.pointer q) ∧ V.cell? ⟨ab, af + j, none⟩ = some (.slice k.ao k.n k.cap) ∧ V.cell? ⟨vb, vf + j, none⟩ = some (.slice y.ao y.n y.cap)) := by
          intro V hV
          unfold Part.val at ck cv
          exact ⟨(hV.cell (World.block_lt_of_cell? _ _ c1)).trans c1, (hV.cell (World.block_lt_of_cell? _ _ c2)).trans c2, (hV.cell (World.block_lt_of_cell? _ _ c3)).trans c3, (hV.cell (World.block_lt_of_cell? _ _ hcell)).trans hcell, (hV.cell (World.block_lt_of_cell? _ _ ck)).trans ck, (hV.cell (World.block_lt_of_cell? _ _ cv)).trans cv⟩
        clear hk hy ck cv SK SV ek ev c1 c2 c3 hck hcv eak eav eco hs1 hs2 hcell hTk cj hss HW ih hand
        go_wp2_with fail
        have hb0 : Below w0.heap.size w0 wr.drew := (hIb _ _ hI).drew
        have hI0 := hgr _ _ _ hI (Below.refl _ wr).drew
        refine wp_region_noPanic ?_
        refine wp_region_held_drew (S := fun V => V.cell? ⟨d.b, 1, none⟩ = some (.slice (some ⟨ab, af, none⟩) d.ks.length d.kc) ∧ V.cell? ⟨d.b, 2, none⟩ = some (.slice (some ⟨vb, vf, none⟩) d.vs.length d.vc) ∧ V.cell? ⟨d.b, 3, none⟩ = some (.slice (some ⟨cb, cf, none⟩) d.cs.length d.cc) ∧ V.cell? ⟨cb, cf + j, none⟩ = some (.pointer q) ∧ V.cell? ⟨ab, af + j, none⟩ = some (.slice k.ao k.n k.cap) ∧ V.cell? ⟨vb, vf + j, none⟩ = some (.slice y.ao y.n y.cap)) (by kernel_rfl) (CS.out _ hb0) (fun aH0 => ?_)
        obtain ⟨v0, hv0⟩ : ∃ v, v = wr.drew := ⟨_, rfl⟩
        rw [← hv0] at aH0 hI0 ⊢
        clear hv0 hI hb0
        refine hr_take_w 0 (some 26) (.pointer (some ⟨d.b, 0, none⟩)) rfl rfl (by kernel_rfl) (by kernel_rfl) (by kernel_rfl) rfl (fun W hW => by obtain ⟨h0, h1, h2, h3, h4, h5⟩ := hW; go_simp) aH0 ?_
        simp only [FL]
        refine hr_take_w 1 (some 27) (.pointer (some ⟨d.b, 0, none⟩)) rfl rfl (by kernel_rfl) (by kernel_rfl) (by kernel_rfl) rfl (fun W hW => by obtain ⟨h0, h1, h2, h3, h4, h5⟩ := hW; go_simp) aH0 ?_
        simp only [FL]
        refine hr_take_w 2 (some 28) (.pointer (some ⟨d.b, 3, none⟩)) rfl rfl (by kernel_rfl) (by kernel_rfl) (by kernel_rfl) rfl (fun W hW => by obtain ⟨h0, h1, h2, h3, h4, h5⟩ := hW; go_simp) aH0 ?_
        simp only [FL]
        refine hr_take_w 3 (some 29) (.slice (some ⟨cb, cf, none⟩) d.cs.length d.cc) rfl rfl (by kernel_rfl) (by kernel_rfl) (by kernel_rfl) rfl (fun W hW => by obtain ⟨h0, h1, h2, h3, h4, h5⟩ := hW; go_simp) aH0 ?_
        simp only [FL]
        refine hr_take_w 4 (some 30) (.int .i64 j) rfl rfl (by kernel_rfl) (by kernel_rfl) (by kernel_rfl) rfl (fun W hW => by obtain ⟨h0, h1, h2, h3, h4, h5⟩ := hW; go_simp) aH0 ?_
        simp only [FL]
        refine hr_take_w 5 (some 31) (.pointer (some ⟨cb, cf + j, none⟩)) rfl rfl (by kernel_rfl) (by kernel_rfl) (by kernel_rfl) rfl (fun W hW => by obtain ⟨h0, h1, h2, h3, h4, h5⟩ := hW; go_simp) aH0 ?_
        simp only [FL]
        refine hr_take_w 6 (some 32) (.pointer q) rfl rfl (by kernel_rfl) (by kernel_rfl) (by kernel_rfl) rfl (fun W hW => by obtain ⟨h0, h1, h2, h3, h4, h5⟩ := hW; go_simp) aH0 ?_
        simp only [FL]
        refine hr_take_w 7 (some 33) (.slice xo m xc) rfl rfl (by kernel_rfl) (by kernel_rfl) (by kernel_rfl) rfl (fun W hW => by obtain ⟨h0, h1, h2, h3, h4, h5⟩ := hW; go_simp) aH0 ?_
        simp only [FL]
        refine hr_take_w 8 (some 34) (.func (.func g) #[] lb) rfl rfl (by kernel_rfl) (by kernel_rfl) (by kernel_rfl) rfl (fun W hW => by obtain ⟨h0, h1, h2, h3, h4, h5⟩ := hW; go_simp) aH0 ?_
        simp only [FL]
        refine hr_call_w 9 (some 35) 122 #[.pointer q, .slice xo m xc, .func (.func g) #[] lb] rfl rfl (by kernel_rfl) rfl (by go_simp) (fun v w' => ∃ b, v = .bool b ∧ BPost b (Iv (pre ++ ge lo (wvA (segs.take j) (xs.take j)) ++ ge lo ss)) St w') ((CI.out v0 hI0).mono (by
          rintro e w' (⟨rfl, h⟩ | ⟨rfl, h⟩)
          · exact ⟨_, rfl, true, rfl, .inl ⟨rfl, h⟩⟩
          · exact ⟨_, rfl, false, rfl, .inr ⟨rfl, h⟩⟩)) ?_
        rintro v v1 ⟨b, rfl, hP⟩
        have hb1 : Below w0.heap.size w0 v1 := by
          rcases hP with ⟨-, h⟩ | ⟨-, h⟩
          · exact hIb _ _ h
          · exact hSb _ h
        have aH1 := CS.out v1 hb1
        refine ⟨aH1, ?_⟩
        simp only [FL]
        clear hI0 CI
        cases b with
        | false =>
          refine hr_take_w 10 (some 36) (.bool true) rfl rfl (by kernel_rfl) (by kernel_rfl) (by kernel_rfl) rfl (fun W hW => by obtain ⟨h0, h1, h2, h3, h4, h5⟩ := hW; go_simp) aH1 ?_
          simp only [FL]
          refine hr_take_w 11 (some 37) (.bool true) rfl rfl (by kernel_rfl) (by kernel_rfl) (by kernel_rfl) rfl (fun W hW => by obtain ⟨h0, h1, h2, h3, h4, h5⟩ := hW; go_simp) aH1 ?_
          simp only [FL]
          refine hr_none 12 (some 38) rfl rfl (by kernel_rfl) (by kernel_rfl) (by kernel_rfl) rfl aH1 ?_
          simp only [FL]
          refine hr_none 13 (some 39) rfl rfl (by kernel_rfl) (by kernel_rfl) (by kernel_rfl) rfl aH1 ?_
          simp only [FL]
          refine hr_none 14 (some 40) rfl rfl (by kernel_rfl) (by kernel_rfl) (by kernel_rfl) rfl aH1 ?_
          simp only [FL]
          refine hr_none 15 (some 41) rfl rfl (by kernel_rfl) (by kernel_rfl) (by kernel_rfl) rfl aH1 ?_
          simp only [FL]
          refine hr_none 16 (some 42) rfl rfl (by kernel_rfl) (by kernel_rfl) (by kernel_rfl) rfl aH1 ?_
          simp only [FL]
          refine hr_none 17 (some 43) rfl rfl (by kernel_rfl) (by kernel_rfl) (by kernel_rfl) rfl aH1 ?_
          simp only [FL]
          refine hr_none 18 (some 44) rfl rfl (by kernel_rfl) (by kernel_rfl) (by kernel_rfl) rfl aH1 ?_
          simp only [FL]
          refine hr_none 19 (some 45) rfl rfl (by kernel_rfl) (by kernel_rfl) (by kernel_rfl) rfl aH1 ?_
          simp only [FL]
          refine hr_none 20 (some 46) rfl rfl (by kernel_rfl) (by kernel_rfl) (by kernel_rfl) rfl aH1 ?_
          simp only [FL]
          refine hr_none 21 (some 47) rfl rfl (by kernel_rfl) (by kernel_rfl) (by kernel_rfl) rfl aH1 ?_
          simp only [FL]
          refine hr_none 22 (some 48) rfl rfl (by kernel_rfl) (by kernel_rfl) (by kernel_rfl) rfl aH1 ?_
          simp only [FL]
          refine hr_none 23 (some 49) rfl rfl (by kernel_rfl) (by kernel_rfl) (by kernel_rfl) rfl aH1 ?_
          simp only [FL]
          refine hr_none 24 (some 50) rfl rfl (by kernel_rfl) (by kernel_rfl) (by kernel_rfl) rfl aH1 ?_
          simp only [FL]
          refine hr_none 25 (some 51) rfl rfl (by kernel_rfl) (by kernel_rfl) (by kernel_rfl) rfl aH1 ?_
          simp only [FL]
          refine hr_none 26 (some 52) rfl rfl (by kernel_rfl) (by kernel_rfl) (by kernel_rfl) rfl aH1 ?_
          simp only [FL]
          refine hr_none 27 (some 53) rfl rfl (by kernel_rfl) (by kernel_rfl) (by kernel_rfl) rfl aH1 ?_
          simp only [FL]
          refine hr_none 28 (some 54) rfl rfl (by kernel_rfl) (by kernel_rfl) (by kernel_rfl) rfl aH1 ?_
          simp only [FL]
          refine hr_take_w 29 (some 55) (.bool true) rfl rfl (by kernel_rfl) (by kernel_rfl) (by kernel_rfl) rfl (fun W hW => by obtain ⟨h0, h1, h2, h3, h4, h5⟩ := hW; go_simp) aH1 ?_
          simp only [FL]
          refine wpAnyH_done (by kernel_rfl) ?_ _
          refine NoPanic.normal ?_
          have hS1 : St v1 := by
            rcases hP with ⟨h, -⟩ | ⟨-, h⟩
            · simp at h
            · exact h
          clear hP CH
          go_wp2
          go_ret
          exact .inr ⟨rfl, hS1⟩
        | true =>
          refine hr_take_w 10 (some 36) (.bool false) rfl rfl (by kernel_rfl) (by kernel_rfl) (by kernel_rfl) rfl (fun W hW => by obtain ⟨h0, h1, h2, h3, h4, h5⟩ := hW; go_simp) aH1 ?_
          simp only [FL]
          refine hr_take_w 11 (some 37) (.bool false) rfl rfl (by kernel_rfl) (by kernel_rfl) (by kernel_rfl) rfl (fun W hW => by obtain ⟨h0, h1, h2, h3, h4, h5⟩ := hW; go_simp) aH1 ?_
          simp only [FL]
          refine hr_take_w 12 (some 38) (.func (.func g) #[] lb) rfl rfl (by kernel_rfl) (by kernel_rfl) (by kernel_rfl) rfl (fun W hW => by obtain ⟨h0, h1, h2, h3, h4, h5⟩ := hW; go_simp) aH1 ?_
          simp only [FL]
          refine hr_take_w 13 (some 39) (.pointer (some ⟨d.b, 0, none⟩)) rfl rfl (by kernel_rfl) (by kernel_rfl) (by kernel_rfl) rfl (fun W hW => by obtain ⟨h0, h1, h2, h3, h4, h5⟩ := hW; go_simp) aH1 ?_
          simp only [FL]
          refine hr_take_w 14 (some 40) (.pointer (some ⟨d.b, 0, none⟩)) rfl rfl (by kernel_rfl) (by kernel_rfl) (by kernel_rfl) rfl (fun W hW => by obtain ⟨h0, h1, h2, h3, h4, h5⟩ := hW; go_simp) aH1 ?_
          simp only [FL]
          refine hr_take_w 15 (some 41) (.pointer (some ⟨d.b, 1, none⟩)) rfl rfl (by kernel_rfl) (by kernel_rfl) (by kernel_rfl) rfl (fun W hW => by obtain ⟨h0, h1, h2, h3, h4, h5⟩ := hW; go_simp) aH1 ?_
          simp only [FL]
          refine hr_take_w 16 (some 42) (.slice (some ⟨ab, af, none⟩) d.ks.length d.kc) rfl rfl (by kernel_rfl) (by kernel_rfl) (by kernel_rfl) rfl (fun W hW => by obtain ⟨h0, h1, h2, h3, h4, h5⟩ := hW; go_simp) aH1 ?_
          simp only [FL]
          refine hr_take_w 17 (some 43) (.int .i64 j) rfl rfl (by kernel_rfl) (by kernel_rfl) (by kernel_rfl) rfl (fun W hW => by obtain ⟨h0, h1, h2, h3, h4, h5⟩ := hW; go_simp) aH1 ?_
          simp only [FL]
          refine hr_take_w 18 (some 44) (.pointer (some ⟨ab, af + j, none⟩)) rfl rfl (by kernel_rfl) (by kernel_rfl) (by kernel_rfl) rfl (fun W hW => by obtain ⟨h0, h1, h2, h3, h4, h5⟩ := hW; go_simp) aH1 ?_
          simp only [FL]
          refine hr_take_w 19 (some 45) (.slice k.ao k.n k.cap) rfl rfl (by kernel_rfl) (by kernel_rfl) (by kernel_rfl) rfl (fun W hW => by obtain ⟨h0, h1, h2, h3, h4, h5⟩ := hW; go_simp) aH1 ?_
          simp only [FL]
          refine hr_take_w 20 (some 46) (.pointer (some ⟨d.b, 0, none⟩)) rfl rfl (by kernel_rfl) (by kernel_rfl) (by kernel_rfl) rfl (fun W hW => by obtain ⟨h0, h1, h2, h3, h4, h5⟩ := hW; go_simp) aH1 ?_
          simp only [FL]
          refine hr_take_w 21 (some 47) (.pointer (some ⟨d.b, 0, none⟩)) rfl rfl (by kernel_rfl) (by kernel_rfl) (by kernel_rfl) rfl (fun W hW => by obtain ⟨h0, h1, h2, h3, h4, h5⟩ := hW; go_simp) aH1 ?_
          simp only [FL]
          refine hr_take_w 22 (some 48) (.pointer (some ⟨d.b, 2, none⟩)) rfl rfl (by kernel_rfl) (by kernel_rfl) (by kernel_rfl) rfl (fun W hW => by obtain ⟨h0, h1, h2, h3, h4, h5⟩ := hW; go_simp) aH1 ?_
          simp only [FL]
          refine hr_take_w 23 (some 49) (.slice (some ⟨vb, vf, none⟩) d.vs.length d.vc) rfl rfl (by kernel_rfl) (by kernel_rfl) (by kernel_rfl) rfl (fun W hW => by obtain ⟨h0, h1, h2, h3, h4, h5⟩ := hW; go_simp) aH1 ?_
          simp only [FL]
          refine hr_take_w 24 (some 50) (.int .i64 j) rfl rfl (by kernel_rfl) (by kernel_rfl) (by kernel_rfl) rfl (fun W hW => by obtain ⟨h0, h1, h2, h3, h4, h5⟩ := hW; go_simp) aH1 ?_
          simp only [FL]
          refine hr_take_w 25 (some 51) (.pointer (some ⟨vb, vf + j, none⟩)) rfl rfl (by kernel_rfl) (by kernel_rfl) (by kernel_rfl) rfl (fun W hW => by obtain ⟨h0, h1, h2, h3, h4, h5⟩ := hW; go_simp) aH1 ?_
          simp only [FL]
          refine hr_take_w 26 (some 52) (.slice y.ao y.n y.cap) rfl rfl (by kernel_rfl) (by kernel_rfl) (by kernel_rfl) rfl (fun W hW => by obtain ⟨h0, h1, h2, h3, h4, h5⟩ := hW; go_simp) aH1 ?_
          simp only [FL]
          have hI1 : Iv (pre ++ ge lo (wvA (segs.take j) (xs.take j)) ++ ge lo ss) v1 := by
            rcases hP with ⟨-, h⟩ | ⟨h, -⟩
            · exact h
            · simp at h
          refine hr_call_w 27 (some 53) g ((#[Value.slice k.ao k.n k.cap, Value.slice y.ao y.n y.cap] : Array Value) ++ lb) rfl rfl (by kernel_rfl) rfl (by go_simp) (fun v w' => ∃ b, v = .bool b ∧ BPost b (Iv (pre ++ ge lo (wvA (segs.take (j + 1)) (xs.take (j + 1))))) St w') ((CH.out v1 hI1).mono (by
            rintro e w' (⟨rfl, h⟩ | ⟨rfl, h⟩)
            · exact ⟨_, rfl, true, rfl, .inl ⟨rfl, h⟩⟩
            · exact ⟨_, rfl, false, rfl, .inr ⟨rfl, h⟩⟩)) ?_
          rintro v v2 ⟨b, rfl, hP2⟩
          have hb2 : Below w0.heap.size w0 v2 := by
            rcases hP2 with ⟨-, h⟩ | ⟨-, h⟩
            · exact hIb _ _ h
            · exact hSb _ h
          have aH2 := CS.out v2 hb2
          refine ⟨aH2, ?_⟩
          simp only [FL]
          clear hI1 CH hP
          cases b with
          | false =>
            refine hr_take_w 28 (some 54) (.bool true) rfl rfl (by kernel_rfl) (by kernel_rfl) (by kernel_rfl) rfl (fun W hW => by obtain ⟨h0, h1, h2, h3, h4, h5⟩ := hW; go_simp) aH2 ?_
            simp only [FL]
            refine hr_take_w 29 (some 55) (.bool true) rfl rfl (by kernel_rfl) (by kernel_rfl) (by kernel_rfl) rfl (fun W hW => by obtain ⟨h0, h1, h2, h3, h4, h5⟩ := hW; go_simp) aH2 ?_
            simp only [FL]
            refine wpAnyH_done (by kernel_rfl) ?_ _
            refine NoPanic.normal ?_
            have hS1 : St v2 := by
              rcases hP2 with ⟨h, -⟩ | ⟨-, h⟩
              · simp at h
              · exact h
            clear hP2
            go_wp2
            go_ret
            exact .inr ⟨rfl, hS1⟩
          | true =>
            refine hr_take_w 28 (some 54) (.bool false) rfl rfl (by kernel_rfl) (by kernel_rfl) (by kernel_rfl) rfl (fun W hW => by obtain ⟨h0, h1, h2, h3, h4, h5⟩ := hW; go_simp) aH2 ?_
            simp only [FL]
            refine hr_take_w 29 (some 55) (.bool false) rfl rfl (by kernel_rfl) (by kernel_rfl) (by kernel_rfl) rfl (fun W hW => by obtain ⟨h0, h1, h2, h3, h4, h5⟩ := hW; go_simp) aH2 ?_
            simp only [FL]
            refine wpAnyH_done (by kernel_rfl) ?_ _
            refine NoPanic.normal ?_
            have hI2 : Iv (pre ++ ge lo (wvA (segs.take (j + 1)) (xs.take (j + 1)))) v2 := by
              rcases hP2 with ⟨-, h⟩ | ⟨h, -⟩
              · exact h
              · simp at h
            clear hP2
            go_wp2
            go_roundw
            case rel => exact ⟨j + 1, by go_num, by omega, by omega, hI2⟩
            case measure => simp [intOf]; omega
      · have hlt' : ¬ (j : Int) < (d.ks.length : Int) := by omega
        have c1 := Nr.ok.c1
        have c3 := Nr.ok.c3
        rw [eco] at c3
        have cc : wr.cell? ⟨cb, cf + j, none⟩ = some (.pointer q) := (hb.cell (World.block_lt_of_cell? _ _ hcell)).trans hcell
        have HX : Hid (pre ++ ge lo (wvA (segs.take j) (xs.take j)) ++ ge lo ss = pre ++ ge lo l) := by
          show _ = _
          have hd : xs.drop j = [] := List.drop_eq_nil_of_le (by omega)
          have e1 : Bj = [] := by rw [cj.eB, hd]; rfl
          rw [List.append_assoc, ← ge_append, ← cj.eA, cj.el, e1, List.append_nil]
        have CF := CI.out wr hI
        rw [HX.out] at CF
        clear hcell hTk cj ih hand CI HX eco hs1 hs2
        go_wp2_with fail
        refine CF.mono ?_
        rintro e W' (⟨rfl, h⟩ | ⟨rfl, h⟩)
        · go_wp2
          go_ret
          exact .inl ⟨rfl, h⟩
        · go_wp2
          go_ret
          exact .inr ⟨rfl, h⟩
open Go.RowKit
theorem arr_not_row {w : World} {p : Nat} {t e : TypeId} {cs : List Value} (h : Arr w p t cs) (hte : t ≠ e) {base size k : Nat} {v : Value} {xs : List Value} (hr : w.ownsRow base e size v k xs) : v.ownBlock ≠ some p := by
  rcases hr.2 with ⟨rfl, _⟩ | ⟨g, cap, cur, rfl, _, hgb, _⟩
  · simp [Value.ownBlock]
  · intro e'
    obtain rfl : g = p := by simpa [Value.ownBlock] using e'
    have := (show w.heap[g]? = _ from h).symm.trans hgb
    simp at this
    exact hte this.2
theorem own_below {w w' : World} {base : Nat} {e : TypeId} {size : Nat} {v : Value} {n : Nat} {xs : List Value} (h : w.ownsRow base e size v n xs) (hb : Below w.heap.size w w') : w'.ownsRow base e size v n xs :=
  h.kept (row := none) ⟨hb.os, hb.tape, hb.output, hb.size, fun k hk _ => hb.block k hk⟩ (by cases v.ownBlock <;> simp)
theorem arr_below {w w' : World} {p : Nat} {t : TypeId} {cs : List Value} (h : Arr w p t cs) (hb : Below w.heap.size w w') : Arr w' p t cs := (hb.block p h.lt).trans h
theorem arr_put {w w1 : World} {p base : Nat} {t e : TypeId} {cs : List Value} {size k m : Nat} {v v' : Value} {xs ys : List Value} (h : Arr w p t cs) (hte : t ≠ e) (hr : w.ownsRow base e size v k xs) (hb : base ≤ w.heap.size) (hp : base ≤ p)
    (hr' : w1.ownsRow base e size v' m ys) (hg : w.grownBy w1 v.ownBlock) (j : Nat) :
    Arr w1 p t cs ∧ Arr (w1.setCell ⟨p, j, none⟩ v') p t (cs.set j v') ∧ (w1.setCell ⟨p, j, none⟩ v').ownsRow base e size v' m ys ∧ Below base w (w1.setCell ⟨p, j, none⟩ v') := by
  have hne := arr_not_row h hte hr
  have h1 : Arr w1 p t cs := h.grown hg (fun e => hne e.symm)
  refine ⟨h1, h1.set j v', ?_, ?_⟩
  · refine hr'.kept (row := some p) (grown_set (a := w1) (b := w1) ⟨rfl, rfl, rfl, Nat.le_refl _, fun _ _ _ => rfl⟩ j v') (.inr (arr_not_row h1 hte hr'))
  · refine ((Below.refl base w).grown hg hb (fun k hk => (hr.lt k hk).1)).setCell hp v'
open Go.RowKit
set_option maxHeartbeats 400000 in
set_option maxRecDepth 100000 in
theorem shared_at (w W : World) (v : Value) (l : List It) (h : TT w v l) (hb : Below w.heap.size w W) : Calls Tryz.prog 99 #[v] W fun e w' => ∃ po, e = .returned (.pointer po) ∧ T w (.pointer po) l ∧ w' = W := by
  rcases h with ⟨rfl, rfl⟩ | ⟨b, u, rfl, hc, ht, hl⟩
  · go_enter Tryz.func99, Tryz.ntmps99
    go_wp2
    go_ret
    exact ⟨_, rfl, T.nil _, rfl⟩
  · obtain ⟨po, rfl⟩ := ht.ptr
    have hc2 := (hb.cell (World.block_lt_of_cell? _ _ hc)).trans hc
    go_enter Tryz.func99, Tryz.ntmps99
    go_wp2
    go_ret
    exact ⟨_, rfl, ht, rfl⟩
open Go.RowKit
structure IP where
  k : Part
  v : Part
def IP.it (q : IP) : It := ⟨q.k.xs, q.v.xs⟩
def IP.ok (w : World) (q : IP) : Prop := Sl w q.k.ao q.k.n q.k.cap q.k.xs ∧ Sl w q.v.ao q.v.n q.v.cap q.v.xs
theorem IP.ok.below {w w' : World} {q : IP} (h : q.ok w) (hb : Below w.heap.size w w') : q.ok w' := ⟨h.1.below hb, h.2.below hb⟩
structure IL (w : World) (ao : Option Addr) (n cap : Nat) (its : List IP) : Prop where
  len : its.length = n
  le : n ≤ cap
  mx : cap ≤ maxLen
  nil : ao = none → n = 0 ∧ cap = 0
  cell : ∀ a, ao = some a → ∀ i (h : i < its.length), w.cell? (a.add (i * 2)) = some its[i].k.val ∧ w.cell? (a.add (i * 2 + 1)) = some its[i].v.val
  sl : ∀ q ∈ its, q.ok w
theorem IL.below {w w' : World} {ao : Option Addr} {n cap : Nat} {its : List IP} (h : IL w ao n cap its) (hb : Below w.heap.size w w') : IL w' ao n cap its :=
  ⟨h.len, h.le, h.mx, h.nil, fun a ha i hi => by
    obtain ⟨h1, h2⟩ := h.cell a ha i hi
    exact ⟨(hb.cell (World.block_lt_of_cell? w _ h1)).trans h1, (hb.cell (World.block_lt_of_cell? w _ h2)).trans h2⟩, fun q hq => (h.sl q hq).below hb⟩
theorem IL.at {w : World} {ao : Option Addr} {n cap : Nat} {its : List IP} (h : IL w ao n cap its) (hn : 0 < n) :
    ∃ b off, ao = some ⟨b, off, none⟩ ∧ ∀ i (hi : i < its.length), w.cell? ⟨b, off + i * 2, none⟩ = some its[i].k.val ∧ w.cell? ⟨b, off + i * 2 + 1, none⟩ = some its[i].v.val := by
  have hl := h.len
  cases ao with
  | none => have := (h.nil rfl).1; omega
  | some a =>
    obtain ⟨b, off, spot⟩ := a
    have hc := (h.cell _ rfl 0 (by omega)).1
    have hs : spot = none := by simpa [Addr.add] using World.cell?_spot hc
    subst hs
    exact ⟨b, off, rfl, fun i hi => by have := h.cell _ rfl i hi; rw [Addr.add_lit, Addr.add_lit, ← Nat.add_assoc] at this; exact this⟩
theorem IL.nothing (w : World) : IL w none 0 0 [] := ⟨rfl, Nat.le_refl _, Nat.zero_le _, fun _ => ⟨rfl, rfl⟩, fun _ h => by simp at h, fun _ h => by simp at h⟩
theorem IL.one (w : World) (q : IP) (h : q.ok w) (t : TypeId) : IL (w.alloc (.cells #[q.k.val, q.v.val] t)) (some ⟨w.heap.size, 0, none⟩) 1 1 [q] := by
  refine ⟨rfl, Nat.le_refl _, by simp [maxLen], fun h => by simp at h, fun a ha i hi => ?_, fun r hr => ?_⟩
  · obtain rfl := Option.some.inj ha
    obtain rfl : i = 0 := by simpa using hi
    rw [Addr.add_lit, Addr.add_lit]
    exact ⟨cell_of_row _ _ 0 _ _ _ (heap_alloc_new w _), cell_of_row _ _ 1 _ _ _ (heap_alloc_new w _)⟩
  · rw [List.mem_singleton.1 hr]
    exact h.below ((Below.refl _ w).alloc (Nat.le_refl _) _)
def badK (n : Nat) : Bool := decide (n < 1 ∨ 256 < n)
def jL : List IP → Int → Int
  | [], acc => acc
  | q :: qs, acc => if badK q.k.n then 5 else jL qs (if 1024 < q.v.n then 4 else acc)
set_option maxHeartbeats 4000000 in
set_option maxRecDepth 100000 in
theorem judge_any (w : World) (ao : Option Addr) (n cap : Nat) (its : List IP) (h : IL w ao n cap its) (hn : n ≤ 1000000) (hb : ∀ q ∈ its, q.k.n ≤ 1000000 ∧ q.v.n ≤ 1000000) :
    Calls Tryz.prog 102 #[.slice ao n cap] w fun e w' => e = .returned (.int .i64 (jL its 0)) ∧ Below w.heap.size w w' := by
  have hl := h.len
  have hni : (n : Int) ≤ 1000000 := by omega
  go_enter Tryz.func102, Tryz.ntmps102
  go_wp2
  go_loopw [3, 8] (fun a i wr => ∃ (k : Nat) (acc : Int), k ≤ n ∧ i = .int .i64 k ∧ a = .int .i64 acc ∧ jL (its.drop k) acc = jL its 0 ∧ Below w.heap.size w wr) (fun _ i _ => n - (intOf i).toNat)
  case atStart => exact ⟨0, 0, Nat.zero_le _, rfl, rfl, rfl, Below.refl _ _⟩
  case round =>
    obtain ⟨k, acc, hk, rfl, rfl, hj, hB⟩ := hrel
    have HJ : Hid (jL (its.drop k) acc = jL its 0) := hj
    clear hj
    by_cases hlt : k < n
    · have hki : (k : Int) < (n : Int) := by omega
      have hkl : k < its.length := by omega
      obtain ⟨b, off, rfl, hc⟩ := (h.below hB).at (by omega)
      obtain ⟨c1, c2⟩ := hc k hkl
      have hq := hb its[k] (List.getElem_mem hkl)
      have HD : Hid (its.drop k = its[k] :: its.drop (k + 1)) := List.drop_eq_getElem_cons hkl
      obtain ⟨q, hqe⟩ : ∃ q, q = its[k] := ⟨_, rfl⟩
      rw [← hqe] at c1 c2 hq HD
      obtain ⟨q1, q2⟩ := hq
      unfold Part.val at c1 c2
      clear hc hqe
      by_cases h1 : q.k.n < 1
      · have h1' : (q.k.n : Int) < 1 := by omega
        have HR : Hid (jL its 0 = 5) := by
          show _ = _
          rw [← HJ.out, HD.out, jL, if_pos (by simp [badK]; omega)]
        go_wp2
        go_ret
        refine ⟨?_, hB.alloc hB.size _⟩
        rw [HR.out]
        rfl
      have h1' : ¬ (q.k.n : Int) < 1 := by omega
      by_cases h2 : 256 < q.k.n
      · have h2' : (256 : Int) < (q.k.n : Int) := by omega
        have HR : Hid (jL its 0 = 5) := by
          show _ = _
          rw [← HJ.out, HD.out, jL, if_pos (by simp [badK]; omega)]
        go_wp2
        go_ret
        refine ⟨?_, hB.alloc hB.size _⟩
        rw [HR.out]
        rfl
      have h2' : ¬ (256 : Int) < (q.k.n : Int) := by omega
      have HB : Hid (badK q.k.n = false) := by show _ = _; simp [badK]; omega
      by_cases h3 : 1024 < q.v.n
      · have h3' : (1024 : Int) < (q.v.n : Int) := by omega
        go_wp2
        go_roundw
        case rel =>
          refine ⟨k + 1, 4, by omega, by go_num, rfl, ?_, hB.alloc hB.size _⟩
          rw [← HJ.out, HD.out, jL, HB.out, if_pos h3]
          rfl
        case measure => simp [intOf]; omega
      · have h3' : ¬ (1024 : Int) < (q.v.n : Int) := by omega
        go_wp2
        go_roundw
        case rel =>
          refine ⟨k + 1, acc, by omega, by go_num, rfl, ?_, hB.alloc hB.size _⟩
          rw [← HJ.out, HD.out, jL, HB.out, if_neg h3]
          rfl
        case measure => simp [intOf]; omega
    · have hge : ¬ (k : Int) < (n : Int) := by omega
      have HR : Hid (jL its 0 = acc) := by
        show _ = _
        rw [← HJ.out, List.drop_eq_nil_of_le (by omega)]
        rfl
      go_wp2
      go_ret
      refine ⟨?_, hB⟩
      rw [HR.out]
      rfl
open Go.RowKit
def KpB (w w' : World) : Prop := ∀ (b : Nat) (cur : Array Value), w.heap[b]? = some (Obj.cells cur 5) → w'.heap[b]? = some (Obj.cells cur 5)
theorem KpB.trans {a b c : World} (h : KpB a b) (k : KpB b c) : KpB a c := fun p cur e => k p cur (h p cur e)
theorem KpB.below {w w' : World} (h : Below w.heap.size w w') : KpB w w' := fun b _ e => (h.block b (Array.getElem?_eq_some_iff.1 e).1).trans e
theorem KpB.row {w w' : World} {base : Nat} {e : TypeId} {size : Nat} {v : Value} {n : Nat} {xs : List Value} (hr : w.ownsRow base e size v n xs) (he : e ≠ 5) (hg : w.grownBy w' v.ownBlock) : KpB w w' := fun b cur h => by
  refine (hg.block b (Array.getElem?_eq_some_iff.1 h).1 fun ev => ?_).trans h
  rcases hr.2 with ⟨rfl, _⟩ | ⟨g, cap, cur', rfl, _, hgb, _⟩
  · simp [Value.ownBlock] at ev
  · obtain rfl : b = g := by simpa [Value.ownBlock] using ev
    rw [hgb] at h
    simp only [Option.some.injEq, Obj.cells.injEq] at h
    exact he h.2.1
theorem KpB.set {w : World} {p : Nat} {t : TypeId} {cs : List Value} (ha : Arr w p t cs) (ht : t ≠ 5) (j : Nat) (v : Value) : KpB w (w.setCell ⟨p, j, none⟩ v) := fun b cur h => by
  refine (heap_setCell_other w ⟨p, j, none⟩ b v fun e => ?_).trans h
  have e' : b = p := e
  subst e'
  have := (show w.heap[b]? = _ from ha).symm.trans h
  simp only [Option.some.injEq, Obj.cells.injEq] at this
  exact ht this.2.1
def SlT (w : World) (q : Part) : Prop := Sl w q.ao q.n q.cap q.xs ∧ ∀ a, q.ao = some a → ∃ cur : Array Value, w.heap[a.block]? = some (Obj.cells cur 5)
theorem SlT.kp {w w' : World} {q : Part} (h : SlT w q) (k : KpB w w') : SlT w' q := by
  refine ⟨⟨h.1.len, h.1.le, h.1.mx, h.1.nil, fun a ha i hi => ?_, h.1.byte⟩, fun a ha => ?_⟩
  · obtain ⟨cur, hc⟩ := h.2 a ha
    have hb : (a.add i).block = a.block := by unfold Addr.add; split <;> rfl
    rw [← h.1.cell a ha i hi]
    exact World.cell?_of_block (by rw [hb, k _ _ hc, hc])
  · obtain ⟨cur, hc⟩ := h.2 a ha
    exact ⟨cur, k _ _ hc⟩
theorem SlT.own {w : World} {base : Nat} {v : Value} {n : Nat} {xs : List Int} (h : w.ownsRow base 5 1 v n (bv xs)) (hb : Byt xs) : ∃ ao cap, v = .slice ao n cap ∧ SlT w ⟨ao, n, cap, xs⟩ := by
  obtain ⟨ao, cap, rfl, S, -⟩ := Sl.own h hb
  refine ⟨ao, cap, rfl, S, fun a ha => ?_⟩
  rcases h.2 with ⟨e, -⟩ | ⟨g, cap', cur, e, -, hh, -⟩
  · have ha' : ao = some a := ha
    simp only [Value.slice.injEq] at e
    rw [e.1] at ha'
    simp at ha'
  · have ha' : ao = some a := ha
    simp only [Value.slice.injEq] at e
    rw [e.1] at ha'
    obtain rfl := Option.some.inj ha'
    exact ⟨cur, hh⟩
set_option maxHeartbeats 400000 in
set_option maxRecDepth 100000 in
theorem ownT_any (w : World) (ao : Option Addr) (n cap : Nat) (xs : List Int) (h : Sl w ao n cap xs) (hn : n ≤ 1000000) :
    Calls Tryz.prog 106 #[.slice ao n cap] w fun e w' => ∃ ro rc, e = .returned (.slice ro n rc) ∧ SlT w' ⟨ro, n, rc, xs⟩ ∧ Below w.heap.size w w' := by
  have B0 : Below w.heap.size w (w.alloc (.cells #[] 5)) := (Below.refl _ w).alloc (Nat.le_refl _) _
  have h0 := h.below B0
  have o0 := own_nothing w
  have hb := h.byte
  go_enter Tryz.func106, Tryz.ntmps106
  go_wp2_with (at_builtin; refine wpList_app rfl _ _ rfl w.heap.size _ _ _ rfl o0 _ _ _ _ rfl h0 (by omega) (by simp) ?_; intro v1 w1 own1 B1)
  simp only [Nat.zero_add, List.nil_append] at own1
  obtain ⟨ro, rc, rfl, S⟩ := SlT.own own1 hb
  go_wp2
  go_ret
  exact ⟨ro, rc, rfl, S, B0.trans B1⟩
def flatI (ps : List IP) : List Value := ps.flatMap fun q => [q.k.val, q.v.val]
theorem flatI_get : ∀ (ps : List IP) (i : Nat) (hi : i < ps.length), (flatI ps)[i * 2]? = some ps[i].k.val ∧ (flatI ps)[i * 2 + 1]? = some ps[i].v.val
  | q :: ps, 0, _ => ⟨rfl, rfl⟩
  | q :: ps, i + 1, hi => by
    have e : flatI (q :: ps) = q.k.val :: q.v.val :: flatI ps := rfl
    have := flatI_get ps i (by simpa using hi)
    rw [e, show (i + 1) * 2 = i * 2 + 1 + 1 by omega]
    simpa using this
structure LI (W : World) (p base : Nat) (l : List It) (v : Value) (ps : List IP) : Prop where
  arr : Arr W p 121 [v]
  row : W.ownsRow base 105 2 v ps.length (flatI ps)
  its : ps.map IP.it = l
  sl : ∀ q ∈ ps, SlT W q.k ∧ SlT W q.v
theorem LI.below {w w' : World} {p base : Nat} {l : List It} {v : Value} {ps : List IP} (h : LI w p base l v ps) (hb : Below w.heap.size w w') : LI w' p base l v ps :=
  ⟨arr_below h.arr hb, own_below h.row hb, h.its, fun q hq => ⟨(h.sl q hq).1.kp (KpB.below hb), (h.sl q hq).2.kp (KpB.below hb)⟩⟩
theorem LI.len {w : World} {p base : Nat} {l : List It} {v : Value} {ps : List IP} (h : LI w p base l v ps) : ps.length = l.length := by rw [← h.its, List.length_map]
theorem LI.slice {w : World} {p base : Nat} {l : List It} {v : Value} {ps : List IP} (h : LI w p base l v ps) : ∃ ao cap, v = .slice ao ps.length cap ∧ IL w ao ps.length cap ps := by
  have sl : ∀ q ∈ ps, q.ok w := fun q hq => ⟨(h.sl q hq).1.1, (h.sl q hq).2.1⟩
  rcases h.row.2 with ⟨rfl, e⟩ | ⟨g, cap, cur, rfl, hg, hh, hle, hmx, hcs, htk⟩
  · obtain rfl : ps = [] := List.eq_nil_of_length_eq_zero e
    exact ⟨none, 0, rfl, IL.nothing w⟩
  · refine ⟨some ⟨g, 0, none⟩, cap, rfl, rfl, hle, hmx, fun h => by simp at h, fun a ha i hi => ?_, sl⟩
    obtain rfl := Option.some.inj ha
    obtain ⟨e1, e2⟩ := flatI_get ps i hi
    exact ⟨h.row.cells (g := g) rfl _ _ e1, h.row.cells (g := g) rfl _ _ e2⟩
theorem LI.put {w w1 : World} {p base : Nat} {l : List It} {v v' : Value} {ps : List IP} {q : IP} (h : LI w p base l v ps) (hb : base ≤ w.heap.size) (hp : base ≤ p) (hk : SlT w q.k) (hv : SlT w q.v)
    (hr' : w1.ownsRow base 105 2 v' (ps.length + 1) (flatI ps ++ [q.k.val, q.v.val])) (hg : w.grownBy w1 v.ownBlock) :
    LI (w1.setCell ⟨p, 0, none⟩ v') p base (l ++ [q.it]) v' (ps ++ [q]) ∧ Below base w (w1.setCell ⟨p, 0, none⟩ v') ∧ ∀ b t cs, Arr w b t cs → t ≠ 105 → b ≠ p → Arr (w1.setCell ⟨p, 0, none⟩ v') b t cs := by
  obtain ⟨a1, a2, a3, a4⟩ := arr_put h.arr (by decide) h.row hb hp hr' hg 0
  have kp : KpB w (w1.setCell ⟨p, 0, none⟩ v') := (KpB.row h.row (by decide) hg).trans (KpB.set a1 (by decide) 0 v')
  have e : flatI (ps ++ [q]) = flatI ps ++ [q.k.val, q.v.val] := by simp [flatI]
  refine ⟨⟨a2, by rw [e, List.length_append]; exact a3, by rw [List.map_append, h.its]; rfl, fun r hr => ?_⟩, a4, fun b t cs hb ht hne => ?_⟩
  · rcases List.mem_append.1 hr with hr | hr
    · exact ⟨(h.sl r hr).1.kp kp, (h.sl r hr).2.kp kp⟩
    · rw [List.mem_singleton.1 hr]
      exact ⟨hk.kp kp, hv.kp kp⟩
  · exact (hb.grown hg (fun e => arr_not_row hb ht h.row e.symm)).other _ v' hne
theorem itemInfo : (Tryz.prog.info? 105).map (fun i => (i.zero, i.size, i.bytes)) = some (some (.agg #[.slice none 0 0, .slice none 0 0]), 2, 48) := by kernel_rfl
theorem LI.app {w : World} {p base : Nat} {l : List It} {v : Value} {ps : List IP} {q : IP} (h : LI w p base l v ps) (hb : base ≤ w.heap.size) (hn : l.length ≤ 100000) {g : Nat} {c : Nat} (ty : TypeId)
    (hx : w.heap[g]? = some (.cells #[q.k.val, q.v.val] 105)) :
    ∃ v' w1, (Builtin.append_ #[121, 121] ty #[v, .slice (some ⟨g, 0, none⟩) 1 c]).run Tryz.prog w = .ok v' w1 ∧ w1.ownsRow base 105 2 v' (ps.length + 1) (flatI ps ++ [q.k.val, q.v.val]) ∧ w.grownBy w1 v.ownBlock := by
  have hl := h.len
  have hI := itemInfo
  cases hi : Tryz.prog.info? 105 with
  | none => rw [hi] at hI; simp at hI
  | some i =>
    rw [hi] at hI
    simp only [Option.map_some, Option.some.injEq, Prod.mk.injEq] at hI
    obtain ⟨e1, e2, e3⟩ := hI
    obtain ⟨v', w1, h1, h2, h3, -⟩ := run_append_own (P := Tryz.prog) w base 121 ty 105 i _ 2 48 Tryz.underlying121 hi e1 e2 e3 rfl (by decide) v ps.length (flatI ps) h.row ⟨g, 0, none⟩ 1 c [q.k.val, q.v.val] rfl
      (fun j u hu => by
        rw [Addr.add_lit, Nat.zero_add, cell_of_row w g j _ _ _ hx]
        simpa using hu) (fun u hu => by
        simp only [List.mem_cons, List.not_mem_nil, or_false] at hu
        rcases hu with rfl | rfl <;> rfl) (by unfold maxLen; omega) (by omega) hb
    exact ⟨v', w1, h1, h2, h3⟩
end Go.Proofs.YtlljmhcgjkolpaaGreatDoor

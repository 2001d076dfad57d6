/-
  Texts in one: PWalk.
-/
import Derived.Test.YthlpccajnmkbjaaGreatDoorTabletOfQFL
import Derived.Test.YthlpccajnmkbjaaGreatDoorTabletOfQ4
import Derived.Test.YthlpccajnmkbjaaGreatDoorTabletOfQ3
namespace Go.Proofs.YthlpccajnmkbjaaGreatDoor
open Go.RowKit
def ge (lo : List Int) (l : List It) : List It := l.filter fun x => decide (¬ cmpL x.k lo < 0)
theorem ge_append (lo : List Int) (a b : List It) : ge lo (a ++ b) = ge lo a ++ ge lo b := by simp [ge]
theorem ge_none {lo : List Int} {l : List It} (h : ∀ x ∈ l, cmpL x.k lo < 0) : ge lo l = [] := List.filter_eq_nil_iff.2 fun x hx => by simpa using h x hx
theorem ge_one {lo : List Int} {x : It} (h : ¬ cmpL x.k lo < 0) : ge lo [x] = [x] := by simp only [ge, List.filter_cons, decide_eq_true h, if_true, List.filter_nil]
def BPost (b : Bool) (Q R : World → Prop) (w : World) : Prop := (b = true ∧ Q w) ∨ (b = false ∧ R w)
def WPost (Q R : World → Prop) (e : Ending) (w : World) : Prop := (e = .returned (.bool true) ∧ Q w) ∨ (e = .returned (.bool false) ∧ R w)
set_option maxHeartbeats 4000000 in
set_option maxRecDepth 100000 in
theorem walk_fuel (w0 : World) (g : Nat) (lb : Array Value) (eg : ∀ args w, (callFunc g args).run Tryz.prog w = .ok (.enter g args) w) (Iv : List It → World → Prop) (St : World → Prop) (ok : It → Prop) (F : List It)
    (hIb : ∀ pre W, Iv pre W → Below w0.heap.size w0 W) (hSb : ∀ W, St W → Below w0.heap.size w0 W) (hgr : ∀ pre W W', Iv pre W → Below W.heap.size W W' → Iv pre W')
    (lo : List Int) (xo : Option Addr) (m xc : Nat) (hx : Sl w0 xo m xc lo)
    (hand : ∀ pre W (k y : Part) (x : It), Iv pre W → ok x → (∃ post, pre ++ x :: post = F) → ¬ cmpL x.k lo < 0 → k.xs = x.k → y.xs = x.v → Sl W k.ao k.n k.cap k.xs → Sl W y.ao y.n y.cap y.xs → Calls Tryz.prog g (#[k.val, y.val] ++ lb) W (WPost (Iv (pre ++ [x])) St)) :
    ∀ (N : Nat) (l : List It) (v : Value) (pre post : List It) (W : World), l.length ≤ N → pre ++ (ge lo l ++ post) = F → T w0 v l → Srt l → (∀ x ∈ l, ok x) → l.length ≤ 100000 → Iv pre W → Calls Tryz.prog 64 #[v, .slice xo m xc, .func (.func g) #[] lb] W (WPost (Iv (pre ++ ge lo l)) St) := by
  intro N
  induction N with
  | zero =>
    intro l v pre post W hN hF hT hs hok hn hI
    rcases hT.is with ⟨rfl, rfl⟩ | ⟨d, segs, xs, rfl, h⟩
    · go_enter Tryz.func64, Tryz.ntmps64
      go_wp2
      go_ret
      exact .inl ⟨rfl, by simpa [ge] using hI⟩
    · have h1 := h.shp.pos
      have h2 := h.many
      omega
  | succ N ih =>
    intro l v pre post W hN hF hT hs hok hn hI
    rcases hT.is with ⟨rfl, rfl⟩ | ⟨d, segs, xs, rfl, h⟩
    · go_enter Tryz.func64, Tryz.ntmps64
      go_wp2
      go_ret
      exact .inl ⟨rfl, by simpa [ge] using hI⟩
    have HF : Hid (pre ++ (ge lo l ++ post) = F) := hF
    clear hF
    have hb := hIb _ _ hI
    have hm := h.many
    have hnk1 := Nat.le_of_eq h.nk
    have hnk2 := Nat.le_of_eq h.nk.symm
    have hnv1 := Nat.le_of_eq h.nv
    have hnv2 := Nat.le_of_eq h.nv.symm
    have hnc1 := Nat.le_of_eq h.nc
    have hnc2 := Nat.le_of_eq h.nc.symm
    have hpos := h.shp.pos
    have CP := place_any W d (h.ok.below hb) xo m xc lo (hx.below hb) (h.rise hs) (by omega)
    unfold Nd.ptr at CP ⊢
    go_enter Tryz.func64, Tryz.ntmps64
    go_wp2_with fail
    refine CP.mono ?_
    rintro e W1 ⟨i, b0, rfl, hat, B1⟩
    have hI := hgr _ _ _ hI B1
    obtain ⟨s0, A, B, c, hA, hB, -, -⟩ := h.found hs hat
    have hle := c.le
    have HI0 : Hid (ge lo (wvA (segs.take i) (xs.take i)) = []) := by show _ = _; rw [← c.eA]; exact ge_none hA
    have HHi : Hid (∀ j (hj : j < xs.length), i ≤ j → ¬ cmpL xs[j].k lo < 0) := fun j hj hij => by rw [← h.keyAt j (by omega) hj]; exact hat.hi j (by omega) hij
    clear CP hat c hA hB B1
    go_wp2_with fail
    go_loopw [7] (fun a wr => ∃ j : Nat, a = .int .i64 j ∧ i ≤ j ∧ j ≤ xs.length ∧ Iv (pre ++ ge lo (wvA (segs.take j) (xs.take j))) wr) (fun a _ => xs.length - (intOf a).toNat)
    case atStart => exact ⟨i, rfl, Nat.le_refl _, hle, by rw [HI0.out, List.append_nil]; exact hI⟩
    case round =>
      clear hI hb
      obtain ⟨j, rfl, hij, hj, hI⟩ := hrel
      have hb := hIb _ _ hI
      have Nr := h.below hb
      obtain ⟨cb, cf, s, u, eco, hs1, hs2, hcell, hTk, hlen⟩ := h.kidAt j hj
      obtain ⟨q, rfl⟩ := hTk.ptr
      have hsm : s ∈ segs := List.mem_of_getElem? hs1
      obtain ⟨ss, Aj, Bj, cj⟩ := h.shp.cut j hj
      obtain rfl : ss = s := Option.some.inj (cj.seg.symm.trans hs1)
      have hss : Srt ss := by
        have h1 := hs
        rw [cj.el] at h1
        exact h1.app.2.1.app.1
      have HFk : Hid (pre ++ ge lo (wvA (segs.take j) (xs.take j)) ++ (ge lo ss ++ (ge lo Bj ++ post)) = F) := by
        show _ = _
        rw [← HF.out, cj.el, cj.eA]
        simp only [ge_append, List.append_assoc]
      have CI : Hid (∀ V, Iv (pre ++ ge lo (wvA (segs.take j) (xs.take j))) V → Calls Tryz.prog 64 #[.pointer q, .slice xo m xc, .func (.func g) #[] lb] V (WPost (Iv (pre ++ ge lo (wvA (segs.take j) (xs.take j)) ++ ge lo ss)) St)) := fun V hV => ih ss (.pointer q) _ (ge lo Bj ++ post) V (by omega) HFk.out hTk hss (fun x hx => hok x (h.shp.seg _ hsm x hx)) (by omega) hV
      have hji : (j : Int) < (d.cs.length : Int) := by omega
      by_cases hlt : j < d.ks.length
      · have hlt' : (j : Int) < (d.ks.length : Int) := by omega
        have hlv : (j : Int) < (d.vs.length : Int) := by omega
        have hjx : j < xs.length := by omega
        have hjv : j < d.vs.length := by omega
        obtain ⟨ab, af, eak, hck⟩ := h.ok.kl.vl.at (by omega)
        obtain ⟨vb, vf, eav, hcv⟩ := h.ok.vl.vl.at (by omega)
        have ck := hck j (by simpa using hlt)
        have cv := hcv j (by simpa using hjv)
        have SK := h.ok.kl.sl d.ks[j] (List.getElem_mem hlt)
        have SV := h.ok.vl.sl d.vs[j] (List.getElem_mem hjv)
        have ek := h.keyAt j hlt hjx
        have ev := h.valAt j hjv hjx
        simp only [List.getElem_map] at ck cv
        obtain ⟨k, hk⟩ : ∃ k, k = d.ks[j] := ⟨_, rfl⟩
        obtain ⟨y, hy⟩ : ∃ y, y = d.vs[j] := ⟨_, rfl⟩
        rw [← hk] at ck SK ek
        rw [← hy] at cv SV ev
        have c1 := h.ok.c1
        have c2 := h.ok.c2
        have c3 := h.ok.c3
        rw [eak] at c1
        rw [eav] at c2
        rw [eco] at c3
        have c1r : wr.cell? ⟨d.b, 1, none⟩ = some (.slice (some ⟨ab, af, none⟩) d.ks.length d.kc) := (hb.cell (p := ⟨d.b, 1, none⟩) h.ok.lt).trans c1
        have HW : Hid (ge lo (wvA (segs.take (j + 1)) (xs.take (j + 1))) = ge lo (wvA (segs.take j) (xs.take j)) ++ ge lo ss ++ [xs[j]]) := by
          show _ = _
          have hjs : j < segs.length := by have := h.shp.len; omega
          have e1 : segs[j] = ss := by
            have := cj.seg
            rw [List.getElem?_eq_getElem hjs] at this
            exact Option.some.inj this
          have e2 : ge lo [xs[j]] = [xs[j]] := ge_one (by have := HHi.out j hjx hij; omega)
          rw [List.take_add_one, List.take_add_one, List.getElem?_eq_getElem hjs, List.getElem?_eq_getElem hjx, wvA_app _ _ _ _ (by simp; omega), e1]
          simp only [Option.toList_some, wvA, ge_append]
          have e3 : ge lo (xs[j] :: []) = [xs[j]] := e2
          rw [e3, List.append_assoc]
        have HFx : Hid (∃ p2, pre ++ ge lo (wvA (segs.take j) (xs.take j)) ++ ge lo ss ++ xs[j] :: p2 = F) := by
          obtain ⟨t, Q, -, -, -, -, hBe⟩ := cj.next hjx
          refine ⟨ge lo (t ++ weave ([] :: Q) (xs.drop (j + 1))) ++ post, ?_⟩
          have e2 : ge lo Bj = xs[j] :: ge lo (t ++ weave ([] :: Q) (xs.drop (j + 1))) := by
            rw [hBe, show xs[j] :: (t ++ weave ([] :: Q) (xs.drop (j + 1))) = [xs[j]] ++ (t ++ weave ([] :: Q) (xs.drop (j + 1))) from rfl, ge_append, ge_one (by have := HHi.out j hjx hij; omega)]
            rfl
          rw [← HFk.out, e2]
          simp
        have CH : Hid (∀ V, Iv (pre ++ ge lo (wvA (segs.take j) (xs.take j)) ++ ge lo ss) V → Calls Tryz.prog g ((#[Value.slice k.ao k.n k.cap, Value.slice y.ao y.n y.cap] : Array Value) ++ lb) V (WPost (Iv (pre ++ ge lo (wvA (segs.take (j + 1)) (xs.take (j + 1))))) St)) := by
          intro V hV
          rw [HW.out, ← List.append_assoc, ← List.append_assoc]
          exact hand _ V k y xs[j] hV (hok _ (h.shp.key _ (List.getElem_mem hjx))) HFx.out (by have := HHi.out j hjx hij; omega) ek ev (SK.below (hIb _ _ hV)) (SV.below (hIb _ _ hV))
        have CS : Hid (∀ V, Below w0.heap.size w0 V → V.cell? ⟨d.b, 1, none⟩ = some (.slice (some ⟨ab, af, none⟩) d.ks.length d.kc) ∧ V.cell? ⟨d.b, 2, none⟩ = some (.slice (some ⟨vb, vf, none⟩) d.vs.length d.vc) ∧ V.cell? ⟨d.b, 3, none⟩ = some (.slice (some ⟨cb, cf, none⟩) d.cs.length d.cc) ∧ V.cell? ⟨cb, cf + j, none⟩ = some (.pointer q) ∧ V.cell? ⟨ab, af + j, none⟩ = some (.slice k.ao k.n k.cap) ∧ V.cell? ⟨vb, vf + j, none⟩ = some (.slice y.ao y.n y.cap)) := by
          intro V hV
          unfold Part.val at ck cv
          exact ⟨(hV.cell (World.block_lt_of_cell? _ _ c1)).trans c1, (hV.cell (World.block_lt_of_cell? _ _ c2)).trans c2, (hV.cell (World.block_lt_of_cell? _ _ c3)).trans c3, (hV.cell (World.block_lt_of_cell? _ _ hcell)).trans hcell, (hV.cell (World.block_lt_of_cell? _ _ ck)).trans ck, (hV.cell (World.block_lt_of_cell? _ _ cv)).trans cv⟩
        clear hk hy ck cv SK SV ek ev c1 c2 c3 hck hcv eak eav eco hs1 hs2 hcell hTk cj hss HW ih hand
        go_wp2_with fail
        have hb0 : Below w0.heap.size w0 wr.drew := (hIb _ _ hI).drew
        have hI0 := hgr _ _ _ hI (Below.refl _ wr).drew
        refine wp_region_noPanic ?_
        refine wp_region_held_drew (S := fun V => V.cell? ⟨d.b, 1, none⟩ = some (.slice (some ⟨ab, af, none⟩) d.ks.length d.kc) ∧ V.cell? ⟨d.b, 2, none⟩ = some (.slice (some ⟨vb, vf, none⟩) d.vs.length d.vc) ∧ V.cell? ⟨d.b, 3, none⟩ = some (.slice (some ⟨cb, cf, none⟩) d.cs.length d.cc) ∧ V.cell? ⟨cb, cf + j, none⟩ = some (.pointer q) ∧ V.cell? ⟨ab, af + j, none⟩ = some (.slice k.ao k.n k.cap) ∧ V.cell? ⟨vb, vf + j, none⟩ = some (.slice y.ao y.n y.cap)) (by kernel_rfl) (CS.out _ hb0) (fun aH0 => ?_)
        obtain ⟨v0, hv0⟩ : ∃ v, v = wr.drew := ⟨_, rfl⟩
        rw [← hv0] at aH0 hI0 ⊢
        clear hv0 hI hb0
        refine hr_take_w 0 (some 26) (.pointer (some ⟨d.b, 0, none⟩)) rfl rfl (by kernel_rfl) (by kernel_rfl) (by kernel_rfl) rfl (fun W hW => by obtain ⟨h0, h1, h2, h3, h4, h5⟩ := hW; go_simp) aH0 ?_
        simp only [FL]
        refine hr_take_w 1 (some 27) (.pointer (some ⟨d.b, 0, none⟩)) rfl rfl (by kernel_rfl) (by kernel_rfl) (by kernel_rfl) rfl (fun W hW => by obtain ⟨h0, h1, h2, h3, h4, h5⟩ := hW; go_simp) aH0 ?_
        simp only [FL]
        refine hr_take_w 2 (some 28) (.pointer (some ⟨d.b, 3, none⟩)) rfl rfl (by kernel_rfl) (by kernel_rfl) (by kernel_rfl) rfl (fun W hW => by obtain ⟨h0, h1, h2, h3, h4, h5⟩ := hW; go_simp) aH0 ?_
        simp only [FL]
        refine hr_take_w 3 (some 29) (.slice (some ⟨cb, cf, none⟩) d.cs.length d.cc) rfl rfl (by kernel_rfl) (by kernel_rfl) (by kernel_rfl) rfl (fun W hW => by obtain ⟨h0, h1, h2, h3, h4, h5⟩ := hW; go_simp) aH0 ?_
        simp only [FL]
        refine hr_take_w 4 (some 30) (.int .i64 j) rfl rfl (by kernel_rfl) (by kernel_rfl) (by kernel_rfl) rfl (fun W hW => by obtain ⟨h0, h1, h2, h3, h4, h5⟩ := hW; go_simp) aH0 ?_
        simp only [FL]
        refine hr_take_w 5 (some 31) (.pointer (some ⟨cb, cf + j, none⟩)) rfl rfl (by kernel_rfl) (by kernel_rfl) (by kernel_rfl) rfl (fun W hW => by obtain ⟨h0, h1, h2, h3, h4, h5⟩ := hW; go_simp) aH0 ?_
        simp only [FL]
        refine hr_take_w 6 (some 32) (.pointer q) rfl rfl (by kernel_rfl) (by kernel_rfl) (by kernel_rfl) rfl (fun W hW => by obtain ⟨h0, h1, h2, h3, h4, h5⟩ := hW; go_simp) aH0 ?_
        simp only [FL]
        refine hr_take_w 7 (some 33) (.slice xo m xc) rfl rfl (by kernel_rfl) (by kernel_rfl) (by kernel_rfl) rfl (fun W hW => by obtain ⟨h0, h1, h2, h3, h4, h5⟩ := hW; go_simp) aH0 ?_
        simp only [FL]
        refine hr_take_w 8 (some 34) (.func (.func g) #[] lb) rfl rfl (by kernel_rfl) (by kernel_rfl) (by kernel_rfl) rfl (fun W hW => by obtain ⟨h0, h1, h2, h3, h4, h5⟩ := hW; go_simp) aH0 ?_
        simp only [FL]
        refine hr_call_w 9 (some 35) 64 #[.pointer q, .slice xo m xc, .func (.func g) #[] lb] rfl rfl (by kernel_rfl) rfl (by go_simp) (fun v w' => ∃ b, v = .bool b ∧ BPost b (Iv (pre ++ ge lo (wvA (segs.take j) (xs.take j)) ++ ge lo ss)) St w') ((CI.out v0 hI0).mono (by
          rintro e w' (⟨rfl, h⟩ | ⟨rfl, h⟩)
          · exact ⟨_, rfl, true, rfl, .inl ⟨rfl, h⟩⟩
          · exact ⟨_, rfl, false, rfl, .inr ⟨rfl, h⟩⟩)) ?_
        rintro v v1 ⟨b, rfl, hP⟩
        have hb1 : Below w0.heap.size w0 v1 := by
          rcases hP with ⟨-, h⟩ | ⟨-, h⟩
          · exact hIb _ _ h
          · exact hSb _ h
        have aH1 := CS.out v1 hb1
        refine ⟨aH1, ?_⟩
        simp only [FL]
        clear hI0 CI
        cases b with
        | false =>
          refine hr_take_w 10 (some 36) (.bool true) rfl rfl (by kernel_rfl) (by kernel_rfl) (by kernel_rfl) rfl (fun W hW => by obtain ⟨h0, h1, h2, h3, h4, h5⟩ := hW; go_simp) aH1 ?_
          simp only [FL]
          refine hr_take_w 11 (some 37) (.bool true) rfl rfl (by kernel_rfl) (by kernel_rfl) (by kernel_rfl) rfl (fun W hW => by obtain ⟨h0, h1, h2, h3, h4, h5⟩ := hW; go_simp) aH1 ?_
          simp only [FL]
          refine hr_none 12 (some 38) rfl rfl (by kernel_rfl) (by kernel_rfl) (by kernel_rfl) rfl aH1 ?_
          simp only [FL]
          refine hr_none 13 (some 39) rfl rfl (by kernel_rfl) (by kernel_rfl) (by kernel_rfl) rfl aH1 ?_
          simp only [FL]
          refine hr_none 14 (some 40) rfl rfl (by kernel_rfl) (by kernel_rfl) (by kernel_rfl) rfl aH1 ?_
          simp only [FL]
          refine hr_none 15 (some 41) rfl rfl (by kernel_rfl) (by kernel_rfl) (by kernel_rfl) rfl aH1 ?_
          simp only [FL]
          refine hr_none 16 (some 42) rfl rfl (by kernel_rfl) (by kernel_rfl) (by kernel_rfl) rfl aH1 ?_
          simp only [FL]
          refine hr_none 17 (some 43) rfl rfl (by kernel_rfl) (by kernel_rfl) (by kernel_rfl) rfl aH1 ?_
          simp only [FL]
          refine hr_none 18 (some 44) rfl rfl (by kernel_rfl) (by kernel_rfl) (by kernel_rfl) rfl aH1 ?_
          simp only [FL]
          refine hr_none 19 (some 45) rfl rfl (by kernel_rfl) (by kernel_rfl) (by kernel_rfl) rfl aH1 ?_
          simp only [FL]
          refine hr_none 20 (some 46) rfl rfl (by kernel_rfl) (by kernel_rfl) (by kernel_rfl) rfl aH1 ?_
          simp only [FL]
          refine hr_none 21 (some 47) rfl rfl (by kernel_rfl) (by kernel_rfl) (by kernel_rfl) rfl aH1 ?_
          simp only [FL]
          refine hr_none 22 (some 48) rfl rfl (by kernel_rfl) (by kernel_rfl) (by kernel_rfl) rfl aH1 ?_
          simp only [FL]
          refine hr_none 23 (some 49) rfl rfl (by kernel_rfl) (by kernel_rfl) (by kernel_rfl) rfl aH1 ?_
          simp only [FL]
          refine hr_none 24 (some 50) rfl rfl (by kernel_rfl) (by kernel_rfl) (by kernel_rfl) rfl aH1 ?_
          simp only [FL]
          refine hr_none 25 (some 51) rfl rfl (by kernel_rfl) (by kernel_rfl) (by kernel_rfl) rfl aH1 ?_
          simp only [FL]
          refine hr_none 26 (some 52) rfl rfl (by kernel_rfl) (by kernel_rfl) (by kernel_rfl) rfl aH1 ?_
          simp only [FL]
          refine hr_none 27 (some 53) rfl rfl (by kernel_rfl) (by kernel_rfl) (by kernel_rfl) rfl aH1 ?_
          simp only [FL]
          refine hr_none 28 (some 54) rfl rfl (by kernel_rfl) (by kernel_rfl) (by kernel_rfl) rfl aH1 ?_
          simp only [FL]
          refine hr_take_w 29 (some 55) (.bool true) rfl rfl (by kernel_rfl) (by kernel_rfl) (by kernel_rfl) rfl (fun W hW => by obtain ⟨h0, h1, h2, h3, h4, h5⟩ := hW; go_simp) aH1 ?_
          simp only [FL]
          refine wpAnyH_done (by kernel_rfl) ?_ _
          refine NoPanic.normal ?_
          have hS1 : St v1 := by
            rcases hP with ⟨h, -⟩ | ⟨-, h⟩
            · simp at h
            · exact h
          clear hP CH
          go_wp2
          go_ret
          exact .inr ⟨rfl, hS1⟩
        | true =>
          refine hr_take_w 10 (some 36) (.bool false) rfl rfl (by kernel_rfl) (by kernel_rfl) (by kernel_rfl) rfl (fun W hW => by obtain ⟨h0, h1, h2, h3, h4, h5⟩ := hW; go_simp) aH1 ?_
          simp only [FL]
          refine hr_take_w 11 (some 37) (.bool false) rfl rfl (by kernel_rfl) (by kernel_rfl) (by kernel_rfl) rfl (fun W hW => by obtain ⟨h0, h1, h2, h3, h4, h5⟩ := hW; go_simp) aH1 ?_
          simp only [FL]
          refine hr_take_w 12 (some 38) (.func (.func g) #[] lb) rfl rfl (by kernel_rfl) (by kernel_rfl) (by kernel_rfl) rfl (fun W hW => by obtain ⟨h0, h1, h2, h3, h4, h5⟩ := hW; go_simp) aH1 ?_
          simp only [FL]
          refine hr_take_w 13 (some 39) (.pointer (some ⟨d.b, 0, none⟩)) rfl rfl (by kernel_rfl) (by kernel_rfl) (by kernel_rfl) rfl (fun W hW => by obtain ⟨h0, h1, h2, h3, h4, h5⟩ := hW; go_simp) aH1 ?_
          simp only [FL]
          refine hr_take_w 14 (some 40) (.pointer (some ⟨d.b, 0, none⟩)) rfl rfl (by kernel_rfl) (by kernel_rfl) (by kernel_rfl) rfl (fun W hW => by obtain ⟨h0, h1, h2, h3, h4, h5⟩ := hW; go_simp) aH1 ?_
          simp only [FL]
          refine hr_take_w 15 (some 41) (.pointer (some ⟨d.b, 1, none⟩)) rfl rfl (by kernel_rfl) (by kernel_rfl) (by kernel_rfl) rfl (fun W hW => by obtain ⟨h0, h1, h2, h3, h4, h5⟩ := hW; go_simp) aH1 ?_
          simp only [FL]
          refine hr_take_w 16 (some 42) (.slice (some ⟨ab, af, none⟩) d.ks.length d.kc) rfl rfl (by kernel_rfl) (by kernel_rfl) (by kernel_rfl) rfl (fun W hW => by obtain ⟨h0, h1, h2, h3, h4, h5⟩ := hW; go_simp) aH1 ?_
          simp only [FL]
          refine hr_take_w 17 (some 43) (.int .i64 j) rfl rfl (by kernel_rfl) (by kernel_rfl) (by kernel_rfl) rfl (fun W hW => by obtain ⟨h0, h1, h2, h3, h4, h5⟩ := hW; go_simp) aH1 ?_
          simp only [FL]
          refine hr_take_w 18 (some 44) (.pointer (some ⟨ab, af + j, none⟩)) rfl rfl (by kernel_rfl) (by kernel_rfl) (by kernel_rfl) rfl (fun W hW => by obtain ⟨h0, h1, h2, h3, h4, h5⟩ := hW; go_simp) aH1 ?_
          simp only [FL]
          refine hr_take_w 19 (some 45) (.slice k.ao k.n k.cap) rfl rfl (by kernel_rfl) (by kernel_rfl) (by kernel_rfl) rfl (fun W hW => by obtain ⟨h0, h1, h2, h3, h4, h5⟩ := hW; go_simp) aH1 ?_
          simp only [FL]
          refine hr_take_w 20 (some 46) (.pointer (some ⟨d.b, 0, none⟩)) rfl rfl (by kernel_rfl) (by kernel_rfl) (by kernel_rfl) rfl (fun W hW => by obtain ⟨h0, h1, h2, h3, h4, h5⟩ := hW; go_simp) aH1 ?_
          simp only [FL]
          refine hr_take_w 21 (some 47) (.pointer (some ⟨d.b, 0, none⟩)) rfl rfl (by kernel_rfl) (by kernel_rfl) (by kernel_rfl) rfl (fun W hW => by obtain ⟨h0, h1, h2, h3, h4, h5⟩ := hW; go_simp) aH1 ?_
          simp only [FL]
          refine hr_take_w 22 (some 48) (.pointer (some ⟨d.b, 2, none⟩)) rfl rfl (by kernel_rfl) (by kernel_rfl) (by kernel_rfl) rfl (fun W hW => by obtain ⟨h0, h1, h2, h3, h4, h5⟩ := hW; go_simp) aH1 ?_
          simp only [FL]
          refine hr_take_w 23 (some 49) (.slice (some ⟨vb, vf, none⟩) d.vs.length d.vc) rfl rfl (by kernel_rfl) (by kernel_rfl) (by kernel_rfl) rfl (fun W hW => by obtain ⟨h0, h1, h2, h3, h4, h5⟩ := hW; go_simp) aH1 ?_
          simp only [FL]
          refine hr_take_w 24 (some 50) (.int .i64 j) rfl rfl (by kernel_rfl) (by kernel_rfl) (by kernel_rfl) rfl (fun W hW => by obtain ⟨h0, h1, h2, h3, h4, h5⟩ := hW; go_simp) aH1 ?_
          simp only [FL]
          refine hr_take_w 25 (some 51) (.pointer (some ⟨vb, vf + j, none⟩)) rfl rfl (by kernel_rfl) (by kernel_rfl) (by kernel_rfl) rfl (fun W hW => by obtain ⟨h0, h1, h2, h3, h4, h5⟩ := hW; go_simp) aH1 ?_
          simp only [FL]
          refine hr_take_w 26 (some 52) (.slice y.ao y.n y.cap) rfl rfl (by kernel_rfl) (by kernel_rfl) (by kernel_rfl) rfl (fun W hW => by obtain ⟨h0, h1, h2, h3, h4, h5⟩ := hW; go_simp) aH1 ?_
          simp only [FL]
          have hI1 : Iv (pre ++ ge lo (wvA (segs.take j) (xs.take j)) ++ ge lo ss) v1 := by
            rcases hP with ⟨-, h⟩ | ⟨h, -⟩
            · exact h
            · simp at h
          refine hr_call_w 27 (some 53) g ((#[Value.slice k.ao k.n k.cap, Value.slice y.ao y.n y.cap] : Array Value) ++ lb) rfl rfl (by kernel_rfl) rfl (by go_simp) (fun v w' => ∃ b, v = .bool b ∧ BPost b (Iv (pre ++ ge lo (wvA (segs.take (j + 1)) (xs.take (j + 1))))) St w') ((CH.out v1 hI1).mono (by
            rintro e w' (⟨rfl, h⟩ | ⟨rfl, h⟩)
            · exact ⟨_, rfl, true, rfl, .inl ⟨rfl, h⟩⟩
            · exact ⟨_, rfl, false, rfl, .inr ⟨rfl, h⟩⟩)) ?_
          rintro v v2 ⟨b, rfl, hP2⟩
          have hb2 : Below w0.heap.size w0 v2 := by
            rcases hP2 with ⟨-, h⟩ | ⟨-, h⟩
            · exact hIb _ _ h
            · exact hSb _ h
          have aH2 := CS.out v2 hb2
          refine ⟨aH2, ?_⟩
          simp only [FL]
          clear hI1 CH hP
          cases b with
          | false =>
            refine hr_take_w 28 (some 54) (.bool true) rfl rfl (by kernel_rfl) (by kernel_rfl) (by kernel_rfl) rfl (fun W hW => by obtain ⟨h0, h1, h2, h3, h4, h5⟩ := hW; go_simp) aH2 ?_
            simp only [FL]
            refine hr_take_w 29 (some 55) (.bool true) rfl rfl (by kernel_rfl) (by kernel_rfl) (by kernel_rfl) rfl (fun W hW => by obtain ⟨h0, h1, h2, h3, h4, h5⟩ := hW; go_simp) aH2 ?_
            simp only [FL]
            refine wpAnyH_done (by kernel_rfl) ?_ _
            refine NoPanic.normal ?_
            have hS1 : St v2 := by
              rcases hP2 with ⟨h, -⟩ | ⟨-, h⟩
              · simp at h
              · exact h
            clear hP2
            go_wp2
            go_ret
            exact .inr ⟨rfl, hS1⟩
          | true =>
            refine hr_take_w 28 (some 54) (.bool false) rfl rfl (by kernel_rfl) (by kernel_rfl) (by kernel_rfl) rfl (fun W hW => by obtain ⟨h0, h1, h2, h3, h4, h5⟩ := hW; go_simp) aH2 ?_
            simp only [FL]
            refine hr_take_w 29 (some 55) (.bool false) rfl rfl (by kernel_rfl) (by kernel_rfl) (by kernel_rfl) rfl (fun W hW => by obtain ⟨h0, h1, h2, h3, h4, h5⟩ := hW; go_simp) aH2 ?_
            simp only [FL]
            refine wpAnyH_done (by kernel_rfl) ?_ _
            refine NoPanic.normal ?_
            have hI2 : Iv (pre ++ ge lo (wvA (segs.take (j + 1)) (xs.take (j + 1)))) v2 := by
              rcases hP2 with ⟨-, h⟩ | ⟨h, -⟩
              · exact h
              · simp at h
            clear hP2
            go_wp2
            go_roundw
            case rel => exact ⟨j + 1, by go_num, by omega, by omega, hI2⟩
            case measure => simp [intOf]; omega
      · have hlt' : ¬ (j : Int) < (d.ks.length : Int) := by omega
        have c1 := Nr.ok.c1
        have c3 := Nr.ok.c3
        rw [eco] at c3
        have cc : wr.cell? ⟨cb, cf + j, none⟩ = some (.pointer q) := (hb.cell (World.block_lt_of_cell? _ _ hcell)).trans hcell
        have HX : Hid (pre ++ ge lo (wvA (segs.take j) (xs.take j)) ++ ge lo ss = pre ++ ge lo l) := by
          show _ = _
          have hd : xs.drop j = [] := List.drop_eq_nil_of_le (by omega)
          have e1 : Bj = [] := by rw [cj.eB, hd]; rfl
          rw [List.append_assoc, ← ge_append, ← cj.eA, cj.el, e1, List.append_nil]
        have CF := CI.out wr hI
        rw [HX.out] at CF
        clear hcell hTk cj ih hand CI HX eco hs1 hs2
        go_wp2_with fail
        refine CF.mono ?_
        rintro e W' (⟨rfl, h⟩ | ⟨rfl, h⟩)
        · go_wp2
          go_ret
          exact .inl ⟨rfl, h⟩
        · go_wp2
          go_ret
          exact .inr ⟨rfl, h⟩
end Go.Proofs.YthlpccajnmkbjaaGreatDoor

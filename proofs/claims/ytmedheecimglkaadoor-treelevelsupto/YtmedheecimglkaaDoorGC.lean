/-
  Small texts in one.
-/
import Derived.Test.YtmedheecimglkaaDoorBase
import Derived.Test.YtmedheecimglkaaDoorGA
import Derived.Lib.SliceRun
import Derived.Test.YtmedheecimglkaaDoorAdd
import Derived.Lib.Strings
namespace Go.Proofs.YtmedheecimglkaaDoor
open Go.RowKit

theorem least (p : Nat → Prop) : ∀ n, p n → ∃ m, p m ∧ ∀ k, k < m → ¬ p k := by
  intro n
  induction n using Nat.strongRecOn with
  | ind n ih =>
    intro hn
    by_cases h : ∃ k, k < n ∧ p k
    · obtain ⟨k, hk, hp⟩ := h
      exact ih k hk hp
    · exact ⟨n, hn, fun k hk hp => h ⟨k, hk, hp⟩⟩
theorem wp_scope_dec {P : Program} {Q : Exit → Act → World → Prop} {a : Act} {w : World} {y : Code} (l : Nat) (J : Nat → Act → World → Prop) (n : Nat) (h0 : J n a w)
    (pass : ∀ n a w, J n a w → y.wp P (Exit.jump l (fun a' w' => ∃ m, m < n ∧ J m a' w') Q) a w) : (Code.scope ((Code.label l).seq y)).wp P Q a w := by
  have hex : ∀ p : Act × World, ∃ n, (∃ k, J k p.1 p.2) → (J n p.1 p.2 ∧ ∀ m, m < n → ¬ J m p.1 p.2) := by
    intro p
    by_cases h : ∃ k, J k p.1 p.2
    · obtain ⟨k, hk⟩ := h
      obtain ⟨m, h1, h2⟩ := least (fun k => J k p.1 p.2) k hk
      exact ⟨m, fun _ => ⟨h1, h2⟩⟩
    · exact ⟨0, fun h' => absurd h' h⟩
  obtain ⟨μ, hμ⟩ := Classical.axiomOfChoice hex
  refine wp_scope_label l (fun a w => ∃ n, J n a w) (fun a w => μ (a, w)) ⟨n, h0⟩ ?_
  intro a w hJ
  obtain ⟨h1, h2⟩ := hμ (a, w) hJ
  refine wp_mono (pass _ a w h1) ?_
  intro e a' w' h
  cases e with
  | goto l' =>
    obtain ⟨he, ⟨m, hm, hJm⟩⟩ := h
    refine ⟨he, ⟨m, hJm⟩, ?_⟩
    obtain ⟨h3, h4⟩ := hμ (a', w') ⟨m, hJm⟩
    have : ¬ m < μ (a', w') := fun hlt => h4 m hlt hJm
    show μ (a', w') < μ (a, w)
    have hm' : m < μ (a, w) := hm
    omega
  | _ => exact h
end Go.Proofs.YtmedheecimglkaaDoor

namespace Go.Proofs.YtmedheecimglkaaDoor
open Go.RowKit

/-- What a search for a key answers. -/
def FoundV (w : World) (l : List It) (key : List Int) (e : Ending) (w' : World) : Prop := ∃ (qo : Option Addr) (qn qc : Nat) (b : Bool), e = .returned (.tuple #[.slice qo qn qc, .bool b]) ∧
  (b = true → ∃ x ∈ l, x.k = key ∧ Sl w' qo qn qc x.v) ∧ (b = false → ¬ has key l ∧ qo = none ∧ qn = 0 ∧ qc = 0) ∧ Below w.heap.size w w'

/-- What holds at the label. -/
def FJ (w : World) (l : List It) (key : List Int) (xo : Option Addr) (m xc : Nat) (n : Nat) (a' : Act) (w' : World) : Prop := Below w.heap.size w w' ∧ ∃ (u u6 u7 u8 u9 u10 u11 u12 u13 u14 u15 u16 u17 u18 u19 u20 u21 u22 u23 u24 u25 u26 u27 u28 u29 u30 : Value) (l' : List It),
  a' = { tmps := #[u, .slice xo m xc, undef, undef, .slice none 0 0, .bool false, u6, u7, u8, u9, u10, u11, u12, u13, u14, u15, u16, u17, u18, u19, u20, u21, u22, u23, u24, u25, u26, u27, u28, u29, u30], defers := [] } ∧ T w' u l' ∧ Srt l' ∧ (∀ x ∈ l', x ∈ l) ∧ (has key l → has key l') ∧ l'.length = n ∧ n ≤ 100000

set_option maxHeartbeats 4000000 in
set_option maxRecDepth 100000 in
theorem find_any (w : World) (v : Value) (l : List It) (key : List Int) (xo : Option Addr) (m xc : Nat) (hT : T w v l) (hs : Srt l) (hx : Sl w xo m xc key) (hn : l.length ≤ 100000) :
    Calls Tryd.prog 42 #[v, .slice xo m xc] w (FoundV w l key) := by
  go_enter Tryd.func42, Tryd.ntmps42
  go_wp2
  refine wp_scope_dec 0 (FJ w l key xo m xc) l.length ?_ ?_
  · exact ⟨Below.refl _ _, v, _, _, _, _, _, _, _, _, _, _, _, _, _, _, _, _, _, _, _, _, _, _, _, _, _, l, rfl, hT, hs, fun x hx => hx, fun h => h, rfl, hn⟩
  · rintro n a' w' ⟨hB, u, u6, u7, u8, u9, u10, u11, u12, u13, u14, u15, u16, u17, u18, u19, u20, u21, u22, u23, u24, u25, u26, u27, u28, u29, u30, l', rfl, hT', hs', hsub, hhas, hlen, hn'⟩
    have HN : Hid (l'.length = n) := hlen
    have HH : Hid (has key l → has key l') := hhas
    have HU : Hid (∀ x ∈ l', x ∈ l) := hsub
    have hln : l'.length ≤ 100000 := by omega
    clear hlen hhas hsub hn'
    rcases hT'.is with ⟨rfl, rfl⟩ | ⟨d, segs, xs, rfl, h⟩
    · go_wp2
      simp only [Exit.jump]
      go_ret2
      refine ⟨none, 0, 0, false, rfl, by simp, fun _ => ⟨fun hk => ?_, rfl, rfl, rfl⟩, hB⟩
      obtain ⟨y, hy, -⟩ := HH.out hk
      simp at hy
    · have hm := h.many
      have hnk1 := Nat.le_of_eq h.nk
      have hnk2 := Nat.le_of_eq h.nk.symm
      have hnv1 := Nat.le_of_eq h.nv
      have hnv2 := Nat.le_of_eq h.nv.symm
      have hnc1 := Nat.le_of_eq h.nc
      have hnc2 := Nat.le_of_eq h.nc.symm
      have CP := place_any w' d h.ok xo m xc key (hx.below hB) (h.rise hs') (by omega)
      unfold Nd.ptr at CP ⊢
      go_wp2_with fail
      refine CP.mono ?_
      rintro e w1 ⟨i, b, rfl, hat, B1⟩
      have N1 := h.below B1
      have E1 : Below w.heap.size w w1 := hB.trans (B1.mono hB.size)
      obtain ⟨s, A, B, c, hA, hBB, hB2, hf⟩ := h.found hs' hat
      have hle := c.le
      clear CP
      cases b with
      | true =>
        obtain ⟨hi, he⟩ := hf rfl
        have hv : i < d.vs.length := by omega
        have hvi : (i : Int) < (d.vs.length : Int) := by omega
        have V1 := N1.ok.vl
        have c2 := N1.ok.c2
        obtain ⟨vb, vf, ev, hcell⟩ := V1.vl.at (by omega)
        have c1 := hcell i (by simpa using hv)
        have S1 := V1.sl d.vs[i] (List.getElem_mem hv)
        have hval := h.valAt i hv hi
        simp only [List.getElem_map] at c1
        rw [ev] at c2
        obtain ⟨q, hq⟩ : ∃ q, q = d.vs[i] := ⟨_, rfl⟩
        rw [← hq] at c1 S1 hval
        have HX : Hid (xs[i].k = key) := he
        have HV : Hid (q.xs = xs[i].v) := hval
        unfold Part.val at c1
        clear hq hcell he hval hf hB2 hat
        go_wp2
        simp only [Exit.jump]
        go_ret2
        refine ⟨q.ao, q.n, q.cap, true, rfl, fun _ => ⟨xs[i], HU.out _ (h.shp.key _ (List.getElem_mem hi)), HX.out, by rw [← HV.out]; exact S1⟩, by simp, E1⟩
      | false =>
        have hB3 := hB2 rfl
        obtain ⟨kb, ko, s', u', eco, hs1, hs2, hcell, hTk, hlen⟩ := N1.kidAt i hle
        obtain rfl : s = s' := Option.some.inj (c.seg.symm.trans hs1)
        have hss : Srt s := by
          have h1 := hs'
          rw [c.el] at h1
          exact h1.app.2.1.app.1
        have c3 := N1.ok.c3
        rw [eco] at c3
        have hii : (i : Int) < (d.cs.length : Int) := by omega
        obtain ⟨q, rfl⟩ := hTk.ptr
        have HK : Hid (has key l → has key s) := fun hk => by
          obtain ⟨y, hy, he⟩ := HH.out hk
          rw [c.el] at hy
          rcases List.mem_append.1 hy with hy | hy
          · exact absurd he (cmpL_lt_ne (hA y hy))
          · rcases List.mem_append.1 hy with hy | hy
            · exact ⟨y, hy, he⟩
            · exact absurd he.symm (cmpL_lt_ne (hB3 y hy))
        have HS : Hid (∀ x ∈ s, x ∈ l) := fun y hy => HU.out y (h.shp.seg _ (List.mem_of_getElem? c.seg) y hy)
        have hlN : s.length < n := by have := HN.out; omega
        clear hs1 hs2 hf hB2 hat eco HH HU
        go_wp2
        go_step3
        refine ⟨rfl, s.length, hlN, E1, _, _, _, _, _, _, _, _, _, _, _, _, _, _, _, _, _, _, _, _, _, _, _, _, _, _, s, rfl, hTk, hss, HS.out, HK.out, rfl, by omega⟩
end Go.Proofs.YtmedheecimglkaaDoor

namespace Go.Proofs.YtmedheecimglkaaDoor
open Go.RowKit

/-- The items whose keys are not below lo. -/
def ge (lo : List Int) (l : List It) : List It := l.filter fun x => decide (¬ cmpL x.k lo < 0)
theorem ge_append (lo : List Int) (a b : List It) : ge lo (a ++ b) = ge lo a ++ ge lo b := by simp [ge]
theorem ge_none {lo : List Int} {l : List It} (h : ∀ x ∈ l, cmpL x.k lo < 0) : ge lo l = [] := List.filter_eq_nil_iff.2 fun x hx => by simpa using h x hx
theorem ge_one {lo : List Int} {x : It} (h : ¬ cmpL x.k lo < 0) : ge lo [x] = [x] := by simp only [ge, List.filter_cons, decide_eq_true h, if_true, List.filter_nil]
/-- Went on, or was told to stop. -/
def BPost (b : Bool) (Q R : World → Prop) (w : World) : Prop := (b = true ∧ Q w) ∨ (b = false ∧ R w)
def WPost (Q R : World → Prop) (e : Ending) (w : World) : Prop := (e = .returned (.bool true) ∧ Q w) ∨ (e = .returned (.bool false) ∧ R w)

set_option maxHeartbeats 4000000 in
set_option maxRecDepth 100000 in
theorem walk_fuel (w0 : World) (g : Nat) (lb : Array Value) (eg : ∀ args w, (callFunc g args).run Tryd.prog w = .ok (.enter g args) w) (Iv : List It → World → Prop) (St : World → Prop) (ok : It → Prop) (F : List It)
    (hIb : ∀ pre W, Iv pre W → Below w0.heap.size w0 W) (hSb : ∀ W, St W → Below w0.heap.size w0 W) (hgr : ∀ pre W W', Iv pre W → Below W.heap.size W W' → Iv pre W')
    (lo : List Int) (xo : Option Addr) (m xc : Nat) (hx : Sl w0 xo m xc lo)
    (hand : ∀ pre W (k y : Part) (x : It), Iv pre W → ok x → (∃ post, pre ++ x :: post = F) → ¬ cmpL x.k lo < 0 → k.xs = x.k → y.xs = x.v → Sl W k.ao k.n k.cap k.xs → Sl W y.ao y.n y.cap y.xs → Calls Tryd.prog g (#[k.val, y.val] ++ lb) W (WPost (Iv (pre ++ [x])) St)) :
    ∀ (N : Nat) (l : List It) (v : Value) (pre post : List It) (W : World), l.length ≤ N → pre ++ (ge lo l ++ post) = F → T w0 v l → Srt l → (∀ x ∈ l, ok x) → l.length ≤ 100000 → Iv pre W → Calls Tryd.prog 45 #[v, .slice xo m xc, .func (.func g) #[] lb] W (WPost (Iv (pre ++ ge lo l)) St) := by
  intro N
  induction N with
  | zero =>
    intro l v pre post W hN hF hT hs hok hn hI
    rcases hT.is with ⟨rfl, rfl⟩ | ⟨d, segs, xs, rfl, h⟩
    · go_enter Tryd.func45, Tryd.ntmps45
      go_wp2
      go_ret
      exact .inl ⟨rfl, by simpa [ge] using hI⟩
    · have h1 := h.shp.pos
      have h2 := h.many
      omega
  | succ N ih =>
    intro l v pre post W hN hF hT hs hok hn hI
    rcases hT.is with ⟨rfl, rfl⟩ | ⟨d, segs, xs, rfl, h⟩
    · go_enter Tryd.func45, Tryd.ntmps45
      go_wp2
      go_ret
      exact .inl ⟨rfl, by simpa [ge] using hI⟩
    have HF : Hid (pre ++ (ge lo l ++ post) = F) := hF
    clear hF
    have hb := hIb _ _ hI
    have hm := h.many
    have hnk1 := Nat.le_of_eq h.nk
    have hnk2 := Nat.le_of_eq h.nk.symm
    have hnv1 := Nat.le_of_eq h.nv
    have hnv2 := Nat.le_of_eq h.nv.symm
    have hnc1 := Nat.le_of_eq h.nc
    have hnc2 := Nat.le_of_eq h.nc.symm
    have hpos := h.shp.pos
    have CP := place_any W d (h.ok.below hb) xo m xc lo (hx.below hb) (h.rise hs) (by omega)
    unfold Nd.ptr at CP ⊢
    go_enter Tryd.func45, Tryd.ntmps45
    go_wp2_with fail
    refine CP.mono ?_
    rintro e W1 ⟨i, b0, rfl, hat, B1⟩
    have hI := hgr _ _ _ hI B1
    obtain ⟨s0, A, B, c, hA, hB, -, -⟩ := h.found hs hat
    have hle := c.le
    have HI0 : Hid (ge lo (wvA (segs.take i) (xs.take i)) = []) := by show _ = _; rw [← c.eA]; exact ge_none hA
    have HHi : Hid (∀ j (hj : j < xs.length), i ≤ j → ¬ cmpL xs[j].k lo < 0) := fun j hj hij => by rw [← h.keyAt j (by omega) hj]; exact hat.hi j (by omega) hij
    clear CP hat c hA hB B1
    go_wp2_with fail
    go_loopw [7] (fun a wr => ∃ j : Nat, a = .int .i64 j ∧ i ≤ j ∧ j ≤ xs.length ∧ Iv (pre ++ ge lo (wvA (segs.take j) (xs.take j))) wr) (fun a _ => xs.length - (intOf a).toNat)
    case atStart => exact ⟨i, rfl, Nat.le_refl _, hle, by rw [HI0.out, List.append_nil]; exact hI⟩
    case round =>
      clear hI hb
      obtain ⟨j, rfl, hij, hj, hI⟩ := hrel
      have hb := hIb _ _ hI
      have Nr := h.below hb
      obtain ⟨cb, cf, s, u, eco, hs1, hs2, hcell, hTk, hlen⟩ := h.kidAt j hj
      obtain ⟨q, rfl⟩ := hTk.ptr
      have hsm : s ∈ segs := List.mem_of_getElem? hs1
      obtain ⟨ss, Aj, Bj, cj⟩ := h.shp.cut j hj
      obtain rfl : ss = s := Option.some.inj (cj.seg.symm.trans hs1)
      have hss : Srt ss := by
        have h1 := hs
        rw [cj.el] at h1
        exact h1.app.2.1.app.1
      have HFk : Hid (pre ++ ge lo (wvA (segs.take j) (xs.take j)) ++ (ge lo ss ++ (ge lo Bj ++ post)) = F) := by
        show _ = _
        rw [← HF.out, cj.el, cj.eA]
        simp only [ge_append, List.append_assoc]
      have CI : Hid (∀ V, Iv (pre ++ ge lo (wvA (segs.take j) (xs.take j))) V → Calls Tryd.prog 45 #[.pointer q, .slice xo m xc, .func (.func g) #[] lb] V (WPost (Iv (pre ++ ge lo (wvA (segs.take j) (xs.take j)) ++ ge lo ss)) St)) := fun V hV => ih ss (.pointer q) _ (ge lo Bj ++ post) V (by omega) HFk.out hTk hss (fun x hx => hok x (h.shp.seg _ hsm x hx)) (by omega) hV
      have hji : (j : Int) < (d.cs.length : Int) := by omega
      by_cases hlt : j < d.ks.length
      · have hlt' : (j : Int) < (d.ks.length : Int) := by omega
        have hlv : (j : Int) < (d.vs.length : Int) := by omega
        have hjx : j < xs.length := by omega
        have hjv : j < d.vs.length := by omega
        obtain ⟨ab, af, eak, hck⟩ := h.ok.kl.vl.at (by omega)
        obtain ⟨vb, vf, eav, hcv⟩ := h.ok.vl.vl.at (by omega)
        have ck := hck j (by simpa using hlt)
        have cv := hcv j (by simpa using hjv)
        have SK := h.ok.kl.sl d.ks[j] (List.getElem_mem hlt)
        have SV := h.ok.vl.sl d.vs[j] (List.getElem_mem hjv)
        have ek := h.keyAt j hlt hjx
        have ev := h.valAt j hjv hjx
        simp only [List.getElem_map] at ck cv
        obtain ⟨k, hk⟩ : ∃ k, k = d.ks[j] := ⟨_, rfl⟩
        obtain ⟨y, hy⟩ : ∃ y, y = d.vs[j] := ⟨_, rfl⟩
        rw [← hk] at ck SK ek
        rw [← hy] at cv SV ev
        have c1 := h.ok.c1
        have c2 := h.ok.c2
        have c3 := h.ok.c3
        rw [eak] at c1
        rw [eav] at c2
        rw [eco] at c3
        have c1r : wr.cell? ⟨d.b, 1, none⟩ = some (.slice (some ⟨ab, af, none⟩) d.ks.length d.kc) := (hb.cell (p := ⟨d.b, 1, none⟩) h.ok.lt).trans c1
        have HW : Hid (ge lo (wvA (segs.take (j + 1)) (xs.take (j + 1))) = ge lo (wvA (segs.take j) (xs.take j)) ++ ge lo ss ++ [xs[j]]) := by
          show _ = _
          have hjs : j < segs.length := by have := h.shp.len; omega
          have e1 : segs[j] = ss := by
            have := cj.seg
            rw [List.getElem?_eq_getElem hjs] at this
            exact Option.some.inj this
          have e2 : ge lo [xs[j]] = [xs[j]] := ge_one (by have := HHi.out j hjx hij; omega)
          rw [List.take_add_one, List.take_add_one, List.getElem?_eq_getElem hjs, List.getElem?_eq_getElem hjx, wvA_app _ _ _ _ (by simp; omega), e1]
          simp only [Option.toList_some, wvA, ge_append]
          have e3 : ge lo (xs[j] :: []) = [xs[j]] := e2
          rw [e3, List.append_assoc]
        have HFx : Hid (∃ p2, pre ++ ge lo (wvA (segs.take j) (xs.take j)) ++ ge lo ss ++ xs[j] :: p2 = F) := by
          obtain ⟨t, Q, -, -, -, -, hBe⟩ := cj.next hjx
          refine ⟨ge lo (t ++ weave ([] :: Q) (xs.drop (j + 1))) ++ post, ?_⟩
          have e2 : ge lo Bj = xs[j] :: ge lo (t ++ weave ([] :: Q) (xs.drop (j + 1))) := by
            rw [hBe, show xs[j] :: (t ++ weave ([] :: Q) (xs.drop (j + 1))) = [xs[j]] ++ (t ++ weave ([] :: Q) (xs.drop (j + 1))) from rfl, ge_append, ge_one (by have := HHi.out j hjx hij; omega)]
            rfl
          rw [← HFk.out, e2]
          simp
        have CH : Hid (∀ V, Iv (pre ++ ge lo (wvA (segs.take j) (xs.take j)) ++ ge lo ss) V → Calls Tryd.prog g ((#[Value.slice k.ao k.n k.cap, Value.slice y.ao y.n y.cap] : Array Value) ++ lb) V (WPost (Iv (pre ++ ge lo (wvA (segs.take (j + 1)) (xs.take (j + 1))))) St)) := by
          intro V hV
          rw [HW.out, ← List.append_assoc, ← List.append_assoc]
          exact hand _ V k y xs[j] hV (hok _ (h.shp.key _ (List.getElem_mem hjx))) HFx.out (by have := HHi.out j hjx hij; omega) ek ev (SK.below (hIb _ _ hV)) (SV.below (hIb _ _ hV))
        have CS : Hid (∀ V, Below w0.heap.size w0 V → V.cell? ⟨d.b, 1, none⟩ = some (.slice (some ⟨ab, af, none⟩) d.ks.length d.kc) ∧ V.cell? ⟨d.b, 2, none⟩ = some (.slice (some ⟨vb, vf, none⟩) d.vs.length d.vc) ∧ V.cell? ⟨d.b, 3, none⟩ = some (.slice (some ⟨cb, cf, none⟩) d.cs.length d.cc) ∧ V.cell? ⟨cb, cf + j, none⟩ = some (.pointer q) ∧ V.cell? ⟨ab, af + j, none⟩ = some (.slice k.ao k.n k.cap) ∧ V.cell? ⟨vb, vf + j, none⟩ = some (.slice y.ao y.n y.cap)) := by
          intro V hV
          unfold Part.val at ck cv
          exact ⟨(hV.cell (World.block_lt_of_cell? _ _ c1)).trans c1, (hV.cell (World.block_lt_of_cell? _ _ c2)).trans c2, (hV.cell (World.block_lt_of_cell? _ _ c3)).trans c3, (hV.cell (World.block_lt_of_cell? _ _ hcell)).trans hcell, (hV.cell (World.block_lt_of_cell? _ _ ck)).trans ck, (hV.cell (World.block_lt_of_cell? _ _ cv)).trans cv⟩
        clear hk hy ck cv SK SV ek ev c1 c2 c3 hck hcv eak eav eco hs1 hs2 hcell hTk cj hss HW ih hand
        go_wp2_with fail
        have hb0 : Below w0.heap.size w0 wr.drew := (hIb _ _ hI).drew
        have hI0 := hgr _ _ _ hI (Below.refl _ wr).drew
        refine wp_region_noPanic ?_
        refine wp_region_held_drew (S := fun V => V.cell? ⟨d.b, 1, none⟩ = some (.slice (some ⟨ab, af, none⟩) d.ks.length d.kc) ∧ V.cell? ⟨d.b, 2, none⟩ = some (.slice (some ⟨vb, vf, none⟩) d.vs.length d.vc) ∧ V.cell? ⟨d.b, 3, none⟩ = some (.slice (some ⟨cb, cf, none⟩) d.cs.length d.cc) ∧ V.cell? ⟨cb, cf + j, none⟩ = some (.pointer q) ∧ V.cell? ⟨ab, af + j, none⟩ = some (.slice k.ao k.n k.cap) ∧ V.cell? ⟨vb, vf + j, none⟩ = some (.slice y.ao y.n y.cap)) (by kernel_rfl) (CS.out _ hb0) (fun aH0 => ?_)
        obtain ⟨v0, hv0⟩ : ∃ v, v = wr.drew := ⟨_, rfl⟩
        rw [← hv0] at aH0 hI0 ⊢
        clear hv0 hI hb0
        refine hr_take_w 0 (some 26) (.pointer (some ⟨d.b, 0, none⟩)) rfl rfl (by kernel_rfl) (by kernel_rfl) (by kernel_rfl) rfl (fun W hW => by obtain ⟨h0, h1, h2, h3, h4, h5⟩ := hW; go_simp) aH0 ?_
        simp only [Act.put, List.setIfInBounds_toArray, List.set_cons_zero, List.set_cons_succ]
        refine hr_take_w 1 (some 27) (.pointer (some ⟨d.b, 0, none⟩)) rfl rfl (by kernel_rfl) (by kernel_rfl) (by kernel_rfl) rfl (fun W hW => by obtain ⟨h0, h1, h2, h3, h4, h5⟩ := hW; go_simp) aH0 ?_
        simp only [Act.put, List.setIfInBounds_toArray, List.set_cons_zero, List.set_cons_succ]
        refine hr_take_w 2 (some 28) (.pointer (some ⟨d.b, 3, none⟩)) rfl rfl (by kernel_rfl) (by kernel_rfl) (by kernel_rfl) rfl (fun W hW => by obtain ⟨h0, h1, h2, h3, h4, h5⟩ := hW; go_simp) aH0 ?_
        simp only [Act.put, List.setIfInBounds_toArray, List.set_cons_zero, List.set_cons_succ]
        refine hr_take_w 3 (some 29) (.slice (some ⟨cb, cf, none⟩) d.cs.length d.cc) rfl rfl (by kernel_rfl) (by kernel_rfl) (by kernel_rfl) rfl (fun W hW => by obtain ⟨h0, h1, h2, h3, h4, h5⟩ := hW; go_simp) aH0 ?_
        simp only [Act.put, List.setIfInBounds_toArray, List.set_cons_zero, List.set_cons_succ]
        refine hr_take_w 4 (some 30) (.int .i64 j) rfl rfl (by kernel_rfl) (by kernel_rfl) (by kernel_rfl) rfl (fun W hW => by obtain ⟨h0, h1, h2, h3, h4, h5⟩ := hW; go_simp) aH0 ?_
        simp only [Act.put, List.setIfInBounds_toArray, List.set_cons_zero, List.set_cons_succ]
        refine hr_take_w 5 (some 31) (.pointer (some ⟨cb, cf + j, none⟩)) rfl rfl (by kernel_rfl) (by kernel_rfl) (by kernel_rfl) rfl (fun W hW => by obtain ⟨h0, h1, h2, h3, h4, h5⟩ := hW; go_simp) aH0 ?_
        simp only [Act.put, List.setIfInBounds_toArray, List.set_cons_zero, List.set_cons_succ]
        refine hr_take_w 6 (some 32) (.pointer q) rfl rfl (by kernel_rfl) (by kernel_rfl) (by kernel_rfl) rfl (fun W hW => by obtain ⟨h0, h1, h2, h3, h4, h5⟩ := hW; go_simp) aH0 ?_
        simp only [Act.put, List.setIfInBounds_toArray, List.set_cons_zero, List.set_cons_succ]
        refine hr_take_w 7 (some 33) (.slice xo m xc) rfl rfl (by kernel_rfl) (by kernel_rfl) (by kernel_rfl) rfl (fun W hW => by obtain ⟨h0, h1, h2, h3, h4, h5⟩ := hW; go_simp) aH0 ?_
        simp only [Act.put, List.setIfInBounds_toArray, List.set_cons_zero, List.set_cons_succ]
        refine hr_take_w 8 (some 34) (.func (.func g) #[] lb) rfl rfl (by kernel_rfl) (by kernel_rfl) (by kernel_rfl) rfl (fun W hW => by obtain ⟨h0, h1, h2, h3, h4, h5⟩ := hW; go_simp) aH0 ?_
        simp only [Act.put, List.setIfInBounds_toArray, List.set_cons_zero, List.set_cons_succ]
        refine hr_call_w 9 (some 35) 45 #[.pointer q, .slice xo m xc, .func (.func g) #[] lb] rfl rfl (by kernel_rfl) rfl (by go_simp) (fun v w' => ∃ b, v = .bool b ∧ BPost b (Iv (pre ++ ge lo (wvA (segs.take j) (xs.take j)) ++ ge lo ss)) St w') ((CI.out v0 hI0).mono (by
          rintro e w' (⟨rfl, h⟩ | ⟨rfl, h⟩)
          · exact ⟨_, rfl, true, rfl, .inl ⟨rfl, h⟩⟩
          · exact ⟨_, rfl, false, rfl, .inr ⟨rfl, h⟩⟩)) ?_
        rintro v v1 ⟨b, rfl, hP⟩
        have hb1 : Below w0.heap.size w0 v1 := by
          rcases hP with ⟨-, h⟩ | ⟨-, h⟩
          · exact hIb _ _ h
          · exact hSb _ h
        have aH1 := CS.out v1 hb1
        refine ⟨aH1, ?_⟩
        simp only [Act.put, List.setIfInBounds_toArray, List.set_cons_zero, List.set_cons_succ]
        clear hI0 CI
        cases b with
        | false =>
          refine hr_take_w 10 (some 36) (.bool true) rfl rfl (by kernel_rfl) (by kernel_rfl) (by kernel_rfl) rfl (fun W hW => by obtain ⟨h0, h1, h2, h3, h4, h5⟩ := hW; go_simp) aH1 ?_
          simp only [Act.put, List.setIfInBounds_toArray, List.set_cons_zero, List.set_cons_succ]
          refine hr_take_w 11 (some 37) (.bool true) rfl rfl (by kernel_rfl) (by kernel_rfl) (by kernel_rfl) rfl (fun W hW => by obtain ⟨h0, h1, h2, h3, h4, h5⟩ := hW; go_simp) aH1 ?_
          simp only [Act.put, List.setIfInBounds_toArray, List.set_cons_zero, List.set_cons_succ]
          refine hr_none 12 (some 38) rfl rfl (by kernel_rfl) (by kernel_rfl) (by kernel_rfl) rfl aH1 ?_
          simp only [Act.put, List.setIfInBounds_toArray, List.set_cons_zero, List.set_cons_succ]
          refine hr_none 13 (some 39) rfl rfl (by kernel_rfl) (by kernel_rfl) (by kernel_rfl) rfl aH1 ?_
          simp only [Act.put, List.setIfInBounds_toArray, List.set_cons_zero, List.set_cons_succ]
          refine hr_none 14 (some 40) rfl rfl (by kernel_rfl) (by kernel_rfl) (by kernel_rfl) rfl aH1 ?_
          simp only [Act.put, List.setIfInBounds_toArray, List.set_cons_zero, List.set_cons_succ]
          refine hr_none 15 (some 41) rfl rfl (by kernel_rfl) (by kernel_rfl) (by kernel_rfl) rfl aH1 ?_
          simp only [Act.put, List.setIfInBounds_toArray, List.set_cons_zero, List.set_cons_succ]
          refine hr_none 16 (some 42) rfl rfl (by kernel_rfl) (by kernel_rfl) (by kernel_rfl) rfl aH1 ?_
          simp only [Act.put, List.setIfInBounds_toArray, List.set_cons_zero, List.set_cons_succ]
          refine hr_none 17 (some 43) rfl rfl (by kernel_rfl) (by kernel_rfl) (by kernel_rfl) rfl aH1 ?_
          simp only [Act.put, List.setIfInBounds_toArray, List.set_cons_zero, List.set_cons_succ]
          refine hr_none 18 (some 44) rfl rfl (by kernel_rfl) (by kernel_rfl) (by kernel_rfl) rfl aH1 ?_
          simp only [Act.put, List.setIfInBounds_toArray, List.set_cons_zero, List.set_cons_succ]
          refine hr_none 19 (some 45) rfl rfl (by kernel_rfl) (by kernel_rfl) (by kernel_rfl) rfl aH1 ?_
          simp only [Act.put, List.setIfInBounds_toArray, List.set_cons_zero, List.set_cons_succ]
          refine hr_none 20 (some 46) rfl rfl (by kernel_rfl) (by kernel_rfl) (by kernel_rfl) rfl aH1 ?_
          simp only [Act.put, List.setIfInBounds_toArray, List.set_cons_zero, List.set_cons_succ]
          refine hr_none 21 (some 47) rfl rfl (by kernel_rfl) (by kernel_rfl) (by kernel_rfl) rfl aH1 ?_
          simp only [Act.put, List.setIfInBounds_toArray, List.set_cons_zero, List.set_cons_succ]
          refine hr_none 22 (some 48) rfl rfl (by kernel_rfl) (by kernel_rfl) (by kernel_rfl) rfl aH1 ?_
          simp only [Act.put, List.setIfInBounds_toArray, List.set_cons_zero, List.set_cons_succ]
          refine hr_none 23 (some 49) rfl rfl (by kernel_rfl) (by kernel_rfl) (by kernel_rfl) rfl aH1 ?_
          simp only [Act.put, List.setIfInBounds_toArray, List.set_cons_zero, List.set_cons_succ]
          refine hr_none 24 (some 50) rfl rfl (by kernel_rfl) (by kernel_rfl) (by kernel_rfl) rfl aH1 ?_
          simp only [Act.put, List.setIfInBounds_toArray, List.set_cons_zero, List.set_cons_succ]
          refine hr_none 25 (some 51) rfl rfl (by kernel_rfl) (by kernel_rfl) (by kernel_rfl) rfl aH1 ?_
          simp only [Act.put, List.setIfInBounds_toArray, List.set_cons_zero, List.set_cons_succ]
          refine hr_none 26 (some 52) rfl rfl (by kernel_rfl) (by kernel_rfl) (by kernel_rfl) rfl aH1 ?_
          simp only [Act.put, List.setIfInBounds_toArray, List.set_cons_zero, List.set_cons_succ]
          refine hr_none 27 (some 53) rfl rfl (by kernel_rfl) (by kernel_rfl) (by kernel_rfl) rfl aH1 ?_
          simp only [Act.put, List.setIfInBounds_toArray, List.set_cons_zero, List.set_cons_succ]
          refine hr_none 28 (some 54) rfl rfl (by kernel_rfl) (by kernel_rfl) (by kernel_rfl) rfl aH1 ?_
          simp only [Act.put, List.setIfInBounds_toArray, List.set_cons_zero, List.set_cons_succ]
          refine hr_take_w 29 (some 55) (.bool true) rfl rfl (by kernel_rfl) (by kernel_rfl) (by kernel_rfl) rfl (fun W hW => by obtain ⟨h0, h1, h2, h3, h4, h5⟩ := hW; go_simp) aH1 ?_
          simp only [Act.put, List.setIfInBounds_toArray, List.set_cons_zero, List.set_cons_succ]
          refine wpAnyH_done (by kernel_rfl) ?_ _
          refine NoPanic.normal ?_
          have hS1 : St v1 := by
            rcases hP with ⟨h, -⟩ | ⟨-, h⟩
            · simp at h
            · exact h
          clear hP CH
          go_wp2
          go_ret
          exact .inr ⟨rfl, hS1⟩
        | true =>
          refine hr_take_w 10 (some 36) (.bool false) rfl rfl (by kernel_rfl) (by kernel_rfl) (by kernel_rfl) rfl (fun W hW => by obtain ⟨h0, h1, h2, h3, h4, h5⟩ := hW; go_simp) aH1 ?_
          simp only [Act.put, List.setIfInBounds_toArray, List.set_cons_zero, List.set_cons_succ]
          refine hr_take_w 11 (some 37) (.bool false) rfl rfl (by kernel_rfl) (by kernel_rfl) (by kernel_rfl) rfl (fun W hW => by obtain ⟨h0, h1, h2, h3, h4, h5⟩ := hW; go_simp) aH1 ?_
          simp only [Act.put, List.setIfInBounds_toArray, List.set_cons_zero, List.set_cons_succ]
          refine hr_take_w 12 (some 38) (.func (.func g) #[] lb) rfl rfl (by kernel_rfl) (by kernel_rfl) (by kernel_rfl) rfl (fun W hW => by obtain ⟨h0, h1, h2, h3, h4, h5⟩ := hW; go_simp) aH1 ?_
          simp only [Act.put, List.setIfInBounds_toArray, List.set_cons_zero, List.set_cons_succ]
          refine hr_take_w 13 (some 39) (.pointer (some ⟨d.b, 0, none⟩)) rfl rfl (by kernel_rfl) (by kernel_rfl) (by kernel_rfl) rfl (fun W hW => by obtain ⟨h0, h1, h2, h3, h4, h5⟩ := hW; go_simp) aH1 ?_
          simp only [Act.put, List.setIfInBounds_toArray, List.set_cons_zero, List.set_cons_succ]
          refine hr_take_w 14 (some 40) (.pointer (some ⟨d.b, 0, none⟩)) rfl rfl (by kernel_rfl) (by kernel_rfl) (by kernel_rfl) rfl (fun W hW => by obtain ⟨h0, h1, h2, h3, h4, h5⟩ := hW; go_simp) aH1 ?_
          simp only [Act.put, List.setIfInBounds_toArray, List.set_cons_zero, List.set_cons_succ]
          refine hr_take_w 15 (some 41) (.pointer (some ⟨d.b, 1, none⟩)) rfl rfl (by kernel_rfl) (by kernel_rfl) (by kernel_rfl) rfl (fun W hW => by obtain ⟨h0, h1, h2, h3, h4, h5⟩ := hW; go_simp) aH1 ?_
          simp only [Act.put, List.setIfInBounds_toArray, List.set_cons_zero, List.set_cons_succ]
          refine hr_take_w 16 (some 42) (.slice (some ⟨ab, af, none⟩) d.ks.length d.kc) rfl rfl (by kernel_rfl) (by kernel_rfl) (by kernel_rfl) rfl (fun W hW => by obtain ⟨h0, h1, h2, h3, h4, h5⟩ := hW; go_simp) aH1 ?_
          simp only [Act.put, List.setIfInBounds_toArray, List.set_cons_zero, List.set_cons_succ]
          refine hr_take_w 17 (some 43) (.int .i64 j) rfl rfl (by kernel_rfl) (by kernel_rfl) (by kernel_rfl) rfl (fun W hW => by obtain ⟨h0, h1, h2, h3, h4, h5⟩ := hW; go_simp) aH1 ?_
          simp only [Act.put, List.setIfInBounds_toArray, List.set_cons_zero, List.set_cons_succ]
          refine hr_take_w 18 (some 44) (.pointer (some ⟨ab, af + j, none⟩)) rfl rfl (by kernel_rfl) (by kernel_rfl) (by kernel_rfl) rfl (fun W hW => by obtain ⟨h0, h1, h2, h3, h4, h5⟩ := hW; go_simp) aH1 ?_
          simp only [Act.put, List.setIfInBounds_toArray, List.set_cons_zero, List.set_cons_succ]
          refine hr_take_w 19 (some 45) (.slice k.ao k.n k.cap) rfl rfl (by kernel_rfl) (by kernel_rfl) (by kernel_rfl) rfl (fun W hW => by obtain ⟨h0, h1, h2, h3, h4, h5⟩ := hW; go_simp) aH1 ?_
          simp only [Act.put, List.setIfInBounds_toArray, List.set_cons_zero, List.set_cons_succ]
          refine hr_take_w 20 (some 46) (.pointer (some ⟨d.b, 0, none⟩)) rfl rfl (by kernel_rfl) (by kernel_rfl) (by kernel_rfl) rfl (fun W hW => by obtain ⟨h0, h1, h2, h3, h4, h5⟩ := hW; go_simp) aH1 ?_
          simp only [Act.put, List.setIfInBounds_toArray, List.set_cons_zero, List.set_cons_succ]
          refine hr_take_w 21 (some 47) (.pointer (some ⟨d.b, 0, none⟩)) rfl rfl (by kernel_rfl) (by kernel_rfl) (by kernel_rfl) rfl (fun W hW => by obtain ⟨h0, h1, h2, h3, h4, h5⟩ := hW; go_simp) aH1 ?_
          simp only [Act.put, List.setIfInBounds_toArray, List.set_cons_zero, List.set_cons_succ]
          refine hr_take_w 22 (some 48) (.pointer (some ⟨d.b, 2, none⟩)) rfl rfl (by kernel_rfl) (by kernel_rfl) (by kernel_rfl) rfl (fun W hW => by obtain ⟨h0, h1, h2, h3, h4, h5⟩ := hW; go_simp) aH1 ?_
          simp only [Act.put, List.setIfInBounds_toArray, List.set_cons_zero, List.set_cons_succ]
          refine hr_take_w 23 (some 49) (.slice (some ⟨vb, vf, none⟩) d.vs.length d.vc) rfl rfl (by kernel_rfl) (by kernel_rfl) (by kernel_rfl) rfl (fun W hW => by obtain ⟨h0, h1, h2, h3, h4, h5⟩ := hW; go_simp) aH1 ?_
          simp only [Act.put, List.setIfInBounds_toArray, List.set_cons_zero, List.set_cons_succ]
          refine hr_take_w 24 (some 50) (.int .i64 j) rfl rfl (by kernel_rfl) (by kernel_rfl) (by kernel_rfl) rfl (fun W hW => by obtain ⟨h0, h1, h2, h3, h4, h5⟩ := hW; go_simp) aH1 ?_
          simp only [Act.put, List.setIfInBounds_toArray, List.set_cons_zero, List.set_cons_succ]
          refine hr_take_w 25 (some 51) (.pointer (some ⟨vb, vf + j, none⟩)) rfl rfl (by kernel_rfl) (by kernel_rfl) (by kernel_rfl) rfl (fun W hW => by obtain ⟨h0, h1, h2, h3, h4, h5⟩ := hW; go_simp) aH1 ?_
          simp only [Act.put, List.setIfInBounds_toArray, List.set_cons_zero, List.set_cons_succ]
          refine hr_take_w 26 (some 52) (.slice y.ao y.n y.cap) rfl rfl (by kernel_rfl) (by kernel_rfl) (by kernel_rfl) rfl (fun W hW => by obtain ⟨h0, h1, h2, h3, h4, h5⟩ := hW; go_simp) aH1 ?_
          simp only [Act.put, List.setIfInBounds_toArray, List.set_cons_zero, List.set_cons_succ]
          have hI1 : Iv (pre ++ ge lo (wvA (segs.take j) (xs.take j)) ++ ge lo ss) v1 := by
            rcases hP with ⟨-, h⟩ | ⟨h, -⟩
            · exact h
            · simp at h
          refine hr_call_w 27 (some 53) g ((#[Value.slice k.ao k.n k.cap, Value.slice y.ao y.n y.cap] : Array Value) ++ lb) rfl rfl (by kernel_rfl) rfl (by go_simp) (fun v w' => ∃ b, v = .bool b ∧ BPost b (Iv (pre ++ ge lo (wvA (segs.take (j + 1)) (xs.take (j + 1))))) St w') ((CH.out v1 hI1).mono (by
            rintro e w' (⟨rfl, h⟩ | ⟨rfl, h⟩)
            · exact ⟨_, rfl, true, rfl, .inl ⟨rfl, h⟩⟩
            · exact ⟨_, rfl, false, rfl, .inr ⟨rfl, h⟩⟩)) ?_
          rintro v v2 ⟨b, rfl, hP2⟩
          have hb2 : Below w0.heap.size w0 v2 := by
            rcases hP2 with ⟨-, h⟩ | ⟨-, h⟩
            · exact hIb _ _ h
            · exact hSb _ h
          have aH2 := CS.out v2 hb2
          refine ⟨aH2, ?_⟩
          simp only [Act.put, List.setIfInBounds_toArray, List.set_cons_zero, List.set_cons_succ]
          clear hI1 CH hP
          cases b with
          | false =>
            refine hr_take_w 28 (some 54) (.bool true) rfl rfl (by kernel_rfl) (by kernel_rfl) (by kernel_rfl) rfl (fun W hW => by obtain ⟨h0, h1, h2, h3, h4, h5⟩ := hW; go_simp) aH2 ?_
            simp only [Act.put, List.setIfInBounds_toArray, List.set_cons_zero, List.set_cons_succ]
            refine hr_take_w 29 (some 55) (.bool true) rfl rfl (by kernel_rfl) (by kernel_rfl) (by kernel_rfl) rfl (fun W hW => by obtain ⟨h0, h1, h2, h3, h4, h5⟩ := hW; go_simp) aH2 ?_
            simp only [Act.put, List.setIfInBounds_toArray, List.set_cons_zero, List.set_cons_succ]
            refine wpAnyH_done (by kernel_rfl) ?_ _
            refine NoPanic.normal ?_
            have hS1 : St v2 := by
              rcases hP2 with ⟨h, -⟩ | ⟨-, h⟩
              · simp at h
              · exact h
            clear hP2
            go_wp2
            go_ret
            exact .inr ⟨rfl, hS1⟩
          | true =>
            refine hr_take_w 28 (some 54) (.bool false) rfl rfl (by kernel_rfl) (by kernel_rfl) (by kernel_rfl) rfl (fun W hW => by obtain ⟨h0, h1, h2, h3, h4, h5⟩ := hW; go_simp) aH2 ?_
            simp only [Act.put, List.setIfInBounds_toArray, List.set_cons_zero, List.set_cons_succ]
            refine hr_take_w 29 (some 55) (.bool false) rfl rfl (by kernel_rfl) (by kernel_rfl) (by kernel_rfl) rfl (fun W hW => by obtain ⟨h0, h1, h2, h3, h4, h5⟩ := hW; go_simp) aH2 ?_
            simp only [Act.put, List.setIfInBounds_toArray, List.set_cons_zero, List.set_cons_succ]
            refine wpAnyH_done (by kernel_rfl) ?_ _
            refine NoPanic.normal ?_
            have hI2 : Iv (pre ++ ge lo (wvA (segs.take (j + 1)) (xs.take (j + 1)))) v2 := by
              rcases hP2 with ⟨-, h⟩ | ⟨h, -⟩
              · exact h
              · simp at h
            clear hP2
            go_wp2
            go_roundw
            case rel => exact ⟨j + 1, by go_num, by omega, by omega, hI2⟩
            case measure => simp [intOf]; omega
      · have hlt' : ¬ (j : Int) < (d.ks.length : Int) := by omega
        have c1 := Nr.ok.c1
        have c3 := Nr.ok.c3
        rw [eco] at c3
        have cc : wr.cell? ⟨cb, cf + j, none⟩ = some (.pointer q) := (hb.cell (World.block_lt_of_cell? _ _ hcell)).trans hcell
        have HX : Hid (pre ++ ge lo (wvA (segs.take j) (xs.take j)) ++ ge lo ss = pre ++ ge lo l) := by
          show _ = _
          have hd : xs.drop j = [] := List.drop_eq_nil_of_le (by omega)
          have e1 : Bj = [] := by rw [cj.eB, hd]; rfl
          rw [List.append_assoc, ← ge_append, ← cj.eA, cj.el, e1, List.append_nil]
        have CF := CI.out wr hI
        rw [HX.out] at CF
        clear hcell hTk cj ih hand CI HX eco hs1 hs2
        go_wp2_with fail
        refine CF.mono ?_
        rintro e W' (⟨rfl, h⟩ | ⟨rfl, h⟩)
        · go_wp2
          go_ret
          exact .inl ⟨rfl, h⟩
        · go_wp2
          go_ret
          exact .inr ⟨rfl, h⟩
end Go.Proofs.YtmedheecimglkaaDoor

namespace Go.Proofs.YtmedheecimglkaaDoor
open Go.RowKit

theorem own_nothing (w : World) : (w.alloc (.cells #[] 5)).ownsRow w.heap.size 5 1 (.slice (some ⟨w.heap.size, 0, none⟩) 0 0) 0 (bv []) :=
  World.ownsRow_made w #[] 0 (Nat.le_refl _) (Nat.zero_le _) rfl
/-- Bytes in new memory are answered. -/
def RetB (w : World) (n : Nat) (xs : List Int) (e : Ending) (w' : World) : Prop := ∃ ro rc, e = .returned (.slice ro n rc) ∧ Sl w' ro n rc xs ∧ Below w.heap.size w w'

set_option maxHeartbeats 400000 in
set_option maxRecDepth 100000 in
theorem own_any (w : World) (ao : Option Addr) (n cap : Nat) (xs : List Int) (h : Sl w ao n cap xs) (hn : n ≤ 1000000) :
    Calls Tryd.prog 40 #[.slice ao n cap] w (RetB w n xs) := by
  have B0 : Below w.heap.size w (w.alloc (.cells #[] 5)) := (Below.refl _ w).alloc (Nat.le_refl _) _
  have h0 := h.below B0
  have o0 := own_nothing w
  have hb := h.byte
  go_enter Tryd.func40, Tryd.ntmps40
  go_wp2_with (at_builtin; refine wpList_app rfl _ _ rfl w.heap.size _ _ _ rfl o0 _ _ _ _ rfl h0 (by omega) (by simp) ?_; intro v1 w1 own1 B1)
  simp only [Nat.zero_add, List.nil_append] at own1
  obtain ⟨ro, rc, rfl, S, -⟩ := Sl.own own1 hb
  go_wp2
  go_ret
  exact ⟨ro, rc, rfl, S, B0.trans B1⟩

set_option maxHeartbeats 400000 in
set_option maxRecDepth 100000 in
theorem clone_any (w : World) (ao : Option Addr) (n cap : Nat) (xs : List Int) (h : Sl w ao n cap xs) (hn : n ≤ 1000000) :
    Calls Tryd.prog 44 #[.slice ao n cap] w (RetB w n xs) := by
  cases ao with
  | none =>
    obtain ⟨rfl, rfl⟩ := h.nil rfl
    obtain rfl : xs = [] := List.eq_nil_of_length_eq_zero h.len
    have hq : ∀ W, _ := fun W => Lib.run_eql_slice_nil (P := Tryd.prog) W 23 5 none 0 0 0 0 Tryd.underlying23
    go_enter Tryd.func44, Tryd.ntmps44
    go_wp2
    go_ret
    exact ⟨none, 0, rfl, Sl.nothing w, Below.refl _ _⟩
  | some a =>
    have B0 : Below w.heap.size w (w.alloc (.cells #[] 5)) := (Below.refl _ w).alloc (Nat.le_refl _) _
    have h0 := h.below B0
    have o0 := own_nothing w
    have hb := h.byte
    have hq : ∀ W, _ := fun W => Lib.run_eql_slice_nil (P := Tryd.prog) W 23 5 (some a) n cap 0 0 Tryd.underlying23
    go_enter Tryd.func44, Tryd.ntmps44
    go_wp2_with (at_builtin; refine wpList_app rfl _ _ rfl w.heap.size _ _ _ rfl o0 _ _ _ _ rfl h0 (by omega) (by simp) ?_; intro v1 w1 own1 B1)
    simp only [Nat.zero_add, List.nil_append] at own1
    obtain ⟨ro, rc, rfl, S, -⟩ := Sl.own own1 hb
    go_wp2
    go_ret
    exact ⟨ro, rc, rfl, S, B0.trans B1⟩

/-- The value v is a tree (a handle) of the items l. -/
def TT (w : World) (v : Value) (l : List It) : Prop := (v = .pointer none ∧ l = []) ∨ ∃ b u, v = .pointer (some ⟨b, 0, none⟩) ∧ w.cell? ⟨b, 0, none⟩ = some u ∧ T w u l ∧ l ≠ []
theorem TT.nil (w : World) : TT w (.pointer none) [] := .inl ⟨rfl, rfl⟩
theorem TT.below {w w' : World} {v : Value} {l : List It} (h : TT w v l) (hb : Below w.heap.size w w') : TT w' v l := by
  rcases h with h | ⟨b, u, rfl, hc, ht, hl⟩
  · exact .inl h
  · exact .inr ⟨b, u, rfl, (hb.cell (World.block_lt_of_cell? _ _ hc)).trans hc, ht.below hb, hl⟩
theorem TT.ptr {w : World} {v : Value} {l : List It} (h : TT w v l) : ∃ po, v = .pointer po := by
  rcases h with ⟨rfl, _⟩ | ⟨b, u, rfl, _⟩
  · exact ⟨_, rfl⟩
  · exact ⟨_, rfl⟩
/-- A tree is answered, in new memory. -/
def RetTT (w : World) (l : List It) (e : Ending) (w' : World) : Prop := ∃ v, e = .returned v ∧ TT w' v l ∧ Below w.heap.size w w'

set_option maxHeartbeats 400000 in
set_option maxRecDepth 100000 in
theorem treeOf_any (w : World) (v : Value) (l : List It) (h : T w v l) : Calls Tryd.prog 37 #[v] w (RetTT w l) := by
  rcases h.is with ⟨rfl, rfl⟩ | ⟨d, segs, xs, rfl, hN⟩
  · go_enter Tryd.func37, Tryd.ntmps37
    go_wp2
    go_ret
    exact ⟨_, rfl, TT.nil _, Below.refl _ _⟩
  · have hne : l ≠ [] := by
      intro e
      subst e
      have h0 := hN.shp.pos
      have := hN.shp.key xs[0] (List.getElem_mem h0)
      simp at this
    unfold Nd.ptr at h ⊢
    go_enter Tryd.func37, Tryd.ntmps37
    go_wp2
    go_ret
    have B : Below w.heap.size w (w.alloc (.cells #[.pointer (some ⟨d.b, 0, none⟩)] 105)) := (Below.refl _ w).alloc (Nat.le_refl _) _
    exact ⟨_, rfl, .inr ⟨_, _, rfl, cell_one_new _ _ _ 0 _ (by simp), h.below B, hne⟩, B⟩

set_option maxHeartbeats 400000 in
set_option maxRecDepth 100000 in
theorem shared_any (w : World) (v : Value) (l : List It) (h : TT w v l) : Calls Tryd.prog 39 #[v] w fun e w' => ∃ po, e = .returned (.pointer po) ∧ T w (.pointer po) l ∧ w' = w := by
  rcases h with ⟨rfl, rfl⟩ | ⟨b, u, rfl, hc, ht, hl⟩
  · go_enter Tryd.func39, Tryd.ntmps39
    go_wp2
    go_ret
    exact ⟨_, rfl, T.nil _, rfl⟩
  · obtain ⟨po, rfl⟩ := ht.ptr
    go_enter Tryd.func39, Tryd.ntmps39
    go_wp2
    go_ret
    exact ⟨_, rfl, ht, rfl⟩
end Go.Proofs.YtmedheecimglkaaDoor

namespace Go.Proofs.YtmedheecimglkaaDoor
open Go.RowKit

theorem arr_not_row {w : World} {p : Nat} {t e : TypeId} {cs : List Value} (h : Arr w p t cs) (hte : t ≠ e) {base size k : Nat} {v : Value} {xs : List Value} (hr : w.ownsRow base e size v k xs) : v.ownBlock ≠ some p := by
  rcases hr.2 with ⟨rfl, _⟩ | ⟨g, cap, cur, rfl, _, hgb, _⟩
  · simp [Value.ownBlock]
  · intro e'
    obtain rfl : g = p := by simpa [Value.ownBlock] using e'
    have := (show w.heap[g]? = _ from h).symm.trans hgb
    simp at this
    exact hte this.2
theorem own_below {w w' : World} {base : Nat} {e : TypeId} {size : Nat} {v : Value} {n : Nat} {xs : List Value} (h : w.ownsRow base e size v n xs) (hb : Below w.heap.size w w') : w'.ownsRow base e size v n xs :=
  h.kept (row := none) ⟨hb.os, hb.tape, hb.output, hb.size, fun k hk _ => hb.block k hk⟩ (by cases v.ownBlock <;> simp)
theorem arr_below {w w' : World} {p : Nat} {t : TypeId} {cs : List Value} (h : Arr w p t cs) (hb : Below w.heap.size w w') : Arr w' p t cs := (hb.block p h.lt).trans h
/-- Behind an append to a row of a field's own, and the store of what it yields. -/
theorem arr_put {w w1 : World} {p base : Nat} {t e : TypeId} {cs : List Value} {size k m : Nat} {v v' : Value} {xs ys : List Value} (h : Arr w p t cs) (hte : t ≠ e) (hr : w.ownsRow base e size v k xs) (hb : base ≤ w.heap.size) (hp : base ≤ p)
    (hr' : w1.ownsRow base e size v' m ys) (hg : w.grownBy w1 v.ownBlock) (j : Nat) :
    Arr w1 p t cs ∧ Arr (w1.setCell ⟨p, j, none⟩ v') p t (cs.set j v') ∧ (w1.setCell ⟨p, j, none⟩ v').ownsRow base e size v' m ys ∧ Below base w (w1.setCell ⟨p, j, none⟩ v') := by
  have hne := arr_not_row h hte hr
  have h1 : Arr w1 p t cs := h.grown hg (fun e => hne e.symm)
  refine ⟨h1, h1.set j v', ?_, ?_⟩
  · refine hr'.kept (row := some p) (grown_set (a := w1) (b := w1) ⟨rfl, rfl, rfl, Nat.le_refl _, fun _ _ _ => rfl⟩ j v') (.inr (arr_not_row h1 hte hr'))
  · refine ((Below.refl base w).grown hg hb (fun k hk => (hr.lt k hk).1)).setCell hp v'
end Go.Proofs.YtmedheecimglkaaDoor

namespace Go.Proofs.YtmedheecimglkaaDoor
open Go.RowKit

theorem ge_nil (l : List It) : ge [] l = l := List.filter_eq_self.2 fun x _ => decide_eq_true (by have := cmpL_nil x.k; omega)
set_option maxHeartbeats 400000 in
set_option maxRecDepth 100000 in
theorem shared_at (w W : World) (v : Value) (l : List It) (h : TT w v l) (hb : Below w.heap.size w W) : Calls Tryd.prog 39 #[v] W fun e w' => ∃ po, e = .returned (.pointer po) ∧ T w (.pointer po) l ∧ w' = W := by
  rcases h with ⟨rfl, rfl⟩ | ⟨b, u, rfl, hc, ht, hl⟩
  · go_enter Tryd.func39, Tryd.ntmps39
    go_wp2
    go_ret
    exact ⟨_, rfl, T.nil _, rfl⟩
  · obtain ⟨po, rfl⟩ := ht.ptr
    have hc2 := (hb.cell (World.block_lt_of_cell? _ _ hc)).trans hc
    go_enter Tryd.func39, Tryd.ntmps39
    go_wp2
    go_ret
    exact ⟨_, rfl, ht, rfl⟩
/-- The count. -/
def CntI (w : World) (p : Nat) (pre : List It) (W : World) : Prop := Below w.heap.size w W ∧ Arr W p 3 [.int .i64 pre.length] ∧ pre.length ≤ 100000 ∧ w.heap.size ≤ p

set_option maxHeartbeats 1000000 in
set_option maxRecDepth 100000 in
theorem cnt_any (w : World) (p : Nat) (pre : List It) (W : World) (k y : Value) (x : It) (h : CntI w p pre W) (hl : pre.length + 1 ≤ 100000) :
    Calls Tryd.prog 46 (#[k, y] ++ #[.pointer (some ⟨p, 0, none⟩)]) W (WPost (CntI w p (pre ++ [x])) fun _ => False) := by
  obtain ⟨hb, ha, -, hp⟩ := h
  have c0 := ha.cell 0
  have f0 := ha.free 0
  have hli : (pre.length : Int) + 1 ≤ 100000 := by omega
  have hs := ha.set 0 (.int .i64 ((pre.length : Int) + 1))
  have hB := hb.setCell (p := ⟨p, 0, none⟩) hp (.int .i64 ((pre.length : Int) + 1))
  go_enter Tryd.func46, Tryd.ntmps46
  go_wp2
  go_ret
  refine .inl ⟨rfl, hB, ?_, by simpa using hl, hp⟩
  rw [List.length_append, List.length_singleton, Int.natCast_add]
  exact hs

set_option maxHeartbeats 1000000 in
set_option maxRecDepth 100000 in
theorem len_any (w : World) (v : Value) (l : List It) (h : TT w v l) (hs : Srt l) (hn : l.length ≤ 50000) :
    Calls Tryd.prog 18 #[v] w fun e w' => e = .returned (.int .i64 l.length) ∧ Below w.heap.size w w' := by
  obtain ⟨W0, hW0⟩ : ∃ W, W = w.alloc (.cells #[.int .i64 0] 3) := ⟨_, rfl⟩
  have B0 : Below w.heap.size w W0 := by rw [hW0]; exact (Below.refl _ w).alloc (Nat.le_refl _) _
  have A0 : Arr W0 w.heap.size 3 [.int .i64 0] := by rw [hW0]; exact heap_alloc_new w _
  have CS := shared_at w W0 v l h B0
  obtain ⟨po, rfl⟩ := h.ptr
  go_enter Tryd.func18, Tryd.ntmps18
  go_wp2_with fail
  rw [← hW0]
  clear hW0
  refine CS.mono ?_
  rintro e w1 ⟨q, rfl, hT, hw1⟩
  obtain rfl := hw1.symm
  have CW := walk_fuel w 46 #[.pointer (some ⟨w.heap.size, 0, none⟩)] (enters_of Tryd.func46 (by kernel_rfl) rfl) (CntI w w.heap.size) (fun _ => False) (fun _ => True) l
    (fun _ _ h => h.1) (fun _ h => h.elim) (fun pre W W' h hb => ⟨h.1.trans (hb.mono h.1.size), arr_below h.2.1 hb, h.2.2⟩) [] none 0 0 (Sl.nothing w)
    (fun pre W k y x hI _ hF _ _ _ _ _ => cnt_any w w.heap.size pre W k.val y.val x hI (by
      obtain ⟨post, e⟩ := hF
      have := congrArg List.length e
      simp only [List.length_append, List.length_cons] at this
      omega))
    l.length l (.pointer q) [] [] W0 (Nat.le_refl _) (by rw [ge_nil]; simp) hT hs (fun _ _ => trivial) (by omega) ⟨B0, A0, by simp, Nat.le_refl _⟩
  rw [List.nil_append, ge_nil] at CW
  clear CS hT
  go_wp2_with fail
  refine CW.mono ?_
  rintro e w2 (⟨rfl, hb, ha, -, -⟩ | ⟨-, hf⟩)
  · have c0 := ha.cell 0
    go_wp2
    go_ret
    exact ⟨rfl, hb⟩
  · exact hf.elim
end Go.Proofs.YtmedheecimglkaaDoor

namespace Go.Proofs.YtmedheecimglkaaDoor
open Go.RowKit

/-- An item in memory. -/
structure IP where
  k : Part
  v : Part
def IP.it (q : IP) : It := ⟨q.k.xs, q.v.xs⟩
def IP.ok (w : World) (q : IP) : Prop := Sl w q.k.ao q.k.n q.k.cap q.k.xs ∧ Sl w q.v.ao q.v.n q.v.cap q.v.xs
theorem IP.ok.below {w w' : World} {q : IP} (h : q.ok w) (hb : Below w.heap.size w w') : q.ok w' := ⟨h.1.below hb, h.2.below hb⟩
/-- The slice at ao, of n items, up to cap, holds its. -/
structure IL (w : World) (ao : Option Addr) (n cap : Nat) (its : List IP) : Prop where
  len : its.length = n
  le : n ≤ cap
  mx : cap ≤ maxLen
  nil : ao = none → n = 0 ∧ cap = 0
  cell : ∀ a, ao = some a → ∀ i (h : i < its.length), w.cell? (a.add (i * 2)) = some its[i].k.val ∧ w.cell? (a.add (i * 2 + 1)) = some its[i].v.val
  sl : ∀ q ∈ its, q.ok w
theorem IL.below {w w' : World} {ao : Option Addr} {n cap : Nat} {its : List IP} (h : IL w ao n cap its) (hb : Below w.heap.size w w') : IL w' ao n cap its :=
  ⟨h.len, h.le, h.mx, h.nil, fun a ha i hi => by
    obtain ⟨h1, h2⟩ := h.cell a ha i hi
    exact ⟨(hb.cell (World.block_lt_of_cell? w _ h1)).trans h1, (hb.cell (World.block_lt_of_cell? w _ h2)).trans h2⟩, fun q hq => (h.sl q hq).below hb⟩
theorem IL.at {w : World} {ao : Option Addr} {n cap : Nat} {its : List IP} (h : IL w ao n cap its) (hn : 0 < n) :
    ∃ b off, ao = some ⟨b, off, none⟩ ∧ ∀ i (hi : i < its.length), w.cell? ⟨b, off + i * 2, none⟩ = some its[i].k.val ∧ w.cell? ⟨b, off + i * 2 + 1, none⟩ = some its[i].v.val := by
  have hl := h.len
  cases ao with
  | none => have := (h.nil rfl).1; omega
  | some a =>
    obtain ⟨b, off, spot⟩ := a
    have hc := (h.cell _ rfl 0 (by omega)).1
    have hs : spot = none := by simpa [Addr.add] using World.cell?_spot hc
    subst hs
    exact ⟨b, off, rfl, fun i hi => by have := h.cell _ rfl i hi; rw [Addr.add_lit, Addr.add_lit, ← Nat.add_assoc] at this; exact this⟩
theorem IL.nothing (w : World) : IL w none 0 0 [] := ⟨rfl, Nat.le_refl _, Nat.zero_le _, fun _ => ⟨rfl, rfl⟩, fun _ h => by simp at h, fun _ h => by simp at h⟩
theorem IL.one (w : World) (q : IP) (h : q.ok w) (t : TypeId) : IL (w.alloc (.cells #[q.k.val, q.v.val] t)) (some ⟨w.heap.size, 0, none⟩) 1 1 [q] := by
  refine ⟨rfl, Nat.le_refl _, by simp [maxLen], fun h => by simp at h, fun a ha i hi => ?_, fun r hr => ?_⟩
  · obtain rfl := Option.some.inj ha
    obtain rfl : i = 0 := by simpa using hi
    rw [Addr.add_lit, Addr.add_lit]
    exact ⟨cell_of_row _ _ 0 _ _ _ (heap_alloc_new w _), cell_of_row _ _ 1 _ _ _ (heap_alloc_new w _)⟩
  · rw [List.mem_singleton.1 hr]
    exact h.below ((Below.refl _ w).alloc (Nat.le_refl _) _)

/-- What stands against some items. -/
def badK (n : Nat) : Bool := decide (n < 1 ∨ 256 < n)
def jL : List IP → Int → Int
  | [], acc => acc
  | q :: qs, acc => if badK q.k.n then 5 else jL qs (if 1024 < q.v.n then 4 else acc)

set_option maxHeartbeats 4000000 in
set_option maxRecDepth 100000 in
theorem judge_any (w : World) (ao : Option Addr) (n cap : Nat) (its : List IP) (h : IL w ao n cap its) (hn : n ≤ 1000000) (hb : ∀ q ∈ its, q.k.n ≤ 1000000 ∧ q.v.n ≤ 1000000) :
    Calls Tryd.prog 36 #[.slice ao n cap] w fun e w' => e = .returned (.int .i64 (jL its 0)) ∧ Below w.heap.size w w' := by
  have hl := h.len
  have hni : (n : Int) ≤ 1000000 := by omega
  go_enter Tryd.func36, Tryd.ntmps36
  go_wp2
  go_loopw [3, 8] (fun a i wr => ∃ (k : Nat) (acc : Int), k ≤ n ∧ i = .int .i64 k ∧ a = .int .i64 acc ∧ jL (its.drop k) acc = jL its 0 ∧ Below w.heap.size w wr) (fun _ i _ => n - (intOf i).toNat)
  case atStart => exact ⟨0, 0, Nat.zero_le _, rfl, rfl, rfl, Below.refl _ _⟩
  case round =>
    obtain ⟨k, acc, hk, rfl, rfl, hj, hB⟩ := hrel
    have HJ : Hid (jL (its.drop k) acc = jL its 0) := hj
    clear hj
    by_cases hlt : k < n
    · have hki : (k : Int) < (n : Int) := by omega
      have hkl : k < its.length := by omega
      obtain ⟨b, off, rfl, hc⟩ := (h.below hB).at (by omega)
      obtain ⟨c1, c2⟩ := hc k hkl
      have hq := hb its[k] (List.getElem_mem hkl)
      have HD : Hid (its.drop k = its[k] :: its.drop (k + 1)) := List.drop_eq_getElem_cons hkl
      obtain ⟨q, hqe⟩ : ∃ q, q = its[k] := ⟨_, rfl⟩
      rw [← hqe] at c1 c2 hq HD
      obtain ⟨q1, q2⟩ := hq
      unfold Part.val at c1 c2
      clear hc hqe
      by_cases h1 : q.k.n < 1
      · have h1' : (q.k.n : Int) < 1 := by omega
        have HR : Hid (jL its 0 = 5) := by
          show _ = _
          rw [← HJ.out, HD.out, jL, if_pos (by simp [badK]; omega)]
        go_wp2
        go_ret
        refine ⟨?_, hB.alloc hB.size _⟩
        rw [HR.out]
        rfl
      have h1' : ¬ (q.k.n : Int) < 1 := by omega
      by_cases h2 : 256 < q.k.n
      · have h2' : (256 : Int) < (q.k.n : Int) := by omega
        have HR : Hid (jL its 0 = 5) := by
          show _ = _
          rw [← HJ.out, HD.out, jL, if_pos (by simp [badK]; omega)]
        go_wp2
        go_ret
        refine ⟨?_, hB.alloc hB.size _⟩
        rw [HR.out]
        rfl
      have h2' : ¬ (256 : Int) < (q.k.n : Int) := by omega
      have HB : Hid (badK q.k.n = false) := by show _ = _; simp [badK]; omega
      by_cases h3 : 1024 < q.v.n
      · have h3' : (1024 : Int) < (q.v.n : Int) := by omega
        go_wp2
        go_roundw
        case rel =>
          refine ⟨k + 1, 4, by omega, by go_num, rfl, ?_, hB.alloc hB.size _⟩
          rw [← HJ.out, HD.out, jL, HB.out, if_pos h3]
          rfl
        case measure => simp [intOf]; omega
      · have h3' : ¬ (1024 : Int) < (q.v.n : Int) := by omega
        go_wp2
        go_roundw
        case rel =>
          refine ⟨k + 1, acc, by omega, by go_num, rfl, ?_, hB.alloc hB.size _⟩
          rw [← HJ.out, HD.out, jL, HB.out, if_neg h3]
          rfl
        case measure => simp [intOf]; omega
    · have hge : ¬ (k : Int) < (n : Int) := by omega
      have HR : Hid (jL its 0 = acc) := by
        show _ = _
        rw [← HJ.out, List.drop_eq_nil_of_le (by omega)]
        rfl
      go_wp2
      go_ret
      refine ⟨?_, hB⟩
      rw [HR.out]
      rfl
end Go.Proofs.YtmedheecimglkaaDoor

namespace Go.Proofs.YtmedheecimglkaaDoor
open Go.RowKit

theorem sb_drop (t : ByteArray) : sb (t.extract 1 t.size) = (sb t).drop 1 := by
  unfold sb
  rw [ByteArray.data_extract, Array.toList_extract]
  simp
  refine List.take_of_length_le ?_
  rw [List.length_tail, List.length_map, Array.length_toList]
  exact Nat.le_refl _

set_option maxHeartbeats 1000000 in
set_option maxRecDepth 100000 in
theorem trimB_any (w : World) (s : ByteArray) (hs : s.size ≤ 1000000) :
    Calls Tryd.prog 83 #[.string s, .int .u8 48] w fun e w' => ∃ t, e = .returned (.string t) ∧ sb t = (sb s).dropWhile (fun c => c == 48) ∧ w' = w := by
  go_enter Tryd.func83, Tryd.ntmps83
  go_wp2
  go_loopw [0] (fun a wr => ∃ t : ByteArray, a = .string t ∧ t.size ≤ s.size ∧ wr = w ∧ (sb t).dropWhile (fun c => c == 48) = (sb s).dropWhile (fun c => c == 48)) (fun a _ => match a with | .string t => t.size | _ => 0)
  case atStart => exact ⟨s, rfl, Nat.le_refl _, rfl, rfl⟩
  case round =>
    obtain ⟨t, rfl, hle, rfl, hd⟩ := hrel
    have HD : Hid ((sb t).dropWhile (fun c => c == 48) = (sb s).dropWhile (fun c => c == 48)) := hd
    clear hd
    by_cases h0 : 0 < t.size
    · have h0' : (0 : Int) < (t.size : Int) := by omega
      have hat := sb_at t 0 h0
      rw [List.drop_zero, Nat.zero_add] at hat
      by_cases h1 : (t[0].toNat : Int) = 48
      · have hb : ((t[0].toNat : Int) == 48) = true := by simpa using h1
        have HE : Hid (sb t = (t[0].toNat : Int) :: (sb t).drop 1) := hat
        have H1 : Hid ((t[0].toNat : Int) = 48) := h1
        clear hat h1
        go_wp2
        refine ⟨⟨_, rfl, ?_, trivial, ?_⟩, ?_⟩
        · simp only [ByteArray.size_extract]
          omega
        · rw [sb_drop, ← HD.out]
          conv => rhs; rw [HE.out, H1.out]
          simp
        · simp only [ByteArray.size_extract]
          omega
      · have hb : ((t[0].toNat : Int) == 48) = false := by simpa using h1
        have HE : Hid ((sb t).dropWhile (fun c => c == 48) = sb t) := by
          show _ = _
          rw [hat, List.dropWhile_cons, hb]
          rfl
        clear hat h1
        go_wp2
        go_ret
        exact ⟨t, rfl, by rw [← HD.out, HE.out], rfl⟩
    · have h0' : ¬ (0 : Int) < (t.size : Int) := by omega
      have HE : Hid ((sb t).dropWhile (fun c => c == 48) = sb t) := by
        show _ = _
        have : sb t = [] := List.eq_nil_of_length_eq_zero (by rw [sb_len]; omega)
        rw [this]
        rfl
      go_wp2
      go_ret
      exact ⟨t, rfl, by rw [← HD.out, HE.out], rfl⟩

set_option maxHeartbeats 1000000 in
set_option maxRecDepth 100000 in
theorem trim_any (w : World) (s : ByteArray) (h0 : 0 < s.size) (hs : s.size ≤ 1000000) :
    Calls Tryd.prog 53 #[.string s, .string ⟨#[48]⟩] w fun e w' => ∃ t, e = .returned (.string t) ∧ sb t = (sb s).dropWhile (fun c => c == 48) ∧ w' = w := by
  have CT := trimB_any w s hs
  have he : s.toList.isEmpty = false := by
    rw [List.isEmpty_eq_false_iff]
    intro e
    have := congrArg List.length e
    rw [Lib.toList_data, Array.length_toList] at this
    have h2 : s.size = s.data.size := rfl
    simp at this
    rw [h2, this] at h0
    simp at h0
  have hz : (((⟨#[48]⟩ : ByteArray)[0]'(by decide)).toNat : Int) = 48 := rfl
  go_enter Tryd.func53, Tryd.ntmps53
  go_wp2_with fail
  refine CT.mono ?_
  rintro e w' ⟨t, rfl, ht, rfl⟩
  have HT : Hid (sb t = (sb s).dropWhile (fun c => c == 48)) := ht
  clear ht
  go_wp2
  go_ret
  exact ⟨t, rfl, HT.out, rfl⟩
end Go.Proofs.YtmedheecimglkaaDoor

/-
  Texts in one: ScopeDec, PFind.
-/
import Derived.Test.YtcepknjdiboinaaDoorTreeBetweenZ0
import Derived.Test.YtcepknjdiboinaaDoorTreeBetweenZ6
namespace Go.Proofs.YtcepknjdiboinaaDoor
open Go.RowKit

theorem least (p : Nat → Prop) : ∀ n, p n → ∃ m, p m ∧ ∀ k, k < m → ¬ p k := by
  intro n
  induction n using Nat.strongRecOn with
  | ind n ih =>
    intro hn
    by_cases h : ∃ k, k < n ∧ p k
    · obtain ⟨k, hk, hp⟩ := h
      exact ih k hk hp
    · exact ⟨n, hn, fun k hk hp => h ⟨k, hk, hp⟩⟩
theorem wp_scope_dec {P : Program} {Q : Exit → Act → World → Prop} {a : Act} {w : World} {y : Code} (l : Nat) (J : Nat → Act → World → Prop) (n : Nat) (h0 : J n a w)
    (pass : ∀ n a w, J n a w → y.wp P (Exit.jump l (fun a' w' => ∃ m, m < n ∧ J m a' w') Q) a w) : (Code.scope ((Code.label l).seq y)).wp P Q a w := by
  have hex : ∀ p : Act × World, ∃ n, (∃ k, J k p.1 p.2) → (J n p.1 p.2 ∧ ∀ m, m < n → ¬ J m p.1 p.2) := by
    intro p
    by_cases h : ∃ k, J k p.1 p.2
    · obtain ⟨k, hk⟩ := h
      obtain ⟨m, h1, h2⟩ := least (fun k => J k p.1 p.2) k hk
      exact ⟨m, fun _ => ⟨h1, h2⟩⟩
    · exact ⟨0, fun h' => absurd h' h⟩
  obtain ⟨μ, hμ⟩ := Classical.axiomOfChoice hex
  refine wp_scope_label l (fun a w => ∃ n, J n a w) (fun a w => μ (a, w)) ⟨n, h0⟩ ?_
  intro a w hJ
  obtain ⟨h1, h2⟩ := hμ (a, w) hJ
  refine wp_mono (pass _ a w h1) ?_
  intro e a' w' h
  cases e with
  | goto l' =>
    obtain ⟨he, ⟨m, hm, hJm⟩⟩ := h
    refine ⟨he, ⟨m, hJm⟩, ?_⟩
    obtain ⟨h3, h4⟩ := hμ (a', w') ⟨m, hJm⟩
    have : ¬ m < μ (a', w') := fun hlt => h4 m hlt hJm
    show μ (a', w') < μ (a, w)
    have hm' : m < μ (a, w) := hm
    omega
  | _ => exact h
end Go.Proofs.YtcepknjdiboinaaDoor

namespace Go.Proofs.YtcepknjdiboinaaDoor
open Go.RowKit

/-- What a search for a key answers. -/
def FoundV (w : World) (l : List It) (key : List Int) (e : Ending) (w' : World) : Prop := ∃ (qo : Option Addr) (qn qc : Nat) (b : Bool), e = .returned (.tuple #[.slice qo qn qc, .bool b]) ∧
  (b = true → ∃ x ∈ l, x.k = key ∧ Sl w' qo qn qc x.v) ∧ (b = false → ¬ has key l ∧ qo = none ∧ qn = 0 ∧ qc = 0) ∧ Below w.heap.size w w'

/-- What holds at the label. -/
def FJ (w : World) (l : List It) (key : List Int) (xo : Option Addr) (m xc : Nat) (n : Nat) (a' : Act) (w' : World) : Prop := Below w.heap.size w w' ∧ ∃ (u u6 u7 u8 u9 u10 u11 u12 u13 u14 u15 u16 u17 u18 u19 u20 u21 u22 u23 u24 u25 u26 u27 u28 u29 u30 : Value) (l' : List It),
  a' = { tmps := #[u, .slice xo m xc, undef, undef, .slice none 0 0, .bool false, u6, u7, u8, u9, u10, u11, u12, u13, u14, u15, u16, u17, u18, u19, u20, u21, u22, u23, u24, u25, u26, u27, u28, u29, u30], defers := [] } ∧ T w' u l' ∧ Srt l' ∧ (∀ x ∈ l', x ∈ l) ∧ (has key l → has key l') ∧ l'.length = n ∧ n ≤ 100000

set_option maxHeartbeats 4000000 in
set_option maxRecDepth 100000 in
theorem find_any (w : World) (v : Value) (l : List It) (key : List Int) (xo : Option Addr) (m xc : Nat) (hT : T w v l) (hs : Srt l) (hx : Sl w xo m xc key) (hn : l.length ≤ 100000) :
    Calls Tryd.prog 38 #[v, .slice xo m xc] w (FoundV w l key) := by
  go_enter Tryd.func38, Tryd.ntmps38
  go_wp2
  refine wp_scope_dec 0 (FJ w l key xo m xc) l.length ?_ ?_
  · exact ⟨Below.refl _ _, v, _, _, _, _, _, _, _, _, _, _, _, _, _, _, _, _, _, _, _, _, _, _, _, _, _, l, rfl, hT, hs, fun x hx => hx, fun h => h, rfl, hn⟩
  · rintro n a' w' ⟨hB, u, u6, u7, u8, u9, u10, u11, u12, u13, u14, u15, u16, u17, u18, u19, u20, u21, u22, u23, u24, u25, u26, u27, u28, u29, u30, l', rfl, hT', hs', hsub, hhas, hlen, hn'⟩
    have HN : Hid (l'.length = n) := hlen
    have HH : Hid (has key l → has key l') := hhas
    have HU : Hid (∀ x ∈ l', x ∈ l) := hsub
    have hln : l'.length ≤ 100000 := by omega
    clear hlen hhas hsub hn'
    rcases hT'.is with ⟨rfl, rfl⟩ | ⟨d, segs, xs, rfl, h⟩
    · go_wp2
      simp only [Exit.jump]
      go_ret2
      refine ⟨none, 0, 0, false, rfl, by simp, fun _ => ⟨fun hk => ?_, rfl, rfl, rfl⟩, hB⟩
      obtain ⟨y, hy, -⟩ := HH.out hk
      simp at hy
    · have hm := h.many
      have hnk1 := Nat.le_of_eq h.nk
      have hnk2 := Nat.le_of_eq h.nk.symm
      have hnv1 := Nat.le_of_eq h.nv
      have hnv2 := Nat.le_of_eq h.nv.symm
      have hnc1 := Nat.le_of_eq h.nc
      have hnc2 := Nat.le_of_eq h.nc.symm
      have CP := place_any w' d h.ok xo m xc key (hx.below hB) (h.rise hs') (by omega)
      unfold Nd.ptr at CP ⊢
      go_wp2_with fail
      refine CP.mono ?_
      rintro e w1 ⟨i, b, rfl, hat, B1⟩
      have N1 := h.below B1
      have E1 : Below w.heap.size w w1 := hB.trans (B1.mono hB.size)
      obtain ⟨s, A, B, c, hA, hBB, hB2, hf⟩ := h.found hs' hat
      have hle := c.le
      clear CP
      cases b with
      | true =>
        obtain ⟨hi, he⟩ := hf rfl
        have hv : i < d.vs.length := by omega
        have hvi : (i : Int) < (d.vs.length : Int) := by omega
        have V1 := N1.ok.vl
        have c2 := N1.ok.c2
        obtain ⟨vb, vf, ev, hcell⟩ := V1.vl.at (by omega)
        have c1 := hcell i (by simpa using hv)
        have S1 := V1.sl d.vs[i] (List.getElem_mem hv)
        have hval := h.valAt i hv hi
        simp only [List.getElem_map] at c1
        rw [ev] at c2
        obtain ⟨q, hq⟩ : ∃ q, q = d.vs[i] := ⟨_, rfl⟩
        rw [← hq] at c1 S1 hval
        have HX : Hid (xs[i].k = key) := he
        have HV : Hid (q.xs = xs[i].v) := hval
        unfold Part.val at c1
        clear hq hcell he hval hf hB2 hat
        go_wp2
        simp only [Exit.jump]
        go_ret2
        refine ⟨q.ao, q.n, q.cap, true, rfl, fun _ => ⟨xs[i], HU.out _ (h.shp.key _ (List.getElem_mem hi)), HX.out, by rw [← HV.out]; exact S1⟩, by simp, E1⟩
      | false =>
        have hB3 := hB2 rfl
        obtain ⟨kb, ko, s', u', eco, hs1, hs2, hcell, hTk, hlen⟩ := N1.kidAt i hle
        obtain rfl : s = s' := Option.some.inj (c.seg.symm.trans hs1)
        have hss : Srt s := by
          have h1 := hs'
          rw [c.el] at h1
          exact h1.app.2.1.app.1
        have c3 := N1.ok.c3
        rw [eco] at c3
        have hii : (i : Int) < (d.cs.length : Int) := by omega
        obtain ⟨q, rfl⟩ := hTk.ptr
        have HK : Hid (has key l → has key s) := fun hk => by
          obtain ⟨y, hy, he⟩ := HH.out hk
          rw [c.el] at hy
          rcases List.mem_append.1 hy with hy | hy
          · exact absurd he (cmpL_lt_ne (hA y hy))
          · rcases List.mem_append.1 hy with hy | hy
            · exact ⟨y, hy, he⟩
            · exact absurd he.symm (cmpL_lt_ne (hB3 y hy))
        have HS : Hid (∀ x ∈ s, x ∈ l) := fun y hy => HU.out y (h.shp.seg _ (List.mem_of_getElem? c.seg) y hy)
        have hlN : s.length < n := by have := HN.out; omega
        clear hs1 hs2 hf hB2 hat eco HH HU
        go_wp2
        go_step3
        refine ⟨rfl, s.length, hlN, E1, _, _, _, _, _, _, _, _, _, _, _, _, _, _, _, _, _, _, _, _, _, _, _, _, _, _, s, rfl, hTk, hss, HS.out, HK.out, rfl, by omega⟩
end Go.Proofs.YtcepknjdiboinaaDoor

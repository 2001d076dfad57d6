/-
  Texts in one: ScopeDec, PFind, PTree, PDel, HRegG, TbLay, TbPut, TbGet, Less.
-/
import Derived.Test.YthlpccajnmkbjaaGreatDoorY0
import Derived.Test.YthlpccajnmkbjaaGreatDoorY15
import Derived.Test.YthlpccajnmkbjaaGreatDoorY24
import Derived.Test.YthlpccajnmkbjaaGreatDoorY31
import Derived.Test.YthlpccajnmkbjaaGreatDoorY33
import Derived.Test.YthlpccajnmkbjaaGreatDoorY17
import Derived.Test.YthlpccajnmkbjaaGreatDoorY27
import Derived.Test.YthlpccajnmkbjaaGreatDoorY22
import Derived.Test.YthlpccajnmkbjaaGreatDoorY7
import Derived.Test.YthlpccajnmkbjaaGreatDoorY25
import Derived.Test.YthlpccajnmkbjaaGreatDoorY1
import Derived.Test.YthlpccajnmkbjaaGreatDoorY14
namespace Go.Proofs.YthlpccajnmkbjaaGreatDoor
open Go.RowKit

theorem least (p : Nat → Prop) : ∀ n, p n → ∃ m, p m ∧ ∀ k, k < m → ¬ p k := by
  intro n
  induction n using Nat.strongRecOn with
  | ind n ih =>
    intro hn
    by_cases h : ∃ k, k < n ∧ p k
    · obtain ⟨k, hk, hp⟩ := h
      exact ih k hk hp
    · exact ⟨n, hn, fun k hk hp => h ⟨k, hk, hp⟩⟩
theorem wp_scope_dec {P : Program} {Q : Exit → Act → World → Prop} {a : Act} {w : World} {y : Code} (l : Nat) (J : Nat → Act → World → Prop) (n : Nat) (h0 : J n a w)
    (pass : ∀ n a w, J n a w → y.wp P (Exit.jump l (fun a' w' => ∃ m, m < n ∧ J m a' w') Q) a w) : (Code.scope ((Code.label l).seq y)).wp P Q a w := by
  have hex : ∀ p : Act × World, ∃ n, (∃ k, J k p.1 p.2) → (J n p.1 p.2 ∧ ∀ m, m < n → ¬ J m p.1 p.2) := by
    intro p
    by_cases h : ∃ k, J k p.1 p.2
    · obtain ⟨k, hk⟩ := h
      obtain ⟨m, h1, h2⟩ := least (fun k => J k p.1 p.2) k hk
      exact ⟨m, fun _ => ⟨h1, h2⟩⟩
    · exact ⟨0, fun h' => absurd h' h⟩
  obtain ⟨μ, hμ⟩ := Classical.axiomOfChoice hex
  refine wp_scope_label l (fun a w => ∃ n, J n a w) (fun a w => μ (a, w)) ⟨n, h0⟩ ?_
  intro a w hJ
  obtain ⟨h1, h2⟩ := hμ (a, w) hJ
  refine wp_mono (pass _ a w h1) ?_
  intro e a' w' h
  cases e with
  | goto l' =>
    obtain ⟨he, ⟨m, hm, hJm⟩⟩ := h
    refine ⟨he, ⟨m, hJm⟩, ?_⟩
    obtain ⟨h3, h4⟩ := hμ (a', w') ⟨m, hJm⟩
    have : ¬ m < μ (a', w') := fun hlt => h4 m hlt hJm
    show μ (a', w') < μ (a, w)
    have hm' : m < μ (a, w) := hm
    omega
  | _ => exact h
end Go.Proofs.YthlpccajnmkbjaaGreatDoor

namespace Go.Proofs.YthlpccajnmkbjaaGreatDoor
open Go.RowKit

/-- What a search for a key answers. -/
def FoundV (w : World) (l : List It) (key : List Int) (e : Ending) (w' : World) : Prop := ∃ (qo : Option Addr) (qn qc : Nat) (b : Bool), e = .returned (.tuple #[.slice qo qn qc, .bool b]) ∧
  (b = true → ∃ x ∈ l, x.k = key ∧ Sl w' qo qn qc x.v) ∧ (b = false → ¬ has key l ∧ qo = none ∧ qn = 0 ∧ qc = 0) ∧ Below w.heap.size w w'

/-- What holds at the label. -/
def FJ (w : World) (l : List It) (key : List Int) (xo : Option Addr) (m xc : Nat) (n : Nat) (a' : Act) (w' : World) : Prop := Below w.heap.size w w' ∧ ∃ (u u6 u7 u8 u9 u10 u11 u12 u13 u14 u15 u16 u17 u18 u19 u20 u21 u22 u23 u24 u25 u26 u27 u28 u29 u30 : Value) (l' : List It),
  a' = { tmps := #[u, .slice xo m xc, undef, undef, .slice none 0 0, .bool false, u6, u7, u8, u9, u10, u11, u12, u13, u14, u15, u16, u17, u18, u19, u20, u21, u22, u23, u24, u25, u26, u27, u28, u29, u30], defers := [] } ∧ T w' u l' ∧ Srt l' ∧ (∀ x ∈ l', x ∈ l) ∧ (has key l → has key l') ∧ l'.length = n ∧ n ≤ 100000

set_option maxHeartbeats 4000000 in
set_option maxRecDepth 100000 in
theorem find_any (w : World) (v : Value) (l : List It) (key : List Int) (xo : Option Addr) (m xc : Nat) (hT : T w v l) (hs : Srt l) (hx : Sl w xo m xc key) (hn : l.length ≤ 100000) :
    Calls Tryz.prog 173 #[v, .slice xo m xc] w (FoundV w l key) := by
  go_enter Tryz.func173, Tryz.ntmps173
  go_wp2
  refine wp_scope_dec 0 (FJ w l key xo m xc) l.length ?_ ?_
  · exact ⟨Below.refl _ _, v, _, _, _, _, _, _, _, _, _, _, _, _, _, _, _, _, _, _, _, _, _, _, _, _, _, l, rfl, hT, hs, fun x hx => hx, fun h => h, rfl, hn⟩
  · rintro n a' w' ⟨hB, u, u6, u7, u8, u9, u10, u11, u12, u13, u14, u15, u16, u17, u18, u19, u20, u21, u22, u23, u24, u25, u26, u27, u28, u29, u30, l', rfl, hT', hs', hsub, hhas, hlen, hn'⟩
    have HN : Hid (l'.length = n) := hlen
    have HH : Hid (has key l → has key l') := hhas
    have HU : Hid (∀ x ∈ l', x ∈ l) := hsub
    have hln : l'.length ≤ 100000 := by omega
    clear hlen hhas hsub hn'
    rcases hT'.is with ⟨rfl, rfl⟩ | ⟨d, segs, xs, rfl, h⟩
    · go_wp2
      simp only [Exit.jump]
      go_ret2
      refine ⟨none, 0, 0, false, rfl, by simp, fun _ => ⟨fun hk => ?_, rfl, rfl, rfl⟩, hB⟩
      obtain ⟨y, hy, -⟩ := HH.out hk
      simp at hy
    · have hm := h.many
      have hnk1 := Nat.le_of_eq h.nk
      have hnk2 := Nat.le_of_eq h.nk.symm
      have hnv1 := Nat.le_of_eq h.nv
      have hnv2 := Nat.le_of_eq h.nv.symm
      have hnc1 := Nat.le_of_eq h.nc
      have hnc2 := Nat.le_of_eq h.nc.symm
      have CP := place_any w' d h.ok xo m xc key (hx.below hB) (h.rise hs') (by omega)
      unfold Nd.ptr at CP ⊢
      go_wp2_with fail
      refine CP.mono ?_
      rintro e w1 ⟨i, b, rfl, hat, B1⟩
      have N1 := h.below B1
      have E1 : Below w.heap.size w w1 := hB.trans (B1.mono hB.size)
      obtain ⟨s, A, B, c, hA, hBB, hB2, hf⟩ := h.found hs' hat
      have hle := c.le
      clear CP
      cases b with
      | true =>
        obtain ⟨hi, he⟩ := hf rfl
        have hv : i < d.vs.length := by omega
        have hvi : (i : Int) < (d.vs.length : Int) := by omega
        have V1 := N1.ok.vl
        have c2 := N1.ok.c2
        obtain ⟨vb, vf, ev, hcell⟩ := V1.vl.at (by omega)
        have c1 := hcell i (by simpa using hv)
        have S1 := V1.sl d.vs[i] (List.getElem_mem hv)
        have hval := h.valAt i hv hi
        simp only [List.getElem_map] at c1
        rw [ev] at c2
        obtain ⟨q, hq⟩ : ∃ q, q = d.vs[i] := ⟨_, rfl⟩
        rw [← hq] at c1 S1 hval
        have HX : Hid (xs[i].k = key) := he
        have HV : Hid (q.xs = xs[i].v) := hval
        unfold Part.val at c1
        clear hq hcell he hval hf hB2 hat
        go_wp2
        simp only [Exit.jump]
        go_ret2
        refine ⟨q.ao, q.n, q.cap, true, rfl, fun _ => ⟨xs[i], HU.out _ (h.shp.key _ (List.getElem_mem hi)), HX.out, by rw [← HV.out]; exact S1⟩, by simp, E1⟩
      | false =>
        have hB3 := hB2 rfl
        obtain ⟨kb, ko, s', u', eco, hs1, hs2, hcell, hTk, hlen⟩ := N1.kidAt i hle
        obtain rfl : s = s' := Option.some.inj (c.seg.symm.trans hs1)
        have hss : Srt s := by
          have h1 := hs'
          rw [c.el] at h1
          exact h1.app.2.1.app.1
        have c3 := N1.ok.c3
        rw [eco] at c3
        have hii : (i : Int) < (d.cs.length : Int) := by omega
        obtain ⟨q, rfl⟩ := hTk.ptr
        have HK : Hid (has key l → has key s) := fun hk => by
          obtain ⟨y, hy, he⟩ := HH.out hk
          rw [c.el] at hy
          rcases List.mem_append.1 hy with hy | hy
          · exact absurd he (cmpL_lt_ne (hA y hy))
          · rcases List.mem_append.1 hy with hy | hy
            · exact ⟨y, hy, he⟩
            · exact absurd he.symm (cmpL_lt_ne (hB3 y hy))
        have HS : Hid (∀ x ∈ s, x ∈ l) := fun y hy => HU.out y (h.shp.seg _ (List.mem_of_getElem? c.seg) y hy)
        have hlN : s.length < n := by have := HN.out; omega
        clear hs1 hs2 hf hB2 hat eco HH HU
        go_wp2
        go_step3
        refine ⟨rfl, s.length, hlN, E1, _, _, _, _, _, _, _, _, _, _, _, _, _, _, _, _, _, _, _, _, _, _, _, _, _, _, s, rfl, hTk, hss, HS.out, HK.out, rfl, by omega⟩
end Go.Proofs.YthlpccajnmkbjaaGreatDoor

namespace Go.Proofs.YthlpccajnmkbjaaGreatDoor
open Go.RowKit

/-- What Put answers. -/
def PutPost (w : World) (l : List It) (x : It) (kd : Int) (e : Ending) (w' : World) : Prop := ∃ u, e = .returned (.tuple #[.pointer u, .int .i64 kd]) ∧ (kd = 0 → TT w' (.pointer u) (ins l x)) ∧ (kd ≠ 0 → u = none) ∧ Below w.heap.size w w'

set_option maxHeartbeats 4000000 in
set_option maxRecDepth 100000 in
theorem tput_any (w : World) (v : Value) (l : List It) (x : It) (ko vo : Option Addr) (kn kc vn vc : Nat) (hT : Tabs w) (h : TT w v l) (hs : Srt l) (hk : Sl w ko kn kc x.k) (hv : Sl w vo vn vc x.v) (hkn : kn ≤ 1000000) (hvn : vn ≤ 1000000) (hn : l.length ≤ 50000) (kd : Int)
    (hkd : Hid (jL [⟨⟨ko, kn, kc, x.k⟩, ⟨vo, vn, vc, x.v⟩⟩] 0 = kd)) :
    Calls Tryz.prog 109 #[v, .slice ko kn kc, .slice vo vn vc] w (PutPost w l x kd) := by
  have h2 := hT.two
  obtain ⟨W0, hW0⟩ : ∃ W, W = w.alloc (.cells #[.slice ko kn kc, .slice vo vn vc] 101) := ⟨_, rfl⟩
  have B0 : Below w.heap.size w W0 := by rw [hW0]; exact (Below.refl _ w).alloc (Nat.le_refl _) _
  have I0 : IL W0 (some ⟨w.heap.size, 0, none⟩) 1 1 [⟨⟨ko, kn, kc, x.k⟩, ⟨vo, vn, vc, x.v⟩⟩] := by rw [hW0]; exact IL.one w ⟨⟨ko, kn, kc, x.k⟩, ⟨vo, vn, vc, x.v⟩⟩ ⟨hk, hv⟩ _
  have CJ := judge_any W0 _ 1 1 _ I0 (by omega) (by intro q hq; rw [List.mem_singleton.1 hq]; exact ⟨hkn, hvn⟩)
  rw [hkd.out] at CJ
  obtain ⟨po, rfl⟩ := h.ptr
  go_enter Tryz.func109, Tryz.ntmps109
  go_wp2_with fail
  rw [← hW0]
  clear hW0
  refine CJ.mono ?_
  rintro e w1 ⟨rfl, C1⟩
  have B1 : Below w.heap.size w w1 := B0.trans (C1.mono B0.size)
  clear CJ I0 C1 B0
  by_cases hz : kd = 0
  · have hzb : (kd != 0) = false := by simp [hz]
    have HZ : Hid (kd = 0) := hz
    clear hz
    have CS := shared_at w w1 (.pointer po) l h B1
    go_wp2_with fail
    refine CS.mono ?_
    rintro e w2 ⟨q, rfl, hq, hw2⟩
    obtain rfl := hw2.symm
    clear CS
    have CL := level_any w1 ko kn kc x.k (hT.below B1 h2) (hk.below B1) hkn
    go_wp2_with fail
    refine CL.mono ?_
    rintro e w3 ⟨rfl, C3⟩
    have B3 : Below w.heap.size w w3 := B1.trans (C3.mono B1.size)
    clear CL C3 B1
    have CO := own_any w3 ko kn kc x.k (hk.below B3) hkn
    go_wp2_with fail
    refine CO.mono ?_
    rintro e w4 ⟨xo, xc, rfl, S4, C4⟩
    have B4 : Below w.heap.size w w4 := B3.trans (C4.mono B3.size)
    clear CO C4 B3
    have CO := own_any w4 vo vn vc x.v (hv.below B4) hvn
    go_wp2_with fail
    refine CO.mono ?_
    rintro e w5 ⟨yo, yc, rfl, S5, C5⟩
    have B5 : Below w.heap.size w w5 := B4.trans (C5.mono B4.size)
    have S4 := S4.below C5
    clear CO C5 B4
    have CW := with_any w5 (.pointer q) l x xo yo kn xc vn yc S4 S5 (hq.below B5) hs (by omega)
    go_wp2_with fail
    refine CW.mono ?_
    rintro e w6 ⟨u, rfl, T6, C6⟩
    have B6 : Below w.heap.size w w6 := B5.trans (C6.mono B5.size)
    clear CW C6 B5 S4 S5
    obtain ⟨u6, rfl⟩ := T6.ptr
    have CT := treeOf_any w6 _ _ T6
    go_wp2_with fail
    refine CT.mono ?_
    rintro e w7 ⟨u, rfl, T7, C7⟩
    have B7 : Below w.heap.size w w7 := B6.trans (C7.mono B6.size)
    obtain ⟨u7, rfl⟩ := T7.ptr
    clear CT C7 B6 T6
    go_wp2
    go_ret2
    refine ⟨u7, ?_, fun _ => T7, fun hne => absurd HZ.out hne, B7⟩
    rw [HZ.out]
    rfl
  · have hzb : (kd != 0) = true := by simp [hz]
    have HZ : Hid (¬ kd = 0) := hz
    clear hz
    go_wp2
    go_ret2
    exact ⟨none, rfl, fun hz => absurd hz HZ.out, fun _ => rfl, B1⟩

end Go.Proofs.YthlpccajnmkbjaaGreatDoor

namespace Go.Proofs.YthlpccajnmkbjaaGreatDoor
open Go.RowKit

/-- What Del answers. -/
def DelPost (w : World) (v : Value) (l : List It) (key : List Int) (e : Ending) (w' : World) : Prop := ∃ u b, e = .returned (.tuple #[.pointer u, .bool b]) ∧
  (b = true → has key l ∧ TT w' (.pointer u) (del l key)) ∧ (b = false → ¬ has key l ∧ v = .pointer u) ∧ Below w.heap.size w w'

set_option maxHeartbeats 4000000 in
set_option maxRecDepth 100000 in
theorem tdel_any (w : World) (v : Value) (l : List It) (key : List Int) (ko : Option Addr) (kn kc : Nat) (h : TT w v l) (hs : Srt l) (hk : Sl w ko kn kc key) (hn : l.length ≤ 50000) :
    Calls Tryz.prog 155 #[v, .slice ko kn kc] w (DelPost w v l key) := by
  have CS := shared_at w w v l h (Below.refl _ _)
  obtain ⟨po, rfl⟩ := h.ptr
  go_enter Tryz.func155, Tryz.ntmps155
  go_wp2_with fail
  refine CS.mono ?_
  rintro e w2 ⟨q, rfl, hq, hw2⟩
  obtain rfl := hw2.symm
  have CF := find_any w (.pointer q) l key ko kn kc hq hs hk (by omega)
  clear CS
  go_wp2_with fail
  refine CF.mono ?_
  rintro e w3 ⟨qo, qn, qc, b, rfl, h1, h2, B3⟩
  clear CF
  cases b with
  | true =>
    obtain ⟨x, hx, hxk, S⟩ := h1 rfl
    have hh : has key l := ⟨x, hx, hxk⟩
    clear h1 h2 S hx hxk
    have CS := shared_at w w3 (.pointer po) l h B3
    go_wp2_with fail
    refine CS.mono ?_
    rintro e w4 ⟨q4, rfl, hq4, hw4⟩
    obtain rfl := hw4.symm
    clear CS
    have CW := without_fuel l.length l w3 (.pointer q4) key ko kn kc (Nat.le_refl _) (hk.below B3) (hq4.below B3) hs hh (by omega)
    go_wp2_with fail
    refine CW.mono ?_
    rintro e w6 ⟨u, rfl, T6, C6⟩
    have B6 : Below w.heap.size w w6 := B3.trans (C6.mono B3.size)
    clear CW C6 B3
    obtain ⟨u6, rfl⟩ := T6.ptr
    have CT := treeOf_any w6 _ _ T6
    go_wp2_with fail
    refine CT.mono ?_
    rintro e w7 ⟨u, rfl, T7, C7⟩
    have B7 : Below w.heap.size w w7 := B6.trans (C7.mono B6.size)
    obtain ⟨u7, rfl⟩ := T7.ptr
    clear CT C7 B6 T6
    go_wp2
    go_ret2
    exact ⟨u7, true, rfl, fun _ => ⟨hh, T7⟩, by simp, B7⟩
  | false =>
    obtain ⟨hno, rfl, rfl, rfl⟩ := h2 rfl
    clear h1 h2
    go_wp2
    go_ret2
    exact ⟨po, false, rfl, by simp, fun _ => ⟨hno, rfl⟩, B3⟩
end Go.Proofs.YthlpccajnmkbjaaGreatDoor

namespace Go
open Go.RowKit
/-- Listed, besides. -/
def setL (L : Array Bool) (is : List Nat) : Array Bool := is.foldl (fun L i => L.setIfInBounds i true) L
theorem setL_size (is : List Nat) : ∀ L : Array Bool, (setL L is).size = L.size := by
  induction is with
  | nil => intro L; rfl
  | cons i is ih => intro L; exact (ih _).trans (by simp)
theorem setL_get (is : List Nat) : ∀ (L : Array Bool) (j : Nat), j < L.size → (setL L is).getD j true = (L.getD j true || is.contains j) := by
  induction is with
  | nil => intro L j _; simp [setL]
  | cons i is ih =>
    intro L j hj
    have h := ih (L.setIfInBounds i true) j (by simpa using hj)
    show (setL (L.setIfInBounds i true) is).getD j true = _
    rw [h]
    by_cases hij : i = j
    · subst hij
      have : (L.setIfInBounds i true).getD i true = true := by simp [hj]
      rw [this]
      simp
    · rw [getD_set_ne true hij]
      have : (i :: is).contains j = is.contains j := by
        rw [List.contains_cons, show (j == i) = false by simpa using fun e => hij e.symm, Bool.false_or]
      rw [this]
theorem arr_ext {A B : Array Bool} (hs : A.size = B.size) (h : ∀ j, j < A.size → A.getD j true = B.getD j true) : A = B := by
  refine Array.ext hs fun j h1 h2 => ?_
  have := h j h1
  simpa [h1, h2] using this
/-- What operation i waits for has come up. -/
def depOk (ops : Array Oper) (L : Array Bool) (i : Nat) : Bool := ((ops[i]?).map (·.after.all fun e => !Region.binds .any e || L.getD e.on false)).getD false
theorem depOk_of {ops : Array Oper} {L : Array Bool} {i : Nat} {o : Oper} (ho : ops[i]? = some o) (h : ∀ e ∈ o.after, Region.binds .any e = true → L.getD e.on false = true) : depOk ops L i = true := by
  simp only [depOk, ho, Option.map_some, Option.getD_some]
  refine Array.all_eq_true_iff_forall_mem.2 fun e he => ?_
  by_cases hb : Region.binds .any e = true
  · rw [h e he hb, Bool.or_true]
  · simp [hb]
theorem getD_set_on {L : Array Bool} {i j : Nat} (h : L.getD j false = true) : (L.setIfInBounds i true).getD j false = true := by
  by_cases hij : i = j
  · subst hij
    by_cases hlt : i < L.size
    · simp [hlt]
    · simp [hlt] at h
  · simp only [Array.getD_eq_getD_getElem?] at h ⊢
    rw [Array.getElem?_setIfInBounds_ne hij]
    exact h
theorem depOk_set {ops : Array Oper} {L : Array Bool} {i j : Nat} (h : depOk ops L i = true) : depOk ops (L.setIfInBounds j true) i = true := by
  cases ho : ops[i]? with
  | none => simp [depOk, ho] at h
  | some o =>
    refine depOk_of ho fun e he hb => ?_
    simp only [depOk, ho, Option.map_some, Option.getD_some] at h
    have := Array.all_eq_true_iff_forall_mem.1 h e he
    rw [hb, Bool.not_true, Bool.false_or] at this
    exact getD_set_on this
/-- Whichever of them have come up, as long as some have not: one of them may come up, and no other. -/
def effChk (ops : Array Oper) (all : List Nat) : List Nat → Array Bool → Bool → Bool
  | [], L, sk => !sk || !(all.all fun i => !L.getD i true || depOk ops L i) || (!(Region.ready .any ops L).isEmpty && (Region.ready .any ops L).all fun j => all.contains j)
  | i :: is, L, sk => effChk ops all is (L.setIfInBounds i true) sk && effChk ops all is L true
theorem effChk_spec {ops : Array Oper} {all : List Nat} (c : Nat → Bool) : ∀ (is : List Nat) (L : Array Bool) (sk : Bool), effChk ops all is L sk = true → (sk = true ∨ ∃ i ∈ is, c i = false) → (∀ i ∈ all, (setL L (is.filter c)).getD i true = true → depOk ops (setL L (is.filter c)) i = true) →
    Region.ready .any ops (setL L (is.filter c)) ≠ [] ∧ ∀ j ∈ Region.ready .any ops (setL L (is.filter c)), j ∈ all
  | [], L, sk, h, hs, hcl => by
    rcases hs with rfl | ⟨i, hi, _⟩
    · have hcl' : (all.all fun i => !L.getD i true || depOk ops L i) = true := List.all_eq_true.2 fun i hi => by
        by_cases hL : L.getD i true = true
        · have := hcl i hi hL
          have h2 : depOk ops L i = true := this
          rw [h2, Bool.or_true]
        · have h2 : L.getD i true = false := by simpa using hL
          rw [h2]
          rfl
      simp only [effChk, hcl', Bool.not_true, Bool.false_or, Bool.and_eq_true] at h
      refine ⟨fun e => ?_, fun j hj => ?_⟩
      · have : Region.ready .any ops L = [] := e
        rw [this] at h
        simp at h
      · have := List.all_eq_true.1 h.2 j hj
        simpa using this
    · simp at hi
  | i :: is, L, sk, h, hs, hcl => by
    simp only [effChk, Bool.and_eq_true] at h
    by_cases hc : c i = true
    · rw [List.filter_cons, if_pos hc] at hcl ⊢
      refine effChk_spec c is (L.setIfInBounds i true) sk h.1 ?_ hcl
      rcases hs with hs | ⟨j, hj, hf⟩
      · exact .inl hs
      · rcases List.mem_cons.1 hj with rfl | hj
        · rw [hc] at hf; simp at hf
        · exact .inr ⟨j, hj, hf⟩
    · rw [List.filter_cons, if_neg hc] at hcl ⊢
      exact effChk_spec c is L true h.2 (.inl rfl) hcl
/-- How many have not come up. -/
def unC (c : Nat → Bool) : List Nat → Nat
  | [] => 0
  | i :: is => unC c is + (if c i then 0 else 1)
theorem unC_same {c d : Nat → Bool} : ∀ (is : List Nat), (∀ i ∈ is, c i = d i) → unC c is = unC d is
  | [], _ => rfl
  | i :: is, h => by rw [unC, unC, unC_same is (fun j hj => h j (List.mem_cons_of_mem _ hj)), h i (List.mem_cons_self ..)]
theorem unC_set {c : Nat → Bool} {i : Nat} (hc : c i = false) : ∀ (is : List Nat), is.Nodup → i ∈ is → unC c is = unC (fun j => c j || j == i) is + 1
  | [], _, h => by simp at h
  | j :: is, hn, h => by
    have hn' := List.nodup_cons.1 hn
    rw [unC, unC]
    by_cases hji : j = i
    · subst hji
      have := unC_same (c := c) (d := fun k => c k || k == j) is (fun k hk => by
        have hne : k ≠ j := fun e => hn'.1 (e ▸ hk)
        have : (k == j) = false := by simpa using hne
        simp [this])
      rw [← this, hc]
      simp
    · have hi : i ∈ is := by
        rcases List.mem_cons.1 h with h | h
        · exact absurd h.symm hji
        · exact h
      have ih := unC_set hc is hn'.2 hi
      have : (j == i) = false := by simpa using hji
      rw [ih]
      simp only [this, Bool.or_false]
      omega
theorem unC_zero {c : Nat → Bool} : ∀ (is : List Nat), unC c is = 0 → ∀ i ∈ is, c i = true
  | [], _, i, h => by simp at h
  | j :: is, h0, i, h => by
    rw [unC] at h0
    rcases List.mem_cons.1 h with rfl | h
    · by_cases hc : c i = true
      · exact hc
      · rw [if_neg hc] at h0; omega
    · exact unC_zero is (by omega) i h
theorem unC_none : ∀ (is : List Nat), unC (fun _ => false) is = is.length
  | [] => rfl
  | i :: is => by rw [unC, unC_none is]; simp
/-- The slots of those that came up. -/
def putL (a : Act) (f : Nat → Value) (ids : List (Nat × Nat)) : Act := ids.foldl (fun a p => a.put (some p.2) (f p.1)) a
theorem putL_size (f : Nat → Value) (ids : List (Nat × Nat)) : ∀ a : Act, (putL a f ids).tmps.size = a.tmps.size := by
  induction ids with
  | nil => intro a; rfl
  | cons p ids ih => intro a; exact (ih _).trans (by simp [Act.put])
theorem putL_defers (f : Nat → Value) (ids : List (Nat × Nat)) : ∀ a : Act, (putL a f ids).defers = a.defers := by
  induction ids with
  | nil => intro a; rfl
  | cons p ids ih => intro a; exact (ih _).trans rfl
theorem putL_other (f : Nat → Value) (k : Nat) (ids : List (Nat × Nat)) : ∀ a : Act, (∀ p ∈ ids, p.2 ≠ k) → (putL a f ids).tmps[k]? = a.tmps[k]? := by
  induction ids with
  | nil => intro a _; rfl
  | cons p ids ih =>
    intro a h
    have h1 := ih (a.put (some p.2) (f p.1)) (fun q hq => h q (List.mem_cons_of_mem _ hq))
    refine h1.trans ?_
    have hne := h p (List.mem_cons_self ..)
    simp [Act.put, Array.getElem?_setIfInBounds_ne hne]
theorem putL_at (f : Nat → Value) : ∀ (ids : List (Nat × Nat)) (a : Act), (ids.map (·.2)).Nodup → ∀ p ∈ ids, p.2 < a.tmps.size → (putL a f ids).tmps[p.2]? = some (f p.1)
  | [], a, _, p, h, _ => by simp at h
  | q :: ids, a, hn, p, h, hlt => by
    have hn' := List.nodup_cons.1 hn
    rcases List.mem_cons.1 h with rfl | h
    · have h1 := putL_other f p.2 ids (a.put (some p.2) (f p.1)) (fun q hq e => hn'.1 (List.mem_map.2 ⟨q, hq, e⟩))
      refine h1.trans ?_
      simp [Act.put, hlt]
    · exact putL_at f ids (a.put (some q.2) (f q.1)) hn'.2 p h (by simpa [Act.put] using hlt)
/-- The test of the whole. -/
def effTo (ops : Array Oper) (L0 : Array Bool) (ids : List (Nat × Nat)) (n : Nat) : Bool :=
  ids.all (fun p => decide (p.2 < n) && !L0.getD p.1 true && (match ops[p.1]? with | some o => o.dst == some p.2 && o.guard.isNone | none => false)) &&
  effChk ops (ids.map (·.1)) (ids.map (·.1)) L0 false && decide (L0.size = ops.size)
/-- What has come up of what an operation waits for. -/
def EffGot (ids : List (Nat × Nat)) (F : Nat → Value → World → Prop) (a : Act) (w : World) (j : Nat) : Prop := ∀ p ∈ ids, p.1 = j → ∃ v, a.tmps[p.2]? = some v ∧ F j v w
structure EffKeep (ids : List (Nat × Nat)) (a0 a : Act) : Prop where
  defers : a.defers = a0.defers
  size : a.tmps.size = a0.tmps.size
  same : ∀ k, (∀ p ∈ ids, p.2 ≠ k) → a.tmps[k]? = a0.tmps[k]?
theorem EffKeep.get {ids : List (Nat × Nat)} {a0 a : Act} (h : EffKeep ids a0 a) (k : Nat) {v : Value} (hk : ids.all (fun p => p.2 != k) = true) (h0 : a0.tmps[k]? = some v) : a.tmps[k]? = some v := by
  rw [h.same k (fun p hp => by simpa using List.all_eq_true.1 hk p hp)]
  exact h0
theorem EffGot.at {ids : List (Nat × Nat)} {F : Nat → Value → World → Prop} {a : Act} {w : World} {j : Nat} (h : EffGot ids F a w j) (d : Nat) (hd : ids.contains (j, d) = true) : ∃ v, a.tmps[d]? = some v ∧ F j v w :=
  h (j, d) (by simpa using hd) rfl

theorem wpAnyH_effto {P : Program} {ops : Array Oper} {S : World → Prop} {Q : Exit → Act → World → Prop} {a0 : Act} {W0 : World} {L0 : Array Bool} (m : Nat) (F : Nat → Value → World → Prop) (ids : List (Nat × Nat)) (n : Nat)
    (hok : effTo ops L0 ids n = true) (hn1 : (ids.map (·.1)).Nodup) (hn2 : (ids.map (·.2)).Nodup) (hn : n = a0.tmps.size)
    (mono : ∀ i v w w', F i v w → Below w.heap.size w w' → F i v w')
    (hS : ∀ w, Below W0.heap.size W0 w → S w)
    (step : ∀ p ∈ ids, ∀ o a w, ops[p.1]? = some o → EffKeep ids a0 a → Below W0.heap.size W0 w → (∀ j, o.after.any (fun e => Region.binds .any e && e.on == j) = true → EffGot ids F a w j) → EffRun P o a w (fun v w' => F p.1 v w' ∧ Below w.heap.size w w'))
    (fin : ∀ (f : Nat → Value) w, Below W0.heap.size W0 w → (∀ p ∈ ids, F p.1 (f p.1) w) → wpAnyH P .any ops (NoPanic Q) S m (setL L0 (ids.map (·.1))) (putL a0 f ids) w) :
    wpAnyH P .any ops (NoPanic Q) S (ids.length + m) L0 a0 W0 := by
  simp only [effTo, Bool.and_eq_true, decide_eq_true_eq] at hok
  obtain ⟨⟨hok1, hok2⟩, hLs⟩ := hok
  have hat : ∀ p ∈ ids, p.2 < a0.tmps.size ∧ L0.getD p.1 true = false ∧ ∃ o, ops[p.1]? = some o ∧ o.dst = some p.2 ∧ o.guard = none := fun p hp => by
    have h := List.all_eq_true.1 hok1 p hp
    simp only [Bool.and_eq_true, decide_eq_true_eq, Bool.not_eq_true'] at h
    obtain ⟨⟨h1, h2⟩, h3⟩ := h
    refine ⟨hn ▸ h1, h2, ?_⟩
    cases ho : ops[p.1]? with
    | none => rw [ho] at h3; simp at h3
    | some o =>
      rw [ho] at h3
      simp only [Bool.and_eq_true, beq_iff_eq] at h3
      exact ⟨o, rfl, h3.1, Option.isNone_iff_eq_none.1 h3.2⟩
  have main : ∀ (k : Nat) (c : Nat → Bool) (a : Act) (w : World), unC c (ids.map (·.1)) = k → EffKeep ids a0 a → Below W0.heap.size W0 w → (∀ p ∈ ids, c p.1 = true → ∃ v, a.tmps[p.2]? = some v ∧ F p.1 v w) →
      (∀ i ∈ ids.map (·.1), (setL L0 ((ids.map (·.1)).filter c)).getD i true = true → depOk ops (setL L0 ((ids.map (·.1)).filter c)) i = true) →
      wpAnyH P .any ops (NoPanic Q) S (k + m) (setL L0 ((ids.map (·.1)).filter c)) a w := by
    intro k
    induction k with
    | zero =>
      intro c a w hu hs hb hh _
      have hz := unC_zero _ hu
      have hall : ∀ p ∈ ids, ∃ v, a.tmps[p.2]? = some v ∧ F p.1 v w := fun p hp => hh p hp (hz p.1 (List.mem_map_of_mem hp))
      have hLeq : setL L0 ((ids.map (·.1)).filter c) = setL L0 (ids.map (·.1)) := by rw [List.filter_eq_self.2 hz]
      obtain ⟨f, hf⟩ : ∃ f : Nat → Value, ∀ p ∈ ids, a.tmps[p.2]? = some (f p.1) ∧ F p.1 (f p.1) w := by
        have hch : ∀ j, ∃ v, ∀ p ∈ ids, p.1 = j → a.tmps[p.2]? = some v ∧ F p.1 v w := fun j => by
          by_cases hj : ∃ p ∈ ids, p.1 = j
          · obtain ⟨p, hp, rfl⟩ := hj
            obtain ⟨v, h1, h2⟩ := hall p hp
            refine ⟨v, fun q hq e => ?_⟩
            obtain ⟨-, -, o, ho, hd, -⟩ := hat p hp
            obtain ⟨-, -, o', ho', hd', -⟩ := hat q hq
            rw [e, ho] at ho'
            obtain rfl := Option.some.inj ho'
            have : p.2 = q.2 := Option.some.inj (hd.symm.trans hd')
            rw [← this, e]
            exact ⟨h1, h2⟩
          · exact ⟨undef, fun q hq e => absurd ⟨q, hq, e⟩ hj⟩
        exact ⟨fun j => Classical.choose (hch j), fun p hp => Classical.choose_spec (hch p.1) p hp rfl⟩
      have ha : a = putL a0 f ids := by
        have ht : a.tmps = (putL a0 f ids).tmps := by
          refine Array.ext (by rw [putL_size]; exact hs.size) fun j h1 h2 => ?_
          have : a.tmps[j]? = (putL a0 f ids).tmps[j]? := by
            by_cases hj : ∃ p ∈ ids, p.2 = j
            · obtain ⟨p, hp, rfl⟩ := hj
              rw [(hf p hp).1, putL_at f ids a0 hn2 p hp (hat p hp).1]
            · have hj' : ∀ p ∈ ids, p.2 ≠ j := fun p hp e => hj ⟨p, hp, e⟩
              rw [hs.same j hj', putL_other f j ids a0 hj']
          simpa [h1, h2] using this
        have hd : a.defers = (putL a0 f ids).defers := by rw [putL_defers]; exact hs.defers
        cases a
        cases hp : putL a0 f ids
        rw [hp] at ht hd
        simp only at ht hd
        rw [ht, hd]
      rw [hLeq, ha, Nat.zero_add]
      exact fin f w hb (fun p hp => (hf p hp).2)
    | succ k ih =>
      intro c a w hu hs hb hh hcl
      have hex : ∃ i ∈ ids.map (·.1), c i = false := by
        by_cases h : ∃ i ∈ ids.map (·.1), c i = false
        · exact h
        · exfalso
          have hz : ∀ i ∈ ids.map (·.1), c i = true := fun i hi => by
            by_cases hc : c i = true
            · exact hc
            · exact absurd ⟨i, hi, by simpa using hc⟩ h
          have : unC c (ids.map (·.1)) = unC (fun _ => true) (ids.map (·.1)) := unC_same _ (fun i hi => hz i hi)
          have h0 : ∀ l : List Nat, unC (fun _ => true) l = 0 := fun l => by
            induction l with
            | nil => rfl
            | cons x l ih => rw [unC, ih]; rfl
          rw [hu, h0] at this
          omega
      obtain ⟨hne, hsub⟩ := effChk_spec (ops := ops) (all := ids.map (·.1)) c (ids.map (·.1)) L0 false hok2 (.inr hex) hcl
      have hsz : (setL L0 ((ids.map (·.1)).filter c)).size = ops.size := by rw [setL_size]; exact hLs
      rw [show k + 1 + m = (k + m) + 1 by omega]
      refine ⟨fun h => absurd h hne, fun i hi => ?_⟩
      obtain ⟨p, hp, rfl⟩ := List.mem_map.1 (hsub i hi)
      obtain ⟨h1, o, ho, hdep⟩ := mem_ready.1 hi
      obtain ⟨hdl, hL0, o', ho', hdo, hg⟩ := hat p hp
      rw [ho] at ho'
      obtain rfl := Option.some.inj ho'
      have hlt := (Array.getElem?_eq_some_iff.1 ho).1
      have hci : c p.1 = false := by
        by_cases hc : c p.1 = true
        · exfalso
          rw [setL_get _ _ _ (by omega)] at h1
          have : ((ids.map (·.1)).filter c).contains p.1 = true := by
            simpa using ⟨⟨p.2, hp⟩, hc⟩
          rw [this] at h1
          simp at h1
        · simpa using hc
      have hw : Region.wanted o (yielded ops a.tmps) = true := by simp [Region.wanted, hg]
      have hrun := step p hp o a w ho hs hb (fun j hj q hq hqj => by
        obtain ⟨e, hem, hbj⟩ := Array.any_eq_true'.1 hj
        simp only [Bool.and_eq_true, beq_iff_eq] at hbj
        obtain ⟨hbi, rfl⟩ := hbj
        have h2 := hdep e hem hbi
        obtain ⟨-, hq0, oq, hoq, -⟩ := hat q hq
        have hqlt := (Array.getElem?_eq_some_iff.1 hoq).1
        have h4 : (setL L0 ((ids.map (·.1)).filter c)).getD q.1 true = true := by
          rw [hqj]
          have : e.on < (setL L0 ((ids.map (·.1)).filter c)).size := by rw [hsz, ← hqj]; exact hqlt
          simpa [this] using h2
        rw [setL_get _ _ _ (by omega), hq0, Bool.false_or] at h4
        have h5 : c q.1 = true := by
          have h6 : q.1 ∈ (ids.map (·.1)).filter c := by simpa using h4
          exact (List.mem_filter.1 h6).2
        have := hh q hq h5
        rw [hqj] at this
        exact this)
      have next : ∀ v w', F p.1 v w' ∧ Below w.heap.size w w' → S w' ∧ wpAnyH P .any ops (NoPanic Q) S (k + m) ((setL L0 ((ids.map (·.1)).filter c)).setIfInBounds p.1 true) (a.put (some p.2) v) w' := by
        rintro v w' ⟨hF, hb'⟩
        have hbw := hb.trans (hb'.mono hb.size)
        have htm : (a.put (some p.2) v).tmps = a.tmps.setIfInBounds p.2 v := rfl
        refine ⟨hS w' hbw, ?_⟩
        have hLq : (setL L0 ((ids.map (·.1)).filter c)).setIfInBounds p.1 true = setL L0 ((ids.map (·.1)).filter fun j => c j || j == p.1) := by
          refine arr_ext (by simp [setL_size]) fun j hj => ?_
          have hj' : j < L0.size := by simpa [setL_size] using hj
          rw [setL_get _ _ _ hj']
          by_cases hji : p.1 = j
          · subst hji
            have h7 : ((setL L0 ((ids.map (·.1)).filter c)).setIfInBounds p.1 true).getD p.1 true = true := by
              have : p.1 < (setL L0 ((ids.map (·.1)).filter c)).size := by rw [setL_size]; exact hj'
              simp [this]
            have h8 : ((ids.map (·.1)).filter fun j => c j || j == p.1).contains p.1 = true := by
              rw [List.contains_iff_mem]
              exact List.mem_filter.2 ⟨List.mem_map_of_mem hp, by simp⟩
            rw [h7, h8]
            simp
          · rw [getD_set_ne true hji, setL_get _ _ _ hj']
            congr 1
            have hbe : (j == p.1) = false := by simpa using fun e => hji e.symm
            rw [Bool.eq_iff_iff, List.contains_iff_mem, List.contains_iff_mem, List.mem_filter, List.mem_filter, hbe, Bool.or_false]
        rw [hLq]
        refine ih _ _ _ ?_ ⟨hs.defers, by rw [htm, Array.size_setIfInBounds]; exact hs.size, fun q hq => ?_⟩ hbw (fun q hq hcq => ?_) ?_
        · have := unC_set hci (ids.map (·.1)) hn1 (List.mem_map_of_mem hp)
          omega
        · rw [htm, Array.getElem?_setIfInBounds_ne (hq p hp)]
          exact hs.same q hq
        · by_cases hqp : q.1 = p.1
          · have h9 : q.2 = p.2 := by
              obtain ⟨-, -, oq, hoq, hdq, -⟩ := hat q hq
              rw [hqp, ho] at hoq
              obtain rfl := Option.some.inj hoq
              exact Option.some.inj (hdq.symm.trans hdo)
            rw [hqp, h9]
            refine ⟨v, ?_, hF⟩
            rw [htm, Array.getElem?_setIfInBounds_self_of_lt (by rw [hs.size]; exact hdl)]
          · have hbe : (q.1 == p.1) = false := by simpa using hqp
            have hcq' : c q.1 = true := by simpa [hbe] using hcq
            obtain ⟨v', h1', h2'⟩ := hh q hq hcq'
            refine ⟨v', ?_, mono _ _ _ _ h2' hb'⟩
            have hne : p.2 ≠ q.2 := fun e => hqp (by
              have hinj : ∀ (l : List (Nat × Nat)), (l.map (·.2)).Nodup → ∀ x ∈ l, ∀ y ∈ l, x.2 = y.2 → x = y := by
                intro l
                induction l with
                | nil => intro _ x hx; simp at hx
                | cons z l ihl =>
                  intro hnd x hx y hy exy
                  have hnd' := List.nodup_cons.1 hnd
                  rcases List.mem_cons.1 hx with rfl | hxl
                  · rcases List.mem_cons.1 hy with rfl | hyl
                    · rfl
                    · exact absurd (List.mem_map.2 ⟨y, hyl, exy.symm⟩) hnd'.1
                  · rcases List.mem_cons.1 hy with rfl | hyl
                    · exact absurd (List.mem_map.2 ⟨x, hxl, exy⟩) hnd'.1
                    · exact ihl hnd'.2 x hxl y hyl exy
              rw [hinj ids hn2 q hq p hp e.symm])
            rw [htm, Array.getElem?_setIfInBounds_ne hne]
            exact h1'
        · rw [← hLq]
          intro i hi hiL
          by_cases hip : p.1 = i
          · subst hip
            exact depOk_set (depOk_of ho hdep)
          · rw [getD_set_ne true hip] at hiL
            exact depOk_set (hcl i hi hiL)
      rcases hrun with ⟨v, w', hr, hR⟩ | ⟨f, args, hr, hc⟩
      · unfold wpOp
        simp only [ho, hw, if_true, Oper.wp, hr, Oper.upon, hdo]
        exact .inl (next v w' hR)
      · unfold wpOp
        simp only [ho, hw, if_true, Oper.wp, hr, Oper.upon, hdo]
        refine .inl (hc.mono ?_)
        rintro e w' ⟨v, rfl, hR⟩
        exact next v w' hR
  have h := main (ids.length) (fun _ => false) a0 W0 (by rw [unC_none]; simp) ⟨rfl, rfl, fun _ _ => rfl⟩ (Below.refl _ _) (fun p hp h => by simp at h) (fun i hi hL => by
    exfalso
    obtain ⟨p, hp, rfl⟩ := List.mem_map.1 hi
    rw [List.filter_eq_nil_iff.2 (by simp)] at hL
    have := (hat p hp).2.1
    have h2 : L0.getD p.1 true = true := hL
    rw [this] at h2
    simp at h2)
  have he : setL L0 ((ids.map (·.1)).filter fun _ => false) = L0 := by
    rw [List.filter_eq_nil_iff.2 (by simp)]
    rfl
  rw [he] at h
  exact h
end Go

namespace Go.Proofs.YthlpccajnmkbjaaGreatDoor
open Go.RowKit

theorem itK_right (c : CA) (hr : c.key.isRight = true) : itK c = (itm c.c).k := by unfold itK; rw [hr]; rfl
theorem good_right (c : CA) (h : c.c.good) : c.key.isRight = true := by
  rw [KA.isRight_kv]
  exact decide_eq_true h.right
theorem jL_good (c : CA) (k v : Part) (hk : k.n = (itm c.c).k.length) (hv : v.n = (itm c.c).v.length) (h : c.c.good) : jL [⟨k, v⟩] 0 = 0 := by
  have h1 := keyL_le h.right
  have h2 := keyL_len c.c.kv
  have h3 := itV_len c.c
  have h4 := h.val
  have e1 : k.n = (keyL c.c.kv).length := hk
  have e2 : v.n = (itV c.c).length := hv
  have b1 : badK k.n = false := decide_eq_false (by omega)
  have b2 : ¬ 1024 < v.n := by omega
  simp only [jL, b1, b2, if_false, Bool.false_eq_true]
/-- What a write on the tablet leaves. -/
def WrPost (w : World) (p : Nat) (f t : ByteArray) (cs : List CV) (e : Ending) (w' : World) : Prop := e = .returned (.tuple #[]) ∧ TB w' p f t cs ∧ Wr p w w'

set_option maxHeartbeats 2000000 in
set_option maxRecDepth 100000 in
theorem lay_any (w : World) (p : Nat) (f t : ByteArray) (cs : List CV) (c : CA) (hTb : Tabs w) (hT : TB w p f t cs) (hs : CSrt cs) (hn : cs.length ≤ 1000) (hok : c.ok w) (hgd : c.c.good) (hcn : c.va.n ≤ 100000) :
    Calls Tryz.prog 60 #[.pointer (some ⟨p, 0, none⟩), c.val] w (WrPost w p f t (cIns cs c.c)) := by
  have h2 := hTb.two
  obtain ⟨W1, hW1⟩ : ∃ V, V = w.alloc (.cells #[.string c.row, .string c.fam, .string c.qual, .int .u64 c.time, .slice c.va.ao c.va.n c.va.cap, .bool c.gone] 69) := ⟨_, rfl⟩
  have C1 : Below w.heap.size w W1 := by rw [hW1]; exact (Below.refl _ _).alloc (Nat.le_refl _) _
  have CI := titem_any W1 c (hok.below C1) hcn
  unfold CA.val at CI ⊢
  go_enter Tryz.func60, Tryz.ntmps60
  go_wp2_with fail
  rw [← hW1]
  refine CI.mono ?_
  rintro e w2 ⟨ko, kn, kc, vo, vn, vc, rfl, SK, SV, C2⟩
  rw [itK_right c (good_right c hgd)] at SK
  have B2 := C1.trans (C2.mono C1.size)
  clear CI hW1
  obtain ⟨W3, hW3⟩ : ∃ V, V = w2.alloc (.cells #[.slice ko kn kc, .slice vo vn vc] 101) := ⟨_, rfl⟩
  have C3 : Below w2.heap.size w2 W3 := by rw [hW3]; exact (Below.refl _ _).alloc (Nat.le_refl _) _
  have X3 : Arr W3 w2.heap.size 101 [.slice ko kn kc, .slice vo vn vc] := by rw [hW3]; exact heap_alloc_new w2 _
  have B3 := B2.trans (C3.mono B2.size)
  obtain ⟨u, A3, T3⟩ := hT.below B3
  have t2 : W3.cell? ⟨p, 2, none⟩ = some (.pointer u) := Arr.cell A3 2
  have x0 : W3.cell? ⟨w2.heap.size, 0, none⟩ = some (.slice ko kn kc) := X3.cell 0
  have x1 : W3.cell? ⟨w2.heap.size, 1, none⟩ = some (.slice vo vn vc) := X3.cell 1
  have kl : Hid (kn = (itm c.c).k.length) := SK.len.symm
  have vl : Hid (vn = (itm c.c).v.length) := SV.len.symm
  have k1 := keyL_le hgd.right
  have v1 := itV_len c.c
  have v2 := hgd.val
  have k2 : kn ≤ 256 := by rw [kl.out]; exact k1
  have v3 : vn ≤ 257 := by rw [vl.out]; show (itV c.c).length ≤ _; omega
  have CP : Hid (∀ V, Below W3.heap.size W3 V → Calls Tryz.prog 109 #[.pointer u, .slice ko kn kc, .slice vo vn vc] V fun e w' => ∃ un, e = .returned (.tuple #[.pointer un, .int .i64 0]) ∧ TT w' (.pointer un) ((cIns cs c.c).map itm) ∧ Below V.heap.size V w') := fun V hV => by
    have BV := B3.trans (hV.mono B3.size)
    refine (tput_any V (.pointer u) (cs.map itm) (itm c.c) ko vo kn kc vn vc (hTb.below BV h2) (T3.below hV) hs ((SK.below C3).below hV) ((SV.below C3).below hV) (by omega) (by omega) (by rw [List.length_map]; omega) 0 (jL_good c ⟨ko, kn, kc, (itm c.c).k⟩ ⟨vo, vn, vc, (itm c.c).v⟩ kl.out vl.out hgd)).mono ?_
    rintro e w' ⟨un, rfl, h1, -, h3⟩
    have h4 := h1 rfl
    rw [ins_itm] at h4
    exact ⟨un, rfl, h4, h3⟩
  go_wp2_with fail
  rw [← hW3]
  clear hW3 X3 SK SV C2 C3 kl vl k1 v1 v2
  have zE0 : Below W3.heap.size W3 W3.drew := (Below.refl _ _).drew
  refine wp_region_noPanic ?_
  refine wp_region_held_drew (S := fun _ => True) (by kernel_rfl) trivial (fun _ => ?_)
  obtain ⟨zv0, hv0⟩ : ∃ v, v = W3.drew := ⟨_, rfl⟩
  rw [← hv0] at zE0 ⊢
  clear hv0
  refine hr_take_w 0 (some 8) (.pointer (some ⟨p, 0, none⟩)) rfl rfl (by kernel_rfl) (by kernel_rfl) (by kernel_rfl) rfl (fun W hW => by go_simp) trivial ?_
  simp only [Act.put, List.setIfInBounds_toArray, List.set_cons_zero, List.set_cons_succ]
  refine hr_take_w 1 (some 9) (.pointer (some ⟨p, 0, none⟩)) rfl rfl (by kernel_rfl) (by kernel_rfl) (by kernel_rfl) rfl (fun W hW => by go_simp) trivial ?_
  simp only [Act.put, List.setIfInBounds_toArray, List.set_cons_zero, List.set_cons_succ]
  refine hr_take_w 2 (some 10) (.pointer (some ⟨p, 0, none⟩)) rfl rfl (by kernel_rfl) (by kernel_rfl) (by kernel_rfl) rfl (fun W hW => by go_simp) trivial ?_
  simp only [Act.put, List.setIfInBounds_toArray, List.set_cons_zero, List.set_cons_succ]
  refine hr_take_w 3 (some 11) (.pointer (some ⟨p, 2, none⟩)) rfl rfl (by kernel_rfl) (by kernel_rfl) (by kernel_rfl) rfl (fun W hW => by go_simp) trivial ?_
  simp only [Act.put, List.setIfInBounds_toArray, List.set_cons_zero, List.set_cons_succ]
  refine hr_take_w 5 (some 13) (.pointer (some ⟨w2.heap.size, 0, none⟩)) rfl rfl (by kernel_rfl) (by kernel_rfl) (by kernel_rfl) rfl (fun W hW => by go_simp) trivial ?_
  simp only [Act.put, List.setIfInBounds_toArray, List.set_cons_zero, List.set_cons_succ]
  refine hr_take_w 7 (some 15) (.pointer (some ⟨w2.heap.size, 1, none⟩)) rfl rfl (by kernel_rfl) (by kernel_rfl) (by kernel_rfl) rfl (fun W hW => by go_simp) trivial ?_
  simp only [Act.put, List.setIfInBounds_toArray, List.set_cons_zero, List.set_cons_succ]
  refine wpAnyH_effto 6 (fun zi zv zw => (zi = 4 → zv = .pointer u) ∧ (zi = 6 → zv = .slice ko kn kc) ∧ (zi = 8 → zv = .slice vo vn vc) ∧ (zi = 9 → ∃ un, zv = .tuple #[.pointer un, .int .i64 0] ∧ TT zw (.pointer un) ((cIns cs c.c).map itm))) [(4, 12), (6, 14), (8, 16), (9, 17)] 22 (by kernel_rfl) (by decide) (by decide) rfl ?_ (fun _ _ => trivial) ?_ ?_
  · intro zi v w w' h hb
    refine ⟨fun e => ?_, fun e => ?_, fun e => ?_, fun e => ?_⟩
    · have h := h.1 e
      exact h
    · have h := h.2.1 e
      exact h
    · have h := h.2.2.1 e
      exact h
    · have h := h.2.2.2 e
      obtain ⟨un, h1, h2⟩ := h
      exact ⟨un, h1, h2.below hb⟩
  · intro zp zhi o a w ho hs hb hdep
    have zEB := zE0.trans (hb.mono zE0.size)
    simp only [List.mem_cons, List.not_mem_nil, or_false] at zhi
    rcases zhi with rfl | rfl | rfl | rfl
    · obtain rfl : _ = o := Option.some.inj (show some _ = some o from ho)
      have t11 : a.tmps[11]? = some (.pointer (some ⟨p, 2, none⟩)) := hs.get 11 (by kernel_rfl) rfl
      have lc := (zEB.cell (World.block_lt_of_cell? _ _ t2)).trans t2
      exact .inl ⟨.pointer u, w, by go_simp, ⟨fun _ => rfl, fun e => absurd e (by decide), fun e => absurd e (by decide), fun e => absurd e (by decide)⟩, Below.refl _ _⟩
    · obtain rfl : _ = o := Option.some.inj (show some _ = some o from ho)
      have t13 : a.tmps[13]? = some (.pointer (some ⟨w2.heap.size, 0, none⟩)) := hs.get 13 (by kernel_rfl) rfl
      have lc := (zEB.cell (World.block_lt_of_cell? _ _ x0)).trans x0
      exact .inl ⟨.slice ko kn kc, w, by go_simp, ⟨fun e => absurd e (by decide), fun _ => rfl, fun e => absurd e (by decide), fun e => absurd e (by decide)⟩, Below.refl _ _⟩
    · obtain rfl : _ = o := Option.some.inj (show some _ = some o from ho)
      have t15 : a.tmps[15]? = some (.pointer (some ⟨w2.heap.size, 1, none⟩)) := hs.get 15 (by kernel_rfl) rfl
      have lc := (zEB.cell (World.block_lt_of_cell? _ _ x1)).trans x1
      exact .inl ⟨.slice vo vn vc, w, by go_simp, ⟨fun e => absurd e (by decide), fun e => absurd e (by decide), fun _ => rfl, fun e => absurd e (by decide)⟩, Below.refl _ _⟩
    · obtain rfl : _ = o := Option.some.inj (show some _ = some o from ho)
      obtain ⟨x12, t12, f12⟩ := (hdep 4 (by kernel_rfl)).at 12 (by kernel_rfl)
      replace f12 := f12.1 rfl
      obtain ⟨x14, t14, f14⟩ := (hdep 6 (by kernel_rfl)).at 14 (by kernel_rfl)
      replace f14 := f14.2.1 rfl
      obtain ⟨x16, t16, f16⟩ := (hdep 8 (by kernel_rfl)).at 16 (by kernel_rfl)
      replace f16 := f16.2.2.1 rfl
      subst f12 f14 f16
      refine .inr ⟨109, #[.pointer u, .slice ko kn kc, .slice vo vn vc], by go_simp, (CP.out w zEB).mono ?_⟩
      rintro e w' ⟨un, rfl, T1, C⟩
      exact ⟨_, rfl, ⟨fun e => absurd e (by decide), fun e => absurd e (by decide), fun e => absurd e (by decide), fun _ => ⟨un, rfl, T1⟩⟩, C⟩
  intro zf zv1 hb hh
  have zE1 := zE0.trans (hb.mono zE0.size)
  obtain e4 := (hh (4, 12) (by simp)).1 rfl
  obtain e6 := (hh (6, 14) (by simp)).2.1 rfl
  obtain e8 := (hh (8, 16) (by simp)).2.2.1 rfl
  obtain ⟨un, e9, T4⟩ := (hh (9, 17) (by simp)).2.2.2 rfl
  clear hh hb
  simp only [putL, List.foldl_cons, List.foldl_nil, e4, e6, e8, e9]
  clear e4 e6 e8 e9
  simp only [Act.put, List.setIfInBounds_toArray, List.set_cons_zero, List.set_cons_succ]
  have A4 := arr_below A3 zE1
  have f2 := Arr.free A4 2
  have t2' : zv1.cell? ⟨p, 2, none⟩ = some (.pointer u) := Arr.cell A4 2
  refine hr_take_w 10 (some 7) (.tuple #[.pointer un, .int .i64 0]) rfl rfl (by kernel_rfl) (by kernel_rfl) (by kernel_rfl) rfl (fun W hW => by go_simp) trivial ?_
  simp only [Act.put, List.setIfInBounds_toArray, List.set_cons_zero, List.set_cons_succ]
  refine hr_take_w 11 (some 18) (.pointer un) rfl rfl (by kernel_rfl) (by kernel_rfl) (by kernel_rfl) rfl (fun W hW => by go_simp) trivial ?_
  simp only [Act.put, List.setIfInBounds_toArray, List.set_cons_zero, List.set_cons_succ]
  refine hr_take_w 12 (some 19) (.int .i64 0) rfl rfl (by kernel_rfl) (by kernel_rfl) (by kernel_rfl) rfl (fun W hW => by go_simp) trivial ?_
  simp only [Act.put, List.setIfInBounds_toArray, List.set_cons_zero, List.set_cons_succ]
  refine hr_take_w 13 (some 20) (.pointer (some ⟨p, 0, none⟩)) rfl rfl (by kernel_rfl) (by kernel_rfl) (by kernel_rfl) rfl (fun W hW => by go_simp) trivial ?_
  simp only [Act.put, List.setIfInBounds_toArray, List.set_cons_zero, List.set_cons_succ]
  refine hr_take_w 14 (some 21) (.pointer (some ⟨p, 2, none⟩)) rfl rfl (by kernel_rfl) (by kernel_rfl) (by kernel_rfl) rfl (fun W hW => by go_simp) trivial ?_
  simp only [Act.put, List.setIfInBounds_toArray, List.set_cons_zero, List.set_cons_succ]
  refine hr_skip 15 none (w' := zv1.setCell ⟨p, 2, none⟩ (.pointer un)) rfl rfl (by kernel_rfl) rfl (by go_simp) trivial ?_
  simp only [Act.put]
  refine wpAnyH_done (by kernel_rfl) ?_ _
  refine NoPanic.normal ?_
  go_wp2
  have KW : Wr p zv1 (zv1.setCell ⟨p, 2, none⟩ (.pointer un)) := (Wr.refl _ _).set 2 _
  exact bodyPost_ret (v := .tuple #[]) (by simp [results, Tryz.results60, go_sem]) rfl ⟨rfl, ⟨un, Arr.set A4 2 (.pointer un), T4.tb A4 KW⟩, (Wr.of (B3.trans (zE1.mono B3.size))).trans KW⟩

set_option maxHeartbeats 2000000 in
set_option maxRecDepth 100000 in
theorem take_any (wI : World) (p : Nat) (f t : ByteArray) (cs : List CV) (c : CA) (hT : TB wI p f t cs) (hs : CSrt cs) (hn : cs.length ≤ 1000) (hok : c.ok wI) (hgd : c.c.good) (hcn : c.va.n ≤ 100000) :
    Calls Tryz.prog 117 #[.pointer (some ⟨p, 0, none⟩), c.val] wI (WrPost wI p f t (cDel cs c.c.kv)) := by
  obtain ⟨W1, hW1⟩ : ∃ V, V = wI.alloc (.cells #[.string c.row, .string c.fam, .string c.qual, .int .u64 c.time, .slice c.va.ao c.va.n c.va.cap, .bool c.gone] 69) := ⟨_, rfl⟩
  have C1 : Below wI.heap.size wI W1 := by rw [hW1]; exact (Below.refl _ _).alloc (Nat.le_refl _) _
  have X1 : Arr W1 wI.heap.size 69 (#[.string c.row, .string c.fam, .string c.qual, .int .u64 c.time, .slice c.va.ao c.va.n c.va.cap, .bool c.gone]).toList := by rw [hW1]; exact heap_alloc_new wI _
  obtain ⟨u, A3, T3⟩ := hT.below C1
  have t2 : W1.cell? ⟨p, 2, none⟩ = some (.pointer u) := Arr.cell A3 2
  have x0 : W1.cell? ⟨wI.heap.size, 0, none⟩ = some (.string c.row) := X1.cell 0
  have x1 : W1.cell? ⟨wI.heap.size, 1, none⟩ = some (.string c.fam) := X1.cell 1
  have x2 : W1.cell? ⟨wI.heap.size, 2, none⟩ = some (.string c.qual) := X1.cell 2
  have x3 : W1.cell? ⟨wI.heap.size, 3, none⟩ = some (.int .u64 c.time) := X1.cell 3
  have x4 : W1.cell? ⟨wI.heap.size, 4, none⟩ = some (.slice c.va.ao c.va.n c.va.cap) := X1.cell 4
  have x5 : W1.cell? ⟨wI.heap.size, 5, none⟩ = some (.bool c.gone) := X1.cell 5
  have CI : Hid (∀ V, Below W1.heap.size W1 V → Calls Tryz.prog 108 #[.agg #[.string c.row, .string c.fam, .string c.qual, .int .u64 c.time, .slice c.va.ao c.va.n c.va.cap, .bool c.gone]] V fun e w' => ∃ ko kn kc vo vn vc, e = .returned (.agg #[.slice ko kn kc, .slice vo vn vc]) ∧ Sl w' ko kn kc (itm c.c).k ∧ Below V.heap.size V w') := fun V hV => by
    refine (titem_any V c ((hok.below C1).below hV) hcn).mono ?_
    rintro e w' ⟨ko, kn, kc, vo, vn, vc, rfl, SK, -, C2⟩
    rw [itK_right c (good_right c hgd)] at SK
    exact ⟨ko, kn, kc, vo, vn, vc, rfl, SK, C2⟩
  have CD : Hid (∀ V, Below W1.heap.size W1 V → ∀ ko kn kc, Sl V ko kn kc (itm c.c).k → Calls Tryz.prog 155 #[.pointer u, .slice ko kn kc] V fun e w' => ∃ un db, e = .returned (.tuple #[.pointer un, .bool db]) ∧ TT w' (.pointer un) ((cDel cs c.c.kv).map itm) ∧ Below V.heap.size V w') := fun V hV ko kn kc S1 => by
    refine (tdel_any V (.pointer u) (cs.map itm) (itm c.c).k ko kn kc (T3.below hV) hs S1 (by rw [List.length_map]; omega)).mono ?_
    rintro e w' ⟨un, db, rfl, h1, h2, h3⟩
    refine ⟨un, db, rfl, ?_, h3⟩
    rw [← del_itm]
    cases db with
    | true => exact (h1 rfl).2
    | false =>
      obtain ⟨hno, hu⟩ := h2 rfl
      rw [← hu, show del (cs.map itm) (keyL c.c.kv) = cs.map itm from del_none hs hno]
      exact (T3.below hV).below h3
  unfold CA.val
  go_enter Tryz.func117, Tryz.ntmps117
  go_wp2_with fail
  rw [← hW1]
  clear hW1 X1
  have zE0 : Below W1.heap.size W1 W1.drew := (Below.refl _ _).drew
  refine wp_region_noPanic ?_
  refine wp_region_held_drew (S := fun _ => True) (by kernel_rfl) trivial (fun _ => ?_)
  obtain ⟨zv0, hv0⟩ : ∃ v, v = W1.drew := ⟨_, rfl⟩
  rw [← hv0] at zE0 ⊢
  clear hv0
  refine hr_take_w 0 (some 5) (.pointer (some ⟨p, 0, none⟩)) rfl rfl (by kernel_rfl) (by kernel_rfl) (by kernel_rfl) rfl (fun W hW => by go_simp) trivial ?_
  simp only [Act.put, List.setIfInBounds_toArray, List.set_cons_zero, List.set_cons_succ]
  refine hr_take_w 1 (some 6) (.pointer (some ⟨p, 0, none⟩)) rfl rfl (by kernel_rfl) (by kernel_rfl) (by kernel_rfl) rfl (fun W hW => by go_simp) trivial ?_
  simp only [Act.put, List.setIfInBounds_toArray, List.set_cons_zero, List.set_cons_succ]
  refine hr_take_w 2 (some 7) (.pointer (some ⟨p, 0, none⟩)) rfl rfl (by kernel_rfl) (by kernel_rfl) (by kernel_rfl) rfl (fun W hW => by go_simp) trivial ?_
  simp only [Act.put, List.setIfInBounds_toArray, List.set_cons_zero, List.set_cons_succ]
  refine hr_take_w 3 (some 8) (.pointer (some ⟨p, 2, none⟩)) rfl rfl (by kernel_rfl) (by kernel_rfl) (by kernel_rfl) rfl (fun W hW => by go_simp) trivial ?_
  simp only [Act.put, List.setIfInBounds_toArray, List.set_cons_zero, List.set_cons_succ]
  refine wpAnyH_effto 6 (fun zi zv zw => (zi = 4 → zv = .pointer u) ∧ (zi = 5 → zv = .agg #[.string c.row, .string c.fam, .string c.qual, .int .u64 c.time, .slice c.va.ao c.va.n c.va.cap, .bool c.gone]) ∧ (zi = 6 → ∃ ko kn kc vo vn vc, zv = .agg #[.slice ko kn kc, .slice vo vn vc] ∧ Sl zw ko kn kc (itm c.c).k) ∧ (zi = 7 → ∃ ko kn kc, zv = .slice ko kn kc ∧ Sl zw ko kn kc (itm c.c).k) ∧ (zi = 8 → ∃ un db, zv = .tuple #[.pointer un, .bool db] ∧ TT zw (.pointer un) ((cDel cs c.c.kv).map itm))) [(4, 9), (5, 10), (6, 11), (7, 12), (8, 13)] 18 (by kernel_rfl) (by decide) (by decide) rfl ?_ (fun _ _ => trivial) ?_ ?_
  · intro zi v w w' h hb
    refine ⟨fun e => ?_, fun e => ?_, fun e => ?_, fun e => ?_, fun e => ?_⟩
    · have h := h.1 e
      exact h
    · have h := h.2.1 e
      exact h
    · have h := h.2.2.1 e
      obtain ⟨ko, kn, kc, vo, vn, vc, h1, h2⟩ := h
      exact ⟨ko, kn, kc, vo, vn, vc, h1, h2.below hb⟩
    · have h := h.2.2.2.1 e
      obtain ⟨ko, kn, kc, h1, h2⟩ := h
      exact ⟨ko, kn, kc, h1, h2.below hb⟩
    · have h := h.2.2.2.2 e
      obtain ⟨un, db, h1, h2⟩ := h
      exact ⟨un, db, h1, h2.below hb⟩
  · intro zp zhi o a w ho hs hb hdep
    have zEB := zE0.trans (hb.mono zE0.size)
    simp only [List.mem_cons, List.not_mem_nil, or_false] at zhi
    rcases zhi with rfl | rfl | rfl | rfl | rfl
    · obtain rfl : _ = o := Option.some.inj (show some _ = some o from ho)
      have t8 : a.tmps[8]? = some (.pointer (some ⟨p, 2, none⟩)) := hs.get 8 (by kernel_rfl) rfl
      have lc := (zEB.cell (World.block_lt_of_cell? _ _ t2)).trans t2
      exact .inl ⟨.pointer u, w, by go_simp, ⟨fun _ => rfl, fun e => absurd e (by decide), fun e => absurd e (by decide), fun e => absurd e (by decide), fun e => absurd e (by decide)⟩, Below.refl _ _⟩
    · obtain rfl : _ = o := Option.some.inj (show some _ = some o from ho)
      have t3 : a.tmps[3]? = some (.pointer (some ⟨wI.heap.size, 0, none⟩)) := hs.get 3 (by kernel_rfl) rfl
      have l0 := (zEB.cell (World.block_lt_of_cell? _ _ x0)).trans x0
      have l1 := (zEB.cell (World.block_lt_of_cell? _ _ x1)).trans x1
      have l2 := (zEB.cell (World.block_lt_of_cell? _ _ x2)).trans x2
      have l3 := (zEB.cell (World.block_lt_of_cell? _ _ x3)).trans x3
      have l4 := (zEB.cell (World.block_lt_of_cell? _ _ x4)).trans x4
      have l5 := (zEB.cell (World.block_lt_of_cell? _ _ x5)).trans x5
      exact .inl ⟨.agg #[.string c.row, .string c.fam, .string c.qual, .int .u64 c.time, .slice c.va.ao c.va.n c.va.cap, .bool c.gone], w, by go_simp, ⟨fun e => absurd e (by decide), fun _ => rfl, fun e => absurd e (by decide), fun e => absurd e (by decide), fun e => absurd e (by decide)⟩, Below.refl _ _⟩
    · obtain rfl : _ = o := Option.some.inj (show some _ = some o from ho)
      obtain ⟨x10, t10, f10⟩ := (hdep 5 (by kernel_rfl)).at 10 (by kernel_rfl)
      replace f10 := f10.2.1 rfl
      subst f10
      refine .inr ⟨108, #[.agg #[.string c.row, .string c.fam, .string c.qual, .int .u64 c.time, .slice c.va.ao c.va.n c.va.cap, .bool c.gone]], by go_simp, (CI.out w zEB).mono ?_⟩
      rintro e w' ⟨ko, kn, kc, vo, vn, vc, rfl, S1, C⟩
      exact ⟨_, rfl, ⟨fun e => absurd e (by decide), fun e => absurd e (by decide), fun _ => ⟨ko, kn, kc, vo, vn, vc, rfl, S1⟩, fun e => absurd e (by decide), fun e => absurd e (by decide)⟩, C⟩
    · obtain rfl : _ = o := Option.some.inj (show some _ = some o from ho)
      obtain ⟨x11, t11, f11⟩ := (hdep 6 (by kernel_rfl)).at 11 (by kernel_rfl)
      replace f11 := f11.2.2.1 rfl
      obtain ⟨ko, kn, kc, vo, vn, vc, rfl, S1⟩ := f11
      have hfd : (Instr.field 101 (.agg #[.slice ko kn kc, .slice vo vn vc]) 0).run Tryz.prog w = .ok (.slice ko kn kc) w := by kernel_rfl
      exact .inl ⟨.slice ko kn kc, w, by go_simp, ⟨fun e => absurd e (by decide), fun e => absurd e (by decide), fun e => absurd e (by decide), fun _ => ⟨ko, kn, kc, rfl, S1⟩, fun e => absurd e (by decide)⟩, Below.refl _ _⟩
    · obtain rfl : _ = o := Option.some.inj (show some _ = some o from ho)
      obtain ⟨x9, t9, f9⟩ := (hdep 4 (by kernel_rfl)).at 9 (by kernel_rfl)
      replace f9 := f9.1 rfl
      obtain ⟨x12, t12, f12⟩ := (hdep 7 (by kernel_rfl)).at 12 (by kernel_rfl)
      replace f12 := f12.2.2.2.1 rfl
      subst f9
      obtain ⟨ko, kn, kc, rfl, S1⟩ := f12
      refine .inr ⟨155, #[.pointer u, .slice ko kn kc], by go_simp, (CD.out w zEB ko kn kc S1).mono ?_⟩
      rintro e w' ⟨un, db, rfl, T1, C⟩
      exact ⟨_, rfl, ⟨fun e => absurd e (by decide), fun e => absurd e (by decide), fun e => absurd e (by decide), fun e => absurd e (by decide), fun _ => ⟨un, db, rfl, T1⟩⟩, C⟩
  intro zf zv1 hb hh
  have zE1 := zE0.trans (hb.mono zE0.size)
  obtain e4 := (hh (4, 9) (by simp)).1 rfl
  obtain e5 := (hh (5, 10) (by simp)).2.1 rfl
  obtain ⟨un, db, e8, T4⟩ := (hh (8, 13) (by simp)).2.2.2.2 rfl
  clear hh hb
  simp only [putL, List.foldl_cons, List.foldl_nil, e4, e5, e8]
  clear e4 e5 e8
  simp only [Act.put, List.setIfInBounds_toArray, List.set_cons_zero, List.set_cons_succ]
  have A4 := arr_below A3 zE1
  have f2 := Arr.free A4 2
  have t2' : zv1.cell? ⟨p, 2, none⟩ = some (.pointer u) := Arr.cell A4 2
  refine hr_take_w 9 (some 4) (.tuple #[.pointer un, .bool db]) rfl rfl (by kernel_rfl) (by kernel_rfl) (by kernel_rfl) rfl (fun W hW => by go_simp) trivial ?_
  simp only [Act.put, List.setIfInBounds_toArray, List.set_cons_zero, List.set_cons_succ]
  refine hr_take_w 10 (some 14) (.pointer un) rfl rfl (by kernel_rfl) (by kernel_rfl) (by kernel_rfl) rfl (fun W hW => by go_simp) trivial ?_
  simp only [Act.put, List.setIfInBounds_toArray, List.set_cons_zero, List.set_cons_succ]
  refine hr_take_w 11 (some 15) (.bool db) rfl rfl (by kernel_rfl) (by kernel_rfl) (by kernel_rfl) rfl (fun W hW => by go_simp) trivial ?_
  simp only [Act.put, List.setIfInBounds_toArray, List.set_cons_zero, List.set_cons_succ]
  refine hr_take_w 12 (some 16) (.pointer (some ⟨p, 0, none⟩)) rfl rfl (by kernel_rfl) (by kernel_rfl) (by kernel_rfl) rfl (fun W hW => by go_simp) trivial ?_
  simp only [Act.put, List.setIfInBounds_toArray, List.set_cons_zero, List.set_cons_succ]
  refine hr_take_w 13 (some 17) (.pointer (some ⟨p, 2, none⟩)) rfl rfl (by kernel_rfl) (by kernel_rfl) (by kernel_rfl) rfl (fun W hW => by go_simp) trivial ?_
  simp only [Act.put, List.setIfInBounds_toArray, List.set_cons_zero, List.set_cons_succ]
  refine hr_skip 14 none (w' := zv1.setCell ⟨p, 2, none⟩ (.pointer un)) rfl rfl (by kernel_rfl) rfl (by go_simp) trivial ?_
  simp only [Act.put]
  refine wpAnyH_done (by kernel_rfl) ?_ _
  refine NoPanic.normal ?_
  go_wp2
  have KW : Wr p zv1 (zv1.setCell ⟨p, 2, none⟩ (.pointer un)) := (Wr.refl _ _).set 2 _
  exact bodyPost_ret (v := .tuple #[]) (by simp [results, Tryz.results117, go_sem]) rfl ⟨rfl, ⟨un, Arr.set A4 2 (.pointer un), T4.tb A4 KW⟩, (Wr.of (C1.trans (zE1.mono C1.size))).trans KW⟩
end Go.Proofs.YthlpccajnmkbjaaGreatDoor

namespace Go.Proofs.YthlpccajnmkbjaaGreatDoor
open Go.RowKit

def CV.ky (c : CV) : KA := ⟨c.row, c.fam, c.qual, c.time⟩
/-- A cell is put. -/
def mPut (cs : List CV) (c : CV) : List CV × Int :=
  if (colC c.ky cs).any (eqK c.ky) = false ∧ (colC c.ky cs).length < 4 ∧ 32 ≤ cs.length then (cs, 9)
  else match (colC c.ky (cIns cs c)).getLast? with
    | none => (cIns cs c, 0)
    | some x => if 4 < (colC c.ky (cIns cs c)).length then (cDel (cIns cs c) x.kv, 0) else (cIns cs c, 0)
/-- It is not full. -/
def NotFull (cs : List CV) (c : CV) : Prop := ¬ ((colC c.ky cs).any (eqK c.ky) = false ∧ (colC c.ky cs).length < 4 ∧ 32 ≤ cs.length)
theorem mPut_is9 {cs : List CV} {c : CV} (h : (colC c.ky cs).any (eqK c.ky) = false ∧ (colC c.ky cs).length < 4 ∧ 32 ≤ cs.length) : mPut cs c = (cs, 9) := by
  unfold mPut
  rw [if_pos h]
theorem mPut_full {cs : List CV} {c x : CV} (h : NotFull cs c) {l2 : List CV} (e : l2 = colC c.ky (cIns cs c)) (hl : 4 < l2.length) (hx : l2.getLast? = some x) : mPut cs c = (cDel (cIns cs c) x.kv, 0) := by
  unfold mPut
  rw [if_neg h, ← e, hx]
  simp only
  rw [if_pos hl]
theorem mPut_few {cs : List CV} {c : CV} (h : NotFull cs c) {l2 : List CV} (e : l2 = colC c.ky (cIns cs c)) (hl : ¬ 4 < l2.length) : mPut cs c = (cIns cs c, 0) := by
  unfold mPut
  rw [if_neg h, ← e]
  cases l2.getLast? with
  | none => rfl
  | some x => simp only; rw [if_neg hl]
def PutPost10 (w : World) (p : Nat) (f t : ByteArray) (r : List CV × Int) (e : Ending) (w' : World) : Prop := e = .returned (.int .i64 r.2) ∧ TB w' p f t r.1 ∧ Wr p w w'

set_option maxHeartbeats 4000000 in
set_option maxRecDepth 100000 in
theorem put_any (w : World) (p : Nat) (f t : ByteArray) (cs : List CV) (c : CA) (hTb : Tabs w) (hT : TB w p f t cs) (hs : CSrt cs) (hg : CGood cs) (hn : cs.length ≤ 900) (hok : c.ok w) (hgd : c.c.good) (hcn : c.va.n ≤ 100000) :
    Calls Tryz.prog 73 #[.pointer (some ⟨p, 0, none⟩), c.val] w (PutPost10 w p f t (mPut cs c.c)) := by
  have t2 := hTb.two
  have hp := hT.lt
  have hn : cs.length ≤ 1000 := by omega
  have hrow : c.key.row.size ≤ 32 := by have := hgd.right.2.1; rw [show c.c.kv.row = sb c.row from rfl, sb_len] at this; exact this
  obtain ⟨W1, hW1⟩ : ∃ V, V = w.alloc (.cells #[.string c.row, .string c.fam, .string c.qual, .int .u64 c.time, .slice c.va.ao c.va.n c.va.cap, .bool c.gone] 69) := ⟨_, rfl⟩
  have C1 : Below w.heap.size w W1 := by rw [hW1]; exact (Below.refl _ _).alloc (Nat.le_refl _) _
  have A1 : Arr W1 w.heap.size 69 (#[.string c.row, .string c.fam, .string c.qual, .int .u64 c.time, .slice c.va.ao c.va.n c.va.cap, .bool c.gone]).toList := by rw [hW1]; exact heap_alloc_new w _
  have CO := column_any W1 p f t cs c.key (hT.below C1) hs hg hrow hn
  rw [show c.key.val = .agg #[.string c.row, .string c.fam, .string c.qual, .int .u64 c.time] from rfl] at CO
  unfold CA.val
  go_enter Tryz.func73, Tryz.ntmps73
  go_wp2_with fail
  rw [← hW1]
  clear hW1
  refine CO.mono ?_
  rintro e w2 ⟨ao, n1, cap, l, rfl, h1, -, hl, C2⟩
  have B2 := C1.trans (C2.mono C1.size)
  have A2 := arr_below A1 C2
  have HL : Hid (l.map CA.c = colC c.key cs) := hl
  have hn1 : n1 ≤ 1000 := by
    have h3 := congrArg List.length hl
    rw [List.length_map, h1.len] at h3
    have h4 := List.length_filter_le (fun x : CV => x.col c.key) cs
    unfold colC at h3
    omega
  have HLN : Hid (n1 = (colC c.c.ky cs).length) := by show _ = _; rw [show c.c.ky = c.key from rfl, ← hl, List.length_map, h1.len]
  obtain ⟨bb, hbb⟩ : ∃ bb, bb = (l.map CA.c).any (eqK c.key) := ⟨_, rfl⟩
  have HBB : Hid (bb = (l.map CA.c).any (eqK c.key)) := hbb
  have HB2 : Hid (bb = (colC c.c.ky cs).any (eqK c.c.ky)) := by show _ = _; rw [hbb, hl]; rfl
  have CH := has_any w2 ao n1 cap l c.key h1 hn1 bb HBB
  rw [show c.key.val = .agg #[.string c.row, .string c.fam, .string c.qual, .int .u64 c.time] from rfl] at CH
  have q0 : w2.cell? ⟨w.heap.size, 0, none⟩ = some (.string c.row) := A2.cell 0
  have q1 : w2.cell? ⟨w.heap.size, 1, none⟩ = some (.string c.fam) := A2.cell 1
  have q2 : w2.cell? ⟨w.heap.size, 2, none⟩ = some (.string c.qual) := A2.cell 2
  have q3 : w2.cell? ⟨w.heap.size, 3, none⟩ = some (.int .u64 c.time) := A2.cell 3
  have q4 : w2.cell? ⟨w.heap.size, 4, none⟩ = some (.slice c.va.ao c.va.n c.va.cap) := A2.cell 4
  have q5 : w2.cell? ⟨w.heap.size, 5, none⟩ = some (.bool c.gone) := A2.cell 5
  clear CO hl hbb C2
  go_wp2_with fail
  refine CH.mono ?_
  rintro e w3 ⟨rfl, C3⟩
  have B3 := B2.trans (C3.mono B2.size)
  have A3 := arr_below A2 C3
  clear CH q0 q1 q2 q3 q4 q5 h1 HBB A2 A1
  have X3 := hT.below B3
  cases bb with
  | true =>
    have HNF : Hid (NotFull cs c.c) := fun h => by rw [h.1] at HB2; exact absurd HB2.out (by simp)
    have X4 := X3
    have A4 := A3
    have B4 := B3
    clear X3 A3 HB2 HLN
    have q0 : w3.cell? ⟨w.heap.size, 0, none⟩ = some (.string c.row) := A4.cell 0
    have q1 : w3.cell? ⟨w.heap.size, 1, none⟩ = some (.string c.fam) := A4.cell 1
    have q2 : w3.cell? ⟨w.heap.size, 2, none⟩ = some (.string c.qual) := A4.cell 2
    have q3 : w3.cell? ⟨w.heap.size, 3, none⟩ = some (.int .u64 c.time) := A4.cell 3
    have q4 : w3.cell? ⟨w.heap.size, 4, none⟩ = some (.slice c.va.ao c.va.n c.va.cap) := A4.cell 4
    have q5 : w3.cell? ⟨w.heap.size, 5, none⟩ = some (.bool c.gone) := A4.cell 5
    have CL := lay_any w3 p f t cs c (hTb.below B4 t2) X4 hs hn (hok.below B4) hgd hcn
    unfold CA.val at CL
    go_wp2_with fail
    refine CL.mono ?_
    rintro e w5 ⟨rfl, X5, K5⟩
    clear CL q0 q1 q2 q3 q4 q5
    have A5 : Arr w5 w.heap.size 69 (#[.string c.row, .string c.fam, .string c.qual, .int .u64 c.time, .slice c.va.ao c.va.n c.va.cap, .bool c.gone]).toList := (K5.block _ A4.lt (by omega)).trans A4
    have q0 : w5.cell? ⟨w.heap.size, 0, none⟩ = some (.string c.row) := A5.cell 0
    have q1 : w5.cell? ⟨w.heap.size, 1, none⟩ = some (.string c.fam) := A5.cell 1
    have q2 : w5.cell? ⟨w.heap.size, 2, none⟩ = some (.string c.qual) := A5.cell 2
    have q3 : w5.cell? ⟨w.heap.size, 3, none⟩ = some (.int .u64 c.time) := A5.cell 3
    have q4 : w5.cell? ⟨w.heap.size, 4, none⟩ = some (.slice c.va.ao c.va.n c.va.cap) := A5.cell 4
    have q5 : w5.cell? ⟨w.heap.size, 5, none⟩ = some (.bool c.gone) := A5.cell 5
    have CO := column_any w5 p f t (cIns cs c.c) c.key X5 (hs.ins _) (hg.ins hgd) hrow (by have := cIns_len cs c.c; omega)
    rw [show c.key.val = .agg #[.string c.row, .string c.fam, .string c.qual, .int .u64 c.time] from rfl] at CO
    have K5' := (Wr.of (p := p) B4).trans K5
    clear X4 A4 B4
    go_wp2_with fail
    refine CO.mono ?_
    rintro e w6 ⟨ao2, n2, cap2, l2, rfl, h2, -, hl2, C6⟩
    have X6 := X5.below C6
    have K6 := K5'.trans (Wr.of C6)
    have HL2 : Hid (l2.map CA.c = colC c.key (cIns cs c.c)) := hl2
    have hll := h2.len
    have hb2 : l2.length ≤ 1001 := by
      have h3 := congrArg List.length hl2
      rw [List.length_map] at h3
      have h4 := List.length_filter_le (fun x : CV => x.col c.key) (cIns cs c.c)
      have h5 := cIns_len cs c.c
      unfold colC at h3
      omega
    clear CO hl2 X5 q0 q1 q2 q3 q4 q5
    by_cases g4 : 4 < n2
    · have i4 : (4 : Int) < (n2 : Int) := by omega
      have hlt : n2 - 1 < l2.length := by omega
      have hxi : (((n2 - 1 : Nat) : Int)) = (n2 : Int) - 1 := by omega
      have hnw : IntKind.i64.wrap ((n2 : Int) - 1) = (n2 : Int) - 1 := by simp [IntKind.wrap, IntKind.bits, IntKind.signed]; omega
      have hnl : (n2 : Int) - 1 < (n2 : Int) := by omega
      have hn0 : (0 : Int) ≤ (n2 : Int) - 1 := by omega
      have htn : ((n2 : Int) - 1).toNat = n2 - 1 := by omega
      obtain ⟨lb, lo, rfl, hc2⟩ := h2.at (by omega)
      have X := hc2 (n2 - 1) hlt
      have hdm : l2[n2 - 1].c ∈ cIns cs c.c := by
        have : l2[n2 - 1].c ∈ l2.map CA.c := List.mem_map.2 ⟨_, List.getElem_mem hlt, rfl⟩
        rw [HL2.out] at this
        exact (List.mem_filter.1 this).1
      have hdg := (hg.ins hgd) _ hdm
      have hdo := h2.ok _ (List.getElem_mem hlt)
      have HM : Hid (mPut cs c.c = (cDel (cIns cs c.c) l2[n2 - 1].c.kv, 0)) := by
        show _ = _
        refine mPut_full HNF.out (l2 := l2.map CA.c) HL2.out (by rw [List.length_map]; omega) ?_
        rw [List.getLast?_map, List.getLast?_eq_getElem?, hll, List.getElem?_eq_getElem hlt]
        rfl
      obtain ⟨d, hde⟩ : ∃ d, d = l2[n2 - 1] := ⟨_, rfl⟩
      rw [← hde] at X hdg hdo HM
      obtain ⟨r0, r1, r2, r3, r4, r5⟩ := X
      have hdn : d.va.n ≤ 100000 := by rw [← hdo.va.len]; have := hdg.val; show d.c.value.length ≤ _; omega
      have CT := take_any w6 p f t (cIns cs c.c) d X6 (hs.ins _) (by have := cIns_len cs c.c; omega) hdo hdg hdn
      unfold CA.val at CT
      clear hc2 hde hdm h2
      go_wp2_with fail
      refine CT.mono ?_
      rintro e w7 ⟨rfl, X7, K7⟩
      go_wp2
      go_ret
      exact ⟨by rw [HM.out] <;> rfl, by rw [HM.out]; exact X7, K6.trans K7⟩
    · have i4 : ¬ (4 : Int) < (n2 : Int) := by omega
      have HM : Hid (mPut cs c.c = (cIns cs c.c, 0)) := mPut_few HNF.out (l2 := l2.map CA.c) HL2.out (by rw [List.length_map]; omega)
      go_wp2
      go_ret
      exact ⟨by rw [HM.out] <;> rfl, by rw [HM.out]; exact X6, K6⟩
  | false =>
    by_cases g1 : n1 < 4
    · have i1 : (n1 : Int) < 4 := by omega
      obtain ⟨u, AU, TU⟩ := X3
      have c2 : w3.cell? ⟨p, 2, none⟩ = some (.pointer u) := Arr.cell AU 2
      have CN := len_any w3 (.pointer u) (cs.map itm) TU hs (by rw [List.length_map]; omega)
      rw [List.length_map] at CN
      go_wp2_with fail
      refine CN.mono ?_
      rintro e w4 ⟨rfl, C4⟩
      have B4 := B3.trans (C4.mono B3.size)
      have A4 := arr_below A3 C4
      have X4 := hT.below B4
      clear CN c2 TU AU A3 C4
      by_cases g2 : 32 ≤ cs.length
      · have i2 : (32 : Int) ≤ (cs.length : Int) := by omega
        have HM : Hid (mPut cs c.c = (cs, 9)) := mPut_is9 ⟨HB2.out.symm, by rw [← HLN.out]; exact g1, g2⟩
        go_wp2
        go_ret
        exact ⟨by rw [HM.out] <;> rfl, by rw [HM.out]; exact X4, Wr.of B4⟩
      · have i2 : ¬ (32 : Int) ≤ (cs.length : Int) := by omega
        have HNF : Hid (NotFull cs c.c) := fun h => g2 h.2.2
        clear g2 HB2 HLN
        have q0 : w4.cell? ⟨w.heap.size, 0, none⟩ = some (.string c.row) := A4.cell 0
        have q1 : w4.cell? ⟨w.heap.size, 1, none⟩ = some (.string c.fam) := A4.cell 1
        have q2 : w4.cell? ⟨w.heap.size, 2, none⟩ = some (.string c.qual) := A4.cell 2
        have q3 : w4.cell? ⟨w.heap.size, 3, none⟩ = some (.int .u64 c.time) := A4.cell 3
        have q4 : w4.cell? ⟨w.heap.size, 4, none⟩ = some (.slice c.va.ao c.va.n c.va.cap) := A4.cell 4
        have q5 : w4.cell? ⟨w.heap.size, 5, none⟩ = some (.bool c.gone) := A4.cell 5
        have CL := lay_any w4 p f t cs c (hTb.below B4 t2) X4 hs hn (hok.below B4) hgd hcn
        unfold CA.val at CL
        go_wp2_with fail
        refine CL.mono ?_
        rintro e w5 ⟨rfl, X5, K5⟩
        clear CL q0 q1 q2 q3 q4 q5
        have A5 : Arr w5 w.heap.size 69 (#[.string c.row, .string c.fam, .string c.qual, .int .u64 c.time, .slice c.va.ao c.va.n c.va.cap, .bool c.gone]).toList := (K5.block _ A4.lt (by omega)).trans A4
        have q0 : w5.cell? ⟨w.heap.size, 0, none⟩ = some (.string c.row) := A5.cell 0
        have q1 : w5.cell? ⟨w.heap.size, 1, none⟩ = some (.string c.fam) := A5.cell 1
        have q2 : w5.cell? ⟨w.heap.size, 2, none⟩ = some (.string c.qual) := A5.cell 2
        have q3 : w5.cell? ⟨w.heap.size, 3, none⟩ = some (.int .u64 c.time) := A5.cell 3
        have q4 : w5.cell? ⟨w.heap.size, 4, none⟩ = some (.slice c.va.ao c.va.n c.va.cap) := A5.cell 4
        have q5 : w5.cell? ⟨w.heap.size, 5, none⟩ = some (.bool c.gone) := A5.cell 5
        have CO := column_any w5 p f t (cIns cs c.c) c.key X5 (hs.ins _) (hg.ins hgd) hrow (by have := cIns_len cs c.c; omega)
        rw [show c.key.val = .agg #[.string c.row, .string c.fam, .string c.qual, .int .u64 c.time] from rfl] at CO
        have K5' := (Wr.of (p := p) B4).trans K5
        clear X4 A4 B4
        go_wp2_with fail
        refine CO.mono ?_
        rintro e w6 ⟨ao2, n2, cap2, l2, rfl, h2, -, hl2, C6⟩
        have X6 := X5.below C6
        have K6 := K5'.trans (Wr.of C6)
        have HL2 : Hid (l2.map CA.c = colC c.key (cIns cs c.c)) := hl2
        have hll := h2.len
        have hb2 : l2.length ≤ 1001 := by
          have h3 := congrArg List.length hl2
          rw [List.length_map] at h3
          have h4 := List.length_filter_le (fun x : CV => x.col c.key) (cIns cs c.c)
          have h5 := cIns_len cs c.c
          unfold colC at h3
          omega
        clear CO hl2 X5 q0 q1 q2 q3 q4 q5
        by_cases g4 : 4 < n2
        · have i4 : (4 : Int) < (n2 : Int) := by omega
          have hlt : n2 - 1 < l2.length := by omega
          have hxi : (((n2 - 1 : Nat) : Int)) = (n2 : Int) - 1 := by omega
          have hnw : IntKind.i64.wrap ((n2 : Int) - 1) = (n2 : Int) - 1 := by simp [IntKind.wrap, IntKind.bits, IntKind.signed]; omega
          have hnl : (n2 : Int) - 1 < (n2 : Int) := by omega
          have hn0 : (0 : Int) ≤ (n2 : Int) - 1 := by omega
          have htn : ((n2 : Int) - 1).toNat = n2 - 1 := by omega
          obtain ⟨lb, lo, rfl, hc2⟩ := h2.at (by omega)
          have X := hc2 (n2 - 1) hlt
          have hdm : l2[n2 - 1].c ∈ cIns cs c.c := by
            have : l2[n2 - 1].c ∈ l2.map CA.c := List.mem_map.2 ⟨_, List.getElem_mem hlt, rfl⟩
            rw [HL2.out] at this
            exact (List.mem_filter.1 this).1
          have hdg := (hg.ins hgd) _ hdm
          have hdo := h2.ok _ (List.getElem_mem hlt)
          have HM : Hid (mPut cs c.c = (cDel (cIns cs c.c) l2[n2 - 1].c.kv, 0)) := by
            show _ = _
            refine mPut_full HNF.out (l2 := l2.map CA.c) HL2.out (by rw [List.length_map]; omega) ?_
            rw [List.getLast?_map, List.getLast?_eq_getElem?, hll, List.getElem?_eq_getElem hlt]
            rfl
          obtain ⟨d, hde⟩ : ∃ d, d = l2[n2 - 1] := ⟨_, rfl⟩
          rw [← hde] at X hdg hdo HM
          obtain ⟨r0, r1, r2, r3, r4, r5⟩ := X
          have hdn : d.va.n ≤ 100000 := by rw [← hdo.va.len]; have := hdg.val; show d.c.value.length ≤ _; omega
          have CT := take_any w6 p f t (cIns cs c.c) d X6 (hs.ins _) (by have := cIns_len cs c.c; omega) hdo hdg hdn
          unfold CA.val at CT
          clear hc2 hde hdm h2
          go_wp2_with fail
          refine CT.mono ?_
          rintro e w7 ⟨rfl, X7, K7⟩
          go_wp2
          go_ret
          exact ⟨by rw [HM.out] <;> rfl, by rw [HM.out]; exact X7, K6.trans K7⟩
        · have i4 : ¬ (4 : Int) < (n2 : Int) := by omega
          have HM : Hid (mPut cs c.c = (cIns cs c.c, 0)) := mPut_few HNF.out (l2 := l2.map CA.c) HL2.out (by rw [List.length_map]; omega)
          go_wp2
          go_ret
          exact ⟨by rw [HM.out] <;> rfl, by rw [HM.out]; exact X6, K6⟩
    · have i1 : ¬ (n1 : Int) < 4 := by omega
      have HNF : Hid (NotFull cs c.c) := fun h => g1 (by rw [HLN.out]; exact h.2.1)
      have X4 := X3
      have A4 := A3
      have B4 := B3
      clear X3 A3 HB2 HLN
      have q0 : w3.cell? ⟨w.heap.size, 0, none⟩ = some (.string c.row) := A4.cell 0
      have q1 : w3.cell? ⟨w.heap.size, 1, none⟩ = some (.string c.fam) := A4.cell 1
      have q2 : w3.cell? ⟨w.heap.size, 2, none⟩ = some (.string c.qual) := A4.cell 2
      have q3 : w3.cell? ⟨w.heap.size, 3, none⟩ = some (.int .u64 c.time) := A4.cell 3
      have q4 : w3.cell? ⟨w.heap.size, 4, none⟩ = some (.slice c.va.ao c.va.n c.va.cap) := A4.cell 4
      have q5 : w3.cell? ⟨w.heap.size, 5, none⟩ = some (.bool c.gone) := A4.cell 5
      have CL := lay_any w3 p f t cs c (hTb.below B4 t2) X4 hs hn (hok.below B4) hgd hcn
      unfold CA.val at CL
      go_wp2_with fail
      refine CL.mono ?_
      rintro e w5 ⟨rfl, X5, K5⟩
      clear CL q0 q1 q2 q3 q4 q5
      have A5 : Arr w5 w.heap.size 69 (#[.string c.row, .string c.fam, .string c.qual, .int .u64 c.time, .slice c.va.ao c.va.n c.va.cap, .bool c.gone]).toList := (K5.block _ A4.lt (by omega)).trans A4
      have q0 : w5.cell? ⟨w.heap.size, 0, none⟩ = some (.string c.row) := A5.cell 0
      have q1 : w5.cell? ⟨w.heap.size, 1, none⟩ = some (.string c.fam) := A5.cell 1
      have q2 : w5.cell? ⟨w.heap.size, 2, none⟩ = some (.string c.qual) := A5.cell 2
      have q3 : w5.cell? ⟨w.heap.size, 3, none⟩ = some (.int .u64 c.time) := A5.cell 3
      have q4 : w5.cell? ⟨w.heap.size, 4, none⟩ = some (.slice c.va.ao c.va.n c.va.cap) := A5.cell 4
      have q5 : w5.cell? ⟨w.heap.size, 5, none⟩ = some (.bool c.gone) := A5.cell 5
      have CO := column_any w5 p f t (cIns cs c.c) c.key X5 (hs.ins _) (hg.ins hgd) hrow (by have := cIns_len cs c.c; omega)
      rw [show c.key.val = .agg #[.string c.row, .string c.fam, .string c.qual, .int .u64 c.time] from rfl] at CO
      have K5' := (Wr.of (p := p) B4).trans K5
      clear X4 A4 B4
      go_wp2_with fail
      refine CO.mono ?_
      rintro e w6 ⟨ao2, n2, cap2, l2, rfl, h2, -, hl2, C6⟩
      have X6 := X5.below C6
      have K6 := K5'.trans (Wr.of C6)
      have HL2 : Hid (l2.map CA.c = colC c.key (cIns cs c.c)) := hl2
      have hll := h2.len
      have hb2 : l2.length ≤ 1001 := by
        have h3 := congrArg List.length hl2
        rw [List.length_map] at h3
        have h4 := List.length_filter_le (fun x : CV => x.col c.key) (cIns cs c.c)
        have h5 := cIns_len cs c.c
        unfold colC at h3
        omega
      clear CO hl2 X5 q0 q1 q2 q3 q4 q5
      by_cases g4 : 4 < n2
      · have i4 : (4 : Int) < (n2 : Int) := by omega
        have hlt : n2 - 1 < l2.length := by omega
        have hxi : (((n2 - 1 : Nat) : Int)) = (n2 : Int) - 1 := by omega
        have hnw : IntKind.i64.wrap ((n2 : Int) - 1) = (n2 : Int) - 1 := by simp [IntKind.wrap, IntKind.bits, IntKind.signed]; omega
        have hnl : (n2 : Int) - 1 < (n2 : Int) := by omega
        have hn0 : (0 : Int) ≤ (n2 : Int) - 1 := by omega
        have htn : ((n2 : Int) - 1).toNat = n2 - 1 := by omega
        obtain ⟨lb, lo, rfl, hc2⟩ := h2.at (by omega)
        have X := hc2 (n2 - 1) hlt
        have hdm : l2[n2 - 1].c ∈ cIns cs c.c := by
          have : l2[n2 - 1].c ∈ l2.map CA.c := List.mem_map.2 ⟨_, List.getElem_mem hlt, rfl⟩
          rw [HL2.out] at this
          exact (List.mem_filter.1 this).1
        have hdg := (hg.ins hgd) _ hdm
        have hdo := h2.ok _ (List.getElem_mem hlt)
        have HM : Hid (mPut cs c.c = (cDel (cIns cs c.c) l2[n2 - 1].c.kv, 0)) := by
          show _ = _
          refine mPut_full HNF.out (l2 := l2.map CA.c) HL2.out (by rw [List.length_map]; omega) ?_
          rw [List.getLast?_map, List.getLast?_eq_getElem?, hll, List.getElem?_eq_getElem hlt]
          rfl
        obtain ⟨d, hde⟩ : ∃ d, d = l2[n2 - 1] := ⟨_, rfl⟩
        rw [← hde] at X hdg hdo HM
        obtain ⟨r0, r1, r2, r3, r4, r5⟩ := X
        have hdn : d.va.n ≤ 100000 := by rw [← hdo.va.len]; have := hdg.val; show d.c.value.length ≤ _; omega
        have CT := take_any w6 p f t (cIns cs c.c) d X6 (hs.ins _) (by have := cIns_len cs c.c; omega) hdo hdg hdn
        unfold CA.val at CT
        clear hc2 hde hdm h2
        go_wp2_with fail
        refine CT.mono ?_
        rintro e w7 ⟨rfl, X7, K7⟩
        go_wp2
        go_ret
        exact ⟨by rw [HM.out] <;> rfl, by rw [HM.out]; exact X7, K6.trans K7⟩
      · have i4 : ¬ (4 : Int) < (n2 : Int) := by omega
        have HM : Hid (mPut cs c.c = (cIns cs c.c, 0)) := mPut_few HNF.out (l2 := l2.map CA.c) HL2.out (by rw [List.length_map]; omega)
        go_wp2
        go_ret
        exact ⟨by rw [HM.out] <;> rfl, by rw [HM.out]; exact X6, K6⟩
end Go.Proofs.YthlpccajnmkbjaaGreatDoor

namespace Go.Proofs.YthlpccajnmkbjaaGreatDoor
open Go.RowKit

set_option maxHeartbeats 1000000 in
theorem only_any (w : World) (k : Int) : Calls Tryz.prog 45 #[.int .i64 k] w fun e w' => e = .returned (resV k none 0 0 false) ∧ Below w.heap.size w w' := by
  have B : Below w.heap.size w (w.alloc (.cells #[.int .i64 k, .slice none 0 0, .bool false] 34)) := (Below.refl _ _).alloc (Nat.le_refl _) _
  go_enter Tryz.func45, Tryz.ntmps45
  go_wp2
  exact bodyPost_ret (v := .agg #[.int .i64 k, .slice none 0 0, .bool false]) (by simp [results, Tryz.results45, go_sem]) rfl ⟨rfl, B⟩
/-- The newest of a column. -/
def mGet (cs : List CV) (k : KA) : RV := match (colC k cs).head? with
  | none => ⟨7, [], false⟩
  | some c => if c.gone then ⟨7, [], false⟩ else ⟨0, [c], false⟩
/-- A result is answered, in new memory. -/
def ResP (r : RV) (e : Ending) (w' : World) : Prop := ∃ ao n cap l, e = .returned (resV r.e ao n cap r.more) ∧ CL w' ao n cap l ∧ l.map CA.c = r.cells
theorem ResP.bad (k : Int) (w' : World) : ResP ⟨k, [], false⟩ (.returned (resV k none 0 0 false)) w' := ⟨none, 0, 0, [], rfl, CL.nothing _, rfl⟩
theorem CL.one (w : World) (c : CA) (h : c.ok (w.alloc (.cells #[.string c.row, .string c.fam, .string c.qual, .int .u64 c.time, .slice c.va.ao c.va.n c.va.cap, .bool c.gone] 69))) : CL (w.alloc (.cells #[.string c.row, .string c.fam, .string c.qual, .int .u64 c.time, .slice c.va.ao c.va.n c.va.cap, .bool c.gone] 69)) (some ⟨w.heap.size, 0, none⟩) 1 1 [c] := by
  refine ⟨rfl, Nat.le_refl _, by decide, fun h => by simp at h, fun a ha i hi j v hv => ?_, fun d hd => by rw [List.mem_singleton.1 hd]; exact h⟩
  obtain rfl := Option.some.inj ha
  obtain rfl : i = 0 := by simp at hi; exact hi
  rw [Addr.add_lit, Nat.zero_mul, Nat.zero_add, Nat.zero_add, cell_of_row _ w.heap.size j _ _ _ (heap_alloc_new w _)]
  simpa [CA.cells] using hv
/-- Cells stand while a result's block is written. -/
theorem CL.wr {w w' : World} {p : Nat} {x y z : Value} (h : Arr w p 34 [x, y, z]) (hx : ∀ s, x ≠ .int .u8 s) (hx2 : ∀ s, x ≠ .string s) (hy : ∀ s, y ≠ .int .u8 s) (hy2 : ∀ s, y ≠ .string s) (hz : ∀ s, z ≠ .int .u8 s) (hz2 : ∀ s, z ≠ .string s) (k : Wr p w w') {ao : Option Addr} {n cap : Nat} {l : List CA} (S : CL w ao n cap l) : CL w' ao n cap l := by
  refine ⟨S.len, S.le, S.mx, S.nil, fun a ha i hi j v hv => ?_, fun c hc => ⟨(S.ok c hc).row, (S.ok c hc).fam, (S.ok c hc).qual, (S.ok c hc).time, (S.ok c hc).va.wr h (by intro v hv; simp only [List.mem_cons, List.not_mem_nil, or_false] at hv; rcases hv with rfl | rfl | rfl <;> assumption) k⟩⟩
  have h0 := S.cell a ha i hi 0 _ rfl
  have hne : a.block ≠ p := fun e => by
    have e2 : (a.add (i * 6 + 0)).block = p := (add_block _ _).trans e
    generalize a.add (i * 6 + 0) = ad at h0 e2
    obtain ⟨b, off, spot⟩ := ad
    obtain rfl : b = p := e2
    have hs : spot = none := World.cell?_spot h0
    subst hs
    rw [Arr.cell h off] at h0
    match off, h0 with
    | 0, h0 => exact hx2 _ (Option.some.inj h0)
    | 1, h0 => exact hy2 _ (Option.some.inj h0)
    | 2, h0 => exact hz2 _ (Option.some.inj h0)
    | _ + 3, h0 => simp at h0
  exact k.cell (S.cell a ha i hi j v hv) (by rw [add_block]; exact hne)

set_option maxHeartbeats 2000000 in
set_option maxRecDepth 100000 in
theorem get_any (w : World) (p : Nat) (f t : ByteArray) (cs : List CV) (k : KA) (hT : TB w p f t cs) (hs : CSrt cs) (hg : CGood cs) (hn : cs.length ≤ 1000) (hr : k.row.size ≤ 32) :
    Calls Tryz.prog 79 #[.pointer (some ⟨p, 0, none⟩), k.val] w fun e w' => ResP (mGet cs k) e w' ∧ Below w.heap.size w w' := by
  obtain ⟨W1, hW1⟩ : ∃ V, V = w.alloc (.cells #[.string k.row, .string k.fam, .string k.qual, .int .u64 k.time] 39) := ⟨_, rfl⟩
  obtain ⟨W2, hW2⟩ : ∃ V, V = W1.alloc (.cells #[.int .i64 0, .slice none 0 0, .bool false] 34) := ⟨_, rfl⟩
  have C1 : Below w.heap.size w W1 := by rw [hW1]; exact (Below.refl _ _).alloc (Nat.le_refl _) _
  have C2 : Below W1.heap.size W1 W2 := by rw [hW2]; exact (Below.refl _ _).alloc (Nat.le_refl _) _
  have B2 := C1.trans (C2.mono C1.size)
  have s1 : W1.heap.size = w.heap.size + 1 := by rw [hW1]; exact Array.size_push ..
  have R2 : Arr W2 (w.heap.size + 1) 34 [.int .i64 0, .slice none 0 0, .bool false] := by rw [hW2, ← s1]; exact heap_alloc_new W1 _
  have CO := column_any W2 p f t cs k (hT.below B2) hs hg hr hn
  unfold KA.val at CO ⊢
  go_enter Tryz.func79, Tryz.ntmps79
  go_wp2_with fail
  rw [← hW1, ← hW2]
  clear hW1 hW2 s1
  refine CO.mono ?_
  rintro e w3 ⟨ao, n, cap, l, rfl, h1, -, hl, C3⟩
  have B3 := B2.trans (C3.mono B2.size)
  have R3 := arr_below R2 C3
  have hll := h1.len
  have hn1 : n ≤ 1000 := by
    have h3 := congrArg List.length hl
    rw [List.length_map, hll] at h3
    have h4 := List.length_filter_le (fun x : CV => x.col k) cs
    unfold colC at h3
    omega
  clear CO R2 C3
  by_cases hz : n = 0
  · subst hz
    have HM : Hid (mGet cs k = ⟨7, [], false⟩) := by
      show _ = _
      obtain rfl : l = [] := List.eq_nil_of_length_eq_zero hll
      unfold mGet
      rw [← hl]
      rfl
    have CB := only_any w3 7
    unfold resV at CB
    clear hl hll hn1
    go_wp2_with fail
    refine CB.mono ?_
    rintro e w4 ⟨rfl, C4⟩
    have B4 := B3.trans (C4.mono B3.size)
    have R4 := arr_below R3 C4
    have r0 : w4.cell? ⟨w.heap.size + 1, 0, none⟩ = some (.int .i64 0) := R4.cell 0
    have f0 := R4.free 0
    have r1 : w4.cell? ⟨w.heap.size + 1, 1, none⟩ = some (.slice none 0 0) := R4.cell 1
    have f1 := R4.free 1
    have r2 : w4.cell? ⟨w.heap.size + 1, 2, none⟩ = some (.bool false) := R4.cell 2
    have f2 := R4.free 2
    have lt := R4.lt
    clear CB
    go_wp2
    exact bodyPost_ret (v := .agg #[.int .i64 7, .slice none 0 0, .bool false]) (by simp [results, Tryz.results79, go_sem, r0, r1, r2]) rfl ⟨by rw [HM.out]; exact ResP.bad 7 _, Wr.below B4 ((((Wr.refl _ _).set 0 _).set 1 _).set 2 _) B4.size (Nat.le_succ _)⟩
  · have hni : ((n : Int) == 0) = false := by simp; omega
    have hnp : (0 : Int) < (n : Int) := by omega
    have h0l : 0 < l.length := by omega
    obtain ⟨lb, lo, rfl, hc⟩ := h1.at (by omega)
    have X := hc 0 h0l
    rw [Nat.zero_mul, Nat.add_zero] at X
    have hok := h1.ok _ (List.getElem_mem h0l)
    have HH : Hid ((colC k cs).head? = some l[0].c) := by
      show _ = _
      rw [← hl, List.head?_map, List.head?_eq_getElem?, List.getElem?_eq_getElem h0l]
      rfl
    obtain ⟨c, hce⟩ : ∃ c, c = l[0] := ⟨_, rfl⟩
    rw [← hce] at X hok HH
    obtain ⟨q0, q1, q2, q3, q4, q5⟩ := X
    clear hc hce hl hll h1 h0l hz
    cases hgn : c.gone with
    | true =>
      have HM : Hid (mGet cs k = ⟨7, [], false⟩) := by
        show _ = _
        unfold mGet
        rw [HH.out]
        simp only
        rw [show c.c.gone = c.gone from rfl, hgn]
        rfl
      rw [hgn] at q5
      have CB := only_any w3 7
      unfold resV at CB
      clear hgn
      go_wp2_with fail
      refine CB.mono ?_
      rintro e w4 ⟨rfl, C4⟩
      have B4 := B3.trans (C4.mono B3.size)
      have R4 := arr_below R3 C4
      have r0 : w4.cell? ⟨w.heap.size + 1, 0, none⟩ = some (.int .i64 0) := R4.cell 0
      have f0 := R4.free 0
      have r1 : w4.cell? ⟨w.heap.size + 1, 1, none⟩ = some (.slice none 0 0) := R4.cell 1
      have f1 := R4.free 1
      have r2 : w4.cell? ⟨w.heap.size + 1, 2, none⟩ = some (.bool false) := R4.cell 2
      have f2 := R4.free 2
      have lt := R4.lt
      clear CB q0 q1 q2 q3 q4 q5
      go_wp2
      exact bodyPost_ret (v := .agg #[.int .i64 7, .slice none 0 0, .bool false]) (by simp [results, Tryz.results79, go_sem, r0, r1, r2]) rfl ⟨by rw [HM.out]; exact ResP.bad 7 _, Wr.below B4 ((((Wr.refl _ _).set 0 _).set 1 _).set 2 _) B4.size (Nat.le_succ _)⟩
    | false =>
      have HM : Hid (mGet cs k = ⟨0, [c.c], false⟩) := by
        show _ = _
        unfold mGet
        rw [HH.out]
        simp only
        rw [show c.c.gone = c.gone from rfl, hgn]
        rfl
      rw [hgn] at q5
      have r0 : w3.cell? ⟨w.heap.size + 1, 0, none⟩ = some (.int .i64 0) := R3.cell 0
      have f0 := R3.free 0
      have r1 : w3.cell? ⟨w.heap.size + 1, 1, none⟩ = some (.slice none 0 0) := R3.cell 1
      have f1 := R3.free 1
      have r2 : w3.cell? ⟨w.heap.size + 1, 2, none⟩ = some (.bool false) := R3.cell 2
      have f2 := R3.free 2
      have lt := R3.lt
      have KW : Wr (w.heap.size + 1) w3 (((w3.setCell ⟨w.heap.size + 1, 0, none⟩ (.int .i64 0)).setCell ⟨w.heap.size + 1, 1, none⟩ (.slice (some ⟨w3.heap.size, 0, none⟩) 1 1)).setCell ⟨w.heap.size + 1, 2, none⟩ (.bool false)) := (((Wr.refl _ _).set 0 _).set 1 _).set 2 _
      have ok5 : c.ok (((w3.setCell ⟨w.heap.size + 1, 0, none⟩ (.int .i64 0)).setCell ⟨w.heap.size + 1, 1, none⟩ (.slice (some ⟨w3.heap.size, 0, none⟩) 1 1)).setCell ⟨w.heap.size + 1, 2, none⟩ (.bool false)) := ⟨hok.row, hok.fam, hok.qual, hok.time, hok.va.wr R3 (by simp) KW⟩
      have CL1 := CL.one (((w3.setCell ⟨w.heap.size + 1, 0, none⟩ (.int .i64 0)).setCell ⟨w.heap.size + 1, 1, none⟩ (.slice (some ⟨w3.heap.size, 0, none⟩) 1 1)).setCell ⟨w.heap.size + 1, 2, none⟩ (.bool false)) c (ok5.below ((Below.refl _ _).alloc (Nat.le_refl _) _))
      rw [hgn, show (((w3.setCell ⟨w.heap.size + 1, 0, none⟩ (.int .i64 0)).setCell ⟨w.heap.size + 1, 1, none⟩ (.slice (some ⟨w3.heap.size, 0, none⟩) 1 1)).setCell ⟨w.heap.size + 1, 2, none⟩ (.bool false)).heap.size = w3.heap.size by simp] at CL1
      clear hgn
      go_wp2
      exact bodyPost_ret (v := .agg #[.int .i64 0, .slice (some ⟨w3.heap.size, 0, none⟩) 1 1, .bool false]) (by simp [results, Tryz.results79, go_sem, r0, r1, r2, lt]) rfl ⟨by rw [HM.out]; exact ⟨_, _, _, [c], rfl, CL1, rfl⟩, Wr.below B3 (KW.alloc _) B3.size (Nat.le_succ _)⟩
end Go.Proofs.YthlpccajnmkbjaaGreatDoor

namespace Go.Proofs.YthlpccajnmkbjaaGreatDoor
open Go.RowKit

theorem less_cmp : ∀ a b : List UInt8, Op.bytesLess a b = decide (cmpL (a.map fun c => (c.toNat : Int)) (b.map fun c => (c.toNat : Int)) < 0)
  | [], [] => rfl
  | _ :: _, [] => rfl
  | [], _ :: _ => rfl
  | a :: x, b :: y => by
    rw [Op.bytesLess, less_cmp x y, List.map_cons, List.map_cons, cmpL_cons]
    by_cases e : a = b
    · subst e
      have h : ¬ a < a := UInt8.lt_irrefl a
      simp [h]
    · have hn : a.toNat ≠ b.toNat := fun h => e (UInt8.toNat_inj.1 h)
      have hb : (a == b) = false := by simp [e]
      rw [hb, if_neg (by omega)]
      by_cases l : a < b
      · have l2 : (a.toNat : Int) < (b.toNat : Int) := by have := UInt8.lt_iff_toNat_lt.1 l; omega
        rw [if_pos l2]
        simp [l]
      · have l2 : ¬ (a.toNat : Int) < (b.toNat : Int) := fun h => l (UInt8.lt_iff_toNat_lt.2 (by omega))
        rw [if_neg l2]
        simp [l]
theorem less_sb (s t : ByteArray) : Op.bytesLess s.toList t.toList = decide (cmpL (sb s) (sb t) < 0) := by
  rw [ByteArray.toList_eq, ByteArray.toList_eq, less_cmp]
  rfl
end Go.Proofs.YthlpccajnmkbjaaGreatDoor

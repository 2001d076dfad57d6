/-
  Texts in one: GNew, GSet, ExSt, SlClone, SlCert, SlBut.
-/
import Derived.Test.YtbpbcmbcoffdlaaSlotsCertsQFL
import Derived.Test.YtbpbcmbcoffdlaaSlotsCertsQ0
import Derived.DataElems
import Derived.ArgAppend
import Derived.Deep.Upon
import Derived.Deep.MidRow
import Derived.Test.YtbpbcmbcoffdlaaSlotsCertsQ2
import Derived.Lib.SliceRun
namespace Go.Proofs.Ytbpbcmbcoffdlaa
open Go.RowKit
def flatE {α : Type} (E : El α) (l : List α) : List Value := (l.map E.c).flatten
variable {α : Type} {E : El α} {w0 w W W' : World} {base : Nat} {v : Value} {l qs : List α} {t s : TypeId} {bytes : Nat} {z : Value}
theorem flatE_app (E : El α) (l m : List α) : flatE E (l ++ m) = flatE E l ++ flatE E m := by simp [flatE]
theorem flatE_one (F : E.Fine) (l : List α) : ∀ u ∈ flatE E l, u.oneCell' = true := by
  intro u hu
  unfold flatE at hu
  obtain ⟨cs, h1, h2⟩ := List.mem_flatten.1 hu
  obtain ⟨c, -, rfl⟩ := List.mem_map.1 h1
  exact F.one c u h2
theorem flatE_len (F : E.Fine) (l : List α) : (flatE E l).length = l.length * E.sz := flat_len E.c E.sz F.len l
theorem GL.flat (F : E.Fine) {ao : Option Addr} {n cap : Nat} (h : GL E w ao n cap qs) {a : Addr} (ha : ao = some a) : ∀ j u, (flatE E qs)[j]? = some u → w.cell? (a.add j) = some u := fun j u hu => by
  have hj := (List.getElem?_eq_some_iff.1 hu).1
  rw [flatE_len F] at hj
  have hz := F.pos
  have hq : j / E.sz < qs.length := (Nat.div_lt_iff_lt_mul hz).2 hj
  have ej : j / E.sz * E.sz + j % E.sz = j := by rw [Nat.mul_comm]; exact Nat.div_add_mod j E.sz
  have hg := flat_get E.c E.sz F.len qs (j / E.sz) (j % E.sz) hq (Nat.mod_lt _ hz)
  rw [ej] at hg
  have := h.cell a ha (j / E.sz) hq (j % E.sz) u (hg.symm.trans hu)
  rw [ej] at this
  exact this
structure GNew (E : El α) (t : TypeId) (w0 W : World) (base : Nat) (v : Value) (l : List α) : Prop where
  row : W.ownsRow base t E.sz v l.length (flatE E l)
  ok : ∀ c ∈ l, E.ok c w0
theorem GNew.gl (F : E.Fine) (h : GNew E t w0 W base v l) (hb : Below w0.heap.size w0 W) : ∃ ao cap, v = .slice ao l.length cap ∧ GL E W ao l.length cap l ∧ ∀ z, sblk ao l.length z → base ≤ z := by
  have hok : ∀ c ∈ l, E.ok c W := fun c hc => F.kept c w0 W (h.ok c hc) fun z hz => hb.block z (F.lt c w0 z (h.ok c hc) hz)
  rcases h.row.2 with ⟨rfl, e⟩ | ⟨g, cap, cur, rfl, a1, a2, a3, a4, a5, a6⟩
  · rw [e]
    have : l = [] := List.eq_nil_of_length_eq_zero e
    subst this
    exact ⟨none, 0, rfl, GL.nothing E W, fun z hz => by obtain ⟨a, ha, _⟩ := hz; cases ha⟩
  · refine ⟨some ⟨g, 0, none⟩, cap, rfl, ⟨rfl, a3, a4, fun h => by simp at h, fun a ha i hi j u hu => ?_, hok⟩, fun z hz => by obtain ⟨a, ha, _, rfl⟩ := hz; cases ha; exact a1⟩
    obtain rfl := Option.some.inj ha
    have hj : j < E.sz := by have := (List.getElem?_eq_some_iff.1 hu).1; rw [F.len] at this; exact this
    refine h.row.cells (g := g) rfl (i * E.sz + j) u ?_
    unfold flatE
    rw [flat_get E.c E.sz F.len l i j hi hj]
    exact hu
theorem src_nil {P : Program} {w : World} {t e : TypeId} {i : TypeInfo} {bo : Option Addr} {c : Nat} (ht : P.underlying t = some (.slice e)) : Src P i.size t (.slice bo 0 c) 0 [] w := by
  refine ⟨.inl ⟨e, ht⟩, fun w' => rfl, ?_, ?_, by simp, by simp⟩ <;> cases bo <;> simp [Builtin.firstCells] <;> rfl
theorem run_appGs (F : E.Fine) (hty : GTy E.sz bytes z t s) (ty : TypeId) (h : GNew E t w0 w base v l) (hb : base ≤ w.heap.size) {bo : Option Addr} {m c : Nat} (hx : GL E w bo m c qs) (hok : ∀ q ∈ qs, E.ok q w0) (hn : (l.length + m) * bytes ≤ 140737488355328) (hm : l.length + m ≤ maxLen) :
    ∃ v' w', (Builtin.append_ #[s, s] ty #[v, .slice bo m c]).run Try.prog w = .ok v' w' ∧ GNew E t w0 w' base v' (l ++ qs) ∧ Below base w w' := by
  obtain ⟨i0, hi, hz0, hz1, hz2⟩ := info_parts hty.info
  have hlen := hx.len
  have key : ∀ d ∈ l ++ qs, E.ok d w0 := fun d hd => by
    rcases List.mem_append.1 hd with hd | hd
    · exact h.ok d hd
    · exact hok d hd
  by_cases h0 : m = 0
  · subst h0
    obtain rfl : qs = [] := List.eq_nil_of_length_eq_zero hlen
    have hv : ∃ ao cap, v = .slice ao l.length cap ∧ l.length ≤ cap := by
      rcases h.row.2 with ⟨rfl, e⟩ | ⟨g, cap, cur, rfl, hg, hh, hle, _⟩
      · rw [e]
        exact ⟨none, 0, rfl, Nat.le_refl _⟩
      · exact ⟨_, cap, rfl, hle⟩
    obtain ⟨ao, cap, rfl, hle⟩ := hv
    refine ⟨_, w, run_append_nothing w s s ty t i0 hty.und hi ao l.length cap hle _ (src_nil hty.und), ⟨?_, key⟩, Below.refl _ _⟩
    simpa using h.row
  · obtain ⟨ad, rfl⟩ : ∃ ad, bo = some ad := by
      cases bo with
      | none => have := (hx.nil rfl).1; omega
      | some ad => exact ⟨ad, rfl⟩
    obtain ⟨v', w', h1, h2, h3, -⟩ := run_append_own (P := Try.prog) w base s ty t i0 _ E.sz bytes hty.und hi hz0 hz1 hz2 hty.zs F.pos v l.length (flatE E l) h.row ad m c (flatE E qs) (by rw [flatE_len F, hlen]) (hx.flat F rfl) (flatE_one F qs) hm hn hb
    refine ⟨v', w', h1, ⟨?_, key⟩, (Below.refl _ w).grown h3 hb (fun k hk => (h.row.lt k hk).1)⟩
    rw [flatE_app, List.length_append, hlen]
    exact h2
end Go.Proofs.Ytbpbcmbcoffdlaa
namespace Go.Proofs.Ytbpbcmbcoffdlaa
open Go.RowKit
variable {α : Type} {E : El α} {w0 w W : World} {base : Nat} {v : Value} {l : List α} {t : TypeId}
theorem cells_grown (w : World) (p o : Nat) (vs : List Value) : w.grownBy (w.setCells p o vs) (some p) := by
  induction vs generalizing w o with
  | nil => exact ⟨rfl, rfl, rfl, Nat.le_refl _, fun _ _ _ => rfl⟩
  | cons v vs ih =>
    have h1 : w.grownBy (w.setCell ⟨p, o, none⟩ v) (some p) := grown_set (bel_grown (Below.refl _ w) _) o v
    exact gro_trans h1 (ih _ _)
end Go.Proofs.Ytbpbcmbcoffdlaa
namespace Go.Proofs.Ytbpbcmbcoffdlaa
open Go.RowKit
theorem exec_store {P : Program} {w w' : World} {o : Oper} {a : Act} {t : TypeId} {x y : Operand} {p v : Value} (ho : o.op = .store t x y) (hx : a.eval x = p) (hy : a.eval y = v) (h : (Instr.storeAt t p v).run P w = .ok () w') : (execOp a.eval o).run P w = .ok .skip w' := by
  unfold execOp
  simp only [ho, hx, hy, Sem.run_bind, h, Result.andThen_ok, Sem.run_pure]
def putAt : List Value → Nat → List Value → List Value
  | zs, _, [] => zs
  | zs, o, v :: vs => putAt (zs.set o v) (o + 1) vs
theorem Arr.setAll {g : Nat} {t : TypeId} : ∀ (vs zs : List Value) (o : Nat) (w : World), Arr w g t zs → Arr (w.setCells g o vs) g t (putAt zs o vs)
  | [], _, _, _, h => h
  | v :: vs, zs, o, w, h => Arr.setAll vs (zs.set o v) (o + 1) (w.setCell ⟨g, o, none⟩ v) (h.set o v)
theorem store_row {w : World} {g : Nat} {t : TypeId} {zs cs : List Value} (A : Arr w g t zs) (sz : (Try.prog.info? t).map (·.size) = some cs.length) (hl : zs.length = cs.length) (one : ∀ u ∈ cs, u.oneCell' = true) :
    (Instr.storeAt t (.pointer (some ⟨g, 0, none⟩)) (.agg cs.toArray)).run Try.prog w = .ok () (w.setCells g 0 cs) ∧ w.grownBy (w.setCells g 0 cs) (some g) := by
  refine ⟨run_storeAt_mid w g 0 t cs.toArray (fun j hj => ⟨?_, A.free _⟩) (by simpa using sz) (all_oneCell_toArray one), cells_grown w g 0 cs⟩
  have hj : j < zs.length := by rw [hl]; simpa using hj
  rw [Nat.zero_add, A.cell, List.getElem?_eq_getElem hj]
  rfl
theorem arr_not {w : World} {b base sz n : Nat} {t u : TypeId} {cs xs : List Value} {v : Value} (h : Arr w b t cs) (hne : t ≠ u) (ho : w.ownsRow base u sz v n xs) : v.ownBlock ≠ some b := by
  intro e
  rcases ho.2 with ⟨rfl, _⟩ | ⟨g, cap, cur, rfl, a1, a2, _⟩
  · cases e
  · obtain rfl : g = b := Option.some.inj e
    unfold Arr at h
    rw [h] at a2
    simp only [Option.some.injEq, Obj.cells.injEq] at a2
    exact hne a2.2.1
open Go.RowKit
theorem sgsz : (Try.prog.info? 62).map (·.size) = some 3 := by kernel_rfl
theorem grown_cell {w w' : World} {p b o : Nat} (G : w.grownBy w' (some p)) (hb : b < w.heap.size) (hne : b ≠ p) : w'.cell? ⟨b, o, none⟩ = w.cell? ⟨b, o, none⟩ :=
  World.cell?_of_block (G.block b hb fun e => hne (Option.some.inj e))
theorem sblk_new {w : World} {ro : Option Addr} {n base : Nat} (h : ∀ a, ro = some a → base ≤ a.block ∧ a.block < w.heap.size ∧ a.off = 0 ∧ a.spot = none) : ∀ z, sblk ro n z → base ≤ z := by
  rintro z ⟨a, ha, _, rfl⟩
  exact (h a ha).1
set_option maxHeartbeats 400000 in
set_option maxRecDepth 100000 in
theorem bclone15 (w : World) (ao : Option Addr) (n cap : Nat) (xs : List Int) (h : Sl w ao n cap xs) (hn : n ≤ 1000000) :
    Calls Try.prog 72 #[.slice ao n cap] w fun e w' => ∃ ro rc, e = .returned (.slice ro n rc) ∧ Sl w' ro n rc xs ∧ Below w.heap.size w w' ∧ ∀ z, sblk ro n z → w.heap.size ≤ z := by
  cases ao with
  | none =>
    obtain ⟨rfl, rfl⟩ := h.nil rfl
    obtain rfl : xs = [] := List.eq_nil_of_length_eq_zero h.len
    have hq : ∀ W, _ := fun W => Lib.run_eql_slice_nil (P := Try.prog) W 35 5 none 0 0 0 0 Try.underlying35
    go_enter Try.func72, Try.ntmps72
    go_wp2
    go_ret
    exact ⟨none, 0, rfl, Sl.nothing w, Below.refl _ _, fun z ⟨a, ha, _⟩ => by cases ha⟩
  | some a =>
    have B0 : Below w.heap.size w (w.alloc (.cells #[] 5)) := (Below.refl _ w).alloc (Nat.le_refl _) _
    have h0 := h.below B0
    have o0 : (w.alloc (.cells #[] 5)).ownsRow w.heap.size 5 1 (.slice (some ⟨w.heap.size, 0, none⟩) 0 0) 0 (bv []) := World.ownsRow_made w #[] 0 (Nat.le_refl _) (Nat.zero_le _) rfl
    have hb := h.byte
    have hq : ∀ W, _ := fun W => Lib.run_eql_slice_nil (P := Try.prog) W 35 5 (some a) n cap 0 0 Try.underlying35
    go_enter Try.func72, Try.ntmps72
    go_wp2_with (at_builtin; refine wpList_app rfl _ _ rfl w.heap.size _ _ _ rfl o0 _ _ _ _ rfl h0 (by omega) (by simp) ?_; intro v1 w1 own1 B1)
    simp only [Nat.zero_add, List.nil_append] at own1
    obtain ⟨ro, rc, rfl, S, hbb⟩ := Sl.own own1 hb
    go_wp2
    go_ret
    exact ⟨ro, rc, rfl, S, B0.trans B1, sblk_new hbb⟩
set_option maxRecDepth 100000 in
set_option maxHeartbeats 4000000 in
theorem clone15 (w : World) (s : SA) (h : s.ok w) (hz : s.b.n ≤ 1000000 ∧ s.tag.n ≤ 1000000) :
    Calls Try.prog 51 #[s.val] w fun e w' => ∃ ro rc so sc, e = .returned (.agg #[.int .u64 s.fr, .slice ro s.b.n rc, .slice so s.tag.n sc]) ∧ Sl w' ro s.b.n rc s.b.xs ∧ Sl w' so s.tag.n sc s.tag.xs ∧ Below w.heap.size w w' ∧ (∀ z, sblk ro s.b.n z → w.heap.size ≤ z) ∧ (∀ z, sblk so s.tag.n z → w.heap.size ≤ z) := by
  have HZ : Hid (s.b.n ≤ 1000000 ∧ s.tag.n ≤ 1000000) := hz
  obtain ⟨W1, hW1⟩ : ∃ W1, W1 = (w.alloc (.cells #[.int .u64 s.fr, .slice s.b.ao s.b.n s.b.cap, .slice s.tag.ao s.tag.n s.tag.cap] 62)).alloc (.cells #[.int .u64 0, .slice none 0 0, .slice none 0 0] 62) := ⟨_, rfl⟩
  have b1 : Below w.heap.size w W1 := by rw [hW1]; exact ((Below.refl _ w).alloc (Nat.le_refl _) _).alloc (by simp) _
  have AX : Arr W1 w.heap.size 62 [.int .u64 s.fr, .slice s.b.ao s.b.n s.b.cap, .slice s.tag.ao s.tag.n s.tag.cap] := by
    rw [hW1]
    exact Arr.below (heap_alloc_new w _) ((Below.refl _ _).alloc (Nat.le_refl _) _) (by simp)
  have AY : Arr W1 (w.heap.size + 1) 62 [.int .u64 0, .slice none 0 0, .slice none 0 0] := by
    rw [hW1]
    have e : (w.alloc (.cells #[.int .u64 s.fr, .slice s.b.ao s.b.n s.b.cap, .slice s.tag.ao s.tag.n s.tag.cap] 62)).heap.size = w.heap.size + 1 := by simp
    have := heap_alloc_new (w.alloc (.cells #[.int .u64 s.fr, .slice s.b.ao s.b.n s.b.cap, .slice s.tag.ao s.tag.n s.tag.cap] 62)) (.cells #[.int .u64 0, .slice none 0 0, .slice none 0 0] 62)
    rw [e] at this
    exact this
  have x0 : W1.cell? ⟨w.heap.size, 0, none⟩ = some (.int .u64 s.fr) := AX.cell 0
  have x1 : W1.cell? ⟨w.heap.size, 1, none⟩ = some (.slice s.b.ao s.b.n s.b.cap) := AX.cell 1
  have x2 : W1.cell? ⟨w.heap.size, 2, none⟩ = some (.slice s.tag.ao s.tag.n s.tag.cap) := AX.cell 2
  have HLT : Hid (w.heap.size < W1.heap.size) := AX.lt
  have HOK : Hid (s.ok W1) := h.below b1
  have HBL : Hid (Below w.heap.size w W1) := b1
  have HB : Hid (∀ V, Below W1.heap.size W1 V → Arr V (w.heap.size + 1) 62 [.int .u64 0, .slice none 0 0, .slice none 0 0]) := fun V hV => AY.below hV AY.lt
  have HL2 : Hid (w.heap.size + 1 < W1.heap.size) := AY.lt
  clear AX AY h hz b1
  unfold SA.val
  go_enter Try.func51, Try.ntmps51
  go_wp2_with fail
  trace_state
  rw [← hW1]
  clear hW1
  have HS : Hid (∀ V, Below W1.heap.size W1 V → V.cell? ⟨w.heap.size, 0, none⟩ = some (.int .u64 s.fr) ∧ V.cell? ⟨w.heap.size, 1, none⟩ = some (.slice s.b.ao s.b.n s.b.cap) ∧ V.cell? ⟨w.heap.size, 2, none⟩ = some (.slice s.tag.ao s.tag.n s.tag.cap)) := fun V hV => ⟨(hV.cell (p := ⟨w.heap.size, 0, none⟩) HLT.out).trans x0, (hV.cell (p := ⟨w.heap.size, 1, none⟩) HLT.out).trans x1, (hV.cell (p := ⟨w.heap.size, 2, none⟩) HLT.out).trans x2⟩
  have E0 : Below W1.heap.size W1 W1.drew := (Below.refl _ _).drew
  refine wp_region_noPanic ?_
  refine wp_region_held_drew (S := fun V => V.cell? ⟨w.heap.size, 0, none⟩ = some (.int .u64 s.fr) ∧ V.cell? ⟨w.heap.size, 1, none⟩ = some (.slice s.b.ao s.b.n s.b.cap) ∧ V.cell? ⟨w.heap.size, 2, none⟩ = some (.slice s.tag.ao s.tag.n s.tag.cap)) (by kernel_rfl) (HS.out _ E0) (fun H0 => ?_)
  obtain ⟨v0, hv0⟩ : ∃ v, v = W1.drew := ⟨_, rfl⟩
  rw [← hv0] at H0 E0 ⊢
  clear hv0
  refine hr_take_w 0 (some 3) (.pointer (some ⟨w.heap.size, 0, none⟩)) rfl rfl (by kernel_rfl) (by kernel_rfl) (by kernel_rfl) rfl (fun W hW => by obtain ⟨h0, h1, h2⟩ := hW; go_simp) H0 ?_
  simp only [FL]
  refine hr_take_w 1 (some 4) (.int .u64 s.fr) rfl rfl (by kernel_rfl) (by kernel_rfl) (by kernel_rfl) rfl (fun W hW => by obtain ⟨h0, h1, h2⟩ := hW; go_simp) H0 ?_
  simp only [FL]
  refine hr_take_w 2 (some 5) (.pointer (some ⟨w.heap.size, 1, none⟩)) rfl rfl (by kernel_rfl) (by kernel_rfl) (by kernel_rfl) rfl (fun W hW => by obtain ⟨h0, h1, h2⟩ := hW; go_simp) H0 ?_
  simp only [FL]
  refine hr_take_w 3 (some 6) (.slice s.b.ao s.b.n s.b.cap) rfl rfl (by kernel_rfl) (by kernel_rfl) (by kernel_rfl) rfl (fun W hW => by obtain ⟨h0, h1, h2⟩ := hW; go_simp) H0 ?_
  simp only [FL]
  refine hr_take_w 5 (some 8) (.pointer (some ⟨w.heap.size, 2, none⟩)) rfl rfl (by kernel_rfl) (by kernel_rfl) (by kernel_rfl) rfl (fun W hW => by obtain ⟨h0, h1, h2⟩ := hW; go_simp) H0 ?_
  simp only [FL]
  refine hr_take_w 6 (some 9) (.slice s.tag.ao s.tag.n s.tag.cap) rfl rfl (by kernel_rfl) (by kernel_rfl) (by kernel_rfl) rfl (fun W hW => by obtain ⟨h0, h1, h2⟩ := hW; go_simp) H0 ?_
  simp only [FL]
  · refine hr_call_w 4 (some 7) 72 #[.slice s.b.ao s.b.n s.b.cap] rfl rfl (by kernel_rfl) (by kernel_rfl) (by go_simp) (fun v w' => ∃ ro rc, v = .slice ro s.b.n rc ∧ Sl w' ro s.b.n rc s.b.xs ∧ Below v0.heap.size v0 w' ∧ ∀ z, sblk ro s.b.n z → v0.heap.size ≤ z) ((bclone15 v0 _ _ _ _ (HOK.out.b.below E0) (by have := HZ.out; omega)).mono (by rintro e w' ⟨ro, rc, rfl, h1, h2, h3⟩; exact ⟨_, rfl, ro, rc, rfl, h1, h2, h3⟩)) ?_
    rintro v v1 ⟨ro, rc, rfl, S1, C1, G1⟩
    have E1 := E0.trans (C1.mono E0.size)
    have H1 := HS.out v1 E1
    refine ⟨H1, ?_⟩
    simp only [FL]
    refine hr_call_w 7 (some 10) 72 #[.slice s.tag.ao s.tag.n s.tag.cap] rfl rfl (by kernel_rfl) (by kernel_rfl) (by go_simp) (fun v w' => ∃ ro rc, v = .slice ro s.tag.n rc ∧ Sl w' ro s.tag.n rc s.tag.xs ∧ Below v1.heap.size v1 w' ∧ ∀ z, sblk ro s.tag.n z → v1.heap.size ≤ z) ((bclone15 v1 _ _ _ _ (HOK.out.tag.below E1) (by have := HZ.out; omega)).mono (by rintro e w' ⟨ro, rc, rfl, h1, h2, h3⟩; exact ⟨_, rfl, ro, rc, rfl, h1, h2, h3⟩)) ?_
    rintro v v2 ⟨so, sc, rfl, S2, C2, G2⟩
    have E2 := E1.trans (C2.mono E1.size)
    have H2 := HS.out v2 E2
    have S1 := S1.below C2
    refine ⟨H2, ?_⟩
    simp only [FL]
    refine hr_take_w 8 (some 11) (.agg #[.int .u64 s.fr, .slice ro s.b.n rc, .slice so s.tag.n sc]) rfl rfl (by kernel_rfl) (by kernel_rfl) (by kernel_rfl) rfl (fun W hW => by obtain ⟨h0, h1, h2⟩ := hW; go_simp) H2 ?_
    simp only [FL]
    have AY := HB.out v2 E2
    obtain ⟨st, GR⟩ := store_row AY (cs := [.int .u64 s.fr, .slice ro s.b.n rc, .slice so s.tag.n sc]) sgsz rfl (fun u hu => by simp only [List.mem_cons, List.not_mem_nil, or_false] at hu; rcases hu with rfl | rfl | rfl <;> rfl)
    have AZ : Arr (v2.setCells (w.heap.size + 1) 0 [.int .u64 s.fr, .slice ro s.b.n rc, .slice so s.tag.n sc]) (w.heap.size + 1) 62 [.int .u64 s.fr, .slice ro s.b.n rc, .slice so s.tag.n sc] := AY.setAll [.int .u64 s.fr, .slice ro s.b.n rc, .slice so s.tag.n sc] _ 0 _
    have hlt : w.heap.size < v2.heap.size := Nat.lt_of_lt_of_le HLT.out E2.size
    refine hr_skip 9 none (w' := v2.setCells (w.heap.size + 1) 0 [.int .u64 s.fr, .slice ro s.b.n rc, .slice so s.tag.n sc]) rfl rfl (by kernel_rfl) rfl (exec_store rfl rfl rfl st) ⟨(grown_cell GR hlt (by omega)).trans H2.1, (grown_cell GR hlt (by omega)).trans H2.2.1, (grown_cell GR hlt (by omega)).trans H2.2.2⟩ ?_
    simp only [Act.put]
    refine wpAnyH_done (by kernel_rfl) ?_ _
    refine NoPanic.normal ?_
    go_wp2
    refine bodyPost_ret (v := .agg #[.int .u64 s.fr, .slice ro s.b.n rc, .slice so s.tag.n sc]) (results_cell_row rfl _ _ (w.heap.size + 1) 62 _ _ _ rfl AZ (by rfl) (by rfl) (by rfl)) rfl ?_
    have bb := HBL.out.trans (E2.mono HBL.out.size)
    have l1 : ∀ z, W1.heap.size ≤ z → z ≠ w.heap.size + 1 := fun z hz e => by have := HL2.out; omega
    have gg : Below w.heap.size w (v2.setCells (w.heap.size + 1) 0 [.int .u64 s.fr, .slice ro s.b.n rc, .slice so s.tag.n sc]) := bb.grown GR bb.size (fun j hj => by cases hj; omega)
    have s1 : v0.heap.size ≤ v1.heap.size := C1.size
    have s0 : W1.heap.size ≤ v0.heap.size := E0.size
    have t1 := HL2.out
    exact ⟨ro, rc, so, sc, rfl, Sl.kept (b := ⟨ro, s.b.n, rc, s.b.xs⟩) S1 (fun z hz => GR.block z (Sl.blk_lt (b := ⟨ro, s.b.n, rc, s.b.xs⟩) S1 hz) (fun e => by have := G1 z hz; have := Option.some.inj e; omega)), Sl.kept (b := ⟨so, s.tag.n, sc, s.tag.xs⟩) S2 (fun z hz => GR.block z (Sl.blk_lt (b := ⟨so, s.tag.n, sc, s.tag.xs⟩) S2 hz) (fun e => by have := G2 z hz; have := Option.some.inj e; omega)), gg, fun z hz => by have := G1 z hz; omega, fun z hz => by have := G2 z hz; omega⟩
open Go.RowKit
theorem store_part {w : World} {g o : Nat} {t u : TypeId} {zs cs : List Value} (A : Arr w g t zs) (sz : (Try.prog.info? u).map (·.size) = some cs.length) (hl : o + cs.length ≤ zs.length) (one : ∀ u ∈ cs, u.oneCell' = true) :
    (Instr.storeAt u (.pointer (some ⟨g, o, none⟩)) (.agg cs.toArray)).run Try.prog w = .ok () (w.setCells g o cs) ∧ w.grownBy (w.setCells g o cs) (some g) := by
  refine ⟨run_storeAt_mid w g o u cs.toArray (fun j hj => ⟨?_, A.free _⟩) (by simpa using sz) (all_oneCell_toArray one), cells_grown w g o cs⟩
  have hj : o + j < zs.length := by have : j < cs.length := by simpa using hj
                                    omega
  rw [A.cell, List.getElem?_eq_getElem hj]
  rfl
theorem prfV_mem {s : ByteArray} {y : SV} : ∀ (l : List VT) (i : Nat), y ∈ prfV s i l → ∃ v ∈ l, y.b = sb v.body ∧ y.tag = sb v.tag
  | [], _, h => absurd h List.not_mem_nil
  | v :: l, i, h => by
    unfold prfV at h
    have rc := fun (h : y ∈ prfV s (i + 1) l) => prfV_mem (y := y) l (i + 1) h
    split at h
    · rcases List.mem_cons.1 h with rfl | h
      · exact ⟨v, List.mem_cons_self, rfl, rfl⟩
      · obtain ⟨u, h1, h2⟩ := rc h
        exact ⟨u, List.mem_cons_of_mem _ h1, h2⟩
    · obtain ⟨u, h1, h2⟩ := rc h
      exact ⟨u, List.mem_cons_of_mem _ h1, h2⟩
theorem cesz : (Try.prog.info? 85).map (·.size) = some 4 := by kernel_rfl
theorem made_one (w : World) (s : SA) (h : s.ok w) : GNew elS 62 w (w.alloc (.cells #[.int .u64 s.fr, .slice s.b.ao s.b.n s.b.cap, .slice s.tag.ao s.tag.n s.tag.cap] 62)) w.heap.size (.slice (some ⟨w.heap.size, 0, none⟩) 1 1) [s] :=
  ⟨⟨rfl, .inr ⟨w.heap.size, 1, _, rfl, Nat.le_refl _, heap_alloc_new w _, Nat.le_refl _, by decide, rfl, rfl⟩⟩, fun c hc => by rw [List.mem_singleton.1 hc]; exact h⟩
theorem proof_sb (w : World) (p f : Nat) (l : List VT) (h : QS w p f l) (ao : Option Addr) (m cap : Nat) (s : ByteArray) (S : Sl w ao m cap (sb s)) (n : Nat) (hn : 1 ≤ n) (hc : n ≤ cntV s l) : Calls Try.prog 74 #[.pointer (some ⟨p, 0, none⟩), .slice ao m cap, .int .i64 (n : Nat)] w fun x w' =>
    ∃ ao m cap ys, x = .returned (.slice ao m cap) ∧ GL elS w' ao m cap ys ∧ ys.map SA.v = (prfV s 0 l).take n ∧ Below w.heap.size w w' ∧ ∀ z, GLb elS ao m ys z → w.heap.size ≤ z := by
  have hs := str_sb s
  have := proof_manyF w p f l h ao m cap (sb s) S n hn (by rw [hs]; exact hc)
  rw [hs] at this
  refine this.mono ?_
  rintro x w' ⟨ao, m, cap, ys, h1, h2, h3, h4, h5⟩
  refine ⟨ao, m, cap, ys, h1, h2, ?_, h4, h5⟩
  rw [h3]
  unfold prfN
  rw [if_neg (by omega)]
  rfl
def CertPost (w : World) (base L M n : Nat) (g : GT) (F : Value → Option Value) (ρ : Nat → Nat) (k : Nat) (x : ST) (e : Ending) (w' : World) : Prop :=
  ∃ B' ρ', e = .returned (.tuple #[]) ∧ LG w' base L M n (g.put k (certS g.f g.view x)) F B' ρ' ∧ Stp base w w' ρ ρ'
set_option maxRecDepth 100000 in
set_option maxHeartbeats 4000000 in
theorem certify_yes (w : World) (base L M n : Nat) (g : GT) (F : Value → Option Value) (B : Nat → SB) (ρ : Nat → Nat) (h : LG w base L M n g F B ρ) (k : Nat) (x : ST) (hx : g.s k = some x) (c1 : certIn g.view x = false) (c2 : prepS g.f x = true) :
    Calls Try.prog 52 #[.pointer (some ⟨L, 0, none⟩), .pointer (some ⟨(B k).X, 0, none⟩)] w (CertPost w base L M n g F ρ k x) := by
  obtain ⟨hF, hA⟩ := h.here k x hx
  have HCS : Hid (certS g.f g.view x = { x with cert := some ⟨g.view, x.sum, x.pre :: (prfV x.sum 0 x.pv).take (2 * g.f)⟩ }) := by
    show _ = _
    unfold certS
    rw [c1, c2]
    rfl
  have f1 := h.f1
  have f4 := h.f4
  have C1 := fun V (hV : Below w.heap.size w V) => certIn_any V g.f (B k) x (hA.keep (hV.block _ hA.lt) (hV.block _ hA.P.lt) (hV.block _ hA.Q.lt) fun z hz => hV.block z (hA.imm_lt hz)) g.view
  have C2 := fun V (hV : Below w.heap.size w V) => isPrep_any V L g.f g.low g.view M (h.lc.below hV) f4 (B k) x (hA.keep (hV.block _ hA.lt) (hV.block _ hA.P.lt) (hV.block _ hA.Q.lt) fun z hz => hV.block z (hA.imm_lt hz))
  have HL : Hid (∀ V, Below w.heap.size w V → LC V L g.f g.low g.view M) := fun V hV => h.lc.below hV
  have HX : Hid (∀ V, Below w.heap.size w V → Arr V (B k).X 87 ((B k).rc x ++ (B k).cc x)) := fun V hV => Arr.below hA.mem hV hA.lt
  have HQ : Hid (∀ V, Below w.heap.size w V → QS V (B k).p g.f x.pv) := fun V hV => hA.P.below hV
  have HOK : Hid (∀ V, Below w.heap.size w V → (B k).s.ok V) := fun V hV => hA.sok.below hV
  have HZ : Hid (x.sum.size ≤ 1000000) := hA.sz
  have HC : Hid ((1 ≤ g.f ∧ g.f ≤ 4) ∧ 2 * g.f ≤ cntV x.sum x.pv) := ⟨⟨f1, f4⟩, by
    unfold prepS at c2
    simp at c2
    exact c2.2⟩
  have x2 : w.cell? ⟨L, 2, none⟩ = some (.int .u64 (g.view : Nat)) := h.lc.cell 2
  have HNL : Hid (L ≠ (B k).X) := fun e => by
    have r1 := (h.ro k x hx).1
    rw [← e, h.rL] at r1
    omega
  have HLG : Hid (LG w base L M n g F B ρ ∧ g.s k = some x ∧ SlotAt w g.f (B k) x) := ⟨h, hx, hA⟩
  have mw : IntKind.i64.wrap (2 * (g.f : Int)) = ((2 * g.f : Nat) : Int) := by rw [IntKind.wrap_i64]; omega
  rw [c1] at C1
  rw [c2] at C2
  clear h hF hA hx c1 c2 f1 f4
  go_enter Try.func52, Try.ntmps52
  go_wp2_with (first
    | (go_at_call 73; refine (C1 _ (Below.refl _ _)).mono ?_; rintro e w1 ⟨rfl, hw1⟩; have hw1 := hw1.symm; subst hw1)
    | (go_at_call 44; refine (C2 _ (Below.refl _ _)).mono ?_; rintro e w2 ⟨rfl, EW⟩))
  have tHS : Hid (∀ V, Below w2.heap.size w2 V → V.cell? ⟨(B k).X, 1, none⟩ = some (.string x.sum) ∧ V.cell? ⟨(B k).X, 5, none⟩ = some (.pointer (some ⟨(B k).p, 0, none⟩)) ∧ V.cell? ⟨L, 0, none⟩ = some (.int .i64 (g.f : Nat))) := fun V hV => by have hW := EW.trans (hV.mono EW.size); have K := HX.out V hW; exact ⟨K.cell 1, K.cell 5, (HL.out V hW).cell 0⟩
  have tE0 : Below w2.heap.size w2 w2.drew := (Below.refl _ _).drew
  refine wp_region_noPanic ?_
  refine wp_region_held_drew (S := fun V => V.cell? ⟨(B k).X, 1, none⟩ = some (.string x.sum) ∧ V.cell? ⟨(B k).X, 5, none⟩ = some (.pointer (some ⟨(B k).p, 0, none⟩)) ∧ V.cell? ⟨L, 0, none⟩ = some (.int .i64 (g.f : Nat))) (by kernel_rfl) (tHS.out _ tE0) (fun tH0 => ?_)
  obtain ⟨tv0, hv0⟩ : ∃ v, v = w2.drew := ⟨_, rfl⟩
  rw [← hv0] at tH0 tE0 ⊢
  clear hv0
  refine hr_take_w 0 (some 17) (.pointer (some ⟨(B k).X, 0, none⟩)) rfl rfl (by kernel_rfl) (by kernel_rfl) (by kernel_rfl) rfl (fun W hW => by obtain ⟨h0, h1, h2⟩ := hW; go_simp) tH0 ?_
  simp only [FL]
  refine hr_take_w 1 (some 18) (.pointer (some ⟨(B k).X, 0, none⟩)) rfl rfl (by kernel_rfl) (by kernel_rfl) (by kernel_rfl) rfl (fun W hW => by obtain ⟨h0, h1, h2⟩ := hW; go_simp) tH0 ?_
  simp only [FL]
  refine hr_take_w 2 (some 19) (.pointer (some ⟨(B k).X, 0, none⟩)) rfl rfl (by kernel_rfl) (by kernel_rfl) (by kernel_rfl) rfl (fun W hW => by obtain ⟨h0, h1, h2⟩ := hW; go_simp) tH0 ?_
  simp only [FL]
  refine hr_take_w 3 (some 20) (.pointer (some ⟨(B k).X, 5, none⟩)) rfl rfl (by kernel_rfl) (by kernel_rfl) (by kernel_rfl) rfl (fun W hW => by obtain ⟨h0, h1, h2⟩ := hW; go_simp) tH0 ?_
  simp only [FL]
  refine hr_take_w 4 (some 21) (.pointer (some ⟨(B k).p, 0, none⟩)) rfl rfl (by kernel_rfl) (by kernel_rfl) (by kernel_rfl) rfl (fun W hW => by obtain ⟨h0, h1, h2⟩ := hW; go_simp) tH0 ?_
  simp only [FL]
  refine hr_take_w 5 (some 22) (.pointer (some ⟨(B k).X, 0, none⟩)) rfl rfl (by kernel_rfl) (by kernel_rfl) (by kernel_rfl) rfl (fun W hW => by obtain ⟨h0, h1, h2⟩ := hW; go_simp) tH0 ?_
  simp only [FL]
  refine hr_take_w 6 (some 23) (.pointer (some ⟨(B k).X, 0, none⟩)) rfl rfl (by kernel_rfl) (by kernel_rfl) (by kernel_rfl) rfl (fun W hW => by obtain ⟨h0, h1, h2⟩ := hW; go_simp) tH0 ?_
  simp only [FL]
  refine hr_take_w 7 (some 24) (.pointer (some ⟨(B k).X, 0, none⟩)) rfl rfl (by kernel_rfl) (by kernel_rfl) (by kernel_rfl) rfl (fun W hW => by obtain ⟨h0, h1, h2⟩ := hW; go_simp) tH0 ?_
  simp only [FL]
  refine hr_take_w 8 (some 25) (.pointer (some ⟨(B k).X, 1, none⟩)) rfl rfl (by kernel_rfl) (by kernel_rfl) (by kernel_rfl) rfl (fun W hW => by obtain ⟨h0, h1, h2⟩ := hW; go_simp) tH0 ?_
  simp only [FL]
  refine hr_take_w 9 (some 26) (.string x.sum) rfl rfl (by kernel_rfl) (by kernel_rfl) (by kernel_rfl) rfl (fun W hW => by obtain ⟨h0, h1, h2⟩ := hW; go_simp) tH0 ?_
  simp only [FL]
  refine hr_take_w 11 (some 28) (.pointer (some ⟨L, 0, none⟩)) rfl rfl (by kernel_rfl) (by kernel_rfl) (by kernel_rfl) rfl (fun W hW => by obtain ⟨h0, h1, h2⟩ := hW; go_simp) tH0 ?_
  simp only [FL]
  refine hr_take_w 12 (some 29) (.pointer (some ⟨L, 0, none⟩)) rfl rfl (by kernel_rfl) (by kernel_rfl) (by kernel_rfl) rfl (fun W hW => by obtain ⟨h0, h1, h2⟩ := hW; go_simp) tH0 ?_
  simp only [FL]
  refine hr_take_w 13 (some 30) (.pointer (some ⟨L, 0, none⟩)) rfl rfl (by kernel_rfl) (by kernel_rfl) (by kernel_rfl) rfl (fun W hW => by obtain ⟨h0, h1, h2⟩ := hW; go_simp) tH0 ?_
  simp only [FL]
  refine hr_take_w 14 (some 31) (.int .i64 (g.f : Nat)) rfl rfl (by kernel_rfl) (by kernel_rfl) (by kernel_rfl) rfl (fun W hW => by obtain ⟨h0, h1, h2⟩ := hW; go_simp) tH0 ?_
  simp only [FL]
  refine hr_take_w 15 (some 32) (.int .i64 ((2 * g.f : Nat) : Int)) rfl rfl (by kernel_rfl) (by kernel_rfl) (by kernel_rfl) rfl (fun W hW => by obtain ⟨h0, h1, h2⟩ := hW; go_simp) tH0 ?_
  simp only [FL]
  refine hr_ex 10 (some 27) rfl rfl (by kernel_rfl) rfl (R := fun v w' => ∃ g, v = .slice (some ⟨g, 0, none⟩) x.sum.size (grownCap tv0 x.sum.size 0 5) ∧ Sl w' (some ⟨g, 0, none⟩) x.sum.size (grownCap tv0 x.sum.size 0 5) (sb x.sum) ∧ Below tv0.heap.size tv0 w') (by have hr := Lib.run_convert_string_bytes (P := Try.prog) tv0 9 35 5 x.sum Try.underlying9 Try.underlying35 Try.underlying5; exact ⟨_, _, by go_simp, _, rfl, bytesWorld_sl tv0 x.sum (by have := HZ.out; omega), bytesWorld_below tv0 x.sum⟩) ?_
  rintro v tv1 ⟨cg, rfl, tG0, tC0⟩
  have tE1 := tE0.trans (tC0.mono tE0.size)
  have tH1 := tHS.out tv1 tE1
  refine ⟨tH1, ?_⟩
  simp only [FL]
  refine hr_call_w 16 (some 33) 74 #[.pointer (some ⟨(B k).p, 0, none⟩), .slice (some ⟨cg, 0, none⟩) x.sum.size (grownCap tv0 x.sum.size 0 5), .int .i64 ((2 * g.f : Nat) : Int)] rfl rfl (by kernel_rfl) rfl (by go_simp) (fun v w' => ∃ ao m cap ys, v = .slice ao m cap ∧ (GL elS w' ao m cap ys ∧ ys.map SA.v = (prfV x.sum 0 x.pv).take (2 * g.f) ∧ ∀ z, GLb elS ao m ys z → tv1.heap.size ≤ z) ∧ Below tv1.heap.size tv1 w') ((proof_sb tv1 (B k).p g.f x.pv (HQ.out _ (EW.trans (tE1.mono EW.size))) _ _ _ x.sum tG0 (2 * g.f) (by have := HC.out.1; omega) HC.out.2).mono (by
    rintro e w' ⟨ao, m, cap, ys, rfl, h1, h2, h3, h4⟩
    exact ⟨_, rfl, ao, m, cap, ys, rfl, ⟨h1, h2, h4⟩, h3⟩)) ?_
  rintro v tv2 ⟨ao, m, cap, ys, rfl, ⟨Y1, Y2, Y3⟩, tC1⟩
  have tE2 := tE1.trans (tC1.mono tE1.size)
  have tH2 := tHS.out tv2 tE2
  refine ⟨tH2, ?_⟩
  simp only [FL]
  refine hr_take_w 17 (some 4) (.slice ao m cap) rfl rfl (by kernel_rfl) (by kernel_rfl) (by kernel_rfl) rfl (fun W hW => by obtain ⟨h0, h1, h2⟩ := hW; go_simp) tH2 ?_
  simp only [FL]
  refine wpAnyH_done (by kernel_rfl) ?_ _
  refine NoPanic.normal ?_
  clear C1 C2
  have EX := EW.trans (tE2.mono EW.size)
  go_wp2_with fail
  have uHS : Hid (∀ V, Below tv2.heap.size tv2 V → V.cell? ⟨L, 2, none⟩ = some (.int .u64 (g.view : Nat)) ∧ V.cell? ⟨(B k).X, 1, none⟩ = some (.string x.sum) ∧ V.cell? ⟨(B k).X, 2, none⟩ = some (.int .u64 (B k).s.fr) ∧ V.cell? ⟨(B k).X, 3, none⟩ = some (.slice (B k).s.b.ao (B k).s.b.n (B k).s.b.cap) ∧ V.cell? ⟨(B k).X, 4, none⟩ = some (.slice (B k).s.tag.ao (B k).s.tag.n (B k).s.tag.cap)) := fun V hV => by have hW := EX.trans (hV.mono EX.size); have K := HX.out V hW; exact ⟨(HL.out V hW).cell 2, K.cell 1, K.cell 2, K.cell 3, K.cell 4⟩
  have uE0 : Below tv2.heap.size tv2 tv2.drew := (Below.refl _ _).drew
  refine wp_region_noPanic ?_
  refine wp_region_held_drew (S := fun V => V.cell? ⟨L, 2, none⟩ = some (.int .u64 (g.view : Nat)) ∧ V.cell? ⟨(B k).X, 1, none⟩ = some (.string x.sum) ∧ V.cell? ⟨(B k).X, 2, none⟩ = some (.int .u64 (B k).s.fr) ∧ V.cell? ⟨(B k).X, 3, none⟩ = some (.slice (B k).s.b.ao (B k).s.b.n (B k).s.b.cap) ∧ V.cell? ⟨(B k).X, 4, none⟩ = some (.slice (B k).s.tag.ao (B k).s.tag.n (B k).s.tag.cap)) (by kernel_rfl) (uHS.out _ uE0) (fun uH0 => ?_)
  obtain ⟨uv0, hv0⟩ : ∃ v, v = tv2.drew := ⟨_, rfl⟩
  rw [← hv0] at uH0 uE0 ⊢
  clear hv0
  refine hr_take_w 0 (some 34) (.pointer (some ⟨(B k).X, 0, none⟩)) rfl rfl (by kernel_rfl) (by kernel_rfl) (by kernel_rfl) rfl (fun W hW => by obtain ⟨h0, h1, h2, h3, h4⟩ := hW; go_simp) uH0 ?_
  simp only [FL]
  refine hr_take_w 1 (some 35) (.pointer (some ⟨L, 0, none⟩)) rfl rfl (by kernel_rfl) (by kernel_rfl) (by kernel_rfl) rfl (fun W hW => by obtain ⟨h0, h1, h2, h3, h4⟩ := hW; go_simp) uH0 ?_
  simp only [FL]
  refine hr_take_w 2 (some 36) (.pointer (some ⟨L, 0, none⟩)) rfl rfl (by kernel_rfl) (by kernel_rfl) (by kernel_rfl) rfl (fun W hW => by obtain ⟨h0, h1, h2, h3, h4⟩ := hW; go_simp) uH0 ?_
  simp only [FL]
  refine hr_take_w 3 (some 37) (.pointer (some ⟨L, 2, none⟩)) rfl rfl (by kernel_rfl) (by kernel_rfl) (by kernel_rfl) rfl (fun W hW => by obtain ⟨h0, h1, h2, h3, h4⟩ := hW; go_simp) uH0 ?_
  simp only [FL]
  refine hr_take_w 4 (some 38) (.int .u64 (g.view : Nat)) rfl rfl (by kernel_rfl) (by kernel_rfl) (by kernel_rfl) rfl (fun W hW => by obtain ⟨h0, h1, h2, h3, h4⟩ := hW; go_simp) uH0 ?_
  simp only [FL]
  refine hr_take_w 5 (some 39) (.pointer (some ⟨(B k).X, 0, none⟩)) rfl rfl (by kernel_rfl) (by kernel_rfl) (by kernel_rfl) rfl (fun W hW => by obtain ⟨h0, h1, h2, h3, h4⟩ := hW; go_simp) uH0 ?_
  simp only [FL]
  refine hr_take_w 6 (some 40) (.pointer (some ⟨(B k).X, 0, none⟩)) rfl rfl (by kernel_rfl) (by kernel_rfl) (by kernel_rfl) rfl (fun W hW => by obtain ⟨h0, h1, h2, h3, h4⟩ := hW; go_simp) uH0 ?_
  simp only [FL]
  refine hr_take_w 7 (some 41) (.pointer (some ⟨(B k).X, 0, none⟩)) rfl rfl (by kernel_rfl) (by kernel_rfl) (by kernel_rfl) rfl (fun W hW => by obtain ⟨h0, h1, h2, h3, h4⟩ := hW; go_simp) uH0 ?_
  simp only [FL]
  refine hr_take_w 8 (some 42) (.pointer (some ⟨(B k).X, 1, none⟩)) rfl rfl (by kernel_rfl) (by kernel_rfl) (by kernel_rfl) rfl (fun W hW => by obtain ⟨h0, h1, h2, h3, h4⟩ := hW; go_simp) uH0 ?_
  simp only [FL]
  refine hr_take_w 9 (some 43) (.string x.sum) rfl rfl (by kernel_rfl) (by kernel_rfl) (by kernel_rfl) rfl (fun W hW => by obtain ⟨h0, h1, h2, h3, h4⟩ := hW; go_simp) uH0 ?_
  simp only [FL]
  refine hr_take_w 10 (some 44) (.pointer (some ⟨(B k).X, 0, none⟩)) rfl rfl (by kernel_rfl) (by kernel_rfl) (by kernel_rfl) rfl (fun W hW => by obtain ⟨h0, h1, h2, h3, h4⟩ := hW; go_simp) uH0 ?_
  simp only [FL]
  refine hr_take_w 11 (some 45) (.pointer (some ⟨(B k).X, 0, none⟩)) rfl rfl (by kernel_rfl) (by kernel_rfl) (by kernel_rfl) rfl (fun W hW => by obtain ⟨h0, h1, h2, h3, h4⟩ := hW; go_simp) uH0 ?_
  simp only [FL]
  refine hr_take_w 12 (some 46) (.pointer (some ⟨(B k).X, 0, none⟩)) rfl rfl (by kernel_rfl) (by kernel_rfl) (by kernel_rfl) rfl (fun W hW => by obtain ⟨h0, h1, h2, h3, h4⟩ := hW; go_simp) uH0 ?_
  simp only [FL]
  refine hr_take_w 13 (some 47) (.pointer (some ⟨(B k).X, 2, none⟩)) rfl rfl (by kernel_rfl) (by kernel_rfl) (by kernel_rfl) rfl (fun W hW => by obtain ⟨h0, h1, h2, h3, h4⟩ := hW; go_simp) uH0 ?_
  simp only [FL]
  refine hr_take_w 14 (some 48) (.agg #[.int .u64 (B k).s.fr, .slice (B k).s.b.ao (B k).s.b.n (B k).s.b.cap, .slice (B k).s.tag.ao (B k).s.tag.n (B k).s.tag.cap]) rfl rfl (by kernel_rfl) (by kernel_rfl) (by kernel_rfl) rfl (fun W hW => by obtain ⟨h0, h1, h2, h3, h4⟩ := hW; go_simp) uH0 ?_
  simp only [FL]
  refine hr_take_w 16 (some 50) (.slice ao m cap) rfl rfl (by kernel_rfl) (by kernel_rfl) (by kernel_rfl) rfl (fun W hW => by obtain ⟨h0, h1, h2, h3, h4⟩ := hW; go_simp) uH0 ?_
  simp only [FL]
  refine hr_ex 15 (some 49) rfl rfl (by kernel_rfl) rfl (R := fun v w' => ∃ gb, v = .slice (some ⟨gb, 0, none⟩) 1 1 ∧ (GNew elS 62 uv0 w' uv0.heap.size (.slice (some ⟨gb, 0, none⟩) 1 1) [(B k).s]) ∧ Below uv0.heap.size uv0 w') (⟨_, _, by go_simp, _, rfl, made_one uv0 (B k).s (HOK.out _ (EX.trans (uE0.mono EX.size))), (Below.refl _ _).alloc (Nat.le_refl _) _⟩) ?_
  rintro v uv1 ⟨gb, rfl, GN1, uC0⟩
  have uE1 := uE0.trans (uC0.mono uE0.size)
  have uH1 := uHS.out uv1 uE1
  refine ⟨uH1, ?_⟩
  simp only [FL]
  have Y4 := (Y1.below elS_fine (uE0.trans (uC0.mono uE0.size)))
  have Y5 := Y1.below elS_fine uE0
  have hm8 : m ≤ 8 := by have e1 := congrArg List.length Y2; rw [List.length_map, Y1.len, List.length_take] at e1; have := HC.out.1; omega
  obtain ⟨v9, w9, R9, N9, L9⟩ := run_appGs (w0 := uv0) elS_fine tyS 47 GN1 uC0.size Y4 (fun q hq => Y5.ok q hq) (by simp only [List.length_singleton]; omega) (by simp only [List.length_singleton, maxLen]; omega)
  obtain ⟨ao9, cap9, rfl, GL9, G9⟩ := N9.gl elS_fine (uC0.trans L9)
  have uE9 : Below tv2.heap.size tv2 w9 := uE1.trans (L9.mono uE0.size)
  have uH9 := uHS.out w9 uE9
  refine hr_ex 17 (some 51) rfl rfl (by kernel_rfl) rfl (R := fun v w' => .slice ao9 ((B k).s :: ys).length cap9 = v ∧ w9 = w') ⟨_, w9, by simp [execOp, Act.eval, resolve, invoke, builtin, R9], rfl, rfl⟩ ?_
  rintro v w' ⟨rfl, rfl⟩
  refine ⟨uH9, ?_⟩
  simp only [FL]
  refine hr_take_w 18 (some 52) (.agg #[.bool true, .int .u64 (g.view : Nat), .string x.sum, .slice ao9 ((B k).s :: ys).length cap9]) rfl rfl (by kernel_rfl) (by kernel_rfl) (by kernel_rfl) rfl (fun W hW => by obtain ⟨h0, h1, h2, h3, h4⟩ := hW; go_simp) uH9 ?_
  simp only [FL]
  refine hr_take_w 19 (some 53) (.pointer (some ⟨(B k).X, 0, none⟩)) rfl rfl (by kernel_rfl) (by kernel_rfl) (by kernel_rfl) rfl (fun W hW => by obtain ⟨h0, h1, h2, h3, h4⟩ := hW; go_simp) uH9 ?_
  simp only [FL]
  refine hr_take_w 20 (some 54) (.pointer (some ⟨(B k).X, 7, none⟩)) rfl rfl (by kernel_rfl) (by kernel_rfl) (by kernel_rfl) rfl (fun W hW => by obtain ⟨h0, h1, h2, h3, h4⟩ := hW; go_simp) uH9 ?_
  simp only [FL]
  have EY := EX.trans (uE9.mono EX.size)
  have A9 := HX.out w9 EY
  obtain ⟨st, GR⟩ := store_part A9 (o := 7) (cs := [.bool true, .int .u64 (g.view : Nat), .string x.sum, .slice ao9 ((B k).s :: ys).length cap9]) cesz (Nat.le_refl 11) (fun u hu => by simp only [List.mem_cons, List.not_mem_nil, or_false] at hu; rcases hu with rfl | rfl | rfl | rfl <;> rfl)
  have AZ := A9.setAll [.bool true, .int .u64 (g.view : Nat), .string x.sum, .slice ao9 ((B k).s :: ys).length cap9] _ 7 _
  have nL := HNL.out
  have lX := A9.lt
  refine hr_skip 21 none (w' := w9.setCells (B k).X 7 [.bool true, .int .u64 (g.view : Nat), .string x.sum, .slice ao9 ((B k).s :: ys).length cap9]) rfl rfl (by kernel_rfl) rfl (exec_store rfl rfl rfl st) ⟨(grown_cell GR (LC.lt (HL.out w9 EY)) nL).trans uH9.1, AZ.cell 1, AZ.cell 2, AZ.cell 3, AZ.cell 4⟩ ?_
  simp only [Act.put]
  refine wpAnyH_done (by kernel_rfl) ?_ _
  refine NoPanic.normal ?_
  go_wp2
  go_end0
  obtain ⟨HG, hx, hA⟩ := HLG.out
  have sw : w.heap.size ≤ uv0.heap.size := Nat.le_trans EX.size uE0.size
  have t12 : w.heap.size ≤ tv1.heap.size := Nat.le_trans EW.size tE1.size
  obtain ⟨r1, r2, r3, r4⟩ := HG.ro k x hx
  have bl : ∀ z, z < w.heap.size → z ≠ (B k).X → (w9.setCells (B k).X 7 [.bool true, .int .u64 (g.view : Nat), .string x.sum, .slice ao9 ((B k).s :: ys).length cap9]).heap[z]? = w.heap[z]? := fun z hz hn => (GR.block z (Nat.lt_of_lt_of_le hz EY.size) fun e => hn (Option.some.inj e)).trans (EY.block z hz)
  have imm9 : ∀ z, GLb elS ao9 ((B k).s :: ys).length ((B k).s :: ys) z → z ≠ (B k).X ∧ rho w ρ z = 0 := fun z hz => by
    have new : w.heap.size ≤ z → z ≠ (B k).X ∧ rho w ρ z = 0 := fun hz => ⟨fun e => by have := hA.lt; omega, rho_new hz⟩
    rcases hz with hz | ⟨y, hy, hz⟩
    · exact new (Nat.le_trans sw (G9 z hz))
    · rcases List.mem_cons.1 hy with rfl | hy
      · have h0 := r4 z (.inl hz)
        refine ⟨fun e => by rw [e, r1] at h0; omega, ?_⟩
        rw [rho_old (elS_fine.lt _ w z hA.sok hz)]
        exact h0
      · exact new (Nat.le_trans t12 (Y3 z (.inr ⟨y, hy, hz⟩)))
  have hbs : base ≤ w.heap.size := Nat.le_trans HG.baseL (Nat.le_of_lt HG.Llt)
  have hb7 : Below base w (w9.setCells (B k).X 7 [.bool true, .int .u64 (g.view : Nat), .string x.sum, .slice ao9 ((B k).s :: ys).length cap9]) := (EY.mono hbs).grown GR (Nat.le_trans hbs EY.size) (fun j hj => by cases hj; exact HG.base_of (by rw [r1]; omega))
  have sz9 : w.heap.size ≤ (w9.setCells (B k).X 7 [.bool true, .int .u64 (g.view : Nat), .string x.sum, .slice ao9 ((B k).s :: ys).length cap9]).heap.size := hb7.size
  refine ⟨_, rho w ρ, rfl, HG.step (b' := { B k with ao := ao9, n := ((B k).s :: ys).length, cap := cap9, l := (B k).s :: ys }) k (HG.win k x hx) (fun z hz => rho_old hz) (fun z hz a1 a2 a3 a4 => bl z hz fun e => a2 (by rw [e]; exact r1)) (HG.mf.same (bl M HG.mf.lt fun e => by have r0 := HG.rM; rw [e, r1] at r0; omega)) (HG.here k x hx).1 (fun _ _ => rfl) ?_ ((rho_old hA.lt).trans r1) ((rho_old hA.P.lt).trans r2) ((rho_old hA.Q.lt).trans r3) ?_, ⟨hb7, fun z hz => rho_old hz, fun z hz h0 => bl z hz fun e => by rw [e, r1] at h0; omega⟩⟩
  · rw [HCS.out]
    have sok := elS_fine.kept _ w (w9.setCells (B k).X 7 [.bool true, .int .u64 (g.view : Nat), .string x.sum, .slice ao9 ((B k).s :: ys).length cap9]) hA.sok fun z hz => bl z (elS_fine.lt _ w z hA.sok hz) fun e => by have h0 := r4 z (.inl hz); rw [e, r1] at h0; omega
    have lv : ((B k).s :: ys).map SA.v = x.pre :: (prfV x.sum 0 x.pv).take (2 * g.f) := by rw [List.map_cons, hA.sv, Y2]
    refine ⟨AZ, sok, hA.sv, hA.P.keep (bl _ hA.P.lt fun e => by rw [e, r1] at r2; omega), hA.Q.keep (bl _ hA.Q.lt fun e => by rw [e, r1] at r3; omega), GL9.kept elS_fine fun z hz => GR.block z (GL9.lt elS_fine hz) fun e => (imm9 z hz).1 (Option.some.inj e), lv, hA.sz, hA.sz, ?_, hA.pz, fun s hs => ?_, ?_⟩
    · have := HG.viewz
      show g.view < _
      omega
    · rcases List.mem_cons.1 hs with rfl | hs
      · exact hA.pz
      · have hv : s.v ∈ prfV x.sum 0 x.pv := List.mem_of_mem_take (by rw [← Y2]; exact List.mem_map_of_mem hs)
        obtain ⟨v, hv, e1, e2⟩ := prfV_mem _ _ hv
        have ok := hA.P.ok v hv
        have o := Y1.ok s hs
        have l1 := o.b.len
        have l2 := o.tag.len
        have e1 : s.b.xs = sb v.body := e1
        have e2 : s.tag.xs = sb v.tag := e2
        rw [e1, sb_len] at l1
        rw [e2, sb_len] at l2
        exact ⟨by rw [← l1]; exact ok.body, by rw [← l2]; exact ok.tag⟩
    · show ((B k).s :: ys).length ≤ 100
      have := Y1.len
      rw [List.length_cons]
      omega
  · rintro z (hz | hz)
    · rw [rho_old (elS_fine.lt _ w z hA.sok hz)]
      exact r4 z (.inl hz)
    · exact (imm9 z hz).2
theorem certify_any (w : World) (base L M n : Nat) (g : GT) (F : Value → Option Value) (B : Nat → SB) (ρ : Nat → Nat) (h : LG w base L M n g F B ρ) (k : Nat) (x : ST) (hx : g.s k = some x) :
    Calls Try.prog 52 #[.pointer (some ⟨L, 0, none⟩), .pointer (some ⟨(B k).X, 0, none⟩)] w (CertPost w base L M n g F ρ k x) := by
  obtain ⟨hF, hA⟩ := h.here k x hx
  have C1 := certIn_any w g.f (B k) x hA g.view
  have C2 := isPrep_any w L g.f g.low g.view M h.lc h.f4 (B k) x hA
  have x2 : w.cell? ⟨L, 2, none⟩ = some (.int .u64 (g.view : Nat)) := h.lc.cell 2
  cases c1 : certIn g.view x with
  | true =>
    have HCS : Hid (g.put k (certS g.f g.view x) = g) := by
      show _ = _
      unfold certS
      rw [c1]
      exact g.put_slot k x hx
    have HLG : Hid (LG w base L M n g F B ρ) := h
    rw [c1] at C1
    clear h hF hA hx c1 C2
    go_enter Try.func52, Try.ntmps52
    go_wp2_with (go_at_call 73; refine C1.mono ?_; rintro e w1 ⟨rfl, rfl⟩)
    go_end0
    exact ⟨B, ρ, rfl, by rw [HCS.out]; exact HLG.out, Stp.refl _ _ _⟩
  | false =>
    cases c2 : prepS g.f x with
    | true => exact certify_yes w base L M n g F B ρ h k x hx c1 c2
    | false =>
      have HCS : Hid (g.put k (certS g.f g.view x) = g) := by
        show _ = _
        unfold certS
        rw [c1, c2]
        exact g.put_slot k x hx
      have HLG : Hid (LG w base L M n g F B ρ) := h
      rw [c1] at C1
      rw [c2] at C2
      clear h hF hA hx c1 c2
      go_enter Try.func52, Try.ntmps52
      go_wp2_with (first
        | (go_at_call 73; refine C1.mono ?_; rintro e w1 ⟨rfl, rfl⟩)
        | (go_at_call 44; refine C2.mono ?_; rintro e w2 ⟨rfl, EW⟩))
      go_end0
      obtain ⟨k1, k2⟩ := HLG.out.below EW
      exact ⟨B, _, rfl, by rw [HCS.out]; exact k1, k2⟩
end Go.Proofs.Ytbpbcmbcoffdlaa
namespace Go.Proofs.Ytbpbcmbcoffdlaa
open Go.RowKit
def But (w : World) (X : Nat) (V : World) : Prop := w.heap.size ≤ V.heap.size ∧ ∀ z, z < w.heap.size → z ≠ X → V.heap[z]? = w.heap[z]?
theorem But.of {w V : World} {X : Nat} (h : Below w.heap.size w V) : But w X V := ⟨h.size, fun z hz _ => h.block z hz⟩
theorem But.grown {w V V' : World} {X : Nat} (h : But w X V) (g : V.grownBy V' (some X)) : But w X V' :=
  ⟨Nat.le_trans h.1 g.size, fun z hz hn => (g.block z (Nat.lt_of_lt_of_le hz h.1) fun e => hn (Option.some.inj e)).trans (h.2 z hz hn)⟩
theorem But.cell {w V : World} {X : Nat} (h : But w X V) {b o : Nat} (hb : b < w.heap.size) (hn : b ≠ X) : V.cell? ⟨b, o, none⟩ = w.cell? ⟨b, o, none⟩ := World.cell?_of_block (h.2 b hb hn)
theorem But.sl {w V : World} {X : Nat} (h : But w X V) {ao : Option Addr} {n cap : Nat} {xs : List Int} (S : Sl w ao n cap xs) (hn : ∀ z, sblk ao n z → z ≠ X) : Sl V ao n cap xs :=
  Sl.kept (b := ⟨ao, n, cap, xs⟩) S fun z hz => h.2 z (Sl.blk_lt (b := ⟨ao, n, cap, xs⟩) S hz) (hn z hz)
section
variable {w w' : World} {base L M n : Nat} {g : GT} {F : Value → Option Value} {B : Nat → SB} {ρ : Nat → Nat}
theorem LG.hbs (h : LG w base L M n g F B ρ) : base ≤ w.heap.size := Nat.le_trans h.baseL (Nat.le_of_lt h.Llt)
theorem LG.putPv (h : LG w base L M n g F B ρ) {k : Nat} {x : ST} (hx : g.s k = some x) {l : List VT} (hQ : QS w' (B k).p g.f l) (hG : w.grownBy w' (some (B k).p)) :
    LG w' base L M n (g.put k { x with pv := l }) F (fun j => if j = k then B k else B j) (rho w ρ) ∧ Stp base w w' ρ (rho w ρ) := by
  obtain ⟨h1, h2⟩ := h.here k x hx
  obtain ⟨r1, r2, r3, r4⟩ := h.ro k x hx
  have bl : ∀ z, z < w.heap.size → ρ z ≠ 3 * k + 5 → w'.heap[z]? = w.heap[z]? := fun z hz hn => hG.block z hz fun e => hn (by rw [Option.some.inj e]; exact r2)
  refine ⟨h.step k (h.win k x hx) (fun z hz => rho_old hz) (fun z hz _ _ a3 _ => bl z hz a3) (h.mf.same (bl M h.mf.lt (by rw [h.rM]; omega))) h1 (fun _ _ => rfl) ?_ ((rho_old h2.lt).trans r1) ((rho_old h2.P.lt).trans r2) ((rho_old h2.Q.lt).trans r3) fun z hz => (rho_old (h2.imm_lt hz)).trans (r4 z hz), ⟨⟨hG.os, hG.tape, hG.output, hG.size, fun z hz => bl z (Nat.lt_of_lt_of_le hz h.hbs) (by rw [h.lo z hz]; omega)⟩, fun z hz => rho_old hz, fun z hz h0 => bl z hz (by omega)⟩⟩
  have bi : ∀ z, (B k).imm z → w'.heap[z]? = w.heap[z]? := fun z hz => bl z (h2.imm_lt hz) (by rw [r4 z hz]; omega)
  exact { h2 with
    mem := (bl _ h2.lt (by rw [r1]; omega)).trans h2.mem
    sok := elS_fine.kept _ w w' h2.sok fun z hz => bi z (.inl hz)
    P := hQ
    Q := h2.Q.keep (bl _ h2.Q.lt (by rw [r3]; omega))
    L := h2.L.kept elS_fine fun z hz => bi z (.inr hz) }
theorem LG.putCv (h : LG w base L M n g F B ρ) {k : Nat} {x : ST} (hx : g.s k = some x) {l : List VT} (hQ : QS w' (B k).q g.f l) (hG : w.grownBy w' (some (B k).q)) :
    LG w' base L M n (g.put k { x with cv := l }) F (fun j => if j = k then B k else B j) (rho w ρ) ∧ Stp base w w' ρ (rho w ρ) := by
  obtain ⟨h1, h2⟩ := h.here k x hx
  obtain ⟨r1, r2, r3, r4⟩ := h.ro k x hx
  have bl : ∀ z, z < w.heap.size → ρ z ≠ 3 * k + 6 → w'.heap[z]? = w.heap[z]? := fun z hz hn => hG.block z hz fun e => hn (by rw [Option.some.inj e]; exact r3)
  refine ⟨h.step k (h.win k x hx) (fun z hz => rho_old hz) (fun z hz _ _ _ a4 => bl z hz a4) (h.mf.same (bl M h.mf.lt (by rw [h.rM]; omega))) h1 (fun _ _ => rfl) ?_ ((rho_old h2.lt).trans r1) ((rho_old h2.P.lt).trans r2) ((rho_old h2.Q.lt).trans r3) fun z hz => (rho_old (h2.imm_lt hz)).trans (r4 z hz), ⟨⟨hG.os, hG.tape, hG.output, hG.size, fun z hz => bl z (Nat.lt_of_lt_of_le hz h.hbs) (by rw [h.lo z hz]; omega)⟩, fun z hz => rho_old hz, fun z hz h0 => bl z hz (by omega)⟩⟩
  have bi : ∀ z, (B k).imm z → w'.heap[z]? = w.heap[z]? := fun z hz => bl z (h2.imm_lt hz) (by rw [r4 z hz]; omega)
  exact { h2 with
    mem := (bl _ h2.lt (by rw [r1]; omega)).trans h2.mem
    sok := elS_fine.kept _ w w' h2.sok fun z hz => bi z (.inl hz)
    P := h2.P.keep (bl _ h2.P.lt (by rw [r2]; omega))
    Q := hQ
    L := h2.L.kept elS_fine fun z hz => bi z (.inr hz) }
theorem LG.putPre (h : LG w base L M n g F B ρ) {k : Nat} {x : ST} (hx : g.s k = some x) {s : SA} {sum : ByteArray} (hA : Arr w' (B k).X 87 (({ B k with s := s } : SB).rc { x with has := true, sum := sum, pre := s.v } ++ (B k).cc x))
    (hb : Below base w w') (hG : But w (B k).X w') (hs : s.ok w') (hn : ∀ z, s.blk z → w.heap.size ≤ z) (hz : sum.size ≤ 1000000) (sz : s.b.n ≤ 1000000 ∧ s.tag.n ≤ 1000000) :
    LG w' base L M n (g.put k { x with has := true, sum := sum, pre := s.v }) F (fun j => if j = k then { B k with s := s } else B j) (rho w ρ) ∧ Stp base w w' ρ (rho w ρ) := by
  obtain ⟨h1, h2⟩ := h.here k x hx
  obtain ⟨r1, r2, r3, r4⟩ := h.ro k x hx
  have bl : ∀ z, z < w.heap.size → ρ z ≠ 3 * k + 4 → w'.heap[z]? = w.heap[z]? := fun z hz hn => hG.2 z hz fun e => hn (by rw [e]; exact r1)
  refine ⟨h.step k (h.win k x hx) (fun z hz => rho_old hz) (fun z hz _ a2 _ _ => bl z hz a2) (h.mf.same (bl M h.mf.lt (by rw [h.rM]; omega))) h1 (fun _ _ => rfl) ?_ ((rho_old h2.lt).trans r1) ((rho_old h2.P.lt).trans r2) ((rho_old h2.Q.lt).trans r3) fun z hz => ?_, ⟨hb, fun z hz => rho_old hz, fun z hz h0 => bl z hz (by omega)⟩⟩
  · exact { h2 with
      mem := hA
      sok := hs
      sv := rfl
      P := h2.P.keep (bl _ h2.P.lt (by rw [r2]; omega))
      Q := h2.Q.keep (bl _ h2.Q.lt (by rw [r3]; omega))
      L := h2.L.kept elS_fine fun z hz => bl z (h2.L.lt elS_fine hz) (by rw [r4 z (.inr hz)]; omega)
      sz := hz
      pz := sz }
  · rcases hz with hz | hz
    · exact rho_new (hn z hz)
    · exact (rho_old (h2.L.lt elS_fine hz)).trans (r4 z (.inr hz))
end
end Go.Proofs.Ytbpbcmbcoffdlaa

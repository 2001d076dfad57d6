/-
  Texts in one: SeLight, LRow, SeAll, SeBack.
-/
import Derived.Test.YtoagkffokfbpfaaSessionRisesQFL
import Derived.Test.YtoagkffokfbpfaaSessionRisesQ9
import Derived.Test.YtoagkffokfbpfaaSessionRisesQ10
import Derived.Test.YtoagkffokfbpfaaSessionRisesQ3
import Derived.Test.YtoagkffokfbpfaaSessionRisesQ6
namespace Go.Proofs.Ytoagkffokfbpfaa
open Go.RowKit
structure LX (V : World) (b p : Nat) (y : LA) : Prop where
  c0 : V.cell? ⟨b, p, none⟩ = some (.int .u64 y.cl)
  c1 : V.cell? ⟨b, p + 1, none⟩ = some (.int .u64 y.st)
  c2 : V.cell? ⟨b, p + 2, none⟩ = some (.int .i64 y.e)
  c3 : V.cell? ⟨b, p + 3, none⟩ = some (.slice y.ao y.n y.cap)
  c4 : V.cell? ⟨b, p + 4, none⟩ = some (.bool y.m)
theorem LX.below {V V' : World} {b p : Nat} {y : LA} (h : LX V b p y) (hb : Below V.heap.size V V') : LX V' b p y :=
  have k : ∀ a v, V.cell? a = some v → V'.cell? a = some v := fun _ _ hc => (hb.cell (World.block_lt_of_cell? V _ hc)).trans hc
  ⟨k _ _ h.c0, k _ _ h.c1, k _ _ h.c2, k _ _ h.c3, k _ _ h.c4⟩
theorem LL12.at {w : World} {ao : Option Addr} {n cap : Nat} {l : List LA} (h : LL12 w ao n cap l) (hn : 0 < n) :
    ∃ b off, ao = some ⟨b, off, none⟩ ∧ ∀ i (hi : i < l.length), LX w b (off + i * 5) l[i] := by
  have hl := h.len
  cases ao with
  | none => have := (h.nil rfl).1; omega
  | some a =>
    obtain ⟨b, off, spot⟩ := a
    have hc := h.cell _ rfl 0 (by omega) 0 _ rfl
    have hs : spot = none := by simpa [Addr.add] using World.cell?_spot hc
    subst hs
    refine ⟨b, off, rfl, fun i hi => ?_⟩
    have k : ∀ j v, l[i].cells[j]? = some v → w.cell? ⟨b, off + i * 5 + j, none⟩ = some v := fun j v hv => by
      have := h.cell _ rfl i hi j v hv
      rw [Addr.add_lit] at this
      rw [Nat.add_assoc]
      exact this
    exact ⟨k 0 _ rfl, k 1 _ rfl, k 2 _ rfl, k 3 _ rfl, k 4 _ rfl⟩
def lightL (l : List LA) : Bool := decide (l.length ≤ 40) && l.all fun y => cellsB y.cs 70
set_option maxRecDepth 100000 in
set_option maxHeartbeats 2000000 in
theorem llight_any (w : World) (ao : Option Addr) (n cap : Nat) (l : List LA) (h : LL12 w ao n cap l) (hsm : ∀ y ∈ l, y.small) :
    Calls Try.prog 12 #[.slice ao n cap] w fun e w' => e = .returned (.bool (lightL l)) ∧ Below w.heap.size w w' := by
  have hl := h.len
  have hmx := h.mx
  have hle := h.le
  have hnx : (n : Int) ≤ 9223372036854775807 := by unfold maxLen at hmx; omega
  by_cases hm : 40 < n
  · have i1 : (40 : Int) < (n : Int) := by omega
    have hv : Hid (lightL l = false) := by
      show _ = _
      unfold lightL
      rw [decide_eq_false (by omega), Bool.false_and]
    go_enter Try.func12, Try.ntmps12
    go_wp2
    go_ret
    exact ⟨by rw [hv.out] <;> rfl, Below.refl _ _⟩
  have i1 : (n : Int) ≤ 40 := by omega
  have HV : Hid (lightL l = l.all fun y => cellsB y.cs 70) := by
    show _ = _
    unfold lightL
    rw [decide_eq_true (by omega), Bool.true_and]
  have HS : Hid (∀ y ∈ l, y.small) := hsm
  clear hsm hm
  go_enter Try.func12, Try.ntmps12
  go_wp2
  go_loopw [3] (fun i wr => ∃ k : Nat, k ≤ n ∧ i = .int .i64 k ∧ Hid ((l.take k).all (fun y => cellsB y.cs 70) = true) ∧ Below w.heap.size w wr) (fun i _ => n - (intOf i).toNat)
  case atStart => exact ⟨0, Nat.zero_le _, rfl, rfl, Below.refl _ _⟩
  case round =>
    obtain ⟨k, hk, rfl, HA, B⟩ := hrel
    by_cases hlt : k < n
    · have hki : (k : Int) < (n : Int) := by omega
      have hkl : k < l.length := by omega
      obtain ⟨b, off, rfl, hc⟩ := h.at (by omega)
      have c3 := ((hc k hkl).below B).c3
      have CC := lcells_any wr _ _ _ _ 70 ((h.ok _ (List.getElem_mem hkl)).cs.below B) (HS.out _ (List.getElem_mem hkl))
      have HT : Hid ((l.take (k + 1)).all (fun y => cellsB y.cs 70) = cellsB l[k].cs 70) := by
        show _ = _
        exact all_take_succ (fun y : LA => cellsB y.cs 70) hkl HA.out
      have HB : Hid (cellsB l[k].cs 70 = false → lightL l = false) := fun q => by
        rw [HV.out, List.all_eq_false]
        exact ⟨_, List.getElem_mem hkl, by rw [q]; simp⟩
      obtain ⟨y, hy⟩ : ∃ y, y = l[k] := ⟨_, rfl⟩
      rw [← hy] at c3 CC HT HB
      clear hy hc
      go_wp2_with fail
      refine CC.mono ?_
      rintro x w2 ⟨rfl, C2⟩
      have B2 := B.trans (C2.mono B.size)
      clear CC C2 B c3
      cases hcb : cellsB y.cs 70 with
      | false =>
        have HV2 : Hid (lightL l = false) := HB.out hcb
        clear hcb HT HB
        go_wp2
        go_ret
        exact ⟨by rw [HV2.out] <;> rfl, B2⟩
      | true =>
        have HA2 : Hid ((l.take (k + 1)).all (fun y => cellsB y.cs 70) = true) := by show _ = _; rw [HT.out, hcb]
        clear hcb HT HB
        go_wp2
        go_roundw
        case rel => exact ⟨k + 1, by omega, by go_num, HA2, B2⟩
        case measure => simp [intOf]; omega
    · have hge : (n : Int) ≤ (k : Int) := by omega
      have HV2 : Hid (lightL l = true) := by
        show _ = _
        rw [HV.out, ← HA.out, List.take_of_length_le (by omega)]
      go_wp2
      go_ret
      exact ⟨by rw [HV2.out] <;> rfl, B⟩
open Go.RowKit
def LA.en (y : LA) : EN := ⟨y.cl, y.st, resR y.e y.cs y.m⟩
def LA.blk (y : LA) (x : Nat) : Prop := sblk y.ao y.n x ∨ ∃ c ∈ y.cs, c.va.blk x
theorem LA.ok.blk_lt {y : LA} {w : World} (h : y.ok w) {x : Nat} (hx : y.blk x) : x < w.heap.size := by
  rcases hx with ⟨a, ha, hn, rfl⟩ | ⟨c, hc, hx⟩
  · have hl := h.cs.len
    have h0 := h.cs.cell a ha 0 (by omega) 0 _ rfl
    have hlt := World.block_lt_of_cell? w _ h0
    have hb : (a.add (0 * 6 + 0)).block = a.block := by unfold Addr.add; split <;> rfl
    rw [hb] at hlt
    exact hlt
  · exact (h.cs.ok c hc).blk_lt hx
theorem LA.ok.kept {y : LA} {w w' : World} (h : y.ok w) (hk : ∀ x, y.blk x → w'.heap[x]? = w.heap[x]?) : y.ok w' := ⟨h.cl, h.st, h.cs.kept hk⟩
def cellsL (l : List LA) : List Value := (l.map LA.cells).flatten
theorem l_one (y : LA) : ∀ u ∈ y.cells, u.oneCell' = true := by
  intro u hu
  unfold LA.cells at hu
  simp only [List.mem_cons, List.not_mem_nil, or_false] at hu
  rcases hu with rfl | rfl | rfl | rfl | rfl <;> rfl
structure LTy (t s : TypeId) : Prop where
  info : (Try.prog.info? t).map (fun i => (i.zero, i.size, i.bytes)) = some (some (.agg #[.int .u64 0, .int .u64 0, .int .i64 0, .slice none 0 0, .bool false]), 5, 56)
  und : Try.prog.underlying s = some (.slice t)
theorem lty1 : LTy 70 33 := ⟨by kernel_rfl, Try.underlying33⟩
theorem lty2 : LTy 44 28 := ⟨by kernel_rfl, Try.underlying28⟩
structure AllI (t : TypeId) (W : World) (base : Nat) (v : Value) (ys : List LA) : Prop where
  own : W.ownsRow base t 5 v ys.length (cellsL ys)
  ok : ∀ y ∈ ys, y.ok W
  far : ∀ y ∈ ys, ∀ x, y.blk x → v.ownBlock ≠ some x
theorem AllI.nil (t : TypeId) (W : World) (base : Nat) : AllI t W base (.slice none 0 0) [] := ⟨World.ownsRow_nil _ _ _ _, fun _ h => by simp at h, fun _ h => by simp at h⟩
theorem AllI.below {t : TypeId} {W W' : World} {base : Nat} {v : Value} {ys : List LA} (h : AllI t W base v ys) (hb : Below W.heap.size W W') : AllI t W' base v ys :=
  ⟨own_kept h.own fun g hg => hb.block g (h.own.lt g hg).2, fun y hy => (h.ok y hy).below hb, h.far⟩
theorem AllI.slice {t : TypeId} {W : World} {base : Nat} {v : Value} {ys : List LA} (h : AllI t W base v ys) : ∃ ao n cap, v = .slice ao n cap := by
  rcases h.own.2 with ⟨rfl, _⟩ | ⟨g, cap, cur, rfl, _⟩
  · exact ⟨none, 0, 0, rfl⟩
  · exact ⟨_, _, cap, rfl⟩
theorem AllI.app {t s : TypeId} (hty : LTy t s) {W : World} {base : Nat} {v : Value} {ys : List LA} (h : AllI t W base v ys) (ty : TypeId) {g cp : Nat} {y : LA} {t' : TypeId} (hG : W.heap[g]? = some (.cells #[.int .u64 y.cl, .int .u64 y.st, .int .i64 y.e, .slice y.ao y.n y.cap, .bool y.m] t')) (he : y.ok W) (hf : ∀ x, y.blk x → v.ownBlock ≠ some x) (hn : ys.length ≤ 1000) (hbase : base ≤ W.heap.size) :
    ∃ v' W1, (Builtin.append_ #[s, s] ty #[v, .slice (some ⟨g, 0, none⟩) 1 cp]).run Try.prog W = .ok v' W1 ∧ AllI t W1 base v' (ys ++ [y]) ∧ Below base W W1 ∧ ∃ ao n cap, v' = .slice ao n cap := by
  obtain ⟨i0, hi, hz0, hz1, hz2⟩ := info_parts hty.info
  obtain ⟨v', W1, hr, ho, hg, ha⟩ := run_append_own2 (P := Try.prog) W base s ty t i0 _ 5 56 hty.und hi hz0 hz1 hz2 rfl (by decide) v ys.length (cellsL ys) h.own ⟨g, 0, none⟩ 1 cp y.cells rfl
    (fun j u hu => by
      rw [Addr.add_lit, Nat.zero_add, cell_of_row W g j _ _ _ hG]
      simpa [LA.cells] using hu) (l_one y) (by unfold maxLen; omega) (by omega) hbase
  have hown : W1.ownsRow base t 5 v' (ys ++ [y]).length (cellsL (ys ++ [y])) := by
    have e1 : cellsL (ys ++ [y]) = cellsL ys ++ y.cells := by simp [cellsL]
    rw [e1, List.length_append]
    exact ho
  have key : ∀ z : LA, z.ok W → (∀ x, z.blk x → v.ownBlock ≠ some x) → z.ok W1 ∧ ∀ x, z.blk x → v'.ownBlock ≠ some x := fun z hz hzf => ⟨hz.kept fun x hx => hg.block x (hz.blk_lt hx) (fun e => hzf x hx e.symm), fun x hx e => by
    rcases ha x e with c | c
    · exact hzf x hx c
    · have := hz.blk_lt hx
      omega⟩
  refine ⟨v', W1, hr, ⟨hown, fun z hz => ?_, fun z hz => ?_⟩, (Below.refl _ W).grown hg hbase (fun k hk => (h.own.lt k hk).1), ?_⟩
  · rcases List.mem_append.1 hz with hz | hz
    · exact (key z (h.ok z hz) (h.far z hz)).1
    · rw [List.mem_singleton.1 hz]; exact (key y he hf).1
  · rcases List.mem_append.1 hz with hz | hz
    · exact (key z (h.ok z hz) (h.far z hz)).2
    · rw [List.mem_singleton.1 hz]; exact (key y he hf).2
  · rcases ho.2 with ⟨rfl, _⟩ | ⟨g, cap, cur, rfl, _⟩
    · exact ⟨none, 0, 0, rfl⟩
    · exact ⟨_, _, cap, rfl⟩
theorem AllI.ll {t : TypeId} {W : World} {base : Nat} {v : Value} {ys : List LA} (h : AllI t W base v ys) : ∃ ao cap, v = .slice ao ys.length cap ∧ LL12 W ao ys.length cap ys ∧ ∀ z, sblk ao ys.length z → base ≤ z := by
  rcases h.own.2 with ⟨rfl, e⟩ | ⟨g, cap, cur, rfl, a1, a2, a3, a4, a5, a6⟩
  · rw [e]
    have : ys = [] := List.eq_nil_of_length_eq_zero e
    subst this
    exact ⟨none, 0, rfl, LL12.nothing W, fun z hz => by obtain ⟨a, ha, _⟩ := hz; cases ha⟩
  · refine ⟨some ⟨g, 0, none⟩, cap, rfl, ⟨rfl, a3, a4, fun h => by simp at h, fun a ha i hi j u hu => ?_, h.ok⟩, fun z hz => by obtain ⟨a, ha, _, rfl⟩ := hz; cases ha; exact a1⟩
    obtain rfl := Option.some.inj ha
    have hj : j < 5 := (List.getElem?_eq_some_iff.1 hu).1
    refine h.own.cells (g := g) rfl (i * 5 + j) u ?_
    unfold cellsL
    rw [flat_get LA.cells 5 (fun _ => rfl) ys i j hi hj]
    exact hu
def LLb (ao : Option Addr) (n : Nat) (ys : List LA) (z : Nat) : Prop := sblk ao n z ∨ ∃ y ∈ ys, y.blk z
theorem LL12.kept {w w' : World} {ao : Option Addr} {n cap : Nat} {l : List LA} (h : LL12 w ao n cap l) (hk : ∀ x, LLb ao n l x → w'.heap[x]? = w.heap[x]?) : LL12 w' ao n cap l := by
  refine ⟨h.len, h.le, h.mx, h.nil, fun a ha i hi j v hv => ?_, fun y hy => (h.ok y hy).kept fun x hx => hk x (.inr ⟨y, hy, hx⟩)⟩
  have hb : (a.add (i * 5 + j)).block = a.block := by unfold Addr.add; split <;> rfl
  rw [← h.cell a ha i hi j v hv]
  exact World.cell?_of_block (by rw [hb]; exact hk _ (.inl ⟨a, ha, by have := h.len; omega, rfl⟩))
theorem LL12.blk_lt {w : World} {ao : Option Addr} {n cap : Nat} {l : List LA} (h : LL12 w ao n cap l) {x : Nat} (hx : LLb ao n l x) : x < w.heap.size := by
  rcases hx with ⟨a, ha, hn, rfl⟩ | ⟨y, hy, hx⟩
  · have hl := h.len
    have h0 := h.cell a ha 0 (by omega) 0 _ rfl
    have hlt := World.block_lt_of_cell? w _ h0
    have hb : (a.add (0 * 5 + 0)).block = a.block := by unfold Addr.add; split <;> rfl
    rw [hb] at hlt
    exact hlt
  · exact (h.ok y hy).blk_lt hx
theorem LL12.grown {w w' : World} {ao : Option Addr} {n cap g : Nat} {l : List LA} (h : LL12 w ao n cap l) (hb : w.grownBy w' (some g)) (hf : ∀ x, LLb ao n l x → g < x) : LL12 w' ao n cap l :=
  h.kept fun x hx => hb.block x (h.blk_lt hx) (by have := hf x hx; simp; omega)
def LsIs (w : World) (D : Nat) (l : List EN) (x : Ending) (w' : World) : Prop := ∃ (ao : Option Addr) (n cap : Nat) (ys : List LA), x = .returned (.slice ao n cap) ∧ LL12 w' ao n cap ys ∧ ys.map LA.en = l ∧ Below w.heap.size w w' ∧ ∀ z, LLb ao n ys z → D ≤ z
structure YOK (W : World) (N : Nat) (e : EN) (y : LA) : Prop where
  cl : y.cl = e.cl
  st : y.st = e.st
  ok : y.ok W
  r : resR y.e y.cs y.m = e.r
  far : ∀ x, y.blk x → N ≤ x
theorem YOK.below {W W' : World} {N : Nat} {e : EN} {y : LA} (h : YOK W N e y) (hb : Below W.heap.size W W') : YOK W' N e y := ⟨h.cl, h.st, h.ok.below hb, h.r, h.far⟩
theorem YOK.en {W : World} {N : Nat} {e : EN} {y : LA} (h : YOK W N e y) : y.en = e := by
  unfold LA.en
  rw [h.cl, h.st, h.r]
open Go.RowKit
set_option maxRecDepth 100000 in
set_option maxHeartbeats 8000000 in
theorem cAll_any (w : World) (p g : Nat) (l : List EN) (h : TS w p g l) :
    Calls Try.prog 10 #[.pointer (some ⟨p, 0, none⟩)] w (LsIs w w.heap.size l) := by
  have n8 := h.n8
  have n8i : (l.length : Int) ≤ 8 := by omega
  obtain ⟨cp, t0, R0, hcp⟩ := h.tab
  go_enter Try.func10, Try.ntmps10
  go_wp2_with fail
  go_loopw [3, 13] (fun v i wr => ∃ (k : Nat) (ys : List LA), k ≤ l.length ∧ i = .int .i64 k ∧ AllI 70 wr w.heap.size v ys ∧ Hid (ys.map LA.en = l.take k) ∧ Hid (∀ y ∈ ys, ∀ x, y.blk x → w.heap.size ≤ x) ∧ Below w.heap.size w wr) (fun _ i _ => l.length - (intOf i).toNat)
  case atStart => exact ⟨0, [], Nat.zero_le _, rfl, AllI.nil _ _ _, rfl, fun _ h => by simp at h, Below.refl _ _⟩
  case round =>
    obtain ⟨k, ys, hk, rfl, N, HY, HLO, B⟩ := hrel
    obtain ⟨vo, vn, vc, hvs⟩ := N.slice
    obtain ⟨v, hv⟩ : ∃ v, v = Value.slice vo vn vc := ⟨_, rfl⟩
    rw [hvs, ← hv] at N
    rw [hvs, ← hv]
    clear hvs
    have hyl : ys.length = k := by
      have := congrArg List.length HY.out
      simp only [List.length_map, List.length_take] at this
      omega
    by_cases hlt : k < l.length
    · have hki : (k : Int) < (l.length : Int) := by omega
      have R := R0.keep (B.block g R0.lt)
      have q0 := R.cell k hlt 0 _ rfl
      have q1 := R.cell k hlt 1 _ rfl
      have q2 := R.cell k hlt 2 _ rfl
      simp only [Nat.add_zero] at q0
      have hok := h.ok _ (List.getElem_mem hlt)
      have HT : Hid (l.take (k + 1) = l.take k ++ [l[k]]) := List.take_succ_eq_append_getElem hlt
      obtain ⟨e, he⟩ : ∃ e, e = l[k] := ⟨_, rfl⟩
      rw [← he] at q0 q1 q2 hok HT
      clear he R
      have C2 : Below wr.heap.size wr (wr.alloc (.cells #[.int .u64 e.cl, .int .u64 e.st, .string e.an] 60)) := (Below.refl _ _).alloc (Nat.le_refl _) _
      have K2 : (wr.alloc (.cells #[.int .u64 e.cl, .int .u64 e.st, .string e.an] 60)).heap[wr.heap.size]? = some (.cells #[.int .u64 e.cl, .int .u64 e.st, .string e.an] 60) := heap_alloc_new _ _
      have N := N.below C2
      have B := B.trans (C2.mono B.size)
      go_wp2_with fail
      obtain ⟨w2, hw2⟩ : ∃ W, W = wr.alloc (.cells #[.int .u64 e.cl, .int .u64 e.st, .string e.an] 60) := ⟨_, rfl⟩
      obtain ⟨E, hE⟩ : ∃ E, E = wr.heap.size := ⟨_, rfl⟩
      rw [← hw2] at K2 N B ⊢
      rw [← hE] at K2 ⊢
      clear hw2 hE C2 q0 q1 q2
      have hE : E < w2.heap.size := (Array.getElem?_eq_some_iff.1 K2).1
      have E0 : Below w2.heap.size w2 w2.drew := (Below.refl _ _).drew
      refine wp_region_noPanic ?_
      refine wp_region_held_drew (S := fun _ => True) (by kernel_rfl) trivial (fun _ => ?_)
      obtain ⟨v0, hv0⟩ : ∃ v, v = w2.drew := ⟨_, rfl⟩
      rw [← hv0] at E0 ⊢
      clear hv0
      refine hr_take_w 0 (some 17) (v) rfl rfl (by kernel_rfl) (by kernel_rfl) (by kernel_rfl) rfl (fun W hW => by go_simp) trivial ?_
      simp only [FL]
      refine hr_take_w 1 (some 18) (.pointer (some ⟨E, 0, none⟩)) rfl rfl (by kernel_rfl) (by kernel_rfl) (by kernel_rfl) rfl (fun W hW => by go_simp) trivial ?_
      simp only [FL]
      refine hr_take_w 3 (some 20) (.pointer (some ⟨E, 1, none⟩)) rfl rfl (by kernel_rfl) (by kernel_rfl) (by kernel_rfl) rfl (fun W hW => by go_simp) trivial ?_
      simp only [FL]
      refine wpAnyH_effto 2 (fun zi zv zw => (zi = 2 → zv = .int .u64 e.cl) ∧ (zi = 4 → zv = .int .u64 e.st) ∧ (zi = 5 → zv = .agg #[.int .u64 e.cl, .int .u64 e.st, .string e.an]) ∧ (zi = 6 → ∃ y : LA, zv = .agg #[.int .i64 y.e, .slice y.ao y.n y.cap, .bool y.m] ∧ YOK zw w2.heap.size e y) ∧ (zi = 7 → ∃ y : LA, zv = .agg #[.int .u64 y.cl, .int .u64 y.st, .int .i64 y.e, .slice y.ao y.n y.cap, .bool y.m] ∧ YOK zw w2.heap.size e y) ∧ (zi = 8 → ∃ (y : LA) (g1 : Nat), zv = .slice (some ⟨g1, 0, none⟩) 1 1 ∧ zw.heap[g1]? = some (.cells #[.int .u64 y.cl, .int .u64 y.st, .int .i64 y.e, .slice y.ao y.n y.cap, .bool y.m] 70) ∧ YOK zw w2.heap.size e y)) [(2, 19), (4, 21), (5, 22), (6, 23), (7, 24), (8, 25)] 29 (by kernel_rfl) (by decide) (by decide) rfl ?_ (fun _ _ => trivial) ?_ ?_
      · intro zi v w w' h hb
        refine ⟨fun e => ?_, fun e => ?_, fun e => ?_, fun e => ?_, fun e => ?_, fun e => ?_⟩
        · have h := h.1 e
          exact h
        · have h := h.2.1 e
          exact h
        · have h := h.2.2.1 e
          exact h
        · have h := h.2.2.2.1 e
          obtain ⟨y, h1, h2⟩ := h
          exact ⟨y, h1, h2.below hb⟩
        · have h := h.2.2.2.2.1 e
          obtain ⟨y, h1, h2⟩ := h
          exact ⟨y, h1, h2.below hb⟩
        · have h := h.2.2.2.2.2 e
          obtain ⟨y, g1, h1, h2, h3⟩ := h
          exact ⟨y, g1, h1, (hb.block g1 (Array.getElem?_eq_some_iff.1 h2).1).trans h2, h3.below hb⟩
      · intro zp zhi o a w ho hs hb hdep
        have EB := E0.trans (hb.mono E0.size)
        simp only [List.mem_cons, List.not_mem_nil, or_false] at zhi
        rcases zhi with rfl | rfl | rfl | rfl | rfl | rfl
        · obtain rfl : _ = o := Option.some.inj (show some _ = some o from ho)
          have t18 : a.tmps[18]? = some (.pointer (some ⟨E, 0, none⟩)) := hs.get 18 (by kernel_rfl) rfl
          have lk := (EB.block E hE).trans K2
          have lc := cell_of_row w E 0 _ _ _ lk
          exact .inl ⟨.int .u64 e.cl, w, by go_simp, ⟨fun _ => rfl, fun e => absurd e (by decide), fun e => absurd e (by decide), fun e => absurd e (by decide), fun e => absurd e (by decide), fun e => absurd e (by decide)⟩, Below.refl _ _⟩
        · obtain rfl : _ = o := Option.some.inj (show some _ = some o from ho)
          have t20 : a.tmps[20]? = some (.pointer (some ⟨E, 1, none⟩)) := hs.get 20 (by kernel_rfl) rfl
          have lk := (EB.block E hE).trans K2
          have lc := cell_of_row w E 1 _ _ _ lk
          exact .inl ⟨.int .u64 e.st, w, by go_simp, ⟨fun e => absurd e (by decide), fun _ => rfl, fun e => absurd e (by decide), fun e => absurd e (by decide), fun e => absurd e (by decide), fun e => absurd e (by decide)⟩, Below.refl _ _⟩
        · obtain rfl : _ = o := Option.some.inj (show some _ = some o from ho)
          have t5 : a.tmps[5]? = some (.pointer (some ⟨E, 0, none⟩)) := hs.get 5 (by kernel_rfl) rfl
          have lk := (EB.block E hE).trans K2
          have lc0 := cell_of_row w E 0 _ _ _ lk
          have lc1 := cell_of_row w E 1 _ _ _ lk
          have lc2 := cell_of_row w E 2 _ _ _ lk
          exact .inl ⟨.agg #[.int .u64 e.cl, .int .u64 e.st, .string e.an], w, by go_simp, ⟨fun e => absurd e (by decide), fun e => absurd e (by decide), fun _ => rfl, fun e => absurd e (by decide), fun e => absurd e (by decide), fun e => absurd e (by decide)⟩, Below.refl _ _⟩
        · obtain rfl : _ = o := Option.some.inj (show some _ = some o from ho)
          obtain ⟨x22, t22, f22⟩ := (hdep 5 (by kernel_rfl)).at 22 (by kernel_rfl)
          replace f22 := f22.2.2.1 rfl
          subst f22
          have hsz := EB.size
          refine .inr ⟨32, #[.agg #[.int .u64 e.cl, .int .u64 e.st, .string e.an]], by go_simp, (cresult_any w e hok).mono ?_⟩
          rintro x w' ⟨q, ao, n, cap, cs, m, rfl, L, hq, C, hf⟩
          exact ⟨_, rfl, ⟨fun e => absurd e (by decide), fun e => absurd e (by decide), fun e => absurd e (by decide), fun _ => ⟨⟨e.cl, e.st, q, ao, n, cap, cs, m⟩, rfl, rfl, rfl, ⟨hok.cl, hok.st, L⟩, hq.symm, fun z hz => Nat.le_trans hsz (hf z hz)⟩, fun e => absurd e (by decide), fun e => absurd e (by decide)⟩, C⟩
        · obtain rfl : _ = o := Option.some.inj (show some _ = some o from ho)
          obtain ⟨x19, t19, f19⟩ := (hdep 2 (by kernel_rfl)).at 19 (by kernel_rfl)
          replace f19 := f19.1 rfl
          obtain ⟨x21, t21, f21⟩ := (hdep 4 (by kernel_rfl)).at 21 (by kernel_rfl)
          replace f21 := f21.2.1 rfl
          obtain ⟨x23, t23, f23⟩ := (hdep 6 (by kernel_rfl)).at 23 (by kernel_rfl)
          replace f23 := f23.2.2.2.1 rfl
          subst f19
          subst f21
          obtain ⟨y, rfl, Y⟩ := f23
          have hc1 := Y.cl
          have hc2 := Y.st
          exact .inl ⟨.agg #[.int .u64 y.cl, .int .u64 y.st, .int .i64 y.e, .slice y.ao y.n y.cap, .bool y.m], w, by rw [hc1, hc2]; go_simp, ⟨fun e => absurd e (by decide), fun e => absurd e (by decide), fun e => absurd e (by decide), fun e => absurd e (by decide), fun _ => ⟨y, rfl, Y⟩, fun e => absurd e (by decide)⟩, Below.refl _ _⟩
        · obtain rfl : _ = o := Option.some.inj (show some _ = some o from ho)
          obtain ⟨x24, t24, f24⟩ := (hdep 7 (by kernel_rfl)).at 24 (by kernel_rfl)
          replace f24 := f24.2.2.2.2.1 rfl
          obtain ⟨y, rfl, Y⟩ := f24
          have CA : Below w.heap.size w (w.alloc (.cells #[.int .u64 y.cl, .int .u64 y.st, .int .i64 y.e, .slice y.ao y.n y.cap, .bool y.m] 70)) := (Below.refl _ _).alloc (Nat.le_refl _) _
          exact .inl ⟨_, _, by go_simp, ⟨fun e => absurd e (by decide), fun e => absurd e (by decide), fun e => absurd e (by decide), fun e => absurd e (by decide), fun e => absurd e (by decide), fun _ => ⟨y, _, rfl, heap_alloc_new w _, Y.below CA⟩⟩, CA⟩
      intro zf v1 hb hh
      have E1 := E0.trans (hb.mono E0.size)
      obtain e2 := (hh (2, 19) (by simp)).1 rfl
      obtain e4 := (hh (4, 21) (by simp)).2.1 rfl
      obtain e5 := (hh (5, 22) (by simp)).2.2.1 rfl
      obtain ⟨y, g1, e8, G1, Y1⟩ := (hh (8, 25) (by simp)).2.2.2.2.2 rfl
      clear hh hb
      simp only [putL, List.foldl_cons, List.foldl_nil, e2, e4, e5, e8]
      clear e2 e4 e5 e8
      simp only [FL]
      have N1 := N.below E1
      have hsb := B.size
      have hsv := E1.size
      obtain ⟨v', W1, ha, N2, B2, ao2, n2, c2, rfl⟩ := N1.app lty1 33 (cp := 1) G1 Y1.ok (fun x hx e => by
        have h1 := Y1.far x hx
        have h2 := (N.own.lt x e).2
        omega) (by omega) (by omega)
      refine hr_ex 9 (some 26) rfl rfl (by kernel_rfl) rfl (R := fun v w' => (.slice ao2 n2 c2) = v ∧ W1 = w') ⟨_, W1, by simp [execOp, Act.eval, resolve, invoke, builtin, ha], rfl, rfl⟩ ?_
      rintro v w' ⟨rfl, rfl⟩
      refine ⟨trivial, ?_⟩
      simp only [FL]
      refine hr_take_w 10 (some 3) ((.slice ao2 n2 c2)) rfl rfl (by kernel_rfl) (by kernel_rfl) (by kernel_rfl) rfl (fun W hW => by go_simp) trivial ?_
      simp only [FL]
      refine wpAnyH_done (by kernel_rfl) ?_ _
      refine NoPanic.normal ?_
      have hen := Y1.en
      have HYF : Hid (∀ x, y.blk x → w.heap.size ≤ x) := fun x hx => Nat.le_trans hsb (Y1.far x hx)
      have B3 := (B.trans (E1.mono (by omega))).trans B2
      clear ha N1 G1 Y1 N B E1 B2 hsb hsv
      go_wp2
      go_roundw
      case rel =>
        refine ⟨k + 1, ys ++ [y], by omega, by go_num, N2, ?_, fun z hz => ?_, B3⟩
        · show _ = _
          rw [HT.out, List.map_append, HY.out]
          simp [hen]
        · rcases List.mem_append.1 hz with hz | hz
          · exact HLO.out z hz
          · rw [List.mem_singleton.1 hz]
            exact HYF.out
      case measure => simp [intOf]; omega
    · have hge : (l.length : Int) ≤ (k : Int) := by omega
      have HY2 : Hid (ys.map LA.en = l) := by
        show _ = _
        rw [HY.out, List.take_of_length_le (by omega)]
      obtain ⟨ao, cap, hs, LL, hlow⟩ := N.ll
      have HLW : Hid (∀ z, sblk ao ys.length z → w.heap.size ≤ z) := hlow
      rw [hs]
      clear N HY hv hlow
      go_wp2
      go_ret
      exact ⟨ao, _, cap, ys, rfl, LL, HY2.out, B, fun z hz => by
        rcases hz with hz | ⟨y, hy, hz⟩
        · exact HLW.out z hz
        · exact HLO.out y hy z hz⟩
open Go.RowKit
set_option maxRecDepth 100000 in
set_option maxHeartbeats 8000000 in
theorem lback_any (w : World) (ao : Option Addr) (n cap : Nat) (ls : List LA) (h : LL12 w ao n cap ls) (hn : n ≤ 100) (D : Nat) (hD : D ≤ w.heap.size) (hF : ∀ z, LLb ao n ls z → D ≤ z) :
    Calls Try.prog 9 #[.slice ao n cap] w (LsIs w D (ls.map LA.en)) := by
  have HF : Hid (∀ y ∈ ls, ∀ z, y.blk z → D ≤ z) := fun y hy z hz => hF z (.inr ⟨y, hy, hz⟩)
  clear hF
  have hl := h.len
  have hni : (n : Int) ≤ 100 := by omega
  have hcl := h.le
  go_enter Try.func9, Try.ntmps9
  go_wp2_with fail
  go_loopw [3, 4] (fun v i wr => ∃ (k : Nat), k ≤ n ∧ i = .int .i64 k ∧ AllI 44 wr w.heap.size v (ls.take k) ∧ Below w.heap.size w wr) (fun _ i _ => n - (intOf i).toNat)
  case atStart => exact ⟨0, Nat.zero_le _, rfl, AllI.nil _ _ _, Below.refl _ _⟩
  case round =>
    obtain ⟨k, hk, rfl, N, B⟩ := hrel
    obtain ⟨vo, vn, vc, hvs⟩ := N.slice
    obtain ⟨v, hv⟩ : ∃ v, v = Value.slice vo vn vc := ⟨_, rfl⟩
    rw [hvs, ← hv] at N
    rw [hvs, ← hv]
    clear hvs
    by_cases hlt : k < n
    · have hki : (k : Int) < (n : Int) := by omega
      have hkl : k < ls.length := by omega
      obtain ⟨b, off, rfl, hc⟩ := h.at (by omega)
      have X := (hc k hkl).below B
      have HX : Hid (∀ V, Below wr.heap.size wr V → LX V b (off + k * 5) ls[k]) := fun V hV => X.below hV
      have hok := h.ok _ (List.getElem_mem hkl)
      have hyl : (ls.take k).length ≤ 100 := by rw [List.length_take]; omega
      have HT : Hid (ls.take (k + 1) = ls.take k ++ [ls[k]]) := List.take_succ_eq_append_getElem hkl
      obtain ⟨y, hy⟩ : ∃ y, y = ls[k] := ⟨_, rfl⟩
      rw [← hy] at HX hok HT
      clear hy hc X
      go_wp2_with fail
      have E0 : Below wr.heap.size wr wr.drew := (Below.refl _ _).drew
      refine wp_region_noPanic ?_
      refine wp_region_held_drew (S := fun _ => True) (by kernel_rfl) trivial (fun _ => ?_)
      obtain ⟨v0, hv0⟩ : ∃ v, v = wr.drew := ⟨_, rfl⟩
      rw [← hv0] at E0 ⊢
      clear hv0
      refine hr_take_w 0 (some 11) (v) rfl rfl (by kernel_rfl) (by kernel_rfl) (by kernel_rfl) rfl (fun W hW => by go_simp) trivial ?_
      simp only [FL]
      refine hr_take_w 1 (some 12) (.slice (some ⟨b, off, none⟩) n cap) rfl rfl (by kernel_rfl) (by kernel_rfl) (by kernel_rfl) rfl (fun W hW => by go_simp) trivial ?_
      simp only [FL]
      refine hr_take_w 2 (some 13) (.int .i64 (k : Nat)) rfl rfl (by kernel_rfl) (by kernel_rfl) (by kernel_rfl) rfl (fun W hW => by go_simp) trivial ?_
      simp only [FL]
      refine hr_take_w 3 (some 14) (.pointer (some ⟨b, off + k * 5, none⟩)) rfl rfl (by kernel_rfl) (by kernel_rfl) (by kernel_rfl) rfl (fun W hW => by go_simp) trivial ?_
      simp only [FL]
      refine hr_take_w 4 (some 15) (.pointer (some ⟨b, off + k * 5, none⟩)) rfl rfl (by kernel_rfl) (by kernel_rfl) (by kernel_rfl) rfl (fun W hW => by go_simp) trivial ?_
      simp only [FL]
      refine hr_take_w 6 (some 17) (.slice (some ⟨b, off, none⟩) n cap) rfl rfl (by kernel_rfl) (by kernel_rfl) (by kernel_rfl) rfl (fun W hW => by go_simp) trivial ?_
      simp only [FL]
      refine hr_take_w 7 (some 18) (.int .i64 (k : Nat)) rfl rfl (by kernel_rfl) (by kernel_rfl) (by kernel_rfl) rfl (fun W hW => by go_simp) trivial ?_
      simp only [FL]
      refine hr_take_w 8 (some 19) (.pointer (some ⟨b, off + k * 5, none⟩)) rfl rfl (by kernel_rfl) (by kernel_rfl) (by kernel_rfl) rfl (fun W hW => by go_simp) trivial ?_
      simp only [FL]
      refine hr_take_w 9 (some 20) (.pointer (some ⟨b, off + k * 5 + 1, none⟩)) rfl rfl (by kernel_rfl) (by kernel_rfl) (by kernel_rfl) rfl (fun W hW => by go_simp) trivial ?_
      simp only [FL]
      refine hr_take_w 11 (some 22) (.slice (some ⟨b, off, none⟩) n cap) rfl rfl (by kernel_rfl) (by kernel_rfl) (by kernel_rfl) rfl (fun W hW => by go_simp) trivial ?_
      simp only [FL]
      refine hr_take_w 12 (some 23) (.int .i64 (k : Nat)) rfl rfl (by kernel_rfl) (by kernel_rfl) (by kernel_rfl) rfl (fun W hW => by go_simp) trivial ?_
      simp only [FL]
      refine hr_take_w 13 (some 24) (.pointer (some ⟨b, off + k * 5, none⟩)) rfl rfl (by kernel_rfl) (by kernel_rfl) (by kernel_rfl) rfl (fun W hW => by go_simp) trivial ?_
      simp only [FL]
      refine hr_take_w 14 (some 25) (.pointer (some ⟨b, off + k * 5 + 2, none⟩)) rfl rfl (by kernel_rfl) (by kernel_rfl) (by kernel_rfl) rfl (fun W hW => by go_simp) trivial ?_
      simp only [FL]
      refine wpAnyH_effto 2 (fun zi zv zw => (zi = 5 → zv = .int .u64 y.cl) ∧ (zi = 10 → zv = .int .u64 y.st) ∧ (zi = 15 → zv = .agg #[.int .i64 y.e, .slice y.ao y.n y.cap, .bool y.m]) ∧ (zi = 16 → zv = .agg #[.int .u64 y.cl, .int .u64 y.st, .int .i64 y.e, .slice y.ao y.n y.cap, .bool y.m]) ∧ (zi = 17 → ∃ g1 : Nat, zv = .slice (some ⟨g1, 0, none⟩) 1 1 ∧ zw.heap[g1]? = some (.cells #[.int .u64 y.cl, .int .u64 y.st, .int .i64 y.e, .slice y.ao y.n y.cap, .bool y.m] 44))) [(5, 16), (10, 21), (15, 26), (16, 27), (17, 28)] 31 (by kernel_rfl) (by decide) (by decide) rfl ?_ (fun _ _ => trivial) ?_ ?_
      · intro zi v w w' h hb
        refine ⟨fun e => ?_, fun e => ?_, fun e => ?_, fun e => ?_, fun e => ?_⟩
        · have h := h.1 e
          exact h
        · have h := h.2.1 e
          exact h
        · have h := h.2.2.1 e
          exact h
        · have h := h.2.2.2.1 e
          exact h
        · have h := h.2.2.2.2 e
          obtain ⟨g1, h1, h2⟩ := h
          exact ⟨g1, h1, (hb.block g1 (Array.getElem?_eq_some_iff.1 h2).1).trans h2⟩
      · intro zp zhi o a w ho hs hb hdep
        have EB := E0.trans (hb.mono E0.size)
        simp only [List.mem_cons, List.not_mem_nil, or_false] at zhi
        rcases zhi with rfl | rfl | rfl | rfl | rfl
        · obtain rfl : _ = o := Option.some.inj (show some _ = some o from ho)
          have t15 : a.tmps[15]? = some (.pointer (some ⟨b, off + k * 5, none⟩)) := hs.get 15 (by kernel_rfl) rfl
          have X := (HX.out w EB).c0
          exact .inl ⟨.int .u64 y.cl, w, by go_simp, ⟨fun _ => rfl, fun e => absurd e (by decide), fun e => absurd e (by decide), fun e => absurd e (by decide), fun e => absurd e (by decide)⟩, Below.refl _ _⟩
        · obtain rfl : _ = o := Option.some.inj (show some _ = some o from ho)
          have t20 : a.tmps[20]? = some (.pointer (some ⟨b, off + k * 5 + 1, none⟩)) := hs.get 20 (by kernel_rfl) rfl
          have X := (HX.out w EB).c1
          exact .inl ⟨.int .u64 y.st, w, by go_simp, ⟨fun e => absurd e (by decide), fun _ => rfl, fun e => absurd e (by decide), fun e => absurd e (by decide), fun e => absurd e (by decide)⟩, Below.refl _ _⟩
        · obtain rfl : _ = o := Option.some.inj (show some _ = some o from ho)
          have t25 : a.tmps[25]? = some (.pointer (some ⟨b, off + k * 5 + 2, none⟩)) := hs.get 25 (by kernel_rfl) rfl
          have X2 := (HX.out w EB).c2
          have X3 := (HX.out w EB).c3
          have X4 := (HX.out w EB).c4
          exact .inl ⟨.agg #[.int .i64 y.e, .slice y.ao y.n y.cap, .bool y.m], w, by go_simp, ⟨fun e => absurd e (by decide), fun e => absurd e (by decide), fun _ => rfl, fun e => absurd e (by decide), fun e => absurd e (by decide)⟩, Below.refl _ _⟩
        · obtain rfl : _ = o := Option.some.inj (show some _ = some o from ho)
          obtain ⟨x16, t16, f16⟩ := (hdep 5 (by kernel_rfl)).at 16 (by kernel_rfl)
          replace f16 := f16.1 rfl
          obtain ⟨x21, t21, f21⟩ := (hdep 10 (by kernel_rfl)).at 21 (by kernel_rfl)
          replace f21 := f21.2.1 rfl
          obtain ⟨x26, t26, f26⟩ := (hdep 15 (by kernel_rfl)).at 26 (by kernel_rfl)
          replace f26 := f26.2.2.1 rfl
          subst f16
          subst f21
          subst f26
          exact .inl ⟨.agg #[.int .u64 y.cl, .int .u64 y.st, .int .i64 y.e, .slice y.ao y.n y.cap, .bool y.m], w, by go_simp, ⟨fun e => absurd e (by decide), fun e => absurd e (by decide), fun e => absurd e (by decide), fun _ => rfl, fun e => absurd e (by decide)⟩, Below.refl _ _⟩
        · obtain rfl : _ = o := Option.some.inj (show some _ = some o from ho)
          obtain ⟨x27, t27, f27⟩ := (hdep 16 (by kernel_rfl)).at 27 (by kernel_rfl)
          replace f27 := f27.2.2.2.1 rfl
          subst f27
          have CA : Below w.heap.size w (w.alloc (.cells #[.int .u64 y.cl, .int .u64 y.st, .int .i64 y.e, .slice y.ao y.n y.cap, .bool y.m] 44)) := (Below.refl _ _).alloc (Nat.le_refl _) _
          exact .inl ⟨_, _, by go_simp, ⟨fun e => absurd e (by decide), fun e => absurd e (by decide), fun e => absurd e (by decide), fun e => absurd e (by decide), fun _ => ⟨_, rfl, heap_alloc_new w _⟩⟩, CA⟩
      intro zf v1 hb hh
      have E1 := E0.trans (hb.mono E0.size)
      obtain e5 := (hh (5, 16) (by simp)).1 rfl
      obtain e10 := (hh (10, 21) (by simp)).2.1 rfl
      obtain e15 := (hh (15, 26) (by simp)).2.2.1 rfl
      obtain e16 := (hh (16, 27) (by simp)).2.2.2.1 rfl
      obtain ⟨g1, e17, G1⟩ := (hh (17, 28) (by simp)).2.2.2.2 rfl
      clear hh hb
      simp only [putL, List.foldl_cons, List.foldl_nil, e5, e10, e15, e16, e17]
      clear e5 e10 e15 e16 e17
      simp only [FL]
      have N1 := N.below E1
      have hsb := B.size
      have hsv := E1.size
      obtain ⟨v', W1, ha, N2, B2, ao2, n2, c2, rfl⟩ := N1.app lty2 28 (cp := 1) G1 (hok.below (B.trans (E1.mono (by omega)))) (fun x hx e => by
        have h1 := hok.blk_lt hx
        have h2 := (N.own.lt x e).1
        omega) (by omega) (by omega)
      refine hr_ex 18 (some 29) rfl rfl (by kernel_rfl) rfl (R := fun v w' => (.slice ao2 n2 c2) = v ∧ W1 = w') ⟨_, W1, by simp [execOp, Act.eval, resolve, invoke, builtin, ha], rfl, rfl⟩ ?_
      rintro v w' ⟨rfl, rfl⟩
      refine ⟨trivial, ?_⟩
      simp only [FL]
      refine hr_take_w 19 (some 3) ((.slice ao2 n2 c2)) rfl rfl (by kernel_rfl) (by kernel_rfl) (by kernel_rfl) rfl (fun W hW => by go_simp) trivial ?_
      simp only [FL]
      refine wpAnyH_done (by kernel_rfl) ?_ _
      refine NoPanic.normal ?_
      have B3 := (B.trans (E1.mono (by omega))).trans B2
      clear ha N1 G1 N B E1 B2 hsb hsv
      go_wp2
      go_roundw
      case rel =>
        refine ⟨k + 1, by omega, by go_num, ?_, B3⟩
        rw [HT.out]
        exact N2
      case measure => simp [intOf]; omega
    · have hge : (n : Int) ≤ (k : Int) := by omega
      rw [List.take_of_length_le (by omega)] at N
      obtain ⟨ao2, cap2, hs, LL, hlow⟩ := N.ll
      have HLW : Hid (∀ z, sblk ao2 ls.length z → D ≤ z) := fun z hz => Nat.le_trans hD (hlow z hz)
      rw [hs]
      clear N hv hlow
      go_wp2
      go_ret
      exact ⟨ao2, _, cap2, ls, rfl, LL, rfl, B, fun z hz => by
        rcases hz with hz | ⟨y, hy, hz⟩
        · exact HLW.out z hz
        · exact HF.out y hy z hz⟩
end Go.Proofs.Ytoagkffokfbpfaa

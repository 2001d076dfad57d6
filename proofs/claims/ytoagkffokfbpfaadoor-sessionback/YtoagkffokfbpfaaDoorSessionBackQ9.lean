/-
  Texts in one: SeLight, LRow, SeAll, SeBack, RResults, SeSame.
-/
import Derived.Test.YtoagkffokfbpfaaDoorSessionBackQFL
import Derived.Test.YtoagkffokfbpfaaDoorSessionBackQ7
import Derived.Test.YtoagkffokfbpfaaDoorSessionBackQ8
import Derived.Test.YtoagkffokfbpfaaDoorSessionBackQ3
import Derived.Test.YtoagkffokfbpfaaDoorSessionBackQ6
import Derived.Test.YtoagkffokfbpfaaDoorSessionBackQ5
import Derived.Test.YtoagkffokfbpfaaDoorSessionBackQ1
namespace Go.Proofs.YtoagkffokfbpfaaDoor
open Go.RowKit
structure LX (V : World) (b p : Nat) (y : LA) : Prop where
  c0 : V.cell? ⟨b, p, none⟩ = some (.int .u64 y.cl)
  c1 : V.cell? ⟨b, p + 1, none⟩ = some (.int .u64 y.st)
  c2 : V.cell? ⟨b, p + 2, none⟩ = some (.int .i64 y.e)
  c3 : V.cell? ⟨b, p + 3, none⟩ = some (.slice y.ao y.n y.cap)
  c4 : V.cell? ⟨b, p + 4, none⟩ = some (.bool y.m)
theorem LX.below {V V' : World} {b p : Nat} {y : LA} (h : LX V b p y) (hb : Below V.heap.size V V') : LX V' b p y :=
  have k : ∀ a v, V.cell? a = some v → V'.cell? a = some v := fun _ _ hc => (hb.cell (World.block_lt_of_cell? V _ hc)).trans hc
  ⟨k _ _ h.c0, k _ _ h.c1, k _ _ h.c2, k _ _ h.c3, k _ _ h.c4⟩
theorem LL12.at {w : World} {ao : Option Addr} {n cap : Nat} {l : List LA} (h : LL12 w ao n cap l) (hn : 0 < n) :
    ∃ b off, ao = some ⟨b, off, none⟩ ∧ ∀ i (hi : i < l.length), LX w b (off + i * 5) l[i] := by
  have hl := h.len
  cases ao with
  | none => have := (h.nil rfl).1; omega
  | some a =>
    obtain ⟨b, off, spot⟩ := a
    have hc := h.cell _ rfl 0 (by omega) 0 _ rfl
    have hs : spot = none := by simpa [Addr.add] using World.cell?_spot hc
    subst hs
    refine ⟨b, off, rfl, fun i hi => ?_⟩
    have k : ∀ j v, l[i].cells[j]? = some v → w.cell? ⟨b, off + i * 5 + j, none⟩ = some v := fun j v hv => by
      have := h.cell _ rfl i hi j v hv
      rw [Addr.add_lit] at this
      rw [Nat.add_assoc]
      exact this
    exact ⟨k 0 _ rfl, k 1 _ rfl, k 2 _ rfl, k 3 _ rfl, k 4 _ rfl⟩
def lightL (l : List LA) : Bool := decide (l.length ≤ 40) && l.all fun y => cellsB y.cs 70
set_option maxRecDepth 100000 in
set_option maxHeartbeats 2000000 in
theorem llight_any (w : World) (ao : Option Addr) (n cap : Nat) (l : List LA) (h : LL12 w ao n cap l) (hsm : ∀ y ∈ l, y.small) :
    Calls Tryd.prog 7 #[.slice ao n cap] w fun e w' => e = .returned (.bool (lightL l)) ∧ Below w.heap.size w w' := by
  have hl := h.len
  have hmx := h.mx
  have hle := h.le
  have hnx : (n : Int) ≤ 9223372036854775807 := by unfold maxLen at hmx; omega
  by_cases hm : 40 < n
  · have i1 : (40 : Int) < (n : Int) := by omega
    have hv : Hid (lightL l = false) := by
      show _ = _
      unfold lightL
      rw [decide_eq_false (by omega), Bool.false_and]
    go_enter Tryd.func7, Tryd.ntmps7
    go_wp2
    go_ret
    exact ⟨by rw [hv.out] <;> rfl, Below.refl _ _⟩
  have i1 : (n : Int) ≤ 40 := by omega
  have HV : Hid (lightL l = l.all fun y => cellsB y.cs 70) := by
    show _ = _
    unfold lightL
    rw [decide_eq_true (by omega), Bool.true_and]
  have HS : Hid (∀ y ∈ l, y.small) := hsm
  clear hsm hm
  go_enter Tryd.func7, Tryd.ntmps7
  go_wp2
  go_loopw [3] (fun i wr => ∃ k : Nat, k ≤ n ∧ i = .int .i64 k ∧ Hid ((l.take k).all (fun y => cellsB y.cs 70) = true) ∧ Below w.heap.size w wr) (fun i _ => n - (intOf i).toNat)
  case atStart => exact ⟨0, Nat.zero_le _, rfl, rfl, Below.refl _ _⟩
  case round =>
    obtain ⟨k, hk, rfl, HA, B⟩ := hrel
    by_cases hlt : k < n
    · have hki : (k : Int) < (n : Int) := by omega
      have hkl : k < l.length := by omega
      obtain ⟨b, off, rfl, hc⟩ := h.at (by omega)
      have c3 := ((hc k hkl).below B).c3
      have CC := lcells_any wr _ _ _ _ 70 ((h.ok _ (List.getElem_mem hkl)).cs.below B) (HS.out _ (List.getElem_mem hkl))
      have HT : Hid ((l.take (k + 1)).all (fun y => cellsB y.cs 70) = cellsB l[k].cs 70) := by
        show _ = _
        exact all_take_succ (fun y : LA => cellsB y.cs 70) hkl HA.out
      have HB : Hid (cellsB l[k].cs 70 = false → lightL l = false) := fun q => by
        rw [HV.out, List.all_eq_false]
        exact ⟨_, List.getElem_mem hkl, by rw [q]; simp⟩
      obtain ⟨y, hy⟩ : ∃ y, y = l[k] := ⟨_, rfl⟩
      rw [← hy] at c3 CC HT HB
      clear hy hc
      go_wp2_with fail
      refine CC.mono ?_
      rintro x w2 ⟨rfl, C2⟩
      have B2 := B.trans (C2.mono B.size)
      clear CC C2 B c3
      cases hcb : cellsB y.cs 70 with
      | false =>
        have HV2 : Hid (lightL l = false) := HB.out hcb
        clear hcb HT HB
        go_wp2
        go_ret
        exact ⟨by rw [HV2.out] <;> rfl, B2⟩
      | true =>
        have HA2 : Hid ((l.take (k + 1)).all (fun y => cellsB y.cs 70) = true) := by show _ = _; rw [HT.out, hcb]
        clear hcb HT HB
        go_wp2
        go_roundw
        case rel => exact ⟨k + 1, by omega, by go_num, HA2, B2⟩
        case measure => simp [intOf]; omega
    · have hge : (n : Int) ≤ (k : Int) := by omega
      have HV2 : Hid (lightL l = true) := by
        show _ = _
        rw [HV.out, ← HA.out, List.take_of_length_le (by omega)]
      go_wp2
      go_ret
      exact ⟨by rw [HV2.out] <;> rfl, B⟩
open Go.RowKit
def LA.en (y : LA) : EN := ⟨y.cl, y.st, resR y.e y.cs y.m⟩
def LA.blk (y : LA) (x : Nat) : Prop := sblk y.ao y.n x ∨ ∃ c ∈ y.cs, c.va.blk x
theorem LA.ok.blk_lt {y : LA} {w : World} (h : y.ok w) {x : Nat} (hx : y.blk x) : x < w.heap.size := by
  rcases hx with ⟨a, ha, hn, rfl⟩ | ⟨c, hc, hx⟩
  · have hl := h.cs.len
    have h0 := h.cs.cell a ha 0 (by omega) 0 _ rfl
    have hlt := World.block_lt_of_cell? w _ h0
    have hb : (a.add (0 * 6 + 0)).block = a.block := by unfold Addr.add; split <;> rfl
    rw [hb] at hlt
    exact hlt
  · exact (h.cs.ok c hc).blk_lt hx
theorem LA.ok.kept {y : LA} {w w' : World} (h : y.ok w) (hk : ∀ x, y.blk x → w'.heap[x]? = w.heap[x]?) : y.ok w' := ⟨h.cl, h.st, h.cs.kept hk⟩
def cellsL (l : List LA) : List Value := (l.map LA.cells).flatten
theorem l_one (y : LA) : ∀ u ∈ y.cells, u.oneCell' = true := by
  intro u hu
  unfold LA.cells at hu
  simp only [List.mem_cons, List.not_mem_nil, or_false] at hu
  rcases hu with rfl | rfl | rfl | rfl | rfl <;> rfl
structure LTy (t s : TypeId) : Prop where
  info : (Tryd.prog.info? t).map (fun i => (i.zero, i.size, i.bytes)) = some (some (.agg #[.int .u64 0, .int .u64 0, .int .i64 0, .slice none 0 0, .bool false]), 5, 56)
  und : Tryd.prog.underlying s = some (.slice t)
theorem lty1 : LTy 77 47 := ⟨by kernel_rfl, Tryd.underlying47⟩
theorem lty2 : LTy 39 23 := ⟨by kernel_rfl, Tryd.underlying23⟩
structure AllI (t : TypeId) (W : World) (base : Nat) (v : Value) (ys : List LA) : Prop where
  own : W.ownsRow base t 5 v ys.length (cellsL ys)
  ok : ∀ y ∈ ys, y.ok W
  far : ∀ y ∈ ys, ∀ x, y.blk x → v.ownBlock ≠ some x
theorem AllI.nil (t : TypeId) (W : World) (base : Nat) : AllI t W base (.slice none 0 0) [] := ⟨World.ownsRow_nil _ _ _ _, fun _ h => by simp at h, fun _ h => by simp at h⟩
theorem AllI.below {t : TypeId} {W W' : World} {base : Nat} {v : Value} {ys : List LA} (h : AllI t W base v ys) (hb : Below W.heap.size W W') : AllI t W' base v ys :=
  ⟨own_kept h.own fun g hg => hb.block g (h.own.lt g hg).2, fun y hy => (h.ok y hy).below hb, h.far⟩
theorem AllI.slice {t : TypeId} {W : World} {base : Nat} {v : Value} {ys : List LA} (h : AllI t W base v ys) : ∃ ao n cap, v = .slice ao n cap := by
  rcases h.own.2 with ⟨rfl, _⟩ | ⟨g, cap, cur, rfl, _⟩
  · exact ⟨none, 0, 0, rfl⟩
  · exact ⟨_, _, cap, rfl⟩
theorem AllI.app {t s : TypeId} (hty : LTy t s) {W : World} {base : Nat} {v : Value} {ys : List LA} (h : AllI t W base v ys) (ty : TypeId) {g cp : Nat} {y : LA} {t' : TypeId} (hG : W.heap[g]? = some (.cells #[.int .u64 y.cl, .int .u64 y.st, .int .i64 y.e, .slice y.ao y.n y.cap, .bool y.m] t')) (he : y.ok W) (hf : ∀ x, y.blk x → v.ownBlock ≠ some x) (hn : ys.length ≤ 1000) (hbase : base ≤ W.heap.size) :
    ∃ v' W1, (Builtin.append_ #[s, s] ty #[v, .slice (some ⟨g, 0, none⟩) 1 cp]).run Tryd.prog W = .ok v' W1 ∧ AllI t W1 base v' (ys ++ [y]) ∧ Below base W W1 ∧ ∃ ao n cap, v' = .slice ao n cap := by
  obtain ⟨i0, hi, hz0, hz1, hz2⟩ := info_parts hty.info
  obtain ⟨v', W1, hr, ho, hg, ha⟩ := run_append_own2 (P := Tryd.prog) W base s ty t i0 _ 5 56 hty.und hi hz0 hz1 hz2 rfl (by decide) v ys.length (cellsL ys) h.own ⟨g, 0, none⟩ 1 cp y.cells rfl
    (fun j u hu => by
      rw [Addr.add_lit, Nat.zero_add, cell_of_row W g j _ _ _ hG]
      simpa [LA.cells] using hu) (l_one y) (by unfold maxLen; omega) (by omega) hbase
  have hown : W1.ownsRow base t 5 v' (ys ++ [y]).length (cellsL (ys ++ [y])) := by
    have e1 : cellsL (ys ++ [y]) = cellsL ys ++ y.cells := by simp [cellsL]
    rw [e1, List.length_append]
    exact ho
  have key : ∀ z : LA, z.ok W → (∀ x, z.blk x → v.ownBlock ≠ some x) → z.ok W1 ∧ ∀ x, z.blk x → v'.ownBlock ≠ some x := fun z hz hzf => ⟨hz.kept fun x hx => hg.block x (hz.blk_lt hx) (fun e => hzf x hx e.symm), fun x hx e => by
    rcases ha x e with c | c
    · exact hzf x hx c
    · have := hz.blk_lt hx
      omega⟩
  refine ⟨v', W1, hr, ⟨hown, fun z hz => ?_, fun z hz => ?_⟩, (Below.refl _ W).grown hg hbase (fun k hk => (h.own.lt k hk).1), ?_⟩
  · rcases List.mem_append.1 hz with hz | hz
    · exact (key z (h.ok z hz) (h.far z hz)).1
    · rw [List.mem_singleton.1 hz]; exact (key y he hf).1
  · rcases List.mem_append.1 hz with hz | hz
    · exact (key z (h.ok z hz) (h.far z hz)).2
    · rw [List.mem_singleton.1 hz]; exact (key y he hf).2
  · rcases ho.2 with ⟨rfl, _⟩ | ⟨g, cap, cur, rfl, _⟩
    · exact ⟨none, 0, 0, rfl⟩
    · exact ⟨_, _, cap, rfl⟩
theorem AllI.ll {t : TypeId} {W : World} {base : Nat} {v : Value} {ys : List LA} (h : AllI t W base v ys) : ∃ ao cap, v = .slice ao ys.length cap ∧ LL12 W ao ys.length cap ys ∧ ∀ z, sblk ao ys.length z → base ≤ z := by
  rcases h.own.2 with ⟨rfl, e⟩ | ⟨g, cap, cur, rfl, a1, a2, a3, a4, a5, a6⟩
  · rw [e]
    have : ys = [] := List.eq_nil_of_length_eq_zero e
    subst this
    exact ⟨none, 0, rfl, LL12.nothing W, fun z hz => by obtain ⟨a, ha, _⟩ := hz; cases ha⟩
  · refine ⟨some ⟨g, 0, none⟩, cap, rfl, ⟨rfl, a3, a4, fun h => by simp at h, fun a ha i hi j u hu => ?_, h.ok⟩, fun z hz => by obtain ⟨a, ha, _, rfl⟩ := hz; cases ha; exact a1⟩
    obtain rfl := Option.some.inj ha
    have hj : j < 5 := (List.getElem?_eq_some_iff.1 hu).1
    refine h.own.cells (g := g) rfl (i * 5 + j) u ?_
    unfold cellsL
    rw [flat_get LA.cells 5 (fun _ => rfl) ys i j hi hj]
    exact hu
def LLb (ao : Option Addr) (n : Nat) (ys : List LA) (z : Nat) : Prop := sblk ao n z ∨ ∃ y ∈ ys, y.blk z
def LsIs (w : World) (D : Nat) (l : List EN) (x : Ending) (w' : World) : Prop := ∃ (ao : Option Addr) (n cap : Nat) (ys : List LA), x = .returned (.slice ao n cap) ∧ LL12 w' ao n cap ys ∧ ys.map LA.en = l ∧ Below w.heap.size w w' ∧ ∀ z, LLb ao n ys z → D ≤ z
structure YOK (W : World) (N : Nat) (e : EN) (y : LA) : Prop where
  cl : y.cl = e.cl
  st : y.st = e.st
  ok : y.ok W
  r : resR y.e y.cs y.m = e.r
  far : ∀ x, y.blk x → N ≤ x
theorem YOK.below {W W' : World} {N : Nat} {e : EN} {y : LA} (h : YOK W N e y) (hb : Below W.heap.size W W') : YOK W' N e y := ⟨h.cl, h.st, h.ok.below hb, h.r, h.far⟩
theorem YOK.en {W : World} {N : Nat} {e : EN} {y : LA} (h : YOK W N e y) : y.en = e := by
  unfold LA.en
  rw [h.cl, h.st, h.r]
open Go.RowKit
set_option maxRecDepth 100000 in
set_option maxHeartbeats 8000000 in
theorem cAll_any (w : World) (p g : Nat) (l : List EN) (h : TS w p g l) :
    Calls Tryd.prog 19 #[.pointer (some ⟨p, 0, none⟩)] w (LsIs w w.heap.size l) := by
  have n8 := h.n8
  have n8i : (l.length : Int) ≤ 8 := by omega
  obtain ⟨cp, t0, R0, hcp⟩ := h.tab
  go_enter Tryd.func19, Tryd.ntmps19
  go_wp2_with fail
  go_loopw [3, 13] (fun v i wr => ∃ (k : Nat) (ys : List LA), k ≤ l.length ∧ i = .int .i64 k ∧ AllI 77 wr w.heap.size v ys ∧ Hid (ys.map LA.en = l.take k) ∧ Hid (∀ y ∈ ys, ∀ x, y.blk x → w.heap.size ≤ x) ∧ Below w.heap.size w wr) (fun _ i _ => l.length - (intOf i).toNat)
  case atStart => exact ⟨0, [], Nat.zero_le _, rfl, AllI.nil _ _ _, rfl, fun _ h => by simp at h, Below.refl _ _⟩
  case round =>
    obtain ⟨k, ys, hk, rfl, N, HY, HLO, B⟩ := hrel
    obtain ⟨vo, vn, vc, hvs⟩ := N.slice
    obtain ⟨v, hv⟩ : ∃ v, v = Value.slice vo vn vc := ⟨_, rfl⟩
    rw [hvs, ← hv] at N
    rw [hvs, ← hv]
    clear hvs
    have hyl : ys.length = k := by
      have := congrArg List.length HY.out
      simp only [List.length_map, List.length_take] at this
      omega
    by_cases hlt : k < l.length
    · have hki : (k : Int) < (l.length : Int) := by omega
      have R := R0.keep (B.block g R0.lt)
      have q0 := R.cell k hlt 0 _ rfl
      have q1 := R.cell k hlt 1 _ rfl
      have q2 := R.cell k hlt 2 _ rfl
      simp only [Nat.add_zero] at q0
      have hok := h.ok _ (List.getElem_mem hlt)
      have HT : Hid (l.take (k + 1) = l.take k ++ [l[k]]) := List.take_succ_eq_append_getElem hlt
      obtain ⟨e, he⟩ : ∃ e, e = l[k] := ⟨_, rfl⟩
      rw [← he] at q0 q1 q2 hok HT
      clear he R
      have C2 : Below wr.heap.size wr (wr.alloc (.cells #[.int .u64 e.cl, .int .u64 e.st, .string e.an] 66)) := (Below.refl _ _).alloc (Nat.le_refl _) _
      have K2 : (wr.alloc (.cells #[.int .u64 e.cl, .int .u64 e.st, .string e.an] 66)).heap[wr.heap.size]? = some (.cells #[.int .u64 e.cl, .int .u64 e.st, .string e.an] 66) := heap_alloc_new _ _
      have N := N.below C2
      have B := B.trans (C2.mono B.size)
      go_wp2_with fail
      obtain ⟨w2, hw2⟩ : ∃ W, W = wr.alloc (.cells #[.int .u64 e.cl, .int .u64 e.st, .string e.an] 66) := ⟨_, rfl⟩
      obtain ⟨E, hE⟩ : ∃ E, E = wr.heap.size := ⟨_, rfl⟩
      rw [← hw2] at K2 N B ⊢
      rw [← hE] at K2 ⊢
      clear hw2 hE C2 q0 q1 q2
      have hE : E < w2.heap.size := (Array.getElem?_eq_some_iff.1 K2).1
      have E0 : Below w2.heap.size w2 w2.drew := (Below.refl _ _).drew
      refine wp_region_noPanic ?_
      refine wp_region_held_drew (S := fun _ => True) (by kernel_rfl) trivial (fun _ => ?_)
      obtain ⟨v0, hv0⟩ : ∃ v, v = w2.drew := ⟨_, rfl⟩
      rw [← hv0] at E0 ⊢
      clear hv0
      refine hr_take_w 0 (some 17) (v) rfl rfl (by kernel_rfl) (by kernel_rfl) (by kernel_rfl) rfl (fun W hW => by go_simp) trivial ?_
      simp only [FL]
      refine hr_take_w 1 (some 18) (.pointer (some ⟨E, 0, none⟩)) rfl rfl (by kernel_rfl) (by kernel_rfl) (by kernel_rfl) rfl (fun W hW => by go_simp) trivial ?_
      simp only [FL]
      refine hr_take_w 3 (some 20) (.pointer (some ⟨E, 1, none⟩)) rfl rfl (by kernel_rfl) (by kernel_rfl) (by kernel_rfl) rfl (fun W hW => by go_simp) trivial ?_
      simp only [FL]
      refine wpAnyH_effto 2 (fun zi zv zw => (zi = 2 → zv = .int .u64 e.cl) ∧ (zi = 4 → zv = .int .u64 e.st) ∧ (zi = 5 → zv = .agg #[.int .u64 e.cl, .int .u64 e.st, .string e.an]) ∧ (zi = 6 → ∃ y : LA, zv = .agg #[.int .i64 y.e, .slice y.ao y.n y.cap, .bool y.m] ∧ YOK zw w2.heap.size e y) ∧ (zi = 7 → ∃ y : LA, zv = .agg #[.int .u64 y.cl, .int .u64 y.st, .int .i64 y.e, .slice y.ao y.n y.cap, .bool y.m] ∧ YOK zw w2.heap.size e y) ∧ (zi = 8 → ∃ (y : LA) (g1 : Nat), zv = .slice (some ⟨g1, 0, none⟩) 1 1 ∧ zw.heap[g1]? = some (.cells #[.int .u64 y.cl, .int .u64 y.st, .int .i64 y.e, .slice y.ao y.n y.cap, .bool y.m] 77) ∧ YOK zw w2.heap.size e y)) [(2, 19), (4, 21), (5, 22), (6, 23), (7, 24), (8, 25)] 29 (by kernel_rfl) (by decide) (by decide) rfl ?_ (fun _ _ => trivial) ?_ ?_
      · intro zi v w w' h hb
        refine ⟨fun e => ?_, fun e => ?_, fun e => ?_, fun e => ?_, fun e => ?_, fun e => ?_⟩
        · have h := h.1 e
          exact h
        · have h := h.2.1 e
          exact h
        · have h := h.2.2.1 e
          exact h
        · have h := h.2.2.2.1 e
          obtain ⟨y, h1, h2⟩ := h
          exact ⟨y, h1, h2.below hb⟩
        · have h := h.2.2.2.2.1 e
          obtain ⟨y, h1, h2⟩ := h
          exact ⟨y, h1, h2.below hb⟩
        · have h := h.2.2.2.2.2 e
          obtain ⟨y, g1, h1, h2, h3⟩ := h
          exact ⟨y, g1, h1, (hb.block g1 (Array.getElem?_eq_some_iff.1 h2).1).trans h2, h3.below hb⟩
      · intro zp zhi o a w ho hs hb hdep
        have EB := E0.trans (hb.mono E0.size)
        simp only [List.mem_cons, List.not_mem_nil, or_false] at zhi
        rcases zhi with rfl | rfl | rfl | rfl | rfl | rfl
        · obtain rfl : _ = o := Option.some.inj (show some _ = some o from ho)
          have t18 : a.tmps[18]? = some (.pointer (some ⟨E, 0, none⟩)) := hs.get 18 (by kernel_rfl) rfl
          have lk := (EB.block E hE).trans K2
          have lc := cell_of_row w E 0 _ _ _ lk
          exact .inl ⟨.int .u64 e.cl, w, by go_simp, ⟨fun _ => rfl, fun e => absurd e (by decide), fun e => absurd e (by decide), fun e => absurd e (by decide), fun e => absurd e (by decide), fun e => absurd e (by decide)⟩, Below.refl _ _⟩
        · obtain rfl : _ = o := Option.some.inj (show some _ = some o from ho)
          have t20 : a.tmps[20]? = some (.pointer (some ⟨E, 1, none⟩)) := hs.get 20 (by kernel_rfl) rfl
          have lk := (EB.block E hE).trans K2
          have lc := cell_of_row w E 1 _ _ _ lk
          exact .inl ⟨.int .u64 e.st, w, by go_simp, ⟨fun e => absurd e (by decide), fun _ => rfl, fun e => absurd e (by decide), fun e => absurd e (by decide), fun e => absurd e (by decide), fun e => absurd e (by decide)⟩, Below.refl _ _⟩
        · obtain rfl : _ = o := Option.some.inj (show some _ = some o from ho)
          have t5 : a.tmps[5]? = some (.pointer (some ⟨E, 0, none⟩)) := hs.get 5 (by kernel_rfl) rfl
          have lk := (EB.block E hE).trans K2
          have lc0 := cell_of_row w E 0 _ _ _ lk
          have lc1 := cell_of_row w E 1 _ _ _ lk
          have lc2 := cell_of_row w E 2 _ _ _ lk
          exact .inl ⟨.agg #[.int .u64 e.cl, .int .u64 e.st, .string e.an], w, by go_simp, ⟨fun e => absurd e (by decide), fun e => absurd e (by decide), fun _ => rfl, fun e => absurd e (by decide), fun e => absurd e (by decide), fun e => absurd e (by decide)⟩, Below.refl _ _⟩
        · obtain rfl : _ = o := Option.some.inj (show some _ = some o from ho)
          obtain ⟨x22, t22, f22⟩ := (hdep 5 (by kernel_rfl)).at 22 (by kernel_rfl)
          replace f22 := f22.2.2.1 rfl
          subst f22
          have hsz := EB.size
          refine .inr ⟨35, #[.agg #[.int .u64 e.cl, .int .u64 e.st, .string e.an]], by go_simp, (cresult_any w e hok).mono ?_⟩
          rintro x w' ⟨q, ao, n, cap, cs, m, rfl, L, hq, C, hf⟩
          exact ⟨_, rfl, ⟨fun e => absurd e (by decide), fun e => absurd e (by decide), fun e => absurd e (by decide), fun _ => ⟨⟨e.cl, e.st, q, ao, n, cap, cs, m⟩, rfl, rfl, rfl, ⟨hok.cl, hok.st, L⟩, hq.symm, fun z hz => Nat.le_trans hsz (hf z hz)⟩, fun e => absurd e (by decide), fun e => absurd e (by decide)⟩, C⟩
        · obtain rfl : _ = o := Option.some.inj (show some _ = some o from ho)
          obtain ⟨x19, t19, f19⟩ := (hdep 2 (by kernel_rfl)).at 19 (by kernel_rfl)
          replace f19 := f19.1 rfl
          obtain ⟨x21, t21, f21⟩ := (hdep 4 (by kernel_rfl)).at 21 (by kernel_rfl)
          replace f21 := f21.2.1 rfl
          obtain ⟨x23, t23, f23⟩ := (hdep 6 (by kernel_rfl)).at 23 (by kernel_rfl)
          replace f23 := f23.2.2.2.1 rfl
          subst f19
          subst f21
          obtain ⟨y, rfl, Y⟩ := f23
          have hc1 := Y.cl
          have hc2 := Y.st
          exact .inl ⟨.agg #[.int .u64 y.cl, .int .u64 y.st, .int .i64 y.e, .slice y.ao y.n y.cap, .bool y.m], w, by rw [hc1, hc2]; go_simp, ⟨fun e => absurd e (by decide), fun e => absurd e (by decide), fun e => absurd e (by decide), fun e => absurd e (by decide), fun _ => ⟨y, rfl, Y⟩, fun e => absurd e (by decide)⟩, Below.refl _ _⟩
        · obtain rfl : _ = o := Option.some.inj (show some _ = some o from ho)
          obtain ⟨x24, t24, f24⟩ := (hdep 7 (by kernel_rfl)).at 24 (by kernel_rfl)
          replace f24 := f24.2.2.2.2.1 rfl
          obtain ⟨y, rfl, Y⟩ := f24
          have CA : Below w.heap.size w (w.alloc (.cells #[.int .u64 y.cl, .int .u64 y.st, .int .i64 y.e, .slice y.ao y.n y.cap, .bool y.m] 77)) := (Below.refl _ _).alloc (Nat.le_refl _) _
          exact .inl ⟨_, _, by go_simp, ⟨fun e => absurd e (by decide), fun e => absurd e (by decide), fun e => absurd e (by decide), fun e => absurd e (by decide), fun e => absurd e (by decide), fun _ => ⟨y, _, rfl, heap_alloc_new w _, Y.below CA⟩⟩, CA⟩
      intro zf v1 hb hh
      have E1 := E0.trans (hb.mono E0.size)
      obtain e2 := (hh (2, 19) (by simp)).1 rfl
      obtain e4 := (hh (4, 21) (by simp)).2.1 rfl
      obtain e5 := (hh (5, 22) (by simp)).2.2.1 rfl
      obtain ⟨y, g1, e8, G1, Y1⟩ := (hh (8, 25) (by simp)).2.2.2.2.2 rfl
      clear hh hb
      simp only [putL, List.foldl_cons, List.foldl_nil, e2, e4, e5, e8]
      clear e2 e4 e5 e8
      simp only [FL]
      have N1 := N.below E1
      have hsb := B.size
      have hsv := E1.size
      obtain ⟨v', W1, ha, N2, B2, ao2, n2, c2, rfl⟩ := N1.app lty1 47 (cp := 1) G1 Y1.ok (fun x hx e => by
        have h1 := Y1.far x hx
        have h2 := (N.own.lt x e).2
        omega) (by omega) (by omega)
      refine hr_ex 9 (some 26) rfl rfl (by kernel_rfl) rfl (R := fun v w' => (.slice ao2 n2 c2) = v ∧ W1 = w') ⟨_, W1, by simp [execOp, Act.eval, resolve, invoke, builtin, ha], rfl, rfl⟩ ?_
      rintro v w' ⟨rfl, rfl⟩
      refine ⟨trivial, ?_⟩
      simp only [FL]
      refine hr_take_w 10 (some 3) ((.slice ao2 n2 c2)) rfl rfl (by kernel_rfl) (by kernel_rfl) (by kernel_rfl) rfl (fun W hW => by go_simp) trivial ?_
      simp only [FL]
      refine wpAnyH_done (by kernel_rfl) ?_ _
      refine NoPanic.normal ?_
      have hen := Y1.en
      have HYF : Hid (∀ x, y.blk x → w.heap.size ≤ x) := fun x hx => Nat.le_trans hsb (Y1.far x hx)
      have B3 := (B.trans (E1.mono (by omega))).trans B2
      clear ha N1 G1 Y1 N B E1 B2 hsb hsv
      go_wp2
      go_roundw
      case rel =>
        refine ⟨k + 1, ys ++ [y], by omega, by go_num, N2, ?_, fun z hz => ?_, B3⟩
        · show _ = _
          rw [HT.out, List.map_append, HY.out]
          simp [hen]
        · rcases List.mem_append.1 hz with hz | hz
          · exact HLO.out z hz
          · rw [List.mem_singleton.1 hz]
            exact HYF.out
      case measure => simp [intOf]; omega
    · have hge : (l.length : Int) ≤ (k : Int) := by omega
      have HY2 : Hid (ys.map LA.en = l) := by
        show _ = _
        rw [HY.out, List.take_of_length_le (by omega)]
      obtain ⟨ao, cap, hs, LL, hlow⟩ := N.ll
      have HLW : Hid (∀ z, sblk ao ys.length z → w.heap.size ≤ z) := hlow
      rw [hs]
      clear N HY hv hlow
      go_wp2
      go_ret
      exact ⟨ao, _, cap, ys, rfl, LL, HY2.out, B, fun z hz => by
        rcases hz with hz | ⟨y, hy, hz⟩
        · exact HLW.out z hz
        · exact HLO.out y hy z hz⟩
open Go.RowKit
set_option maxRecDepth 100000 in
set_option maxHeartbeats 8000000 in
theorem lback_any (w : World) (ao : Option Addr) (n cap : Nat) (ls : List LA) (h : LL12 w ao n cap ls) (hn : n ≤ 100) (D : Nat) (hD : D ≤ w.heap.size) (hF : ∀ z, LLb ao n ls z → D ≤ z) :
    Calls Tryd.prog 18 #[.slice ao n cap] w (LsIs w D (ls.map LA.en)) := by
  have HF : Hid (∀ y ∈ ls, ∀ z, y.blk z → D ≤ z) := fun y hy z hz => hF z (.inr ⟨y, hy, hz⟩)
  clear hF
  have hl := h.len
  have hni : (n : Int) ≤ 100 := by omega
  have hcl := h.le
  go_enter Tryd.func18, Tryd.ntmps18
  go_wp2_with fail
  go_loopw [3, 4] (fun v i wr => ∃ (k : Nat), k ≤ n ∧ i = .int .i64 k ∧ AllI 39 wr w.heap.size v (ls.take k) ∧ Below w.heap.size w wr) (fun _ i _ => n - (intOf i).toNat)
  case atStart => exact ⟨0, Nat.zero_le _, rfl, AllI.nil _ _ _, Below.refl _ _⟩
  case round =>
    obtain ⟨k, hk, rfl, N, B⟩ := hrel
    obtain ⟨vo, vn, vc, hvs⟩ := N.slice
    obtain ⟨v, hv⟩ : ∃ v, v = Value.slice vo vn vc := ⟨_, rfl⟩
    rw [hvs, ← hv] at N
    rw [hvs, ← hv]
    clear hvs
    by_cases hlt : k < n
    · have hki : (k : Int) < (n : Int) := by omega
      have hkl : k < ls.length := by omega
      obtain ⟨b, off, rfl, hc⟩ := h.at (by omega)
      have X := (hc k hkl).below B
      have HX : Hid (∀ V, Below wr.heap.size wr V → LX V b (off + k * 5) ls[k]) := fun V hV => X.below hV
      have hok := h.ok _ (List.getElem_mem hkl)
      have hyl : (ls.take k).length ≤ 100 := by rw [List.length_take]; omega
      have HT : Hid (ls.take (k + 1) = ls.take k ++ [ls[k]]) := List.take_succ_eq_append_getElem hkl
      obtain ⟨y, hy⟩ : ∃ y, y = ls[k] := ⟨_, rfl⟩
      rw [← hy] at HX hok HT
      clear hy hc X
      go_wp2_with fail
      have E0 : Below wr.heap.size wr wr.drew := (Below.refl _ _).drew
      refine wp_region_noPanic ?_
      refine wp_region_held_drew (S := fun _ => True) (by kernel_rfl) trivial (fun _ => ?_)
      obtain ⟨v0, hv0⟩ : ∃ v, v = wr.drew := ⟨_, rfl⟩
      rw [← hv0] at E0 ⊢
      clear hv0
      refine hr_take_w 0 (some 11) (v) rfl rfl (by kernel_rfl) (by kernel_rfl) (by kernel_rfl) rfl (fun W hW => by go_simp) trivial ?_
      simp only [FL]
      refine hr_take_w 1 (some 12) (.slice (some ⟨b, off, none⟩) n cap) rfl rfl (by kernel_rfl) (by kernel_rfl) (by kernel_rfl) rfl (fun W hW => by go_simp) trivial ?_
      simp only [FL]
      refine hr_take_w 2 (some 13) (.int .i64 (k : Nat)) rfl rfl (by kernel_rfl) (by kernel_rfl) (by kernel_rfl) rfl (fun W hW => by go_simp) trivial ?_
      simp only [FL]
      refine hr_take_w 3 (some 14) (.pointer (some ⟨b, off + k * 5, none⟩)) rfl rfl (by kernel_rfl) (by kernel_rfl) (by kernel_rfl) rfl (fun W hW => by go_simp) trivial ?_
      simp only [FL]
      refine hr_take_w 4 (some 15) (.pointer (some ⟨b, off + k * 5, none⟩)) rfl rfl (by kernel_rfl) (by kernel_rfl) (by kernel_rfl) rfl (fun W hW => by go_simp) trivial ?_
      simp only [FL]
      refine hr_take_w 6 (some 17) (.slice (some ⟨b, off, none⟩) n cap) rfl rfl (by kernel_rfl) (by kernel_rfl) (by kernel_rfl) rfl (fun W hW => by go_simp) trivial ?_
      simp only [FL]
      refine hr_take_w 7 (some 18) (.int .i64 (k : Nat)) rfl rfl (by kernel_rfl) (by kernel_rfl) (by kernel_rfl) rfl (fun W hW => by go_simp) trivial ?_
      simp only [FL]
      refine hr_take_w 8 (some 19) (.pointer (some ⟨b, off + k * 5, none⟩)) rfl rfl (by kernel_rfl) (by kernel_rfl) (by kernel_rfl) rfl (fun W hW => by go_simp) trivial ?_
      simp only [FL]
      refine hr_take_w 9 (some 20) (.pointer (some ⟨b, off + k * 5 + 1, none⟩)) rfl rfl (by kernel_rfl) (by kernel_rfl) (by kernel_rfl) rfl (fun W hW => by go_simp) trivial ?_
      simp only [FL]
      refine hr_take_w 11 (some 22) (.slice (some ⟨b, off, none⟩) n cap) rfl rfl (by kernel_rfl) (by kernel_rfl) (by kernel_rfl) rfl (fun W hW => by go_simp) trivial ?_
      simp only [FL]
      refine hr_take_w 12 (some 23) (.int .i64 (k : Nat)) rfl rfl (by kernel_rfl) (by kernel_rfl) (by kernel_rfl) rfl (fun W hW => by go_simp) trivial ?_
      simp only [FL]
      refine hr_take_w 13 (some 24) (.pointer (some ⟨b, off + k * 5, none⟩)) rfl rfl (by kernel_rfl) (by kernel_rfl) (by kernel_rfl) rfl (fun W hW => by go_simp) trivial ?_
      simp only [FL]
      refine hr_take_w 14 (some 25) (.pointer (some ⟨b, off + k * 5 + 2, none⟩)) rfl rfl (by kernel_rfl) (by kernel_rfl) (by kernel_rfl) rfl (fun W hW => by go_simp) trivial ?_
      simp only [FL]
      refine wpAnyH_effto 2 (fun zi zv zw => (zi = 5 → zv = .int .u64 y.cl) ∧ (zi = 10 → zv = .int .u64 y.st) ∧ (zi = 15 → zv = .agg #[.int .i64 y.e, .slice y.ao y.n y.cap, .bool y.m]) ∧ (zi = 16 → zv = .agg #[.int .u64 y.cl, .int .u64 y.st, .int .i64 y.e, .slice y.ao y.n y.cap, .bool y.m]) ∧ (zi = 17 → ∃ g1 : Nat, zv = .slice (some ⟨g1, 0, none⟩) 1 1 ∧ zw.heap[g1]? = some (.cells #[.int .u64 y.cl, .int .u64 y.st, .int .i64 y.e, .slice y.ao y.n y.cap, .bool y.m] 39))) [(5, 16), (10, 21), (15, 26), (16, 27), (17, 28)] 31 (by kernel_rfl) (by decide) (by decide) rfl ?_ (fun _ _ => trivial) ?_ ?_
      · intro zi v w w' h hb
        refine ⟨fun e => ?_, fun e => ?_, fun e => ?_, fun e => ?_, fun e => ?_⟩
        · have h := h.1 e
          exact h
        · have h := h.2.1 e
          exact h
        · have h := h.2.2.1 e
          exact h
        · have h := h.2.2.2.1 e
          exact h
        · have h := h.2.2.2.2 e
          obtain ⟨g1, h1, h2⟩ := h
          exact ⟨g1, h1, (hb.block g1 (Array.getElem?_eq_some_iff.1 h2).1).trans h2⟩
      · intro zp zhi o a w ho hs hb hdep
        have EB := E0.trans (hb.mono E0.size)
        simp only [List.mem_cons, List.not_mem_nil, or_false] at zhi
        rcases zhi with rfl | rfl | rfl | rfl | rfl
        · obtain rfl : _ = o := Option.some.inj (show some _ = some o from ho)
          have t15 : a.tmps[15]? = some (.pointer (some ⟨b, off + k * 5, none⟩)) := hs.get 15 (by kernel_rfl) rfl
          have X := (HX.out w EB).c0
          exact .inl ⟨.int .u64 y.cl, w, by go_simp, ⟨fun _ => rfl, fun e => absurd e (by decide), fun e => absurd e (by decide), fun e => absurd e (by decide), fun e => absurd e (by decide)⟩, Below.refl _ _⟩
        · obtain rfl : _ = o := Option.some.inj (show some _ = some o from ho)
          have t20 : a.tmps[20]? = some (.pointer (some ⟨b, off + k * 5 + 1, none⟩)) := hs.get 20 (by kernel_rfl) rfl
          have X := (HX.out w EB).c1
          exact .inl ⟨.int .u64 y.st, w, by go_simp, ⟨fun e => absurd e (by decide), fun _ => rfl, fun e => absurd e (by decide), fun e => absurd e (by decide), fun e => absurd e (by decide)⟩, Below.refl _ _⟩
        · obtain rfl : _ = o := Option.some.inj (show some _ = some o from ho)
          have t25 : a.tmps[25]? = some (.pointer (some ⟨b, off + k * 5 + 2, none⟩)) := hs.get 25 (by kernel_rfl) rfl
          have X2 := (HX.out w EB).c2
          have X3 := (HX.out w EB).c3
          have X4 := (HX.out w EB).c4
          exact .inl ⟨.agg #[.int .i64 y.e, .slice y.ao y.n y.cap, .bool y.m], w, by go_simp, ⟨fun e => absurd e (by decide), fun e => absurd e (by decide), fun _ => rfl, fun e => absurd e (by decide), fun e => absurd e (by decide)⟩, Below.refl _ _⟩
        · obtain rfl : _ = o := Option.some.inj (show some _ = some o from ho)
          obtain ⟨x16, t16, f16⟩ := (hdep 5 (by kernel_rfl)).at 16 (by kernel_rfl)
          replace f16 := f16.1 rfl
          obtain ⟨x21, t21, f21⟩ := (hdep 10 (by kernel_rfl)).at 21 (by kernel_rfl)
          replace f21 := f21.2.1 rfl
          obtain ⟨x26, t26, f26⟩ := (hdep 15 (by kernel_rfl)).at 26 (by kernel_rfl)
          replace f26 := f26.2.2.1 rfl
          subst f16
          subst f21
          subst f26
          exact .inl ⟨.agg #[.int .u64 y.cl, .int .u64 y.st, .int .i64 y.e, .slice y.ao y.n y.cap, .bool y.m], w, by go_simp, ⟨fun e => absurd e (by decide), fun e => absurd e (by decide), fun e => absurd e (by decide), fun _ => rfl, fun e => absurd e (by decide)⟩, Below.refl _ _⟩
        · obtain rfl : _ = o := Option.some.inj (show some _ = some o from ho)
          obtain ⟨x27, t27, f27⟩ := (hdep 16 (by kernel_rfl)).at 27 (by kernel_rfl)
          replace f27 := f27.2.2.2.1 rfl
          subst f27
          have CA : Below w.heap.size w (w.alloc (.cells #[.int .u64 y.cl, .int .u64 y.st, .int .i64 y.e, .slice y.ao y.n y.cap, .bool y.m] 39)) := (Below.refl _ _).alloc (Nat.le_refl _) _
          exact .inl ⟨_, _, by go_simp, ⟨fun e => absurd e (by decide), fun e => absurd e (by decide), fun e => absurd e (by decide), fun e => absurd e (by decide), fun _ => ⟨_, rfl, heap_alloc_new w _⟩⟩, CA⟩
      intro zf v1 hb hh
      have E1 := E0.trans (hb.mono E0.size)
      obtain e5 := (hh (5, 16) (by simp)).1 rfl
      obtain e10 := (hh (10, 21) (by simp)).2.1 rfl
      obtain e15 := (hh (15, 26) (by simp)).2.2.1 rfl
      obtain e16 := (hh (16, 27) (by simp)).2.2.2.1 rfl
      obtain ⟨g1, e17, G1⟩ := (hh (17, 28) (by simp)).2.2.2.2 rfl
      clear hh hb
      simp only [putL, List.foldl_cons, List.foldl_nil, e5, e10, e15, e16, e17]
      clear e5 e10 e15 e16 e17
      simp only [FL]
      have N1 := N.below E1
      have hsb := B.size
      have hsv := E1.size
      obtain ⟨v', W1, ha, N2, B2, ao2, n2, c2, rfl⟩ := N1.app lty2 23 (cp := 1) G1 (hok.below (B.trans (E1.mono (by omega)))) (fun x hx e => by
        have h1 := hok.blk_lt hx
        have h2 := (N.own.lt x e).1
        omega) (by omega) (by omega)
      refine hr_ex 18 (some 29) rfl rfl (by kernel_rfl) rfl (R := fun v w' => (.slice ao2 n2 c2) = v ∧ W1 = w') ⟨_, W1, by simp [execOp, Act.eval, resolve, invoke, builtin, ha], rfl, rfl⟩ ?_
      rintro v w' ⟨rfl, rfl⟩
      refine ⟨trivial, ?_⟩
      simp only [FL]
      refine hr_take_w 19 (some 3) ((.slice ao2 n2 c2)) rfl rfl (by kernel_rfl) (by kernel_rfl) (by kernel_rfl) rfl (fun W hW => by go_simp) trivial ?_
      simp only [FL]
      refine wpAnyH_done (by kernel_rfl) ?_ _
      refine NoPanic.normal ?_
      have B3 := (B.trans (E1.mono (by omega))).trans B2
      clear ha N1 G1 N B E1 B2 hsb hsv
      go_wp2
      go_roundw
      case rel =>
        refine ⟨k + 1, by omega, by go_num, ?_, B3⟩
        rw [HT.out]
        exact N2
      case measure => simp [intOf]; omega
    · have hge : (n : Int) ≤ (k : Int) := by omega
      rw [List.take_of_length_le (by omega)] at N
      obtain ⟨ao2, cap2, hs, LL, hlow⟩ := N.ll
      have HLW : Hid (∀ z, sblk ao2 ls.length z → D ≤ z) := fun z hz => Nat.le_trans hD (hlow z hz)
      rw [hs]
      clear N hv hlow
      go_wp2
      go_ret
      exact ⟨ao2, _, cap2, ls, rfl, LL, rfl, B, fun z hz => by
        rcases hz with hz | ⟨y, hy, hz⟩
        · exact HLW.out z hz
        · exact HF.out y hy z hz⟩
open Go.RowKit
set_option maxRecDepth 100000 in
set_option maxHeartbeats 4000000 in
theorem rresults_any (w : World) (e : Int) (ao bo : Option Addr) (n cap cap2 : Nat) (l l2 : List CA) (m : Bool) (L : CL w ao n cap l) (L2 : CL w bo n cap2 l2) (hl : l.map CA.c = l2.map CA.c) (hn : n ≤ 1000) :
    Calls Tryd.prog 16 #[resV e ao n cap m, resV e bo n cap2 m] w fun x w' => x = .returned (.bool true) ∧ Below w.heap.size w w' := by
  have l1 : l.length = n := L.len
  have l3 : l2.length = n := L2.len
  have B : Below w.heap.size w ((w.alloc (Obj.cells #[.int .i64 e, .slice ao n cap, .bool m] 37)).alloc (Obj.cells #[.int .i64 e, .slice bo n cap2, .bool m] 37)) := ((Below.refl _ w).alloc (Nat.le_refl _) _).alloc (by simp) _
  have K : RC ((w.alloc (Obj.cells #[.int .i64 e, .slice ao n cap, .bool m] 37)).alloc (Obj.cells #[.int .i64 e, .slice bo n cap2, .bool m] 37)) w.heap.size e ao n cap m := (heap_alloc_old _ _ (by simp)).trans (heap_alloc_new w _)
  have K2 : RC ((w.alloc (Obj.cells #[.int .i64 e, .slice ao n cap, .bool m] 37)).alloc (Obj.cells #[.int .i64 e, .slice bo n cap2, .bool m] 37)) (w.heap.size + 1) e bo n cap2 m := by
    have := heap_alloc_new (w.alloc (Obj.cells #[.int .i64 e, .slice ao n cap, .bool m] 37)) (Obj.cells #[.int .i64 e, .slice bo n cap2, .bool m] 37)
    unfold RC
    simpa using this
  have M1 := L.below B
  have M2 := L2.below B
  have HL : Hid (l.map CA.c = l2.map CA.c) := hl
  unfold resV
  clear L L2 hl
  go_enter Tryd.func16, Tryd.ntmps16
  go_wp2_with fail
  obtain ⟨w1, hw1⟩ : ∃ W, W = (w.alloc (Obj.cells #[.int .i64 e, .slice ao n cap, .bool m] 37)).alloc (Obj.cells #[.int .i64 e, .slice bo n cap2, .bool m] 37) := ⟨_, rfl⟩
  obtain ⟨N, hN⟩ : ∃ N, N = w.heap.size := ⟨_, rfl⟩
  rw [← hw1] at B K K2 M1 M2 ⊢
  rw [← hN] at B K K2 ⊢
  have HN : Hid (N = w.heap.size) := hN
  clear hw1 hN
  go_loopw [5, 6, 7] (fun i _ _ wr => ∃ k : Nat, k ≤ n ∧ i = .int .i64 k ∧ Below N w wr ∧ Below w1.heap.size w1 wr) (fun i _ _ _ => n - (intOf i).toNat)
  case atStart => exact ⟨0, Nat.zero_le _, rfl, B, Below.refl _ _⟩
  case round =>
    clear B
    obtain ⟨k, hk, rfl, B, C1⟩ := hrel
    have A1 := K.keep C1
    have A2 := K2.keep C1
    have r1 := A1.c1
    have r2 := A2.c1
    by_cases hlt : k < n
    · obtain ⟨b1, o1, rfl, hc1⟩ := M1.at (by omega)
      obtain ⟨b2, o2, rfl, hc2⟩ := M2.at (by omega)
      have X1 := (hc1 k (by omega)).below C1
      have X2 := (hc2 k (by omega)).below C1
      have ok1 : (l[k]).ok wr := (M1.ok _ (List.getElem_mem (by omega))).below C1
      have ok2 : (l2[k]).ok wr := (M2.ok _ (List.getElem_mem (by omega))).below C1
      have hxy : (l[k]).c = (l2[k]).c := by
        have e1 : (l.map CA.c)[k]? = some (l[k]).c := by simp [show k < l.length by omega]
        have e2 : (l2.map CA.c)[k]? = some (l2[k]).c := by simp [show k < l2.length by omega]
        rw [HL.out] at e1
        exact Option.some.inj (e1.symm.trans e2)
      obtain ⟨x, hx⟩ : ∃ c : CA, c = l[k] := ⟨_, rfl⟩
      obtain ⟨y, hy⟩ : ∃ c : CA, c = l2[k] := ⟨_, rfl⟩
      rw [← hx] at X1 ok1 hxy
      rw [← hy] at X2 ok2 hxy
      clear hx hy hc1 hc2
      obtain ⟨xr, xf, xq, xt, xv, xg⟩ := x
      obtain ⟨yr, yf, yq, yt, yv, yg⟩ := y
      simp only [CA.c, CV.mk.injEq] at hxy
      obtain ⟨rfl, rfl, rfl, rfl, hv, rfl⟩ := hxy
      have V1 := ok1.va
      have V2 := ok2.va
      rw [hv] at V1
      simp only at V1 V2
      clear ok1 ok2 hv
      have i6 : (k : Int) < (n : Int) := by omega
      obtain ⟨p0, p1, p2, p3, p4, p5⟩ := X1
      obtain ⟨q0, q1, q2, q3, q4, q5⟩ := X2
      simp only at p0 p1 p2 p3 p4 p5 q0 q1 q2 q3 q4 q5
      have a1 := A1.lt
      have a2 := A2.lt
      have b1l := World.block_lt_of_cell? wr _ p0
      have b2l := World.block_lt_of_cell? wr _ q0
      simp only at b1l b2l
      go_wp2_with fail
      go_region
      · have Bv : Below wr.heap.size wr ((wr.alloc (Obj.cells #[.string xr, .string xf, .string xq, .int .u64 xt, .slice xv.ao xv.n xv.cap, .bool xg] 76)).alloc (Obj.cells #[.string xr, .string xf, .string xq, .int .u64 xt, .slice yv.ao yv.n yv.cap, .bool xg] 76)).drew := (((Below.refl _ _).alloc (Nat.le_refl _) _).alloc (by simp) _).drew
        have S1 := V1.below Bv
        have S2 := V2.below Bv
        have B6 := B.trans (Bv.mono (by have := B.size; have := HN.out; omega))
        have D6 := C1.trans (Bv.mono C1.size)
        clear V1 V2 B C1 Bv A1 A2 M1 M2 K K2
        go_wp2_with fail
        refine (same_any _ _ _ _ _ _ _ _ _ S1 S2).mono ?_
        rintro x w7 ⟨rfl, q, hw⟩
        rw [decide_eq_true rfl]
        have B7 : Below N w w7 := by rw [hw]; exact belN B6 q
        have D7 : Below w1.heap.size w1 w7 := by rw [hw]; exact belN D6 q
        clear hw S1 S2 B6 D6
        go_wp2
        go_roundw
        case rel => exact ⟨k + 1, by omega, by go_num, B7, D7⟩
        case measure => simp [intOf]; omega
      · have Bv : Below wr.heap.size wr ((wr.alloc (Obj.cells #[.string xr, .string xf, .string xq, .int .u64 xt, .slice yv.ao yv.n yv.cap, .bool xg] 76)).alloc (Obj.cells #[.string xr, .string xf, .string xq, .int .u64 xt, .slice xv.ao xv.n xv.cap, .bool xg] 76)).drew := (((Below.refl _ _).alloc (Nat.le_refl _) _).alloc (by simp) _).drew
        have S1 := V1.below Bv
        have S2 := V2.below Bv
        have B6 := B.trans (Bv.mono (by have := B.size; have := HN.out; omega))
        have D6 := C1.trans (Bv.mono C1.size)
        clear V1 V2 B C1 Bv A1 A2 M1 M2 K K2
        go_wp2_with fail
        refine (same_any _ _ _ _ _ _ _ _ _ S1 S2).mono ?_
        rintro x w7 ⟨rfl, q, hw⟩
        rw [decide_eq_true rfl]
        have B7 : Below N w w7 := by rw [hw]; exact belN B6 q
        have D7 : Below w1.heap.size w1 w7 := by rw [hw]; exact belN D6 q
        clear hw S1 S2 B6 D6
        go_wp2
        go_roundw
        case rel => exact ⟨k + 1, by omega, by go_num, B7, D7⟩
        case measure => simp [intOf]; omega
    · have i6 : (n : Int) ≤ (k : Int) := by omega
      go_wp2
      go_ret
      exact ⟨rfl, by rw [← HN.out]; exact B⟩
open Go.RowKit
set_option maxRecDepth 100000 in
set_option maxHeartbeats 8000000 in
theorem rsame12 (w : World) (ao bo : Option Addr) (n cap cap2 : Nat) (l m : List LA) (L : LL12 w ao n cap l) (M : LL12 w bo n cap2 m) (he : l.map LA.en = m.map LA.en) (hn : n ≤ 100) (hq : ∀ y ∈ l, y.n ≤ 1000) :
    Calls Tryd.prog 17 #[.slice ao n cap, .slice bo n cap2] w fun e w' => e = .returned (.bool true) ∧ Below w.heap.size w w' := by
  have l1 := L.len
  have l2 := M.len
  have hni : (n : Int) ≤ 100 := by omega
  have HE : Hid (l.map LA.en = m.map LA.en) := he
  have HQ : Hid (∀ y ∈ l, y.n ≤ 1000) := hq
  clear he hq
  go_enter Tryd.func17, Tryd.ntmps17
  go_wp2_with fail
  go_loopw [5] (fun i wr => ∃ k : Nat, k ≤ n ∧ i = .int .i64 k ∧ Below w.heap.size w wr) (fun i _ => n - (intOf i).toNat)
  case atStart => exact ⟨0, Nat.zero_le _, rfl, Below.refl _ _⟩
  case round =>
    obtain ⟨k, hk, rfl, B⟩ := hrel
    by_cases hlt : k < n
    · have hki : (k : Int) < (n : Int) := by omega
      have k1 : k < l.length := by omega
      have k2 : k < m.length := by omega
      obtain ⟨b1, o1, rfl, h1⟩ := L.at (by omega)
      obtain ⟨b2, o2, rfl, h2⟩ := M.at (by omega)
      have X1 := (h1 k k1).below B
      have X2 := (h2 k k2).below B
      have ok1 := (L.ok _ (List.getElem_mem k1)).below B
      have ok2 := (M.ok _ (List.getElem_mem k2)).below B
      have hn1 := HQ.out _ (List.getElem_mem k1)
      have hen : (l[k]).en = (m[k]).en := by
        have e1 : (l.map LA.en)[k]? = some (l[k]).en := by simp [k1]
        have e2 : (m.map LA.en)[k]? = some (m[k]).en := by simp [k2]
        rw [HE.out] at e1
        exact Option.some.inj (e1.symm.trans e2)
      obtain ⟨x, hx⟩ : ∃ x, x = l[k] := ⟨_, rfl⟩
      obtain ⟨y, hy⟩ : ∃ y, y = m[k] := ⟨_, rfl⟩
      rw [← hx] at X1 ok1 hn1 hen
      rw [← hy] at X2 ok2 hen
      clear hx hy h1 h2
      unfold LA.en resR at hen
      simp only [EN.mk.injEq, RV.mk.injEq] at hen
      obtain ⟨c1, c2, c3, c4, c5⟩ := hen
      have c6 : y.n = x.n := by
        have := congrArg List.length c4
        simp only [List.length_map] at this
        rw [← ok1.cs.len, ← ok2.cs.len, this]
      have HC : Hid (∀ V, Below wr.heap.size wr V → Calls Tryd.prog 16 #[.agg #[.int .i64 x.e, .slice x.ao x.n x.cap, .bool x.m], .agg #[.int .i64 y.e, .slice y.ao y.n y.cap, .bool y.m]] V fun e w' => e = .returned (.bool true) ∧ Below V.heap.size V w') := fun V hV => by
        have a2 := ok2.cs.below hV
        rw [c6] at a2
        rw [← c3, ← c5, c6]
        exact rresults_any V x.e x.ao y.ao x.n x.cap y.cap x.cs y.cs x.m (ok1.cs.below hV) a2 c4 hn1
      have HI1 : Hid ((x.cl : Int) = (y.cl : Int)) := show (x.cl : Int) = (y.cl : Int) by rw [c1]
      have HI2 : Hid ((x.st : Int) = (y.st : Int)) := show (x.st : Int) = (y.st : Int) by rw [c2]
      clear c1 c2 c3 c4 c5 c6 ok1 ok2 hn1
      go_wp2_with fail
      have HS : Hid (∀ V, Below wr.heap.size wr V → V.cell? ⟨b1, o1 + k * 5, none⟩ = some (.int .u64 x.cl) ∧ V.cell? ⟨b1, o1 + k * 5 + 1, none⟩ = some (.int .u64 x.st) ∧ V.cell? ⟨b1, o1 + k * 5 + 2, none⟩ = some (.int .i64 x.e) ∧ V.cell? ⟨b1, o1 + k * 5 + 3, none⟩ = some (.slice x.ao x.n x.cap) ∧ V.cell? ⟨b1, o1 + k * 5 + 4, none⟩ = some (.bool x.m) ∧ V.cell? ⟨b2, o2 + k * 5, none⟩ = some (.int .u64 y.cl) ∧ V.cell? ⟨b2, o2 + k * 5 + 1, none⟩ = some (.int .u64 y.st) ∧ V.cell? ⟨b2, o2 + k * 5 + 2, none⟩ = some (.int .i64 y.e) ∧ V.cell? ⟨b2, o2 + k * 5 + 3, none⟩ = some (.slice y.ao y.n y.cap) ∧ V.cell? ⟨b2, o2 + k * 5 + 4, none⟩ = some (.bool y.m)) := fun V hV => ⟨(X1.below hV).c0, (X1.below hV).c1, (X1.below hV).c2, (X1.below hV).c3, (X1.below hV).c4, (X2.below hV).c0, (X2.below hV).c1, (X2.below hV).c2, (X2.below hV).c3, (X2.below hV).c4⟩
      have E0 : Below wr.heap.size wr wr.drew := (Below.refl _ _).drew
      refine wp_region_noPanic ?_
      refine wp_region_held_drew (S := fun V => V.cell? ⟨b1, o1 + k * 5, none⟩ = some (.int .u64 x.cl) ∧ V.cell? ⟨b1, o1 + k * 5 + 1, none⟩ = some (.int .u64 x.st) ∧ V.cell? ⟨b1, o1 + k * 5 + 2, none⟩ = some (.int .i64 x.e) ∧ V.cell? ⟨b1, o1 + k * 5 + 3, none⟩ = some (.slice x.ao x.n x.cap) ∧ V.cell? ⟨b1, o1 + k * 5 + 4, none⟩ = some (.bool x.m) ∧ V.cell? ⟨b2, o2 + k * 5, none⟩ = some (.int .u64 y.cl) ∧ V.cell? ⟨b2, o2 + k * 5 + 1, none⟩ = some (.int .u64 y.st) ∧ V.cell? ⟨b2, o2 + k * 5 + 2, none⟩ = some (.int .i64 y.e) ∧ V.cell? ⟨b2, o2 + k * 5 + 3, none⟩ = some (.slice y.ao y.n y.cap) ∧ V.cell? ⟨b2, o2 + k * 5 + 4, none⟩ = some (.bool y.m)) (by kernel_rfl) (HS.out _ E0) (fun H0 => ?_)
      obtain ⟨v0, hv0⟩ : ∃ v, v = wr.drew := ⟨_, rfl⟩
      rw [← hv0] at H0 E0 ⊢
      clear hv0
      refine hr_take_w 0 (some 17) (.slice (some ⟨b1, o1, none⟩) n cap) rfl rfl (by kernel_rfl) (by kernel_rfl) (by kernel_rfl) rfl (fun W hW => by obtain ⟨h0, h1, h2, h3, h4, h5, h6, h7, h8, h9⟩ := hW; go_simp) H0 ?_
      simp only [FL]
      refine hr_take_w 1 (some 18) (.int .i64 (k : Nat)) rfl rfl (by kernel_rfl) (by kernel_rfl) (by kernel_rfl) rfl (fun W hW => by obtain ⟨h0, h1, h2, h3, h4, h5, h6, h7, h8, h9⟩ := hW; go_simp) H0 ?_
      simp only [FL]
      refine hr_take_w 2 (some 19) (.pointer (some ⟨b1, o1 + k * 5, none⟩)) rfl rfl (by kernel_rfl) (by kernel_rfl) (by kernel_rfl) rfl (fun W hW => by obtain ⟨h0, h1, h2, h3, h4, h5, h6, h7, h8, h9⟩ := hW; go_simp) H0 ?_
      simp only [FL]
      refine hr_take_w 3 (some 20) (.pointer (some ⟨b1, o1 + k * 5, none⟩)) rfl rfl (by kernel_rfl) (by kernel_rfl) (by kernel_rfl) rfl (fun W hW => by obtain ⟨h0, h1, h2, h3, h4, h5, h6, h7, h8, h9⟩ := hW; go_simp) H0 ?_
      simp only [FL]
      refine hr_take_w 4 (some 21) (.int .u64 x.cl) rfl rfl (by kernel_rfl) (by kernel_rfl) (by kernel_rfl) rfl (fun W hW => by obtain ⟨h0, h1, h2, h3, h4, h5, h6, h7, h8, h9⟩ := hW; go_simp) H0 ?_
      simp only [FL]
      refine hr_take_w 5 (some 22) (.slice (some ⟨b2, o2, none⟩) n cap2) rfl rfl (by kernel_rfl) (by kernel_rfl) (by kernel_rfl) rfl (fun W hW => by obtain ⟨h0, h1, h2, h3, h4, h5, h6, h7, h8, h9⟩ := hW; go_simp) H0 ?_
      simp only [FL]
      refine hr_take_w 6 (some 23) (.int .i64 (k : Nat)) rfl rfl (by kernel_rfl) (by kernel_rfl) (by kernel_rfl) rfl (fun W hW => by obtain ⟨h0, h1, h2, h3, h4, h5, h6, h7, h8, h9⟩ := hW; go_simp) H0 ?_
      simp only [FL]
      refine hr_take_w 7 (some 24) (.pointer (some ⟨b2, o2 + k * 5, none⟩)) rfl rfl (by kernel_rfl) (by kernel_rfl) (by kernel_rfl) rfl (fun W hW => by obtain ⟨h0, h1, h2, h3, h4, h5, h6, h7, h8, h9⟩ := hW; go_simp) H0 ?_
      simp only [FL]
      refine hr_take_w 8 (some 25) (.pointer (some ⟨b2, o2 + k * 5, none⟩)) rfl rfl (by kernel_rfl) (by kernel_rfl) (by kernel_rfl) rfl (fun W hW => by obtain ⟨h0, h1, h2, h3, h4, h5, h6, h7, h8, h9⟩ := hW; go_simp) H0 ?_
      simp only [FL]
      refine hr_take_w 9 (some 26) (.int .u64 y.cl) rfl rfl (by kernel_rfl) (by kernel_rfl) (by kernel_rfl) rfl (fun W hW => by obtain ⟨h0, h1, h2, h3, h4, h5, h6, h7, h8, h9⟩ := hW; go_simp) H0 ?_
      simp only [FL]
      refine hr_take_w 10 (some 27) (.bool false) rfl rfl (by kernel_rfl) (by kernel_rfl) (by kernel_rfl) rfl (fun W hW => by obtain ⟨h0, h1, h2, h3, h4, h5, h6, h7, h8, h9⟩ := hW; go_simp; exact HI1.out) H0 ?_
      simp only [FL]
      refine hr_take_w 11 (some 28) (.bool false) rfl rfl (by kernel_rfl) (by kernel_rfl) (by kernel_rfl) rfl (fun W hW => by obtain ⟨h0, h1, h2, h3, h4, h5, h6, h7, h8, h9⟩ := hW; go_simp) H0 ?_
      simp only [FL]
      refine hr_take_w 12 (some 29) (.slice (some ⟨b1, o1, none⟩) n cap) rfl rfl (by kernel_rfl) (by kernel_rfl) (by kernel_rfl) rfl (fun W hW => by obtain ⟨h0, h1, h2, h3, h4, h5, h6, h7, h8, h9⟩ := hW; go_simp) H0 ?_
      simp only [FL]
      refine hr_take_w 13 (some 30) (.int .i64 (k : Nat)) rfl rfl (by kernel_rfl) (by kernel_rfl) (by kernel_rfl) rfl (fun W hW => by obtain ⟨h0, h1, h2, h3, h4, h5, h6, h7, h8, h9⟩ := hW; go_simp) H0 ?_
      simp only [FL]
      refine hr_take_w 14 (some 31) (.pointer (some ⟨b1, o1 + k * 5, none⟩)) rfl rfl (by kernel_rfl) (by kernel_rfl) (by kernel_rfl) rfl (fun W hW => by obtain ⟨h0, h1, h2, h3, h4, h5, h6, h7, h8, h9⟩ := hW; go_simp) H0 ?_
      simp only [FL]
      refine hr_take_w 15 (some 32) (.pointer (some ⟨b1, o1 + k * 5 + 1, none⟩)) rfl rfl (by kernel_rfl) (by kernel_rfl) (by kernel_rfl) rfl (fun W hW => by obtain ⟨h0, h1, h2, h3, h4, h5, h6, h7, h8, h9⟩ := hW; go_simp) H0 ?_
      simp only [FL]
      refine hr_take_w 16 (some 33) (.int .u64 x.st) rfl rfl (by kernel_rfl) (by kernel_rfl) (by kernel_rfl) rfl (fun W hW => by obtain ⟨h0, h1, h2, h3, h4, h5, h6, h7, h8, h9⟩ := hW; go_simp) H0 ?_
      simp only [FL]
      refine hr_take_w 17 (some 34) (.slice (some ⟨b2, o2, none⟩) n cap2) rfl rfl (by kernel_rfl) (by kernel_rfl) (by kernel_rfl) rfl (fun W hW => by obtain ⟨h0, h1, h2, h3, h4, h5, h6, h7, h8, h9⟩ := hW; go_simp) H0 ?_
      simp only [FL]
      refine hr_take_w 18 (some 35) (.int .i64 (k : Nat)) rfl rfl (by kernel_rfl) (by kernel_rfl) (by kernel_rfl) rfl (fun W hW => by obtain ⟨h0, h1, h2, h3, h4, h5, h6, h7, h8, h9⟩ := hW; go_simp) H0 ?_
      simp only [FL]
      refine hr_take_w 19 (some 36) (.pointer (some ⟨b2, o2 + k * 5, none⟩)) rfl rfl (by kernel_rfl) (by kernel_rfl) (by kernel_rfl) rfl (fun W hW => by obtain ⟨h0, h1, h2, h3, h4, h5, h6, h7, h8, h9⟩ := hW; go_simp) H0 ?_
      simp only [FL]
      refine hr_take_w 20 (some 37) (.pointer (some ⟨b2, o2 + k * 5 + 1, none⟩)) rfl rfl (by kernel_rfl) (by kernel_rfl) (by kernel_rfl) rfl (fun W hW => by obtain ⟨h0, h1, h2, h3, h4, h5, h6, h7, h8, h9⟩ := hW; go_simp) H0 ?_
      simp only [FL]
      refine hr_take_w 21 (some 38) (.int .u64 y.st) rfl rfl (by kernel_rfl) (by kernel_rfl) (by kernel_rfl) rfl (fun W hW => by obtain ⟨h0, h1, h2, h3, h4, h5, h6, h7, h8, h9⟩ := hW; go_simp) H0 ?_
      simp only [FL]
      refine hr_take_w 22 (some 39) (.bool false) rfl rfl (by kernel_rfl) (by kernel_rfl) (by kernel_rfl) rfl (fun W hW => by obtain ⟨h0, h1, h2, h3, h4, h5, h6, h7, h8, h9⟩ := hW; go_simp; exact HI2.out) H0 ?_
      simp only [FL]
      refine hr_take_w 23 (some 40) (.bool false) rfl rfl (by kernel_rfl) (by kernel_rfl) (by kernel_rfl) rfl (fun W hW => by obtain ⟨h0, h1, h2, h3, h4, h5, h6, h7, h8, h9⟩ := hW; go_simp) H0 ?_
      simp only [FL]
      refine hr_take_w 24 (some 41) (.bool false) rfl rfl (by kernel_rfl) (by kernel_rfl) (by kernel_rfl) rfl (fun W hW => by obtain ⟨h0, h1, h2, h3, h4, h5, h6, h7, h8, h9⟩ := hW; go_simp) H0 ?_
      simp only [FL]
      refine hr_take_w 25 (some 42) (.slice (some ⟨b1, o1, none⟩) n cap) rfl rfl (by kernel_rfl) (by kernel_rfl) (by kernel_rfl) rfl (fun W hW => by obtain ⟨h0, h1, h2, h3, h4, h5, h6, h7, h8, h9⟩ := hW; go_simp) H0 ?_
      simp only [FL]
      refine hr_take_w 26 (some 43) (.int .i64 (k : Nat)) rfl rfl (by kernel_rfl) (by kernel_rfl) (by kernel_rfl) rfl (fun W hW => by obtain ⟨h0, h1, h2, h3, h4, h5, h6, h7, h8, h9⟩ := hW; go_simp) H0 ?_
      simp only [FL]
      refine hr_take_w 27 (some 44) (.pointer (some ⟨b1, o1 + k * 5, none⟩)) rfl rfl (by kernel_rfl) (by kernel_rfl) (by kernel_rfl) rfl (fun W hW => by obtain ⟨h0, h1, h2, h3, h4, h5, h6, h7, h8, h9⟩ := hW; go_simp) H0 ?_
      simp only [FL]
      refine hr_take_w 28 (some 45) (.pointer (some ⟨b1, o1 + k * 5 + 2, none⟩)) rfl rfl (by kernel_rfl) (by kernel_rfl) (by kernel_rfl) rfl (fun W hW => by obtain ⟨h0, h1, h2, h3, h4, h5, h6, h7, h8, h9⟩ := hW; go_simp) H0 ?_
      simp only [FL]
      refine hr_take_w 29 (some 46) (.agg #[.int .i64 x.e, .slice x.ao x.n x.cap, .bool x.m]) rfl rfl (by kernel_rfl) (by kernel_rfl) (by kernel_rfl) rfl (fun W hW => by obtain ⟨h0, h1, h2, h3, h4, h5, h6, h7, h8, h9⟩ := hW; go_simp) H0 ?_
      simp only [FL]
      refine hr_take_w 30 (some 47) (.slice (some ⟨b2, o2, none⟩) n cap2) rfl rfl (by kernel_rfl) (by kernel_rfl) (by kernel_rfl) rfl (fun W hW => by obtain ⟨h0, h1, h2, h3, h4, h5, h6, h7, h8, h9⟩ := hW; go_simp) H0 ?_
      simp only [FL]
      refine hr_take_w 31 (some 48) (.int .i64 (k : Nat)) rfl rfl (by kernel_rfl) (by kernel_rfl) (by kernel_rfl) rfl (fun W hW => by obtain ⟨h0, h1, h2, h3, h4, h5, h6, h7, h8, h9⟩ := hW; go_simp) H0 ?_
      simp only [FL]
      refine hr_take_w 32 (some 49) (.pointer (some ⟨b2, o2 + k * 5, none⟩)) rfl rfl (by kernel_rfl) (by kernel_rfl) (by kernel_rfl) rfl (fun W hW => by obtain ⟨h0, h1, h2, h3, h4, h5, h6, h7, h8, h9⟩ := hW; go_simp) H0 ?_
      simp only [FL]
      refine hr_take_w 33 (some 50) (.pointer (some ⟨b2, o2 + k * 5 + 2, none⟩)) rfl rfl (by kernel_rfl) (by kernel_rfl) (by kernel_rfl) rfl (fun W hW => by obtain ⟨h0, h1, h2, h3, h4, h5, h6, h7, h8, h9⟩ := hW; go_simp) H0 ?_
      simp only [FL]
      refine hr_take_w 34 (some 51) (.agg #[.int .i64 y.e, .slice y.ao y.n y.cap, .bool y.m]) rfl rfl (by kernel_rfl) (by kernel_rfl) (by kernel_rfl) rfl (fun W hW => by obtain ⟨h0, h1, h2, h3, h4, h5, h6, h7, h8, h9⟩ := hW; go_simp) H0 ?_
      simp only [FL]
      refine hr_call_w 35 (some 52) 16 #[.agg #[.int .i64 x.e, .slice x.ao x.n x.cap, .bool x.m], .agg #[.int .i64 y.e, .slice y.ao y.n y.cap, .bool y.m]] rfl rfl (by kernel_rfl) rfl (by go_simp) (fun v w' => v = .bool true ∧ Below v0.heap.size v0 w') ((HC.out v0 E0).mono (by
        rintro e w' ⟨rfl, C⟩
        exact ⟨_, rfl, rfl, C⟩)) ?_
      rintro v v1 ⟨rfl, C0⟩
      have E1 := E0.trans (C0.mono E0.size)
      have H1 := HS.out v1 E1
      refine ⟨H1, ?_⟩
      simp only [FL]
      refine hr_take_w 36 (some 53) (.bool false) rfl rfl (by kernel_rfl) (by kernel_rfl) (by kernel_rfl) rfl (fun W hW => by obtain ⟨h0, h1, h2, h3, h4, h5, h6, h7, h8, h9⟩ := hW; go_simp) H1 ?_
      simp only [FL]
      refine hr_take_w 37 (some 54) (.bool false) rfl rfl (by kernel_rfl) (by kernel_rfl) (by kernel_rfl) rfl (fun W hW => by obtain ⟨h0, h1, h2, h3, h4, h5, h6, h7, h8, h9⟩ := hW; go_simp) H1 ?_
      simp only [FL]
      refine wpAnyH_done (by kernel_rfl) ?_ _
      refine NoPanic.normal ?_
      have B3 := B.trans (E1.mono B.size)
      clear HS H0 H1 E0 E1 C0 X1 X2 B HI1 HI2
      go_wp2
      go_roundw
      case rel => exact ⟨k + 1, by omega, by go_num, B3⟩
      case measure => simp [intOf]; omega
    · have hge : (n : Int) ≤ (k : Int) := by omega
      go_wp2
      go_ret
      exact ⟨rfl, B⟩
end Go.Proofs.YtoagkffokfbpfaaDoor

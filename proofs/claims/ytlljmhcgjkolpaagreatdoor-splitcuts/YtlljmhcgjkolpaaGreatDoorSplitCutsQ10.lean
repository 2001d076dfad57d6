/-
  Texts in one: TbAmong, TbCol, HRegB, TbMost.
-/
import Derived.Test.YtlljmhcgjkolpaaGreatDoorSplitCutsQFL
import Derived.Test.YtlljmhcgjkolpaaGreatDoorSplitCutsQ9
import Derived.Test.YtlljmhcgjkolpaaGreatDoorSplitCutsQ4
import Derived.Test.YtlljmhcgjkolpaaGreatDoorSplitCutsQ8
import Derived.Test.YtlljmhcgjkolpaaGreatDoorSplitCutsQ3
import Derived.Test.YtlljmhcgjkolpaaGreatDoorSplitCutsQ0
import Derived.Test.YtlljmhcgjkolpaaGreatDoorSplitCutsQ7
import Derived.DeepKeys4
namespace Go.Proofs.YtlljmhcgjkolpaaGreatDoor
open Go.RowKit
structure CRow (W : World) (base : Nat) (v : Value) (l : List CA) : Prop where
  row : W.ownsRow base 33 6 v l.length (cellsC l)
  ok : ∀ c ∈ l, c.ok W
  sl : ∀ c ∈ l, SlT W ⟨c.va.ao, c.va.n, c.va.cap, c.va.xs⟩
theorem CRow.nil (W : World) (base : Nat) : CRow W base (.slice none 0 0) [] := ⟨World.ownsRow_nil _ _ _ _, fun _ h => by simp at h, fun _ h => by simp at h⟩
theorem CRow.below {W W' : World} {base : Nat} {v : Value} {l : List CA} (h : CRow W base v l) (hb : Below W.heap.size W W') : CRow W' base v l :=
  ⟨own_below h.row hb, fun c hc => (h.ok c hc).below hb, fun c hc => (h.sl c hc).kp (KpB.below hb)⟩
theorem CRow.cl {W : World} {base : Nat} {v : Value} {l : List CA} (h : CRow W base v l) : ∃ ao cap, v = .slice ao l.length cap ∧ CL W ao l.length cap l := CL.own h.row h.ok
theorem cellsC_snoc (l : List CA) (c : CA) : cellsC (l ++ [c]) = cellsC l ++ c.cells := by simp [cellsC]
theorem wpList_appC {w : World} {ops : Array Oper} {rest : List Oper} {o : Oper} {a : Act} {Q : Exit → Act → World → Prop} (hgd : o.guard = none) (s x : Operand)
    (ho : o.op = .call { callee := .builtin .append, args := #[s, x], argTypes := #[31, 31] })
    (base : Nat) (v : Value) (l : List CA) (hs : a.eval s = v) (hown : CRow w base v l)
    (g cp : Nat) (c : CA) (hx : a.eval x = .slice (some ⟨g, 0, none⟩) 1 cp) (hc : w.heap[g]? = some (.cells #[.string c.row, .string c.fam, .string c.qual, .int .u64 c.time, .slice c.va.ao c.va.n c.va.cap, .bool c.gone] 33)) (hok : c.ok w) (hsl : SlT w ⟨c.va.ao, c.va.n, c.va.cap, c.va.xs⟩) (hn : l.length ≤ 1000000) (hbase : base ≤ w.heap.size)
    (h : ∀ v' w', CRow w' base v' (l ++ [c]) → Below base w w' → wpList Tryz.prog ops Q rest (a.put o.dst v') w') : wpList Tryz.prog ops Q (o :: rest) a w := by
  obtain ⟨i0, hi, hz0, hz1, hz2⟩ := info_parts cellInfo
  refine wpList_append_own w hgd s x 31 ho base 33 i0 _ 6 88 Tryz.underlying31 hi hz0 hz1 hz2 rfl (by decide) v l.length (cellsC l) hs hown.row ⟨g, 0, none⟩ 1 cp c.cells hx rfl
    (fun j u hu => by
      rw [Addr.add_lit, Nat.zero_add, cell_of_row w g j _ _ _ hc]
      simpa [CA.cells] using hu) (c_one c) (by unfold maxLen; omega) (by omega) hbase ?_
  intro v' w' h1 h2 _
  rw [← cellsC_snoc] at h1
  have kp := KpB.row hown.row (by decide) h2
  have okT : ∀ d : CA, d.ok w → SlT w ⟨d.va.ao, d.va.n, d.va.cap, d.va.xs⟩ → d.ok w' := fun d h3 h4 => ⟨h3.row, h3.fam, h3.qual, h3.time, (h4.kp kp).1⟩
  refine h v' w' ⟨by rw [List.length_append]; exact h1, fun d hd => ?_, fun d hd => ?_⟩ ((Below.refl _ w).grown h2 hbase (fun k hk => (hown.row.lt k hk).1))
  · rcases List.mem_append.1 hd with hd | hd
    · exact okT d (hown.ok d hd) (hown.sl d hd)
    · rw [List.mem_singleton.1 hd]; exact okT c hok hsl
  · rcases List.mem_append.1 hd with hd | hd
    · exact (hown.sl d hd).kp kp
    · rw [List.mem_singleton.1 hd]; exact hsl.kp kp
def AmPost (w : World) (cs : List CV) (e : Ending) (w' : World) : Prop := ∃ ao n cap l, e = .returned (.slice ao n cap) ∧ CL w' ao n cap l ∧ (∀ c ∈ l, SlT w' ⟨c.va.ao, c.va.n, c.va.cap, c.va.xs⟩) ∧ l.map CA.c = cs ∧ Below w.heap.size w w'
def AmRow (w : World) (cs : List CV) (e : Ending) (w' : World) : Prop := ∃ v base l, e = .returned v ∧ w.heap.size ≤ base ∧ CRow w' base v l ∧ l.map CA.c = cs ∧ Below w.heap.size w w'
theorem AmRow.post {w w' : World} {cs : List CV} {e : Ending} (h : AmRow w cs e w') : AmPost w cs e w' := by
  obtain ⟨v, base, l, rfl, -, R, hl, B⟩ := h
  obtain ⟨ao, cap, rfl, hcl⟩ := R.cl
  exact ⟨ao, l.length, cap, l, rfl, hcl, R.sl, hl, B⟩
def Tells (w : World) (g : Nat) (lb : Array Value) (pr : CV → Bool) : Prop := ∀ (W : World) (c : CA), Below w.heap.size w W → c.ok W → Calls Tryz.prog g ((#[.agg #[.string c.row, .string c.fam, .string c.qual, .int .u64 c.time, .slice c.va.ao c.va.n c.va.cap, .bool c.gone]] : Array Value) ++ lb) W fun e W' => e = .returned (.bool (pr c.c)) ∧ Below W.heap.size W W'
set_option maxHeartbeats 4000000 in
set_option maxRecDepth 100000 in
theorem among_row (w : World) (p : Nat) (f t : ByteArray) (cs : List CV) (a b : ByteArray) (g : Nat) (lb : Array Value) (pr : CV → Bool) (eg : ∀ args w, (callFunc g args).run Tryz.prog w = .ok (.enter g args) w)
    (hT : TB w p f t cs) (hs : CSrt cs) (hg : CGood cs) (ha : a.size ≤ 32) (hb : b.size ≤ 32) (hn : cs.length ≤ 1000) (hand : Tells w g lb pr) :
    Calls Tryz.prog 47 #[.pointer (some ⟨p, 0, none⟩), .string a, .string b, .func (.func g) #[] lb] w (AmRow w (cs.filter fun c => inRows a b c.row && pr c)) := by
  have CR := prows_any w a b ha hb
  go_enter Tryz.func47, Tryz.ntmps47
  go_wp2_with fail
  refine CR.mono ?_
  rintro e w1 ⟨lo, ln, lc, ho, hn1, hc, rfl, S1, S2, B1⟩
  have T1 := hT.below B1
  obtain ⟨u, A1, TT1⟩ := T1
  have c2 : w1.cell? ⟨p, 2, none⟩ = some (.pointer u) := Arr.cell A1 2
  have CI := titems_any w1 (.pointer u) (cs.map itm) (nm (sb a)) (hiL (sb b)) lo ho ln lc hn1 hc 9223372036854775807 TT1 hs S1 S2 (by rw [List.length_map]; omega) (fun x hx => by
    obtain ⟨c, hc, rfl⟩ := List.mem_map.1 hx
    have h1 := keyL_le (hg c hc).right
    have h2 := itV_len c
    have h3 := (hg c hc).val
    exact ⟨by show (keyL c.kv).length ≤ _; omega, by show (itV c).length ≤ _; omega⟩)
  clear CR
  go_wp2_with fail
  refine CI.mono ?_
  rintro e w2 ⟨io, il, ic, ps, mt, rfl, I2, hps, -, C2⟩
  have B2 := B1.trans (C2.mono B1.size)
  obtain ⟨ds, hds⟩ : ∃ ds, ds = cs.filter fun c => inRows a b c.row := ⟨_, rfl⟩
  have HP : Hid (ps.map IP.it = ds.map itm) := by
    show _ = _
    rw [hps, btw_rows a b cs hg, ← hds, List.take_of_length_le]
    rw [List.length_map, hds]
    have := List.length_filter_le (fun c => inRows a b c.row) cs
    omega
  have HG : Hid (∀ c ∈ ds, c.good) := fun c hc => by rw [hds] at hc; exact hg c (List.mem_filter.1 hc).1
  have HF : Hid ((cs.filter fun c => inRows a b c.row && pr c) = ds.filter pr) := by
    show _ = _
    rw [hds, List.filter_filter]
    congr 1
    funext c
    exact Bool.and_comm _ _
  have hil : il ≤ 1000 := by
    have h1 := congrArg List.length HP.out
    rw [List.length_map, List.length_map, I2.len, hds] at h1
    have := List.length_filter_le (fun c => inRows a b c.row) cs
    omega
  have hili : (il : Int) ≤ 1000 := by omega
  have hl1 := Nat.le_of_eq I2.len
  have hl2 := Nat.le_of_eq I2.len.symm
  have HH : Hid (Tells w g lb pr) := hand
  clear CI hps hds c2 A1 TT1 S1 S2 hT hs hg hn hand C2 B1
  go_wp2
  go_loopw [14, 38] (fun v i wr => ∃ (k : Nat) (l : List CA), k ≤ il ∧ i = .int .i64 k ∧ CRow wr w2.heap.size v l ∧ Hid (l.map CA.c = (ds.take k).filter pr) ∧ l.length ≤ k ∧ Below w2.heap.size w2 wr) (fun _ i _ => il - (intOf i).toNat)
  case atStart => exact ⟨0, [], Nat.zero_le _, rfl, CRow.nil _ _, rfl, Nat.le_refl _, Below.refl _ _⟩
  case round =>
    obtain ⟨k, l, hk, rfl, R0, HL, hlk, B0⟩ := hrel
    by_cases hlt : k < il
    · have hki : (k : Int) < (il : Int) := by omega
      have hkp : k < ps.length := by omega
      have hkd : k < ds.length := by have := congrArg List.length HP.out; rw [List.length_map, List.length_map] at this; omega
      obtain ⟨ib, io', hio, hcell⟩ := I2.at (by omega)
      subst hio
      obtain ⟨z1, z2⟩ := hcell k hkp
      have hq := I2.sl _ (List.getElem_mem hkp)
      have hqi : ps[k].it = itm ds[k] := by
        have h3 : (ps.map IP.it)[k]? = (ds.map itm)[k]? := by rw [HP.out]
        rw [List.getElem?_map, List.getElem?_map, List.getElem?_eq_getElem hkp, List.getElem?_eq_getElem hkd] at h3
        simpa using h3
      have hgd := HG.out _ (List.getElem_mem hkd)
      have HTK : Hid (ds.take (k + 1) = ds.take k ++ [ds[k]]) := List.take_succ_eq_append_getElem hkd
      obtain ⟨q, hqe⟩ : ∃ q, q = ps[k] := ⟨_, rfl⟩
      obtain ⟨d, hde⟩ : ∃ d, d = ds[k] := ⟨_, rfl⟩
      rw [← hqe] at z1 z2 hq hqi
      rw [← hde] at hqi hgd HTK
      unfold Part.val at z1 z2
      have z1 := (B0.cell (World.block_lt_of_cell? _ _ z1)).trans z1
      have z2 := (B0.cell (World.block_lt_of_cell? _ _ z2)).trans z2
      clear hcell hqe hde
      obtain ⟨W3, hW3⟩ : ∃ V, V = wr.alloc (.cells #[.slice q.k.ao q.k.n q.k.cap, .slice q.v.ao q.v.n q.v.cap] 105) := ⟨_, rfl⟩
      have C3 : Below wr.heap.size wr W3 := by rw [hW3]; exact (Below.refl _ _).alloc (Nat.le_refl _) _
      have B3 := B0.trans (C3.mono B0.size)
      have sk := hq.1.below B3
      have sv := hq.2.below B3
      have hk1 : q.k.xs = (itm d).k := congrArg It.k hqi
      have hv1 : q.v.xs = (itm d).v := congrArg It.v hqi
      rw [hk1] at sk
      rw [hv1] at sv
      have hkn : q.k.n ≤ 1000000 := by rw [← sk.len]; have := keyL_le hgd.right; show (keyL d.kv).length ≤ _; omega
      have hvn : q.v.n ≤ 1000000 := by rw [← sv.len]; have := itV_len d; have := hgd.val; show (itV d).length ≤ _; omega
      have CE := tcell_any W3 (itm d) q.k.ao q.v.ao q.k.n q.k.cap q.v.n q.v.cap sk sv hkn hvn
      clear hqi hk1 hv1
      go_wp2_with fail
      rw [← hW3]
      refine CE.mono ?_
      rintro e w4 ⟨c, kd, rfl, CA4, ok4, sl4, C4⟩
      obtain ⟨hcd, rfl⟩ := CA4.unique (CellAns.itm hgd)
      have HCD : Hid (c.c = d) := hcd
      have B4 := B3.trans (C4.mono B3.size)
      have R4 := R0.below (C3.trans (C4.mono C3.size))
      unfold CA.val
      clear CE CA4 hcd sk sv hq hW3 z1 z2 hkn hvn
      obtain ⟨W5, hW5⟩ : ∃ V, V = w4.alloc (.cells #[.string c.row, .string c.fam, .string c.qual, .int .u64 c.time, .slice c.va.ao c.va.n c.va.cap, .bool c.gone] 33) := ⟨_, rfl⟩
      have C5 : Below w4.heap.size w4 W5 := by rw [hW5]; exact (Below.refl _ _).alloc (Nat.le_refl _) _
      have A5 : Arr W5 w4.heap.size 33 (#[.string c.row, .string c.fam, .string c.qual, .int .u64 c.time, .slice c.va.ao c.va.n c.va.cap, .bool c.gone]).toList := by rw [hW5]; exact heap_alloc_new w4 _
      have B5 := B4.trans (C5.mono B4.size)
      have R5 := R4.below C5
      have ok5 := ok4.below C5
      have sl5 := sl4.kp (KpB.below C5)
      have CH := HH.out W5 c (B2.trans (B5.mono B2.size)) ok5
      rw [HCD.out] at CH
      clear R4 ok4 sl4 R0
      go_wp2_with fail
      rw [← hW5]
      refine CH.mono ?_
      rintro e w6 ⟨rfl, C6⟩
      have B6 := B5.trans (C6.mono B5.size)
      have R6 := R5.below C6
      have ok6 := ok5.below C6
      have sl6 := sl5.kp (KpB.below C6)
      have A6 := arr_below A5 C6
      clear CH A5 R5 ok5 sl5 C5 C6 hW5
      cases hpr : pr d with
      | false =>
        have HL2 : Hid (l.map CA.c = (ds.take (k + 1)).filter pr) := by
          show _ = _
          rw [HTK.out, List.filter_append, HL.out]
          simp [hpr]
        clear hpr
        go_wp2
        go_roundw
        case rel => exact ⟨k + 1, l, by omega, by go_num, R6, HL2, by omega, B6⟩
        case measure => simp [intOf]; omega
      | true =>
        have HL2 : Hid ((l ++ [c]).map CA.c = (ds.take (k + 1)).filter pr) := by
          show _ = _
          rw [HTK.out, List.filter_append, List.map_append, HL.out, List.map_cons, HCD.out]
          simp [hpr]
        have q0 : w6.cell? ⟨w4.heap.size, 0, none⟩ = some (.string c.row) := A6.cell 0
        have q1 : w6.cell? ⟨w4.heap.size, 1, none⟩ = some (.string c.fam) := A6.cell 1
        have q2 : w6.cell? ⟨w4.heap.size, 2, none⟩ = some (.string c.qual) := A6.cell 2
        have q3 : w6.cell? ⟨w4.heap.size, 3, none⟩ = some (.int .u64 c.time) := A6.cell 3
        have q4 : w6.cell? ⟨w4.heap.size, 4, none⟩ = some (.slice c.va.ao c.va.n c.va.cap) := A6.cell 4
        have q5 : w6.cell? ⟨w4.heap.size, 5, none⟩ = some (.bool c.gone) := A6.cell 5
        have C7 : Below w6.heap.size w6 (w6.alloc (.cells #[.string c.row, .string c.fam, .string c.qual, .int .u64 c.time, .slice c.va.ao c.va.n c.va.cap, .bool c.gone] 33)) := (Below.refl _ _).alloc (Nat.le_refl _) _
        have hb7 : w2.heap.size ≤ (w6.alloc (.cells #[.string c.row, .string c.fam, .string c.qual, .int .u64 c.time, .slice c.va.ao c.va.n c.va.cap, .bool c.gone] 33)).heap.size := Nat.le_trans B6.size C7.size
        have B7 := B6.trans (C7.mono B6.size)
        clear hpr A6
        go_wp2_with (at_builtin; refine wpList_appC rfl (.tmp 54) (.tmp 56) rfl w2.heap.size _ l rfl (R6.below C7) w6.heap.size 1 c rfl (heap_alloc_new w6 _) (ok6.below C7) (sl6.kp (KpB.below C7)) (by omega) hb7 ?_; intro v8 w8 R8 D8; clear q0 q1 q2 q3 q4 q5)
        go_roundw
        case rel => exact ⟨k + 1, l ++ [c], by omega, by go_num, R8, HL2, by rw [List.length_append, List.length_singleton]; omega, B7.trans D8⟩
        case measure => simp [intOf]; omega
    · have hge : ¬ (k : Int) < (il : Int) := by omega
      have HLF : Hid (l.map CA.c = ds.filter pr) := by
        show _ = _
        rw [HL.out, List.take_of_length_le]
        have := congrArg List.length HP.out
        rw [List.length_map, List.length_map] at this
        omega
      have hsz := B2.size
      go_wp2
      go_ret
      exact ⟨_, w2.heap.size, l, rfl, hsz, R0, by rw [HF.out, HLF.out], B2.trans (B0.mono B2.size)⟩
theorem among_any (w : World) (p : Nat) (f t : ByteArray) (cs : List CV) (a b : ByteArray) (g : Nat) (lb : Array Value) (pr : CV → Bool) (eg : ∀ args w, (callFunc g args).run Tryz.prog w = .ok (.enter g args) w)
    (hT : TB w p f t cs) (hs : CSrt cs) (hg : CGood cs) (ha : a.size ≤ 32) (hb : b.size ≤ 32) (hn : cs.length ≤ 1000) (hand : Tells w g lb pr) :
    Calls Tryz.prog 47 #[.pointer (some ⟨p, 0, none⟩), .string a, .string b, .func (.func g) #[] lb] w (AmPost w (cs.filter fun c => inRows a b c.row && pr c)) :=
  (among_row w p f t cs a b g lb pr eg hT hs hg ha hb hn hand).mono fun _ _ h => h.post
open Go.RowKit
def IxPost (l : List CV) (pr : CV → Bool) (r : Int) : Prop := (r = -1 ∧ l.any pr = false) ∨ (0 ≤ r ∧ l.any pr = true ∧ ∃ k : Nat, r = k ∧ (l.take k).any pr = false ∧ ∃ h : k < l.length, pr l[k] = true)
set_option maxHeartbeats 2000000 in
set_option maxRecDepth 100000 in
theorem index_any (w : World) (ao : Option Addr) (n cap : Nat) (l : List CA) (g : Nat) (lb : Array Value) (pr : CV → Bool) (eg : ∀ args w, (callFunc g args).run Tryz.prog w = .ok (.enter g args) w) (h : CL w ao n cap l) (hn : n ≤ 1000) (hand : Tells w g lb pr) :
    Calls Tryz.prog 90 #[.slice ao n cap, .func (.func g) #[] lb] w fun e w' => ∃ r, e = .returned (.int .i64 r) ∧ IxPost (l.map CA.c) pr r ∧ Below w.heap.size w w' := by
  have hl1 := Nat.le_of_eq h.len
  have hl2 := Nat.le_of_eq h.len.symm
  have hni : (n : Int) ≤ 1000 := by omega
  have HH : Hid (Tells w g lb pr) := hand
  clear hand
  go_enter Tryz.func90, Tryz.ntmps90
  go_wp2
  go_loopw [8] (fun i wr => ∃ k : Nat, k ≤ n ∧ i = .int .i64 k ∧ Hid (((l.take k).map CA.c).any pr = false) ∧ Below w.heap.size w wr) (fun i _ => n - (intOf i).toNat)
  case atStart => exact ⟨0, Nat.zero_le _, rfl, rfl, Below.refl _ _⟩
  case round =>
    obtain ⟨k, hk, rfl, HA, B0⟩ := hrel
    by_cases hlt : k < n
    · have hki : (k : Int) < (n : Int) := by omega
      have hkl : k < l.length := by omega
      obtain ⟨b, off, rfl, hc⟩ := h.at (by omega)
      have X := (hc k hkl).below B0
      have hok := (h.ok _ (List.getElem_mem hkl)).below B0
      have HTK : Hid (((l.take (k + 1)).map CA.c).any pr = pr l[k].c) := by
        show _ = _
        rw [List.take_succ_eq_append_getElem hkl, List.map_append, List.any_append, HA.out]
        simp
      have HMM : Hid (pr l[k].c = true → (l.map CA.c).any pr = true) := fun hp => List.any_eq_true.2 ⟨_, List.mem_map.2 ⟨_, List.getElem_mem hkl, rfl⟩, hp⟩
      obtain ⟨c, hce⟩ : ∃ c, c = l[k] := ⟨_, rfl⟩
      have HPK : Hid (pr c.c = true → pr l[k].c = true) := fun h => by rw [← hce]; exact h
      rw [← hce] at X hok HTK HMM
      obtain ⟨q0, q1, q2, q3, q4, q5⟩ := X
      have CH := HH.out wr c B0 hok
      clear hc hce
      go_wp2_with fail
      refine CH.mono ?_
      rintro e w2 ⟨rfl, C2⟩
      have B2 := B0.trans (C2.mono B0.size)
      clear CH q0 q1 q2 q3 q4 q5
      cases hp : pr c.c with
      | false =>
        have HA2 : Hid (((l.take (k + 1)).map CA.c).any pr = false) := by show _ = _; rw [HTK.out, hp]
        clear hp
        go_wp2
        go_roundw
        case rel => exact ⟨k + 1, by omega, by go_num, HA2, B2⟩
        case measure => simp [intOf]; omega
      | true =>
        have HA2 := HMM.out hp
        have HA3 : Hid ((l.map CA.c).any pr = true) := HA2
        have HA4 : Hid (((l.map CA.c).take k).any pr = false ∧ ∃ h : k < (l.map CA.c).length, pr (l.map CA.c)[k] = true) := ⟨by rw [← List.map_take]; exact HA.out, by rw [List.length_map]; exact hkl, by rw [List.getElem_map]; exact HPK.out hp⟩
        clear hp HA2
        go_wp2
        go_ret
        exact ⟨(k : Int), rfl, .inr ⟨by omega, HA3.out, k, rfl, HA4.out⟩, B2⟩
    · have hge : ¬ (k : Int) < (n : Int) := by omega
      have HA2 : Hid ((l.map CA.c).any pr = false) := by
        show _ = _
        rw [← HA.out, List.take_of_length_le (by omega)]
      go_wp2
      go_ret
      exact ⟨-1, rfl, .inl ⟨rfl, HA2.out⟩, B0⟩
set_option maxHeartbeats 1000000 in
set_option maxRecDepth 100000 in
theorem contains_any (w : World) (ao : Option Addr) (n cap : Nat) (l : List CA) (g : Nat) (lb : Array Value) (pr : CV → Bool) (eg : ∀ args w, (callFunc g args).run Tryz.prog w = .ok (.enter g args) w) (h : CL w ao n cap l) (hn : n ≤ 1000) (hand : Tells w g lb pr) (bb : Bool) (hb : Hid (bb = (l.map CA.c).any pr)) :
    Calls Tryz.prog 60 #[.slice ao n cap, .func (.func g) #[] lb] w fun e w' => e = .returned (.bool bb) ∧ Below w.heap.size w w' := by
  have CI := index_any w ao n cap l g lb pr eg h hn hand
  go_enter Tryz.func60, Tryz.ntmps60
  go_wp2_with fail
  refine CI.mono ?_
  rintro e w2 ⟨r, rfl, hr, C2⟩
  clear CI
  rcases hr with ⟨rfl, hv⟩ | ⟨h0, hv, -⟩
  · obtain rfl : bb = false := hb.out.trans hv
    go_wp2
    go_ret
    exact ⟨rfl, C2⟩
  · obtain rfl : bb = true := hb.out.trans hv
    go_wp2
    go_ret
    exact ⟨rfl, C2⟩
end Go.Proofs.YtlljmhcgjkolpaaGreatDoor
namespace Go
section
variable {P : Program} {ops : Array Oper} {S : World → Prop} {Q : Exit → Act → World → Prop} {fuel : Nat} {listed : Array Bool} {a : Act} {w : World}
theorem op_do (i : Nat) (d : Option Tmp) (v : Value) {oi : Oper} {w' : World} (hi : ops[i]? = some oi) (hd : oi.dst = d) (hg : oi.guard = none) (hrun : (execOp a.eval oi).run P w = .ok (.value v) w') (hS : S w')
    (h : wpAnyH P .any ops (NoPanic Q) S fuel (listed.setIfInBounds i true) (a.put d v) w') : wpOp P ops (NoPanic Q) i (fun a' w' => S w' ∧ wpAnyH P .any ops (NoPanic Q) S fuel (listed.setIfInBounds i true) a' w') a w := by
  have hw : Region.wanted oi (yielded ops a.tmps) = true := by simp [Region.wanted, hg]
  unfold wpOp
  simp only [hi, hw, if_true, Oper.wp, hrun, Oper.upon, hd]
  exact .inl ⟨hS, h⟩
theorem hr_two {i j : Nat} (hr : Region.ready .any ops listed = [i, j]) (h1 : wpOp P ops (NoPanic Q) i (fun a' w' => S w' ∧ wpAnyH P .any ops (NoPanic Q) S fuel (listed.setIfInBounds i true) a' w') a w)
    (h2 : wpOp P ops (NoPanic Q) j (fun a' w' => S w' ∧ wpAnyH P .any ops (NoPanic Q) S fuel (listed.setIfInBounds j true) a' w') a w) : wpAnyH P .any ops (NoPanic Q) S (fuel + 1) listed a w := by
  refine wpAnyH_all hr (by simp) fun k hk => ?_
  simp only [List.mem_cons, List.not_mem_nil, or_false] at hk
  rcases hk with rfl | rfl
  · exact h1
  · exact h2
end
end Go
namespace Go.Proofs.YtlljmhcgjkolpaaGreatDoor
open Go.RowKit
theorem laidT : laidOutB Tryz.prog = true := by kernel_rfl
theorem keyLaw39 : WideMaps.KeyLaw Tryz.prog 24 := deep_law_laid laidT (m := 3) (by omega) (of_decide_eq_true (by kernel_rfl)) (by kernel_rfl) (by kernel_rfl)
theorem litsS (d : Nat) (s : ByteArray) (h : s.size ≤ maxLen) : Tryz.prog.keyLits (d + 1) 9 [.string s] = some [.string s.data.toList] := by
  simp [Program.keyLits, Tryz.underlying9, h]
theorem litsU (d : Nat) (n : Nat) (h : n < 18446744073709551616) : Tryz.prog.keyLits (d + 1) 22 [.int .u64 n] = some [.int .u64 n] := by
  have hw : (Lit.int .u64 n).wf = true := by simp [Lit.wf, IntKind.min, IntKind.max, IntKind.signed, IntKind.bits]; omega
  simp [Program.keyLits, Tryz.underlying22, hw]
theorem cS : Tryz.prog.cellsOf 9 = 1 := by kernel_rfl
theorem cU : Tryz.prog.cellsOf 22 = 1 := by kernel_rfl
theorem cK : Tryz.prog.cellsOf 24 = 4 := by kernel_rfl
theorem ktK : Tryz.prog.keyType 24 = true := by kernel_rfl
theorem keyKA (k : KA) (h : k.ok) : ∃ l, keyOf Tryz.prog 24 k.val = some l := by
  have hf : k.val.formed Tryz.prog 24 = true := by
    simp [KA.val, Value.formed, Tryz.underlying24, cK]
  obtain ⟨d, hd⟩ : ∃ d, Tryz.prog.types.size = d + 1 := ⟨Tryz.prog.types.size - 1, by
    have : 1 ≤ Tryz.prog.types.size := of_decide_eq_true (by kernel_rfl)
    omega⟩
  have hk : ∃ ls, Tryz.prog.keyLits (d + 2) 24 [.string k.row, .string k.fam, .string k.qual, .int .u64 k.time] = some ls := by
    unfold Program.keyLits
    rw [Tryz.underlying24]
    refine ⟨([[.string k.row.data.toList], [.string k.fam.data.toList], [.string k.qual.data.toList], [.int .u64 k.time]] : List (List Lit)).flatten, ?_⟩
    have hc : ([.string k.row, .string k.fam, .string k.qual, .int .u64 k.time] : List Value).length = 4 := rfl
    simp only [cK, hc]
    rw [if_pos ⟨trivial, by kernel_rfl⟩]
    simp only [List.mapM_cons, List.mapM_nil, cS, cU, List.drop_zero, List.drop_succ_cons, List.take_succ_cons, List.take_zero]
    rw [litsS d _ h.row, litsS d _ h.fam, litsS d _ h.qual, litsU d _ h.time]
    rfl
  obtain ⟨l2, hl2⟩ := hk
  have e0 : k.val.cells.toList = [.string k.row, .string k.fam, .string k.qual, .int .u64 k.time] := by simp [KA.val, Value.cells]
  unfold keyOf
  rw [Tryz.underlying24]
  simp only [ktK, hf, Bool.and_self, if_true]
  rw [hd, e0, hl2]
  exact ⟨_, rfl⟩
def keq (a b : KA) : Bool := decide (a.row = b.row ∧ a.fam = b.fam ∧ a.qual = b.qual ∧ a.time = b.time)
theorem keq_iff (a b : KA) : keq a b = true ↔ a = b := by
  unfold keq
  rw [decide_eq_true_eq]
  cases a; cases b
  simp
theorem KA.val_inj {a b : KA} (h : a.val = b.val) : a = b := by
  cases a; cases b
  simp only [KA.val, Value.agg.injEq] at h
  have h := congrArg Array.toList h
  simp at h
  obtain ⟨h1, h2, h3, h4⟩ := h
  subst h1 h2 h3
  rw [KA.mk.injEq]
  exact ⟨rfl, rfl, rfl, by omega⟩
def cntK (k : KA) (ks : List KA) : Nat := (ks.filter (keq k)).length
def mostR : List KA → Nat
  | [] => 0
  | k :: ks => max (mostR ks) (cntK k ks + 1)
def mostK (ks : List KA) : Nat := mostR ks.reverse
theorem cntK_le (k : KA) (ks : List KA) : cntK k ks ≤ ks.length := List.length_filter_le _ _
theorem cntK_reverse (k : KA) (ks : List KA) : cntK k ks.reverse = cntK k ks := by
  unfold cntK
  rw [List.filter_reverse, List.length_reverse]
theorem mostK_snoc (ks : List KA) (k : KA) : mostK (ks ++ [k]) = max (mostK ks) (cntK k ks + 1) := by
  unfold mostK
  rw [List.reverse_append]
  show max (mostR ks.reverse) (cntK k ks.reverse + 1) = _
  rw [cntK_reverse]
theorem cntK_snoc (j : KA) (ks : List KA) (k : KA) : cntK j (ks ++ [k]) = cntK j ks + (if keq j k then 1 else 0) := by
  unfold cntK
  rw [List.filter_append, List.length_append]
  congr 1
  simp only [List.filter_cons, List.filter_nil]
  split <;> rfl
def Cnt (F : Value → Option Value) (ks : List KA) : Prop := ∀ k : KA, (F k.val).getD (.int .i64 0) = .int .i64 (cntK k ks : Nat)
theorem Cnt.step {F F' : Value → Option Value} {ks : List KA} {k : KA} (h : Cnt F ks) (h1 : F' k.val = some (.int .i64 ((cntK k ks : Nat) + 1 : Int))) (h2 : ∀ x, x ≠ k.val → F' x = F x) : Cnt F' (ks ++ [k]) := fun j => by
  rw [cntK_snoc]
  by_cases e : j = k
  · subst e
    rw [h1, (keq_iff j j).2 rfl]
    simp
  · have hk : keq j k = false := by
      cases hq : keq j k with
      | false => rfl
      | true => exact absurd ((keq_iff j k).1 hq) e
    rw [h2 _ (fun hv => e (KA.val_inj hv)), hk, h j]
    simp
theorem zeroI (u : World) : (zeroValue 3).run Tryz.prog u = .ok (.int .i64 0) u := by kernel_rfl
set_option maxHeartbeats 8000000 in
set_option maxRecDepth 100000 in
theorem most_any (w : World) (ao : Option Addr) (n cap : Nat) (l : List CA) (g : Nat) (cf : KA → KA) (eg : ∀ args w, (callFunc g args).run Tryz.prog w = .ok (.enter g args) w) (L : CL w ao n cap l) (hn : n ≤ 1000)
    (hcf : ∀ V k, Calls Tryz.prog g #[k.val] V fun e w' => e = .returned (cf k).val ∧ Below V.heap.size V w') (hck : ∀ k : KA, k.ok → (cf k).ok) :
    Calls Tryz.prog 66 #[.slice ao n cap, .func (.func g) #[] #[]] w fun e w' => e = .returned (.int .i64 (mostK (l.map fun c => cf c.key) : Nat)) ∧ Below w.heap.size w w' := by
  have hl1 := Nat.le_of_eq L.len
  have hl2 := Nat.le_of_eq L.len.symm
  obtain ⟨ks, hks⟩ : ∃ ks, ks = l.map fun c => cf c.key := ⟨_, rfl⟩
  have HKS : Hid (ks = l.map fun c => cf c.key) := hks
  rw [← hks]
  clear hks
  obtain ⟨W1, hW1⟩ : ∃ V, V = w.alloc (.map #[] 0) := ⟨_, rfl⟩
  have C1 : Below w.heap.size w W1 := by rw [hW1]; exact (Below.refl _ _).alloc (Nat.le_refl _) _
  have M1 : MF W1 24 w.heap.size 0 (fun _ => none) := by rw [hW1]; exact MF.made w _
  have hmm := @run_makeMap Tryz.prog
  go_enter Tryz.func66, Tryz.ntmps66
  go_wp2
  rw [← hW1]
  clear hW1 hmm
  go_loopw [6, 13] (fun mv i wr => ∃ (j mn : Nat) (F : Value → Option Value), j ≤ n ∧ i = .int .i64 j ∧ mv = .int .i64 (mostK (ks.take j) : Nat) ∧ MF wr 24 w.heap.size mn F ∧ mn ≤ j ∧ Hid (Cnt F (ks.take j)) ∧ Below w.heap.size w wr) (fun _ i _ => n - (intOf i).toNat)
  case atStart => exact ⟨0, 0, _, Nat.zero_le _, rfl, rfl, M1, Nat.le_refl _, fun _ => rfl, C1⟩
  case round =>
    obtain ⟨j, mn, F, hj, rfl, rfl, M, hmn, HC, B⟩ := hrel
    by_cases hlt : j < n
    · have hji : (j : Int) < (n : Int) := by omega
      have hjl : j < l.length := by omega
      obtain ⟨b, off, ea, hc⟩ := L.at (by omega)
      have X := (hc j hjl).below B
      have hok := (L.ok _ (List.getElem_mem hjl))
      have hjk : j < ks.length := by rw [HKS.out, List.length_map]; exact hjl
      have hkj : ks[j] = cf l[j].key := by
        have := HKS.out
        subst this
        exact List.getElem_map ..
      have HT : Hid (ks.take (j + 1) = ks.take j ++ [cf l[j].key]) := by
        show _ = _
        rw [List.take_succ_eq_append_getElem hjk, hkj]
      have kok : (cf l[j].key).ok := hck _ ⟨hok.row, hok.fam, hok.qual, hok.time⟩
      obtain ⟨c, hce⟩ : ∃ c, c = l[j] := ⟨_, rfl⟩
      rw [← hce] at X HT kok
      obtain ⟨k2, hk2⟩ : ∃ k, k = cf c.key := ⟨_, rfl⟩
      have CF := fun (V : World) => hcf V c.key
      rw [← hk2] at HT kok CF
      have egc := fun (V : World) => eg #[c.key.val] V
      unfold KA.val CA.key at CF egc
      obtain ⟨x0, x1, x2, x3, x4, x5⟩ := X
      subst ea
      obtain ⟨W2, hW2⟩ : ∃ V, V = wr.alloc (.cells #[.string c.row, .string c.fam, .string c.qual, .int .u64 c.time, .slice c.va.ao c.va.n c.va.cap, .bool c.gone] 33) := ⟨_, rfl⟩
      have C2 : Below wr.heap.size wr W2 := by rw [hW2]; exact (Below.refl _ _).alloc (Nat.le_refl _) _
      have B2 := B.trans (C2.mono B.size)
      have M2 := M.below C2 M.lt
      have CF2 := CF W2
      clear hc hok hkj hce hk2 M CF
      go_wp2_with fail
      rw [← hW2]
      clear hW2
      refine CF2.mono ?_
      rintro e w3 ⟨rfl, C3⟩
      have B3 := B2.trans (C3.mono B2.size)
      have M3 := M2.below C3 M2.lt
      obtain ⟨W4, hW4⟩ : ∃ V, V = w3.alloc (.cells #[.string k2.row, .string k2.fam, .string k2.qual, .int .u64 k2.time] 24) := ⟨_, rfl⟩
      have C4 : Below w3.heap.size w3 W4 := by rw [hW4]; exact (Below.refl _ _).alloc (Nat.le_refl _) _
      have K4 : Arr W4 w3.heap.size 24 [.string k2.row, .string k2.fam, .string k2.qual, .int .u64 k2.time] := by rw [hW4]; exact heap_alloc_new w3 _
      have B4 := B3.trans (C4.mono B3.size)
      have M4 := M3.below C4 M3.lt
      have hlt3 : w.heap.size < w3.heap.size := M3.lt
      clear CF2 x0 x1 x2 x3 x4 x5 M2 M3 egc
      go_wp2
      rw [← hW4]
      clear hW4
      have hkey := keyKA k2 kok
      obtain ⟨lit, hlit⟩ := hkey
      have M5 : MF W4.drew 24 w.heap.size mn F := M4.ofHeap rfl
      obtain ⟨st, w1, hme, g1, hlk1, hst⟩ := M5.entry keyLaw39 Tryz.underlying141 zeroI (by unfold maxLen; omega) hlit
      have hlk0 := M5.look1 (Maps.Keyed.of_law keyLaw39) Tryz.underlying141 (zeroI _) hlit
      rw [HC.out k2] at hme hlk0 hlk1
      have hcl : cntK k2 (ks.take j) ≤ 1000 := Nat.le_trans (cntK_le _ _) (by rw [List.length_take]; omega)
      obtain ⟨cn, hcn⟩ : ∃ c, c = cntK k2 (ks.take j) := ⟨_, rfl⟩
      have HCN : Hid (cn = cntK k2 (ks.take j)) := hcn
      rw [← hcn] at hme hlk0 hlk1 hcl
      obtain ⟨w2, F', n', hes, M6, g2, f1, f2, hn'⟩ := hst (.int .i64 ((cn : Nat) + 1 : Int))
      have hlk2 := M6.look1 (Maps.Keyed.of_law keyLaw39) Tryz.underlying141 (zeroI _) hlit
      rw [f1, Option.getD_some] at hlk2
      have HC2 : Hid (Cnt F' (ks.take (j + 1))) := by
        show Cnt _ _
        rw [HT.out]
        exact HC.out.step (by rw [f1, HCN.out]) f2
      have HMX : Hid (mostK (ks.take (j + 1)) = max (mostK (ks.take j)) (cn + 1)) := by
        show _ = _
        rw [HT.out, mostK_snoc, HCN.out]
      have hne : w3.heap.size ≠ w.heap.size := by omega
      have B6 : Below w.heap.size w w2 := B4.drew.grown g2 B4.size (fun i hi => by cases hi; exact Nat.le_refl _)
      have k0 : W4.drew.cell? ⟨w3.heap.size, 0, none⟩ = some (.string k2.row) := K4.cell 0
      have k1 : W4.drew.cell? ⟨w3.heap.size, 1, none⟩ = some (.string k2.fam) := K4.cell 1
      have k2' : W4.drew.cell? ⟨w3.heap.size, 2, none⟩ = some (.string k2.qual) := K4.cell 2
      have k3 : W4.drew.cell? ⟨w3.heap.size, 3, none⟩ = some (.int .u64 k2.time) := K4.cell 3
      have keepc : ∀ V, W4.drew.grownBy V (some w.heap.size) → V.cell? ⟨w3.heap.size, 0, none⟩ = some (.string k2.row) ∧ V.cell? ⟨w3.heap.size, 1, none⟩ = some (.string k2.fam) ∧ V.cell? ⟨w3.heap.size, 2, none⟩ = some (.string k2.qual) ∧ V.cell? ⟨w3.heap.size, 3, none⟩ = some (.int .u64 k2.time) := fun V hV => by
        have hb : V.heap[w3.heap.size]? = W4.drew.heap[w3.heap.size]? := World.grownBy.block hV _ K4.lt (fun e => hne (Option.some.inj e))
        exact ⟨(World.cell?_of_block hb).trans k0, (World.cell?_of_block hb).trans k1, (World.cell?_of_block hb).trans k2', (World.cell?_of_block hb).trans k3⟩
      have H1 := keepc w1 g1
      have H2 := keepc w2 g2
      obtain ⟨y0, y1, y2, y3⟩ := keepc w2 g2
      have hwr : IntKind.i64.wrap ((cn : Int) + 1) = (cn : Int) + 1 := by rw [IntKind.wrap_i64]; omega
      unfold KA.val at hme hlk0 hlk1 hlk2
      unfold goInt at hes
      clear keepc f1 f2 hst M5 M4 g1 g2 hcn
      refine wp_region_noPanic ?_
      refine wp_region_held_drew (S := fun V => V.cell? ⟨w3.heap.size, 0, none⟩ = some (.string k2.row) ∧ V.cell? ⟨w3.heap.size, 1, none⟩ = some (.string k2.fam) ∧ V.cell? ⟨w3.heap.size, 2, none⟩ = some (.string k2.qual) ∧ V.cell? ⟨w3.heap.size, 3, none⟩ = some (.int .u64 k2.time)) (by kernel_rfl) ⟨k0, k1, k2', k3⟩ (fun zH0 => ?_)
      refine hr_take_w 0 (some 21) (.map (some w.heap.size)) rfl rfl (by kernel_rfl) (by kernel_rfl) (by kernel_rfl) rfl (fun W hW => by obtain ⟨h0, h1, h2, h3⟩ := hW; go_simp) zH0 ?_
      simp only [FL]
      refine hr_take_w 1 (some 22) (.agg #[.string k2.row, .string k2.fam, .string k2.qual, .int .u64 k2.time]) rfl rfl (by kernel_rfl) (by kernel_rfl) (by kernel_rfl) rfl (fun W hW => by obtain ⟨h0, h1, h2, h3⟩ := hW; go_simp) zH0 ?_
      simp only [FL]
      refine hr_two (i := 2) (j := 4) (by kernel_rfl) ?_ ?_
      · refine op_do 2 (some 23) (.int .i64 cn) rfl rfl rfl (w' := W4.drew) (by go_simp) zH0 ?_
        simp only [FL]
        refine hr_take_w 3 (some 24) (.int .i64 ((cn : Int) + 1)) rfl rfl (by kernel_rfl) (by kernel_rfl) (by kernel_rfl) rfl (fun W hW => by obtain ⟨h0, h1, h2, h3⟩ := hW; go_simp) zH0 ?_
        simp only [FL]
        refine hr_do 4 (some 25) (.tuple #[.int .i64 cn, goInt st]) rfl rfl (by kernel_rfl) rfl (w' := w1) (by go_simp) H1 ?_
        simp only [FL]
        refine hr_take_w 5 (some 26) (goInt st) rfl rfl (by kernel_rfl) (by kernel_rfl) (by kernel_rfl) rfl (fun W hW => by obtain ⟨h0, h1, h2, h3⟩ := hW; go_simp) H1 ?_
        simp only [FL]
        refine hr_skip 6 none rfl rfl (by kernel_rfl) rfl (w' := w2) (by go_simp) H2 ?_
        simp only [Act.put]
        refine wpAnyH_done (by kernel_rfl) ?_ _
        refine NoPanic.normal ?_
        go_wp2
        go_roundw
        case rel => exact ⟨j + 1, n', F', by omega, by go_num, by rw [HMX.out]; congr 1; rw [Nat.max_def]; split <;> split <;> omega, M6, by omega, HC2, B6⟩
        case measure => simp [intOf]; omega
      · refine op_do 4 (some 25) (.tuple #[.int .i64 cn, goInt st]) rfl rfl rfl (w' := w1) (by go_simp) H1 ?_
        simp only [FL]
        refine hr_take_w 5 (some 26) (goInt st) rfl rfl (by kernel_rfl) (by kernel_rfl) (by kernel_rfl) rfl (fun W hW => by obtain ⟨h0, h1, h2, h3⟩ := hW; go_simp) H1 ?_
        simp only [FL]
        refine hr_do 2 (some 23) (.int .i64 cn) rfl rfl (by kernel_rfl) rfl (w' := w1) (by go_simp) H1 ?_
        simp only [FL]
        refine hr_take_w 3 (some 24) (.int .i64 ((cn : Int) + 1)) rfl rfl (by kernel_rfl) (by kernel_rfl) (by kernel_rfl) rfl (fun W hW => by obtain ⟨h0, h1, h2, h3⟩ := hW; go_simp) H1 ?_
        simp only [FL]
        refine hr_skip 6 none rfl rfl (by kernel_rfl) rfl (w' := w2) (by go_simp) H2 ?_
        simp only [Act.put]
        refine wpAnyH_done (by kernel_rfl) ?_ _
        refine NoPanic.normal ?_
        go_wp2
        go_roundw
        case rel => exact ⟨j + 1, n', F', by omega, by go_num, by rw [HMX.out]; congr 1; rw [Nat.max_def]; split <;> split <;> omega, M6, by omega, HC2, B6⟩
        case measure => simp [intOf]; omega
    · have hge : ¬ (j : Int) < (n : Int) := by omega
      have HT : Hid (ks.take j = ks) := List.take_of_length_le (by rw [HKS.out, List.length_map]; omega)
      rw [HT.out]
      go_wp2
      go_ret
      exact ⟨rfl, B⟩
end Go.Proofs.YtlljmhcgjkolpaaGreatDoor

/-
  Texts in one: TbAmong, PCol, TbCol, PChgW.
-/
import Derived.Test.YthlpccajnmkbjaaGreatDoorY24
import Derived.Test.YthlpccajnmkbjaaGreatDoorY5
import Derived.Test.YthlpccajnmkbjaaGreatDoorY17
namespace Go.Proofs.YthlpccajnmkbjaaGreatDoor
open Go.RowKit

/-- A list of cells that the call makes. -/
structure CRow (W : World) (base : Nat) (v : Value) (l : List CA) : Prop where
  row : W.ownsRow base 69 6 v l.length (cellsC l)
  ok : ∀ c ∈ l, c.ok W
  sl : ∀ c ∈ l, SlT W ⟨c.va.ao, c.va.n, c.va.cap, c.va.xs⟩
theorem CRow.nil (W : World) (base : Nat) : CRow W base (.slice none 0 0) [] := ⟨World.ownsRow_nil _ _ _ _, fun _ h => by simp at h, fun _ h => by simp at h⟩
theorem CRow.below {W W' : World} {base : Nat} {v : Value} {l : List CA} (h : CRow W base v l) (hb : Below W.heap.size W W') : CRow W' base v l :=
  ⟨own_below h.row hb, fun c hc => (h.ok c hc).below hb, fun c hc => (h.sl c hc).kp (KpB.below hb)⟩
theorem CRow.cl {W : World} {base : Nat} {v : Value} {l : List CA} (h : CRow W base v l) : ∃ ao cap, v = .slice ao l.length cap ∧ CL W ao l.length cap l := CL.own h.row h.ok
theorem cellsC_snoc (l : List CA) (c : CA) : cellsC (l ++ [c]) = cellsC l ++ c.cells := by simp [cellsC]
/-- append of one cell. -/
theorem wpList_appC {w : World} {ops : Array Oper} {rest : List Oper} {o : Oper} {a : Act} {Q : Exit → Act → World → Prop} (hgd : o.guard = none) (s x : Operand)
    (ho : o.op = .call { callee := .builtin .append, args := #[s, x], argTypes := #[30, 30] })
    (base : Nat) (v : Value) (l : List CA) (hs : a.eval s = v) (hown : CRow w base v l)
    (g cp : Nat) (c : CA) (hx : a.eval x = .slice (some ⟨g, 0, none⟩) 1 cp) (hc : w.heap[g]? = some (.cells #[.string c.row, .string c.fam, .string c.qual, .int .u64 c.time, .slice c.va.ao c.va.n c.va.cap, .bool c.gone] 69)) (hok : c.ok w) (hsl : SlT w ⟨c.va.ao, c.va.n, c.va.cap, c.va.xs⟩) (hn : l.length ≤ 1000000) (hbase : base ≤ w.heap.size)
    (h : ∀ v' w', CRow w' base v' (l ++ [c]) → Below base w w' → wpList Tryz.prog ops Q rest (a.put o.dst v') w') : wpList Tryz.prog ops Q (o :: rest) a w := by
  obtain ⟨i0, hi, hz0, hz1, hz2⟩ := info_parts cellInfo
  refine wpList_append_own w hgd s x 30 ho base 69 i0 _ 6 88 Tryz.underlying30 hi hz0 hz1 hz2 rfl (by decide) v l.length (cellsC l) hs hown.row ⟨g, 0, none⟩ 1 cp c.cells hx rfl
    (fun j u hu => by
      rw [Addr.add_lit, Nat.zero_add, cell_of_row w g j _ _ _ hc]
      simpa [CA.cells] using hu) (c_one c) (by unfold maxLen; omega) (by omega) hbase ?_
  intro v' w' h1 h2 _
  rw [← cellsC_snoc] at h1
  have kp := KpB.row hown.row (by decide) h2
  have okT : ∀ d : CA, d.ok w → SlT w ⟨d.va.ao, d.va.n, d.va.cap, d.va.xs⟩ → d.ok w' := fun d h3 h4 => ⟨h3.row, h3.fam, h3.qual, h3.time, (h4.kp kp).1⟩
  refine h v' w' ⟨by rw [List.length_append]; exact h1, fun d hd => ?_, fun d hd => ?_⟩ ((Below.refl _ w).grown h2 hbase (fun k hk => (hown.row.lt k hk).1))
  · rcases List.mem_append.1 hd with hd | hd
    · exact okT d (hown.ok d hd) (hown.sl d hd)
    · rw [List.mem_singleton.1 hd]; exact okT c hok hsl
  · rcases List.mem_append.1 hd with hd | hd
    · exact (hown.sl d hd).kp kp
    · rw [List.mem_singleton.1 hd]; exact hsl.kp kp
/-- What among answers. -/
def AmPost (w : World) (cs : List CV) (e : Ending) (w' : World) : Prop := ∃ ao n cap l, e = .returned (.slice ao n cap) ∧ CL w' ao n cap l ∧ (∀ c ∈ l, SlT w' ⟨c.va.ao, c.va.n, c.va.cap, c.va.xs⟩) ∧ l.map CA.c = cs ∧ Below w.heap.size w w'
/-- The same, and the row is the call's own. -/
def AmRow (w : World) (cs : List CV) (e : Ending) (w' : World) : Prop := ∃ v base l, e = .returned v ∧ w.heap.size ≤ base ∧ CRow w' base v l ∧ l.map CA.c = cs ∧ Below w.heap.size w w'
theorem AmRow.post {w w' : World} {cs : List CV} {e : Ending} (h : AmRow w cs e w') : AmPost w cs e w' := by
  obtain ⟨v, base, l, rfl, -, R, hl, B⟩ := h
  obtain ⟨ao, cap, rfl, hcl⟩ := R.cl
  exact ⟨ao, l.length, cap, l, rfl, hcl, R.sl, hl, B⟩
/-- A closure that tells a cell. -/
def Tells (w : World) (g : Nat) (lb : Array Value) (pr : CV → Bool) : Prop := ∀ (W : World) (c : CA), Below w.heap.size w W → c.ok W → Calls Tryz.prog g ((#[.agg #[.string c.row, .string c.fam, .string c.qual, .int .u64 c.time, .slice c.va.ao c.va.n c.va.cap, .bool c.gone]] : Array Value) ++ lb) W fun e W' => e = .returned (.bool (pr c.c)) ∧ Below W.heap.size W W'

set_option maxHeartbeats 4000000 in
set_option maxRecDepth 100000 in
theorem among_row (w : World) (p : Nat) (f t : ByteArray) (cs : List CV) (a b : ByteArray) (g : Nat) (lb : Array Value) (pr : CV → Bool) (eg : ∀ args w, (callFunc g args).run Tryz.prog w = .ok (.enter g args) w)
    (hT : TB w p f t cs) (hs : CSrt cs) (hg : CGood cs) (ha : a.size ≤ 32) (hb : b.size ≤ 32) (hn : cs.length ≤ 1000) (hand : Tells w g lb pr) :
    Calls Tryz.prog 49 #[.pointer (some ⟨p, 0, none⟩), .string a, .string b, .func (.func g) #[] lb] w (AmRow w (cs.filter fun c => inRows a b c.row && pr c)) := by
  have CR := prows_any w a b ha hb
  go_enter Tryz.func49, Tryz.ntmps49
  go_wp2_with fail
  refine CR.mono ?_
  rintro e w1 ⟨lo, ln, lc, ho, hn1, hc, rfl, S1, S2, B1⟩
  have T1 := hT.below B1
  obtain ⟨u, A1, TT1⟩ := T1
  have c2 : w1.cell? ⟨p, 2, none⟩ = some (.pointer u) := Arr.cell A1 2
  have CI := titems_any w1 (.pointer u) (cs.map itm) (nm (sb a)) (hiL (sb b)) lo ho ln lc hn1 hc 9223372036854775807 TT1 hs S1 S2 (by rw [List.length_map]; omega) (fun x hx => by
    obtain ⟨c, hc, rfl⟩ := List.mem_map.1 hx
    have h1 := keyL_le (hg c hc).right
    have h2 := itV_len c
    have h3 := (hg c hc).val
    exact ⟨by show (keyL c.kv).length ≤ _; omega, by show (itV c).length ≤ _; omega⟩)
  clear CR
  go_wp2_with fail
  refine CI.mono ?_
  rintro e w2 ⟨io, il, ic, ps, mt, rfl, I2, hps, -, C2⟩
  have B2 := B1.trans (C2.mono B1.size)
  obtain ⟨ds, hds⟩ : ∃ ds, ds = cs.filter fun c => inRows a b c.row := ⟨_, rfl⟩
  have HP : Hid (ps.map IP.it = ds.map itm) := by
    show _ = _
    rw [hps, btw_rows a b cs hg, ← hds, List.take_of_length_le]
    rw [List.length_map, hds]
    have := List.length_filter_le (fun c => inRows a b c.row) cs
    omega
  have HG : Hid (∀ c ∈ ds, c.good) := fun c hc => by rw [hds] at hc; exact hg c (List.mem_filter.1 hc).1
  have HF : Hid ((cs.filter fun c => inRows a b c.row && pr c) = ds.filter pr) := by
    show _ = _
    rw [hds, List.filter_filter]
    congr 1
    funext c
    exact Bool.and_comm _ _
  have hil : il ≤ 1000 := by
    have h1 := congrArg List.length HP.out
    rw [List.length_map, List.length_map, I2.len, hds] at h1
    have := List.length_filter_le (fun c => inRows a b c.row) cs
    omega
  have hili : (il : Int) ≤ 1000 := by omega
  have hl1 := Nat.le_of_eq I2.len
  have hl2 := Nat.le_of_eq I2.len.symm
  have HH : Hid (Tells w g lb pr) := hand
  clear CI hps hds c2 A1 TT1 S1 S2 hT hs hg hn hand C2 B1
  go_wp2
  go_loopw [14, 38] (fun v i wr => ∃ (k : Nat) (l : List CA), k ≤ il ∧ i = .int .i64 k ∧ CRow wr w2.heap.size v l ∧ Hid (l.map CA.c = (ds.take k).filter pr) ∧ l.length ≤ k ∧ Below w2.heap.size w2 wr) (fun _ i _ => il - (intOf i).toNat)
  case atStart => exact ⟨0, [], Nat.zero_le _, rfl, CRow.nil _ _, rfl, Nat.le_refl _, Below.refl _ _⟩
  case round =>
    obtain ⟨k, l, hk, rfl, R0, HL, hlk, B0⟩ := hrel
    by_cases hlt : k < il
    · have hki : (k : Int) < (il : Int) := by omega
      have hkp : k < ps.length := by omega
      have hkd : k < ds.length := by have := congrArg List.length HP.out; rw [List.length_map, List.length_map] at this; omega
      obtain ⟨ib, io', hio, hcell⟩ := I2.at (by omega)
      subst hio
      obtain ⟨z1, z2⟩ := hcell k hkp
      have hq := I2.sl _ (List.getElem_mem hkp)
      have hqi : ps[k].it = itm ds[k] := by
        have h3 : (ps.map IP.it)[k]? = (ds.map itm)[k]? := by rw [HP.out]
        rw [List.getElem?_map, List.getElem?_map, List.getElem?_eq_getElem hkp, List.getElem?_eq_getElem hkd] at h3
        simpa using h3
      have hgd := HG.out _ (List.getElem_mem hkd)
      have HTK : Hid (ds.take (k + 1) = ds.take k ++ [ds[k]]) := List.take_succ_eq_append_getElem hkd
      obtain ⟨q, hqe⟩ : ∃ q, q = ps[k] := ⟨_, rfl⟩
      obtain ⟨d, hde⟩ : ∃ d, d = ds[k] := ⟨_, rfl⟩
      rw [← hqe] at z1 z2 hq hqi
      rw [← hde] at hqi hgd HTK
      unfold Part.val at z1 z2
      have z1 := (B0.cell (World.block_lt_of_cell? _ _ z1)).trans z1
      have z2 := (B0.cell (World.block_lt_of_cell? _ _ z2)).trans z2
      clear hcell hqe hde
      obtain ⟨W3, hW3⟩ : ∃ V, V = wr.alloc (.cells #[.slice q.k.ao q.k.n q.k.cap, .slice q.v.ao q.v.n q.v.cap] 101) := ⟨_, rfl⟩
      have C3 : Below wr.heap.size wr W3 := by rw [hW3]; exact (Below.refl _ _).alloc (Nat.le_refl _) _
      have B3 := B0.trans (C3.mono B0.size)
      have sk := hq.1.below B3
      have sv := hq.2.below B3
      have hk1 : q.k.xs = (itm d).k := congrArg It.k hqi
      have hv1 : q.v.xs = (itm d).v := congrArg It.v hqi
      rw [hk1] at sk
      rw [hv1] at sv
      have hkn : q.k.n ≤ 1000000 := by rw [← sk.len]; have := keyL_le hgd.right; show (keyL d.kv).length ≤ _; omega
      have hvn : q.v.n ≤ 1000000 := by rw [← sv.len]; have := itV_len d; have := hgd.val; show (itV d).length ≤ _; omega
      have CE := tcell_any W3 (itm d) q.k.ao q.v.ao q.k.n q.k.cap q.v.n q.v.cap sk sv hkn hvn
      clear hqi hk1 hv1
      go_wp2_with fail
      rw [← hW3]
      refine CE.mono ?_
      rintro e w4 ⟨c, kd, rfl, CA4, ok4, sl4, C4⟩
      obtain ⟨hcd, rfl⟩ := CA4.unique (CellAns.itm hgd)
      have HCD : Hid (c.c = d) := hcd
      have B4 := B3.trans (C4.mono B3.size)
      have R4 := R0.below (C3.trans (C4.mono C3.size))
      unfold CA.val
      clear CE CA4 hcd sk sv hq hW3 z1 z2 hkn hvn
      obtain ⟨W5, hW5⟩ : ∃ V, V = w4.alloc (.cells #[.string c.row, .string c.fam, .string c.qual, .int .u64 c.time, .slice c.va.ao c.va.n c.va.cap, .bool c.gone] 69) := ⟨_, rfl⟩
      have C5 : Below w4.heap.size w4 W5 := by rw [hW5]; exact (Below.refl _ _).alloc (Nat.le_refl _) _
      have A5 : Arr W5 w4.heap.size 69 (#[.string c.row, .string c.fam, .string c.qual, .int .u64 c.time, .slice c.va.ao c.va.n c.va.cap, .bool c.gone]).toList := by rw [hW5]; exact heap_alloc_new w4 _
      have B5 := B4.trans (C5.mono B4.size)
      have R5 := R4.below C5
      have ok5 := ok4.below C5
      have sl5 := sl4.kp (KpB.below C5)
      have CH := HH.out W5 c (B2.trans (B5.mono B2.size)) ok5
      rw [HCD.out] at CH
      clear R4 ok4 sl4 R0
      go_wp2_with fail
      rw [← hW5]
      refine CH.mono ?_
      rintro e w6 ⟨rfl, C6⟩
      have B6 := B5.trans (C6.mono B5.size)
      have R6 := R5.below C6
      have ok6 := ok5.below C6
      have sl6 := sl5.kp (KpB.below C6)
      have A6 := arr_below A5 C6
      clear CH A5 R5 ok5 sl5 C5 C6 hW5
      cases hpr : pr d with
      | false =>
        have HL2 : Hid (l.map CA.c = (ds.take (k + 1)).filter pr) := by
          show _ = _
          rw [HTK.out, List.filter_append, HL.out]
          simp [hpr]
        clear hpr
        go_wp2
        go_roundw
        case rel => exact ⟨k + 1, l, by omega, by go_num, R6, HL2, by omega, B6⟩
        case measure => simp [intOf]; omega
      | true =>
        have HL2 : Hid ((l ++ [c]).map CA.c = (ds.take (k + 1)).filter pr) := by
          show _ = _
          rw [HTK.out, List.filter_append, List.map_append, HL.out, List.map_cons, HCD.out]
          simp [hpr]
        have q0 : w6.cell? ⟨w4.heap.size, 0, none⟩ = some (.string c.row) := A6.cell 0
        have q1 : w6.cell? ⟨w4.heap.size, 1, none⟩ = some (.string c.fam) := A6.cell 1
        have q2 : w6.cell? ⟨w4.heap.size, 2, none⟩ = some (.string c.qual) := A6.cell 2
        have q3 : w6.cell? ⟨w4.heap.size, 3, none⟩ = some (.int .u64 c.time) := A6.cell 3
        have q4 : w6.cell? ⟨w4.heap.size, 4, none⟩ = some (.slice c.va.ao c.va.n c.va.cap) := A6.cell 4
        have q5 : w6.cell? ⟨w4.heap.size, 5, none⟩ = some (.bool c.gone) := A6.cell 5
        have C7 : Below w6.heap.size w6 (w6.alloc (.cells #[.string c.row, .string c.fam, .string c.qual, .int .u64 c.time, .slice c.va.ao c.va.n c.va.cap, .bool c.gone] 69)) := (Below.refl _ _).alloc (Nat.le_refl _) _
        have hb7 : w2.heap.size ≤ (w6.alloc (.cells #[.string c.row, .string c.fam, .string c.qual, .int .u64 c.time, .slice c.va.ao c.va.n c.va.cap, .bool c.gone] 69)).heap.size := Nat.le_trans B6.size C7.size
        have B7 := B6.trans (C7.mono B6.size)
        clear hpr A6
        go_wp2_with (at_builtin; refine wpList_appC rfl (.tmp 54) (.tmp 56) rfl w2.heap.size _ l rfl (R6.below C7) w6.heap.size 1 c rfl (heap_alloc_new w6 _) (ok6.below C7) (sl6.kp (KpB.below C7)) (by omega) hb7 ?_; intro v8 w8 R8 D8; clear q0 q1 q2 q3 q4 q5)
        go_roundw
        case rel => exact ⟨k + 1, l ++ [c], by omega, by go_num, R8, HL2, by rw [List.length_append, List.length_singleton]; omega, B7.trans D8⟩
        case measure => simp [intOf]; omega
    · have hge : ¬ (k : Int) < (il : Int) := by omega
      have HLF : Hid (l.map CA.c = ds.filter pr) := by
        show _ = _
        rw [HL.out, List.take_of_length_le]
        have := congrArg List.length HP.out
        rw [List.length_map, List.length_map] at this
        omega
      have hsz := B2.size
      go_wp2
      go_ret
      exact ⟨_, w2.heap.size, l, rfl, hsz, R0, by rw [HF.out, HLF.out], B2.trans (B0.mono B2.size)⟩
theorem among_any (w : World) (p : Nat) (f t : ByteArray) (cs : List CV) (a b : ByteArray) (g : Nat) (lb : Array Value) (pr : CV → Bool) (eg : ∀ args w, (callFunc g args).run Tryz.prog w = .ok (.enter g args) w)
    (hT : TB w p f t cs) (hs : CSrt cs) (hg : CGood cs) (ha : a.size ≤ 32) (hb : b.size ≤ 32) (hn : cs.length ≤ 1000) (hand : Tells w g lb pr) :
    Calls Tryz.prog 49 #[.pointer (some ⟨p, 0, none⟩), .string a, .string b, .func (.func g) #[] lb] w (AmPost w (cs.filter fun c => inRows a b c.row && pr c)) :=
  (among_row w p f t cs a b g lb pr eg hT hs hg ha hb hn hand).mono fun _ _ h => h.post
end Go.Proofs.YthlpccajnmkbjaaGreatDoor

namespace Go.Proofs.YthlpccajnmkbjaaGreatDoor
open Go.RowKit

set_option maxRecDepth 100000 in
set_option maxHeartbeats 4000000 in
theorem pcolumn_any (w : World) (a b : KA) :
    Calls Tryz.prog 121 #[a.val, b.val] w fun e w' => e = .returned (.bool (a.col b)) ∧ Below w.heap.size w w' := by
  have B : Below w.heap.size w ((w.alloc (Obj.cells #[.string a.row, .string a.fam, .string a.qual, .int .u64 0] 39)).alloc (Obj.cells #[.string b.row, .string b.fam, .string b.qual, .int .u64 0] 39)) := ((Below.refl _ w).alloc (Nat.le_refl _) _).alloc (by simp) _
  unfold KA.val
  by_cases e1 : a.row = b.row
  · have t1 : (a.row.toList == b.row.toList) = true := by rw [e1]; simp
    by_cases e2 : a.fam = b.fam
    · have t2 : (a.fam.toList == b.fam.toList) = true := by rw [e2]; simp
      by_cases e3 : a.qual = b.qual
      · have t3 : (a.qual.toList == b.qual.toList) = true := by rw [e3]; simp
        have hv : Hid (a.col b = true) := decide_eq_true ⟨e1, e2, e3⟩
        clear e1 e2 e3
        go_enter Tryz.func121, Tryz.ntmps121
        go_wp2
        go_ret
        exact ⟨by rw [hv.out] <;> rfl, B⟩
      · have t3 := toL_ne e3
        have hv : Hid (a.col b = false) := decide_eq_false fun h => e3 h.2.2
        clear e1 e2 e3
        go_enter Tryz.func121, Tryz.ntmps121
        go_wp2
        go_ret
        exact ⟨by rw [hv.out] <;> rfl, B⟩
    · have t2 := toL_ne e2
      have hv : Hid (a.col b = false) := decide_eq_false fun h => e2 h.2.1
      clear e1 e2
      go_enter Tryz.func121, Tryz.ntmps121
      go_wp2
      go_ret
      exact ⟨by rw [hv.out] <;> rfl, B⟩
  · have t1 := toL_ne e1
    have hv : Hid (a.col b = false) := decide_eq_false fun h => e1 h.1
    clear e1
    go_enter Tryz.func121, Tryz.ntmps121
    go_wp2
    go_ret
    exact ⟨by rw [hv.out] <;> rfl, B⟩
end Go.Proofs.YthlpccajnmkbjaaGreatDoor

namespace Go.Proofs.YthlpccajnmkbjaaGreatDoor
open Go.RowKit

set_option maxHeartbeats 1000000 in
set_option maxRecDepth 100000 in
theorem col1_tells (w : World) (kb : Nat) (k : KA) (hk : KyC w kb k) : Tells w 120 #[.pointer (some ⟨kb, 0, none⟩)] fun c => c.col k := fun W c hb _ => by
  show Calls Tryz.prog 120 #[.agg #[.string c.row, .string c.fam, .string c.qual, .int .u64 c.time, .slice c.va.ao c.va.n c.va.cap, .bool c.gone], .pointer (some ⟨kb, 0, none⟩)] W _
  obtain ⟨W1, hW1⟩ : ∃ V, V = W.alloc (.cells #[.string c.row, .string c.fam, .string c.qual, .int .u64 c.time, .slice c.va.ao c.va.n c.va.cap, .bool c.gone] 69) := ⟨_, rfl⟩
  have C1 : Below W.heap.size W W1 := by rw [hW1]; exact (Below.refl _ _).alloc (Nat.le_refl _) _
  have kw := (hk.keep hb).keep C1
  have q0 : (W.alloc (.cells #[.string c.row, .string c.fam, .string c.qual, .int .u64 c.time, .slice c.va.ao c.va.n c.va.cap, .bool c.gone] 69)).cell? ⟨kb, 0, none⟩ = some (.string k.row) := by rw [← hW1]; exact kw.c0
  have q1 : (W.alloc (.cells #[.string c.row, .string c.fam, .string c.qual, .int .u64 c.time, .slice c.va.ao c.va.n c.va.cap, .bool c.gone] 69)).cell? ⟨kb, 1, none⟩ = some (.string k.fam) := by rw [← hW1]; exact kw.c1
  have q2 : (W.alloc (.cells #[.string c.row, .string c.fam, .string c.qual, .int .u64 c.time, .slice c.va.ao c.va.n c.va.cap, .bool c.gone] 69)).cell? ⟨kb, 2, none⟩ = some (.string k.qual) := by rw [← hW1]; exact kw.c2
  have q3 : (W.alloc (.cells #[.string c.row, .string c.fam, .string c.qual, .int .u64 c.time, .slice c.va.ao c.va.n c.va.cap, .bool c.gone] 69)).cell? ⟨kb, 3, none⟩ = some (.int .u64 k.time) := by rw [← hW1]; exact kw.c3
  have CP := pcolumn_any W1 c.key k
  unfold KA.val at CP
  go_enter Tryz.func120, Tryz.ntmps120
  go_wp2_with fail
  rw [← hW1]
  refine CP.mono ?_
  rintro e w2 ⟨rfl, C2⟩
  go_wp2
  go_ret
  exact ⟨rfl, C1.trans (C2.mono C1.size)⟩
theorem col_rows (k : KA) (cs : List CV) : (cs.filter fun c => inRows k.row ⟨#[]⟩ c.row && c.col k) = colC k cs := by
  unfold colC
  refine List.filter_congr fun c _ => ?_
  cases h : c.col k with
  | false => rw [Bool.and_false]
  | true =>
    have h1 := (of_decide_eq_true h).1
    rw [Bool.and_true, h1]
    exact decide_eq_true ⟨cmpL_irr _, .inl rfl⟩

set_option maxHeartbeats 1000000 in
set_option maxRecDepth 100000 in
theorem column_row (w : World) (p : Nat) (f t : ByteArray) (cs : List CV) (k : KA) (hT : TB w p f t cs) (hs : CSrt cs) (hg : CGood cs) (hr : k.row.size ≤ 32) (hn : cs.length ≤ 1000) :
    Calls Tryz.prog 76 #[.pointer (some ⟨p, 0, none⟩), k.val] w (AmRow w (colC k cs)) := by
  obtain ⟨W1, hW1⟩ : ∃ V, V = w.alloc (.cells #[.string k.row, .string k.fam, .string k.qual, .int .u64 k.time] 39) := ⟨_, rfl⟩
  have C1 : Below w.heap.size w W1 := by rw [hW1]; exact (Below.refl _ _).alloc (Nat.le_refl _) _
  have K1 : KyC W1 w.heap.size k := by rw [hW1]; exact KyC.new w k
  have CA := among_row W1 p f t cs k.row ⟨#[]⟩ 120 #[.pointer (some ⟨w.heap.size, 0, none⟩)] (fun c => c.col k) (enters_of Tryz.func120 (by kernel_rfl) rfl) (hT.below C1) hs hg hr (by decide) hn (col1_tells W1 _ k K1)
  rw [col_rows] at CA
  unfold KA.val
  go_enter Tryz.func76, Tryz.ntmps76
  go_wp2_with fail
  rw [← hW1]
  refine CA.mono ?_
  rintro e w2 ⟨v, base, l, rfl, hb, h1, h3, C2⟩
  have hs1 := C1.size
  go_wp2
  go_ret
  exact ⟨v, base, l, rfl, Nat.le_trans hs1 hb, h1, h3, C1.trans (C2.mono C1.size)⟩
theorem column_any (w : World) (p : Nat) (f t : ByteArray) (cs : List CV) (k : KA) (hT : TB w p f t cs) (hs : CSrt cs) (hg : CGood cs) (hr : k.row.size ≤ 32) (hn : cs.length ≤ 1000) :
    Calls Tryz.prog 76 #[.pointer (some ⟨p, 0, none⟩), k.val] w (AmPost w (colC k cs)) :=
  (column_row w p f t cs k hT hs hg hr hn).mono fun _ _ h => h.post

/-- Is it the key's cell? -/
def eqK (k : KA) (c : CV) : Bool := decide (c.row = k.row ∧ c.fam = k.fam ∧ c.qual = k.qual ∧ c.time = k.time)

set_option maxHeartbeats 1000000 in
set_option maxRecDepth 100000 in
theorem has1_tells (w : World) (kb : Nat) (k : KA) (hk : KyC w kb k) : Tells w 154 #[.pointer (some ⟨kb, 0, none⟩)] (eqK k) := fun W c hb _ => by
  show Calls Tryz.prog 154 #[.agg #[.string c.row, .string c.fam, .string c.qual, .int .u64 c.time, .slice c.va.ao c.va.n c.va.cap, .bool c.gone], .pointer (some ⟨kb, 0, none⟩)] W _
  have C1 : Below W.heap.size W (W.alloc (.cells #[.string c.row, .string c.fam, .string c.qual, .int .u64 c.time, .slice c.va.ao c.va.n c.va.cap, .bool c.gone] 69)) := (Below.refl _ _).alloc (Nat.le_refl _) _
  have kw := (hk.keep hb).keep C1
  have q0 := kw.c0
  have q1 := kw.c1
  have q2 := kw.c2
  have q3 := kw.c3
  clear kw C1
  by_cases e1 : c.row = k.row
  · have t1 : (c.row.toList == k.row.toList) = true := by rw [e1]; simp
    by_cases e2 : c.fam = k.fam
    · have t2 : (c.fam.toList == k.fam.toList) = true := by rw [e2]; simp
      by_cases e3 : c.qual = k.qual
      · have t3 : (c.qual.toList == k.qual.toList) = true := by rw [e3]; simp
        by_cases e4 : c.time = k.time
        · have t4 : ((c.time : Int) == (k.time : Int)) = true := by simp [e4]
          have hv : Hid (eqK k c.c = true) := decide_eq_true ⟨e1, e2, e3, e4⟩
          clear e1 e2 e3 e4
          go_enter Tryz.func154, Tryz.ntmps154
          go_wp2
          go_ret
          exact ⟨by rw [hv.out] <;> rfl, (Below.refl _ _).alloc (Nat.le_refl _) _⟩
        · have t4 : ((c.time : Int) == (k.time : Int)) = false := by simp; omega
          have hv : Hid (eqK k c.c = false) := decide_eq_false fun h => e4 h.2.2.2
          clear e1 e2 e3 e4
          go_enter Tryz.func154, Tryz.ntmps154
          go_wp2
          go_ret
          exact ⟨by rw [hv.out] <;> rfl, (Below.refl _ _).alloc (Nat.le_refl _) _⟩
      · have t3 := toL_ne e3
        have hv : Hid (eqK k c.c = false) := decide_eq_false fun h => e3 h.2.2.1
        clear e1 e2 e3
        go_enter Tryz.func154, Tryz.ntmps154
        go_wp2
        go_ret
        exact ⟨by rw [hv.out] <;> rfl, (Below.refl _ _).alloc (Nat.le_refl _) _⟩
    · have t2 := toL_ne e2
      have hv : Hid (eqK k c.c = false) := decide_eq_false fun h => e2 h.2.1
      clear e1 e2
      go_enter Tryz.func154, Tryz.ntmps154
      go_wp2
      go_ret
      exact ⟨by rw [hv.out] <;> rfl, (Below.refl _ _).alloc (Nat.le_refl _) _⟩
  · have t1 := toL_ne e1
    have hv : Hid (eqK k c.c = false) := decide_eq_false fun h => e1 h.1
    clear e1
    go_enter Tryz.func154, Tryz.ntmps154
    go_wp2
    go_ret
    exact ⟨by rw [hv.out] <;> rfl, (Below.refl _ _).alloc (Nat.le_refl _) _⟩

/-- Where it is. -/
def IxPost (l : List CV) (pr : CV → Bool) (r : Int) : Prop := (r = -1 ∧ l.any pr = false) ∨ (0 ≤ r ∧ l.any pr = true ∧ ∃ k : Nat, r = k ∧ (l.take k).any pr = false ∧ ∃ h : k < l.length, pr l[k] = true)

set_option maxHeartbeats 2000000 in
set_option maxRecDepth 100000 in
theorem index_any (w : World) (ao : Option Addr) (n cap : Nat) (l : List CA) (g : Nat) (lb : Array Value) (pr : CV → Bool) (eg : ∀ args w, (callFunc g args).run Tryz.prog w = .ok (.enter g args) w) (h : CL w ao n cap l) (hn : n ≤ 1000) (hand : Tells w g lb pr) :
    Calls Tryz.prog 142 #[.slice ao n cap, .func (.func g) #[] lb] w fun e w' => ∃ r, e = .returned (.int .i64 r) ∧ IxPost (l.map CA.c) pr r ∧ Below w.heap.size w w' := by
  have hl1 := Nat.le_of_eq h.len
  have hl2 := Nat.le_of_eq h.len.symm
  have hni : (n : Int) ≤ 1000 := by omega
  have HH : Hid (Tells w g lb pr) := hand
  clear hand
  go_enter Tryz.func142, Tryz.ntmps142
  go_wp2
  go_loopw [8] (fun i wr => ∃ k : Nat, k ≤ n ∧ i = .int .i64 k ∧ Hid (((l.take k).map CA.c).any pr = false) ∧ Below w.heap.size w wr) (fun i _ => n - (intOf i).toNat)
  case atStart => exact ⟨0, Nat.zero_le _, rfl, rfl, Below.refl _ _⟩
  case round =>
    obtain ⟨k, hk, rfl, HA, B0⟩ := hrel
    by_cases hlt : k < n
    · have hki : (k : Int) < (n : Int) := by omega
      have hkl : k < l.length := by omega
      obtain ⟨b, off, rfl, hc⟩ := h.at (by omega)
      have X := (hc k hkl).below B0
      have hok := (h.ok _ (List.getElem_mem hkl)).below B0
      have HTK : Hid (((l.take (k + 1)).map CA.c).any pr = pr l[k].c) := by
        show _ = _
        rw [List.take_succ_eq_append_getElem hkl, List.map_append, List.any_append, HA.out]
        simp
      have HMM : Hid (pr l[k].c = true → (l.map CA.c).any pr = true) := fun hp => List.any_eq_true.2 ⟨_, List.mem_map.2 ⟨_, List.getElem_mem hkl, rfl⟩, hp⟩
      obtain ⟨c, hce⟩ : ∃ c, c = l[k] := ⟨_, rfl⟩
      have HPK : Hid (pr c.c = true → pr l[k].c = true) := fun h => by rw [← hce]; exact h
      rw [← hce] at X hok HTK HMM
      obtain ⟨q0, q1, q2, q3, q4, q5⟩ := X
      have CH := HH.out wr c B0 hok
      clear hc hce
      go_wp2_with fail
      refine CH.mono ?_
      rintro e w2 ⟨rfl, C2⟩
      have B2 := B0.trans (C2.mono B0.size)
      clear CH q0 q1 q2 q3 q4 q5
      cases hp : pr c.c with
      | false =>
        have HA2 : Hid (((l.take (k + 1)).map CA.c).any pr = false) := by show _ = _; rw [HTK.out, hp]
        clear hp
        go_wp2
        go_roundw
        case rel => exact ⟨k + 1, by omega, by go_num, HA2, B2⟩
        case measure => simp [intOf]; omega
      | true =>
        have HA2 := HMM.out hp
        have HA3 : Hid ((l.map CA.c).any pr = true) := HA2
        have HA4 : Hid (((l.map CA.c).take k).any pr = false ∧ ∃ h : k < (l.map CA.c).length, pr (l.map CA.c)[k] = true) := ⟨by rw [← List.map_take]; exact HA.out, by rw [List.length_map]; exact hkl, by rw [List.getElem_map]; exact HPK.out hp⟩
        clear hp HA2
        go_wp2
        go_ret
        exact ⟨(k : Int), rfl, .inr ⟨by omega, HA3.out, k, rfl, HA4.out⟩, B2⟩
    · have hge : ¬ (k : Int) < (n : Int) := by omega
      have HA2 : Hid ((l.map CA.c).any pr = false) := by
        show _ = _
        rw [← HA.out, List.take_of_length_le (by omega)]
      go_wp2
      go_ret
      exact ⟨-1, rfl, .inl ⟨rfl, HA2.out⟩, B0⟩

set_option maxHeartbeats 1000000 in
set_option maxRecDepth 100000 in
theorem contains_any (w : World) (ao : Option Addr) (n cap : Nat) (l : List CA) (g : Nat) (lb : Array Value) (pr : CV → Bool) (eg : ∀ args w, (callFunc g args).run Tryz.prog w = .ok (.enter g args) w) (h : CL w ao n cap l) (hn : n ≤ 1000) (hand : Tells w g lb pr) (bb : Bool) (hb : Hid (bb = (l.map CA.c).any pr)) :
    Calls Tryz.prog 100 #[.slice ao n cap, .func (.func g) #[] lb] w fun e w' => e = .returned (.bool bb) ∧ Below w.heap.size w w' := by
  have CI := index_any w ao n cap l g lb pr eg h hn hand
  go_enter Tryz.func100, Tryz.ntmps100
  go_wp2_with fail
  refine CI.mono ?_
  rintro e w2 ⟨r, rfl, hr, C2⟩
  clear CI
  rcases hr with ⟨rfl, hv⟩ | ⟨h0, hv, -⟩
  · obtain rfl : bb = false := hb.out.trans hv
    go_wp2
    go_ret
    exact ⟨rfl, C2⟩
  · obtain rfl : bb = true := hb.out.trans hv
    go_wp2
    go_ret
    exact ⟨rfl, C2⟩

set_option maxHeartbeats 1000000 in
set_option maxRecDepth 100000 in
theorem has_any (w : World) (ao : Option Addr) (n cap : Nat) (l : List CA) (k : KA) (h : CL w ao n cap l) (hn : n ≤ 1000) (bb : Bool) (hb : Hid (bb = (l.map CA.c).any (eqK k))) :
    Calls Tryz.prog 116 #[.slice ao n cap, k.val] w fun e w' => e = .returned (.bool bb) ∧ Below w.heap.size w w' := by
  obtain ⟨W1, hW1⟩ : ∃ V, V = w.alloc (.cells #[.string k.row, .string k.fam, .string k.qual, .int .u64 k.time] 39) := ⟨_, rfl⟩
  have C1 : Below w.heap.size w W1 := by rw [hW1]; exact (Below.refl _ _).alloc (Nat.le_refl _) _
  have K1 : KyC W1 w.heap.size k := by rw [hW1]; exact KyC.new w k
  have CC := contains_any W1 ao n cap l 154 #[.pointer (some ⟨w.heap.size, 0, none⟩)] (eqK k) (enters_of Tryz.func154 (by kernel_rfl) rfl) (h.below C1) hn (has1_tells W1 _ k K1) bb hb
  unfold KA.val
  go_enter Tryz.func116, Tryz.ntmps116
  go_wp2_with fail
  rw [← hW1]
  refine CC.mono ?_
  rintro e w2 ⟨rfl, C2⟩
  go_wp2
  go_ret
  exact ⟨rfl, C1.trans (C2.mono C1.size)⟩
end Go.Proofs.YthlpccajnmkbjaaGreatDoor

namespace Go.Proofs.YthlpccajnmkbjaaGreatDoor
open Go.RowKit

set_option maxHeartbeats 1000000 in
set_option maxRecDepth 100000 in
theorem chgK_any (w : World) (ao bo : Option Addr) (n cap m c i j : Nat) (vs ys : List Value) (h : VL w ao n cap vs) (hx : VL w bo m c ys) (h1 : ∀ u ∈ vs, u.oneCell' = true) (h2 : ∀ u ∈ ys, u.oneCell' = true) (hij : i ≤ j) (hj : j ≤ n) (hn : n + m ≤ 1000000) :
    Calls Tryz.prog 167 #[.slice ao n cap, .int .i64 i, .int .i64 j, .slice bo m c] w fun e w' =>
      ∃ ro rc, e = .returned (.slice ro (i + m + (n - j)) rc) ∧ VL w' ro (i + m + (n - j)) rc (vs.take i ++ ys ++ vs.drop j) ∧ Below w.heap.size w w' := by
  obtain ⟨i0, hi, hz0, hz1, hz2⟩ := info_parts kinfo
  have hle := h.le
  have F1 : ∀ W, _ := fun W => run_front (P := Tryz.prog) (W := W) (t := 90) (ao := ao) (n := n) (cap := cap) (i := i) (c := i) Tryz.underlying90 (Nat.le_refl _) (by omega) ksize
  have F2 : ∀ W, _ := fun W => run_back (P := Tryz.prog) (W := W) (t := 90) (ao := ao) (n := n) (cap := cap) (j := j) Tryz.underlying90 (by omega) ksize
  go_enter Tryz.func167, Tryz.ntmps167
  go_wp2
  have HS : Hid (∀ V, Below w.heap.size w V → True) := fun _ _ => trivial
  have E0 : Below w.heap.size w w.drew := (Below.refl _ _).drew
  refine wp_region_noPanic ?_
  refine wp_region_held_drew (S := fun V => True) (by kernel_rfl) (HS.out _ E0) (fun H0 => ?_)
  obtain ⟨v0, hv0⟩ : ∃ v, v = w.drew := ⟨_, rfl⟩
  rw [← hv0] at E0 ⊢
  clear hv0
  refine hr_take_w 0 (some 9) (.slice ao n cap) rfl rfl (by kernel_rfl) (by kernel_rfl) (by kernel_rfl) rfl (fun W hW => by go_simp) H0 ?_
  simp only [Act.put, List.setIfInBounds_toArray, List.set_cons_zero, List.set_cons_succ]
  refine hr_take_w 1 (some 10) (.int .i64 i) rfl rfl (by kernel_rfl) (by kernel_rfl) (by kernel_rfl) rfl (fun W hW => by go_simp) H0 ?_
  simp only [Act.put, List.setIfInBounds_toArray, List.set_cons_zero, List.set_cons_succ]
  refine hr_take_w 2 (some 11) (.int .i64 i) rfl rfl (by kernel_rfl) (by kernel_rfl) (by kernel_rfl) rfl (fun W hW => by go_simp) H0 ?_
  simp only [Act.put, List.setIfInBounds_toArray, List.set_cons_zero, List.set_cons_succ]
  refine hr_take_w 3 (some 12) (.slice ao i i) rfl rfl (by kernel_rfl) (by kernel_rfl) (by kernel_rfl) rfl (fun W hW => by simp [execOp, Act.eval, F1]) H0 ?_
  simp only [Act.put, List.setIfInBounds_toArray, List.set_cons_zero, List.set_cons_succ]
  refine hr_take_w 4 (some 13) (.slice bo m c) rfl rfl (by kernel_rfl) (by kernel_rfl) (by kernel_rfl) rfl (fun W hW => by go_simp) H0 ?_
  simp only [Act.put, List.setIfInBounds_toArray, List.set_cons_zero, List.set_cons_succ]
  refine hr_take_w 6 (some 15) (.slice ao n cap) rfl rfl (by kernel_rfl) (by kernel_rfl) (by kernel_rfl) rfl (fun W hW => by go_simp) H0 ?_
  simp only [Act.put, List.setIfInBounds_toArray, List.set_cons_zero, List.set_cons_succ]
  refine hr_take_w 7 (some 16) (.int .i64 j) rfl rfl (by kernel_rfl) (by kernel_rfl) (by kernel_rfl) rfl (fun W hW => by go_simp) H0 ?_
  simp only [Act.put, List.setIfInBounds_toArray, List.set_cons_zero, List.set_cons_succ]
  refine hr_take_w 8 (some 17) (.slice (bk ao cap j) (n - j) (cap - j)) rfl rfl (by kernel_rfl) (by kernel_rfl) (by kernel_rfl) rfl (fun W hW => by simp [execOp, Act.eval, F2]) H0 ?_
  simp only [Act.put, List.setIfInBounds_toArray, List.set_cons_zero, List.set_cons_succ]
  refine hr_ex 5 (some 14) rfl rfl (by kernel_rfl) rfl (R := fun v w' => Apd w' w.heap.size 40 v (i + m) (vs.take i ++ ys) ∧ Below v0.heap.size v0 w') (by obtain ⟨v', w', hr, h3, h4⟩ := run_apd (P := Tryz.prog) (w := v0) (base := v0.heap.size) (t := 90) (ty := 90) Tryz.underlying90 hi hz0 hz1 hz2 rfl (.inl ⟨ao, rfl, (h.below E0).front i i (by omega) (Nat.le_refl _) (by omega)⟩) (Nat.le_refl _) (hx.below E0) h2 (by omega) (by decide); exact ⟨v', w', by simp [execOp, Act.eval, resolve, invoke, builtin, hr], h3.base E0.size, h4⟩) ?_
  rintro v v1 ⟨A1, C0⟩
  have E1 := E0.trans (C0.mono E0.size)
  have H1 := HS.out v1 E1
  refine ⟨H1, ?_⟩
  simp only [Act.put, List.setIfInBounds_toArray, List.set_cons_zero, List.set_cons_succ]
  refine hr_ex 9 (some 18) rfl rfl (by kernel_rfl) rfl (R := fun u w' => Apd w' w.heap.size 40 u (i + m + (n - j)) (vs.take i ++ ys ++ vs.drop j) ∧ Below w.heap.size v1 w') (by obtain ⟨v', w', hr, h3, h4⟩ := run_apd (P := Tryz.prog) (w := v1) (base := w.heap.size) (t := 90) (ty := 90) Tryz.underlying90 hi hz0 hz1 hz2 rfl A1 E1.size ((h.below E1).from j hj) (fun u hu => h1 u (List.mem_of_mem_drop hu)) (by omega) (by decide); exact ⟨v', w', by simp [execOp, Act.eval, resolve, invoke, builtin, hr], h3, h4⟩) ?_
  rintro v v2 ⟨A2, C1⟩
  have E2 := E1.trans C1
  have H2 := HS.out v2 E2
  refine ⟨H2, ?_⟩
  simp only [Act.put, List.setIfInBounds_toArray, List.set_cons_zero, List.set_cons_succ]
  refine hr_take_w 10 (some 8) (v) rfl rfl (by kernel_rfl) (by kernel_rfl) (by kernel_rfl) rfl (fun W hW => by go_simp) H2 ?_
  simp only [Act.put, List.setIfInBounds_toArray, List.set_cons_zero, List.set_cons_succ]
  refine wpAnyH_done (by kernel_rfl) ?_ _
  refine NoPanic.normal ?_
  obtain ⟨ro, rc, rfl, hv⟩ := A2.vl
  go_wp2
  go_ret
  exact ⟨ro, rc, rfl, hv, E2⟩

set_option maxHeartbeats 1000000 in
set_option maxRecDepth 100000 in
theorem chgN_any (w : World) (ao bo : Option Addr) (n cap m c i j : Nat) (vs ys : List Value) (h : VL w ao n cap vs) (hx : VL w bo m c ys) (h1 : ∀ u ∈ vs, u.oneCell' = true) (h2 : ∀ u ∈ ys, u.oneCell' = true) (hij : i ≤ j) (hj : j ≤ n) (hn : n + m ≤ 1000000) :
    Calls Tryz.prog 168 #[.slice ao n cap, .int .i64 i, .int .i64 j, .slice bo m c] w fun e w' =>
      ∃ ro rc, e = .returned (.slice ro (i + m + (n - j)) rc) ∧ VL w' ro (i + m + (n - j)) rc (vs.take i ++ ys ++ vs.drop j) ∧ Below w.heap.size w w' := by
  obtain ⟨i0, hi, hz0, hz1, hz2⟩ := info_parts ninfo
  have hle := h.le
  have F1 : ∀ W, _ := fun W => run_front (P := Tryz.prog) (W := W) (t := 149) (ao := ao) (n := n) (cap := cap) (i := i) (c := i) Tryz.underlying149 (Nat.le_refl _) (by omega) nsize
  have F2 : ∀ W, _ := fun W => run_back (P := Tryz.prog) (W := W) (t := 149) (ao := ao) (n := n) (cap := cap) (j := j) Tryz.underlying149 (by omega) nsize
  go_enter Tryz.func168, Tryz.ntmps168
  go_wp2
  have HS : Hid (∀ V, Below w.heap.size w V → True) := fun _ _ => trivial
  have E0 : Below w.heap.size w w.drew := (Below.refl _ _).drew
  refine wp_region_noPanic ?_
  refine wp_region_held_drew (S := fun V => True) (by kernel_rfl) (HS.out _ E0) (fun H0 => ?_)
  obtain ⟨v0, hv0⟩ : ∃ v, v = w.drew := ⟨_, rfl⟩
  rw [← hv0] at E0 ⊢
  clear hv0
  refine hr_take_w 0 (some 9) (.slice ao n cap) rfl rfl (by kernel_rfl) (by kernel_rfl) (by kernel_rfl) rfl (fun W hW => by go_simp) H0 ?_
  simp only [Act.put, List.setIfInBounds_toArray, List.set_cons_zero, List.set_cons_succ]
  refine hr_take_w 1 (some 10) (.int .i64 i) rfl rfl (by kernel_rfl) (by kernel_rfl) (by kernel_rfl) rfl (fun W hW => by go_simp) H0 ?_
  simp only [Act.put, List.setIfInBounds_toArray, List.set_cons_zero, List.set_cons_succ]
  refine hr_take_w 2 (some 11) (.int .i64 i) rfl rfl (by kernel_rfl) (by kernel_rfl) (by kernel_rfl) rfl (fun W hW => by go_simp) H0 ?_
  simp only [Act.put, List.setIfInBounds_toArray, List.set_cons_zero, List.set_cons_succ]
  refine hr_take_w 3 (some 12) (.slice ao i i) rfl rfl (by kernel_rfl) (by kernel_rfl) (by kernel_rfl) rfl (fun W hW => by simp [execOp, Act.eval, F1]) H0 ?_
  simp only [Act.put, List.setIfInBounds_toArray, List.set_cons_zero, List.set_cons_succ]
  refine hr_take_w 4 (some 13) (.slice bo m c) rfl rfl (by kernel_rfl) (by kernel_rfl) (by kernel_rfl) rfl (fun W hW => by go_simp) H0 ?_
  simp only [Act.put, List.setIfInBounds_toArray, List.set_cons_zero, List.set_cons_succ]
  refine hr_take_w 6 (some 15) (.slice ao n cap) rfl rfl (by kernel_rfl) (by kernel_rfl) (by kernel_rfl) rfl (fun W hW => by go_simp) H0 ?_
  simp only [Act.put, List.setIfInBounds_toArray, List.set_cons_zero, List.set_cons_succ]
  refine hr_take_w 7 (some 16) (.int .i64 j) rfl rfl (by kernel_rfl) (by kernel_rfl) (by kernel_rfl) rfl (fun W hW => by go_simp) H0 ?_
  simp only [Act.put, List.setIfInBounds_toArray, List.set_cons_zero, List.set_cons_succ]
  refine hr_take_w 8 (some 17) (.slice (bk ao cap j) (n - j) (cap - j)) rfl rfl (by kernel_rfl) (by kernel_rfl) (by kernel_rfl) rfl (fun W hW => by simp [execOp, Act.eval, F2]) H0 ?_
  simp only [Act.put, List.setIfInBounds_toArray, List.set_cons_zero, List.set_cons_succ]
  refine hr_ex 5 (some 14) rfl rfl (by kernel_rfl) rfl (R := fun v w' => Apd w' w.heap.size 92 v (i + m) (vs.take i ++ ys) ∧ Below v0.heap.size v0 w') (by obtain ⟨v', w', hr, h3, h4⟩ := run_apd (P := Tryz.prog) (w := v0) (base := v0.heap.size) (t := 149) (ty := 149) Tryz.underlying149 hi hz0 hz1 hz2 rfl (.inl ⟨ao, rfl, (h.below E0).front i i (by omega) (Nat.le_refl _) (by omega)⟩) (Nat.le_refl _) (hx.below E0) h2 (by omega) (by decide); exact ⟨v', w', by simp [execOp, Act.eval, resolve, invoke, builtin, hr], h3.base E0.size, h4⟩) ?_
  rintro v v1 ⟨A1, C0⟩
  have E1 := E0.trans (C0.mono E0.size)
  have H1 := HS.out v1 E1
  refine ⟨H1, ?_⟩
  simp only [Act.put, List.setIfInBounds_toArray, List.set_cons_zero, List.set_cons_succ]
  refine hr_ex 9 (some 18) rfl rfl (by kernel_rfl) rfl (R := fun u w' => Apd w' w.heap.size 92 u (i + m + (n - j)) (vs.take i ++ ys ++ vs.drop j) ∧ Below w.heap.size v1 w') (by obtain ⟨v', w', hr, h3, h4⟩ := run_apd (P := Tryz.prog) (w := v1) (base := w.heap.size) (t := 149) (ty := 149) Tryz.underlying149 hi hz0 hz1 hz2 rfl A1 E1.size ((h.below E1).from j hj) (fun u hu => h1 u (List.mem_of_mem_drop hu)) (by omega) (by decide); exact ⟨v', w', by simp [execOp, Act.eval, resolve, invoke, builtin, hr], h3, h4⟩) ?_
  rintro v v2 ⟨A2, C1⟩
  have E2 := E1.trans C1
  have H2 := HS.out v2 E2
  refine ⟨H2, ?_⟩
  simp only [Act.put, List.setIfInBounds_toArray, List.set_cons_zero, List.set_cons_succ]
  refine hr_take_w 10 (some 8) (v) rfl rfl (by kernel_rfl) (by kernel_rfl) (by kernel_rfl) rfl (fun W hW => by go_simp) H2 ?_
  simp only [Act.put, List.setIfInBounds_toArray, List.set_cons_zero, List.set_cons_succ]
  refine wpAnyH_done (by kernel_rfl) ?_ _
  refine NoPanic.normal ?_
  obtain ⟨ro, rc, rfl, hv⟩ := A2.vl
  go_wp2
  go_ret
  exact ⟨ro, rc, rfl, hv, E2⟩
end Go.Proofs.YthlpccajnmkbjaaGreatDoor

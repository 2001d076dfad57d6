/-
  Texts in one: TbAmong, PCol, TbCol, PChg, PChgW, PCut7, PWithKid, HRegE, PLf, PWithV, PWithK.
-/
import Derived.Test.YtnicnfjickknjaaGreatDoorTabletItemsZ3
import Derived.Test.YtnicnfjickknjaaGreatDoorTabletItemsZ2
import Derived.Test.YtnicnfjickknjaaGreatDoorTabletItemsZ1
namespace Go.Proofs.YtnicnfjickknjaaGreatDoor
open Go.RowKit

/-- A list of cells that the call makes. -/
structure CRow (W : World) (base : Nat) (v : Value) (l : List CA) : Prop where
  row : W.ownsRow base 27 6 v l.length (cellsC l)
  ok : ∀ c ∈ l, c.ok W
  sl : ∀ c ∈ l, SlT W ⟨c.va.ao, c.va.n, c.va.cap, c.va.xs⟩
theorem CRow.nil (W : World) (base : Nat) : CRow W base (.slice none 0 0) [] := ⟨World.ownsRow_nil _ _ _ _, fun _ h => by simp at h, fun _ h => by simp at h⟩
theorem CRow.below {W W' : World} {base : Nat} {v : Value} {l : List CA} (h : CRow W base v l) (hb : Below W.heap.size W W') : CRow W' base v l :=
  ⟨own_below h.row hb, fun c hc => (h.ok c hc).below hb, fun c hc => (h.sl c hc).kp (KpB.below hb)⟩
theorem CRow.cl {W : World} {base : Nat} {v : Value} {l : List CA} (h : CRow W base v l) : ∃ ao cap, v = .slice ao l.length cap ∧ CL W ao l.length cap l := CL.own h.row h.ok
theorem cellsC_snoc (l : List CA) (c : CA) : cellsC (l ++ [c]) = cellsC l ++ c.cells := by simp [cellsC]
/-- append of one cell. -/
theorem wpList_appC {w : World} {ops : Array Oper} {rest : List Oper} {o : Oper} {a : Act} {Q : Exit → Act → World → Prop} (hgd : o.guard = none) (s x : Operand)
    (ho : o.op = .call { callee := .builtin .append, args := #[s, x], argTypes := #[31, 31] })
    (base : Nat) (v : Value) (l : List CA) (hs : a.eval s = v) (hown : CRow w base v l)
    (g cp : Nat) (c : CA) (hx : a.eval x = .slice (some ⟨g, 0, none⟩) 1 cp) (hc : w.heap[g]? = some (.cells #[.string c.row, .string c.fam, .string c.qual, .int .u64 c.time, .slice c.va.ao c.va.n c.va.cap, .bool c.gone] 27)) (hok : c.ok w) (hsl : SlT w ⟨c.va.ao, c.va.n, c.va.cap, c.va.xs⟩) (hn : l.length ≤ 1000000) (hbase : base ≤ w.heap.size)
    (h : ∀ v' w', CRow w' base v' (l ++ [c]) → Below base w w' → wpList Tryz.prog ops Q rest (a.put o.dst v') w') : wpList Tryz.prog ops Q (o :: rest) a w := by
  obtain ⟨i0, hi, hz0, hz1, hz2⟩ := info_parts cellInfo
  refine wpList_append_own w hgd s x 31 ho base 27 i0 _ 6 88 Tryz.underlying31 hi hz0 hz1 hz2 rfl (by decide) v l.length (cellsC l) hs hown.row ⟨g, 0, none⟩ 1 cp c.cells hx rfl
    (fun j u hu => by
      rw [Addr.add_lit, Nat.zero_add, cell_of_row w g j _ _ _ hc]
      simpa [CA.cells] using hu) (c_one c) (by unfold maxLen; omega) (by omega) hbase ?_
  intro v' w' h1 h2 _
  rw [← cellsC_snoc] at h1
  have kp := KpB.row hown.row (by decide) h2
  have okT : ∀ d : CA, d.ok w → SlT w ⟨d.va.ao, d.va.n, d.va.cap, d.va.xs⟩ → d.ok w' := fun d h3 h4 => ⟨h3.row, h3.fam, h3.qual, h3.time, (h4.kp kp).1⟩
  refine h v' w' ⟨by rw [List.length_append]; exact h1, fun d hd => ?_, fun d hd => ?_⟩ ((Below.refl _ w).grown h2 hbase (fun k hk => (hown.row.lt k hk).1))
  · rcases List.mem_append.1 hd with hd | hd
    · exact okT d (hown.ok d hd) (hown.sl d hd)
    · rw [List.mem_singleton.1 hd]; exact okT c hok hsl
  · rcases List.mem_append.1 hd with hd | hd
    · exact (hown.sl d hd).kp kp
    · rw [List.mem_singleton.1 hd]; exact hsl.kp kp
/-- What among answers. -/
def AmPost (w : World) (cs : List CV) (e : Ending) (w' : World) : Prop := ∃ ao n cap l, e = .returned (.slice ao n cap) ∧ CL w' ao n cap l ∧ (∀ c ∈ l, SlT w' ⟨c.va.ao, c.va.n, c.va.cap, c.va.xs⟩) ∧ l.map CA.c = cs ∧ Below w.heap.size w w'
/-- A closure that tells a cell. -/
def Tells (w : World) (g : Nat) (lb : Array Value) (pr : CV → Bool) : Prop := ∀ (W : World) (c : CA), Below w.heap.size w W → c.ok W → Calls Tryz.prog g ((#[.agg #[.string c.row, .string c.fam, .string c.qual, .int .u64 c.time, .slice c.va.ao c.va.n c.va.cap, .bool c.gone]] : Array Value) ++ lb) W fun e W' => e = .returned (.bool (pr c.c)) ∧ Below W.heap.size W W'

set_option maxHeartbeats 4000000 in
set_option maxRecDepth 100000 in
theorem among_any (w : World) (p : Nat) (f t : ByteArray) (cs : List CV) (a b : ByteArray) (g : Nat) (lb : Array Value) (pr : CV → Bool) (eg : ∀ args w, (callFunc g args).run Tryz.prog w = .ok (.enter g args) w)
    (hT : TB w p f t cs) (hs : CSrt cs) (hg : CGood cs) (ha : a.size ≤ 32) (hb : b.size ≤ 32) (hn : cs.length ≤ 1000) (hand : Tells w g lb pr) :
    Calls Tryz.prog 43 #[.pointer (some ⟨p, 0, none⟩), .string a, .string b, .func (.func g) #[] lb] w (AmPost w (cs.filter fun c => inRows a b c.row && pr c)) := by
  have CR := prows_any w a b ha hb
  go_enter Tryz.func43, Tryz.ntmps43
  go_wp2_with fail
  refine CR.mono ?_
  rintro e w1 ⟨lo, ln, lc, ho, hn1, hc, rfl, S1, S2, B1⟩
  have T1 := hT.below B1
  obtain ⟨u, A1, TT1⟩ := T1
  have c2 : w1.cell? ⟨p, 2, none⟩ = some (.pointer u) := Arr.cell A1 2
  have CI := titems_any w1 (.pointer u) (cs.map itm) (nm (sb a)) (hiL (sb b)) lo ho ln lc hn1 hc 9223372036854775807 TT1 hs S1 S2 (by rw [List.length_map]; omega) (fun x hx => by
    obtain ⟨c, hc, rfl⟩ := List.mem_map.1 hx
    have h1 := keyL_le (hg c hc).right
    have h2 := itV_len c
    have h3 := (hg c hc).val
    exact ⟨by show (keyL c.kv).length ≤ _; omega, by show (itV c).length ≤ _; omega⟩)
  clear CR
  go_wp2_with fail
  refine CI.mono ?_
  rintro e w2 ⟨io, il, ic, ps, mt, rfl, I2, hps, -, C2⟩
  have B2 := B1.trans (C2.mono B1.size)
  obtain ⟨ds, hds⟩ : ∃ ds, ds = cs.filter fun c => inRows a b c.row := ⟨_, rfl⟩
  have HP : Hid (ps.map IP.it = ds.map itm) := by
    show _ = _
    rw [hps, btw_rows a b cs hg, ← hds, List.take_of_length_le]
    rw [List.length_map, hds]
    have := List.length_filter_le (fun c => inRows a b c.row) cs
    omega
  have HG : Hid (∀ c ∈ ds, c.good) := fun c hc => by rw [hds] at hc; exact hg c (List.mem_filter.1 hc).1
  have HF : Hid ((cs.filter fun c => inRows a b c.row && pr c) = ds.filter pr) := by
    show _ = _
    rw [hds, List.filter_filter]
    congr 1
    funext c
    exact Bool.and_comm _ _
  have hil : il ≤ 1000 := by
    have h1 := congrArg List.length HP.out
    rw [List.length_map, List.length_map, I2.len, hds] at h1
    have := List.length_filter_le (fun c => inRows a b c.row) cs
    omega
  have hili : (il : Int) ≤ 1000 := by omega
  have hl1 := Nat.le_of_eq I2.len
  have hl2 := Nat.le_of_eq I2.len.symm
  have HH : Hid (Tells w g lb pr) := hand
  clear CI hps hds c2 A1 TT1 S1 S2 hT hs hg hn hand C2 B1
  go_wp2
  go_loopw [14, 38] (fun v i wr => ∃ (k : Nat) (l : List CA), k ≤ il ∧ i = .int .i64 k ∧ CRow wr w2.heap.size v l ∧ Hid (l.map CA.c = (ds.take k).filter pr) ∧ l.length ≤ k ∧ Below w2.heap.size w2 wr) (fun _ i _ => il - (intOf i).toNat)
  case atStart => exact ⟨0, [], Nat.zero_le _, rfl, CRow.nil _ _, rfl, Nat.le_refl _, Below.refl _ _⟩
  case round =>
    obtain ⟨k, l, hk, rfl, R0, HL, hlk, B0⟩ := hrel
    by_cases hlt : k < il
    · have hki : (k : Int) < (il : Int) := by omega
      have hkp : k < ps.length := by omega
      have hkd : k < ds.length := by have := congrArg List.length HP.out; rw [List.length_map, List.length_map] at this; omega
      obtain ⟨ib, io', hio, hcell⟩ := I2.at (by omega)
      subst hio
      obtain ⟨z1, z2⟩ := hcell k hkp
      have hq := I2.sl _ (List.getElem_mem hkp)
      have hqi : ps[k].it = itm ds[k] := by
        have h3 : (ps.map IP.it)[k]? = (ds.map itm)[k]? := by rw [HP.out]
        rw [List.getElem?_map, List.getElem?_map, List.getElem?_eq_getElem hkp, List.getElem?_eq_getElem hkd] at h3
        simpa using h3
      have hgd := HG.out _ (List.getElem_mem hkd)
      have HTK : Hid (ds.take (k + 1) = ds.take k ++ [ds[k]]) := List.take_succ_eq_append_getElem hkd
      obtain ⟨q, hqe⟩ : ∃ q, q = ps[k] := ⟨_, rfl⟩
      obtain ⟨d, hde⟩ : ∃ d, d = ds[k] := ⟨_, rfl⟩
      rw [← hqe] at z1 z2 hq hqi
      rw [← hde] at hqi hgd HTK
      unfold Part.val at z1 z2
      have z1 := (B0.cell (World.block_lt_of_cell? _ _ z1)).trans z1
      have z2 := (B0.cell (World.block_lt_of_cell? _ _ z2)).trans z2
      clear hcell hqe hde
      obtain ⟨W3, hW3⟩ : ∃ V, V = wr.alloc (.cells #[.slice q.k.ao q.k.n q.k.cap, .slice q.v.ao q.v.n q.v.cap] 29) := ⟨_, rfl⟩
      have C3 : Below wr.heap.size wr W3 := by rw [hW3]; exact (Below.refl _ _).alloc (Nat.le_refl _) _
      have B3 := B0.trans (C3.mono B0.size)
      have sk := hq.1.below B3
      have sv := hq.2.below B3
      have hk1 : q.k.xs = (itm d).k := congrArg It.k hqi
      have hv1 : q.v.xs = (itm d).v := congrArg It.v hqi
      rw [hk1] at sk
      rw [hv1] at sv
      have hkn : q.k.n ≤ 1000000 := by rw [← sk.len]; have := keyL_le hgd.right; show (keyL d.kv).length ≤ _; omega
      have hvn : q.v.n ≤ 1000000 := by rw [← sv.len]; have := itV_len d; have := hgd.val; show (itV d).length ≤ _; omega
      have CE := tcell_any W3 (itm d) q.k.ao q.v.ao q.k.n q.k.cap q.v.n q.v.cap sk sv hkn hvn
      clear hqi hk1 hv1
      go_wp2_with fail
      rw [← hW3]
      refine CE.mono ?_
      rintro e w4 ⟨c, kd, rfl, CA4, ok4, sl4, C4⟩
      obtain ⟨hcd, rfl⟩ := CA4.unique (CellAns.itm hgd)
      have HCD : Hid (c.c = d) := hcd
      have B4 := B3.trans (C4.mono B3.size)
      have R4 := R0.below (C3.trans (C4.mono C3.size))
      unfold CA.val
      clear CE CA4 hcd sk sv hq hW3 z1 z2 hkn hvn
      obtain ⟨W5, hW5⟩ : ∃ V, V = w4.alloc (.cells #[.string c.row, .string c.fam, .string c.qual, .int .u64 c.time, .slice c.va.ao c.va.n c.va.cap, .bool c.gone] 27) := ⟨_, rfl⟩
      have C5 : Below w4.heap.size w4 W5 := by rw [hW5]; exact (Below.refl _ _).alloc (Nat.le_refl _) _
      have A5 : Arr W5 w4.heap.size 27 (#[.string c.row, .string c.fam, .string c.qual, .int .u64 c.time, .slice c.va.ao c.va.n c.va.cap, .bool c.gone]).toList := by rw [hW5]; exact heap_alloc_new w4 _
      have B5 := B4.trans (C5.mono B4.size)
      have R5 := R4.below C5
      have ok5 := ok4.below C5
      have sl5 := sl4.kp (KpB.below C5)
      have CH := HH.out W5 c (B2.trans (B5.mono B2.size)) ok5
      rw [HCD.out] at CH
      clear R4 ok4 sl4 R0
      go_wp2_with fail
      rw [← hW5]
      refine CH.mono ?_
      rintro e w6 ⟨rfl, C6⟩
      have B6 := B5.trans (C6.mono B5.size)
      have R6 := R5.below C6
      have ok6 := ok5.below C6
      have sl6 := sl5.kp (KpB.below C6)
      have A6 := arr_below A5 C6
      clear CH A5 R5 ok5 sl5 C5 C6 hW5
      cases hpr : pr d with
      | false =>
        have HL2 : Hid (l.map CA.c = (ds.take (k + 1)).filter pr) := by
          show _ = _
          rw [HTK.out, List.filter_append, HL.out]
          simp [hpr]
        clear hpr
        go_wp2
        go_roundw
        case rel => exact ⟨k + 1, l, by omega, by go_num, R6, HL2, by omega, B6⟩
        case measure => simp [intOf]; omega
      | true =>
        have HL2 : Hid ((l ++ [c]).map CA.c = (ds.take (k + 1)).filter pr) := by
          show _ = _
          rw [HTK.out, List.filter_append, List.map_append, HL.out, List.map_cons, HCD.out]
          simp [hpr]
        have q0 : w6.cell? ⟨w4.heap.size, 0, none⟩ = some (.string c.row) := A6.cell 0
        have q1 : w6.cell? ⟨w4.heap.size, 1, none⟩ = some (.string c.fam) := A6.cell 1
        have q2 : w6.cell? ⟨w4.heap.size, 2, none⟩ = some (.string c.qual) := A6.cell 2
        have q3 : w6.cell? ⟨w4.heap.size, 3, none⟩ = some (.int .u64 c.time) := A6.cell 3
        have q4 : w6.cell? ⟨w4.heap.size, 4, none⟩ = some (.slice c.va.ao c.va.n c.va.cap) := A6.cell 4
        have q5 : w6.cell? ⟨w4.heap.size, 5, none⟩ = some (.bool c.gone) := A6.cell 5
        have C7 : Below w6.heap.size w6 (w6.alloc (.cells #[.string c.row, .string c.fam, .string c.qual, .int .u64 c.time, .slice c.va.ao c.va.n c.va.cap, .bool c.gone] 27)) := (Below.refl _ _).alloc (Nat.le_refl _) _
        have hb7 : w2.heap.size ≤ (w6.alloc (.cells #[.string c.row, .string c.fam, .string c.qual, .int .u64 c.time, .slice c.va.ao c.va.n c.va.cap, .bool c.gone] 27)).heap.size := Nat.le_trans B6.size C7.size
        have B7 := B6.trans (C7.mono B6.size)
        clear hpr A6
        go_wp2_with (at_builtin; refine wpList_appC rfl (.tmp 54) (.tmp 56) rfl w2.heap.size _ l rfl (R6.below C7) w6.heap.size 1 c rfl (heap_alloc_new w6 _) (ok6.below C7) (sl6.kp (KpB.below C7)) (by omega) hb7 ?_; intro v8 w8 R8 D8; clear q0 q1 q2 q3 q4 q5)
        go_roundw
        case rel => exact ⟨k + 1, l ++ [c], by omega, by go_num, R8, HL2, by rw [List.length_append, List.length_singleton]; omega, B7.trans D8⟩
        case measure => simp [intOf]; omega
    · have hge : ¬ (k : Int) < (il : Int) := by omega
      have HLF : Hid (l.map CA.c = ds.filter pr) := by
        show _ = _
        rw [HL.out, List.take_of_length_le]
        have := congrArg List.length HP.out
        rw [List.length_map, List.length_map] at this
        omega
      have hsl := R0.sl
      obtain ⟨ao, cap, rfl, hcl⟩ := R0.cl
      obtain ⟨ln2, hln⟩ : ∃ n, n = l.length := ⟨_, rfl⟩
      rw [← hln] at hcl ⊢
      clear hln R0
      go_wp2
      go_ret
      exact ⟨ao, ln2, cap, l, rfl, hcl, hsl, by rw [HF.out, HLF.out], B2.trans (B0.mono B2.size)⟩
end Go.Proofs.YtnicnfjickknjaaGreatDoor

namespace Go.Proofs.YtnicnfjickknjaaGreatDoor
open Go.RowKit

set_option maxRecDepth 100000 in
set_option maxHeartbeats 4000000 in
theorem pcolumn_any (w : World) (a b : KA) :
    Calls Tryz.prog 90 #[a.val, b.val] w fun e w' => e = .returned (.bool (a.col b)) ∧ Below w.heap.size w w' := by
  have B : Below w.heap.size w ((w.alloc (Obj.cells #[.string a.row, .string a.fam, .string a.qual, .int .u64 0] 24)).alloc (Obj.cells #[.string b.row, .string b.fam, .string b.qual, .int .u64 0] 24)) := ((Below.refl _ w).alloc (Nat.le_refl _) _).alloc (by simp) _
  unfold KA.val
  by_cases e1 : a.row = b.row
  · have t1 : (a.row.toList == b.row.toList) = true := by rw [e1]; simp
    by_cases e2 : a.fam = b.fam
    · have t2 : (a.fam.toList == b.fam.toList) = true := by rw [e2]; simp
      by_cases e3 : a.qual = b.qual
      · have t3 : (a.qual.toList == b.qual.toList) = true := by rw [e3]; simp
        have hv : Hid (a.col b = true) := decide_eq_true ⟨e1, e2, e3⟩
        clear e1 e2 e3
        go_enter Tryz.func90, Tryz.ntmps90
        go_wp2
        go_ret
        exact ⟨by rw [hv.out] <;> rfl, B⟩
      · have t3 := toL_ne e3
        have hv : Hid (a.col b = false) := decide_eq_false fun h => e3 h.2.2
        clear e1 e2 e3
        go_enter Tryz.func90, Tryz.ntmps90
        go_wp2
        go_ret
        exact ⟨by rw [hv.out] <;> rfl, B⟩
    · have t2 := toL_ne e2
      have hv : Hid (a.col b = false) := decide_eq_false fun h => e2 h.2.1
      clear e1 e2
      go_enter Tryz.func90, Tryz.ntmps90
      go_wp2
      go_ret
      exact ⟨by rw [hv.out] <;> rfl, B⟩
  · have t1 := toL_ne e1
    have hv : Hid (a.col b = false) := decide_eq_false fun h => e1 h.1
    clear e1
    go_enter Tryz.func90, Tryz.ntmps90
    go_wp2
    go_ret
    exact ⟨by rw [hv.out] <;> rfl, B⟩
end Go.Proofs.YtnicnfjickknjaaGreatDoor

namespace Go.Proofs.YtnicnfjickknjaaGreatDoor
open Go.RowKit

set_option maxHeartbeats 1000000 in
set_option maxRecDepth 100000 in
theorem col1_tells (w : World) (kb : Nat) (k : KA) (hk : KyC w kb k) : Tells w 89 #[.pointer (some ⟨kb, 0, none⟩)] fun c => c.col k := fun W c hb _ => by
  show Calls Tryz.prog 89 #[.agg #[.string c.row, .string c.fam, .string c.qual, .int .u64 c.time, .slice c.va.ao c.va.n c.va.cap, .bool c.gone], .pointer (some ⟨kb, 0, none⟩)] W _
  obtain ⟨W1, hW1⟩ : ∃ V, V = W.alloc (.cells #[.string c.row, .string c.fam, .string c.qual, .int .u64 c.time, .slice c.va.ao c.va.n c.va.cap, .bool c.gone] 27) := ⟨_, rfl⟩
  have C1 : Below W.heap.size W W1 := by rw [hW1]; exact (Below.refl _ _).alloc (Nat.le_refl _) _
  have kw := (hk.keep hb).keep C1
  have q0 : (W.alloc (.cells #[.string c.row, .string c.fam, .string c.qual, .int .u64 c.time, .slice c.va.ao c.va.n c.va.cap, .bool c.gone] 27)).cell? ⟨kb, 0, none⟩ = some (.string k.row) := by rw [← hW1]; exact kw.c0
  have q1 : (W.alloc (.cells #[.string c.row, .string c.fam, .string c.qual, .int .u64 c.time, .slice c.va.ao c.va.n c.va.cap, .bool c.gone] 27)).cell? ⟨kb, 1, none⟩ = some (.string k.fam) := by rw [← hW1]; exact kw.c1
  have q2 : (W.alloc (.cells #[.string c.row, .string c.fam, .string c.qual, .int .u64 c.time, .slice c.va.ao c.va.n c.va.cap, .bool c.gone] 27)).cell? ⟨kb, 2, none⟩ = some (.string k.qual) := by rw [← hW1]; exact kw.c2
  have q3 : (W.alloc (.cells #[.string c.row, .string c.fam, .string c.qual, .int .u64 c.time, .slice c.va.ao c.va.n c.va.cap, .bool c.gone] 27)).cell? ⟨kb, 3, none⟩ = some (.int .u64 k.time) := by rw [← hW1]; exact kw.c3
  have CP := pcolumn_any W1 c.key k
  unfold KA.val at CP
  go_enter Tryz.func89, Tryz.ntmps89
  go_wp2_with fail
  rw [← hW1]
  refine CP.mono ?_
  rintro e w2 ⟨rfl, C2⟩
  go_wp2
  go_ret
  exact ⟨rfl, C1.trans (C2.mono C1.size)⟩
theorem col_rows (k : KA) (cs : List CV) : (cs.filter fun c => inRows k.row ⟨#[]⟩ c.row && c.col k) = colC k cs := by
  unfold colC
  refine List.filter_congr fun c _ => ?_
  cases h : c.col k with
  | false => rw [Bool.and_false]
  | true =>
    have h1 := (of_decide_eq_true h).1
    rw [Bool.and_true, h1]
    exact decide_eq_true ⟨cmpL_irr _, .inl rfl⟩

set_option maxHeartbeats 1000000 in
set_option maxRecDepth 100000 in
theorem column_any (w : World) (p : Nat) (f t : ByteArray) (cs : List CV) (k : KA) (hT : TB w p f t cs) (hs : CSrt cs) (hg : CGood cs) (hr : k.row.size ≤ 32) (hn : cs.length ≤ 1000) :
    Calls Tryz.prog 66 #[.pointer (some ⟨p, 0, none⟩), k.val] w (AmPost w (colC k cs)) := by
  obtain ⟨W1, hW1⟩ : ∃ V, V = w.alloc (.cells #[.string k.row, .string k.fam, .string k.qual, .int .u64 k.time] 24) := ⟨_, rfl⟩
  have C1 : Below w.heap.size w W1 := by rw [hW1]; exact (Below.refl _ _).alloc (Nat.le_refl _) _
  have K1 : KyC W1 w.heap.size k := by rw [hW1]; exact KyC.new w k
  have CA := among_any W1 p f t cs k.row ⟨#[]⟩ 89 #[.pointer (some ⟨w.heap.size, 0, none⟩)] (fun c => c.col k) (enters_of Tryz.func89 (by kernel_rfl) rfl) (hT.below C1) hs hg hr (by decide) hn (col1_tells W1 _ k K1)
  rw [col_rows] at CA
  unfold KA.val
  go_enter Tryz.func66, Tryz.ntmps66
  go_wp2_with fail
  rw [← hW1]
  refine CA.mono ?_
  rintro e w2 ⟨ao, n, cap, l, rfl, h1, h2, h3, C2⟩
  go_wp2
  go_ret
  exact ⟨ao, n, cap, l, rfl, h1, h2, h3, C1.trans (C2.mono C1.size)⟩

/-- Is it the key's cell? -/
def eqK (k : KA) (c : CV) : Bool := decide (c.row = k.row ∧ c.fam = k.fam ∧ c.qual = k.qual ∧ c.time = k.time)

set_option maxHeartbeats 1000000 in
set_option maxRecDepth 100000 in
theorem has1_tells (w : World) (kb : Nat) (k : KA) (hk : KyC w kb k) : Tells w 109 #[.pointer (some ⟨kb, 0, none⟩)] (eqK k) := fun W c hb _ => by
  show Calls Tryz.prog 109 #[.agg #[.string c.row, .string c.fam, .string c.qual, .int .u64 c.time, .slice c.va.ao c.va.n c.va.cap, .bool c.gone], .pointer (some ⟨kb, 0, none⟩)] W _
  have C1 : Below W.heap.size W (W.alloc (.cells #[.string c.row, .string c.fam, .string c.qual, .int .u64 c.time, .slice c.va.ao c.va.n c.va.cap, .bool c.gone] 27)) := (Below.refl _ _).alloc (Nat.le_refl _) _
  have kw := (hk.keep hb).keep C1
  have q0 := kw.c0
  have q1 := kw.c1
  have q2 := kw.c2
  have q3 := kw.c3
  clear kw C1
  by_cases e1 : c.row = k.row
  · have t1 : (c.row.toList == k.row.toList) = true := by rw [e1]; simp
    by_cases e2 : c.fam = k.fam
    · have t2 : (c.fam.toList == k.fam.toList) = true := by rw [e2]; simp
      by_cases e3 : c.qual = k.qual
      · have t3 : (c.qual.toList == k.qual.toList) = true := by rw [e3]; simp
        by_cases e4 : c.time = k.time
        · have t4 : ((c.time : Int) == (k.time : Int)) = true := by simp [e4]
          have hv : Hid (eqK k c.c = true) := decide_eq_true ⟨e1, e2, e3, e4⟩
          clear e1 e2 e3 e4
          go_enter Tryz.func109, Tryz.ntmps109
          go_wp2
          go_ret
          exact ⟨by rw [hv.out] <;> rfl, (Below.refl _ _).alloc (Nat.le_refl _) _⟩
        · have t4 : ((c.time : Int) == (k.time : Int)) = false := by simp; omega
          have hv : Hid (eqK k c.c = false) := decide_eq_false fun h => e4 h.2.2.2
          clear e1 e2 e3 e4
          go_enter Tryz.func109, Tryz.ntmps109
          go_wp2
          go_ret
          exact ⟨by rw [hv.out] <;> rfl, (Below.refl _ _).alloc (Nat.le_refl _) _⟩
      · have t3 := toL_ne e3
        have hv : Hid (eqK k c.c = false) := decide_eq_false fun h => e3 h.2.2.1
        clear e1 e2 e3
        go_enter Tryz.func109, Tryz.ntmps109
        go_wp2
        go_ret
        exact ⟨by rw [hv.out] <;> rfl, (Below.refl _ _).alloc (Nat.le_refl _) _⟩
    · have t2 := toL_ne e2
      have hv : Hid (eqK k c.c = false) := decide_eq_false fun h => e2 h.2.1
      clear e1 e2
      go_enter Tryz.func109, Tryz.ntmps109
      go_wp2
      go_ret
      exact ⟨by rw [hv.out] <;> rfl, (Below.refl _ _).alloc (Nat.le_refl _) _⟩
  · have t1 := toL_ne e1
    have hv : Hid (eqK k c.c = false) := decide_eq_false fun h => e1 h.1
    clear e1
    go_enter Tryz.func109, Tryz.ntmps109
    go_wp2
    go_ret
    exact ⟨by rw [hv.out] <;> rfl, (Below.refl _ _).alloc (Nat.le_refl _) _⟩

/-- Where it is. -/
def IxPost (l : List CV) (pr : CV → Bool) (r : Int) : Prop := (r = -1 ∧ l.any pr = false) ∨ (0 ≤ r ∧ l.any pr = true)

set_option maxHeartbeats 2000000 in
set_option maxRecDepth 100000 in
theorem index_any (w : World) (ao : Option Addr) (n cap : Nat) (l : List CA) (g : Nat) (lb : Array Value) (pr : CV → Bool) (eg : ∀ args w, (callFunc g args).run Tryz.prog w = .ok (.enter g args) w) (h : CL w ao n cap l) (hn : n ≤ 1000) (hand : Tells w g lb pr) :
    Calls Tryz.prog 112 #[.slice ao n cap, .func (.func g) #[] lb] w fun e w' => ∃ r, e = .returned (.int .i64 r) ∧ IxPost (l.map CA.c) pr r ∧ Below w.heap.size w w' := by
  have hl1 := Nat.le_of_eq h.len
  have hl2 := Nat.le_of_eq h.len.symm
  have hni : (n : Int) ≤ 1000 := by omega
  have HH : Hid (Tells w g lb pr) := hand
  clear hand
  go_enter Tryz.func112, Tryz.ntmps112
  go_wp2
  go_loopw [8] (fun i wr => ∃ k : Nat, k ≤ n ∧ i = .int .i64 k ∧ Hid (((l.take k).map CA.c).any pr = false) ∧ Below w.heap.size w wr) (fun i _ => n - (intOf i).toNat)
  case atStart => exact ⟨0, Nat.zero_le _, rfl, rfl, Below.refl _ _⟩
  case round =>
    obtain ⟨k, hk, rfl, HA, B0⟩ := hrel
    by_cases hlt : k < n
    · have hki : (k : Int) < (n : Int) := by omega
      have hkl : k < l.length := by omega
      obtain ⟨b, off, rfl, hc⟩ := h.at (by omega)
      have X := (hc k hkl).below B0
      have hok := (h.ok _ (List.getElem_mem hkl)).below B0
      have HTK : Hid (((l.take (k + 1)).map CA.c).any pr = pr l[k].c) := by
        show _ = _
        rw [List.take_succ_eq_append_getElem hkl, List.map_append, List.any_append, HA.out]
        simp
      have HMM : Hid (pr l[k].c = true → (l.map CA.c).any pr = true) := fun hp => List.any_eq_true.2 ⟨_, List.mem_map.2 ⟨_, List.getElem_mem hkl, rfl⟩, hp⟩
      obtain ⟨c, hce⟩ : ∃ c, c = l[k] := ⟨_, rfl⟩
      rw [← hce] at X hok HTK HMM
      obtain ⟨q0, q1, q2, q3, q4, q5⟩ := X
      have CH := HH.out wr c B0 hok
      clear hc hce
      go_wp2_with fail
      refine CH.mono ?_
      rintro e w2 ⟨rfl, C2⟩
      have B2 := B0.trans (C2.mono B0.size)
      clear CH q0 q1 q2 q3 q4 q5
      cases hp : pr c.c with
      | false =>
        have HA2 : Hid (((l.take (k + 1)).map CA.c).any pr = false) := by show _ = _; rw [HTK.out, hp]
        clear hp
        go_wp2
        go_roundw
        case rel => exact ⟨k + 1, by omega, by go_num, HA2, B2⟩
        case measure => simp [intOf]; omega
      | true =>
        have HA2 := HMM.out hp
        have HA3 : Hid ((l.map CA.c).any pr = true) := HA2
        clear hp HA2
        go_wp2
        go_ret
        exact ⟨(k : Int), rfl, .inr ⟨by omega, HA3.out⟩, B2⟩
    · have hge : ¬ (k : Int) < (n : Int) := by omega
      have HA2 : Hid ((l.map CA.c).any pr = false) := by
        show _ = _
        rw [← HA.out, List.take_of_length_le (by omega)]
      go_wp2
      go_ret
      exact ⟨-1, rfl, .inl ⟨rfl, HA2.out⟩, B0⟩

set_option maxHeartbeats 1000000 in
set_option maxRecDepth 100000 in
theorem contains_any (w : World) (ao : Option Addr) (n cap : Nat) (l : List CA) (g : Nat) (lb : Array Value) (pr : CV → Bool) (eg : ∀ args w, (callFunc g args).run Tryz.prog w = .ok (.enter g args) w) (h : CL w ao n cap l) (hn : n ≤ 1000) (hand : Tells w g lb pr) (bb : Bool) (hb : Hid (bb = (l.map CA.c).any pr)) :
    Calls Tryz.prog 108 #[.slice ao n cap, .func (.func g) #[] lb] w fun e w' => e = .returned (.bool bb) ∧ Below w.heap.size w w' := by
  have CI := index_any w ao n cap l g lb pr eg h hn hand
  go_enter Tryz.func108, Tryz.ntmps108
  go_wp2_with fail
  refine CI.mono ?_
  rintro e w2 ⟨r, rfl, hr, C2⟩
  clear CI
  rcases hr with ⟨rfl, hv⟩ | ⟨h0, hv⟩
  · obtain rfl : bb = false := hb.out.trans hv
    go_wp2
    go_ret
    exact ⟨rfl, C2⟩
  · obtain rfl : bb = true := hb.out.trans hv
    go_wp2
    go_ret
    exact ⟨rfl, C2⟩

set_option maxHeartbeats 1000000 in
set_option maxRecDepth 100000 in
theorem has_any (w : World) (ao : Option Addr) (n cap : Nat) (l : List CA) (k : KA) (h : CL w ao n cap l) (hn : n ≤ 1000) (bb : Bool) (hb : Hid (bb = (l.map CA.c).any (eqK k))) :
    Calls Tryz.prog 84 #[.slice ao n cap, k.val] w fun e w' => e = .returned (.bool bb) ∧ Below w.heap.size w w' := by
  obtain ⟨W1, hW1⟩ : ∃ V, V = w.alloc (.cells #[.string k.row, .string k.fam, .string k.qual, .int .u64 k.time] 24) := ⟨_, rfl⟩
  have C1 : Below w.heap.size w W1 := by rw [hW1]; exact (Below.refl _ _).alloc (Nat.le_refl _) _
  have K1 : KyC W1 w.heap.size k := by rw [hW1]; exact KyC.new w k
  have CC := contains_any W1 ao n cap l 109 #[.pointer (some ⟨w.heap.size, 0, none⟩)] (eqK k) (enters_of Tryz.func109 (by kernel_rfl) rfl) (h.below C1) hn (has1_tells W1 _ k K1) bb hb
  unfold KA.val
  go_enter Tryz.func84, Tryz.ntmps84
  go_wp2_with fail
  rw [← hW1]
  refine CC.mono ?_
  rintro e w2 ⟨rfl, C2⟩
  go_wp2
  go_ret
  exact ⟨rfl, C1.trans (C2.mono C1.size)⟩
end Go.Proofs.YtnicnfjickknjaaGreatDoor

namespace Go.Proofs.YtnicnfjickknjaaGreatDoor
open Go.RowKit

theorem kinfo : (Tryz.prog.info? 25).map (fun i => (i.zero, i.size, i.bytes)) = some (some (.slice none 0 0), 1, 24) := by kernel_rfl
theorem ninfo : (Tryz.prog.info? 85).map (fun i => (i.zero, i.size, i.bytes)) = some (some (.pointer none), 1, 8) := by kernel_rfl
theorem Apd.base {w : World} {b b' : Nat} {e : TypeId} {v : Value} {n : Nat} {vs : List Value} (h : Apd w b e v n vs) (hb : b' ≤ b) : Apd w b' e v n vs := by
  rcases h with h | h
  · exact .inl h
  · exact .inr (own_base h hb)
theorem ksize (w : World) : (sizeOf 25).run Tryz.prog w = .ok 1 w := size1 _ (by kernel_rfl) w
theorem nsize (w : World) : (sizeOf 85).run Tryz.prog w = .ok 1 w := size1 _ (by kernel_rfl) w

end Go.Proofs.YtnicnfjickknjaaGreatDoor

namespace Go.Proofs.YtnicnfjickknjaaGreatDoor
open Go.RowKit

set_option maxHeartbeats 1000000 in
set_option maxRecDepth 100000 in
theorem chgK_any (w : World) (ao bo : Option Addr) (n cap m c i j : Nat) (vs ys : List Value) (h : VL w ao n cap vs) (hx : VL w bo m c ys) (h1 : ∀ u ∈ vs, u.oneCell' = true) (h2 : ∀ u ∈ ys, u.oneCell' = true) (hij : i ≤ j) (hj : j ≤ n) (hn : n + m ≤ 1000000) :
    Calls Tryz.prog 134 #[.slice ao n cap, .int .i64 i, .int .i64 j, .slice bo m c] w fun e w' =>
      ∃ ro rc, e = .returned (.slice ro (i + m + (n - j)) rc) ∧ VL w' ro (i + m + (n - j)) rc (vs.take i ++ ys ++ vs.drop j) ∧ Below w.heap.size w w' := by
  obtain ⟨i0, hi, hz0, hz1, hz2⟩ := info_parts kinfo
  have hle := h.le
  have F1 : ∀ W, _ := fun W => run_front (P := Tryz.prog) (W := W) (t := 81) (ao := ao) (n := n) (cap := cap) (i := i) (c := i) Tryz.underlying81 (Nat.le_refl _) (by omega) ksize
  have F2 : ∀ W, _ := fun W => run_back (P := Tryz.prog) (W := W) (t := 81) (ao := ao) (n := n) (cap := cap) (j := j) Tryz.underlying81 (by omega) ksize
  go_enter Tryz.func134, Tryz.ntmps134
  go_wp2
  have HS : Hid (∀ V, Below w.heap.size w V → True) := fun _ _ => trivial
  have E0 : Below w.heap.size w w.drew := (Below.refl _ _).drew
  refine wp_region_noPanic ?_
  refine wp_region_held_drew (S := fun V => True) (by kernel_rfl) (HS.out _ E0) (fun H0 => ?_)
  obtain ⟨v0, hv0⟩ : ∃ v, v = w.drew := ⟨_, rfl⟩
  rw [← hv0] at E0 ⊢
  clear hv0
  refine hr_take_w 0 (some 9) (.slice ao n cap) rfl rfl (by kernel_rfl) (by kernel_rfl) (by kernel_rfl) rfl (fun W hW => by go_simp) H0 ?_
  simp only [Act.put, List.setIfInBounds_toArray, List.set_cons_zero, List.set_cons_succ]
  refine hr_take_w 1 (some 10) (.int .i64 i) rfl rfl (by kernel_rfl) (by kernel_rfl) (by kernel_rfl) rfl (fun W hW => by go_simp) H0 ?_
  simp only [Act.put, List.setIfInBounds_toArray, List.set_cons_zero, List.set_cons_succ]
  refine hr_take_w 2 (some 11) (.int .i64 i) rfl rfl (by kernel_rfl) (by kernel_rfl) (by kernel_rfl) rfl (fun W hW => by go_simp) H0 ?_
  simp only [Act.put, List.setIfInBounds_toArray, List.set_cons_zero, List.set_cons_succ]
  refine hr_take_w 3 (some 12) (.slice ao i i) rfl rfl (by kernel_rfl) (by kernel_rfl) (by kernel_rfl) rfl (fun W hW => by simp [execOp, Act.eval, F1]) H0 ?_
  simp only [Act.put, List.setIfInBounds_toArray, List.set_cons_zero, List.set_cons_succ]
  refine hr_take_w 4 (some 13) (.slice bo m c) rfl rfl (by kernel_rfl) (by kernel_rfl) (by kernel_rfl) rfl (fun W hW => by go_simp) H0 ?_
  simp only [Act.put, List.setIfInBounds_toArray, List.set_cons_zero, List.set_cons_succ]
  refine hr_take_w 6 (some 15) (.slice ao n cap) rfl rfl (by kernel_rfl) (by kernel_rfl) (by kernel_rfl) rfl (fun W hW => by go_simp) H0 ?_
  simp only [Act.put, List.setIfInBounds_toArray, List.set_cons_zero, List.set_cons_succ]
  refine hr_take_w 7 (some 16) (.int .i64 j) rfl rfl (by kernel_rfl) (by kernel_rfl) (by kernel_rfl) rfl (fun W hW => by go_simp) H0 ?_
  simp only [Act.put, List.setIfInBounds_toArray, List.set_cons_zero, List.set_cons_succ]
  refine hr_take_w 8 (some 17) (.slice (bk ao cap j) (n - j) (cap - j)) rfl rfl (by kernel_rfl) (by kernel_rfl) (by kernel_rfl) rfl (fun W hW => by simp [execOp, Act.eval, F2]) H0 ?_
  simp only [Act.put, List.setIfInBounds_toArray, List.set_cons_zero, List.set_cons_succ]
  refine hr_ex 5 (some 14) rfl rfl (by kernel_rfl) rfl (R := fun v w' => Apd w' w.heap.size 25 v (i + m) (vs.take i ++ ys) ∧ Below v0.heap.size v0 w') (by obtain ⟨v', w', hr, h3, h4⟩ := run_apd (P := Tryz.prog) (w := v0) (base := v0.heap.size) (t := 81) (ty := 81) Tryz.underlying81 hi hz0 hz1 hz2 rfl (.inl ⟨ao, rfl, (h.below E0).front i i (by omega) (Nat.le_refl _) (by omega)⟩) (Nat.le_refl _) (hx.below E0) h2 (by omega) (by decide); exact ⟨v', w', by simp [execOp, Act.eval, resolve, invoke, builtin, hr], h3.base E0.size, h4⟩) ?_
  rintro v v1 ⟨A1, C0⟩
  have E1 := E0.trans (C0.mono E0.size)
  have H1 := HS.out v1 E1
  refine ⟨H1, ?_⟩
  simp only [Act.put, List.setIfInBounds_toArray, List.set_cons_zero, List.set_cons_succ]
  refine hr_ex 9 (some 18) rfl rfl (by kernel_rfl) rfl (R := fun u w' => Apd w' w.heap.size 25 u (i + m + (n - j)) (vs.take i ++ ys ++ vs.drop j) ∧ Below w.heap.size v1 w') (by obtain ⟨v', w', hr, h3, h4⟩ := run_apd (P := Tryz.prog) (w := v1) (base := w.heap.size) (t := 81) (ty := 81) Tryz.underlying81 hi hz0 hz1 hz2 rfl A1 E1.size ((h.below E1).from j hj) (fun u hu => h1 u (List.mem_of_mem_drop hu)) (by omega) (by decide); exact ⟨v', w', by simp [execOp, Act.eval, resolve, invoke, builtin, hr], h3, h4⟩) ?_
  rintro v v2 ⟨A2, C1⟩
  have E2 := E1.trans C1
  have H2 := HS.out v2 E2
  refine ⟨H2, ?_⟩
  simp only [Act.put, List.setIfInBounds_toArray, List.set_cons_zero, List.set_cons_succ]
  refine hr_take_w 10 (some 8) (v) rfl rfl (by kernel_rfl) (by kernel_rfl) (by kernel_rfl) rfl (fun W hW => by go_simp) H2 ?_
  simp only [Act.put, List.setIfInBounds_toArray, List.set_cons_zero, List.set_cons_succ]
  refine wpAnyH_done (by kernel_rfl) ?_ _
  refine NoPanic.normal ?_
  obtain ⟨ro, rc, rfl, hv⟩ := A2.vl
  go_wp2
  go_ret
  exact ⟨ro, rc, rfl, hv, E2⟩

set_option maxHeartbeats 1000000 in
set_option maxRecDepth 100000 in
theorem chgN_any (w : World) (ao bo : Option Addr) (n cap m c i j : Nat) (vs ys : List Value) (h : VL w ao n cap vs) (hx : VL w bo m c ys) (h1 : ∀ u ∈ vs, u.oneCell' = true) (h2 : ∀ u ∈ ys, u.oneCell' = true) (hij : i ≤ j) (hj : j ≤ n) (hn : n + m ≤ 1000000) :
    Calls Tryz.prog 135 #[.slice ao n cap, .int .i64 i, .int .i64 j, .slice bo m c] w fun e w' =>
      ∃ ro rc, e = .returned (.slice ro (i + m + (n - j)) rc) ∧ VL w' ro (i + m + (n - j)) rc (vs.take i ++ ys ++ vs.drop j) ∧ Below w.heap.size w w' := by
  obtain ⟨i0, hi, hz0, hz1, hz2⟩ := info_parts ninfo
  have hle := h.le
  have F1 : ∀ W, _ := fun W => run_front (P := Tryz.prog) (W := W) (t := 117) (ao := ao) (n := n) (cap := cap) (i := i) (c := i) Tryz.underlying117 (Nat.le_refl _) (by omega) nsize
  have F2 : ∀ W, _ := fun W => run_back (P := Tryz.prog) (W := W) (t := 117) (ao := ao) (n := n) (cap := cap) (j := j) Tryz.underlying117 (by omega) nsize
  go_enter Tryz.func135, Tryz.ntmps135
  go_wp2
  have HS : Hid (∀ V, Below w.heap.size w V → True) := fun _ _ => trivial
  have E0 : Below w.heap.size w w.drew := (Below.refl _ _).drew
  refine wp_region_noPanic ?_
  refine wp_region_held_drew (S := fun V => True) (by kernel_rfl) (HS.out _ E0) (fun H0 => ?_)
  obtain ⟨v0, hv0⟩ : ∃ v, v = w.drew := ⟨_, rfl⟩
  rw [← hv0] at E0 ⊢
  clear hv0
  refine hr_take_w 0 (some 9) (.slice ao n cap) rfl rfl (by kernel_rfl) (by kernel_rfl) (by kernel_rfl) rfl (fun W hW => by go_simp) H0 ?_
  simp only [Act.put, List.setIfInBounds_toArray, List.set_cons_zero, List.set_cons_succ]
  refine hr_take_w 1 (some 10) (.int .i64 i) rfl rfl (by kernel_rfl) (by kernel_rfl) (by kernel_rfl) rfl (fun W hW => by go_simp) H0 ?_
  simp only [Act.put, List.setIfInBounds_toArray, List.set_cons_zero, List.set_cons_succ]
  refine hr_take_w 2 (some 11) (.int .i64 i) rfl rfl (by kernel_rfl) (by kernel_rfl) (by kernel_rfl) rfl (fun W hW => by go_simp) H0 ?_
  simp only [Act.put, List.setIfInBounds_toArray, List.set_cons_zero, List.set_cons_succ]
  refine hr_take_w 3 (some 12) (.slice ao i i) rfl rfl (by kernel_rfl) (by kernel_rfl) (by kernel_rfl) rfl (fun W hW => by simp [execOp, Act.eval, F1]) H0 ?_
  simp only [Act.put, List.setIfInBounds_toArray, List.set_cons_zero, List.set_cons_succ]
  refine hr_take_w 4 (some 13) (.slice bo m c) rfl rfl (by kernel_rfl) (by kernel_rfl) (by kernel_rfl) rfl (fun W hW => by go_simp) H0 ?_
  simp only [Act.put, List.setIfInBounds_toArray, List.set_cons_zero, List.set_cons_succ]
  refine hr_take_w 6 (some 15) (.slice ao n cap) rfl rfl (by kernel_rfl) (by kernel_rfl) (by kernel_rfl) rfl (fun W hW => by go_simp) H0 ?_
  simp only [Act.put, List.setIfInBounds_toArray, List.set_cons_zero, List.set_cons_succ]
  refine hr_take_w 7 (some 16) (.int .i64 j) rfl rfl (by kernel_rfl) (by kernel_rfl) (by kernel_rfl) rfl (fun W hW => by go_simp) H0 ?_
  simp only [Act.put, List.setIfInBounds_toArray, List.set_cons_zero, List.set_cons_succ]
  refine hr_take_w 8 (some 17) (.slice (bk ao cap j) (n - j) (cap - j)) rfl rfl (by kernel_rfl) (by kernel_rfl) (by kernel_rfl) rfl (fun W hW => by simp [execOp, Act.eval, F2]) H0 ?_
  simp only [Act.put, List.setIfInBounds_toArray, List.set_cons_zero, List.set_cons_succ]
  refine hr_ex 5 (some 14) rfl rfl (by kernel_rfl) rfl (R := fun v w' => Apd w' w.heap.size 85 v (i + m) (vs.take i ++ ys) ∧ Below v0.heap.size v0 w') (by obtain ⟨v', w', hr, h3, h4⟩ := run_apd (P := Tryz.prog) (w := v0) (base := v0.heap.size) (t := 117) (ty := 117) Tryz.underlying117 hi hz0 hz1 hz2 rfl (.inl ⟨ao, rfl, (h.below E0).front i i (by omega) (Nat.le_refl _) (by omega)⟩) (Nat.le_refl _) (hx.below E0) h2 (by omega) (by decide); exact ⟨v', w', by simp [execOp, Act.eval, resolve, invoke, builtin, hr], h3.base E0.size, h4⟩) ?_
  rintro v v1 ⟨A1, C0⟩
  have E1 := E0.trans (C0.mono E0.size)
  have H1 := HS.out v1 E1
  refine ⟨H1, ?_⟩
  simp only [Act.put, List.setIfInBounds_toArray, List.set_cons_zero, List.set_cons_succ]
  refine hr_ex 9 (some 18) rfl rfl (by kernel_rfl) rfl (R := fun u w' => Apd w' w.heap.size 85 u (i + m + (n - j)) (vs.take i ++ ys ++ vs.drop j) ∧ Below w.heap.size v1 w') (by obtain ⟨v', w', hr, h3, h4⟩ := run_apd (P := Tryz.prog) (w := v1) (base := w.heap.size) (t := 117) (ty := 117) Tryz.underlying117 hi hz0 hz1 hz2 rfl A1 E1.size ((h.below E1).from j hj) (fun u hu => h1 u (List.mem_of_mem_drop hu)) (by omega) (by decide); exact ⟨v', w', by simp [execOp, Act.eval, resolve, invoke, builtin, hr], h3, h4⟩) ?_
  rintro v v2 ⟨A2, C1⟩
  have E2 := E1.trans C1
  have H2 := HS.out v2 E2
  refine ⟨H2, ?_⟩
  simp only [Act.put, List.setIfInBounds_toArray, List.set_cons_zero, List.set_cons_succ]
  refine hr_take_w 10 (some 8) (v) rfl rfl (by kernel_rfl) (by kernel_rfl) (by kernel_rfl) rfl (fun W hW => by go_simp) H2 ?_
  simp only [Act.put, List.setIfInBounds_toArray, List.set_cons_zero, List.set_cons_succ]
  refine wpAnyH_done (by kernel_rfl) ?_ _
  refine NoPanic.normal ?_
  obtain ⟨ro, rc, rfl, hv⟩ := A2.vl
  go_wp2
  go_ret
  exact ⟨ro, rc, rfl, hv, E2⟩
end Go.Proofs.YtnicnfjickknjaaGreatDoor

namespace Go.Proofs.YtnicnfjickknjaaGreatDoor
open Go.RowKit

/-- Two trees are answered, in new memory. -/
def RetT2 (w : World) (l1 l2 : List It) (e : Ending) (w' : World) : Prop := ∃ u v, e = .returned (.tuple #[u, v]) ∧ T w' u l1 ∧ T w' v l2 ∧ Below w.heap.size w w'

set_option maxHeartbeats 4000000 in
set_option maxRecDepth 100000 in
theorem cut_fuel : ∀ (N : Nat) (w : World) (v : Value) (l : List It) (xo : Option Addr) (m xc : Nat) (key : List Int), l.length ≤ N → T w v l → Srt l → ¬ has key l → Sl w xo m xc key → l.length ≤ 100000 →
    Calls Tryz.prog 132 #[v, .slice xo m xc] w (RetT2 w (lo key l) (hi key l)) := by
  intro N
  induction N with
  | zero =>
    intro w v l xo m xc key hN hT hs hk hx hn
    obtain rfl : l = [] := List.eq_nil_of_length_eq_zero (by omega)
    rcases hT.is with ⟨-, rfl⟩ | ⟨d, segs, xs, rfl, hNd⟩
    · go_enter Tryz.func132, Tryz.ntmps132
      go_wp2
      go_ret2
      exact ⟨_, _, rfl, T.nil _, T.nil _, Below.refl _ _⟩
    · have h0 := hNd.shp.pos
      have := hNd.shp.key xs[0] (List.getElem_mem h0)
      simp at this
  | succ N ih =>
    intro w v l xo m xc key hN hT hs hk hx hn
    rcases hT.is with ⟨rfl, rfl⟩ | ⟨d, segs, xs, rfl, h⟩
    · go_enter Tryz.func132, Tryz.ntmps132
      go_wp2
      go_ret2
      exact ⟨_, _, rfl, T.nil _, T.nil _, Below.refl _ _⟩
    · have hm := h.many
      have hnk1 := Nat.le_of_eq h.nk
      have hnk2 := Nat.le_of_eq h.nk.symm
      have hnv1 := Nat.le_of_eq h.nv
      have hnv2 := Nat.le_of_eq h.nv.symm
      have hnc1 := Nat.le_of_eq h.nc
      have hnc2 := Nat.le_of_eq h.nc.symm
      have hpos := h.shp.pos
      have CP := place_any w d h.ok xo m xc key hx (h.rise hs) (by omega)
      unfold Nd.ptr at CP ⊢
      go_enter Tryz.func132, Tryz.ntmps132
      go_wp2_with fail
      refine CP.mono ?_
      rintro e w1 ⟨i, b, rfl, hat, B1⟩
      clear CP
      obtain ⟨s, A, B, c, hA, hB, hB2, hf⟩ := h.found hs hat
      cases b with
      | true =>
        obtain ⟨hi, he⟩ := hf rfl
        exact absurd ⟨xs[i], h.shp.key _ (List.getElem_mem hi), he⟩ hk
      | false =>
      have hB3 := hB2 rfl
      have hlo : Hid (lo key l = A ++ lo key s) := by show _ = _; rw [c.el]; exact lo_mid hA hB
      have hhi : Hid (hi key l = hi key s ++ B) := by show _ = _; rw [c.el]; exact hi_mid hA hB3
      have hle := c.le
      have N1 := h.below B1
      have x1 := hx.below B1
      obtain ⟨kb, ko, s', u, eco, hs1, hs2, hcell, hTk, hlen⟩ := N1.kidAt i hle
      obtain rfl : s = s' := Option.some.inj (c.seg.symm.trans hs1)
      have CI := ih w1 u s xo m xc key (by omega) hTk (by rw [c.el] at hs; exact hs.app.2.1.app.1) (fun ⟨y, hy, he⟩ => hk ⟨y, h.shp.seg _ (List.mem_of_getElem? c.seg) y hy, he⟩) x1 (by omega)
      have c3 := N1.ok.c3
      rw [eco] at c3
      have hii : (i : Int) < (d.cs.length : Int) := by omega
      go_wp2_with fail
      refine CI.mono ?_
      rintro e w2 ⟨u1, u2, rfl, T1, T2, B2'⟩
      have B2 : Below w.heap.size w w2 := B1.trans (B2'.mono B1.size)
      have N2 := h.below B2
      obtain ⟨p1, rfl⟩ := T1.ptr
      obtain ⟨p2, rfl⟩ := T2.ptr
      clear CI c3 hcell x1 N1 B2' hs1 hs2 hTk eco
      have kle := h.ok.kl.vl.le
      have vle := h.ok.vl.vl.le
      have cle := h.ok.cl.le
      have FK : ∀ W, _ := fun W => run_front (P := Tryz.prog) (W := W) (t := 81) (ao := d.ko) (n := d.ks.length) (cap := d.kc) (i := i) (c := i) Tryz.underlying81 (Nat.le_refl _) (by omega) ksize
      have FV : ∀ W, _ := fun W => run_front (P := Tryz.prog) (W := W) (t := 81) (ao := d.vo) (n := d.vs.length) (cap := d.vc) (i := i) (c := i) Tryz.underlying81 (Nat.le_refl _) (by omega) ksize
      have FC : ∀ W, _ := fun W => run_upto (P := Tryz.prog) (W := W) (t := 117) (ao := d.co) (n := d.cs.length) (cap := d.cc) (i := i) Tryz.underlying117 (by omega) nsize
      have GK : ∀ W, _ := fun W => run_back (P := Tryz.prog) (W := W) (t := 81) (ao := d.ko) (n := d.ks.length) (cap := d.kc) (j := i) Tryz.underlying81 (by omega) ksize
      have GV : ∀ W, _ := fun W => run_back (P := Tryz.prog) (W := W) (t := 81) (ao := d.vo) (n := d.vs.length) (cap := d.vc) (j := i) Tryz.underlying81 (by omega) ksize
      have GC : ∀ W, _ := fun W => run_back (P := Tryz.prog) (W := W) (t := 117) (ao := d.co) (n := d.cs.length) (cap := d.cc) (j := i) Tryz.underlying117 (by omega) nsize
      have c1 := N2.ok.c1
      by_cases hi0 : 0 < i
      · have hi0' : (0 : Int) < (i : Int) := by omega
        go_wp2_with fail
        have aHS : Hid (∀ V, Below w2.heap.size w2 V → V.cell? ⟨d.b, 0, none⟩ = some (.int .i64 d.L) ∧ V.cell? ⟨d.b, 1, none⟩ = some (.slice d.ko d.ks.length d.kc) ∧ V.cell? ⟨d.b, 2, none⟩ = some (.slice d.vo d.vs.length d.vc) ∧ V.cell? ⟨d.b, 3, none⟩ = some (.slice d.co d.cs.length d.cc)) := fun V hV => ⟨(N2.ok.below hV).c0, (N2.ok.below hV).c1, (N2.ok.below hV).c2, (N2.ok.below hV).c3⟩
        have aE0 : Below w2.heap.size w2 w2.drew := (Below.refl _ _).drew
        refine wp_region_noPanic ?_
        refine wp_region_held_drew (S := fun V => V.cell? ⟨d.b, 0, none⟩ = some (.int .i64 d.L) ∧ V.cell? ⟨d.b, 1, none⟩ = some (.slice d.ko d.ks.length d.kc) ∧ V.cell? ⟨d.b, 2, none⟩ = some (.slice d.vo d.vs.length d.vc) ∧ V.cell? ⟨d.b, 3, none⟩ = some (.slice d.co d.cs.length d.cc)) (by kernel_rfl) (aHS.out _ aE0) (fun aH0 => ?_)
        obtain ⟨av0, hv0⟩ : ∃ v, v = w2.drew := ⟨_, rfl⟩
        rw [← hv0] at aH0 aE0 ⊢
        clear hv0
        refine hr_take_w 0 (some 30) (.pointer (some ⟨d.b, 0, none⟩)) rfl rfl (by kernel_rfl) (by kernel_rfl) (by kernel_rfl) rfl (fun W hW => by obtain ⟨h0, h1, h2, h3⟩ := hW; go_simp) aH0 ?_
        simp only [Act.put, List.setIfInBounds_toArray, List.set_cons_zero, List.set_cons_succ]
        refine hr_take_w 1 (some 31) (.pointer (some ⟨d.b, 0, none⟩)) rfl rfl (by kernel_rfl) (by kernel_rfl) (by kernel_rfl) rfl (fun W hW => by obtain ⟨h0, h1, h2, h3⟩ := hW; go_simp) aH0 ?_
        simp only [Act.put, List.setIfInBounds_toArray, List.set_cons_zero, List.set_cons_succ]
        refine hr_take_w 2 (some 32) (.pointer (some ⟨d.b, 0, none⟩)) rfl rfl (by kernel_rfl) (by kernel_rfl) (by kernel_rfl) rfl (fun W hW => by obtain ⟨h0, h1, h2, h3⟩ := hW; go_simp) aH0 ?_
        simp only [Act.put, List.setIfInBounds_toArray, List.set_cons_zero, List.set_cons_succ]
        refine hr_take_w 3 (some 33) (.int .i64 d.L) rfl rfl (by kernel_rfl) (by kernel_rfl) (by kernel_rfl) rfl (fun W hW => by obtain ⟨h0, h1, h2, h3⟩ := hW; go_simp) aH0 ?_
        simp only [Act.put, List.setIfInBounds_toArray, List.set_cons_zero, List.set_cons_succ]
        refine hr_take_w 4 (some 34) (.pointer (some ⟨d.b, 0, none⟩)) rfl rfl (by kernel_rfl) (by kernel_rfl) (by kernel_rfl) rfl (fun W hW => by obtain ⟨h0, h1, h2, h3⟩ := hW; go_simp) aH0 ?_
        simp only [Act.put, List.setIfInBounds_toArray, List.set_cons_zero, List.set_cons_succ]
        refine hr_take_w 5 (some 35) (.pointer (some ⟨d.b, 0, none⟩)) rfl rfl (by kernel_rfl) (by kernel_rfl) (by kernel_rfl) rfl (fun W hW => by obtain ⟨h0, h1, h2, h3⟩ := hW; go_simp) aH0 ?_
        simp only [Act.put, List.setIfInBounds_toArray, List.set_cons_zero, List.set_cons_succ]
        refine hr_take_w 6 (some 36) (.pointer (some ⟨d.b, 1, none⟩)) rfl rfl (by kernel_rfl) (by kernel_rfl) (by kernel_rfl) rfl (fun W hW => by obtain ⟨h0, h1, h2, h3⟩ := hW; go_simp) aH0 ?_
        simp only [Act.put, List.setIfInBounds_toArray, List.set_cons_zero, List.set_cons_succ]
        refine hr_take_w 7 (some 37) (.slice d.ko d.ks.length d.kc) rfl rfl (by kernel_rfl) (by kernel_rfl) (by kernel_rfl) rfl (fun W hW => by obtain ⟨h0, h1, h2, h3⟩ := hW; go_simp) aH0 ?_
        simp only [Act.put, List.setIfInBounds_toArray, List.set_cons_zero, List.set_cons_succ]
        refine hr_take_w 8 (some 38) (.int .i64 i) rfl rfl (by kernel_rfl) (by kernel_rfl) (by kernel_rfl) rfl (fun W hW => by obtain ⟨h0, h1, h2, h3⟩ := hW; go_simp) aH0 ?_
        simp only [Act.put, List.setIfInBounds_toArray, List.set_cons_zero, List.set_cons_succ]
        refine hr_take_w 9 (some 39) (.int .i64 i) rfl rfl (by kernel_rfl) (by kernel_rfl) (by kernel_rfl) rfl (fun W hW => by obtain ⟨h0, h1, h2, h3⟩ := hW; go_simp) aH0 ?_
        simp only [Act.put, List.setIfInBounds_toArray, List.set_cons_zero, List.set_cons_succ]
        refine hr_take_w 10 (some 40) (.slice d.ko i i) rfl rfl (by kernel_rfl) (by kernel_rfl) (by kernel_rfl) rfl (fun W hW => by obtain ⟨h0, h1, h2, h3⟩ := hW; simp [execOp, Act.eval, FK]) aH0 ?_
        simp only [Act.put, List.setIfInBounds_toArray, List.set_cons_zero, List.set_cons_succ]
        refine hr_take_w 11 (some 41) (.pointer (some ⟨d.b, 0, none⟩)) rfl rfl (by kernel_rfl) (by kernel_rfl) (by kernel_rfl) rfl (fun W hW => by obtain ⟨h0, h1, h2, h3⟩ := hW; go_simp) aH0 ?_
        simp only [Act.put, List.setIfInBounds_toArray, List.set_cons_zero, List.set_cons_succ]
        refine hr_take_w 12 (some 42) (.pointer (some ⟨d.b, 0, none⟩)) rfl rfl (by kernel_rfl) (by kernel_rfl) (by kernel_rfl) rfl (fun W hW => by obtain ⟨h0, h1, h2, h3⟩ := hW; go_simp) aH0 ?_
        simp only [Act.put, List.setIfInBounds_toArray, List.set_cons_zero, List.set_cons_succ]
        refine hr_take_w 13 (some 43) (.pointer (some ⟨d.b, 2, none⟩)) rfl rfl (by kernel_rfl) (by kernel_rfl) (by kernel_rfl) rfl (fun W hW => by obtain ⟨h0, h1, h2, h3⟩ := hW; go_simp) aH0 ?_
        simp only [Act.put, List.setIfInBounds_toArray, List.set_cons_zero, List.set_cons_succ]
        refine hr_take_w 14 (some 44) (.slice d.vo d.vs.length d.vc) rfl rfl (by kernel_rfl) (by kernel_rfl) (by kernel_rfl) rfl (fun W hW => by obtain ⟨h0, h1, h2, h3⟩ := hW; go_simp) aH0 ?_
        simp only [Act.put, List.setIfInBounds_toArray, List.set_cons_zero, List.set_cons_succ]
        refine hr_take_w 15 (some 45) (.int .i64 i) rfl rfl (by kernel_rfl) (by kernel_rfl) (by kernel_rfl) rfl (fun W hW => by obtain ⟨h0, h1, h2, h3⟩ := hW; go_simp) aH0 ?_
        simp only [Act.put, List.setIfInBounds_toArray, List.set_cons_zero, List.set_cons_succ]
        refine hr_take_w 16 (some 46) (.int .i64 i) rfl rfl (by kernel_rfl) (by kernel_rfl) (by kernel_rfl) rfl (fun W hW => by obtain ⟨h0, h1, h2, h3⟩ := hW; go_simp) aH0 ?_
        simp only [Act.put, List.setIfInBounds_toArray, List.set_cons_zero, List.set_cons_succ]
        refine hr_take_w 17 (some 47) (.slice d.vo i i) rfl rfl (by kernel_rfl) (by kernel_rfl) (by kernel_rfl) rfl (fun W hW => by obtain ⟨h0, h1, h2, h3⟩ := hW; simp [execOp, Act.eval, FV]) aH0 ?_
        simp only [Act.put, List.setIfInBounds_toArray, List.set_cons_zero, List.set_cons_succ]
        refine hr_take_w 18 (some 48) (.pointer (some ⟨d.b, 0, none⟩)) rfl rfl (by kernel_rfl) (by kernel_rfl) (by kernel_rfl) rfl (fun W hW => by obtain ⟨h0, h1, h2, h3⟩ := hW; go_simp) aH0 ?_
        simp only [Act.put, List.setIfInBounds_toArray, List.set_cons_zero, List.set_cons_succ]
        refine hr_take_w 19 (some 49) (.pointer (some ⟨d.b, 0, none⟩)) rfl rfl (by kernel_rfl) (by kernel_rfl) (by kernel_rfl) rfl (fun W hW => by obtain ⟨h0, h1, h2, h3⟩ := hW; go_simp) aH0 ?_
        simp only [Act.put, List.setIfInBounds_toArray, List.set_cons_zero, List.set_cons_succ]
        refine hr_take_w 20 (some 50) (.pointer (some ⟨d.b, 3, none⟩)) rfl rfl (by kernel_rfl) (by kernel_rfl) (by kernel_rfl) rfl (fun W hW => by obtain ⟨h0, h1, h2, h3⟩ := hW; go_simp) aH0 ?_
        simp only [Act.put, List.setIfInBounds_toArray, List.set_cons_zero, List.set_cons_succ]
        refine hr_take_w 21 (some 51) (.slice d.co d.cs.length d.cc) rfl rfl (by kernel_rfl) (by kernel_rfl) (by kernel_rfl) rfl (fun W hW => by obtain ⟨h0, h1, h2, h3⟩ := hW; go_simp) aH0 ?_
        simp only [Act.put, List.setIfInBounds_toArray, List.set_cons_zero, List.set_cons_succ]
        refine hr_take_w 22 (some 52) (.int .i64 i) rfl rfl (by kernel_rfl) (by kernel_rfl) (by kernel_rfl) rfl (fun W hW => by obtain ⟨h0, h1, h2, h3⟩ := hW; go_simp) aH0 ?_
        simp only [Act.put, List.setIfInBounds_toArray, List.set_cons_zero, List.set_cons_succ]
        refine hr_take_w 23 (some 53) (.slice d.co i d.cc) rfl rfl (by kernel_rfl) (by kernel_rfl) (by kernel_rfl) rfl (fun W hW => by obtain ⟨h0, h1, h2, h3⟩ := hW; simp [execOp, Act.eval, FC]) aH0 ?_
        simp only [Act.put, List.setIfInBounds_toArray, List.set_cons_zero, List.set_cons_succ]
        refine hr_take_w 24 (some 54) (.int .i64 i) rfl rfl (by kernel_rfl) (by kernel_rfl) (by kernel_rfl) rfl (fun W hW => by obtain ⟨h0, h1, h2, h3⟩ := hW; go_simp) aH0 ?_
        simp only [Act.put, List.setIfInBounds_toArray, List.set_cons_zero, List.set_cons_succ]
        refine hr_take_w 25 (some 55) (.int .i64 i) rfl rfl (by kernel_rfl) (by kernel_rfl) (by kernel_rfl) rfl (fun W hW => by obtain ⟨h0, h1, h2, h3⟩ := hW; go_simp) aH0 ?_
        simp only [Act.put, List.setIfInBounds_toArray, List.set_cons_zero, List.set_cons_succ]
        refine hr_take_w 26 (some 56) (.pointer p1) rfl rfl (by kernel_rfl) (by kernel_rfl) (by kernel_rfl) rfl (fun W hW => by obtain ⟨h0, h1, h2, h3⟩ := hW; go_simp) aH0 ?_
        simp only [Act.put, List.setIfInBounds_toArray, List.set_cons_zero, List.set_cons_succ]
        refine hr_ex 27 (some 57) rfl rfl (by kernel_rfl) rfl (R := fun v w' => ∃ g, v = .slice (some ⟨g, 0, none⟩) 1 1 ∧ VL w' (some ⟨g, 0, none⟩) 1 1 [.pointer p1] ∧ Below av0.heap.size av0 w') (⟨_, _, by go_simp, _, rfl, VL.new av0 [.pointer p1] 85 (by simp [maxLen]), (Below.refl _ _).alloc (Nat.le_refl _) _⟩) ?_
        rintro v av1 ⟨ag0, rfl, aG0, aC0⟩
        have aE1 := aE0.trans (aC0.mono aE0.size)
        have aH1 := aHS.out av1 aE1
        refine ⟨aH1, ?_⟩
        simp only [Act.put, List.setIfInBounds_toArray, List.set_cons_zero, List.set_cons_succ]
        refine hr_call_w 28 (some 58) 135 #[.slice d.co i d.cc, .int .i64 i, .int .i64 i, .slice (some ⟨ag0, 0, none⟩) 1 1] rfl rfl (by kernel_rfl) rfl (by go_simp) (fun v w' => ∃ ro rc, v = .slice ro (i + 1 + (i - i)) rc ∧ VL w' ro (i + 1 + (i - i)) rc ((d.cs.take i).take i ++ [.pointer p1] ++ (d.cs.take i).drop i) ∧ Below av1.heap.size av1 w') ((chgN_any av1 d.co (some ⟨ag0, 0, none⟩) i d.cc 1 1 i i (d.cs.take i) [.pointer p1] ((N2.ok.cl.below aE1).front i d.cc (by omega) (by omega) (Nat.le_refl _)) aG0 (fun y hy => N2.one y (List.mem_of_mem_take hy)) (by intro y hy; rw [List.mem_singleton.1 hy]; rfl) (by omega) (by omega) (by omega)).mono (by
          rintro e w' ⟨ro, rc, rfl, F, C⟩
          exact ⟨_, rfl, ro, rc, rfl, F, C⟩)) ?_
        rintro v av2 ⟨ro, rc, rfl, aF1, aC1⟩
        have aE2 := aE1.trans (aC1.mono aE1.size)
        have aH2 := aHS.out av2 aE2
        clear aG0
        refine ⟨aH2, ?_⟩
        simp only [Act.put, List.setIfInBounds_toArray, List.set_cons_zero, List.set_cons_succ]
        refine hr_take_w 29 (some 59) (.agg #[.int .i64 d.L, .slice d.ko i i, .slice d.vo i i, .slice ro (i + 1 + (i - i)) rc]) rfl rfl (by kernel_rfl) (by kernel_rfl) (by kernel_rfl) rfl (fun W hW => by obtain ⟨h0, h1, h2, h3⟩ := hW; go_simp) aH2 ?_
        simp only [Act.put, List.setIfInBounds_toArray, List.set_cons_zero, List.set_cons_succ]
        refine hr_ex 30 (some 60) rfl rfl (by kernel_rfl) rfl (R := fun v w' => ∃ g, v = .pointer (some ⟨g, 0, none⟩) ∧ w'.heap[g]? = some (.cells #[.int .i64 d.L, .slice d.ko i i, .slice d.vo i i, .slice ro (i + 1 + (i - i)) rc] 119) ∧ Below av2.heap.size av2 w') (⟨_, _, by go_simp, _, rfl, heap_alloc_new av2 _, (Below.refl _ _).alloc (Nat.le_refl _) _⟩) ?_
        rintro v av3 ⟨ag2, rfl, aG2, aC2⟩
        have aE3 := aE2.trans (aC2.mono aE2.size)
        have aH3 := aHS.out av3 aE3
        refine ⟨aH3, ?_⟩
        simp only [Act.put, List.setIfInBounds_toArray, List.set_cons_zero, List.set_cons_succ]
        refine hr_take_w 31 (some 4) (.pointer (some ⟨ag2, 0, none⟩)) rfl rfl (by kernel_rfl) (by kernel_rfl) (by kernel_rfl) rfl (fun W hW => by obtain ⟨h0, h1, h2, h3⟩ := hW; go_simp) aH3 ?_
        simp only [Act.put, List.setIfInBounds_toArray, List.set_cons_zero, List.set_cons_succ]
        refine wpAnyH_done (by kernel_rfl) ?_ _
        refine NoPanic.normal ?_
        have tl : T av3 (.pointer (some ⟨ag2, 0, none⟩)) (A ++ lo key s) := by
          have k3 := aF1.below aC2
          rw [show i + 1 + (i - i) = i + 1 from by omega, show (d.cs.take i).take i ++ [.pointer p1] ++ (d.cs.take i).drop i = d.cs.take i ++ [.pointer p1] from by simp [List.take_take]] at k3
          rw [show i + 1 + (i - i) = i + 1 from by omega] at aG2
          have N3 := N2.below aE3
          exact T.make aG2 (N3.ok.kl.front i i (by omega) (Nat.le_refl _) (by have := N3.ok.kl.vl.le; omega)) (N3.ok.vl.front i i (by omega) (Nat.le_refl _) (by have := N3.ok.vl.vl.le; omega)) k3 (c.front (by omega) (fun x hx => c.ls x (mem_lo.1 hx).1)) (by rw [List.map_take, List.map_take, N3.ek]) (by rw [List.map_take, List.map_take, N3.ev]) ((N3.kids.take i).app (Kids.one (T1.below aE3)))
        have B3 : Below w.heap.size w av3 := B2.trans (aE3.mono B2.size)
        clear aF1 aG2
        have N4 := h.below B3
        have T4 := T2.below aE3
        have c1 := N4.ok.c1
        by_cases hil : i < d.ks.length
        · have hil' : (i : Int) < (d.ks.length : Int) := by omega
          go_wp2_with fail
          have bHS : Hid (∀ V, Below av3.heap.size av3 V → V.cell? ⟨d.b, 0, none⟩ = some (.int .i64 d.L) ∧ V.cell? ⟨d.b, 1, none⟩ = some (.slice d.ko d.ks.length d.kc) ∧ V.cell? ⟨d.b, 2, none⟩ = some (.slice d.vo d.vs.length d.vc) ∧ V.cell? ⟨d.b, 3, none⟩ = some (.slice d.co d.cs.length d.cc)) := fun V hV => ⟨(N4.ok.below hV).c0, (N4.ok.below hV).c1, (N4.ok.below hV).c2, (N4.ok.below hV).c3⟩
          have bE0 : Below av3.heap.size av3 av3.drew := (Below.refl _ _).drew
          refine wp_region_noPanic ?_
          refine wp_region_held_drew (S := fun V => V.cell? ⟨d.b, 0, none⟩ = some (.int .i64 d.L) ∧ V.cell? ⟨d.b, 1, none⟩ = some (.slice d.ko d.ks.length d.kc) ∧ V.cell? ⟨d.b, 2, none⟩ = some (.slice d.vo d.vs.length d.vc) ∧ V.cell? ⟨d.b, 3, none⟩ = some (.slice d.co d.cs.length d.cc)) (by kernel_rfl) (bHS.out _ bE0) (fun bH0 => ?_)
          obtain ⟨bv0, hv0⟩ : ∃ v, v = av3.drew := ⟨_, rfl⟩
          rw [← hv0] at bH0 bE0 ⊢
          clear hv0
          refine hr_take_w 0 (some 68) (.pointer (some ⟨d.b, 0, none⟩)) rfl rfl (by kernel_rfl) (by kernel_rfl) (by kernel_rfl) rfl (fun W hW => by obtain ⟨h0, h1, h2, h3⟩ := hW; go_simp) bH0 ?_
          simp only [Act.put, List.setIfInBounds_toArray, List.set_cons_zero, List.set_cons_succ]
          refine hr_take_w 1 (some 69) (.pointer (some ⟨d.b, 0, none⟩)) rfl rfl (by kernel_rfl) (by kernel_rfl) (by kernel_rfl) rfl (fun W hW => by obtain ⟨h0, h1, h2, h3⟩ := hW; go_simp) bH0 ?_
          simp only [Act.put, List.setIfInBounds_toArray, List.set_cons_zero, List.set_cons_succ]
          refine hr_take_w 2 (some 70) (.pointer (some ⟨d.b, 0, none⟩)) rfl rfl (by kernel_rfl) (by kernel_rfl) (by kernel_rfl) rfl (fun W hW => by obtain ⟨h0, h1, h2, h3⟩ := hW; go_simp) bH0 ?_
          simp only [Act.put, List.setIfInBounds_toArray, List.set_cons_zero, List.set_cons_succ]
          refine hr_take_w 3 (some 71) (.int .i64 d.L) rfl rfl (by kernel_rfl) (by kernel_rfl) (by kernel_rfl) rfl (fun W hW => by obtain ⟨h0, h1, h2, h3⟩ := hW; go_simp) bH0 ?_
          simp only [Act.put, List.setIfInBounds_toArray, List.set_cons_zero, List.set_cons_succ]
          refine hr_take_w 4 (some 72) (.pointer (some ⟨d.b, 0, none⟩)) rfl rfl (by kernel_rfl) (by kernel_rfl) (by kernel_rfl) rfl (fun W hW => by obtain ⟨h0, h1, h2, h3⟩ := hW; go_simp) bH0 ?_
          simp only [Act.put, List.setIfInBounds_toArray, List.set_cons_zero, List.set_cons_succ]
          refine hr_take_w 5 (some 73) (.pointer (some ⟨d.b, 0, none⟩)) rfl rfl (by kernel_rfl) (by kernel_rfl) (by kernel_rfl) rfl (fun W hW => by obtain ⟨h0, h1, h2, h3⟩ := hW; go_simp) bH0 ?_
          simp only [Act.put, List.setIfInBounds_toArray, List.set_cons_zero, List.set_cons_succ]
          refine hr_take_w 6 (some 74) (.pointer (some ⟨d.b, 1, none⟩)) rfl rfl (by kernel_rfl) (by kernel_rfl) (by kernel_rfl) rfl (fun W hW => by obtain ⟨h0, h1, h2, h3⟩ := hW; go_simp) bH0 ?_
          simp only [Act.put, List.setIfInBounds_toArray, List.set_cons_zero, List.set_cons_succ]
          refine hr_take_w 7 (some 75) (.slice d.ko d.ks.length d.kc) rfl rfl (by kernel_rfl) (by kernel_rfl) (by kernel_rfl) rfl (fun W hW => by obtain ⟨h0, h1, h2, h3⟩ := hW; go_simp) bH0 ?_
          simp only [Act.put, List.setIfInBounds_toArray, List.set_cons_zero, List.set_cons_succ]
          refine hr_take_w 8 (some 76) (.int .i64 i) rfl rfl (by kernel_rfl) (by kernel_rfl) (by kernel_rfl) rfl (fun W hW => by obtain ⟨h0, h1, h2, h3⟩ := hW; go_simp) bH0 ?_
          simp only [Act.put, List.setIfInBounds_toArray, List.set_cons_zero, List.set_cons_succ]
          refine hr_take_w 9 (some 77) (.slice (bk d.ko d.kc i) (d.ks.length - i) (d.kc - i)) rfl rfl (by kernel_rfl) (by kernel_rfl) (by kernel_rfl) rfl (fun W hW => by obtain ⟨h0, h1, h2, h3⟩ := hW; simp [execOp, Act.eval, GK]) bH0 ?_
          simp only [Act.put, List.setIfInBounds_toArray, List.set_cons_zero, List.set_cons_succ]
          refine hr_take_w 10 (some 78) (.pointer (some ⟨d.b, 0, none⟩)) rfl rfl (by kernel_rfl) (by kernel_rfl) (by kernel_rfl) rfl (fun W hW => by obtain ⟨h0, h1, h2, h3⟩ := hW; go_simp) bH0 ?_
          simp only [Act.put, List.setIfInBounds_toArray, List.set_cons_zero, List.set_cons_succ]
          refine hr_take_w 11 (some 79) (.pointer (some ⟨d.b, 0, none⟩)) rfl rfl (by kernel_rfl) (by kernel_rfl) (by kernel_rfl) rfl (fun W hW => by obtain ⟨h0, h1, h2, h3⟩ := hW; go_simp) bH0 ?_
          simp only [Act.put, List.setIfInBounds_toArray, List.set_cons_zero, List.set_cons_succ]
          refine hr_take_w 12 (some 80) (.pointer (some ⟨d.b, 2, none⟩)) rfl rfl (by kernel_rfl) (by kernel_rfl) (by kernel_rfl) rfl (fun W hW => by obtain ⟨h0, h1, h2, h3⟩ := hW; go_simp) bH0 ?_
          simp only [Act.put, List.setIfInBounds_toArray, List.set_cons_zero, List.set_cons_succ]
          refine hr_take_w 13 (some 81) (.slice d.vo d.vs.length d.vc) rfl rfl (by kernel_rfl) (by kernel_rfl) (by kernel_rfl) rfl (fun W hW => by obtain ⟨h0, h1, h2, h3⟩ := hW; go_simp) bH0 ?_
          simp only [Act.put, List.setIfInBounds_toArray, List.set_cons_zero, List.set_cons_succ]
          refine hr_take_w 14 (some 82) (.int .i64 i) rfl rfl (by kernel_rfl) (by kernel_rfl) (by kernel_rfl) rfl (fun W hW => by obtain ⟨h0, h1, h2, h3⟩ := hW; go_simp) bH0 ?_
          simp only [Act.put, List.setIfInBounds_toArray, List.set_cons_zero, List.set_cons_succ]
          refine hr_take_w 15 (some 83) (.slice (bk d.vo d.vc i) (d.vs.length - i) (d.vc - i)) rfl rfl (by kernel_rfl) (by kernel_rfl) (by kernel_rfl) rfl (fun W hW => by obtain ⟨h0, h1, h2, h3⟩ := hW; simp [execOp, Act.eval, GV]) bH0 ?_
          simp only [Act.put, List.setIfInBounds_toArray, List.set_cons_zero, List.set_cons_succ]
          refine hr_take_w 16 (some 84) (.pointer (some ⟨d.b, 0, none⟩)) rfl rfl (by kernel_rfl) (by kernel_rfl) (by kernel_rfl) rfl (fun W hW => by obtain ⟨h0, h1, h2, h3⟩ := hW; go_simp) bH0 ?_
          simp only [Act.put, List.setIfInBounds_toArray, List.set_cons_zero, List.set_cons_succ]
          refine hr_take_w 17 (some 85) (.pointer (some ⟨d.b, 0, none⟩)) rfl rfl (by kernel_rfl) (by kernel_rfl) (by kernel_rfl) rfl (fun W hW => by obtain ⟨h0, h1, h2, h3⟩ := hW; go_simp) bH0 ?_
          simp only [Act.put, List.setIfInBounds_toArray, List.set_cons_zero, List.set_cons_succ]
          refine hr_take_w 18 (some 86) (.pointer (some ⟨d.b, 3, none⟩)) rfl rfl (by kernel_rfl) (by kernel_rfl) (by kernel_rfl) rfl (fun W hW => by obtain ⟨h0, h1, h2, h3⟩ := hW; go_simp) bH0 ?_
          simp only [Act.put, List.setIfInBounds_toArray, List.set_cons_zero, List.set_cons_succ]
          refine hr_take_w 19 (some 87) (.slice d.co d.cs.length d.cc) rfl rfl (by kernel_rfl) (by kernel_rfl) (by kernel_rfl) rfl (fun W hW => by obtain ⟨h0, h1, h2, h3⟩ := hW; go_simp) bH0 ?_
          simp only [Act.put, List.setIfInBounds_toArray, List.set_cons_zero, List.set_cons_succ]
          refine hr_take_w 20 (some 88) (.int .i64 i) rfl rfl (by kernel_rfl) (by kernel_rfl) (by kernel_rfl) rfl (fun W hW => by obtain ⟨h0, h1, h2, h3⟩ := hW; go_simp) bH0 ?_
          simp only [Act.put, List.setIfInBounds_toArray, List.set_cons_zero, List.set_cons_succ]
          refine hr_take_w 21 (some 89) (.slice (bk d.co d.cc i) (d.cs.length - i) (d.cc - i)) rfl rfl (by kernel_rfl) (by kernel_rfl) (by kernel_rfl) rfl (fun W hW => by obtain ⟨h0, h1, h2, h3⟩ := hW; simp [execOp, Act.eval, GC]) bH0 ?_
          simp only [Act.put, List.setIfInBounds_toArray, List.set_cons_zero, List.set_cons_succ]
          refine hr_take_w 22 (some 90) (.pointer p2) rfl rfl (by kernel_rfl) (by kernel_rfl) (by kernel_rfl) rfl (fun W hW => by obtain ⟨h0, h1, h2, h3⟩ := hW; go_simp) bH0 ?_
          simp only [Act.put, List.setIfInBounds_toArray, List.set_cons_zero, List.set_cons_succ]
          refine hr_ex 23 (some 91) rfl rfl (by kernel_rfl) rfl (R := fun v w' => ∃ g, v = .slice (some ⟨g, 0, none⟩) 1 1 ∧ VL w' (some ⟨g, 0, none⟩) 1 1 [.pointer p2] ∧ Below bv0.heap.size bv0 w') (⟨_, _, by go_simp, _, rfl, VL.new bv0 [.pointer p2] 85 (by simp [maxLen]), (Below.refl _ _).alloc (Nat.le_refl _) _⟩) ?_
          rintro v bv1 ⟨bg0, rfl, bG0, bC0⟩
          have bE1 := bE0.trans (bC0.mono bE0.size)
          have bH1 := bHS.out bv1 bE1
          refine ⟨bH1, ?_⟩
          simp only [Act.put, List.setIfInBounds_toArray, List.set_cons_zero, List.set_cons_succ]
          refine hr_call_w 24 (some 92) 135 #[.slice (bk d.co d.cc i) (d.cs.length - i) (d.cc - i), .int .i64 0, .int .i64 1, .slice (some ⟨bg0, 0, none⟩) 1 1] rfl rfl (by kernel_rfl) rfl (by go_simp) (fun v w' => ∃ ro2 rc2, v = .slice ro2 (0 + 1 + (d.cs.length - i - 1)) rc2 ∧ VL w' ro2 (0 + 1 + (d.cs.length - i - 1)) rc2 ((d.cs.drop i).take 0 ++ [.pointer p2] ++ (d.cs.drop i).drop 1) ∧ Below bv1.heap.size bv1 w') ((chgN_any bv1 (bk d.co d.cc i) (some ⟨bg0, 0, none⟩) (d.cs.length - i) (d.cc - i) 1 1 0 1 (d.cs.drop i) [.pointer p2] ((N4.ok.cl.below bE1).from i (by omega)) bG0 (fun y hy => N4.one y (List.mem_of_mem_drop hy)) (by intro y hy; rw [List.mem_singleton.1 hy]; rfl) (by omega) (by omega) (by omega)).mono (by
            rintro e w' ⟨ro2, rc2, rfl, F, C⟩
            exact ⟨_, rfl, ro2, rc2, rfl, F, C⟩)) ?_
          rintro v bv2 ⟨ro2, rc2, rfl, bF1, bC1⟩
          have bE2 := bE1.trans (bC1.mono bE1.size)
          have bH2 := bHS.out bv2 bE2
          clear bG0
          refine ⟨bH2, ?_⟩
          simp only [Act.put, List.setIfInBounds_toArray, List.set_cons_zero, List.set_cons_succ]
          refine hr_take_w 25 (some 93) (.agg #[.int .i64 d.L, .slice (bk d.ko d.kc i) (d.ks.length - i) (d.kc - i), .slice (bk d.vo d.vc i) (d.vs.length - i) (d.vc - i), .slice ro2 (0 + 1 + (d.cs.length - i - 1)) rc2]) rfl rfl (by kernel_rfl) (by kernel_rfl) (by kernel_rfl) rfl (fun W hW => by obtain ⟨h0, h1, h2, h3⟩ := hW; go_simp) bH2 ?_
          simp only [Act.put, List.setIfInBounds_toArray, List.set_cons_zero, List.set_cons_succ]
          refine hr_ex 26 (some 94) rfl rfl (by kernel_rfl) rfl (R := fun v w' => ∃ g, v = .pointer (some ⟨g, 0, none⟩) ∧ w'.heap[g]? = some (.cells #[.int .i64 d.L, .slice (bk d.ko d.kc i) (d.ks.length - i) (d.kc - i), .slice (bk d.vo d.vc i) (d.vs.length - i) (d.vc - i), .slice ro2 (0 + 1 + (d.cs.length - i - 1)) rc2] 119) ∧ Below bv2.heap.size bv2 w') (⟨_, _, by go_simp, _, rfl, heap_alloc_new bv2 _, (Below.refl _ _).alloc (Nat.le_refl _) _⟩) ?_
          rintro v bv3 ⟨bg2, rfl, bG2, bC2⟩
          have bE3 := bE2.trans (bC2.mono bE2.size)
          have bH3 := bHS.out bv3 bE3
          refine ⟨bH3, ?_⟩
          simp only [Act.put, List.setIfInBounds_toArray, List.set_cons_zero, List.set_cons_succ]
          refine hr_take_w 27 (some 5) (.pointer (some ⟨bg2, 0, none⟩)) rfl rfl (by kernel_rfl) (by kernel_rfl) (by kernel_rfl) rfl (fun W hW => by obtain ⟨h0, h1, h2, h3⟩ := hW; go_simp) bH3 ?_
          simp only [Act.put, List.setIfInBounds_toArray, List.set_cons_zero, List.set_cons_succ]
          refine wpAnyH_done (by kernel_rfl) ?_ _
          refine NoPanic.normal ?_
          have tr : T bv3 (.pointer (some ⟨bg2, 0, none⟩)) (hi key s ++ B) := by
            have k3 := bF1.below bC2
            rw [show (d.cs.drop i).take 0 ++ [.pointer p2] ++ (d.cs.drop i).drop 1 = .pointer p2 :: d.cs.drop (i + 1) from by simp] at k3
            have N3 := N4.below bE3
            exact T.make bG2 (N3.ok.kl.from i (by omega)) (N3.ok.vl.from i (by omega)) k3 (c.back (by omega) (fun x hx => c.ls x (mem_hi.1 hx).1)) (by rw [List.map_drop, List.map_drop, N3.ek]) (by rw [List.map_drop, List.map_drop, N3.ev]) (Kids.cons (T4.below bE3) (N3.kids.drop (i + 1)))
          have B4 : Below w.heap.size w bv3 := B3.trans (bE3.mono B3.size)
          clear bF1 bG2
          go_wp2
          go_ret2
          refine ⟨_, _, rfl, ?_, ?_, B4⟩
          · rw [hlo.out]
            exact tl.below bE3
          · rw [hhi.out]
            exact tr
        · have hil' : ¬ (i : Int) < (d.ks.length : Int) := by omega
          have hBn : Hid (B = []) := by
            show _ = _
            have hd : xs.drop i = [] := List.drop_eq_nil_of_le (by omega)
            rw [c.eB, hd]
            rfl
          go_wp2
          go_ret2
          refine ⟨_, _, rfl, ?_, ?_, B3⟩
          · rw [hlo.out]
            exact tl
          · rw [hhi.out, hBn.out, List.append_nil]
            exact T4
      · have hi0' : ¬ (0 : Int) < (i : Int) := by omega
        have hAn : Hid (A = []) := by
          show _ = _
          obtain rfl : i = 0 := by omega
          rw [c.eA]
          rfl
        have hil : i < d.ks.length := by omega
        have hil' : (i : Int) < (d.ks.length : Int) := by omega
        go_wp2_with fail
        have bHS : Hid (∀ V, Below w2.heap.size w2 V → V.cell? ⟨d.b, 0, none⟩ = some (.int .i64 d.L) ∧ V.cell? ⟨d.b, 1, none⟩ = some (.slice d.ko d.ks.length d.kc) ∧ V.cell? ⟨d.b, 2, none⟩ = some (.slice d.vo d.vs.length d.vc) ∧ V.cell? ⟨d.b, 3, none⟩ = some (.slice d.co d.cs.length d.cc)) := fun V hV => ⟨(N2.ok.below hV).c0, (N2.ok.below hV).c1, (N2.ok.below hV).c2, (N2.ok.below hV).c3⟩
        have bE0 : Below w2.heap.size w2 w2.drew := (Below.refl _ _).drew
        refine wp_region_noPanic ?_
        refine wp_region_held_drew (S := fun V => V.cell? ⟨d.b, 0, none⟩ = some (.int .i64 d.L) ∧ V.cell? ⟨d.b, 1, none⟩ = some (.slice d.ko d.ks.length d.kc) ∧ V.cell? ⟨d.b, 2, none⟩ = some (.slice d.vo d.vs.length d.vc) ∧ V.cell? ⟨d.b, 3, none⟩ = some (.slice d.co d.cs.length d.cc)) (by kernel_rfl) (bHS.out _ bE0) (fun bH0 => ?_)
        obtain ⟨bv0, hv0⟩ : ∃ v, v = w2.drew := ⟨_, rfl⟩
        rw [← hv0] at bH0 bE0 ⊢
        clear hv0
        refine hr_take_w 0 (some 68) (.pointer (some ⟨d.b, 0, none⟩)) rfl rfl (by kernel_rfl) (by kernel_rfl) (by kernel_rfl) rfl (fun W hW => by obtain ⟨h0, h1, h2, h3⟩ := hW; go_simp) bH0 ?_
        simp only [Act.put, List.setIfInBounds_toArray, List.set_cons_zero, List.set_cons_succ]
        refine hr_take_w 1 (some 69) (.pointer (some ⟨d.b, 0, none⟩)) rfl rfl (by kernel_rfl) (by kernel_rfl) (by kernel_rfl) rfl (fun W hW => by obtain ⟨h0, h1, h2, h3⟩ := hW; go_simp) bH0 ?_
        simp only [Act.put, List.setIfInBounds_toArray, List.set_cons_zero, List.set_cons_succ]
        refine hr_take_w 2 (some 70) (.pointer (some ⟨d.b, 0, none⟩)) rfl rfl (by kernel_rfl) (by kernel_rfl) (by kernel_rfl) rfl (fun W hW => by obtain ⟨h0, h1, h2, h3⟩ := hW; go_simp) bH0 ?_
        simp only [Act.put, List.setIfInBounds_toArray, List.set_cons_zero, List.set_cons_succ]
        refine hr_take_w 3 (some 71) (.int .i64 d.L) rfl rfl (by kernel_rfl) (by kernel_rfl) (by kernel_rfl) rfl (fun W hW => by obtain ⟨h0, h1, h2, h3⟩ := hW; go_simp) bH0 ?_
        simp only [Act.put, List.setIfInBounds_toArray, List.set_cons_zero, List.set_cons_succ]
        refine hr_take_w 4 (some 72) (.pointer (some ⟨d.b, 0, none⟩)) rfl rfl (by kernel_rfl) (by kernel_rfl) (by kernel_rfl) rfl (fun W hW => by obtain ⟨h0, h1, h2, h3⟩ := hW; go_simp) bH0 ?_
        simp only [Act.put, List.setIfInBounds_toArray, List.set_cons_zero, List.set_cons_succ]
        refine hr_take_w 5 (some 73) (.pointer (some ⟨d.b, 0, none⟩)) rfl rfl (by kernel_rfl) (by kernel_rfl) (by kernel_rfl) rfl (fun W hW => by obtain ⟨h0, h1, h2, h3⟩ := hW; go_simp) bH0 ?_
        simp only [Act.put, List.setIfInBounds_toArray, List.set_cons_zero, List.set_cons_succ]
        refine hr_take_w 6 (some 74) (.pointer (some ⟨d.b, 1, none⟩)) rfl rfl (by kernel_rfl) (by kernel_rfl) (by kernel_rfl) rfl (fun W hW => by obtain ⟨h0, h1, h2, h3⟩ := hW; go_simp) bH0 ?_
        simp only [Act.put, List.setIfInBounds_toArray, List.set_cons_zero, List.set_cons_succ]
        refine hr_take_w 7 (some 75) (.slice d.ko d.ks.length d.kc) rfl rfl (by kernel_rfl) (by kernel_rfl) (by kernel_rfl) rfl (fun W hW => by obtain ⟨h0, h1, h2, h3⟩ := hW; go_simp) bH0 ?_
        simp only [Act.put, List.setIfInBounds_toArray, List.set_cons_zero, List.set_cons_succ]
        refine hr_take_w 8 (some 76) (.int .i64 i) rfl rfl (by kernel_rfl) (by kernel_rfl) (by kernel_rfl) rfl (fun W hW => by obtain ⟨h0, h1, h2, h3⟩ := hW; go_simp) bH0 ?_
        simp only [Act.put, List.setIfInBounds_toArray, List.set_cons_zero, List.set_cons_succ]
        refine hr_take_w 9 (some 77) (.slice (bk d.ko d.kc i) (d.ks.length - i) (d.kc - i)) rfl rfl (by kernel_rfl) (by kernel_rfl) (by kernel_rfl) rfl (fun W hW => by obtain ⟨h0, h1, h2, h3⟩ := hW; simp [execOp, Act.eval, GK]) bH0 ?_
        simp only [Act.put, List.setIfInBounds_toArray, List.set_cons_zero, List.set_cons_succ]
        refine hr_take_w 10 (some 78) (.pointer (some ⟨d.b, 0, none⟩)) rfl rfl (by kernel_rfl) (by kernel_rfl) (by kernel_rfl) rfl (fun W hW => by obtain ⟨h0, h1, h2, h3⟩ := hW; go_simp) bH0 ?_
        simp only [Act.put, List.setIfInBounds_toArray, List.set_cons_zero, List.set_cons_succ]
        refine hr_take_w 11 (some 79) (.pointer (some ⟨d.b, 0, none⟩)) rfl rfl (by kernel_rfl) (by kernel_rfl) (by kernel_rfl) rfl (fun W hW => by obtain ⟨h0, h1, h2, h3⟩ := hW; go_simp) bH0 ?_
        simp only [Act.put, List.setIfInBounds_toArray, List.set_cons_zero, List.set_cons_succ]
        refine hr_take_w 12 (some 80) (.pointer (some ⟨d.b, 2, none⟩)) rfl rfl (by kernel_rfl) (by kernel_rfl) (by kernel_rfl) rfl (fun W hW => by obtain ⟨h0, h1, h2, h3⟩ := hW; go_simp) bH0 ?_
        simp only [Act.put, List.setIfInBounds_toArray, List.set_cons_zero, List.set_cons_succ]
        refine hr_take_w 13 (some 81) (.slice d.vo d.vs.length d.vc) rfl rfl (by kernel_rfl) (by kernel_rfl) (by kernel_rfl) rfl (fun W hW => by obtain ⟨h0, h1, h2, h3⟩ := hW; go_simp) bH0 ?_
        simp only [Act.put, List.setIfInBounds_toArray, List.set_cons_zero, List.set_cons_succ]
        refine hr_take_w 14 (some 82) (.int .i64 i) rfl rfl (by kernel_rfl) (by kernel_rfl) (by kernel_rfl) rfl (fun W hW => by obtain ⟨h0, h1, h2, h3⟩ := hW; go_simp) bH0 ?_
        simp only [Act.put, List.setIfInBounds_toArray, List.set_cons_zero, List.set_cons_succ]
        refine hr_take_w 15 (some 83) (.slice (bk d.vo d.vc i) (d.vs.length - i) (d.vc - i)) rfl rfl (by kernel_rfl) (by kernel_rfl) (by kernel_rfl) rfl (fun W hW => by obtain ⟨h0, h1, h2, h3⟩ := hW; simp [execOp, Act.eval, GV]) bH0 ?_
        simp only [Act.put, List.setIfInBounds_toArray, List.set_cons_zero, List.set_cons_succ]
        refine hr_take_w 16 (some 84) (.pointer (some ⟨d.b, 0, none⟩)) rfl rfl (by kernel_rfl) (by kernel_rfl) (by kernel_rfl) rfl (fun W hW => by obtain ⟨h0, h1, h2, h3⟩ := hW; go_simp) bH0 ?_
        simp only [Act.put, List.setIfInBounds_toArray, List.set_cons_zero, List.set_cons_succ]
        refine hr_take_w 17 (some 85) (.pointer (some ⟨d.b, 0, none⟩)) rfl rfl (by kernel_rfl) (by kernel_rfl) (by kernel_rfl) rfl (fun W hW => by obtain ⟨h0, h1, h2, h3⟩ := hW; go_simp) bH0 ?_
        simp only [Act.put, List.setIfInBounds_toArray, List.set_cons_zero, List.set_cons_succ]
        refine hr_take_w 18 (some 86) (.pointer (some ⟨d.b, 3, none⟩)) rfl rfl (by kernel_rfl) (by kernel_rfl) (by kernel_rfl) rfl (fun W hW => by obtain ⟨h0, h1, h2, h3⟩ := hW; go_simp) bH0 ?_
        simp only [Act.put, List.setIfInBounds_toArray, List.set_cons_zero, List.set_cons_succ]
        refine hr_take_w 19 (some 87) (.slice d.co d.cs.length d.cc) rfl rfl (by kernel_rfl) (by kernel_rfl) (by kernel_rfl) rfl (fun W hW => by obtain ⟨h0, h1, h2, h3⟩ := hW; go_simp) bH0 ?_
        simp only [Act.put, List.setIfInBounds_toArray, List.set_cons_zero, List.set_cons_succ]
        refine hr_take_w 20 (some 88) (.int .i64 i) rfl rfl (by kernel_rfl) (by kernel_rfl) (by kernel_rfl) rfl (fun W hW => by obtain ⟨h0, h1, h2, h3⟩ := hW; go_simp) bH0 ?_
        simp only [Act.put, List.setIfInBounds_toArray, List.set_cons_zero, List.set_cons_succ]
        refine hr_take_w 21 (some 89) (.slice (bk d.co d.cc i) (d.cs.length - i) (d.cc - i)) rfl rfl (by kernel_rfl) (by kernel_rfl) (by kernel_rfl) rfl (fun W hW => by obtain ⟨h0, h1, h2, h3⟩ := hW; simp [execOp, Act.eval, GC]) bH0 ?_
        simp only [Act.put, List.setIfInBounds_toArray, List.set_cons_zero, List.set_cons_succ]
        refine hr_take_w 22 (some 90) (.pointer p2) rfl rfl (by kernel_rfl) (by kernel_rfl) (by kernel_rfl) rfl (fun W hW => by obtain ⟨h0, h1, h2, h3⟩ := hW; go_simp) bH0 ?_
        simp only [Act.put, List.setIfInBounds_toArray, List.set_cons_zero, List.set_cons_succ]
        refine hr_ex 23 (some 91) rfl rfl (by kernel_rfl) rfl (R := fun v w' => ∃ g, v = .slice (some ⟨g, 0, none⟩) 1 1 ∧ VL w' (some ⟨g, 0, none⟩) 1 1 [.pointer p2] ∧ Below bv0.heap.size bv0 w') (⟨_, _, by go_simp, _, rfl, VL.new bv0 [.pointer p2] 85 (by simp [maxLen]), (Below.refl _ _).alloc (Nat.le_refl _) _⟩) ?_
        rintro v bv1 ⟨bg0, rfl, bG0, bC0⟩
        have bE1 := bE0.trans (bC0.mono bE0.size)
        have bH1 := bHS.out bv1 bE1
        refine ⟨bH1, ?_⟩
        simp only [Act.put, List.setIfInBounds_toArray, List.set_cons_zero, List.set_cons_succ]
        refine hr_call_w 24 (some 92) 135 #[.slice (bk d.co d.cc i) (d.cs.length - i) (d.cc - i), .int .i64 0, .int .i64 1, .slice (some ⟨bg0, 0, none⟩) 1 1] rfl rfl (by kernel_rfl) rfl (by go_simp) (fun v w' => ∃ ro2 rc2, v = .slice ro2 (0 + 1 + (d.cs.length - i - 1)) rc2 ∧ VL w' ro2 (0 + 1 + (d.cs.length - i - 1)) rc2 ((d.cs.drop i).take 0 ++ [.pointer p2] ++ (d.cs.drop i).drop 1) ∧ Below bv1.heap.size bv1 w') ((chgN_any bv1 (bk d.co d.cc i) (some ⟨bg0, 0, none⟩) (d.cs.length - i) (d.cc - i) 1 1 0 1 (d.cs.drop i) [.pointer p2] ((N2.ok.cl.below bE1).from i (by omega)) bG0 (fun y hy => N2.one y (List.mem_of_mem_drop hy)) (by intro y hy; rw [List.mem_singleton.1 hy]; rfl) (by omega) (by omega) (by omega)).mono (by
          rintro e w' ⟨ro2, rc2, rfl, F, C⟩
          exact ⟨_, rfl, ro2, rc2, rfl, F, C⟩)) ?_
        rintro v bv2 ⟨ro2, rc2, rfl, bF1, bC1⟩
        have bE2 := bE1.trans (bC1.mono bE1.size)
        have bH2 := bHS.out bv2 bE2
        clear bG0
        refine ⟨bH2, ?_⟩
        simp only [Act.put, List.setIfInBounds_toArray, List.set_cons_zero, List.set_cons_succ]
        refine hr_take_w 25 (some 93) (.agg #[.int .i64 d.L, .slice (bk d.ko d.kc i) (d.ks.length - i) (d.kc - i), .slice (bk d.vo d.vc i) (d.vs.length - i) (d.vc - i), .slice ro2 (0 + 1 + (d.cs.length - i - 1)) rc2]) rfl rfl (by kernel_rfl) (by kernel_rfl) (by kernel_rfl) rfl (fun W hW => by obtain ⟨h0, h1, h2, h3⟩ := hW; go_simp) bH2 ?_
        simp only [Act.put, List.setIfInBounds_toArray, List.set_cons_zero, List.set_cons_succ]
        refine hr_ex 26 (some 94) rfl rfl (by kernel_rfl) rfl (R := fun v w' => ∃ g, v = .pointer (some ⟨g, 0, none⟩) ∧ w'.heap[g]? = some (.cells #[.int .i64 d.L, .slice (bk d.ko d.kc i) (d.ks.length - i) (d.kc - i), .slice (bk d.vo d.vc i) (d.vs.length - i) (d.vc - i), .slice ro2 (0 + 1 + (d.cs.length - i - 1)) rc2] 119) ∧ Below bv2.heap.size bv2 w') (⟨_, _, by go_simp, _, rfl, heap_alloc_new bv2 _, (Below.refl _ _).alloc (Nat.le_refl _) _⟩) ?_
        rintro v bv3 ⟨bg2, rfl, bG2, bC2⟩
        have bE3 := bE2.trans (bC2.mono bE2.size)
        have bH3 := bHS.out bv3 bE3
        refine ⟨bH3, ?_⟩
        simp only [Act.put, List.setIfInBounds_toArray, List.set_cons_zero, List.set_cons_succ]
        refine hr_take_w 27 (some 5) (.pointer (some ⟨bg2, 0, none⟩)) rfl rfl (by kernel_rfl) (by kernel_rfl) (by kernel_rfl) rfl (fun W hW => by obtain ⟨h0, h1, h2, h3⟩ := hW; go_simp) bH3 ?_
        simp only [Act.put, List.setIfInBounds_toArray, List.set_cons_zero, List.set_cons_succ]
        refine wpAnyH_done (by kernel_rfl) ?_ _
        refine NoPanic.normal ?_
        have tr : T bv3 (.pointer (some ⟨bg2, 0, none⟩)) (hi key s ++ B) := by
          have k3 := bF1.below bC2
          rw [show (d.cs.drop i).take 0 ++ [.pointer p2] ++ (d.cs.drop i).drop 1 = .pointer p2 :: d.cs.drop (i + 1) from by simp] at k3
          have N3 := N2.below bE3
          exact T.make bG2 (N3.ok.kl.from i (by omega)) (N3.ok.vl.from i (by omega)) k3 (c.back (by omega) (fun x hx => c.ls x (mem_hi.1 hx).1)) (by rw [List.map_drop, List.map_drop, N3.ek]) (by rw [List.map_drop, List.map_drop, N3.ev]) (Kids.cons (T2.below bE3) (N3.kids.drop (i + 1)))
        have B4 : Below w.heap.size w bv3 := B2.trans (bE3.mono B2.size)
        clear bF1 bG2
        go_wp2
        go_ret2
        refine ⟨_, _, rfl, ?_, ?_, B4⟩
        · rw [hlo.out]
          exact by rw [hAn.out, List.nil_append]; exact T1.below bE3
        · rw [hhi.out]
          exact tr
end Go.Proofs.YtnicnfjickknjaaGreatDoor

namespace Go.Proofs.YtnicnfjickknjaaGreatDoor
open Go.RowKit

set_option maxHeartbeats 1000000 in
set_option maxRecDepth 100000 in
theorem withKid_any (w : World) (l : List It) (d : Nd) (segs : List (List It)) (xs : List It) (h : Nod w l d segs xs) (i : Nat) (s A B s' : List It) (c : Cut lev l d.L segs xs i s A B) (u : Value) (hu : T w u s') (hs' : ∀ x ∈ s', lev x.k < d.L) (hn : l.length ≤ 100000) :
    Calls Tryz.prog 133 #[d.ptr, .int .i64 i, u] w (RetT w (A ++ (s' ++ B))) := by
  have hm := h.many
  have hc := h.nc
  have hle := c.le
  have hi : (i : Int) ≤ 100000 := by omega
  have hi0 : (0 : Int) ≤ (i : Int) := by omega
  have hw : IntKind.i64.wrap ((i : Int) + 1) = (i : Int) + 1 := by have := wrap_nat (k := i + 1) (by omega); simpa using this
  obtain ⟨po, rfl⟩ := hu.ptr
  unfold Nd.ptr
  go_enter Tryz.func133, Tryz.ntmps133
  go_wp2
  have HS : Hid (∀ V, Below w.heap.size w V → V.cell? ⟨d.b, 0, none⟩ = some (.int .i64 d.L) ∧ V.cell? ⟨d.b, 1, none⟩ = some (.slice d.ko d.ks.length d.kc) ∧ V.cell? ⟨d.b, 2, none⟩ = some (.slice d.vo d.vs.length d.vc) ∧ V.cell? ⟨d.b, 3, none⟩ = some (.slice d.co d.cs.length d.cc)) := fun V hV => ⟨(h.ok.below hV).c0, (h.ok.below hV).c1, (h.ok.below hV).c2, (h.ok.below hV).c3⟩
  have E0 : Below w.heap.size w w.drew := (Below.refl _ _).drew
  refine wp_region_noPanic ?_
  refine wp_region_held_drew (S := fun V => V.cell? ⟨d.b, 0, none⟩ = some (.int .i64 d.L) ∧ V.cell? ⟨d.b, 1, none⟩ = some (.slice d.ko d.ks.length d.kc) ∧ V.cell? ⟨d.b, 2, none⟩ = some (.slice d.vo d.vs.length d.vc) ∧ V.cell? ⟨d.b, 3, none⟩ = some (.slice d.co d.cs.length d.cc)) (by kernel_rfl) (HS.out _ E0) (fun H0 => ?_)
  obtain ⟨v0, hv0⟩ : ∃ v, v = w.drew := ⟨_, rfl⟩
  rw [← hv0] at H0 E0 ⊢
  clear hv0
  refine hr_take_w 0 (some 7) (.pointer (some ⟨d.b, 0, none⟩)) rfl rfl (by kernel_rfl) (by kernel_rfl) (by kernel_rfl) rfl (fun W hW => by obtain ⟨h0, h1, h2, h3⟩ := hW; go_simp) H0 ?_
  simp only [Act.put, List.setIfInBounds_toArray, List.set_cons_zero, List.set_cons_succ]
  refine hr_take_w 1 (some 8) (.pointer (some ⟨d.b, 0, none⟩)) rfl rfl (by kernel_rfl) (by kernel_rfl) (by kernel_rfl) rfl (fun W hW => by obtain ⟨h0, h1, h2, h3⟩ := hW; go_simp) H0 ?_
  simp only [Act.put, List.setIfInBounds_toArray, List.set_cons_zero, List.set_cons_succ]
  refine hr_take_w 2 (some 9) (.pointer (some ⟨d.b, 0, none⟩)) rfl rfl (by kernel_rfl) (by kernel_rfl) (by kernel_rfl) rfl (fun W hW => by obtain ⟨h0, h1, h2, h3⟩ := hW; go_simp) H0 ?_
  simp only [Act.put, List.setIfInBounds_toArray, List.set_cons_zero, List.set_cons_succ]
  refine hr_take_w 3 (some 10) (.int .i64 d.L) rfl rfl (by kernel_rfl) (by kernel_rfl) (by kernel_rfl) rfl (fun W hW => by obtain ⟨h0, h1, h2, h3⟩ := hW; go_simp) H0 ?_
  simp only [Act.put, List.setIfInBounds_toArray, List.set_cons_zero, List.set_cons_succ]
  refine hr_take_w 4 (some 11) (.pointer (some ⟨d.b, 0, none⟩)) rfl rfl (by kernel_rfl) (by kernel_rfl) (by kernel_rfl) rfl (fun W hW => by obtain ⟨h0, h1, h2, h3⟩ := hW; go_simp) H0 ?_
  simp only [Act.put, List.setIfInBounds_toArray, List.set_cons_zero, List.set_cons_succ]
  refine hr_take_w 5 (some 12) (.pointer (some ⟨d.b, 0, none⟩)) rfl rfl (by kernel_rfl) (by kernel_rfl) (by kernel_rfl) rfl (fun W hW => by obtain ⟨h0, h1, h2, h3⟩ := hW; go_simp) H0 ?_
  simp only [Act.put, List.setIfInBounds_toArray, List.set_cons_zero, List.set_cons_succ]
  refine hr_take_w 6 (some 13) (.pointer (some ⟨d.b, 1, none⟩)) rfl rfl (by kernel_rfl) (by kernel_rfl) (by kernel_rfl) rfl (fun W hW => by obtain ⟨h0, h1, h2, h3⟩ := hW; go_simp) H0 ?_
  simp only [Act.put, List.setIfInBounds_toArray, List.set_cons_zero, List.set_cons_succ]
  refine hr_take_w 7 (some 14) (.slice d.ko d.ks.length d.kc) rfl rfl (by kernel_rfl) (by kernel_rfl) (by kernel_rfl) rfl (fun W hW => by obtain ⟨h0, h1, h2, h3⟩ := hW; go_simp) H0 ?_
  simp only [Act.put, List.setIfInBounds_toArray, List.set_cons_zero, List.set_cons_succ]
  refine hr_take_w 8 (some 15) (.pointer (some ⟨d.b, 0, none⟩)) rfl rfl (by kernel_rfl) (by kernel_rfl) (by kernel_rfl) rfl (fun W hW => by obtain ⟨h0, h1, h2, h3⟩ := hW; go_simp) H0 ?_
  simp only [Act.put, List.setIfInBounds_toArray, List.set_cons_zero, List.set_cons_succ]
  refine hr_take_w 9 (some 16) (.pointer (some ⟨d.b, 0, none⟩)) rfl rfl (by kernel_rfl) (by kernel_rfl) (by kernel_rfl) rfl (fun W hW => by obtain ⟨h0, h1, h2, h3⟩ := hW; go_simp) H0 ?_
  simp only [Act.put, List.setIfInBounds_toArray, List.set_cons_zero, List.set_cons_succ]
  refine hr_take_w 10 (some 17) (.pointer (some ⟨d.b, 2, none⟩)) rfl rfl (by kernel_rfl) (by kernel_rfl) (by kernel_rfl) rfl (fun W hW => by obtain ⟨h0, h1, h2, h3⟩ := hW; go_simp) H0 ?_
  simp only [Act.put, List.setIfInBounds_toArray, List.set_cons_zero, List.set_cons_succ]
  refine hr_take_w 11 (some 18) (.slice d.vo d.vs.length d.vc) rfl rfl (by kernel_rfl) (by kernel_rfl) (by kernel_rfl) rfl (fun W hW => by obtain ⟨h0, h1, h2, h3⟩ := hW; go_simp) H0 ?_
  simp only [Act.put, List.setIfInBounds_toArray, List.set_cons_zero, List.set_cons_succ]
  refine hr_take_w 12 (some 19) (.pointer (some ⟨d.b, 0, none⟩)) rfl rfl (by kernel_rfl) (by kernel_rfl) (by kernel_rfl) rfl (fun W hW => by obtain ⟨h0, h1, h2, h3⟩ := hW; go_simp) H0 ?_
  simp only [Act.put, List.setIfInBounds_toArray, List.set_cons_zero, List.set_cons_succ]
  refine hr_take_w 13 (some 20) (.pointer (some ⟨d.b, 0, none⟩)) rfl rfl (by kernel_rfl) (by kernel_rfl) (by kernel_rfl) rfl (fun W hW => by obtain ⟨h0, h1, h2, h3⟩ := hW; go_simp) H0 ?_
  simp only [Act.put, List.setIfInBounds_toArray, List.set_cons_zero, List.set_cons_succ]
  refine hr_take_w 14 (some 21) (.pointer (some ⟨d.b, 3, none⟩)) rfl rfl (by kernel_rfl) (by kernel_rfl) (by kernel_rfl) rfl (fun W hW => by obtain ⟨h0, h1, h2, h3⟩ := hW; go_simp) H0 ?_
  simp only [Act.put, List.setIfInBounds_toArray, List.set_cons_zero, List.set_cons_succ]
  refine hr_take_w 15 (some 22) (.slice d.co d.cs.length d.cc) rfl rfl (by kernel_rfl) (by kernel_rfl) (by kernel_rfl) rfl (fun W hW => by obtain ⟨h0, h1, h2, h3⟩ := hW; go_simp) H0 ?_
  simp only [Act.put, List.setIfInBounds_toArray, List.set_cons_zero, List.set_cons_succ]
  refine hr_take_w 16 (some 23) (.int .i64 i) rfl rfl (by kernel_rfl) (by kernel_rfl) (by kernel_rfl) rfl (fun W hW => by obtain ⟨h0, h1, h2, h3⟩ := hW; go_simp) H0 ?_
  simp only [Act.put, List.setIfInBounds_toArray, List.set_cons_zero, List.set_cons_succ]
  refine hr_take_w 17 (some 24) (.int .i64 i) rfl rfl (by kernel_rfl) (by kernel_rfl) (by kernel_rfl) rfl (fun W hW => by obtain ⟨h0, h1, h2, h3⟩ := hW; go_simp) H0 ?_
  simp only [Act.put, List.setIfInBounds_toArray, List.set_cons_zero, List.set_cons_succ]
  refine hr_take_w 18 (some 25) (.int .i64 ((i + 1 : Nat) : Int)) rfl rfl (by kernel_rfl) (by kernel_rfl) (by kernel_rfl) rfl (fun W hW => by obtain ⟨h0, h1, h2, h3⟩ := hW; go_simp) H0 ?_
  simp only [Act.put, List.setIfInBounds_toArray, List.set_cons_zero, List.set_cons_succ]
  refine hr_take_w 19 (some 26) (.pointer po) rfl rfl (by kernel_rfl) (by kernel_rfl) (by kernel_rfl) rfl (fun W hW => by obtain ⟨h0, h1, h2, h3⟩ := hW; go_simp) H0 ?_
  simp only [Act.put, List.setIfInBounds_toArray, List.set_cons_zero, List.set_cons_succ]
  refine hr_ex 20 (some 27) rfl rfl (by kernel_rfl) rfl (R := fun v w' => ∃ g, v = .slice (some ⟨g, 0, none⟩) 1 1 ∧ VL w' (some ⟨g, 0, none⟩) 1 1 [.pointer po] ∧ Below v0.heap.size v0 w') (⟨_, _, by go_simp, _, rfl, VL.new v0 [.pointer po] 85 (by simp [maxLen]), (Below.refl _ _).alloc (Nat.le_refl _) _⟩) ?_
  rintro v v1 ⟨g0, rfl, G0, C0⟩
  have E1 := E0.trans (C0.mono E0.size)
  have H1 := HS.out v1 E1
  refine ⟨H1, ?_⟩
  simp only [Act.put, List.setIfInBounds_toArray, List.set_cons_zero, List.set_cons_succ]
  refine hr_call_w 21 (some 28) 135 #[.slice d.co d.cs.length d.cc, .int .i64 i, .int .i64 ((i + 1 : Nat) : Int), .slice (some ⟨g0, 0, none⟩) 1 1] rfl rfl (by kernel_rfl) rfl (by go_simp) (fun v w' => ∃ ro rc, v = .slice ro (i + 1 + (d.cs.length - (i + 1))) rc ∧ VL w' ro (i + 1 + (d.cs.length - (i + 1))) rc (d.cs.take i ++ [.pointer po] ++ d.cs.drop (i + 1)) ∧ Below v1.heap.size v1 w') ((chgN_any v1 d.co (some ⟨g0, 0, none⟩) d.cs.length d.cc 1 1 i (i + 1) d.cs [.pointer po] (h.ok.cl.below E1) G0 h.one (by intro y hy; rw [List.mem_singleton.1 hy]; exact hu.one) (by omega) (by omega) (by omega)).mono (by
    rintro e w' ⟨ro, rc, rfl, F, C⟩
    exact ⟨_, rfl, ro, rc, rfl, F, C⟩)) ?_
  rintro v v2 ⟨ro, rc, rfl, F1, C1⟩
  have E2 := E1.trans (C1.mono E1.size)
  have H2 := HS.out v2 E2
  clear G0
  refine ⟨H2, ?_⟩
  simp only [Act.put, List.setIfInBounds_toArray, List.set_cons_zero, List.set_cons_succ]
  refine hr_take_w 22 (some 29) (.agg #[.int .i64 d.L, .slice d.ko d.ks.length d.kc, .slice d.vo d.vs.length d.vc, .slice ro (i + 1 + (d.cs.length - (i + 1))) rc]) rfl rfl (by kernel_rfl) (by kernel_rfl) (by kernel_rfl) rfl (fun W hW => by obtain ⟨h0, h1, h2, h3⟩ := hW; go_simp) H2 ?_
  simp only [Act.put, List.setIfInBounds_toArray, List.set_cons_zero, List.set_cons_succ]
  refine hr_ex 23 (some 30) rfl rfl (by kernel_rfl) rfl (R := fun v w' => ∃ g, v = .pointer (some ⟨g, 0, none⟩) ∧ w'.heap[g]? = some (.cells #[.int .i64 d.L, .slice d.ko d.ks.length d.kc, .slice d.vo d.vs.length d.vc, .slice ro (i + 1 + (d.cs.length - (i + 1))) rc] 119) ∧ Below v2.heap.size v2 w') (⟨_, _, by go_simp, _, rfl, heap_alloc_new v2 _, (Below.refl _ _).alloc (Nat.le_refl _) _⟩) ?_
  rintro v v3 ⟨g2, rfl, G2, C2⟩
  have E3 := E2.trans (C2.mono E2.size)
  have H3 := HS.out v3 E3
  refine ⟨H3, ?_⟩
  simp only [Act.put, List.setIfInBounds_toArray, List.set_cons_zero, List.set_cons_succ]
  refine hr_take_w 24 (some 6) (.pointer (some ⟨g2, 0, none⟩)) rfl rfl (by kernel_rfl) (by kernel_rfl) (by kernel_rfl) rfl (fun W hW => by obtain ⟨h0, h1, h2, h3⟩ := hW; go_simp) H3 ?_
  simp only [Act.put, List.setIfInBounds_toArray, List.set_cons_zero, List.set_cons_succ]
  refine wpAnyH_done (by kernel_rfl) ?_ _
  refine NoPanic.normal ?_
  go_wp2
  go_ret
  have k3 := F1.below C2
  rw [show d.cs.take i ++ [.pointer po] ++ d.cs.drop (i + 1) = d.cs.take i ++ .pointer po :: d.cs.drop (i + 1) from by simp] at k3
  have hk := h.kids.below E3
  exact ⟨_, rfl, T.make G2 (h.ok.kl.below E3) (h.ok.vl.below E3) k3 (c.set h.shp.pos hs') h.ek h.ev ((hk.take i).app (Kids.cons (hu.below E3) (hk.drop (i + 1)))), E3⟩
end Go.Proofs.YtnicnfjickknjaaGreatDoor

namespace Go
open Go.RowKit
/-- How many of the first n are not listed. -/
def unL (L : Array Bool) : Nat → Nat
  | 0 => 0
  | n + 1 => unL L n + (if L.getD n true then 0 else 1)
theorem unL_set_ge {L : Array Bool} {i : Nat} : ∀ n, n ≤ i → unL (L.setIfInBounds i true) n = unL L n
  | 0, _ => rfl
  | n + 1, h => by rw [unL, unL, unL_set_ge n (by omega), getD_set_ne true (by omega)]
theorem unL_set {L : Array Bool} {i : Nat} (hL : L.getD i true = false) : ∀ n, i < n → unL (L.setIfInBounds i true) n + 1 = unL L n
  | 0, h => by omega
  | n + 1, h => by
    rw [unL, unL]
    by_cases hn : n = i
    · subst hn
      have hlt : n < L.size := by
        by_cases h' : n < L.size
        · exact h'
        · simp [Array.getElem?_eq_none (Nat.le_of_not_lt h')] at hL
      have h2 : (L.setIfInBounds n true).getD n true = true := by simp [hlt]
      rw [unL_set_ge n (Nat.le_refl _), h2, hL]
      simp
    · have := unL_set hL n (by omega)
      rw [getD_set_ne true (fun e => hn e.symm)]
      omega
theorem unL_zero {L : Array Bool} : ∀ n, unL L n = 0 → ∀ i, i < n → L.getD i true = true
  | 0, _, i, h => by omega
  | n + 1, h0, i, h => by
    rw [unL] at h0
    by_cases hn : i = n
    · subst hn
      by_cases hc : L.getD i true = true
      · exact hc
      · rw [if_neg hc] at h0
        omega
    · exact unL_zero n (by omega) i (by omega)
/-- What an operation with an effect comes to. -/
def EffRun (P : Program) (o : Oper) (a : Act) (w : World) (R : Value → World → Prop) : Prop :=
  (∃ v w', (execOp a.eval o).run P w = .ok (.value v) w' ∧ R v w') ∨
  (∃ f args, (execOp a.eval o).run P w = .ok (.enter f args) w ∧ Calls P f args w fun e w' => ∃ v, e = .returned v ∧ R v w')
/-- All other slots are as they were. -/
structure EffSame (ops : Array Oper) (L0 : Array Bool) (a0 a : Act) : Prop where
  defers : a.defers = a0.defers
  size : a.tmps.size = a0.tmps.size
  same : ∀ k, (∀ i o, ops[i]? = some o → L0.getD i true = false → o.dst ≠ some k) → a.tmps[k]? = a0.tmps[k]?
/-- Operation i has come up: what its slot holds. -/
def EffHas (ops : Array Oper) (F : Nat → Value → World → Prop) (a : Act) (w : World) (i : Nat) : Prop := ∃ o d v, ops[i]? = some o ∧ o.dst = some d ∧ a.tmps[d]? = some v ∧ F i v w

theorem EffHas.at {ops : Array Oper} {F : Nat → Value → World → Prop} {a : Act} {w : World} {i : Nat} (h : EffHas ops F a w i) (d : Nat) (hd : (ops[i]?).bind (·.dst) = some d) : ∃ v, a.tmps[d]? = some v ∧ F i v w := by
  obtain ⟨o, d', v, ho, hd', ht, hF⟩ := h
  rw [ho] at hd
  have : d' = d := by
    have h2 : o.dst = some d := hd
    rw [hd'] at h2
    exact Option.some.inj h2
  subst this
  exact ⟨v, ht, hF⟩
/-- The region's shape, as a test. -/
def effOk (ops : Array Oper) (L0 : Array Bool) (n : Nat) : Bool :=
  (List.range ops.size).all (fun i => match ops[i]? with
    | none => true
    | some o => o.after.all (fun e => !Region.binds .any e || decide (e.on < i)) && (L0.getD i true || (match o.dst with | some d => decide (d < n) | none => false) && o.guard.isNone &&
        (List.range ops.size).all fun j => j == i || L0.getD j true || (match ops[j]? with | some o' => o'.dst != o.dst | none => true)))
theorem effOk_spec {ops : Array Oper} {L0 : Array Bool} {n : Nat} (h : effOk ops L0 n = true) (i : Nat) (o : Oper) (ho : ops[i]? = some o) : (∀ e ∈ o.after, Region.binds .any e = true → e.on < i) ∧
    (L0.getD i true = false → (∃ d, o.dst = some d ∧ d < n ∧ o.guard = none) ∧ ∀ j o', ops[j]? = some o' → L0.getD j true = false → o'.dst = o.dst → j = i) := by
  have h1 := List.all_eq_true.1 h i (List.mem_range.2 (Array.getElem?_eq_some_iff.1 ho).1)
  simp only [ho, Bool.and_eq_true] at h1
  obtain ⟨h2, h3⟩ := h1
  refine ⟨fun e he hb => ?_, fun hL => ?_⟩
  · have := Array.all_eq_true_iff_forall_mem.1 h2 e he
    simpa [hb] using this
  · rw [hL, Bool.false_or, Bool.and_eq_true, Bool.and_eq_true] at h3
    obtain ⟨⟨h4, h5⟩, h6⟩ := h3
    refine ⟨?_, fun j o' hj hLj he => ?_⟩
    · cases hd : o.dst with
      | none => rw [hd] at h4; simp at h4
      | some d => rw [hd] at h4; exact ⟨d, rfl, by simpa using h4, Option.isNone_iff_eq_none.1 h5⟩
    · have h7 := List.all_eq_true.1 h6 j (List.mem_range.2 (Array.getElem?_eq_some_iff.1 hj).1)
      by_cases hji : j = i
      · exact hji
      · rw [hLj, hj] at h7
        simp only [he, bne_self_eq_false, Bool.or_false, beq_iff_eq] at h7
        exact h7
/-- Slots that no such operation writes. -/
def effNot (ops : Array Oper) (L0 : Array Bool) (k : Nat) : Bool :=
  (List.range ops.size).all fun i => L0.getD i true || (match ops[i]? with | some o => o.dst != some k | none => true)
theorem EffSame.get {ops : Array Oper} {L0 : Array Bool} {a0 a : Act} (h : EffSame ops L0 a0 a) (k : Nat) {v : Value} (hk : effNot ops L0 k = true) (h0 : a0.tmps[k]? = some v) : a.tmps[k]? = some v := by
  rw [h.same k (fun i o ho hL he => ?_)]
  · exact h0
  · have h1 := List.all_eq_true.1 hk i (List.mem_range.2 (Array.getElem?_eq_some_iff.1 ho).1)
    rw [hL, ho] at h1
    simp [he] at h1
/-- Which are not listed. -/
def effAll (ops : Array Oper) (L0 : Array Bool) : List Nat := (List.range ops.size).filter fun i => !L0.getD i true
theorem mem_effAll {ops : Array Oper} {L0 : Array Bool} {i : Nat} {o : Oper} (ho : ops[i]? = some o) (hL : L0.getD i true = false) : i ∈ effAll ops L0 :=
  List.mem_filter.2 ⟨List.mem_range.2 (Array.getElem?_eq_some_iff.1 ho).1, by rw [hL]; rfl⟩

theorem wpAnyH_eff {P : Program} {ops : Array Oper} {S : World → Prop} {Q : Exit → Act → World → Prop} {a0 : Act} {W0 : World} {L0 : Array Bool} (F : Nat → Value → World → Prop)
    (mono : ∀ i v w w', F i v w → Below w.heap.size w w' → F i v w')
    (hS : ∀ w, Below W0.heap.size W0 w → S w)
    (hback : ∀ i o, ops[i]? = some o → ∀ e ∈ o.after, Region.binds .any e = true → e.on < i)
    (hd : ∀ i o, ops[i]? = some o → L0.getD i true = false → ∃ d, o.dst = some d ∧ d < a0.tmps.size ∧ o.guard = none)
    (inj : ∀ i j o o' d, ops[i]? = some o → ops[j]? = some o' → L0.getD i true = false → L0.getD j true = false → o.dst = some d → o'.dst = some d → i = j)
    (step : ∀ i o a w, ops[i]? = some o → L0.getD i true = false → EffSame ops L0 a0 a → Below W0.heap.size W0 w → (∀ j, o.after.any (fun e => Region.binds .any e && e.on == j) = true → L0.getD j true = false → EffHas ops F a w j) → EffRun P o a w (fun v w' => F i v w' ∧ Below w.heap.size w w'))
    (fin : ∀ a w, EffSame ops L0 a0 a → Below W0.heap.size W0 w → (∀ i, i < ops.size → L0.getD i true = false → EffHas ops F a w i) → Q .normal a w) :
    ∀ (fuel : Nat) (L : Array Bool) (a : Act) (w : World), unL L ops.size ≤ fuel → L.size = ops.size → L0.size = ops.size → EffSame ops L0 a0 a → Below W0.heap.size W0 w →
      (∀ i, i < ops.size → L.getD i true = true → L0.getD i true = true ∨ EffHas ops F a w i) → (∀ i, L0.getD i true = true → L.getD i true = true) → wpAnyH P .any ops (NoPanic Q) S fuel L a w := by
  intro fuel
  induction fuel with
  | zero =>
    intro L a w hu hL hL0 hs hb hh hm
    have hz := unL_zero ops.size (by omega : unL L ops.size = 0)
    have hr : Region.ready .any ops L = [] := by
      refine List.eq_nil_iff_forall_not_mem.2 fun i hi => ?_
      obtain ⟨h1, o, ho, -⟩ := mem_ready.1 hi
      have := hz i (Array.getElem?_eq_some_iff.1 ho).1
      rw [h1] at this
      simp at this
    refine wpAnyH_done hr (NoPanic.normal (fin a w hs hb fun i hi he => ?_)) 0
    rcases hh i hi (hz i hi) with h | h
    · rw [he] at h
      simp at h
    · exact h
  | succ fuel ih =>
    intro L a w hu hL hL0 hs hb hh hm
    refine ⟨fun hr => NoPanic.normal (fin a w hs hb fun i hi he => ?_), fun i hi => ?_⟩
    · have hall : ∀ n, ∀ i, i < n → i < ops.size → L.getD i true = true := by
        intro n
        induction n with
        | zero => intro i h; omega
        | succ n ihn =>
          intro i hi hlt
          by_cases hin : i < n
          · exact ihn i hin hlt
          · obtain rfl : i = n := by omega
            by_cases hc : L.getD i true = true
            · exact hc
            · exfalso
              have hf : L.getD i true = false := by simpa using hc
              exact hc (by
                have : i ∈ Region.ready .any ops L := mem_ready.2 ⟨hf, ops[i], Array.getElem?_eq_getElem hlt, fun e he hbi => by
                  have h1 := hback i ops[i] (Array.getElem?_eq_getElem hlt) e he hbi
                  have h2 := ihn e.on h1 (by omega)
                  have h3 : e.on < L.size := by omega
                  simpa [h3] using h2⟩
                rw [hr] at this
                simp at this)
      rcases hh i hi (hall (i + 1) i (by omega) hi) with h | h
      · rw [he] at h
        simp at h
      · exact h
    · obtain ⟨h1, o, ho, hdep⟩ := mem_ready.1 hi
      have hlt := (Array.getElem?_eq_some_iff.1 ho).1
      have he : L0.getD i true = false := by
        by_cases hc : L0.getD i true = true
        · have := hm i hc
          rw [h1] at this
          simp at this
        · simpa using hc
      obtain ⟨d, hdo, hdl, hg⟩ := hd i o ho he
      have hw : Region.wanted o (yielded ops a.tmps) = true := by simp [Region.wanted, hg]
      have hrun := step i o a w ho he hs hb (fun j hj hef => by
        obtain ⟨e, hem, hbj⟩ := Array.any_eq_true'.1 hj
        simp only [Bool.and_eq_true, beq_iff_eq] at hbj
        obtain ⟨hbi, rfl⟩ := hbj
        have h2 := hdep e hem hbi
        have h3 := hback i o ho e hem hbi
        have h4 : e.on < L.size := by omega
        rcases hh e.on (by omega) (by simpa [h4] using h2) with h | h
        · rw [hef] at h
          simp at h
        · exact h)
      have next : ∀ v w', F i v w' ∧ Below w.heap.size w w' → S w' ∧ wpAnyH P .any ops (NoPanic Q) S fuel (L.setIfInBounds i true) (a.put (some d) v) w' := by
        rintro v w' ⟨hF, hb'⟩
        have hbw := hb.trans (hb'.mono hb.size)
        have hsz : (a.put (some d) v).tmps = a.tmps.setIfInBounds d v := rfl
        refine ⟨hS w' hbw, ih _ _ _ ?_ (by simpa using hL) hL0 ⟨hs.defers, by rw [hsz, Array.size_setIfInBounds]; exact hs.size, fun k hk => ?_⟩ hbw (fun j hj hjL => ?_) (fun j hj => ?_)⟩
        · have := unL_set h1 ops.size hlt
          omega
        · have hne : d ≠ k := fun e => hk i o ho he (by rw [hdo, e])
          rw [hsz, Array.getElem?_setIfInBounds_ne hne]
          exact hs.same k hk
        · by_cases hji : j = i
          · subst hji
            refine .inr ⟨o, d, v, ho, hdo, ?_, hF⟩
            rw [hsz, Array.getElem?_setIfInBounds_self_of_lt (by rw [hs.size]; exact hdl)]
          · rw [getD_set_ne true (fun e => hji e.symm)] at hjL
            rcases hh j hj hjL with h | ⟨o', d', v', ho', hd', ht', hF'⟩
            · exact .inl h
            · by_cases hc : L0.getD j true = true
              · exact .inl hc
              · have hjf : L0.getD j true = false := by simpa using hc
                refine .inr ⟨o', d', v', ho', hd', ?_, mono j v' w w' hF' hb'⟩
                have hne : d ≠ d' := fun e => hji (inj j i o' o d ho' ho hjf he (by rw [hd', e]) hdo)
                rw [hsz, Array.getElem?_setIfInBounds_ne hne]
                exact ht'
        · by_cases hji : j = i
          · subst hji
            rw [he] at hj
            simp at hj
          · rw [getD_set_ne true (fun e => hji e.symm)]
            exact hm j hj
      rcases hrun with ⟨v, w', hr, hR⟩ | ⟨f, args, hr, hc⟩
      · unfold wpOp
        simp only [ho, hw, if_true, Oper.wp, hr, Oper.upon, hdo]
        exact .inl (next v w' hR)
      · unfold wpOp
        simp only [ho, hw, if_true, Oper.wp, hr, Oper.upon, hdo]
        refine .inl (hc.mono ?_)
        rintro e w' ⟨v, rfl, hR⟩
        exact next v w' hR
/-- The same, the region's shape tested. -/
theorem wpAnyH_effs {P : Program} {ops : Array Oper} {S : World → Prop} {Q : Exit → Act → World → Prop} {a0 : Act} {W0 : World} {L0 : Array Bool} {fuel : Nat} (F : Nat → Value → World → Prop) (is : List Nat) (n : Nat)
    (hok : effOk ops L0 n = true) (hall : effAll ops L0 = is) (hu : unL L0 ops.size ≤ fuel) (hsz : L0.size = ops.size) (hn : n = a0.tmps.size)
    (mono : ∀ i v w w', F i v w → Below w.heap.size w w' → F i v w')
    (hS : ∀ w, Below W0.heap.size W0 w → S w)
    (step : ∀ i ∈ is, ∀ o a w, ops[i]? = some o → EffSame ops L0 a0 a → Below W0.heap.size W0 w → (∀ j, o.after.any (fun e => Region.binds .any e && e.on == j) = true → L0.getD j true = false → EffHas ops F a w j) → EffRun P o a w (fun v w' => F i v w' ∧ Below w.heap.size w w'))
    (fin : ∀ a w, EffSame ops L0 a0 a → Below W0.heap.size W0 w → (∀ i ∈ is, EffHas ops F a w i) → Q .normal a w) : wpAnyH P .any ops (NoPanic Q) S fuel L0 a0 W0 :=
  wpAnyH_eff F mono hS (fun i o ho => (effOk_spec hok i o ho).1) (fun i o ho hL => by subst hn; exact ((effOk_spec hok i o ho).2 hL).1)
    (fun i j o o' d ho ho' hL hL' hd hd' => ((effOk_spec hok j o' ho').2 hL').2 i o ho hL (hd.trans hd'.symm))
    (fun i o a w ho hL hs hb hdep => step i (by rw [← hall]; exact mem_effAll ho hL) o a w ho hs hb hdep)
    (fun a w hs hb hh => fin a w hs hb fun i hi => by
      rw [← hall] at hi
      obtain ⟨h1, h2⟩ := List.mem_filter.1 hi
      exact hh i (List.mem_range.1 h1) (by simpa using h2))
    fuel L0 a0 W0 hu hsz hsz ⟨rfl, rfl, fun _ _ => rfl⟩ (Below.refl _ _) (fun _ _ h => .inl h) (fun _ h => h)
end Go

namespace Go.Proofs.YtnicnfjickknjaaGreatDoor
open Go.RowKit

/-- A leaf in a block of its own. -/
structure Lf (w : World) (g : Nat) (lv : Nat) (a b : Value) : Prop where
  c0 : w.cell? ⟨g, 0, none⟩ = some (.int .i64 lv)
  c1 : w.cell? ⟨g, 1, none⟩ = some a
  c2 : w.cell? ⟨g, 2, none⟩ = some b
theorem Lf.below {w w' : World} {g lv : Nat} {a b : Value} (h : Lf w g lv a b) (hb : Below w.heap.size w w') : Lf w' g lv a b :=
  ⟨(hb.cell (World.block_lt_of_cell? _ _ h.c0)).trans h.c0, (hb.cell (World.block_lt_of_cell? _ _ h.c1)).trans h.c1, (hb.cell (World.block_lt_of_cell? _ _ h.c2)).trans h.c2⟩
theorem Lf.new (w : World) (lv : Nat) (a b : Value) (t : TypeId) : Lf (w.alloc (.cells #[.int .i64 lv, a, b] t)) w.heap.size lv a b :=
  ⟨cell_of_row _ _ 0 _ _ _ (heap_alloc_new w _), cell_of_row _ _ 1 _ _ _ (heap_alloc_new w _), cell_of_row _ _ 2 _ _ _ (heap_alloc_new w _)⟩
end Go.Proofs.YtnicnfjickknjaaGreatDoor

namespace Go.Proofs.YtnicnfjickknjaaGreatDoor
open Go.RowKit

set_option maxHeartbeats 4000000 in
set_option maxRecDepth 100000 in
theorem withV_any (w : World) (x : It) (xo yo : Option Addr) (xn xc yn yc : Nat) (hx : Sl w xo xn xc x.k) (hy : Sl w yo yn yc x.v) (l : List It) (d : Nd) (segs : List (List It)) (xs : List It) (h : Nod w l d segs xs) (hs : Srt l) (hn : l.length ≤ 100000) (hL : Hid (d.L = lev x.k)) (hh : Hid (∃ y ∈ xs, y.k = x.k)) :
    Calls Tryz.prog 124 #[d.ptr, .agg #[.int .i64 (lev x.k), .slice xo xn xc, .slice yo yn yc]] w (RetT w (ins l x)) := by
  have hl1 : lev x.k ≤ d.L := by have := hL.out; omega
  have hl2 : d.L ≤ lev x.k := by have := hL.out; omega
  have hm := h.many
  have hnk1 := Nat.le_of_eq h.nk
  have hnk2 := Nat.le_of_eq h.nk.symm
  have hnv1 := Nat.le_of_eq h.nv
  have hnv2 := Nat.le_of_eq h.nv.symm
  have hnc1 := Nat.le_of_eq h.nc
  have hnc2 := Nat.le_of_eq h.nc.symm
  have hpos := h.shp.pos
  have CP : ∀ V, Below w.heap.size w V → Calls Tryz.prog 79 #[d.ptr, .slice xo xn xc] V (Found V d.ks x.k) := fun V hV => place_any V d (h.ok.below hV) xo xn xc x.k (hx.below hV) (h.rise hs) (by omega)
  unfold Nd.ptr at CP ⊢
  go_enter Tryz.func124, Tryz.ntmps124
  go_wp2_with fail
  obtain ⟨w0, hw0⟩ : ∃ V, V = (w.alloc (.cells #[.int .i64 (lev x.k), .slice xo xn xc, .slice yo yn yc] 160)) := ⟨_, rfl⟩
  have L0 : Lf w0 w.heap.size (lev x.k) (.slice xo xn xc) (.slice yo yn yc) := by rw [hw0]; exact Lf.new ..
  have B0 : Below w.heap.size w w0 := by rw [hw0]; exact (Below.refl _ w).alloc (Nat.le_refl _) _
  rw [← hw0]
  obtain ⟨g, hg⟩ : ∃ g, g = w.heap.size := ⟨_, rfl⟩
  rw [← hg] at L0 ⊢
  clear hw0 hg
  have N0 := h.below B0
  have aHS : Hid (∀ V, Below w0.heap.size w0 V → V.cell? ⟨d.b, 0, none⟩ = some (.int .i64 d.L) ∧ V.cell? ⟨d.b, 1, none⟩ = some (.slice d.ko d.ks.length d.kc) ∧ V.cell? ⟨d.b, 2, none⟩ = some (.slice d.vo d.vs.length d.vc) ∧ V.cell? ⟨d.b, 3, none⟩ = some (.slice d.co d.cs.length d.cc) ∧ V.cell? ⟨g, 0, none⟩ = some (.int .i64 (lev x.k)) ∧ V.cell? ⟨g, 1, none⟩ = some (.slice xo xn xc) ∧ V.cell? ⟨g, 2, none⟩ = some (.slice yo yn yc)) := fun V hV => ⟨(N0.ok.below hV).c0, (N0.ok.below hV).c1, (N0.ok.below hV).c2, (N0.ok.below hV).c3, (L0.below hV).c0, (L0.below hV).c1, (L0.below hV).c2⟩
  have aE0 : Below w0.heap.size w0 w0.drew := (Below.refl _ _).drew
  refine wp_region_noPanic ?_
  refine wp_region_held_drew (S := fun V => V.cell? ⟨d.b, 0, none⟩ = some (.int .i64 d.L) ∧ V.cell? ⟨d.b, 1, none⟩ = some (.slice d.ko d.ks.length d.kc) ∧ V.cell? ⟨d.b, 2, none⟩ = some (.slice d.vo d.vs.length d.vc) ∧ V.cell? ⟨d.b, 3, none⟩ = some (.slice d.co d.cs.length d.cc) ∧ V.cell? ⟨g, 0, none⟩ = some (.int .i64 (lev x.k)) ∧ V.cell? ⟨g, 1, none⟩ = some (.slice xo xn xc) ∧ V.cell? ⟨g, 2, none⟩ = some (.slice yo yn yc)) (by kernel_rfl) (aHS.out _ aE0) (fun aH0 => ?_)
  obtain ⟨av0, hv0⟩ : ∃ v, v = w0.drew := ⟨_, rfl⟩
  rw [← hv0] at aH0 aE0 ⊢
  clear hv0
  refine hr_take_w 0 (some 11) (.pointer (some ⟨d.b, 0, none⟩)) rfl rfl (by kernel_rfl) (by kernel_rfl) (by kernel_rfl) rfl (fun W hW => by obtain ⟨h0, h1, h2, h3, h4, h5, h6⟩ := hW; go_simp) aH0 ?_
  simp only [Act.put, List.setIfInBounds_toArray, List.set_cons_zero, List.set_cons_succ]
  refine hr_take_w 1 (some 12) (.bool false) rfl rfl (by kernel_rfl) (by kernel_rfl) (by kernel_rfl) rfl (fun W hW => by obtain ⟨h0, h1, h2, h3, h4, h5, h6⟩ := hW; go_simp) aH0 ?_
  simp only [Act.put, List.setIfInBounds_toArray, List.set_cons_zero, List.set_cons_succ]
  refine hr_take_w 2 (some 13) (.bool false) rfl rfl (by kernel_rfl) (by kernel_rfl) (by kernel_rfl) rfl (fun W hW => by obtain ⟨h0, h1, h2, h3, h4, h5, h6⟩ := hW; go_simp) aH0 ?_
  simp only [Act.put, List.setIfInBounds_toArray, List.set_cons_zero, List.set_cons_succ]
  refine hr_take_w 3 (some 14) (.pointer (some ⟨d.b, 0, none⟩)) rfl rfl (by kernel_rfl) (by kernel_rfl) (by kernel_rfl) rfl (fun W hW => by obtain ⟨h0, h1, h2, h3, h4, h5, h6⟩ := hW; go_simp) aH0 ?_
  simp only [Act.put, List.setIfInBounds_toArray, List.set_cons_zero, List.set_cons_succ]
  refine hr_take_w 4 (some 15) (.pointer (some ⟨d.b, 0, none⟩)) rfl rfl (by kernel_rfl) (by kernel_rfl) (by kernel_rfl) rfl (fun W hW => by obtain ⟨h0, h1, h2, h3, h4, h5, h6⟩ := hW; go_simp) aH0 ?_
  simp only [Act.put, List.setIfInBounds_toArray, List.set_cons_zero, List.set_cons_succ]
  refine hr_take_w 5 (some 16) (.pointer (some ⟨d.b, 0, none⟩)) rfl rfl (by kernel_rfl) (by kernel_rfl) (by kernel_rfl) rfl (fun W hW => by obtain ⟨h0, h1, h2, h3, h4, h5, h6⟩ := hW; go_simp) aH0 ?_
  simp only [Act.put, List.setIfInBounds_toArray, List.set_cons_zero, List.set_cons_succ]
  refine hr_take_w 6 (some 17) (.int .i64 d.L) rfl rfl (by kernel_rfl) (by kernel_rfl) (by kernel_rfl) rfl (fun W hW => by obtain ⟨h0, h1, h2, h3, h4, h5, h6⟩ := hW; go_simp) aH0 ?_
  simp only [Act.put, List.setIfInBounds_toArray, List.set_cons_zero, List.set_cons_succ]
  refine hr_take_w 7 (some 18) (.pointer (some ⟨g, 0, none⟩)) rfl rfl (by kernel_rfl) (by kernel_rfl) (by kernel_rfl) rfl (fun W hW => by obtain ⟨h0, h1, h2, h3, h4, h5, h6⟩ := hW; go_simp) aH0 ?_
  simp only [Act.put, List.setIfInBounds_toArray, List.set_cons_zero, List.set_cons_succ]
  refine hr_take_w 8 (some 19) (.int .i64 (lev x.k)) rfl rfl (by kernel_rfl) (by kernel_rfl) (by kernel_rfl) rfl (fun W hW => by obtain ⟨h0, h1, h2, h3, h4, h5, h6⟩ := hW; go_simp) aH0 ?_
  simp only [Act.put, List.setIfInBounds_toArray, List.set_cons_zero, List.set_cons_succ]
  refine hr_take_w 9 (some 20) (.bool false) rfl rfl (by kernel_rfl) (by kernel_rfl) (by kernel_rfl) rfl (fun W hW => by obtain ⟨h0, h1, h2, h3, h4, h5, h6⟩ := hW; go_simp) aH0 ?_
  simp only [Act.put, List.setIfInBounds_toArray, List.set_cons_zero, List.set_cons_succ]
  refine hr_take_w 10 (some 21) (.bool false) rfl rfl (by kernel_rfl) (by kernel_rfl) (by kernel_rfl) rfl (fun W hW => by obtain ⟨h0, h1, h2, h3, h4, h5, h6⟩ := hW; go_simp) aH0 ?_
  simp only [Act.put, List.setIfInBounds_toArray, List.set_cons_zero, List.set_cons_succ]
  refine wpAnyH_done (by kernel_rfl) ?_ _
  refine NoPanic.normal ?_
  have Ba : Below w.heap.size w av0 := B0.trans (aE0.mono B0.size)
  have La := L0.below aE0
  have lc1 := La.c1
  have CPa := CP av0 Ba
  clear CP
  go_wp2_with fail
  refine CPa.mono ?_
  rintro e w1 ⟨i, b, rfl, hat, B1'⟩
  have B1 : Below w.heap.size w w1 := Ba.trans (B1'.mono Ba.size)
  have N1 := h.below B1
  have L1 := La.below B1'
  clear CPa lc1
  obtain ⟨s, A, B, c, hA, hB, hB2, hf⟩ := h.found hs hat
  have hle := c.le
  have hw : IntKind.i64.wrap ((i : Int) + 1) = (i : Int) + 1 := by have := wrap_nat (k := i + 1) (by omega); simpa using this
  cases b with
  | false =>
    exfalso
    obtain ⟨y, hym, hyk⟩ := hh.out
    have hyl := h.shp.key y hym
    rw [c.el] at hyl
    rcases List.mem_append.1 hyl with hm1 | hm1
    · exact cmpL_lt_ne (hA y hm1) hyk
    · rcases List.mem_append.1 hm1 with hm1 | hm1
      · have h1 := c.ls y hm1
        rw [hyk, ← hL.out] at h1
        omega
      · exact cmpL_lt_ne (hB2 rfl y hm1) hyk.symm
  | true =>
  obtain ⟨hi, he⟩ := hf rfl
  have HE : Hid (xs[i].k = x.k) := he
  have hii : (i : Int) < (d.vs.length : Int) := by omega
  clear hf he hB2 hh
  go_wp2_with fail
  have bHS : Hid (∀ V, Below w1.heap.size w1 V → V.cell? ⟨d.b, 0, none⟩ = some (.int .i64 d.L) ∧ V.cell? ⟨d.b, 1, none⟩ = some (.slice d.ko d.ks.length d.kc) ∧ V.cell? ⟨d.b, 2, none⟩ = some (.slice d.vo d.vs.length d.vc) ∧ V.cell? ⟨d.b, 3, none⟩ = some (.slice d.co d.cs.length d.cc) ∧ V.cell? ⟨g, 0, none⟩ = some (.int .i64 (lev x.k)) ∧ V.cell? ⟨g, 1, none⟩ = some (.slice xo xn xc) ∧ V.cell? ⟨g, 2, none⟩ = some (.slice yo yn yc)) := fun V hV => ⟨(N1.ok.below hV).c0, (N1.ok.below hV).c1, (N1.ok.below hV).c2, (N1.ok.below hV).c3, (L1.below hV).c0, (L1.below hV).c1, (L1.below hV).c2⟩
  have bE0 : Below w1.heap.size w1 w1.drew := (Below.refl _ _).drew
  refine wp_region_noPanic ?_
  refine wp_region_held_drew (S := fun V => V.cell? ⟨d.b, 0, none⟩ = some (.int .i64 d.L) ∧ V.cell? ⟨d.b, 1, none⟩ = some (.slice d.ko d.ks.length d.kc) ∧ V.cell? ⟨d.b, 2, none⟩ = some (.slice d.vo d.vs.length d.vc) ∧ V.cell? ⟨d.b, 3, none⟩ = some (.slice d.co d.cs.length d.cc) ∧ V.cell? ⟨g, 0, none⟩ = some (.int .i64 (lev x.k)) ∧ V.cell? ⟨g, 1, none⟩ = some (.slice xo xn xc) ∧ V.cell? ⟨g, 2, none⟩ = some (.slice yo yn yc)) (by kernel_rfl) (bHS.out _ bE0) (fun bH0 => ?_)
  obtain ⟨bv0, hv0⟩ : ∃ v, v = w1.drew := ⟨_, rfl⟩
  rw [← hv0] at bH0 bE0 ⊢
  clear hv0
  refine hr_take_w 0 (some 49) (.pointer (some ⟨d.b, 0, none⟩)) rfl rfl (by kernel_rfl) (by kernel_rfl) (by kernel_rfl) rfl (fun W hW => by obtain ⟨h0, h1, h2, h3, h4, h5, h6⟩ := hW; go_simp) bH0 ?_
  simp only [Act.put, List.setIfInBounds_toArray, List.set_cons_zero, List.set_cons_succ]
  refine hr_take_w 1 (some 50) (.pointer (some ⟨d.b, 0, none⟩)) rfl rfl (by kernel_rfl) (by kernel_rfl) (by kernel_rfl) rfl (fun W hW => by obtain ⟨h0, h1, h2, h3, h4, h5, h6⟩ := hW; go_simp) bH0 ?_
  simp only [Act.put, List.setIfInBounds_toArray, List.set_cons_zero, List.set_cons_succ]
  refine hr_take_w 2 (some 51) (.pointer (some ⟨d.b, 0, none⟩)) rfl rfl (by kernel_rfl) (by kernel_rfl) (by kernel_rfl) rfl (fun W hW => by obtain ⟨h0, h1, h2, h3, h4, h5, h6⟩ := hW; go_simp) bH0 ?_
  simp only [Act.put, List.setIfInBounds_toArray, List.set_cons_zero, List.set_cons_succ]
  refine hr_take_w 3 (some 52) (.int .i64 d.L) rfl rfl (by kernel_rfl) (by kernel_rfl) (by kernel_rfl) rfl (fun W hW => by obtain ⟨h0, h1, h2, h3, h4, h5, h6⟩ := hW; go_simp) bH0 ?_
  simp only [Act.put, List.setIfInBounds_toArray, List.set_cons_zero, List.set_cons_succ]
  refine hr_take_w 4 (some 53) (.pointer (some ⟨g, 0, none⟩)) rfl rfl (by kernel_rfl) (by kernel_rfl) (by kernel_rfl) rfl (fun W hW => by obtain ⟨h0, h1, h2, h3, h4, h5, h6⟩ := hW; go_simp) bH0 ?_
  simp only [Act.put, List.setIfInBounds_toArray, List.set_cons_zero, List.set_cons_succ]
  refine hr_take_w 5 (some 54) (.int .i64 (lev x.k)) rfl rfl (by kernel_rfl) (by kernel_rfl) (by kernel_rfl) rfl (fun W hW => by obtain ⟨h0, h1, h2, h3, h4, h5, h6⟩ := hW; go_simp) bH0 ?_
  simp only [Act.put, List.setIfInBounds_toArray, List.set_cons_zero, List.set_cons_succ]
  refine hr_take_w 6 (some 55) (.bool false) rfl rfl (by kernel_rfl) (by kernel_rfl) (by kernel_rfl) rfl (fun W hW => by obtain ⟨h0, h1, h2, h3, h4, h5, h6⟩ := hW; go_simp) bH0 ?_
  simp only [Act.put, List.setIfInBounds_toArray, List.set_cons_zero, List.set_cons_succ]
  refine wpAnyH_done (by kernel_rfl) ?_ _
  refine NoPanic.normal ?_
  have Bb : Below w.heap.size w bv0 := B1.trans (bE0.mono B1.size)
  have Nb := h.below Bb
  have Lb := L1.below bE0
  go_wp2_with fail
  have cHS : Hid (∀ V, Below bv0.heap.size bv0 V → V.cell? ⟨d.b, 0, none⟩ = some (.int .i64 d.L) ∧ V.cell? ⟨d.b, 1, none⟩ = some (.slice d.ko d.ks.length d.kc) ∧ V.cell? ⟨d.b, 2, none⟩ = some (.slice d.vo d.vs.length d.vc) ∧ V.cell? ⟨d.b, 3, none⟩ = some (.slice d.co d.cs.length d.cc) ∧ V.cell? ⟨g, 0, none⟩ = some (.int .i64 (lev x.k)) ∧ V.cell? ⟨g, 1, none⟩ = some (.slice xo xn xc) ∧ V.cell? ⟨g, 2, none⟩ = some (.slice yo yn yc)) := fun V hV => ⟨(Nb.ok.below hV).c0, (Nb.ok.below hV).c1, (Nb.ok.below hV).c2, (Nb.ok.below hV).c3, (Lb.below hV).c0, (Lb.below hV).c1, (Lb.below hV).c2⟩
  have cE0 : Below bv0.heap.size bv0 bv0.drew := (Below.refl _ _).drew
  refine wp_region_noPanic ?_
  refine wp_region_held_drew (S := fun V => V.cell? ⟨d.b, 0, none⟩ = some (.int .i64 d.L) ∧ V.cell? ⟨d.b, 1, none⟩ = some (.slice d.ko d.ks.length d.kc) ∧ V.cell? ⟨d.b, 2, none⟩ = some (.slice d.vo d.vs.length d.vc) ∧ V.cell? ⟨d.b, 3, none⟩ = some (.slice d.co d.cs.length d.cc) ∧ V.cell? ⟨g, 0, none⟩ = some (.int .i64 (lev x.k)) ∧ V.cell? ⟨g, 1, none⟩ = some (.slice xo xn xc) ∧ V.cell? ⟨g, 2, none⟩ = some (.slice yo yn yc)) (by kernel_rfl) (cHS.out _ cE0) (fun cH0 => ?_)
  obtain ⟨cv0, hv0⟩ : ∃ v, v = bv0.drew := ⟨_, rfl⟩
  rw [← hv0] at cH0 cE0 ⊢
  clear hv0
  refine hr_take_w 0 (some 69) (.pointer (some ⟨d.b, 0, none⟩)) rfl rfl (by kernel_rfl) (by kernel_rfl) (by kernel_rfl) rfl (fun W hW => by obtain ⟨h0, h1, h2, h3, h4, h5, h6⟩ := hW; go_simp) cH0 ?_
  simp only [Act.put, List.setIfInBounds_toArray, List.set_cons_zero, List.set_cons_succ]
  refine hr_take_w 1 (some 70) (.pointer (some ⟨d.b, 0, none⟩)) rfl rfl (by kernel_rfl) (by kernel_rfl) (by kernel_rfl) rfl (fun W hW => by obtain ⟨h0, h1, h2, h3, h4, h5, h6⟩ := hW; go_simp) cH0 ?_
  simp only [Act.put, List.setIfInBounds_toArray, List.set_cons_zero, List.set_cons_succ]
  refine hr_take_w 2 (some 71) (.pointer (some ⟨d.b, 0, none⟩)) rfl rfl (by kernel_rfl) (by kernel_rfl) (by kernel_rfl) rfl (fun W hW => by obtain ⟨h0, h1, h2, h3, h4, h5, h6⟩ := hW; go_simp) cH0 ?_
  simp only [Act.put, List.setIfInBounds_toArray, List.set_cons_zero, List.set_cons_succ]
  refine hr_take_w 3 (some 72) (.int .i64 d.L) rfl rfl (by kernel_rfl) (by kernel_rfl) (by kernel_rfl) rfl (fun W hW => by obtain ⟨h0, h1, h2, h3, h4, h5, h6⟩ := hW; go_simp) cH0 ?_
  simp only [Act.put, List.setIfInBounds_toArray, List.set_cons_zero, List.set_cons_succ]
  refine hr_take_w 4 (some 73) (.pointer (some ⟨d.b, 0, none⟩)) rfl rfl (by kernel_rfl) (by kernel_rfl) (by kernel_rfl) rfl (fun W hW => by obtain ⟨h0, h1, h2, h3, h4, h5, h6⟩ := hW; go_simp) cH0 ?_
  simp only [Act.put, List.setIfInBounds_toArray, List.set_cons_zero, List.set_cons_succ]
  refine hr_take_w 5 (some 74) (.pointer (some ⟨d.b, 0, none⟩)) rfl rfl (by kernel_rfl) (by kernel_rfl) (by kernel_rfl) rfl (fun W hW => by obtain ⟨h0, h1, h2, h3, h4, h5, h6⟩ := hW; go_simp) cH0 ?_
  simp only [Act.put, List.setIfInBounds_toArray, List.set_cons_zero, List.set_cons_succ]
  refine hr_take_w 6 (some 75) (.pointer (some ⟨d.b, 1, none⟩)) rfl rfl (by kernel_rfl) (by kernel_rfl) (by kernel_rfl) rfl (fun W hW => by obtain ⟨h0, h1, h2, h3, h4, h5, h6⟩ := hW; go_simp) cH0 ?_
  simp only [Act.put, List.setIfInBounds_toArray, List.set_cons_zero, List.set_cons_succ]
  refine hr_take_w 7 (some 76) (.slice d.ko d.ks.length d.kc) rfl rfl (by kernel_rfl) (by kernel_rfl) (by kernel_rfl) rfl (fun W hW => by obtain ⟨h0, h1, h2, h3, h4, h5, h6⟩ := hW; go_simp) cH0 ?_
  simp only [Act.put, List.setIfInBounds_toArray, List.set_cons_zero, List.set_cons_succ]
  refine hr_take_w 8 (some 77) (.pointer (some ⟨d.b, 0, none⟩)) rfl rfl (by kernel_rfl) (by kernel_rfl) (by kernel_rfl) rfl (fun W hW => by obtain ⟨h0, h1, h2, h3, h4, h5, h6⟩ := hW; go_simp) cH0 ?_
  simp only [Act.put, List.setIfInBounds_toArray, List.set_cons_zero, List.set_cons_succ]
  refine hr_take_w 9 (some 78) (.pointer (some ⟨d.b, 0, none⟩)) rfl rfl (by kernel_rfl) (by kernel_rfl) (by kernel_rfl) rfl (fun W hW => by obtain ⟨h0, h1, h2, h3, h4, h5, h6⟩ := hW; go_simp) cH0 ?_
  simp only [Act.put, List.setIfInBounds_toArray, List.set_cons_zero, List.set_cons_succ]
  refine hr_take_w 10 (some 79) (.pointer (some ⟨d.b, 2, none⟩)) rfl rfl (by kernel_rfl) (by kernel_rfl) (by kernel_rfl) rfl (fun W hW => by obtain ⟨h0, h1, h2, h3, h4, h5, h6⟩ := hW; go_simp) cH0 ?_
  simp only [Act.put, List.setIfInBounds_toArray, List.set_cons_zero, List.set_cons_succ]
  refine hr_take_w 11 (some 80) (.slice d.vo d.vs.length d.vc) rfl rfl (by kernel_rfl) (by kernel_rfl) (by kernel_rfl) rfl (fun W hW => by obtain ⟨h0, h1, h2, h3, h4, h5, h6⟩ := hW; go_simp) cH0 ?_
  simp only [Act.put, List.setIfInBounds_toArray, List.set_cons_zero, List.set_cons_succ]
  refine hr_take_w 12 (some 81) (.int .i64 i) rfl rfl (by kernel_rfl) (by kernel_rfl) (by kernel_rfl) rfl (fun W hW => by obtain ⟨h0, h1, h2, h3, h4, h5, h6⟩ := hW; go_simp) cH0 ?_
  simp only [Act.put, List.setIfInBounds_toArray, List.set_cons_zero, List.set_cons_succ]
  refine hr_take_w 13 (some 82) (.int .i64 i) rfl rfl (by kernel_rfl) (by kernel_rfl) (by kernel_rfl) rfl (fun W hW => by obtain ⟨h0, h1, h2, h3, h4, h5, h6⟩ := hW; go_simp) cH0 ?_
  simp only [Act.put, List.setIfInBounds_toArray, List.set_cons_zero, List.set_cons_succ]
  refine hr_take_w 14 (some 83) (.int .i64 ((i + 1 : Nat) : Int)) rfl rfl (by kernel_rfl) (by kernel_rfl) (by kernel_rfl) rfl (fun W hW => by obtain ⟨h0, h1, h2, h3, h4, h5, h6⟩ := hW; go_simp) cH0 ?_
  simp only [Act.put, List.setIfInBounds_toArray, List.set_cons_zero, List.set_cons_succ]
  refine hr_take_w 15 (some 84) (.pointer (some ⟨g, 2, none⟩)) rfl rfl (by kernel_rfl) (by kernel_rfl) (by kernel_rfl) rfl (fun W hW => by obtain ⟨h0, h1, h2, h3, h4, h5, h6⟩ := hW; go_simp) cH0 ?_
  simp only [Act.put, List.setIfInBounds_toArray, List.set_cons_zero, List.set_cons_succ]
  refine hr_take_w 16 (some 85) (.slice yo yn yc) rfl rfl (by kernel_rfl) (by kernel_rfl) (by kernel_rfl) rfl (fun W hW => by obtain ⟨h0, h1, h2, h3, h4, h5, h6⟩ := hW; go_simp) cH0 ?_
  simp only [Act.put, List.setIfInBounds_toArray, List.set_cons_zero, List.set_cons_succ]
  refine hr_take_w 19 (some 88) (.pointer (some ⟨d.b, 0, none⟩)) rfl rfl (by kernel_rfl) (by kernel_rfl) (by kernel_rfl) rfl (fun W hW => by obtain ⟨h0, h1, h2, h3, h4, h5, h6⟩ := hW; go_simp) cH0 ?_
  simp only [Act.put, List.setIfInBounds_toArray, List.set_cons_zero, List.set_cons_succ]
  refine hr_take_w 20 (some 89) (.pointer (some ⟨d.b, 0, none⟩)) rfl rfl (by kernel_rfl) (by kernel_rfl) (by kernel_rfl) rfl (fun W hW => by obtain ⟨h0, h1, h2, h3, h4, h5, h6⟩ := hW; go_simp) cH0 ?_
  simp only [Act.put, List.setIfInBounds_toArray, List.set_cons_zero, List.set_cons_succ]
  refine hr_take_w 21 (some 90) (.pointer (some ⟨d.b, 3, none⟩)) rfl rfl (by kernel_rfl) (by kernel_rfl) (by kernel_rfl) rfl (fun W hW => by obtain ⟨h0, h1, h2, h3, h4, h5, h6⟩ := hW; go_simp) cH0 ?_
  simp only [Act.put, List.setIfInBounds_toArray, List.set_cons_zero, List.set_cons_succ]
  refine hr_take_w 22 (some 91) (.slice d.co d.cs.length d.cc) rfl rfl (by kernel_rfl) (by kernel_rfl) (by kernel_rfl) rfl (fun W hW => by obtain ⟨h0, h1, h2, h3, h4, h5, h6⟩ := hW; go_simp) cH0 ?_
  simp only [Act.put, List.setIfInBounds_toArray, List.set_cons_zero, List.set_cons_succ]
  refine hr_ex 17 (some 86) rfl rfl (by kernel_rfl) rfl (R := fun v w' => ∃ g, v = .slice (some ⟨g, 0, none⟩) 1 1 ∧ VL w' (some ⟨g, 0, none⟩) 1 1 [.slice yo yn yc] ∧ Below cv0.heap.size cv0 w') (⟨_, _, by go_simp, _, rfl, VL.new cv0 [.slice yo yn yc] 25 (by simp [maxLen]), (Below.refl _ _).alloc (Nat.le_refl _) _⟩) ?_
  rintro v cv1 ⟨cg0, rfl, cG0, cC0⟩
  have cE1 := cE0.trans (cC0.mono cE0.size)
  have cH1 := cHS.out cv1 cE1
  refine ⟨cH1, ?_⟩
  simp only [Act.put, List.setIfInBounds_toArray, List.set_cons_zero, List.set_cons_succ]
  refine hr_call_w 18 (some 87) 134 #[.slice d.vo d.vs.length d.vc, .int .i64 i, .int .i64 ((i + 1 : Nat) : Int), .slice (some ⟨cg0, 0, none⟩) 1 1] rfl rfl (by kernel_rfl) rfl (by go_simp) (fun v w' => ∃ ro rc, v = .slice ro (i + 1 + (d.vs.length - (i + 1))) rc ∧ VL w' ro (i + 1 + (d.vs.length - (i + 1))) rc ((d.vs.map Part.val).take i ++ [.slice yo yn yc] ++ (d.vs.map Part.val).drop (i + 1)) ∧ Below cv1.heap.size cv1 w') ((chgK_any cv1 d.vo (some ⟨cg0, 0, none⟩) d.vs.length d.vc 1 1 i (i + 1) (d.vs.map Part.val) [.slice yo yn yc] (Nb.ok.vl.vl.below cE1) cG0 (part_one _) (by intro y hy; rw [List.mem_singleton.1 hy]; rfl) (by omega) (by omega) (by omega)).mono (by
    rintro e w' ⟨ro, rc, rfl, F, C⟩
    exact ⟨_, rfl, ro, rc, rfl, F, C⟩)) ?_
  rintro v cv2 ⟨ro, rc, rfl, cF1, cC1⟩
  have cE2 := cE1.trans (cC1.mono cE1.size)
  have cH2 := cHS.out cv2 cE2
  clear cG0
  refine ⟨cH2, ?_⟩
  simp only [Act.put, List.setIfInBounds_toArray, List.set_cons_zero, List.set_cons_succ]
  refine hr_take_w 23 (some 92) (.agg #[.int .i64 d.L, .slice d.ko d.ks.length d.kc, .slice ro (i + 1 + (d.vs.length - (i + 1))) rc, .slice d.co d.cs.length d.cc]) rfl rfl (by kernel_rfl) (by kernel_rfl) (by kernel_rfl) rfl (fun W hW => by obtain ⟨h0, h1, h2, h3, h4, h5, h6⟩ := hW; go_simp) cH2 ?_
  simp only [Act.put, List.setIfInBounds_toArray, List.set_cons_zero, List.set_cons_succ]
  refine hr_ex 24 (some 93) rfl rfl (by kernel_rfl) rfl (R := fun v w' => ∃ g, v = .pointer (some ⟨g, 0, none⟩) ∧ w'.heap[g]? = some (.cells #[.int .i64 d.L, .slice d.ko d.ks.length d.kc, .slice ro (i + 1 + (d.vs.length - (i + 1))) rc, .slice d.co d.cs.length d.cc] 119) ∧ Below cv2.heap.size cv2 w') (⟨_, _, by go_simp, _, rfl, heap_alloc_new cv2 _, (Below.refl _ _).alloc (Nat.le_refl _) _⟩) ?_
  rintro v cv3 ⟨cg2, rfl, cG2, cC2⟩
  have cE3 := cE2.trans (cC2.mono cE2.size)
  have cH3 := cHS.out cv3 cE3
  refine ⟨cH3, ?_⟩
  simp only [Act.put, List.setIfInBounds_toArray, List.set_cons_zero, List.set_cons_succ]
  refine hr_take_w 25 (some 4) (.pointer (some ⟨cg2, 0, none⟩)) rfl rfl (by kernel_rfl) (by kernel_rfl) (by kernel_rfl) rfl (fun W hW => by obtain ⟨h0, h1, h2, h3, h4, h5, h6⟩ := hW; go_simp) cH3 ?_
  simp only [Act.put, List.setIfInBounds_toArray, List.set_cons_zero, List.set_cons_succ]
  refine wpAnyH_done (by kernel_rfl) ?_ _
  refine NoPanic.normal ?_
  have Bc : Below w.heap.size w cv3 := Bb.trans (cE3.mono Bb.size)
  have Nc := h.below Bc
  have k3 := cF1.below cC2
  obtain ⟨B', hBB, hshp⟩ := c.swap hi (x := x) (by rw [← hL.out])
  have V1 := KL.of (ps := d.vs.take i ++ (⟨yo, yn, yc, x.v⟩ : Part) :: d.vs.drop (i + 1)) k3 (by simp [Part.val, List.map_take, List.map_drop]) (by
    intro q hq
    rcases List.mem_append.1 hq with hq | hq
    · exact Nc.ok.vl.sl q (List.mem_of_mem_take hq)
    · rcases List.mem_cons.1 hq with rfl | hq
      · exact hy.below Bc
      · exact Nc.ok.vl.sl q (List.mem_of_mem_drop hq))
  have TT : T cv3 (.pointer (some ⟨cg2, 0, none⟩)) (ins l x) := by
    have e : ins l x = A ++ (s ++ x :: B') := by
      rw [ins_at (A := A ++ s) (B := B') (y := xs[i]) hs (by rw [c.el, hBB]; simp) HE.out]
      simp
    rw [e]
    refine T.make cG2 Nc.ok.kl V1 Nc.ok.cl hshp ?_ ?_ Nc.kids
    · have e2 : (xs.map It.k).drop i = x.k :: (xs.map It.k).drop (i + 1) := by
        rw [List.drop_eq_getElem_cons (by simpa using hi)]
        simp [HE.out]
      rw [Nc.ek, List.map_append, List.map_cons, List.map_take, List.map_drop, ← e2, List.take_append_drop]
    · simp [List.map_take, List.map_drop, Nc.ev]
  clear k3 V1 hshp hBB
  go_wp2
  go_ret
  exact ⟨_, rfl, TT, Bc⟩
end Go.Proofs.YtnicnfjickknjaaGreatDoor

namespace Go.Proofs.YtnicnfjickknjaaGreatDoor
open Go.RowKit

set_option maxHeartbeats 4000000 in
set_option maxRecDepth 100000 in
theorem withK_any (w : World) (x : It) (xo yo : Option Addr) (xn xc yn yc : Nat) (hx : Sl w xo xn xc x.k) (l : List It) (d : Nd) (segs : List (List It)) (xs : List It) (h : Nod w l d segs xs) (hs : Srt l) (hn : l.length ≤ 100000) (hL : lev x.k < d.L)
    (ih : ∀ (V : World) (u : Value) (s : List It), s.length < l.length → Below w.heap.size w V → T V u s → Srt s → Calls Tryz.prog 124 #[u, .agg #[.int .i64 (lev x.k), .slice xo xn xc, .slice yo yn yc]] V (RetT V (ins s x))) :
    Calls Tryz.prog 124 #[d.ptr, .agg #[.int .i64 (lev x.k), .slice xo xn xc, .slice yo yn yc]] w (RetT w (ins l x)) := by
  have hl1 : lev x.k ≤ d.L := by omega
  have hWK : ∀ (i : Nat) (s A B : List It) (V : World) (z : Option Addr), Cut lev l d.L segs xs i s A B → Below w.heap.size w V → T V (.pointer z) (ins s x) → Calls Tryz.prog 133 #[d.ptr, .int .i64 i, .pointer z] V (RetT V (A ++ (ins s x ++ B))) := fun i s A B V z c hV hz => withKid_any V l d segs xs (h.below hV) i s A B (ins s x) c (.pointer z) hz (ins_lev c.ls hL) hn
  unfold Nd.ptr at hWK
  have hm := h.many
  have hnk1 := Nat.le_of_eq h.nk
  have hnk2 := Nat.le_of_eq h.nk.symm
  have hnv1 := Nat.le_of_eq h.nv
  have hnv2 := Nat.le_of_eq h.nv.symm
  have hnc1 := Nat.le_of_eq h.nc
  have hnc2 := Nat.le_of_eq h.nc.symm
  have hpos := h.shp.pos
  have CP : ∀ V, Below w.heap.size w V → Calls Tryz.prog 79 #[d.ptr, .slice xo xn xc] V (Found V d.ks x.k) := fun V hV => place_any V d (h.ok.below hV) xo xn xc x.k (hx.below hV) (h.rise hs) (by omega)
  unfold Nd.ptr at CP ⊢
  go_enter Tryz.func124, Tryz.ntmps124
  go_wp2_with fail
  obtain ⟨w0, hw0⟩ : ∃ V, V = (w.alloc (.cells #[.int .i64 (lev x.k), .slice xo xn xc, .slice yo yn yc] 160)) := ⟨_, rfl⟩
  have L0 : Lf w0 w.heap.size (lev x.k) (.slice xo xn xc) (.slice yo yn yc) := by rw [hw0]; exact Lf.new ..
  have B0 : Below w.heap.size w w0 := by rw [hw0]; exact (Below.refl _ w).alloc (Nat.le_refl _) _
  rw [← hw0]
  obtain ⟨g, hg⟩ : ∃ g, g = w.heap.size := ⟨_, rfl⟩
  rw [← hg] at L0 ⊢
  clear hw0 hg
  have N0 := h.below B0
  have aHS : Hid (∀ V, Below w0.heap.size w0 V → V.cell? ⟨d.b, 0, none⟩ = some (.int .i64 d.L) ∧ V.cell? ⟨d.b, 1, none⟩ = some (.slice d.ko d.ks.length d.kc) ∧ V.cell? ⟨d.b, 2, none⟩ = some (.slice d.vo d.vs.length d.vc) ∧ V.cell? ⟨d.b, 3, none⟩ = some (.slice d.co d.cs.length d.cc) ∧ V.cell? ⟨g, 0, none⟩ = some (.int .i64 (lev x.k)) ∧ V.cell? ⟨g, 1, none⟩ = some (.slice xo xn xc) ∧ V.cell? ⟨g, 2, none⟩ = some (.slice yo yn yc)) := fun V hV => ⟨(N0.ok.below hV).c0, (N0.ok.below hV).c1, (N0.ok.below hV).c2, (N0.ok.below hV).c3, (L0.below hV).c0, (L0.below hV).c1, (L0.below hV).c2⟩
  have aE0 : Below w0.heap.size w0 w0.drew := (Below.refl _ _).drew
  refine wp_region_noPanic ?_
  refine wp_region_held_drew (S := fun V => V.cell? ⟨d.b, 0, none⟩ = some (.int .i64 d.L) ∧ V.cell? ⟨d.b, 1, none⟩ = some (.slice d.ko d.ks.length d.kc) ∧ V.cell? ⟨d.b, 2, none⟩ = some (.slice d.vo d.vs.length d.vc) ∧ V.cell? ⟨d.b, 3, none⟩ = some (.slice d.co d.cs.length d.cc) ∧ V.cell? ⟨g, 0, none⟩ = some (.int .i64 (lev x.k)) ∧ V.cell? ⟨g, 1, none⟩ = some (.slice xo xn xc) ∧ V.cell? ⟨g, 2, none⟩ = some (.slice yo yn yc)) (by kernel_rfl) (aHS.out _ aE0) (fun aH0 => ?_)
  obtain ⟨av0, hv0⟩ : ∃ v, v = w0.drew := ⟨_, rfl⟩
  rw [← hv0] at aH0 aE0 ⊢
  clear hv0
  refine hr_take_w 0 (some 11) (.pointer (some ⟨d.b, 0, none⟩)) rfl rfl (by kernel_rfl) (by kernel_rfl) (by kernel_rfl) rfl (fun W hW => by obtain ⟨h0, h1, h2, h3, h4, h5, h6⟩ := hW; go_simp) aH0 ?_
  simp only [Act.put, List.setIfInBounds_toArray, List.set_cons_zero, List.set_cons_succ]
  refine hr_take_w 1 (some 12) (.bool false) rfl rfl (by kernel_rfl) (by kernel_rfl) (by kernel_rfl) rfl (fun W hW => by obtain ⟨h0, h1, h2, h3, h4, h5, h6⟩ := hW; go_simp) aH0 ?_
  simp only [Act.put, List.setIfInBounds_toArray, List.set_cons_zero, List.set_cons_succ]
  refine hr_take_w 2 (some 13) (.bool false) rfl rfl (by kernel_rfl) (by kernel_rfl) (by kernel_rfl) rfl (fun W hW => by obtain ⟨h0, h1, h2, h3, h4, h5, h6⟩ := hW; go_simp) aH0 ?_
  simp only [Act.put, List.setIfInBounds_toArray, List.set_cons_zero, List.set_cons_succ]
  refine hr_take_w 3 (some 14) (.pointer (some ⟨d.b, 0, none⟩)) rfl rfl (by kernel_rfl) (by kernel_rfl) (by kernel_rfl) rfl (fun W hW => by obtain ⟨h0, h1, h2, h3, h4, h5, h6⟩ := hW; go_simp) aH0 ?_
  simp only [Act.put, List.setIfInBounds_toArray, List.set_cons_zero, List.set_cons_succ]
  refine hr_take_w 4 (some 15) (.pointer (some ⟨d.b, 0, none⟩)) rfl rfl (by kernel_rfl) (by kernel_rfl) (by kernel_rfl) rfl (fun W hW => by obtain ⟨h0, h1, h2, h3, h4, h5, h6⟩ := hW; go_simp) aH0 ?_
  simp only [Act.put, List.setIfInBounds_toArray, List.set_cons_zero, List.set_cons_succ]
  refine hr_take_w 5 (some 16) (.pointer (some ⟨d.b, 0, none⟩)) rfl rfl (by kernel_rfl) (by kernel_rfl) (by kernel_rfl) rfl (fun W hW => by obtain ⟨h0, h1, h2, h3, h4, h5, h6⟩ := hW; go_simp) aH0 ?_
  simp only [Act.put, List.setIfInBounds_toArray, List.set_cons_zero, List.set_cons_succ]
  refine hr_take_w 6 (some 17) (.int .i64 d.L) rfl rfl (by kernel_rfl) (by kernel_rfl) (by kernel_rfl) rfl (fun W hW => by obtain ⟨h0, h1, h2, h3, h4, h5, h6⟩ := hW; go_simp) aH0 ?_
  simp only [Act.put, List.setIfInBounds_toArray, List.set_cons_zero, List.set_cons_succ]
  refine hr_take_w 7 (some 18) (.pointer (some ⟨g, 0, none⟩)) rfl rfl (by kernel_rfl) (by kernel_rfl) (by kernel_rfl) rfl (fun W hW => by obtain ⟨h0, h1, h2, h3, h4, h5, h6⟩ := hW; go_simp) aH0 ?_
  simp only [Act.put, List.setIfInBounds_toArray, List.set_cons_zero, List.set_cons_succ]
  refine hr_take_w 8 (some 19) (.int .i64 (lev x.k)) rfl rfl (by kernel_rfl) (by kernel_rfl) (by kernel_rfl) rfl (fun W hW => by obtain ⟨h0, h1, h2, h3, h4, h5, h6⟩ := hW; go_simp) aH0 ?_
  simp only [Act.put, List.setIfInBounds_toArray, List.set_cons_zero, List.set_cons_succ]
  refine hr_take_w 9 (some 20) (.bool false) rfl rfl (by kernel_rfl) (by kernel_rfl) (by kernel_rfl) rfl (fun W hW => by obtain ⟨h0, h1, h2, h3, h4, h5, h6⟩ := hW; go_simp) aH0 ?_
  simp only [Act.put, List.setIfInBounds_toArray, List.set_cons_zero, List.set_cons_succ]
  refine hr_take_w 10 (some 21) (.bool false) rfl rfl (by kernel_rfl) (by kernel_rfl) (by kernel_rfl) rfl (fun W hW => by obtain ⟨h0, h1, h2, h3, h4, h5, h6⟩ := hW; go_simp) aH0 ?_
  simp only [Act.put, List.setIfInBounds_toArray, List.set_cons_zero, List.set_cons_succ]
  refine wpAnyH_done (by kernel_rfl) ?_ _
  refine NoPanic.normal ?_
  have Ba : Below w.heap.size w av0 := B0.trans (aE0.mono B0.size)
  have La := L0.below aE0
  have lc1 := La.c1
  have CPa := CP av0 Ba
  clear CP
  go_wp2_with fail
  refine CPa.mono ?_
  rintro e w1 ⟨i, b, rfl, hat, B1'⟩
  have B1 : Below w.heap.size w w1 := Ba.trans (B1'.mono Ba.size)
  have N1 := h.below B1
  have L1 := La.below B1'
  clear CPa lc1
  obtain ⟨s, A, B, c, hA, hB, hB2, hf⟩ := h.found hs hat
  have hle := c.le
  have hw : IntKind.i64.wrap ((i : Int) + 1) = (i : Int) + 1 := by have := wrap_nat (k := i + 1) (by omega); simpa using this
  cases b with
  | true =>
    exfalso
    obtain ⟨hi, he⟩ := hf rfl
    have := h.shp.top xs[i] (List.getElem_mem hi)
    rw [he] at this
    omega
  | false =>
  have hB3 := hB2 rfl
  have HI : Hid (ins l x = A ++ (ins s x ++ B)) := by show _ = _; rw [c.el]; exact ins_mid hA hB3
  have hii : (i : Int) < (d.cs.length : Int) := by omega
  clear hf hB2
  go_wp2_with fail
  have bHS : Hid (∀ V, Below w1.heap.size w1 V → V.cell? ⟨d.b, 0, none⟩ = some (.int .i64 d.L) ∧ V.cell? ⟨d.b, 1, none⟩ = some (.slice d.ko d.ks.length d.kc) ∧ V.cell? ⟨d.b, 2, none⟩ = some (.slice d.vo d.vs.length d.vc) ∧ V.cell? ⟨d.b, 3, none⟩ = some (.slice d.co d.cs.length d.cc) ∧ V.cell? ⟨g, 0, none⟩ = some (.int .i64 (lev x.k)) ∧ V.cell? ⟨g, 1, none⟩ = some (.slice xo xn xc) ∧ V.cell? ⟨g, 2, none⟩ = some (.slice yo yn yc)) := fun V hV => ⟨(N1.ok.below hV).c0, (N1.ok.below hV).c1, (N1.ok.below hV).c2, (N1.ok.below hV).c3, (L1.below hV).c0, (L1.below hV).c1, (L1.below hV).c2⟩
  have bE0 : Below w1.heap.size w1 w1.drew := (Below.refl _ _).drew
  refine wp_region_noPanic ?_
  refine wp_region_held_drew (S := fun V => V.cell? ⟨d.b, 0, none⟩ = some (.int .i64 d.L) ∧ V.cell? ⟨d.b, 1, none⟩ = some (.slice d.ko d.ks.length d.kc) ∧ V.cell? ⟨d.b, 2, none⟩ = some (.slice d.vo d.vs.length d.vc) ∧ V.cell? ⟨d.b, 3, none⟩ = some (.slice d.co d.cs.length d.cc) ∧ V.cell? ⟨g, 0, none⟩ = some (.int .i64 (lev x.k)) ∧ V.cell? ⟨g, 1, none⟩ = some (.slice xo xn xc) ∧ V.cell? ⟨g, 2, none⟩ = some (.slice yo yn yc)) (by kernel_rfl) (bHS.out _ bE0) (fun bH0 => ?_)
  obtain ⟨bv0, hv0⟩ : ∃ v, v = w1.drew := ⟨_, rfl⟩
  rw [← hv0] at bH0 bE0 ⊢
  clear hv0
  refine hr_take_w 0 (some 49) (.pointer (some ⟨d.b, 0, none⟩)) rfl rfl (by kernel_rfl) (by kernel_rfl) (by kernel_rfl) rfl (fun W hW => by obtain ⟨h0, h1, h2, h3, h4, h5, h6⟩ := hW; go_simp) bH0 ?_
  simp only [Act.put, List.setIfInBounds_toArray, List.set_cons_zero, List.set_cons_succ]
  refine hr_take_w 1 (some 50) (.pointer (some ⟨d.b, 0, none⟩)) rfl rfl (by kernel_rfl) (by kernel_rfl) (by kernel_rfl) rfl (fun W hW => by obtain ⟨h0, h1, h2, h3, h4, h5, h6⟩ := hW; go_simp) bH0 ?_
  simp only [Act.put, List.setIfInBounds_toArray, List.set_cons_zero, List.set_cons_succ]
  refine hr_take_w 2 (some 51) (.pointer (some ⟨d.b, 0, none⟩)) rfl rfl (by kernel_rfl) (by kernel_rfl) (by kernel_rfl) rfl (fun W hW => by obtain ⟨h0, h1, h2, h3, h4, h5, h6⟩ := hW; go_simp) bH0 ?_
  simp only [Act.put, List.setIfInBounds_toArray, List.set_cons_zero, List.set_cons_succ]
  refine hr_take_w 3 (some 52) (.int .i64 d.L) rfl rfl (by kernel_rfl) (by kernel_rfl) (by kernel_rfl) rfl (fun W hW => by obtain ⟨h0, h1, h2, h3, h4, h5, h6⟩ := hW; go_simp) bH0 ?_
  simp only [Act.put, List.setIfInBounds_toArray, List.set_cons_zero, List.set_cons_succ]
  refine hr_take_w 4 (some 53) (.pointer (some ⟨g, 0, none⟩)) rfl rfl (by kernel_rfl) (by kernel_rfl) (by kernel_rfl) rfl (fun W hW => by obtain ⟨h0, h1, h2, h3, h4, h5, h6⟩ := hW; go_simp) bH0 ?_
  simp only [Act.put, List.setIfInBounds_toArray, List.set_cons_zero, List.set_cons_succ]
  refine hr_take_w 5 (some 54) (.int .i64 (lev x.k)) rfl rfl (by kernel_rfl) (by kernel_rfl) (by kernel_rfl) rfl (fun W hW => by obtain ⟨h0, h1, h2, h3, h4, h5, h6⟩ := hW; go_simp) bH0 ?_
  simp only [Act.put, List.setIfInBounds_toArray, List.set_cons_zero, List.set_cons_succ]
  refine hr_take_w 6 (some 55) (.bool true) rfl rfl (by kernel_rfl) (by kernel_rfl) (by kernel_rfl) rfl (fun W hW => by obtain ⟨h0, h1, h2, h3, h4, h5, h6⟩ := hW; go_simp) bH0 ?_
  simp only [Act.put, List.setIfInBounds_toArray, List.set_cons_zero, List.set_cons_succ]
  refine wpAnyH_done (by kernel_rfl) ?_ _
  refine NoPanic.normal ?_
  have Bb : Below w.heap.size w bv0 := B1.trans (bE0.mono B1.size)
  have Nb := h.below Bb
  have Lb := L1.below bE0
  obtain ⟨kb, ko, s', u, eco, hs1, hs2, hcell, hTk, hlen⟩ := Nb.kidAt i hle
  obtain rfl : s = s' := Option.some.inj (c.seg.symm.trans hs1)
  have hss : Srt s := by rw [c.el] at hs; exact hs.app.2.1.app.1
  obtain ⟨q, rfl⟩ := hTk.ptr
  have CI : ∀ V, Below bv0.heap.size bv0 V → Calls Tryz.prog 124 #[.pointer q, .agg #[.int .i64 (lev x.k), .slice xo xn xc, .slice yo yn yc]] V fun e w' => ∃ z, e = .returned (.pointer z) ∧ T w' (.pointer z) (ins s x) ∧ Below V.heap.size V w' := by
    intro V hV
    refine (ih V (.pointer q) s hlen (Bb.trans (hV.mono Bb.size)) (hTk.below hV) hss).mono ?_
    rintro e w' ⟨y, rfl, Ty, hb⟩
    obtain ⟨z, rfl⟩ := Ty.ptr
    exact ⟨z, rfl, Ty, hb⟩
  have CW : ∀ V z, Below bv0.heap.size bv0 V → T V (.pointer z) (ins s x) → Calls Tryz.prog 133 #[.pointer (some ⟨d.b, 0, none⟩), .int .i64 i, .pointer z] V fun e w' => ∃ y, e = .returned (.pointer y) ∧ T w' (.pointer y) (A ++ (ins s x ++ B)) ∧ Below V.heap.size V w' := by
    intro V z hV hz
    refine (hWK i s A B V z c (Bb.trans (hV.mono Bb.size)) hz).mono ?_
    rintro e w' ⟨y, rfl, Ty, hb⟩
    obtain ⟨z, rfl⟩ := Ty.ptr
    exact ⟨z, rfl, Ty, hb⟩
  clear hs1 hs2 hTk hWK ih
  go_wp2_with fail
  have cHS : Hid (∀ V, Below bv0.heap.size bv0 V → V.cell? ⟨d.b, 3, none⟩ = some (.slice (some ⟨kb, ko, none⟩) d.cs.length d.cc) ∧ V.cell? ⟨kb, ko + i, none⟩ = some (.pointer q) ∧ V.cell? ⟨g, 0, none⟩ = some (.int .i64 (lev x.k)) ∧ V.cell? ⟨g, 1, none⟩ = some (.slice xo xn xc) ∧ V.cell? ⟨g, 2, none⟩ = some (.slice yo yn yc)) := fun V hV => ⟨by rw [← eco]; exact (Nb.ok.below hV).c3, (hV.cell (World.block_lt_of_cell? _ _ hcell)).trans hcell, (Lb.below hV).c0, (Lb.below hV).c1, (Lb.below hV).c2⟩
  have cE0 : Below bv0.heap.size bv0 bv0.drew := (Below.refl _ _).drew
  refine wp_region_noPanic ?_
  refine wp_region_held_drew (S := fun V => V.cell? ⟨d.b, 3, none⟩ = some (.slice (some ⟨kb, ko, none⟩) d.cs.length d.cc) ∧ V.cell? ⟨kb, ko + i, none⟩ = some (.pointer q) ∧ V.cell? ⟨g, 0, none⟩ = some (.int .i64 (lev x.k)) ∧ V.cell? ⟨g, 1, none⟩ = some (.slice xo xn xc) ∧ V.cell? ⟨g, 2, none⟩ = some (.slice yo yn yc)) (by kernel_rfl) (cHS.out _ cE0) (fun cH0 => ?_)
  obtain ⟨cv0, hv0⟩ : ∃ v, v = bv0.drew := ⟨_, rfl⟩
  rw [← hv0] at cH0 cE0 ⊢
  clear hv0
  refine hr_take_w 0 (some 56) (.pointer (some ⟨d.b, 0, none⟩)) rfl rfl (by kernel_rfl) (by kernel_rfl) (by kernel_rfl) rfl (fun W hW => by obtain ⟨h0, h1, h2, h3, h4⟩ := hW; go_simp) cH0 ?_
  simp only [Act.put, List.setIfInBounds_toArray, List.set_cons_zero, List.set_cons_succ]
  refine hr_take_w 1 (some 57) (.int .i64 i) rfl rfl (by kernel_rfl) (by kernel_rfl) (by kernel_rfl) rfl (fun W hW => by obtain ⟨h0, h1, h2, h3, h4⟩ := hW; go_simp) cH0 ?_
  simp only [Act.put, List.setIfInBounds_toArray, List.set_cons_zero, List.set_cons_succ]
  refine hr_take_w 2 (some 58) (.pointer (some ⟨d.b, 0, none⟩)) rfl rfl (by kernel_rfl) (by kernel_rfl) (by kernel_rfl) rfl (fun W hW => by obtain ⟨h0, h1, h2, h3, h4⟩ := hW; go_simp) cH0 ?_
  simp only [Act.put, List.setIfInBounds_toArray, List.set_cons_zero, List.set_cons_succ]
  refine hr_take_w 3 (some 59) (.pointer (some ⟨d.b, 0, none⟩)) rfl rfl (by kernel_rfl) (by kernel_rfl) (by kernel_rfl) rfl (fun W hW => by obtain ⟨h0, h1, h2, h3, h4⟩ := hW; go_simp) cH0 ?_
  simp only [Act.put, List.setIfInBounds_toArray, List.set_cons_zero, List.set_cons_succ]
  refine hr_take_w 4 (some 60) (.pointer (some ⟨d.b, 3, none⟩)) rfl rfl (by kernel_rfl) (by kernel_rfl) (by kernel_rfl) rfl (fun W hW => by obtain ⟨h0, h1, h2, h3, h4⟩ := hW; go_simp) cH0 ?_
  simp only [Act.put, List.setIfInBounds_toArray, List.set_cons_zero, List.set_cons_succ]
  refine hr_take_w 5 (some 61) (.slice (some ⟨kb, ko, none⟩) d.cs.length d.cc) rfl rfl (by kernel_rfl) (by kernel_rfl) (by kernel_rfl) rfl (fun W hW => by obtain ⟨h0, h1, h2, h3, h4⟩ := hW; go_simp) cH0 ?_
  simp only [Act.put, List.setIfInBounds_toArray, List.set_cons_zero, List.set_cons_succ]
  refine hr_take_w 6 (some 62) (.int .i64 i) rfl rfl (by kernel_rfl) (by kernel_rfl) (by kernel_rfl) rfl (fun W hW => by obtain ⟨h0, h1, h2, h3, h4⟩ := hW; go_simp) cH0 ?_
  simp only [Act.put, List.setIfInBounds_toArray, List.set_cons_zero, List.set_cons_succ]
  refine hr_take_w 7 (some 63) (.pointer (some ⟨kb, ko + i, none⟩)) rfl rfl (by kernel_rfl) (by kernel_rfl) (by kernel_rfl) rfl (fun W hW => by obtain ⟨h0, h1, h2, h3, h4⟩ := hW; go_simp) cH0 ?_
  simp only [Act.put, List.setIfInBounds_toArray, List.set_cons_zero, List.set_cons_succ]
  refine hr_take_w 8 (some 64) (.pointer q) rfl rfl (by kernel_rfl) (by kernel_rfl) (by kernel_rfl) rfl (fun W hW => by obtain ⟨h0, h1, h2, h3, h4⟩ := hW; go_simp) cH0 ?_
  simp only [Act.put, List.setIfInBounds_toArray, List.set_cons_zero, List.set_cons_succ]
  refine hr_take_w 9 (some 65) (.agg #[.int .i64 (lev x.k), .slice xo xn xc, .slice yo yn yc]) rfl rfl (by kernel_rfl) (by kernel_rfl) (by kernel_rfl) rfl (fun W hW => by obtain ⟨h0, h1, h2, h3, h4⟩ := hW; go_simp) cH0 ?_
  simp only [Act.put, List.setIfInBounds_toArray, List.set_cons_zero, List.set_cons_succ]
  refine hr_call_w 10 (some 66) 124 #[.pointer q, .agg #[.int .i64 (lev x.k), .slice xo xn xc, .slice yo yn yc]] rfl rfl (by kernel_rfl) rfl (by go_simp) (fun v w' => ∃ z, v = .pointer z ∧ T w' (.pointer z) (ins s x) ∧ Below cv0.heap.size cv0 w') ((CI _ cE0).mono (by
    rintro e w' ⟨z, rfl, F, C⟩
    exact ⟨_, rfl, z, rfl, F, C⟩)) ?_
  rintro v cv1 ⟨z, rfl, cF0, cC0⟩
  have cE1 := cE0.trans (cC0.mono cE0.size)
  have cH1 := cHS.out cv1 cE1
  refine ⟨cH1, ?_⟩
  simp only [Act.put, List.setIfInBounds_toArray, List.set_cons_zero, List.set_cons_succ]
  refine hr_call_w 11 (some 67) 133 #[.pointer (some ⟨d.b, 0, none⟩), .int .i64 i, .pointer z] rfl rfl (by kernel_rfl) rfl (by go_simp) (fun v w' => ∃ y, v = .pointer y ∧ T w' (.pointer y) (A ++ (ins s x ++ B)) ∧ Below cv1.heap.size cv1 w') ((CW _ _ cE1 cF0).mono (by
    rintro e w' ⟨y, rfl, F, C⟩
    exact ⟨_, rfl, y, rfl, F, C⟩)) ?_
  rintro v cv2 ⟨y, rfl, cF1, cC1⟩
  have cE2 := cE1.trans (cC1.mono cE1.size)
  have cH2 := cHS.out cv2 cE2
  clear cF0
  refine ⟨cH2, ?_⟩
  simp only [Act.put, List.setIfInBounds_toArray, List.set_cons_zero, List.set_cons_succ]
  refine hr_take_w 12 (some 4) (.pointer y) rfl rfl (by kernel_rfl) (by kernel_rfl) (by kernel_rfl) rfl (fun W hW => by obtain ⟨h0, h1, h2, h3, h4⟩ := hW; go_simp) cH2 ?_
  simp only [Act.put, List.setIfInBounds_toArray, List.set_cons_zero, List.set_cons_succ]
  refine wpAnyH_done (by kernel_rfl) ?_ _
  refine NoPanic.normal ?_
  have Bc : Below w.heap.size w cv2 := Bb.trans (cE2.mono Bb.size)
  go_wp2
  go_ret
  refine ⟨_, rfl, ?_, Bc⟩
  rw [HI.out]
  exact cF1
end Go.Proofs.YtnicnfjickknjaaGreatDoor

/-
  Texts in one: CompP, SpMid, SpRowsM, RbOfM, RbMem, RbKey, CCmp.
-/
import Derived.Shelf.Slices.CompactS
import Derived.Ground.NamesProg
import Derived.Test.YtlljmhcgjkolpaaGreatDoorProg
import Derived.Test.YtlljmhcgjkolpaaGreatDoorSplitCutsQ19
import Derived.Lib.OwnBridge
import Derived.Test.YtlljmhcgjkolpaaGreatDoorSplitCutsQ22
import Derived.Test.YtlljmhcgjkolpaaGreatDoorSplitCutsQ9
import Derived.Test.YtlljmhcgjkolpaaGreatDoorSplitCutsQ2
import Derived.Test.YtlljmhcgjkolpaaGreatDoorSplitCutsQ5
import Derived.Test.YtlljmhcgjkolpaaGreatDoorSplitCutsQ0
import Derived.Test.YtlljmhcgjkolpaaGreatDoorSplitCutsQ4
namespace Go.Proofs
open Go.Shelf
def Tryz.laysCompact_ren : Go.Shelf.Ren := ⟨fun | 194 => 91 | n => n, fun | 31 => 95 | 9 => 9 | 3 => 3 | 4 => 4 | 0 => 0 | n => n, fun | n => n⟩
theorem Tryz.laysCompact : Go.Proofs.Lays.n194 Tryz.prog Tryz.laysCompact_ren := {
  mixed := by kernel_rfl
  f194 := Tryz.func91.trans (congrArg some (by kernel_rfl))
  t0 := Tryz.underlying0
  a0 := Tryz.isAgg0
  z0 := Tryz.sizeOf0
  v0 := Tryz.zeroValue0
  t3 := Tryz.underlying3
  a3 := Tryz.isAgg3
  z3 := Tryz.sizeOf3
  v3 := Tryz.zeroValue3
  t4 := Tryz.underlying4
  a4 := Tryz.isAgg4
  z4 := Tryz.sizeOf4
  v4 := Tryz.zeroValue4
  t9 := Tryz.underlying9
  a9 := Tryz.isAgg9
  z9 := Tryz.sizeOf9
  v9 := Tryz.zeroValue9
  t31 := Tryz.underlying95
  a31 := Tryz.isAgg95
  z31 := Tryz.sizeOf95
  v31 := Tryz.zeroValue95 }
end Go.Proofs
namespace Go.Proofs.YtlljmhcgjkolpaaGreatDoor
open Go.RowKit Go.Sort
def toL8 (b : ByteArray) : List UInt8 := b.data.toList
theorem enc_toL8 (b : ByteArray) : encStr (toL8 b) = .string b := by
  unfold toL8
  simp
def rowsZ (cs : List CV) : List (List UInt8) := cs.map fun c => toL8 c.row
def rowsR (cs : List CV) : List (List UInt8) := Lib.compact (rowsZ cs)
def RwPost (w : World) (cs : List CV) (e : Ending) (w' : World) : Prop := ∃ bo m c, e = .returned (.slice bo m c) ∧ VL w' bo m c ((rowsR cs).map encStr) ∧ Below w.heap.size w w'
theorem strInfo : (Tryz.prog.info? 9).map (fun i => (i.zero, i.size, i.bytes)) = some (some (.string ⟨#[]⟩), 1, 16) := by kernel_rfl
theorem compact_len (zs : List (List UInt8)) : (Lib.compact zs).length ≤ zs.length := by
  unfold Lib.compact Lib.compactUpTo
  rw [List.length_map]
  exact Nat.le_trans (List.length_filter_le _ _) (by rw [List.length_range]; exact Nat.le_refl _)
set_option maxHeartbeats 4000000 in
set_option maxRecDepth 100000 in
theorem rowsOf_any (w : World) (ao : Option Addr) (n cap : Nat) (l : List CA) (L : CL w ao n cap l) (hn : n ≤ 1000) :
    Calls Tryz.prog 55 #[.slice ao n cap] w (RwPost w (l.map CA.c)) := by
  have hl1 := Nat.le_of_eq L.len
  have hl2 := Nat.le_of_eq L.len.symm
  obtain ⟨i0, hi, hz0, hz1, hz2⟩ := info_parts strInfo
  go_enter Tryz.func55, Tryz.ntmps55
  go_wp2
  go_loopw [3, 8] (fun v i wr => ∃ j : Nat, j ≤ n ∧ i = .int .i64 j ∧ wr.ownsRow w.heap.size 9 1 v j ((rowsZ ((l.map CA.c).take j)).map encStr) ∧ Below w.heap.size w wr) (fun _ i _ => n - (intOf i).toNat)
  case atStart => exact ⟨0, Nat.zero_le _, rfl, World.ownsRow_nil _ _ _ _, Below.refl _ _⟩
  case round =>
    obtain ⟨j, hj, rfl, O0, B1⟩ := hrel
    have bs := B1.size
    by_cases hlt : j < n
    · have hjl : j < l.length := by omega
      have hji : (j : Int) < (n : Int) := by omega
      obtain ⟨b, off, ea, hc⟩ := L.at (by omega)
      have X := (hc j hjl).below B1
      have HTK : Hid ((rowsZ ((l.map CA.c).take (j + 1))).map encStr = (rowsZ ((l.map CA.c).take j)).map encStr ++ [.string l[j].row]) := by
        show _ = _
        have hjm : j < (l.map CA.c).length := by rw [List.length_map]; exact hjl
        rw [List.take_succ_eq_append_getElem hjm, List.getElem_map]
        unfold rowsZ
        rw [List.map_append, List.map_append]
        congr 1
      obtain ⟨c, hce⟩ : ∃ c, c = l[j] := ⟨_, rfl⟩
      rw [← hce] at X HTK
      subst ea
      obtain ⟨x0, x1, x2, x3, x4, x5⟩ := X
      obtain ⟨vo, vm, vc, hve⟩ : ∃ vo vm vc, _ = Value.slice vo vm vc := by
        rcases O0.2 with ⟨e, _⟩ | ⟨g, cap', cur, e, _⟩
        · exact ⟨none, 0, 0, e⟩
        · exact ⟨_, _, _, e⟩
      subst hve
      obtain ⟨W1, hW1⟩ : ∃ V, V = wr.alloc (.cells #[.string c.row, .string c.fam, .string c.qual, .int .u64 c.time, .slice c.va.ao c.va.n c.va.cap, .bool c.gone] 33) := ⟨_, rfl⟩
      have C1 : Below wr.heap.size wr W1 := by rw [hW1]; exact (Below.refl _ _).alloc (Nat.le_refl _) _
      obtain ⟨W2, hW2⟩ : ∃ V, V = W1.alloc (.cells #[.string c.row] 9) := ⟨_, rfl⟩
      have C2 : Below W1.heap.size W1 W2 := by rw [hW2]; exact (Below.refl _ _).alloc (Nat.le_refl _) _
      have HN : W2.heap[W1.heap.size]? = some (.cells #[.string c.row] 9) := by rw [hW2]; exact heap_alloc_new W1 _
      have C12 := C1.trans (C2.mono C1.size)
      have O2 := own_below O0 C12
      have s2 := C12.size
      have s1 : W1.heap.size = wr.heap.size + 1 := by rw [hW1]; exact Array.size_push ..
      have hbase : w.heap.size ≤ W2.heap.size := by omega
      clear hc hce O0
      go_wp2_with (at_builtin; rw [← hW1, ← hW2]; refine wpList_append_own W2 rfl _ _ 95 rfl w.heap.size 9 i0 _ 1 16 Tryz.underlying95 hi hz0 hz1 hz2 rfl (by decide) _ j _ rfl O2 ⟨W1.heap.size, 0, none⟩ 1 1 [.string c.row] (by rw [s1] <;> rfl) rfl (fun k u hu => by rw [Addr.add_lit, Nat.zero_add, cell_of_row W2 W1.heap.size k _ _ _ HN]; simpa using hu) (by simp [Value.oneCell']) (by unfold maxLen; omega) (by omega) hbase ?_; intro v3 w3 O3 G3 _)
      have B3 : Below w.heap.size W2 w3 := (Below.refl _ W2).grown G3 hbase (fun k hk => (O2.lt k hk).1)
      rw [← HTK.out] at O3
      obtain ⟨vo3, vm3, vc3, hv3⟩ : ∃ vo vm vc, v3 = Value.slice vo vm vc := by
        rcases O3.2 with ⟨e, _⟩ | ⟨g, cap', cur, e, _⟩
        · exact ⟨none, 0, 0, e⟩
        · exact ⟨_, _, _, e⟩
      subst hv3
      have B4 := B1.trans ((C12.mono bs).trans B3)
      go_roundw
      case rel => exact ⟨j + 1, by omega, by go_num, O3, B4⟩
      case measure => simp [intOf]; omega
    · have hge : ¬ (j : Int) < (n : Int) := by omega
      obtain rfl : j = n := by omega
      have HT : Hid ((l.map CA.c).take j = l.map CA.c) := List.take_of_length_le (by rw [List.length_map]; omega)
      rw [HT.out] at O0
      obtain ⟨zs, hzs⟩ : ∃ zs, zs = rowsZ (l.map CA.c) := ⟨_, rfl⟩
      have HZ : Hid (zs = rowsZ (l.map CA.c)) := hzs
      have hzl : zs.length = j := by rw [hzs]; unfold rowsZ; rw [List.length_map, List.length_map]; omega
      rw [← hzs] at O0
      clear hzs
      by_cases h0 : j = 0
      · subst h0
        obtain rfl : zs = [] := List.eq_nil_of_length_eq_zero hzl
        obtain ⟨vo, vm, vc, hve⟩ : ∃ vo vm vc, _ = Value.slice vo vm vc := by
          rcases O0.2 with ⟨e, _⟩ | ⟨g, cap', cur, e, _⟩
          · exact ⟨none, 0, 0, e⟩
          · exact ⟨_, _, _, e⟩
        subst hve
        obtain ⟨ao2, cap2, e2, V2, -⟩ := VL.own O0
        simp only [Value.slice.injEq] at e2
        obtain ⟨rfl, rfl, rfl⟩ := e2
        have CC := Any.slices_Compact_string_empty Tryz.laysCompact vo vc wr
        have CC : Calls Tryz.prog 91 #[.slice vo 0 vc] wr fun e w' => e = .returned (.slice vo 0 vc) ∧ w' = wr := CC
        go_wp2_with fail
        refine CC.mono ?_
        rintro e w2 ⟨rfl, hw⟩
        obtain rfl := hw.symm
        clear CC
        go_wp2
        go_ret
        exact ⟨_, _, _, rfl, by
          have : (rowsR (l.map CA.c)).map encStr = [] := by unfold rowsR; rw [← HZ.out]; rfl
          rw [this]; exact V2, B1⟩
      · have hnn : ∀ u : Value, u = .slice none 0 0 → wr.ownsRow w.heap.size 9 1 u j (zs.map encStr) → False := fun u e h => by
          have h1 := h.1
          rcases h.2 with ⟨_, e0⟩ | ⟨g, cap', cur, e1, _⟩
          · exact h0 e0
          · rw [e] at e1; simp at e1
        obtain ⟨g, cp, hve, hg, hgl, hcp, hmx, -, hH⟩ := Lib.holds_of_ownsRow (zs := zs) O0 (fun e => hnn _ e O0)
        subst hve
        have CC := Any.slices_Compact_string Tryz.laysCompact g 0 cp zs wr hH (by omega) (by omega)
        rw [hzl] at CC
        have hcl := compact_len zs
        obtain ⟨m, hm⟩ : ∃ m, m = (Lib.compact zs).length := ⟨_, rfl⟩
        rw [← hm] at CC hcl
        have CC : Calls Tryz.prog 91 #[.slice (some ⟨g, 0, none⟩) j cp] wr fun e w' => e = .returned (.slice (some ⟨g, 0, none⟩) m cp) ∧ ∃ q, w' = putRow encStr (Sort.ahead wr q) g 0 (Lib.compact zs ++ List.replicate (j - m) []).toArray := CC
        go_wp2_with fail
        refine CC.mono ?_
        rintro e w2 ⟨rfl, q, hw2⟩
        have O2 := Lib.ownsRow_putRow (q := q) (k := m) (ys := Lib.compact zs ++ List.replicate (j - m) []) O0 (by rw [List.length_append, List.length_replicate, ← hm]; omega) (by omega)
        rw [← hw2, List.take_left' hm.symm] at O2
        have B2 : Below w.heap.size w w2 := by rw [hw2]; exact Lib.below_putRow B1 hg
        obtain ⟨ao2, cap2, e2, V2, -⟩ := VL.own O2
        simp only [Value.slice.injEq] at e2
        obtain ⟨rfl, -, rfl⟩ := e2
        have HR : Hid (rowsR (l.map CA.c) = Lib.compact zs) := by show _ = _; unfold rowsR; rw [← HZ.out]
        clear CC hw2 hm
        go_wp2
        go_ret
        exact ⟨_, _, _, rfl, by rw [HR.out]; exact V2, B2⟩
def MdPost (w : World) (cs : List CV) (e : Ending) (w' : World) : Prop :=
  ((rowsR cs).length < 2 ∧ e = .returned (.tuple #[.string ⟨#[]⟩, .bool false]) ∧ Below w.heap.size w w') ∨
  (∃ x, 2 ≤ (rowsR cs).length ∧ (rowsR cs)[(rowsR cs).length / 2]? = some x ∧ e = .returned (.tuple #[encStr x, .bool true]) ∧ Below w.heap.size w w')
set_option maxHeartbeats 2000000 in
set_option maxRecDepth 100000 in
theorem middle_any (w : World) (p : Nat) (f t : ByteArray) (cs : List CV) (hT : TB w p f t cs) (hs : CSrt cs) (hg : CGood cs) (hf : f.size ≤ 32) (ht : t.size ≤ 32) (hr : ∀ c ∈ cs, inRows f t c.row = true) (hn : cs.length ≤ 1000) :
    Calls Tryz.prog 22 #[.pointer (some ⟨p, 0, none⟩)] w (MdPost w cs) := by
  have CE := cells_st w p f t cs hT hs hg hf ht hr hn
  go_enter Tryz.func22, Tryz.ntmps22
  go_wp2_with fail
  refine CE.mono ?_
  rintro e w1 ⟨ao, n, cap, l, rfl, L1, -, hl, C1⟩
  have hn1 : n ≤ 1000 := by
    have h1 := congrArg List.length hl
    rw [List.length_map, L1.len] at h1
    omega
  have CR := rowsOf_any w1 ao n cap l L1 hn1
  rw [hl] at CR
  clear CE
  go_wp2_with fail
  refine CR.mono ?_
  rintro e w2 ⟨bo, m, c, rfl, V2, C2⟩
  have B2 := C1.trans (C2.mono C1.size)
  have hm : (rowsR cs).length = m := by have := V2.len; rw [List.length_map] at this; exact this
  have HM : Hid ((rowsR cs).length = m) := hm
  have hmx : m ≤ 1000 := by
    have := compact_len (rowsZ cs)
    unfold rowsR at hm
    have h2 : (rowsZ cs).length = cs.length := List.length_map ..
    omega
  clear CR hm
  by_cases h2 : m < 2
  · have i2 : (m : Int) < 2 := by omega
    go_wp2
    go_ret2
    exact .inl ⟨by rw [HM.out]; exact h2, rfl, B2⟩
  · have i2 : ¬ (m : Int) < 2 := by omega
    obtain ⟨b, off, ea, hc⟩ := V2.at (by omega)
    have hlt : m / 2 < ((rowsR cs).map encStr).length := by rw [List.length_map, HM.out]; omega
    have hx := hc (m / 2) hlt
    have hlr : m / 2 < (rowsR cs).length := by rw [HM.out]; omega
    rw [List.getElem_map] at hx
    obtain ⟨x, hxe⟩ : ∃ x, x = (rowsR cs)[m / 2] := ⟨_, rfl⟩
    have HX : Hid ((rowsR cs)[(rowsR cs).length / 2]? = some x) := by
      show _ = _
      rw [HM.out, hxe]
      exact List.getElem?_eq_getElem hlr
    rw [← hxe] at hx
    have hq : (m : Int) / 2 = ((m / 2 : Nat) : Int) := by omega
    have hqt : Int.tdiv (m : Int) 2 = ((m / 2 : Nat) : Int) := by rw [Int.tdiv_eq_ediv_of_nonneg (by omega)]; exact hq
    have hql : ((m / 2 : Nat) : Int) < (m : Int) := by omega
    obtain ⟨d, hd⟩ : ∃ d, d = m / 2 := ⟨_, rfl⟩
    rw [← hd] at hx hq hqt hql
    subst ea
    clear hxe hc hlt hlr hd
    go_wp2
    go_ret2
    exact .inr ⟨x, by rw [HM.out]; omega, HX.out, rfl, B2⟩
open Go.RowKit Go.Sort
theorem rowsZ_at {cs : List CV} {j : Nat} (h : j < cs.length) : (rowsZ cs).toArray[j]! = toL8 cs[j].row := by
  have h2 : j < (rowsZ cs).toArray.size := by unfold rowsZ; simpa using h
  rw [getElem!_pos _ j h2]
  simp [rowsZ]
open Go.RowKit
theorem mostR_ge : ∀ (ks : List KA) (k : KA), cntK k ks ≤ mostR ks
  | [], _ => Nat.zero_le _
  | a :: ks, k => by
    have ih := mostR_ge ks k
    unfold mostR
    unfold cntK at ih ⊢
    rw [List.filter_cons]
    by_cases h : keq k a = true
    · obtain rfl := (keq_iff k a).1 h
      rw [if_pos h, List.length_cons]
      exact Nat.le_max_right _ _
    · rw [if_neg h]
      exact Nat.le_trans ih (Nat.le_max_left _ _)
theorem mostK_iff (ks : List KA) (b : Nat) : b < mostK ks ↔ ∃ k, b < cntK k ks := by
  constructor
  · intro h
    by_cases h2 : ∃ k, b < cntK k ks
    · exact h2
    · have := mostK_le' ks b (fun k => Nat.le_of_not_lt fun h3 => h2 ⟨k, h3⟩)
      omega
  · rintro ⟨k, h⟩
    have := mostR_ge ks.reverse k
    rw [cntK_reverse] at this
    exact Nat.lt_of_lt_of_le h this
theorem cntK_pos {k : KA} {ks : List KA} (h : 0 < cntK k ks) : k ∈ ks := by
  unfold cntK at h
  obtain ⟨x, hx⟩ := List.exists_mem_of_length_pos h
  obtain ⟨h1, h2⟩ := List.mem_filter.1 hx
  rw [(keq_iff k x).1 h2]
  exact h1
theorem cntK_mem {k : KA} {ks : List KA} (h : k ∈ ks) : 0 < cntK k ks := List.length_pos_of_mem (List.mem_filter.2 ⟨h, (keq_iff k k).2 rfl⟩)
theorem cntK_two : ∀ ks : List KA, (∀ k, cntK k ks ≤ 1) ↔ ks.Pairwise (fun a b => a ≠ b)
  | [] => ⟨fun _ => List.Pairwise.nil, fun _ _ => Nat.zero_le _⟩
  | a :: ks => by
    have ih := cntK_two ks
    have hc : ∀ k, cntK k (a :: ks) = (if keq k a = true then 1 else 0) + cntK k ks := fun k => by
      unfold cntK
      rw [List.filter_cons]
      split
      · rw [List.length_cons]; omega
      · omega
    rw [List.pairwise_cons]
    constructor
    · intro h
      refine ⟨fun b hb e => ?_, ih.1 fun k => ?_⟩
      · subst e
        have h1 := h a
        rw [hc, if_pos ((keq_iff a a).2 rfl)] at h1
        have := cntK_mem hb
        omega
      · have h1 := h k
        rw [hc] at h1
        omega
    · rintro ⟨h1, h2⟩ k
      rw [hc]
      by_cases e : keq k a = true
      · obtain rfl := (keq_iff k a).1 e
        rw [if_pos e]
        by_cases hz : 0 < cntK k ks
        · exact absurd rfl (h1 k (cntK_pos hz))
        · omega
      · rw [if_neg e]
        have := ih.2 h2 k
        omega
theorem layAll_len : ∀ (cs ds : List CV), (layAll ds cs).length ≤ ds.length + cs.length
  | [], _ => Nat.le_refl _
  | c :: cs, ds => by
    have h1 := layAll_len cs (cIns ds c)
    have h2 := cIns_len ds c
    show (layAll (cIns ds c) cs).length ≤ _
    rw [List.length_cons]
    omega
theorem cIns_full (ds : List CV) (c : CV) : (cIns ds c).length = ds.length + 1 ↔ ∀ x ∈ ds, keyL x.kv ≠ keyL c.kv := by
  have h := cnt_ins (fun _ => true) ds c
  rw [cnt_all, cnt_all] at h
  simp only [if_true] at h
  constructor
  · intro e x hx hk
    have := cnt_pos (q := fun x => true && decide (keyL x.kv = keyL c.kv)) hx (by rw [decide_eq_true hk]; rfl)
    omega
  · intro hx
    have : cnt (fun x => true && decide (keyL x.kv = keyL c.kv)) ds = 0 := by
      unfold cnt
      rw [List.filter_eq_nil_iff.2 (fun x h => by simpa using hx x h)]
      rfl
    omega
theorem mem_cIns_iff {ds : List CV} {c : CV} (h : ∀ x ∈ ds, keyL x.kv ≠ keyL c.kv) (x : CV) : x ∈ cIns ds c ↔ x = c ∨ x ∈ ds := by
  refine ⟨mem_cIns, fun hx => ?_⟩
  unfold cIns cLo cHi
  rcases hx with rfl | hx
  · exact List.mem_append_right _ (List.mem_cons_self ..)
  · rcases cmpL_total (keyL x.kv) (keyL c.kv) with g | g | g
    · exact List.mem_append_left _ (List.mem_filter.2 ⟨hx, decide_eq_true g⟩)
    · exact absurd g (h x hx)
    · exact List.mem_append_right _ (List.mem_cons_of_mem _ (List.mem_filter.2 ⟨hx, decide_eq_true g⟩))
theorem layAll_full : ∀ (cs ds : List CV), (layAll ds cs).length = ds.length + cs.length ↔ (∀ c ∈ cs, ∀ x ∈ ds, keyL x.kv ≠ keyL c.kv) ∧ cs.Pairwise (fun a b => keyL a.kv ≠ keyL b.kv)
  | [], ds => ⟨fun _ => ⟨fun _ h => by simp at h, List.Pairwise.nil⟩, fun _ => rfl⟩
  | c :: cs, ds => by
    have h1 := layAll_len cs (cIns ds c)
    have h2 := cIns_len ds c
    have hf := cIns_full ds c
    have ih := layAll_full cs (cIns ds c)
    show (layAll (cIns ds c) cs).length = _ ↔ _
    rw [List.length_cons, List.pairwise_cons]
    constructor
    · intro h
      have e1 : (cIns ds c).length = ds.length + 1 := by omega
      have g1 := hf.1 e1
      obtain ⟨g2, g3⟩ := ih.1 (by omega)
      refine ⟨fun d hd x hx => ?_, fun d hd => ?_, g3⟩
      · rcases List.mem_cons.1 hd with rfl | hd
        · exact g1 x hx
        · exact g2 d hd x ((mem_cIns_iff g1 x).2 (.inr hx))
      · exact g2 d hd c ((mem_cIns_iff g1 c).2 (.inl rfl))
    · rintro ⟨g1, g2, g3⟩
      have g4 := g1 c (List.mem_cons_self ..)
      have e1 := hf.2 g4
      have e2 := ih.2 ⟨fun d hd x hx => by
        rcases (mem_cIns_iff g4 x).1 hx with rfl | hx
        · exact g2 d hd
        · exact g1 d (List.mem_cons_of_mem _ hd) x hx, g3⟩
      omega
theorem ky_kv {a b : CV} (h : a.kv = b.kv) : a.ky = b.ky := by
  obtain ⟨h1, h2, h3, h4⟩ := CV.kv_eq h
  show KA.mk _ _ _ _ = KA.mk _ _ _ _
  rw [h1, h2, h3, h4]
theorem kv_ky {a b : CV} (h : a.ky = b.ky) : a.kv = b.kv := by
  simp only [CV.ky, KA.mk.injEq] at h
  show KV.mk _ _ _ _ = KV.mk _ _ _ _
  rw [h.1, h.2.1, h.2.2.1, h.2.2.2]
theorem dup_iff {cs : List CV} (ht : ∀ c ∈ cs, c.time < 18446744073709551616) : (layAll [] cs).length ≠ cs.length ↔ 1 < mostK (cs.map CV.ky) := by
  have h1 := layAll_full cs []
  rw [List.length_nil, Nat.zero_add] at h1
  have h2 := cntK_two (cs.map CV.ky)
  rw [List.pairwise_map] at h2
  have h3 : cs.Pairwise (fun a b => keyL a.kv ≠ keyL b.kv) ↔ cs.Pairwise (fun a b => a.ky ≠ b.ky) :=
    ⟨fun h => h.imp_of_mem fun ha hb hk e => hk (by rw [kv_ky e]), fun h => h.imp_of_mem fun ha hb hk e => hk (ky_kv (keyL_inj (CV.kvByt (ht _ ha)) (CV.kvByt (ht _ hb)) e))⟩
  rw [mostK_iff]
  constructor
  · intro h
    by_cases g : ∃ k, 1 < cntK k (cs.map CV.ky)
    · exact g
    · refine absurd (h1.2 ⟨fun _ _ _ h => by simp at h, h3.2 (h2.1 fun k => ?_)⟩) h
      exact Nat.le_of_not_lt fun g2 => g ⟨k, g2⟩
  · rintro ⟨k, hk⟩ h
    have := h2.2 (h3.1 (h1.1 h).2) k
    omega
theorem col_cntK (k : KA) (cs : List CV) : (colC k cs).length = cntK k.colK (cs.map fun c => c.ky.colK) := by
  rw [cnt_map, colC_cnt]
  unfold cnt
  congr 1
  refine List.filter_congr fun c _ => ?_
  unfold CV.col keq
  rw [Bool.eq_iff_iff, decide_eq_true_eq, decide_eq_true_eq]
  exact ⟨fun ⟨a, b, c⟩ => ⟨a.symm, b.symm, c.symm, rfl⟩, fun ⟨a, b, c, _⟩ => ⟨a.symm, b.symm, c.symm⟩⟩
theorem many_iff (cs : List CV) : (∃ c ∈ cs, 4 < (colC c.ky cs).length) ↔ 4 < mostK (cs.map fun c => c.ky.colK) := by
  rw [mostK_iff]
  constructor
  · rintro ⟨c, hc, h⟩
    exact ⟨c.ky.colK, by rw [← col_cntK]; exact h⟩
  · rintro ⟨k, h⟩
    have hm := cntK_pos (Nat.lt_of_le_of_lt (Nat.zero_le 4) h)
    obtain ⟨c, hc, rfl⟩ := List.mem_map.1 hm
    exact ⟨c, hc, by rw [col_cntK]; exact h⟩
section
variable {f t : ByteArray} {cs : List CV}
theorem any_no {q : CV → Bool} (h : ∀ c ∈ cs, q c = false) : cs.any q = false := List.any_eq_false.2 fun c hc => by rw [h c hc]; simp
theorem any_yes {q : CV → Bool} {c : CV} (hc : c ∈ cs) (h : q c = true) : cs.any q = true := List.any_eq_true.2 ⟨c, hc, h⟩
theorem ofK_1 (h : newK f t ≠ 0) : ofK f t cs = 1 := by unfold ofK; rw [if_neg h]
theorem ofK_5 (h : newK f t = 0) {c : CV} (hc : c ∈ cs) (h1 : notR c = true) : ofK f t cs = 5 := by
  unfold ofK judgeK
  rw [if_pos h, any_yes hc h1, if_pos rfl]
theorem ofK_8 (h : newK f t = 0) (g1 : ∀ c ∈ cs, notR c = false) {c : CV} (hc : c ∈ cs) (h1 : inRows f t c.row = false) : ofK f t cs = 8 := by
  unfold ofK judgeK
  rw [if_pos h, any_no g1, if_neg (by simp), any_yes (q := fun c => !(inRows f t c.row)) hc (by rw [h1]; rfl), if_pos rfl]
theorem ofK_w (h : newK f t = 0) (g1 : ∀ c ∈ cs, notR c = false) (g2 : ∀ c ∈ cs, inRows f t c.row = true) (h1 : (∃ c ∈ cs, wrongV c = true) ∨ 1 < mostK (cs.map CV.ky)) : ofK f t cs = 1 := by
  unfold ofK judgeK
  rw [if_pos h, any_no g1, if_neg (by simp), any_no (q := fun c => !(inRows f t c.row)) (fun c hc => by rw [g2 c hc]; rfl), if_neg (by simp), if_pos]
  rcases h1 with ⟨c, hc, h1⟩ | h1
  · rw [any_yes hc h1]; rfl
  · rw [decide_eq_true h1, Bool.or_true]
theorem ofK_4 (h : newK f t = 0) (g1 : ∀ c ∈ cs, notR c = false) (g2 : ∀ c ∈ cs, inRows f t c.row = true) (g3 : ∀ c ∈ cs, wrongV c = false) (g4 : ¬ 1 < mostK (cs.map CV.ky)) (h1 : 4 < mostK (cs.map fun c => c.ky.colK)) : ofK f t cs = 4 := by
  unfold ofK judgeK
  rw [if_pos h, any_no g1, if_neg (by simp), any_no (q := fun c => !(inRows f t c.row)) (fun c hc => by rw [g2 c hc]; rfl), if_neg (by simp), any_no g3, decide_eq_false g4, if_neg (by simp), if_pos h1]
theorem ofK_9 (h : newK f t = 0) (g1 : ∀ c ∈ cs, notR c = false) (g2 : ∀ c ∈ cs, inRows f t c.row = true) (g3 : ∀ c ∈ cs, wrongV c = false) (g4 : ¬ 1 < mostK (cs.map CV.ky)) (g5 : ¬ 4 < mostK (cs.map fun c => c.ky.colK)) : ofK f t cs = if 32 < cs.length then 9 else 0 := by
  unfold ofK judgeK
  rw [if_pos h, any_no g1, if_neg (by simp), any_no (q := fun c => !(inRows f t c.row)) (fun c hc => by rw [g2 c hc]; rfl), if_neg (by simp), any_no g3, decide_eq_false g4, if_neg (by simp), if_neg g5]
end
open Go.RowKit
structure CNew (w0 W : World) (base : Nat) (v : Value) (l : List CA) : Prop where
  row : W.ownsRow base 33 6 v l.length (cellsC l)
  ok : ∀ c ∈ l, c.ok w0
theorem CNew.nil (w0 W : World) (base : Nat) : CNew w0 W base (.slice none 0 0) [] := ⟨World.ownsRow_nil _ _ _ _, fun _ h => by simp at h⟩
theorem CNew.below {w0 W W' : World} {base : Nat} {v : Value} {l : List CA} (h : CNew w0 W base v l) (hb : Below W.heap.size W W') : CNew w0 W' base v l := ⟨own_below h.row hb, h.ok⟩
theorem CNew.cl {w0 W : World} {base : Nat} {v : Value} {l : List CA} (h : CNew w0 W base v l) (hb : Below w0.heap.size w0 W) : ∃ ao cap, v = .slice ao l.length cap ∧ CL W ao l.length cap l := CL.own h.row (fun c hc => (h.ok c hc).below hb)
theorem CNew.slice {w0 W : World} {base : Nat} {v : Value} {l : List CA} (h : CNew w0 W base v l) : ∃ ao n cap, v = .slice ao n cap := by
  rcases h.row.2 with ⟨rfl, e⟩ | ⟨g, cap, cur, rfl, _⟩
  · exact ⟨none, 0, 0, rfl⟩
  · exact ⟨_, _, cap, rfl⟩
theorem cellsC_app (l m : List CA) : cellsC (l ++ m) = cellsC l ++ cellsC m := by simp [cellsC]
theorem cellsC_one (l : List CA) : ∀ u ∈ cellsC l, u.oneCell' = true := by
  intro u hu
  unfold cellsC at hu
  obtain ⟨cs, h1, h2⟩ := List.mem_flatten.1 hu
  obtain ⟨c, -, rfl⟩ := List.mem_map.1 h1
  exact c_one c u h2
theorem wpList_appN {w0 w : World} {ops : Array Oper} {rest : List Oper} {o : Oper} {a : Act} {Q : Exit → Act → World → Prop} (hgd : o.guard = none) (s x : Operand)
    (ho : o.op = .call { callee := .builtin .append, args := #[s, x], argTypes := #[31, 31] })
    (base : Nat) (v : Value) (l : List CA) (hs : a.eval s = v) (hown : CNew w0 w base v l)
    (g cp : Nat) (c : CA) (hx : a.eval x = .slice (some ⟨g, 0, none⟩) 1 cp) (hc : w.heap[g]? = some (.cells #[.string c.row, .string c.fam, .string c.qual, .int .u64 c.time, .slice c.va.ao c.va.n c.va.cap, .bool c.gone] 33)) (hok : c.ok w0) (hn : l.length ≤ 1000000) (hbase : base ≤ w.heap.size)
    (h : ∀ v' w', CNew w0 w' base v' (l ++ [c]) → Below base w w' → wpList Tryz.prog ops Q rest (a.put o.dst v') w') : wpList Tryz.prog ops Q (o :: rest) a w := by
  obtain ⟨i0, hi, hz0, hz1, hz2⟩ := info_parts cellInfo
  refine wpList_append_own w hgd s x 31 ho base 33 i0 _ 6 88 Tryz.underlying31 hi hz0 hz1 hz2 rfl (by decide) v l.length (cellsC l) hs hown.row ⟨g, 0, none⟩ 1 cp c.cells hx rfl
    (fun j u hu => by
      rw [Addr.add_lit, Nat.zero_add, cell_of_row w g j _ _ _ hc]
      simpa [CA.cells] using hu) (c_one c) (by unfold maxLen; omega) (by omega) hbase ?_
  intro v' w' h1 h2 _
  have e : cellsC (l ++ [c]) = cellsC l ++ c.cells := by simp [cellsC]
  rw [← e] at h1
  refine h v' w' ⟨by rw [List.length_append]; exact h1, fun d hd => ?_⟩ ((Below.refl _ w).grown h2 hbase (fun k hk => (hown.row.lt k hk).1))
  rcases List.mem_append.1 hd with hd | hd
  · exact hown.ok d hd
  · rw [List.mem_singleton.1 hd]; exact hok
theorem run_appCs {w : World} {base : Nat} {v : Value} {ps qs : List CA} (ty : TypeId) (h : w.ownsRow base 33 6 v ps.length (cellsC ps)) (hb : base ≤ w.heap.size) {bo : Option Addr} {m c : Nat} (hx : CL w bo m c qs) (hn : ps.length + m ≤ 1000000) :
    ∃ v' w', (Builtin.append_ #[31, 31] ty #[v, .slice bo m c]).run Tryz.prog w = .ok v' w' ∧ w'.ownsRow base 33 6 v' (ps ++ qs).length (cellsC (ps ++ qs)) ∧ Below base w w' := by
  obtain ⟨i0, hi, hz0, hz1, hz2⟩ := info_parts cellInfo
  have hlen := hx.len
  by_cases hm : m = 0
  · subst hm
    obtain rfl : qs = [] := List.eq_nil_of_length_eq_zero hlen
    have hv : ∃ ao cap, v = .slice ao ps.length cap ∧ ps.length ≤ cap := by
      rcases h.2 with ⟨rfl, e⟩ | ⟨g, cap, cur, rfl, hg, hh, hle, _⟩
      · rw [e]
        exact ⟨none, 0, rfl, Nat.le_refl _⟩
      · exact ⟨_, cap, rfl, hle⟩
    obtain ⟨ao, cap, rfl, hle⟩ := hv
    refine ⟨_, w, run_append_nothing w 31 31 ty 33 i0 Tryz.underlying31 hi ao ps.length cap hle _ (src_none Tryz.underlying31), ?_, Below.refl _ _⟩
    simpa using h
  · obtain ⟨ad, rfl⟩ : ∃ ad, bo = some ad := by
      cases bo with
      | none => have := (hx.nil rfl).1; omega
      | some ad => exact ⟨ad, rfl⟩
    obtain ⟨v', w', h1, h2, h3, -⟩ := run_append_own (P := Tryz.prog) w base 31 ty 33 i0 _ 6 88 Tryz.underlying31 hi hz0 hz1 hz2 rfl (by decide) v ps.length (cellsC ps) h ad m c (cellsC qs) (by unfold cellsC; rw [flat_len CA.cells 6 (fun _ => rfl), hlen])
      (fun j u hu => by
        have hj := (List.getElem?_eq_some_iff.1 hu).1
        unfold cellsC at hj
        rw [flat_len CA.cells 6 (fun _ => rfl)] at hj
        have hq : j / 6 < qs.length := by omega
        have ej : j / 6 * 6 + j % 6 = j := by omega
        have hg := flat_get CA.cells 6 (fun _ => rfl) qs (j / 6) (j % 6) hq (by omega)
        rw [ej] at hg
        have := hx.cell ad rfl (j / 6) hq (j % 6) u (hg.symm.trans hu)
        rw [ej] at this
        exact this) (cellsC_one qs) (by unfold maxLen; omega) (by omega) hb
    refine ⟨v', w', h1, ?_, (Below.refl _ w).grown h3 hb (fun k hk => (h.lt k hk).1)⟩
    rw [cellsC_app, List.length_append, hlen]
    exact h2
theorem own_slice3 {W : World} {base n : Nat} {e : TypeId} {size : Nat} {v : Value} {xs : List Value} (h : W.ownsRow base e size v n xs) : ∃ ao m cap, v = .slice ao m cap := by
  rcases h.2 with ⟨rfl, rfl⟩ | ⟨g, cap, cur, rfl, _⟩
  · exact ⟨none, 0, 0, rfl⟩
  · exact ⟨_, _, cap, rfl⟩
theorem run_appC0 {w : World} {base g : Nat} {qs : List CA} (ty : TypeId) (hb : base ≤ g) (hg : Arr w g 33 []) {bo : Option Addr} {m c : Nat} (hx : CL w bo m c qs) (hn : m ≤ 1000000) (hbase : base ≤ w.heap.size) :
    ∃ v' w', (Builtin.append_ #[31, 31] ty #[.slice (some ⟨g, 0, none⟩) 0 0, .slice bo m c]).run Tryz.prog w = .ok v' w' ∧ w'.ownsRow base 33 6 v' qs.length (cellsC qs) ∧ Below w.heap.size w w' := by
  have hlen := hx.len
  have O : w.ownsRow base 33 6 (.slice (some ⟨g, 0, none⟩) 0 0) ([] : List CA).length (cellsC []) := ⟨rfl, .inr ⟨g, 0, #[], rfl, hb, hg, Nat.le_refl _, Nat.zero_le _, rfl, rfl⟩⟩
  obtain ⟨i0, hi, hz0, hz1, hz2⟩ := info_parts cellInfo
  by_cases hm : m = 0
  · subst hm
    obtain rfl : qs = [] := List.eq_nil_of_length_eq_zero hlen
    exact ⟨_, w, run_append_nothing w 31 31 ty 33 i0 Tryz.underlying31 hi _ 0 0 (Nat.le_refl _) _ (src_none Tryz.underlying31), O, Below.refl _ _⟩
  · obtain ⟨ad, rfl⟩ : ∃ ad, bo = some ad := by
      cases bo with
      | none => have := (hx.nil rfl).1; omega
      | some ad => exact ⟨ad, rfl⟩
    obtain ⟨v', w', hr, h1, -⟩ := run_appCs (ps := []) ty O hbase hx (by simp; omega)
    have hr2 := run_append_grow (P := Tryz.prog) w 31 ty 33 i0 _ Tryz.underlying31 hi hz0 ⟨g, 0, none⟩ 0 0 [] (by simp) (fun j v h => by simp at h) ad m c (cellsC qs) (by unfold cellsC; rw [flat_len CA.cells 6 (fun _ => rfl), hlen, hz1])
      (fun j u hu => by
        have hj := (List.getElem?_eq_some_iff.1 hu).1
        unfold cellsC at hj
        rw [flat_len CA.cells 6 (fun _ => rfl)] at hj
        have hq : j / 6 < qs.length := by omega
        have ej : j / 6 * 6 + j % 6 = j := by omega
        have hg := flat_get CA.cells 6 (fun _ => rfl) qs (j / 6) (j % 6) hq (by omega)
        rw [ej] at hg
        have := hx.cell ad rfl (j / 6) hq (j % 6) u (hg.symm.trans hu)
        rw [ej] at this
        exact this) (by omega) (by omega) (by
        rw [hz2]
        exact growslice_fits (by omega) (by omega))
    rw [hr] at hr2
    simp only [Result.ok.injEq] at hr2
    obtain ⟨rfl, rfl⟩ := hr2
    refine ⟨_, _, hr, h1, ?_⟩
    exact (Below.refl _ w).drew.alloc (by simp) _
theorem run_appN {w0 w : World} {base : Nat} {v : Value} {l : List CA} (ty : TypeId) (hown : CNew w0 w base v l) {g cp : Nat} {c : CA} (hc : Arr w g 33 [.string c.row, .string c.fam, .string c.qual, .int .u64 c.time, .slice c.va.ao c.va.n c.va.cap, .bool c.gone]) (hok : c.ok w0) (hn : l.length ≤ 1000000) (hbase : base ≤ w.heap.size) :
    ∃ v' w', (Builtin.append_ #[31, 31] ty #[v, .slice (some ⟨g, 0, none⟩) 1 cp]).run Tryz.prog w = .ok v' w' ∧ CNew w0 w' base v' (l ++ [c]) ∧ Below base w w' := by
  obtain ⟨i0, hi, hz0, hz1, hz2⟩ := info_parts cellInfo
  obtain ⟨v', w', h1, h2, h3, -⟩ := run_append_own (P := Tryz.prog) w base 31 ty 33 i0 _ 6 88 Tryz.underlying31 hi hz0 hz1 hz2 rfl (by decide) v l.length (cellsC l) hown.row ⟨g, 0, none⟩ 1 cp c.cells rfl
    (fun j u hu => by
      rw [Addr.add_lit, Nat.zero_add, Arr.cell hc]
      simpa [CA.cells] using hu) (c_one c) (by unfold maxLen; omega) (by omega) hbase
  refine ⟨v', w', h1, ⟨?_, fun d hd => ?_⟩, (Below.refl _ w).grown h3 hbase (fun k hk => (hown.row.lt k hk).1)⟩
  · have e : cellsC (l ++ [c]) = cellsC l ++ c.cells := by simp [cellsC]
    rw [e, List.length_append]
    exact h2
  · rcases List.mem_append.1 hd with hd | hd
    · exact hown.ok d hd
    · rw [List.mem_singleton.1 hd]; exact hok
theorem run_appNs {w0 w : World} {base : Nat} {v : Value} {l qs : List CA} (ty : TypeId) (hown : CNew w0 w base v l) {bo : Option Addr} {m c : Nat} (hx : CL w bo m c qs) (hok : ∀ c ∈ qs, c.ok w0) (hn : l.length + m ≤ 1000000) (hbase : base ≤ w.heap.size) :
    ∃ v' w', (Builtin.append_ #[31, 31] ty #[v, .slice bo m c]).run Tryz.prog w = .ok v' w' ∧ CNew w0 w' base v' (l ++ qs) ∧ Below base w w' := by
  obtain ⟨v', w', hr, h1, h2⟩ := run_appCs (w := w) ty hown.row hbase hx hn
  refine ⟨v', w', hr, ⟨h1, fun d hd => ?_⟩, h2⟩
  rcases List.mem_append.1 hd with hd | hd
  · exact hown.ok d hd
  · exact hok d hd
def bk6 (ao : Option Addr) (cap j : Nat) : Option Addr := if cap = j then ao else ao.map (·.add (j * 6))
theorem run_backC {W : World} {ao : Option Addr} {n cap j : Nat} (h1 : j ≤ n) :
    (Instr.sliceAt 31 (.slice ao n cap) (some (.int .i64 (j : Nat))) none none).run Tryz.prog W = .ok (.slice (bk6 ao cap j) (n - j) (cap - j)) W := by
  have ht := Tryz.underlying31
  have he : Tryz.prog.elem 31 = 33 := by simp [Program.elem, ht]
  rw [run_sliceAt_slice W 31 _ _ _ _ (by rw [he]; exact ht), run_slice_l W 31 ao n cap (by rw [he]; exact ht) .i64 j (by omega) (by omega), he, size6]
  simp only [Result.andThen_ok, sliced, Int.toNat_natCast, bk6]
theorem CL.from {w : World} {ao : Option Addr} {n cap : Nat} {l : List CA} (h : CL w ao n cap l) (j : Nat) (hj : j ≤ n) : CL w (bk6 ao cap j) (n - j) (cap - j) (l.drop j) := by
  have h1 := h.len
  have h2 := h.mx
  have h3 := h.le
  refine ⟨by simp; omega, by omega, by omega, fun hn => ?_, fun b hb i hi k v hv => ?_, fun q hq => h.ok q (List.mem_of_mem_drop hq)⟩
  · unfold bk6 at hn
    by_cases hc : cap = j
    · omega
    · rw [if_neg hc] at hn
      have := h.nil (by simpa using hn)
      omega
  · simp only [List.length_drop] at hi
    have hc : cap ≠ j := by omega
    unfold bk6 at hb
    rw [if_neg hc] at hb
    cases ao with
    | none => simp at hb
    | some a =>
      have hb' : a.add (j * 6) = b := by simpa using hb
      rw [List.getElem_drop] at hv
      have := h.cell a rfl (j + i) (by omega) k v hv
      rw [← hb', Addr.add_add]
      have e : j * 6 + (i * 6 + k) = (j + i) * 6 + k := by omega
      rw [e]
      exact this
theorem bk6_some {b off cap k : Nat} (hk : k < cap) : bk6 (some ⟨b, off, none⟩) cap k = some ⟨b, off + k * 6, none⟩ := by
  unfold bk6
  rw [if_neg (by omega)]
  simp only [Option.map_some, Addr.add_lit]
def LsPost (w : World) (cs : List CV) (e : Ending) (w' : World) : Prop := ∃ ao n cap l, e = .returned (.slice ao n cap) ∧ CL w' ao n cap l ∧ l.map CA.c = cs ∧ Below w.heap.size w w'
open Go.RowKit
def keyB (a b : KA) : Bool := decide (a.row = b.row ∧ a.fam = b.fam ∧ a.qual = b.qual ∧ a.time = b.time)
theorem toL_iff (a b : ByteArray) : a.toList = b.toList ↔ a = b := by
  constructor
  · intro h
    by_cases e : a = b
    · exact e
    · have := toL_ne e
      rw [h] at this
      simp at this
  · intro h; rw [h]
theorem key_ifs (a b : KA) (x y : Bool) (W : World) : (if a.row.toList = b.row.toList then if a.fam.toList = b.fam.toList then if a.qual.toList = b.qual.toList then if (a.time : Int) = (b.time : Int) then Result.ok (Next.value (Value.bool x)) W else Result.ok (Next.value (Value.bool y)) W else Result.ok (Next.value (Value.bool y)) W else Result.ok (Next.value (Value.bool y)) W else Result.ok (Next.value (Value.bool y)) W) = Result.ok (Next.value (Value.bool (if keyB a b = true then x else y))) W := by
  by_cases e1 : a.row = b.row
  · by_cases e2 : a.fam = b.fam
    · by_cases e3 : a.qual = b.qual
      · by_cases e4 : a.time = b.time
        · have hv : keyB a b = true := decide_eq_true ⟨e1, e2, e3, e4⟩
          rw [hv, if_pos ((toL_iff _ _).2 e1), if_pos ((toL_iff _ _).2 e2), if_pos ((toL_iff _ _).2 e3), if_pos (by omega)]
          rfl
        · have hv : keyB a b = false := decide_eq_false fun h => e4 h.2.2.2
          rw [hv, if_pos ((toL_iff _ _).2 e1), if_pos ((toL_iff _ _).2 e2), if_pos ((toL_iff _ _).2 e3), if_neg (by omega)]
          rfl
      · have hv : keyB a b = false := decide_eq_false fun h => e3 h.2.2.1
        rw [hv, if_pos ((toL_iff _ _).2 e1), if_pos ((toL_iff _ _).2 e2), if_neg (fun h => e3 ((toL_iff _ _).1 h))]
        rfl
    · have hv : keyB a b = false := decide_eq_false fun h => e2 h.2.1
      rw [hv, if_pos ((toL_iff _ _).2 e1), if_neg (fun h => e2 ((toL_iff _ _).1 h))]
      rfl
  · have hv : keyB a b = false := decide_eq_false fun h => e1 h.1
    rw [hv, if_neg (fun h => e1 ((toL_iff _ _).1 h))]
    rfl
theorem if_yes (b : Bool) : (if b = true then true else false) = b := by cases b <;> rfl
open Go.RowKit
set_option maxRecDepth 100000 in
set_option maxHeartbeats 2000000 in
theorem rcmp_any (w : World) (a b : KA) (ha : a.ok) (hb : b.ok) :
    Calls Tryz.prog 71 #[a.val, b.val] w fun e w' => e = .returned (.int .i64 (cmpK a.kv b.kv)) ∧ Below w.heap.size w w' := by
  unfold KA.val
  have B2' : Below w.heap.size w ((w.alloc (Obj.cells #[.string a.row, .string a.fam, .string a.qual, .int .u64 a.time] 24)).alloc (Obj.cells #[.string b.row, .string b.fam, .string b.qual, .int .u64 b.time] 24)) := ((Below.refl _ w).alloc (Nat.le_refl _) _).alloc (by simp) _
  have h0 : w.heap.size < (w.alloc (Obj.cells #[.string a.row, .string a.fam, .string a.qual, .int .u64 a.time] 24)).heap.size := by simp
  have h1 : w.heap.size + 1 = (w.alloc (Obj.cells #[.string a.row, .string a.fam, .string a.qual, .int .u64 a.time] 24)).heap.size := by simp
  have HA' : ∀ i, i < 4 → ((w.alloc (Obj.cells #[.string a.row, .string a.fam, .string a.qual, .int .u64 a.time] 24)).alloc (Obj.cells #[.string b.row, .string b.fam, .string b.qual, .int .u64 b.time] 24)).cell? ⟨w.heap.size, i, none⟩ = #[Value.string a.row, .string a.fam, .string a.qual, .int .u64 a.time][i]? ∧ ((w.alloc (Obj.cells #[.string a.row, .string a.fam, .string a.qual, .int .u64 a.time] 24)).alloc (Obj.cells #[.string b.row, .string b.fam, .string b.qual, .int .u64 b.time] 24)).cell? ⟨w.heap.size + 1, i, none⟩ = #[Value.string b.row, .string b.fam, .string b.qual, .int .u64 b.time][i]? := fun i hi => by
    constructor
    · rw [World.cell?_alloc_past _ _ _ h0, World.cell?_alloc_at _ _ _ _ rfl]
    · rw [World.cell?_alloc_at _ _ _ _ h1]
  clear h0 h1
  go_enter Tryz.func71, Tryz.ntmps71
  go_wp2_with fail
  obtain ⟨w2, hw2⟩ : ∃ W, W = ((w.alloc (Obj.cells #[.string a.row, .string a.fam, .string a.qual, .int .u64 a.time] 24)).alloc (Obj.cells #[.string b.row, .string b.fam, .string b.qual, .int .u64 b.time] 24)) := ⟨_, rfl⟩
  rw [← hw2] at B2' HA' ⊢
  have B2 : Below w.heap.size w w2 := B2'
  have HA : Hid (∀ V, Below w2.heap.size w2 V → ∀ i, i < 4 → V.cell? ⟨w.heap.size, i, none⟩ = #[Value.string a.row, .string a.fam, .string a.qual, .int .u64 a.time][i]? ∧ V.cell? ⟨w.heap.size + 1, i, none⟩ = #[Value.string b.row, .string b.fam, .string b.qual, .int .u64 b.time][i]?) := by
    have hz : w2.heap.size = w.heap.size + 2 := by rw [hw2]; simp
    intro V hV i hi
    rw [hV.cell (by show w.heap.size < _; omega), hV.cell (by show w.heap.size + 1 < _; omega)]
    exact HA' i hi
  clear hw2 B2' HA'
  refine (text_any w2 a.row b.row ha.row hb.row).mono ?_
  rintro e w3 ⟨rfl, C3⟩
  have E3 := C3
  have B3 : Below w.heap.size w w3 := B2.trans (E3.mono B2.size)
  obtain ⟨c3, hc3⟩ : ∃ c, c = cmpL (sb a.row) (sb b.row) := ⟨_, rfl⟩
  rw [← hc3]
  have HC3 : Hid (c3 = cmpL (sb a.row) (sb b.row)) := hc3
  clear hc3
  by_cases e3 : c3 = 0
  · subst e3
    obtain ⟨k3, l3⟩ := HA.out w3 E3 1 (by omega)
    simp at k3 l3
    go_wp2_with fail
    refine (text_any w3 a.fam b.fam ha.fam hb.fam).mono ?_
    rintro e w4 ⟨rfl, C4⟩
    have E4 := E3.trans (C4.mono E3.size)
    have B4 : Below w.heap.size w w4 := B2.trans (E4.mono B2.size)
    obtain ⟨c4, hc4⟩ : ∃ c, c = cmpL (sb a.fam) (sb b.fam) := ⟨_, rfl⟩
    rw [← hc4]
    have HC4 : Hid (c4 = cmpL (sb a.fam) (sb b.fam)) := hc4
    clear hc4
    by_cases e4 : c4 = 0
    · subst e4
      clear k3 l3
      obtain ⟨k4, l4⟩ := HA.out w4 E4 2 (by omega)
      simp at k4 l4
      go_wp2_with fail
      refine (text_any w4 a.qual b.qual ha.qual hb.qual).mono ?_
      rintro e w5 ⟨rfl, C5⟩
      have E5 := E4.trans (C5.mono E4.size)
      have B5 : Below w.heap.size w w5 := B2.trans (E5.mono B2.size)
      obtain ⟨c5, hc5⟩ : ∃ c, c = cmpL (sb a.qual) (sb b.qual) := ⟨_, rfl⟩
      rw [← hc5]
      have HC5 : Hid (c5 = cmpL (sb a.qual) (sb b.qual)) := hc5
      clear hc5
      by_cases e5 : c5 = 0
      · subst e5
        clear k4 l4
        obtain ⟨k5, l5⟩ := HA.out w5 E5 3 (by omega)
        simp at k5 l5
        by_cases et : a.time = b.time
        · have f1 : ((a.time : Int) == (b.time : Int)) = true := by simp; omega
          have hv : Hid (cmpK a.kv b.kv = 0) := by
            show _ = _
            simp only [cmpK, KA.kv, if_true, ← HC3.out, ← HC4.out, ← HC5.out, cmpT]; exact if_pos et
          go_wp2
          go_ret
          exact ⟨by rw [hv.out] <;> rfl, B5⟩
        · have f1 : ((a.time : Int) == (b.time : Int)) = false := by simp; omega
          by_cases lt : b.time < a.time
          · have f2 : (b.time : Int) < (a.time : Int) := by omega
            have hv : Hid (cmpK a.kv b.kv = -1) := by
              show _ = _
              simp only [cmpK, KA.kv, if_true, ← HC3.out, ← HC4.out, ← HC5.out, cmpT]; exact (if_neg et).trans (if_pos lt)
            go_wp2
            go_ret
            exact ⟨by rw [hv.out] <;> rfl, B5⟩
          · have f2 : (a.time : Int) ≤ (b.time : Int) := by omega
            have hv : Hid (cmpK a.kv b.kv = 1) := by
              show _ = _
              simp only [cmpK, KA.kv, if_true, ← HC3.out, ← HC4.out, ← HC5.out, cmpT]; exact (if_neg et).trans (if_neg lt)
            go_wp2
            go_ret
            exact ⟨by rw [hv.out] <;> rfl, B5⟩
      · have f5 : (c5 == 0) = false := by simp; omega
        have hv : Hid (cmpK a.kv b.kv = c5) := by
          show _ = _
          simp only [cmpK, KA.kv, if_true, ← HC3.out, ← HC4.out, ← HC5.out]; exact if_neg e5
        go_wp2
        go_ret
        exact ⟨by rw [hv.out] <;> rfl, B5⟩
    · have f4 : (c4 == 0) = false := by simp; omega
      have hv : Hid (cmpK a.kv b.kv = c4) := by
        show _ = _
        simp only [cmpK, KA.kv, if_true, ← HC3.out, ← HC4.out]; exact if_neg e4
      go_wp2
      go_ret
      exact ⟨by rw [hv.out] <;> rfl, B4⟩
  · have f3 : (c3 == 0) = false := by simp; omega
    have hv : Hid (cmpK a.kv b.kv = c3) := by
      show _ = _
      simp only [cmpK, KA.kv, ← HC3.out]; exact if_neg e3
    go_wp2
    go_ret
    exact ⟨by rw [hv.out] <;> rfl, B3⟩
end Go.Proofs.YtlljmhcgjkolpaaGreatDoor

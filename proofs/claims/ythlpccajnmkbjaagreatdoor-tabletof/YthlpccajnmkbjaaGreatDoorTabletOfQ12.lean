/-
  Texts in one: TbCol, HRegB, TbMost, PChg, PChgW.
-/
import Derived.Test.YthlpccajnmkbjaaGreatDoorTabletOfQFL
import Derived.Test.YthlpccajnmkbjaaGreatDoorTabletOfQ11
import Derived.Test.YthlpccajnmkbjaaGreatDoorTabletOfQ10
import Derived.Test.YthlpccajnmkbjaaGreatDoorTabletOfQ3
import Derived.Test.YthlpccajnmkbjaaGreatDoorTabletOfQ0
import Derived.Test.YthlpccajnmkbjaaGreatDoorTabletOfQ8
import Derived.DeepKeys4
namespace Go.Proofs.YthlpccajnmkbjaaGreatDoor
open Go.RowKit
set_option maxHeartbeats 1000000 in
set_option maxRecDepth 100000 in
theorem col1_tells (w : World) (kb : Nat) (k : KA) (hk : KyC w kb k) : Tells w 120 #[.pointer (some ⟨kb, 0, none⟩)] fun c => c.col k := fun W c hb _ => by
  show Calls Tryz.prog 120 #[.agg #[.string c.row, .string c.fam, .string c.qual, .int .u64 c.time, .slice c.va.ao c.va.n c.va.cap, .bool c.gone], .pointer (some ⟨kb, 0, none⟩)] W _
  obtain ⟨W1, hW1⟩ : ∃ V, V = W.alloc (.cells #[.string c.row, .string c.fam, .string c.qual, .int .u64 c.time, .slice c.va.ao c.va.n c.va.cap, .bool c.gone] 69) := ⟨_, rfl⟩
  have C1 : Below W.heap.size W W1 := by rw [hW1]; exact (Below.refl _ _).alloc (Nat.le_refl _) _
  have kw := (hk.keep hb).keep C1
  have q0 : (W.alloc (.cells #[.string c.row, .string c.fam, .string c.qual, .int .u64 c.time, .slice c.va.ao c.va.n c.va.cap, .bool c.gone] 69)).cell? ⟨kb, 0, none⟩ = some (.string k.row) := by rw [← hW1]; exact kw.c0
  have q1 : (W.alloc (.cells #[.string c.row, .string c.fam, .string c.qual, .int .u64 c.time, .slice c.va.ao c.va.n c.va.cap, .bool c.gone] 69)).cell? ⟨kb, 1, none⟩ = some (.string k.fam) := by rw [← hW1]; exact kw.c1
  have q2 : (W.alloc (.cells #[.string c.row, .string c.fam, .string c.qual, .int .u64 c.time, .slice c.va.ao c.va.n c.va.cap, .bool c.gone] 69)).cell? ⟨kb, 2, none⟩ = some (.string k.qual) := by rw [← hW1]; exact kw.c2
  have q3 : (W.alloc (.cells #[.string c.row, .string c.fam, .string c.qual, .int .u64 c.time, .slice c.va.ao c.va.n c.va.cap, .bool c.gone] 69)).cell? ⟨kb, 3, none⟩ = some (.int .u64 k.time) := by rw [← hW1]; exact kw.c3
  have CP := pcolumn_any W1 c.key k
  unfold KA.val at CP
  go_enter Tryz.func120, Tryz.ntmps120
  go_wp2_with fail
  rw [← hW1]
  refine CP.mono ?_
  rintro e w2 ⟨rfl, C2⟩
  go_wp2
  go_ret
  exact ⟨rfl, C1.trans (C2.mono C1.size)⟩
theorem col_rows (k : KA) (cs : List CV) : (cs.filter fun c => inRows k.row ⟨#[]⟩ c.row && c.col k) = colC k cs := by
  unfold colC
  refine List.filter_congr fun c _ => ?_
  cases h : c.col k with
  | false => rw [Bool.and_false]
  | true =>
    have h1 := (of_decide_eq_true h).1
    rw [Bool.and_true, h1]
    exact decide_eq_true ⟨cmpL_irr _, .inl rfl⟩
set_option maxHeartbeats 1000000 in
set_option maxRecDepth 100000 in
theorem column_row (w : World) (p : Nat) (f t : ByteArray) (cs : List CV) (k : KA) (hT : TB w p f t cs) (hs : CSrt cs) (hg : CGood cs) (hr : k.row.size ≤ 32) (hn : cs.length ≤ 1000) :
    Calls Tryz.prog 76 #[.pointer (some ⟨p, 0, none⟩), k.val] w (AmRow w (colC k cs)) := by
  obtain ⟨W1, hW1⟩ : ∃ V, V = w.alloc (.cells #[.string k.row, .string k.fam, .string k.qual, .int .u64 k.time] 39) := ⟨_, rfl⟩
  have C1 : Below w.heap.size w W1 := by rw [hW1]; exact (Below.refl _ _).alloc (Nat.le_refl _) _
  have K1 : KyC W1 w.heap.size k := by rw [hW1]; exact KyC.new w k
  have CA := among_row W1 p f t cs k.row ⟨#[]⟩ 120 #[.pointer (some ⟨w.heap.size, 0, none⟩)] (fun c => c.col k) (enters_of Tryz.func120 (by kernel_rfl) rfl) (hT.below C1) hs hg hr (by decide) hn (col1_tells W1 _ k K1)
  rw [col_rows] at CA
  unfold KA.val
  go_enter Tryz.func76, Tryz.ntmps76
  go_wp2_with fail
  rw [← hW1]
  refine CA.mono ?_
  rintro e w2 ⟨v, base, l, rfl, hb, h1, h3, C2⟩
  have hs1 := C1.size
  go_wp2
  go_ret
  exact ⟨v, base, l, rfl, Nat.le_trans hs1 hb, h1, h3, C1.trans (C2.mono C1.size)⟩
theorem column_any (w : World) (p : Nat) (f t : ByteArray) (cs : List CV) (k : KA) (hT : TB w p f t cs) (hs : CSrt cs) (hg : CGood cs) (hr : k.row.size ≤ 32) (hn : cs.length ≤ 1000) :
    Calls Tryz.prog 76 #[.pointer (some ⟨p, 0, none⟩), k.val] w (AmPost w (colC k cs)) :=
  (column_row w p f t cs k hT hs hg hr hn).mono fun _ _ h => h.post
def eqK (k : KA) (c : CV) : Bool := decide (c.row = k.row ∧ c.fam = k.fam ∧ c.qual = k.qual ∧ c.time = k.time)
set_option maxHeartbeats 1000000 in
set_option maxRecDepth 100000 in
theorem has1_tells (w : World) (kb : Nat) (k : KA) (hk : KyC w kb k) : Tells w 154 #[.pointer (some ⟨kb, 0, none⟩)] (eqK k) := fun W c hb _ => by
  show Calls Tryz.prog 154 #[.agg #[.string c.row, .string c.fam, .string c.qual, .int .u64 c.time, .slice c.va.ao c.va.n c.va.cap, .bool c.gone], .pointer (some ⟨kb, 0, none⟩)] W _
  have C1 : Below W.heap.size W (W.alloc (.cells #[.string c.row, .string c.fam, .string c.qual, .int .u64 c.time, .slice c.va.ao c.va.n c.va.cap, .bool c.gone] 69)) := (Below.refl _ _).alloc (Nat.le_refl _) _
  have kw := (hk.keep hb).keep C1
  have q0 := kw.c0
  have q1 := kw.c1
  have q2 := kw.c2
  have q3 := kw.c3
  clear kw C1
  by_cases e1 : c.row = k.row
  · have t1 : (c.row.toList == k.row.toList) = true := by rw [e1]; simp
    by_cases e2 : c.fam = k.fam
    · have t2 : (c.fam.toList == k.fam.toList) = true := by rw [e2]; simp
      by_cases e3 : c.qual = k.qual
      · have t3 : (c.qual.toList == k.qual.toList) = true := by rw [e3]; simp
        by_cases e4 : c.time = k.time
        · have t4 : ((c.time : Int) == (k.time : Int)) = true := by simp [e4]
          have hv : Hid (eqK k c.c = true) := decide_eq_true ⟨e1, e2, e3, e4⟩
          clear e1 e2 e3 e4
          go_enter Tryz.func154, Tryz.ntmps154
          go_wp2
          go_ret
          exact ⟨by rw [hv.out] <;> rfl, (Below.refl _ _).alloc (Nat.le_refl _) _⟩
        · have t4 : ((c.time : Int) == (k.time : Int)) = false := by simp; omega
          have hv : Hid (eqK k c.c = false) := decide_eq_false fun h => e4 h.2.2.2
          clear e1 e2 e3 e4
          go_enter Tryz.func154, Tryz.ntmps154
          go_wp2
          go_ret
          exact ⟨by rw [hv.out] <;> rfl, (Below.refl _ _).alloc (Nat.le_refl _) _⟩
      · have t3 := toL_ne e3
        have hv : Hid (eqK k c.c = false) := decide_eq_false fun h => e3 h.2.2.1
        clear e1 e2 e3
        go_enter Tryz.func154, Tryz.ntmps154
        go_wp2
        go_ret
        exact ⟨by rw [hv.out] <;> rfl, (Below.refl _ _).alloc (Nat.le_refl _) _⟩
    · have t2 := toL_ne e2
      have hv : Hid (eqK k c.c = false) := decide_eq_false fun h => e2 h.2.1
      clear e1 e2
      go_enter Tryz.func154, Tryz.ntmps154
      go_wp2
      go_ret
      exact ⟨by rw [hv.out] <;> rfl, (Below.refl _ _).alloc (Nat.le_refl _) _⟩
  · have t1 := toL_ne e1
    have hv : Hid (eqK k c.c = false) := decide_eq_false fun h => e1 h.1
    clear e1
    go_enter Tryz.func154, Tryz.ntmps154
    go_wp2
    go_ret
    exact ⟨by rw [hv.out] <;> rfl, (Below.refl _ _).alloc (Nat.le_refl _) _⟩
def IxPost (l : List CV) (pr : CV → Bool) (r : Int) : Prop := (r = -1 ∧ l.any pr = false) ∨ (0 ≤ r ∧ l.any pr = true ∧ ∃ k : Nat, r = k ∧ (l.take k).any pr = false ∧ ∃ h : k < l.length, pr l[k] = true)
set_option maxHeartbeats 2000000 in
set_option maxRecDepth 100000 in
theorem index_any (w : World) (ao : Option Addr) (n cap : Nat) (l : List CA) (g : Nat) (lb : Array Value) (pr : CV → Bool) (eg : ∀ args w, (callFunc g args).run Tryz.prog w = .ok (.enter g args) w) (h : CL w ao n cap l) (hn : n ≤ 1000) (hand : Tells w g lb pr) :
    Calls Tryz.prog 142 #[.slice ao n cap, .func (.func g) #[] lb] w fun e w' => ∃ r, e = .returned (.int .i64 r) ∧ IxPost (l.map CA.c) pr r ∧ Below w.heap.size w w' := by
  have hl1 := Nat.le_of_eq h.len
  have hl2 := Nat.le_of_eq h.len.symm
  have hni : (n : Int) ≤ 1000 := by omega
  have HH : Hid (Tells w g lb pr) := hand
  clear hand
  go_enter Tryz.func142, Tryz.ntmps142
  go_wp2
  go_loopw [8] (fun i wr => ∃ k : Nat, k ≤ n ∧ i = .int .i64 k ∧ Hid (((l.take k).map CA.c).any pr = false) ∧ Below w.heap.size w wr) (fun i _ => n - (intOf i).toNat)
  case atStart => exact ⟨0, Nat.zero_le _, rfl, rfl, Below.refl _ _⟩
  case round =>
    obtain ⟨k, hk, rfl, HA, B0⟩ := hrel
    by_cases hlt : k < n
    · have hki : (k : Int) < (n : Int) := by omega
      have hkl : k < l.length := by omega
      obtain ⟨b, off, rfl, hc⟩ := h.at (by omega)
      have X := (hc k hkl).below B0
      have hok := (h.ok _ (List.getElem_mem hkl)).below B0
      have HTK : Hid (((l.take (k + 1)).map CA.c).any pr = pr l[k].c) := by
        show _ = _
        rw [List.take_succ_eq_append_getElem hkl, List.map_append, List.any_append, HA.out]
        simp
      have HMM : Hid (pr l[k].c = true → (l.map CA.c).any pr = true) := fun hp => List.any_eq_true.2 ⟨_, List.mem_map.2 ⟨_, List.getElem_mem hkl, rfl⟩, hp⟩
      obtain ⟨c, hce⟩ : ∃ c, c = l[k] := ⟨_, rfl⟩
      have HPK : Hid (pr c.c = true → pr l[k].c = true) := fun h => by rw [← hce]; exact h
      rw [← hce] at X hok HTK HMM
      obtain ⟨q0, q1, q2, q3, q4, q5⟩ := X
      have CH := HH.out wr c B0 hok
      clear hc hce
      go_wp2_with fail
      refine CH.mono ?_
      rintro e w2 ⟨rfl, C2⟩
      have B2 := B0.trans (C2.mono B0.size)
      clear CH q0 q1 q2 q3 q4 q5
      cases hp : pr c.c with
      | false =>
        have HA2 : Hid (((l.take (k + 1)).map CA.c).any pr = false) := by show _ = _; rw [HTK.out, hp]
        clear hp
        go_wp2
        go_roundw
        case rel => exact ⟨k + 1, by omega, by go_num, HA2, B2⟩
        case measure => simp [intOf]; omega
      | true =>
        have HA2 := HMM.out hp
        have HA3 : Hid ((l.map CA.c).any pr = true) := HA2
        have HA4 : Hid (((l.map CA.c).take k).any pr = false ∧ ∃ h : k < (l.map CA.c).length, pr (l.map CA.c)[k] = true) := ⟨by rw [← List.map_take]; exact HA.out, by rw [List.length_map]; exact hkl, by rw [List.getElem_map]; exact HPK.out hp⟩
        clear hp HA2
        go_wp2
        go_ret
        exact ⟨(k : Int), rfl, .inr ⟨by omega, HA3.out, k, rfl, HA4.out⟩, B2⟩
    · have hge : ¬ (k : Int) < (n : Int) := by omega
      have HA2 : Hid ((l.map CA.c).any pr = false) := by
        show _ = _
        rw [← HA.out, List.take_of_length_le (by omega)]
      go_wp2
      go_ret
      exact ⟨-1, rfl, .inl ⟨rfl, HA2.out⟩, B0⟩
set_option maxHeartbeats 1000000 in
set_option maxRecDepth 100000 in
theorem contains_any (w : World) (ao : Option Addr) (n cap : Nat) (l : List CA) (g : Nat) (lb : Array Value) (pr : CV → Bool) (eg : ∀ args w, (callFunc g args).run Tryz.prog w = .ok (.enter g args) w) (h : CL w ao n cap l) (hn : n ≤ 1000) (hand : Tells w g lb pr) (bb : Bool) (hb : Hid (bb = (l.map CA.c).any pr)) :
    Calls Tryz.prog 100 #[.slice ao n cap, .func (.func g) #[] lb] w fun e w' => e = .returned (.bool bb) ∧ Below w.heap.size w w' := by
  have CI := index_any w ao n cap l g lb pr eg h hn hand
  go_enter Tryz.func100, Tryz.ntmps100
  go_wp2_with fail
  refine CI.mono ?_
  rintro e w2 ⟨r, rfl, hr, C2⟩
  clear CI
  rcases hr with ⟨rfl, hv⟩ | ⟨h0, hv, -⟩
  · obtain rfl : bb = false := hb.out.trans hv
    go_wp2
    go_ret
    exact ⟨rfl, C2⟩
  · obtain rfl : bb = true := hb.out.trans hv
    go_wp2
    go_ret
    exact ⟨rfl, C2⟩
set_option maxHeartbeats 1000000 in
set_option maxRecDepth 100000 in
theorem has_any (w : World) (ao : Option Addr) (n cap : Nat) (l : List CA) (k : KA) (h : CL w ao n cap l) (hn : n ≤ 1000) (bb : Bool) (hb : Hid (bb = (l.map CA.c).any (eqK k))) :
    Calls Tryz.prog 116 #[.slice ao n cap, k.val] w fun e w' => e = .returned (.bool bb) ∧ Below w.heap.size w w' := by
  obtain ⟨W1, hW1⟩ : ∃ V, V = w.alloc (.cells #[.string k.row, .string k.fam, .string k.qual, .int .u64 k.time] 39) := ⟨_, rfl⟩
  have C1 : Below w.heap.size w W1 := by rw [hW1]; exact (Below.refl _ _).alloc (Nat.le_refl _) _
  have K1 : KyC W1 w.heap.size k := by rw [hW1]; exact KyC.new w k
  have CC := contains_any W1 ao n cap l 154 #[.pointer (some ⟨w.heap.size, 0, none⟩)] (eqK k) (enters_of Tryz.func154 (by kernel_rfl) rfl) (h.below C1) hn (has1_tells W1 _ k K1) bb hb
  unfold KA.val
  go_enter Tryz.func116, Tryz.ntmps116
  go_wp2_with fail
  rw [← hW1]
  refine CC.mono ?_
  rintro e w2 ⟨rfl, C2⟩
  go_wp2
  go_ret
  exact ⟨rfl, C1.trans (C2.mono C1.size)⟩
end Go.Proofs.YthlpccajnmkbjaaGreatDoor
namespace Go
section
variable {P : Program} {ops : Array Oper} {S : World → Prop} {Q : Exit → Act → World → Prop} {fuel : Nat} {listed : Array Bool} {a : Act} {w : World}
theorem op_do (i : Nat) (d : Option Tmp) (v : Value) {oi : Oper} {w' : World} (hi : ops[i]? = some oi) (hd : oi.dst = d) (hg : oi.guard = none) (hrun : (execOp a.eval oi).run P w = .ok (.value v) w') (hS : S w')
    (h : wpAnyH P .any ops (NoPanic Q) S fuel (listed.setIfInBounds i true) (a.put d v) w') : wpOp P ops (NoPanic Q) i (fun a' w' => S w' ∧ wpAnyH P .any ops (NoPanic Q) S fuel (listed.setIfInBounds i true) a' w') a w := by
  have hw : Region.wanted oi (yielded ops a.tmps) = true := by simp [Region.wanted, hg]
  unfold wpOp
  simp only [hi, hw, if_true, Oper.wp, hrun, Oper.upon, hd]
  exact .inl ⟨hS, h⟩
theorem hr_two {i j : Nat} (hr : Region.ready .any ops listed = [i, j]) (h1 : wpOp P ops (NoPanic Q) i (fun a' w' => S w' ∧ wpAnyH P .any ops (NoPanic Q) S fuel (listed.setIfInBounds i true) a' w') a w)
    (h2 : wpOp P ops (NoPanic Q) j (fun a' w' => S w' ∧ wpAnyH P .any ops (NoPanic Q) S fuel (listed.setIfInBounds j true) a' w') a w) : wpAnyH P .any ops (NoPanic Q) S (fuel + 1) listed a w := by
  refine wpAnyH_all hr (by simp) fun k hk => ?_
  simp only [List.mem_cons, List.not_mem_nil, or_false] at hk
  rcases hk with rfl | rfl
  · exact h1
  · exact h2
end
end Go
namespace Go.Proofs.YthlpccajnmkbjaaGreatDoor
open Go.RowKit
theorem laidT : laidOutB Tryz.prog = true := by kernel_rfl
theorem keyLaw39 : WideMaps.KeyLaw Tryz.prog 39 := deep_law_laid laidT (m := 3) (by omega) (of_decide_eq_true (by kernel_rfl)) (by kernel_rfl) (by kernel_rfl)
theorem litsS (d : Nat) (s : ByteArray) (h : s.size ≤ maxLen) : Tryz.prog.keyLits (d + 1) 9 [.string s] = some [.string s.data.toList] := by
  simp [Program.keyLits, Tryz.underlying9, h]
theorem litsU (d : Nat) (n : Nat) (h : n < 18446744073709551616) : Tryz.prog.keyLits (d + 1) 37 [.int .u64 n] = some [.int .u64 n] := by
  have hw : (Lit.int .u64 n).wf = true := by simp [Lit.wf, IntKind.min, IntKind.max, IntKind.signed, IntKind.bits]; omega
  simp [Program.keyLits, Tryz.underlying37, hw]
theorem cS : Tryz.prog.cellsOf 9 = 1 := by kernel_rfl
theorem cU : Tryz.prog.cellsOf 37 = 1 := by kernel_rfl
theorem cK : Tryz.prog.cellsOf 39 = 4 := by kernel_rfl
theorem ktK : Tryz.prog.keyType 39 = true := by kernel_rfl
theorem keyKA (k : KA) (h : k.ok) : ∃ l, keyOf Tryz.prog 39 k.val = some l := by
  have hf : k.val.formed Tryz.prog 39 = true := by
    simp [KA.val, Value.formed, Tryz.underlying39, cK]
  obtain ⟨d, hd⟩ : ∃ d, Tryz.prog.types.size = d + 1 := ⟨Tryz.prog.types.size - 1, by
    have : 1 ≤ Tryz.prog.types.size := of_decide_eq_true (by kernel_rfl)
    omega⟩
  have hk : ∃ ls, Tryz.prog.keyLits (d + 2) 39 [.string k.row, .string k.fam, .string k.qual, .int .u64 k.time] = some ls := by
    unfold Program.keyLits
    rw [Tryz.underlying39]
    refine ⟨([[.string k.row.data.toList], [.string k.fam.data.toList], [.string k.qual.data.toList], [.int .u64 k.time]] : List (List Lit)).flatten, ?_⟩
    have hc : ([.string k.row, .string k.fam, .string k.qual, .int .u64 k.time] : List Value).length = 4 := rfl
    simp only [cK, hc]
    rw [if_pos ⟨trivial, by kernel_rfl⟩]
    simp only [List.mapM_cons, List.mapM_nil, cS, cU, List.drop_zero, List.drop_succ_cons, List.take_succ_cons, List.take_zero]
    rw [litsS d _ h.row, litsS d _ h.fam, litsS d _ h.qual, litsU d _ h.time]
    rfl
  obtain ⟨l2, hl2⟩ := hk
  have e0 : k.val.cells.toList = [.string k.row, .string k.fam, .string k.qual, .int .u64 k.time] := by simp [KA.val, Value.cells]
  unfold keyOf
  rw [Tryz.underlying39]
  simp only [ktK, hf, Bool.and_self, if_true]
  rw [hd, e0, hl2]
  exact ⟨_, rfl⟩
def keq (a b : KA) : Bool := decide (a.row = b.row ∧ a.fam = b.fam ∧ a.qual = b.qual ∧ a.time = b.time)
theorem keq_iff (a b : KA) : keq a b = true ↔ a = b := by
  unfold keq
  rw [decide_eq_true_eq]
  cases a; cases b
  simp
theorem KA.val_inj {a b : KA} (h : a.val = b.val) : a = b := by
  cases a; cases b
  simp only [KA.val, Value.agg.injEq] at h
  have h := congrArg Array.toList h
  simp at h
  obtain ⟨h1, h2, h3, h4⟩ := h
  subst h1 h2 h3
  rw [KA.mk.injEq]
  exact ⟨rfl, rfl, rfl, by omega⟩
def cntK (k : KA) (ks : List KA) : Nat := (ks.filter (keq k)).length
def mostR : List KA → Nat
  | [] => 0
  | k :: ks => max (mostR ks) (cntK k ks + 1)
def mostK (ks : List KA) : Nat := mostR ks.reverse
theorem cntK_le (k : KA) (ks : List KA) : cntK k ks ≤ ks.length := List.length_filter_le _ _
theorem cntK_reverse (k : KA) (ks : List KA) : cntK k ks.reverse = cntK k ks := by
  unfold cntK
  rw [List.filter_reverse, List.length_reverse]
theorem mostK_snoc (ks : List KA) (k : KA) : mostK (ks ++ [k]) = max (mostK ks) (cntK k ks + 1) := by
  unfold mostK
  rw [List.reverse_append]
  show max (mostR ks.reverse) (cntK k ks.reverse + 1) = _
  rw [cntK_reverse]
theorem cntK_snoc (j : KA) (ks : List KA) (k : KA) : cntK j (ks ++ [k]) = cntK j ks + (if keq j k then 1 else 0) := by
  unfold cntK
  rw [List.filter_append, List.length_append]
  congr 1
  simp only [List.filter_cons, List.filter_nil]
  split <;> rfl
def Cnt (F : Value → Option Value) (ks : List KA) : Prop := ∀ k : KA, (F k.val).getD (.int .i64 0) = .int .i64 (cntK k ks : Nat)
theorem Cnt.step {F F' : Value → Option Value} {ks : List KA} {k : KA} (h : Cnt F ks) (h1 : F' k.val = some (.int .i64 ((cntK k ks : Nat) + 1 : Int))) (h2 : ∀ x, x ≠ k.val → F' x = F x) : Cnt F' (ks ++ [k]) := fun j => by
  rw [cntK_snoc]
  by_cases e : j = k
  · subst e
    rw [h1, (keq_iff j j).2 rfl]
    simp
  · have hk : keq j k = false := by
      cases hq : keq j k with
      | false => rfl
      | true => exact absurd ((keq_iff j k).1 hq) e
    rw [h2 _ (fun hv => e (KA.val_inj hv)), hk, h j]
    simp
theorem zeroI (u : World) : (zeroValue 3).run Tryz.prog u = .ok (.int .i64 0) u := by kernel_rfl
set_option maxHeartbeats 8000000 in
set_option maxRecDepth 100000 in
theorem most_any (w : World) (ao : Option Addr) (n cap : Nat) (l : List CA) (g : Nat) (cf : KA → KA) (eg : ∀ args w, (callFunc g args).run Tryz.prog w = .ok (.enter g args) w) (L : CL w ao n cap l) (hn : n ≤ 1000)
    (hcf : ∀ V k, Calls Tryz.prog g #[k.val] V fun e w' => e = .returned (cf k).val ∧ Below V.heap.size V w') (hck : ∀ k : KA, k.ok → (cf k).ok) :
    Calls Tryz.prog 105 #[.slice ao n cap, .func (.func g) #[] #[]] w fun e w' => e = .returned (.int .i64 (mostK (l.map fun c => cf c.key) : Nat)) ∧ Below w.heap.size w w' := by
  have hl1 := Nat.le_of_eq L.len
  have hl2 := Nat.le_of_eq L.len.symm
  obtain ⟨ks, hks⟩ : ∃ ks, ks = l.map fun c => cf c.key := ⟨_, rfl⟩
  have HKS : Hid (ks = l.map fun c => cf c.key) := hks
  rw [← hks]
  clear hks
  obtain ⟨W1, hW1⟩ : ∃ V, V = w.alloc (.map #[] 0) := ⟨_, rfl⟩
  have C1 : Below w.heap.size w W1 := by rw [hW1]; exact (Below.refl _ _).alloc (Nat.le_refl _) _
  have M1 : MF W1 39 w.heap.size 0 (fun _ => none) := by rw [hW1]; exact MF.made w _
  have hmm := @run_makeMap Tryz.prog
  go_enter Tryz.func105, Tryz.ntmps105
  go_wp2
  rw [← hW1]
  clear hW1 hmm
  go_loopw [6, 13] (fun mv i wr => ∃ (j mn : Nat) (F : Value → Option Value), j ≤ n ∧ i = .int .i64 j ∧ mv = .int .i64 (mostK (ks.take j) : Nat) ∧ MF wr 39 w.heap.size mn F ∧ mn ≤ j ∧ Hid (Cnt F (ks.take j)) ∧ Below w.heap.size w wr) (fun _ i _ => n - (intOf i).toNat)
  case atStart => exact ⟨0, 0, _, Nat.zero_le _, rfl, rfl, M1, Nat.le_refl _, fun _ => rfl, C1⟩
  case round =>
    obtain ⟨j, mn, F, hj, rfl, rfl, M, hmn, HC, B⟩ := hrel
    by_cases hlt : j < n
    · have hji : (j : Int) < (n : Int) := by omega
      have hjl : j < l.length := by omega
      obtain ⟨b, off, ea, hc⟩ := L.at (by omega)
      have X := (hc j hjl).below B
      have hok := (L.ok _ (List.getElem_mem hjl))
      have hjk : j < ks.length := by rw [HKS.out, List.length_map]; exact hjl
      have hkj : ks[j] = cf l[j].key := by
        have := HKS.out
        subst this
        exact List.getElem_map ..
      have HT : Hid (ks.take (j + 1) = ks.take j ++ [cf l[j].key]) := by
        show _ = _
        rw [List.take_succ_eq_append_getElem hjk, hkj]
      have kok : (cf l[j].key).ok := hck _ ⟨hok.row, hok.fam, hok.qual, hok.time⟩
      obtain ⟨c, hce⟩ : ∃ c, c = l[j] := ⟨_, rfl⟩
      rw [← hce] at X HT kok
      obtain ⟨k2, hk2⟩ : ∃ k, k = cf c.key := ⟨_, rfl⟩
      have CF := fun (V : World) => hcf V c.key
      rw [← hk2] at HT kok CF
      have egc := fun (V : World) => eg #[c.key.val] V
      unfold KA.val CA.key at CF egc
      obtain ⟨x0, x1, x2, x3, x4, x5⟩ := X
      subst ea
      obtain ⟨W2, hW2⟩ : ∃ V, V = wr.alloc (.cells #[.string c.row, .string c.fam, .string c.qual, .int .u64 c.time, .slice c.va.ao c.va.n c.va.cap, .bool c.gone] 69) := ⟨_, rfl⟩
      have C2 : Below wr.heap.size wr W2 := by rw [hW2]; exact (Below.refl _ _).alloc (Nat.le_refl _) _
      have B2 := B.trans (C2.mono B.size)
      have M2 := M.below C2 M.lt
      have CF2 := CF W2
      clear hc hok hkj hce hk2 M CF
      go_wp2_with fail
      rw [← hW2]
      clear hW2
      refine CF2.mono ?_
      rintro e w3 ⟨rfl, C3⟩
      have B3 := B2.trans (C3.mono B2.size)
      have M3 := M2.below C3 M2.lt
      obtain ⟨W4, hW4⟩ : ∃ V, V = w3.alloc (.cells #[.string k2.row, .string k2.fam, .string k2.qual, .int .u64 k2.time] 39) := ⟨_, rfl⟩
      have C4 : Below w3.heap.size w3 W4 := by rw [hW4]; exact (Below.refl _ _).alloc (Nat.le_refl _) _
      have K4 : Arr W4 w3.heap.size 39 [.string k2.row, .string k2.fam, .string k2.qual, .int .u64 k2.time] := by rw [hW4]; exact heap_alloc_new w3 _
      have B4 := B3.trans (C4.mono B3.size)
      have M4 := M3.below C4 M3.lt
      have hlt3 : w.heap.size < w3.heap.size := M3.lt
      clear CF2 x0 x1 x2 x3 x4 x5 M2 M3 egc
      go_wp2
      rw [← hW4]
      clear hW4
      have hkey := keyKA k2 kok
      obtain ⟨lit, hlit⟩ := hkey
      have M5 : MF W4.drew 39 w.heap.size mn F := M4.ofHeap rfl
      obtain ⟨st, w1, hme, g1, hlk1, hst⟩ := M5.entry keyLaw39 Tryz.underlying173 zeroI (by unfold maxLen; omega) hlit
      have hlk0 := M5.look1 (Maps.Keyed.of_law keyLaw39) Tryz.underlying173 (zeroI _) hlit
      rw [HC.out k2] at hme hlk0 hlk1
      have hcl : cntK k2 (ks.take j) ≤ 1000 := Nat.le_trans (cntK_le _ _) (by rw [List.length_take]; omega)
      obtain ⟨cn, hcn⟩ : ∃ c, c = cntK k2 (ks.take j) := ⟨_, rfl⟩
      have HCN : Hid (cn = cntK k2 (ks.take j)) := hcn
      rw [← hcn] at hme hlk0 hlk1 hcl
      obtain ⟨w2, F', n', hes, M6, g2, f1, f2, hn'⟩ := hst (.int .i64 ((cn : Nat) + 1 : Int))
      have hlk2 := M6.look1 (Maps.Keyed.of_law keyLaw39) Tryz.underlying173 (zeroI _) hlit
      rw [f1, Option.getD_some] at hlk2
      have HC2 : Hid (Cnt F' (ks.take (j + 1))) := by
        show Cnt _ _
        rw [HT.out]
        exact HC.out.step (by rw [f1, HCN.out]) f2
      have HMX : Hid (mostK (ks.take (j + 1)) = max (mostK (ks.take j)) (cn + 1)) := by
        show _ = _
        rw [HT.out, mostK_snoc, HCN.out]
      have hne : w3.heap.size ≠ w.heap.size := by omega
      have B6 : Below w.heap.size w w2 := B4.drew.grown g2 B4.size (fun i hi => by cases hi; exact Nat.le_refl _)
      have k0 : W4.drew.cell? ⟨w3.heap.size, 0, none⟩ = some (.string k2.row) := K4.cell 0
      have k1 : W4.drew.cell? ⟨w3.heap.size, 1, none⟩ = some (.string k2.fam) := K4.cell 1
      have k2' : W4.drew.cell? ⟨w3.heap.size, 2, none⟩ = some (.string k2.qual) := K4.cell 2
      have k3 : W4.drew.cell? ⟨w3.heap.size, 3, none⟩ = some (.int .u64 k2.time) := K4.cell 3
      have keepc : ∀ V, W4.drew.grownBy V (some w.heap.size) → V.cell? ⟨w3.heap.size, 0, none⟩ = some (.string k2.row) ∧ V.cell? ⟨w3.heap.size, 1, none⟩ = some (.string k2.fam) ∧ V.cell? ⟨w3.heap.size, 2, none⟩ = some (.string k2.qual) ∧ V.cell? ⟨w3.heap.size, 3, none⟩ = some (.int .u64 k2.time) := fun V hV => by
        have hb : V.heap[w3.heap.size]? = W4.drew.heap[w3.heap.size]? := World.grownBy.block hV _ K4.lt (fun e => hne (Option.some.inj e))
        exact ⟨(World.cell?_of_block hb).trans k0, (World.cell?_of_block hb).trans k1, (World.cell?_of_block hb).trans k2', (World.cell?_of_block hb).trans k3⟩
      have H1 := keepc w1 g1
      have H2 := keepc w2 g2
      obtain ⟨y0, y1, y2, y3⟩ := keepc w2 g2
      have hwr : IntKind.i64.wrap ((cn : Int) + 1) = (cn : Int) + 1 := by rw [IntKind.wrap_i64]; omega
      unfold KA.val at hme hlk0 hlk1 hlk2
      unfold goInt at hes
      clear keepc f1 f2 hst M5 M4 g1 g2 hcn
      refine wp_region_noPanic ?_
      refine wp_region_held_drew (S := fun V => V.cell? ⟨w3.heap.size, 0, none⟩ = some (.string k2.row) ∧ V.cell? ⟨w3.heap.size, 1, none⟩ = some (.string k2.fam) ∧ V.cell? ⟨w3.heap.size, 2, none⟩ = some (.string k2.qual) ∧ V.cell? ⟨w3.heap.size, 3, none⟩ = some (.int .u64 k2.time)) (by kernel_rfl) ⟨k0, k1, k2', k3⟩ (fun zH0 => ?_)
      refine hr_take_w 0 (some 21) (.map (some w.heap.size)) rfl rfl (by kernel_rfl) (by kernel_rfl) (by kernel_rfl) rfl (fun W hW => by obtain ⟨h0, h1, h2, h3⟩ := hW; go_simp) zH0 ?_
      simp only [FL]
      refine hr_take_w 1 (some 22) (.agg #[.string k2.row, .string k2.fam, .string k2.qual, .int .u64 k2.time]) rfl rfl (by kernel_rfl) (by kernel_rfl) (by kernel_rfl) rfl (fun W hW => by obtain ⟨h0, h1, h2, h3⟩ := hW; go_simp) zH0 ?_
      simp only [FL]
      refine hr_two (i := 2) (j := 4) (by kernel_rfl) ?_ ?_
      · refine op_do 2 (some 23) (.int .i64 cn) rfl rfl rfl (w' := W4.drew) (by go_simp) zH0 ?_
        simp only [FL]
        refine hr_take_w 3 (some 24) (.int .i64 ((cn : Int) + 1)) rfl rfl (by kernel_rfl) (by kernel_rfl) (by kernel_rfl) rfl (fun W hW => by obtain ⟨h0, h1, h2, h3⟩ := hW; go_simp) zH0 ?_
        simp only [FL]
        refine hr_do 4 (some 25) (.tuple #[.int .i64 cn, goInt st]) rfl rfl (by kernel_rfl) rfl (w' := w1) (by go_simp) H1 ?_
        simp only [FL]
        refine hr_take_w 5 (some 26) (goInt st) rfl rfl (by kernel_rfl) (by kernel_rfl) (by kernel_rfl) rfl (fun W hW => by obtain ⟨h0, h1, h2, h3⟩ := hW; go_simp) H1 ?_
        simp only [FL]
        refine hr_skip 6 none rfl rfl (by kernel_rfl) rfl (w' := w2) (by go_simp) H2 ?_
        simp only [Act.put]
        refine wpAnyH_done (by kernel_rfl) ?_ _
        refine NoPanic.normal ?_
        go_wp2
        go_roundw
        case rel => exact ⟨j + 1, n', F', by omega, by go_num, by rw [HMX.out]; congr 1; rw [Nat.max_def]; split <;> split <;> omega, M6, by omega, HC2, B6⟩
        case measure => simp [intOf]; omega
      · refine op_do 4 (some 25) (.tuple #[.int .i64 cn, goInt st]) rfl rfl rfl (w' := w1) (by go_simp) H1 ?_
        simp only [FL]
        refine hr_take_w 5 (some 26) (goInt st) rfl rfl (by kernel_rfl) (by kernel_rfl) (by kernel_rfl) rfl (fun W hW => by obtain ⟨h0, h1, h2, h3⟩ := hW; go_simp) H1 ?_
        simp only [FL]
        refine hr_do 2 (some 23) (.int .i64 cn) rfl rfl (by kernel_rfl) rfl (w' := w1) (by go_simp) H1 ?_
        simp only [FL]
        refine hr_take_w 3 (some 24) (.int .i64 ((cn : Int) + 1)) rfl rfl (by kernel_rfl) (by kernel_rfl) (by kernel_rfl) rfl (fun W hW => by obtain ⟨h0, h1, h2, h3⟩ := hW; go_simp) H1 ?_
        simp only [FL]
        refine hr_skip 6 none rfl rfl (by kernel_rfl) rfl (w' := w2) (by go_simp) H2 ?_
        simp only [Act.put]
        refine wpAnyH_done (by kernel_rfl) ?_ _
        refine NoPanic.normal ?_
        go_wp2
        go_roundw
        case rel => exact ⟨j + 1, n', F', by omega, by go_num, by rw [HMX.out]; congr 1; rw [Nat.max_def]; split <;> split <;> omega, M6, by omega, HC2, B6⟩
        case measure => simp [intOf]; omega
    · have hge : ¬ (j : Int) < (n : Int) := by omega
      have HT : Hid (ks.take j = ks) := List.take_of_length_le (by rw [HKS.out, List.length_map]; omega)
      rw [HT.out]
      go_wp2
      go_ret
      exact ⟨rfl, B⟩
open Go.RowKit
theorem kinfo : (Tryz.prog.info? 40).map (fun i => (i.zero, i.size, i.bytes)) = some (some (.slice none 0 0), 1, 24) := by kernel_rfl
theorem ninfo : (Tryz.prog.info? 92).map (fun i => (i.zero, i.size, i.bytes)) = some (some (.pointer none), 1, 8) := by kernel_rfl
theorem Apd.base {w : World} {b b' : Nat} {e : TypeId} {v : Value} {n : Nat} {vs : List Value} (h : Apd w b e v n vs) (hb : b' ≤ b) : Apd w b' e v n vs := by
  rcases h with h | h
  · exact .inl h
  · exact .inr (own_base h hb)
theorem ksize (w : World) : (sizeOf 40).run Tryz.prog w = .ok 1 w := size1 _ (by kernel_rfl) w
theorem nsize (w : World) : (sizeOf 92).run Tryz.prog w = .ok 1 w := size1 _ (by kernel_rfl) w
open Go.RowKit
set_option maxHeartbeats 1000000 in
set_option maxRecDepth 100000 in
theorem chgK_any (w : World) (ao bo : Option Addr) (n cap m c i j : Nat) (vs ys : List Value) (h : VL w ao n cap vs) (hx : VL w bo m c ys) (h1 : ∀ u ∈ vs, u.oneCell' = true) (h2 : ∀ u ∈ ys, u.oneCell' = true) (hij : i ≤ j) (hj : j ≤ n) (hn : n + m ≤ 1000000) :
    Calls Tryz.prog 167 #[.slice ao n cap, .int .i64 i, .int .i64 j, .slice bo m c] w fun e w' =>
      ∃ ro rc, e = .returned (.slice ro (i + m + (n - j)) rc) ∧ VL w' ro (i + m + (n - j)) rc (vs.take i ++ ys ++ vs.drop j) ∧ Below w.heap.size w w' := by
  obtain ⟨i0, hi, hz0, hz1, hz2⟩ := info_parts kinfo
  have hle := h.le
  have F1 : ∀ W, _ := fun W => run_front (P := Tryz.prog) (W := W) (t := 90) (ao := ao) (n := n) (cap := cap) (i := i) (c := i) Tryz.underlying90 (Nat.le_refl _) (by omega) ksize
  have F2 : ∀ W, _ := fun W => run_back (P := Tryz.prog) (W := W) (t := 90) (ao := ao) (n := n) (cap := cap) (j := j) Tryz.underlying90 (by omega) ksize
  go_enter Tryz.func167, Tryz.ntmps167
  go_wp2
  have HS : Hid (∀ V, Below w.heap.size w V → True) := fun _ _ => trivial
  have E0 : Below w.heap.size w w.drew := (Below.refl _ _).drew
  refine wp_region_noPanic ?_
  refine wp_region_held_drew (S := fun V => True) (by kernel_rfl) (HS.out _ E0) (fun H0 => ?_)
  obtain ⟨v0, hv0⟩ : ∃ v, v = w.drew := ⟨_, rfl⟩
  rw [← hv0] at E0 ⊢
  clear hv0
  refine hr_take_w 0 (some 9) (.slice ao n cap) rfl rfl (by kernel_rfl) (by kernel_rfl) (by kernel_rfl) rfl (fun W hW => by go_simp) H0 ?_
  simp only [FL]
  refine hr_take_w 1 (some 10) (.int .i64 i) rfl rfl (by kernel_rfl) (by kernel_rfl) (by kernel_rfl) rfl (fun W hW => by go_simp) H0 ?_
  simp only [FL]
  refine hr_take_w 2 (some 11) (.int .i64 i) rfl rfl (by kernel_rfl) (by kernel_rfl) (by kernel_rfl) rfl (fun W hW => by go_simp) H0 ?_
  simp only [FL]
  refine hr_take_w 3 (some 12) (.slice ao i i) rfl rfl (by kernel_rfl) (by kernel_rfl) (by kernel_rfl) rfl (fun W hW => by simp [execOp, Act.eval, F1]) H0 ?_
  simp only [FL]
  refine hr_take_w 4 (some 13) (.slice bo m c) rfl rfl (by kernel_rfl) (by kernel_rfl) (by kernel_rfl) rfl (fun W hW => by go_simp) H0 ?_
  simp only [FL]
  refine hr_take_w 6 (some 15) (.slice ao n cap) rfl rfl (by kernel_rfl) (by kernel_rfl) (by kernel_rfl) rfl (fun W hW => by go_simp) H0 ?_
  simp only [FL]
  refine hr_take_w 7 (some 16) (.int .i64 j) rfl rfl (by kernel_rfl) (by kernel_rfl) (by kernel_rfl) rfl (fun W hW => by go_simp) H0 ?_
  simp only [FL]
  refine hr_take_w 8 (some 17) (.slice (bk ao cap j) (n - j) (cap - j)) rfl rfl (by kernel_rfl) (by kernel_rfl) (by kernel_rfl) rfl (fun W hW => by simp [execOp, Act.eval, F2]) H0 ?_
  simp only [FL]
  refine hr_ex 5 (some 14) rfl rfl (by kernel_rfl) rfl (R := fun v w' => Apd w' w.heap.size 40 v (i + m) (vs.take i ++ ys) ∧ Below v0.heap.size v0 w') (by obtain ⟨v', w', hr, h3, h4⟩ := run_apd (P := Tryz.prog) (w := v0) (base := v0.heap.size) (t := 90) (ty := 90) Tryz.underlying90 hi hz0 hz1 hz2 rfl (.inl ⟨ao, rfl, (h.below E0).front i i (by omega) (Nat.le_refl _) (by omega)⟩) (Nat.le_refl _) (hx.below E0) h2 (by omega) (by decide); exact ⟨v', w', by simp [execOp, Act.eval, resolve, invoke, builtin, hr], h3.base E0.size, h4⟩) ?_
  rintro v v1 ⟨A1, C0⟩
  have E1 := E0.trans (C0.mono E0.size)
  have H1 := HS.out v1 E1
  refine ⟨H1, ?_⟩
  simp only [FL]
  refine hr_ex 9 (some 18) rfl rfl (by kernel_rfl) rfl (R := fun u w' => Apd w' w.heap.size 40 u (i + m + (n - j)) (vs.take i ++ ys ++ vs.drop j) ∧ Below w.heap.size v1 w') (by obtain ⟨v', w', hr, h3, h4⟩ := run_apd (P := Tryz.prog) (w := v1) (base := w.heap.size) (t := 90) (ty := 90) Tryz.underlying90 hi hz0 hz1 hz2 rfl A1 E1.size ((h.below E1).from j hj) (fun u hu => h1 u (List.mem_of_mem_drop hu)) (by omega) (by decide); exact ⟨v', w', by simp [execOp, Act.eval, resolve, invoke, builtin, hr], h3, h4⟩) ?_
  rintro v v2 ⟨A2, C1⟩
  have E2 := E1.trans C1
  have H2 := HS.out v2 E2
  refine ⟨H2, ?_⟩
  simp only [FL]
  refine hr_take_w 10 (some 8) (v) rfl rfl (by kernel_rfl) (by kernel_rfl) (by kernel_rfl) rfl (fun W hW => by go_simp) H2 ?_
  simp only [FL]
  refine wpAnyH_done (by kernel_rfl) ?_ _
  refine NoPanic.normal ?_
  obtain ⟨ro, rc, rfl, hv⟩ := A2.vl
  go_wp2
  go_ret
  exact ⟨ro, rc, rfl, hv, E2⟩
set_option maxHeartbeats 1000000 in
set_option maxRecDepth 100000 in
theorem chgN_any (w : World) (ao bo : Option Addr) (n cap m c i j : Nat) (vs ys : List Value) (h : VL w ao n cap vs) (hx : VL w bo m c ys) (h1 : ∀ u ∈ vs, u.oneCell' = true) (h2 : ∀ u ∈ ys, u.oneCell' = true) (hij : i ≤ j) (hj : j ≤ n) (hn : n + m ≤ 1000000) :
    Calls Tryz.prog 168 #[.slice ao n cap, .int .i64 i, .int .i64 j, .slice bo m c] w fun e w' =>
      ∃ ro rc, e = .returned (.slice ro (i + m + (n - j)) rc) ∧ VL w' ro (i + m + (n - j)) rc (vs.take i ++ ys ++ vs.drop j) ∧ Below w.heap.size w w' := by
  obtain ⟨i0, hi, hz0, hz1, hz2⟩ := info_parts ninfo
  have hle := h.le
  have F1 : ∀ W, _ := fun W => run_front (P := Tryz.prog) (W := W) (t := 149) (ao := ao) (n := n) (cap := cap) (i := i) (c := i) Tryz.underlying149 (Nat.le_refl _) (by omega) nsize
  have F2 : ∀ W, _ := fun W => run_back (P := Tryz.prog) (W := W) (t := 149) (ao := ao) (n := n) (cap := cap) (j := j) Tryz.underlying149 (by omega) nsize
  go_enter Tryz.func168, Tryz.ntmps168
  go_wp2
  have HS : Hid (∀ V, Below w.heap.size w V → True) := fun _ _ => trivial
  have E0 : Below w.heap.size w w.drew := (Below.refl _ _).drew
  refine wp_region_noPanic ?_
  refine wp_region_held_drew (S := fun V => True) (by kernel_rfl) (HS.out _ E0) (fun H0 => ?_)
  obtain ⟨v0, hv0⟩ : ∃ v, v = w.drew := ⟨_, rfl⟩
  rw [← hv0] at E0 ⊢
  clear hv0
  refine hr_take_w 0 (some 9) (.slice ao n cap) rfl rfl (by kernel_rfl) (by kernel_rfl) (by kernel_rfl) rfl (fun W hW => by go_simp) H0 ?_
  simp only [FL]
  refine hr_take_w 1 (some 10) (.int .i64 i) rfl rfl (by kernel_rfl) (by kernel_rfl) (by kernel_rfl) rfl (fun W hW => by go_simp) H0 ?_
  simp only [FL]
  refine hr_take_w 2 (some 11) (.int .i64 i) rfl rfl (by kernel_rfl) (by kernel_rfl) (by kernel_rfl) rfl (fun W hW => by go_simp) H0 ?_
  simp only [FL]
  refine hr_take_w 3 (some 12) (.slice ao i i) rfl rfl (by kernel_rfl) (by kernel_rfl) (by kernel_rfl) rfl (fun W hW => by simp [execOp, Act.eval, F1]) H0 ?_
  simp only [FL]
  refine hr_take_w 4 (some 13) (.slice bo m c) rfl rfl (by kernel_rfl) (by kernel_rfl) (by kernel_rfl) rfl (fun W hW => by go_simp) H0 ?_
  simp only [FL]
  refine hr_take_w 6 (some 15) (.slice ao n cap) rfl rfl (by kernel_rfl) (by kernel_rfl) (by kernel_rfl) rfl (fun W hW => by go_simp) H0 ?_
  simp only [FL]
  refine hr_take_w 7 (some 16) (.int .i64 j) rfl rfl (by kernel_rfl) (by kernel_rfl) (by kernel_rfl) rfl (fun W hW => by go_simp) H0 ?_
  simp only [FL]
  refine hr_take_w 8 (some 17) (.slice (bk ao cap j) (n - j) (cap - j)) rfl rfl (by kernel_rfl) (by kernel_rfl) (by kernel_rfl) rfl (fun W hW => by simp [execOp, Act.eval, F2]) H0 ?_
  simp only [FL]
  refine hr_ex 5 (some 14) rfl rfl (by kernel_rfl) rfl (R := fun v w' => Apd w' w.heap.size 92 v (i + m) (vs.take i ++ ys) ∧ Below v0.heap.size v0 w') (by obtain ⟨v', w', hr, h3, h4⟩ := run_apd (P := Tryz.prog) (w := v0) (base := v0.heap.size) (t := 149) (ty := 149) Tryz.underlying149 hi hz0 hz1 hz2 rfl (.inl ⟨ao, rfl, (h.below E0).front i i (by omega) (Nat.le_refl _) (by omega)⟩) (Nat.le_refl _) (hx.below E0) h2 (by omega) (by decide); exact ⟨v', w', by simp [execOp, Act.eval, resolve, invoke, builtin, hr], h3.base E0.size, h4⟩) ?_
  rintro v v1 ⟨A1, C0⟩
  have E1 := E0.trans (C0.mono E0.size)
  have H1 := HS.out v1 E1
  refine ⟨H1, ?_⟩
  simp only [FL]
  refine hr_ex 9 (some 18) rfl rfl (by kernel_rfl) rfl (R := fun u w' => Apd w' w.heap.size 92 u (i + m + (n - j)) (vs.take i ++ ys ++ vs.drop j) ∧ Below w.heap.size v1 w') (by obtain ⟨v', w', hr, h3, h4⟩ := run_apd (P := Tryz.prog) (w := v1) (base := w.heap.size) (t := 149) (ty := 149) Tryz.underlying149 hi hz0 hz1 hz2 rfl A1 E1.size ((h.below E1).from j hj) (fun u hu => h1 u (List.mem_of_mem_drop hu)) (by omega) (by decide); exact ⟨v', w', by simp [execOp, Act.eval, resolve, invoke, builtin, hr], h3, h4⟩) ?_
  rintro v v2 ⟨A2, C1⟩
  have E2 := E1.trans C1
  have H2 := HS.out v2 E2
  refine ⟨H2, ?_⟩
  simp only [FL]
  refine hr_take_w 10 (some 8) (v) rfl rfl (by kernel_rfl) (by kernel_rfl) (by kernel_rfl) rfl (fun W hW => by go_simp) H2 ?_
  simp only [FL]
  refine wpAnyH_done (by kernel_rfl) ?_ _
  refine NoPanic.normal ?_
  obtain ⟨ro, rc, rfl, hv⟩ := A2.vl
  go_wp2
  go_ret
  exact ⟨ro, rc, rfl, hv, E2⟩
end Go.Proofs.YthlpccajnmkbjaaGreatDoor

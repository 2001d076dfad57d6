/-
  Texts in one: TbApply, TbPutF, TbAlive, SameT, OfLaw10.
-/
import Derived.Test.YthlpccajnmkbjaaGreatDoorTabletOfQFL
import Derived.Test.YthlpccajnmkbjaaGreatDoorTabletOfQ39
import Derived.Test.YthlpccajnmkbjaaGreatDoorTabletOfQ28
import Derived.Lib.SmallJoins
import Derived.Test.YthlpccajnmkbjaaGreatDoorTabletOfQ9
import Derived.Test.YthlpccajnmkbjaaGreatDoorTabletOfQ21
import Derived.Test.YthlpccajnmkbjaaGreatDoorTabletOfQ32
import Derived.Test.YthlpccajnmkbjaaGreatDoorTabletOfQ34
import Derived.Test.YthlpccajnmkbjaaGreatDoorTabletOfQ35
namespace Go.Proofs.YthlpccajnmkbjaaGreatDoor
open Go.RowKit
set_option maxHeartbeats 1000000 in
set_option maxRecDepth 100000 in
theorem isout_row (w : World) (p : Nat) (f t : ByteArray) (u : Option Addr) (o : OA) (h : TbC w p f t u) (hk : o.kind ≠ 8) :
    Calls Tryz.prog 47 #[.pointer (some ⟨p, 0, none⟩), o.val] w fun e w' => e = .returned (.bool (!(inRows f t o.row))) ∧ Below w.heap.size w w' := by
  obtain ⟨W1, hW1⟩ : ∃ V, V = w.alloc (.cells #[.int .i64 o.kind, .string o.row, .string o.fam, .string o.qual, .int .u64 o.time, .string o.to, .slice o.va.ao o.va.n o.va.cap, .slice o.wa.ao o.wa.n o.wa.cap, .bool o.has, .slice o.so o.sn o.sc] 42) := ⟨_, rfl⟩
  have C1 : Below w.heap.size w W1 := by rw [hW1]; exact (Below.refl _ _).alloc (Nat.le_refl _) _
  have k8 : (o.kind != 8) = true := by simp [hk]
  have CH := hasRow_any W1 p f t o.row u (arr_below h C1)
  obtain ⟨b, hb⟩ : ∃ b, b = inRows f t o.row := ⟨_, rfl⟩
  rw [← hb] at CH ⊢
  clear hb hk
  unfold OA.val
  go_enter Tryz.func47, Tryz.ntmps47
  go_wp2_with fail
  rw [← hW1]
  clear hW1
  refine CH.mono ?_
  rintro e w2 ⟨rfl, hw⟩
  obtain rfl := hw.symm
  go_wp2
  go_ret
  exact ⟨rfl, C1⟩
def keepM (cs : List CV) (r : List CV × RV) : List CV := if r.2.e = 0 then r.1 else cs
set_option maxHeartbeats 4000000 in
set_option maxRecDepth 100000 in
theorem apply_any (w : World) (p : Nat) (f t : ByteArray) (cs : List CV) (o : OA) (l : List OA) (r : List CV × RV) (hT : TB w p f t cs) (hok : o.ok w) (hs : OWL w 0 o.so o.sn o.sc l) (hr : rightO o.s (l.map sn0) = true)
    (hout : ∀ V u, Below w.heap.size w V → TbC V p f t u → Calls Tryz.prog 47 #[.pointer (some ⟨p, 0, none⟩), o.val] V fun e w' => e = .returned (.bool false) ∧ Below V.heap.size V w')
    (hdo : ∀ V, Below w.heap.size w V → Calls Tryz.prog 48 #[.pointer (some ⟨p, 0, none⟩), o.val] V (DoPost V p f t r)) :
    Calls Tryz.prog 15 #[.pointer (some ⟨p, 0, none⟩), o.val] w (DoPost w p f t (keepM cs r, r.2)) := by
  obtain ⟨W1, hW1⟩ : ∃ V, V = w.alloc (.cells #[.int .i64 o.kind, .string o.row, .string o.fam, .string o.qual, .int .u64 o.time, .string o.to, .slice o.va.ao o.va.n o.va.cap, .slice o.wa.ao o.wa.n o.wa.cap, .bool o.has, .slice o.so o.sn o.sc] 42) := ⟨_, rfl⟩
  obtain ⟨W2, hW2⟩ : ∃ V, V = W1.alloc (.cells #[.int .i64 0, .slice none 0 0, .bool false] 34) := ⟨_, rfl⟩
  have C1 : Below w.heap.size w W1 := by rw [hW1]; exact (Below.refl _ _).alloc (Nat.le_refl _) _
  have C2 : Below W1.heap.size W1 W2 := by rw [hW2]; exact (Below.refl _ _).alloc (Nat.le_refl _) _
  have B2 := C1.trans (C2.mono C1.size)
  have s1 : W1.heap.size = w.heap.size + 1 := by rw [hW1]; exact Array.size_push ..
  have O1 : OC W1 w.heap.size o := by rw [hW1]; exact OC.new w o
  have O2 := O1.keep C2
  have R2 : Arr W2 (w.heap.size + 1) 34 [.int .i64 0, .slice none 0 0, .bool false] := by rw [hW2, ← s1]; exact heap_alloc_new W1 _
  have hp := hT.lt
  have CR := pRight_any W2 o l (hok.below B2) (hs.below B2)
  rw [hr] at CR
  unfold OA.val at CR hout hdo ⊢
  have o0 : W2.cell? ⟨w.heap.size, 0, none⟩ = some (.int .i64 o.kind) := O2.cs.c0
  have o1 : W2.cell? ⟨w.heap.size, 1, none⟩ = some (.string o.row) := O2.cs.c1
  have o2 : W2.cell? ⟨w.heap.size, 2, none⟩ = some (.string o.fam) := O2.cs.c2
  have o3 : W2.cell? ⟨w.heap.size, 3, none⟩ = some (.string o.qual) := O2.cs.c3
  have o4 : W2.cell? ⟨w.heap.size, 4, none⟩ = some (.int .u64 o.time) := O2.cs.c4
  have o5 : W2.cell? ⟨w.heap.size, 5, none⟩ = some (.string o.to) := O2.cs.c5
  have o6 : W2.cell? ⟨w.heap.size, 6, none⟩ = some (.slice o.va.ao o.va.n o.va.cap) := O2.cs.c6
  have o7 : W2.cell? ⟨w.heap.size, 7, none⟩ = some (.slice o.wa.ao o.wa.n o.wa.cap) := O2.cs.c7
  have o8 : W2.cell? ⟨w.heap.size, 8, none⟩ = some (.bool o.has) := O2.cs.c8
  have o9 : W2.cell? ⟨w.heap.size, 9, none⟩ = some (.slice o.so o.sn o.sc) := O2.cs.c9
  have HOUT : Hid (∀ V u, Below w.heap.size w V → TbC V p f t u → Calls Tryz.prog 47 #[.pointer (some ⟨p, 0, none⟩), .agg #[.int .i64 o.kind, .string o.row, .string o.fam, .string o.qual, .int .u64 o.time, .string o.to, .slice o.va.ao o.va.n o.va.cap, .slice o.wa.ao o.wa.n o.wa.cap, .bool o.has, .slice o.so o.sn o.sc]] V fun e w' => e = .returned (.bool false) ∧ Below V.heap.size V w') := hout
  have HDO : Hid (∀ V, Below w.heap.size w V → Calls Tryz.prog 48 #[.pointer (some ⟨p, 0, none⟩), .agg #[.int .i64 o.kind, .string o.row, .string o.fam, .string o.qual, .int .u64 o.time, .string o.to, .slice o.va.ao o.va.n o.va.cap, .slice o.wa.ao o.wa.n o.wa.cap, .bool o.has, .slice o.so o.sn o.sc]] V (DoPost V p f t r)) := hdo
  clear hout hdo hs hok hr
  go_enter Tryz.func15, Tryz.ntmps15
  go_wp2_with fail
  rw [← hW1, ← hW2]
  clear hW1 hW2 s1
  refine CR.mono ?_
  rintro e w3 ⟨rfl, C3⟩
  rw [show kindO true = 0 from rfl]
  have B3 := B2.trans (C3.mono B2.size)
  have R3 := arr_below R2 C3
  have O3 := O2.keep C3
  obtain ⟨u, A3, T3⟩ := hT.below B3
  have CO := HOUT.out w3 u B3 A3
  clear o0 o1 o2 o3 o4 o5 o6 o7 o8 o9
  have o0 : w3.cell? ⟨w.heap.size, 0, none⟩ = some (.int .i64 o.kind) := O3.cs.c0
  have o1 : w3.cell? ⟨w.heap.size, 1, none⟩ = some (.string o.row) := O3.cs.c1
  have o2 : w3.cell? ⟨w.heap.size, 2, none⟩ = some (.string o.fam) := O3.cs.c2
  have o3 : w3.cell? ⟨w.heap.size, 3, none⟩ = some (.string o.qual) := O3.cs.c3
  have o4 : w3.cell? ⟨w.heap.size, 4, none⟩ = some (.int .u64 o.time) := O3.cs.c4
  have o5 : w3.cell? ⟨w.heap.size, 5, none⟩ = some (.string o.to) := O3.cs.c5
  have o6 : w3.cell? ⟨w.heap.size, 6, none⟩ = some (.slice o.va.ao o.va.n o.va.cap) := O3.cs.c6
  have o7 : w3.cell? ⟨w.heap.size, 7, none⟩ = some (.slice o.wa.ao o.wa.n o.wa.cap) := O3.cs.c7
  have o8 : w3.cell? ⟨w.heap.size, 8, none⟩ = some (.bool o.has) := O3.cs.c8
  have o9 : w3.cell? ⟨w.heap.size, 9, none⟩ = some (.slice o.so o.sn o.sc) := O3.cs.c9
  clear CR R2 O2 C3
  go_wp2_with fail
  refine CO.mono ?_
  rintro e w4 ⟨rfl, C4⟩
  have B4 := B3.trans (C4.mono B3.size)
  have R4 := arr_below R3 C4
  have O4 := O3.keep C4
  have A4 : TbC w4 p f t u := arr_below A3 C4
  have T4 := T3.below C4
  have u4 : w4.cell? ⟨p, 2, none⟩ = some (.pointer u) := Arr.cell A4 2
  have CD := HDO.out w4 B4
  clear o0 o1 o2 o3 o4 o5 o6 o7 o8 o9
  have o0 : w4.cell? ⟨w.heap.size, 0, none⟩ = some (.int .i64 o.kind) := O4.cs.c0
  have o1 : w4.cell? ⟨w.heap.size, 1, none⟩ = some (.string o.row) := O4.cs.c1
  have o2 : w4.cell? ⟨w.heap.size, 2, none⟩ = some (.string o.fam) := O4.cs.c2
  have o3 : w4.cell? ⟨w.heap.size, 3, none⟩ = some (.string o.qual) := O4.cs.c3
  have o4 : w4.cell? ⟨w.heap.size, 4, none⟩ = some (.int .u64 o.time) := O4.cs.c4
  have o5 : w4.cell? ⟨w.heap.size, 5, none⟩ = some (.string o.to) := O4.cs.c5
  have o6 : w4.cell? ⟨w.heap.size, 6, none⟩ = some (.slice o.va.ao o.va.n o.va.cap) := O4.cs.c6
  have o7 : w4.cell? ⟨w.heap.size, 7, none⟩ = some (.slice o.wa.ao o.wa.n o.wa.cap) := O4.cs.c7
  have o8 : w4.cell? ⟨w.heap.size, 8, none⟩ = some (.bool o.has) := O4.cs.c8
  have o9 : w4.cell? ⟨w.heap.size, 9, none⟩ = some (.slice o.so o.sn o.sc) := O4.cs.c9
  clear CO R3 O3 C4 A3 T3
  go_wp2_with fail
  refine CD.mono ?_
  rintro e w5 ⟨⟨ao, n, cap, cl, rfl, L5, hcl⟩, X5, K5⟩
  have hw4 := B4.size
  have R5 : Arr w5 (w.heap.size + 1) 34 [.int .i64 0, .slice none 0 0, .bool false] := (K5.block _ R4.lt (by omega)).trans R4
  have K5' := (Wr.of (p := p) B4).trans K5
  unfold resV
  clear o0 o1 o2 o3 o4 o5 o6 o7 o8 o9
  clear CD R4 O4
  by_cases hz : r.2.e = 0
  · have z0 : (r.2.e != 0) = false := by simp [hz]
    have HZ : Hid (keepM cs r = r.1) := if_pos hz
    clear hz u4
    have r0 : w5.cell? ⟨w.heap.size + 1, 0, none⟩ = some (.int .i64 0) := R5.cell 0
    have f0 := R5.free 0
    have r1 : w5.cell? ⟨w.heap.size + 1, 1, none⟩ = some (.slice none 0 0) := R5.cell 1
    have f1 := R5.free 1
    have r2 : w5.cell? ⟨w.heap.size + 1, 2, none⟩ = some (.bool false) := R5.cell 2
    have f2 := R5.free 2
    have lt := R5.lt
    have KW : Wr (w.heap.size + 1) w5 (((w5.setCell ⟨w.heap.size + 1, 0, none⟩ (.int .i64 r.2.e)).setCell ⟨w.heap.size + 1, 1, none⟩ (.slice ao n cap)).setCell ⟨w.heap.size + 1, 2, none⟩ (.bool r.2.more)) := (((Wr.refl _ _).set 0 _).set 1 _).set 2 _
    go_wp2
    exact bodyPost_ret (v := .agg #[.int .i64 r.2.e, .slice ao n cap, .bool r.2.more]) (by simp [results, Tryz.results15, go_sem, r0, r1, r2, lt]) rfl ⟨⟨ao, n, cap, cl, rfl, (L5.wr R5 (by simp) (by simp) (by simp) (by simp) (by simp) (by simp) KW).below ((Below.refl _ _).alloc (Nat.le_refl _) _), hcl⟩, by rw [HZ.out]; exact (TB.dull R5 (Dull.res _ _) KW (by omega) X5).below ((Below.refl _ _).alloc (Nat.le_refl _) _), (K5'.new KW (Nat.le_succ _)).alloc _⟩
  · have z0 : (r.2.e != 0) = true := by simp [hz]
    have HZ : Hid (keepM cs r = cs) := if_neg hz
    clear hz u4
    have T5 := T4.tb A4 K5
    obtain ⟨u5, A5, -⟩ := X5
    have g2 : w5.cell? ⟨p, 2, none⟩ = some (.pointer u5) := Arr.cell A5 2
    have gf := Arr.free A5 2
    obtain ⟨w6, hw6⟩ : ∃ V, V = w5.setCell ⟨p, 2, none⟩ (.pointer u) := ⟨_, rfl⟩
    have KP : Wr p w5 w6 := by rw [hw6]; exact (Wr.refl _ _).set 2 _
    have s6 : w6.heap.size = w5.heap.size := by rw [hw6]; simp
    have X6 : TB w6 p f t cs := ⟨u, by rw [hw6]; exact Arr.set A5 2 (.pointer u), T5.tb A5 KP⟩
    have R6 : Arr w6 (w.heap.size + 1) 34 [.int .i64 0, .slice none 0 0, .bool false] := (KP.block _ R5.lt (by omega)).trans R5
    have L6 := L5.tb A5 KP
    have r0 : w6.cell? ⟨w.heap.size + 1, 0, none⟩ = some (.int .i64 0) := R6.cell 0
    have f0 := R6.free 0
    have r1 : w6.cell? ⟨w.heap.size + 1, 1, none⟩ = some (.slice none 0 0) := R6.cell 1
    have f1 := R6.free 1
    have r2 : w6.cell? ⟨w.heap.size + 1, 2, none⟩ = some (.bool false) := R6.cell 2
    have f2 := R6.free 2
    have lt := R6.lt
    have KW : Wr (w.heap.size + 1) w6 (((w6.setCell ⟨w.heap.size + 1, 0, none⟩ (.int .i64 r.2.e)).setCell ⟨w.heap.size + 1, 1, none⟩ (.slice ao n cap)).setCell ⟨w.heap.size + 1, 2, none⟩ (.bool r.2.more)) := (((Wr.refl _ _).set 0 _).set 1 _).set 2 _
    have hR5 := R5.lt
    have r0' : w5.cell? ⟨w.heap.size + 1, 0, none⟩ = some (.int .i64 0) := R5.cell 0
    have r1' : w5.cell? ⟨w.heap.size + 1, 1, none⟩ = some (.slice none 0 0) := R5.cell 1
    have r2' : w5.cell? ⟨w.heap.size + 1, 2, none⟩ = some (.bool false) := R5.cell 2
    have f0' := R5.free 0
    have f1' := R5.free 1
    have f2' := R5.free 2
    have hpR : p ≠ w.heap.size + 1 := by omega
    have hp5 : p < w5.heap.size := Arr.lt A5
    go_wp2
    rw [← hw6]
    exact bodyPost_ret (v := .agg #[.int .i64 r.2.e, .slice ao n cap, .bool r.2.more]) (by simp [results, Tryz.results15, go_sem, r0, r1, r2, lt]) rfl ⟨⟨ao, n, cap, cl, rfl, (L6.wr R6 (by simp) (by simp) (by simp) (by simp) (by simp) (by simp) KW).below ((Below.refl _ _).alloc (Nat.le_refl _) _), hcl⟩, by rw [HZ.out]; exact (TB.dull R6 (Dull.res _ _) KW (by omega) X6).below ((Below.refl _ _).alloc (Nat.le_refl _) _), ((K5'.trans KP).new KW (Nat.le_succ _)).alloc _⟩
open Go.RowKit
set_option maxHeartbeats 4000000 in
set_option maxRecDepth 100000 in
theorem put_few (w : World) (p : Nat) (f t : ByteArray) (cs : List CV) (c : CA) (hTb : Tabs w) (hT : TB w p f t cs) (hs : CSrt cs) (hg : CGood cs) (hn3 : cs.length ≤ 3) (hok : c.ok w) (hgd : c.c.good) (hcn : c.va.n ≤ 100000) :
    Calls Tryz.prog 73 #[.pointer (some ⟨p, 0, none⟩), c.val] w (PutPost10 w p f t (mPut cs c.c)) := by
  have t2 := hTb.two
  have hp := hT.lt
  have hn : cs.length ≤ 1000 := by omega
  have hrow : c.key.row.size ≤ 32 := by have := hgd.right.2.1; rw [show c.c.kv.row = sb c.row from rfl, sb_len] at this; exact this
  obtain ⟨W1, hW1⟩ : ∃ V, V = w.alloc (.cells #[.string c.row, .string c.fam, .string c.qual, .int .u64 c.time, .slice c.va.ao c.va.n c.va.cap, .bool c.gone] 69) := ⟨_, rfl⟩
  have C1 : Below w.heap.size w W1 := by rw [hW1]; exact (Below.refl _ _).alloc (Nat.le_refl _) _
  have A1 : Arr W1 w.heap.size 69 (#[.string c.row, .string c.fam, .string c.qual, .int .u64 c.time, .slice c.va.ao c.va.n c.va.cap, .bool c.gone]).toList := by rw [hW1]; exact heap_alloc_new w _
  have CO := column_any W1 p f t cs c.key (hT.below C1) hs hg hrow hn
  rw [show c.key.val = .agg #[.string c.row, .string c.fam, .string c.qual, .int .u64 c.time] from rfl] at CO
  unfold CA.val
  go_enter Tryz.func73, Tryz.ntmps73
  go_wp2_with fail
  rw [← hW1]
  clear hW1
  refine CO.mono ?_
  rintro e w2 ⟨ao, n1, cap, l, rfl, h1, -, hl, C2⟩
  have B2 := C1.trans (C2.mono C1.size)
  have A2 := arr_below A1 C2
  have HL : Hid (l.map CA.c = colC c.key cs) := hl
  have hn1 : n1 ≤ 1000 := by
    have h3 := congrArg List.length hl
    rw [List.length_map, h1.len] at h3
    have h4 := List.length_filter_le (fun x : CV => x.col c.key) cs
    unfold colC at h3
    omega
  have HLN : Hid (n1 = (colC c.c.ky cs).length) := by show _ = _; rw [show c.c.ky = c.key from rfl, ← hl, List.length_map, h1.len]
  obtain ⟨bb, hbb⟩ : ∃ bb, bb = (l.map CA.c).any (eqK c.key) := ⟨_, rfl⟩
  have HBB : Hid (bb = (l.map CA.c).any (eqK c.key)) := hbb
  have HB2 : Hid (bb = (colC c.c.ky cs).any (eqK c.c.ky)) := by show _ = _; rw [hbb, hl]; rfl
  have CH := has_any w2 ao n1 cap l c.key h1 hn1 bb HBB
  rw [show c.key.val = .agg #[.string c.row, .string c.fam, .string c.qual, .int .u64 c.time] from rfl] at CH
  have q0 : w2.cell? ⟨w.heap.size, 0, none⟩ = some (.string c.row) := A2.cell 0
  have q1 : w2.cell? ⟨w.heap.size, 1, none⟩ = some (.string c.fam) := A2.cell 1
  have q2 : w2.cell? ⟨w.heap.size, 2, none⟩ = some (.string c.qual) := A2.cell 2
  have q3 : w2.cell? ⟨w.heap.size, 3, none⟩ = some (.int .u64 c.time) := A2.cell 3
  have q4 : w2.cell? ⟨w.heap.size, 4, none⟩ = some (.slice c.va.ao c.va.n c.va.cap) := A2.cell 4
  have q5 : w2.cell? ⟨w.heap.size, 5, none⟩ = some (.bool c.gone) := A2.cell 5
  clear CO hl hbb C2
  go_wp2_with fail
  refine CH.mono ?_
  rintro e w3 ⟨rfl, C3⟩
  have B3 := B2.trans (C3.mono B2.size)
  have A3 := arr_below A2 C3
  clear CH q0 q1 q2 q3 q4 q5 h1 HBB A2 A1
  have X3 := hT.below B3
  cases bb with
  | true =>
    have HNF : Hid (NotFull cs c.c) := fun h => by rw [h.1] at HB2; exact absurd HB2.out (by simp)
    have X4 := X3
    have A4 := A3
    have B4 := B3
    clear X3 A3 HB2 HLN
    have q0 : w3.cell? ⟨w.heap.size, 0, none⟩ = some (.string c.row) := A4.cell 0
    have q1 : w3.cell? ⟨w.heap.size, 1, none⟩ = some (.string c.fam) := A4.cell 1
    have q2 : w3.cell? ⟨w.heap.size, 2, none⟩ = some (.string c.qual) := A4.cell 2
    have q3 : w3.cell? ⟨w.heap.size, 3, none⟩ = some (.int .u64 c.time) := A4.cell 3
    have q4 : w3.cell? ⟨w.heap.size, 4, none⟩ = some (.slice c.va.ao c.va.n c.va.cap) := A4.cell 4
    have q5 : w3.cell? ⟨w.heap.size, 5, none⟩ = some (.bool c.gone) := A4.cell 5
    have CL := lay_any w3 p f t cs c (hTb.below B4 t2) X4 hs hn (hok.below B4) hgd hcn
    unfold CA.val at CL
    go_wp2_with fail
    refine CL.mono ?_
    rintro e w5 ⟨rfl, X5, K5⟩
    clear CL q0 q1 q2 q3 q4 q5
    have A5 : Arr w5 w.heap.size 69 (#[.string c.row, .string c.fam, .string c.qual, .int .u64 c.time, .slice c.va.ao c.va.n c.va.cap, .bool c.gone]).toList := (K5.block _ A4.lt (by omega)).trans A4
    have q0 : w5.cell? ⟨w.heap.size, 0, none⟩ = some (.string c.row) := A5.cell 0
    have q1 : w5.cell? ⟨w.heap.size, 1, none⟩ = some (.string c.fam) := A5.cell 1
    have q2 : w5.cell? ⟨w.heap.size, 2, none⟩ = some (.string c.qual) := A5.cell 2
    have q3 : w5.cell? ⟨w.heap.size, 3, none⟩ = some (.int .u64 c.time) := A5.cell 3
    have q4 : w5.cell? ⟨w.heap.size, 4, none⟩ = some (.slice c.va.ao c.va.n c.va.cap) := A5.cell 4
    have q5 : w5.cell? ⟨w.heap.size, 5, none⟩ = some (.bool c.gone) := A5.cell 5
    have CO := column_any w5 p f t (cIns cs c.c) c.key X5 (hs.ins _) (hg.ins hgd) hrow (by have := cIns_len cs c.c; omega)
    rw [show c.key.val = .agg #[.string c.row, .string c.fam, .string c.qual, .int .u64 c.time] from rfl] at CO
    have K5' := (Wr.of (p := p) B4).trans K5
    clear X4 A4 B4
    go_wp2_with fail
    refine CO.mono ?_
    rintro e w6 ⟨ao2, n2, cap2, l2, rfl, h2, -, hl2, C6⟩
    have X6 := X5.below C6
    have K6 := K5'.trans (Wr.of C6)
    have HL2 : Hid (l2.map CA.c = colC c.key (cIns cs c.c)) := hl2
    have hll := h2.len
    have hb2 : l2.length ≤ 4 := by
      have h3 := congrArg List.length hl2
      rw [List.length_map] at h3
      have h4 := List.length_filter_le (fun x : CV => x.col c.key) (cIns cs c.c)
      have h5 := cIns_len cs c.c
      unfold colC at h3
      omega
    clear CO hl2 X5 q0 q1 q2 q3 q4 q5
    have g4 : ¬ 4 < n2 := by omega
    · have i4 : ¬ (4 : Int) < (n2 : Int) := by omega
      have HM : Hid (mPut cs c.c = (cIns cs c.c, 0)) := mPut_few HNF.out (l2 := l2.map CA.c) HL2.out (by rw [List.length_map]; omega)
      go_wp2
      go_ret
      exact ⟨by rw [HM.out] <;> rfl, by rw [HM.out]; exact X6, K6⟩
  | false =>
    by_cases g1 : n1 < 4
    · have i1 : (n1 : Int) < 4 := by omega
      obtain ⟨u, AU, TU⟩ := X3
      have c2 : w3.cell? ⟨p, 2, none⟩ = some (.pointer u) := Arr.cell AU 2
      have CN := len_any w3 (.pointer u) (cs.map itm) TU hs (by rw [List.length_map]; omega)
      rw [List.length_map] at CN
      go_wp2_with fail
      refine CN.mono ?_
      rintro e w4 ⟨rfl, C4⟩
      have B4 := B3.trans (C4.mono B3.size)
      have A4 := arr_below A3 C4
      have X4 := hT.below B4
      clear CN c2 TU AU A3 C4
      by_cases g2 : 32 ≤ cs.length
      · have i2 : (32 : Int) ≤ (cs.length : Int) := by omega
        have HM : Hid (mPut cs c.c = (cs, 9)) := mPut_is9 ⟨HB2.out.symm, by rw [← HLN.out]; exact g1, g2⟩
        go_wp2
        go_ret
        exact ⟨by rw [HM.out] <;> rfl, by rw [HM.out]; exact X4, Wr.of B4⟩
      · have i2 : ¬ (32 : Int) ≤ (cs.length : Int) := by omega
        have HNF : Hid (NotFull cs c.c) := fun h => g2 h.2.2
        clear g2 HB2 HLN
        have q0 : w4.cell? ⟨w.heap.size, 0, none⟩ = some (.string c.row) := A4.cell 0
        have q1 : w4.cell? ⟨w.heap.size, 1, none⟩ = some (.string c.fam) := A4.cell 1
        have q2 : w4.cell? ⟨w.heap.size, 2, none⟩ = some (.string c.qual) := A4.cell 2
        have q3 : w4.cell? ⟨w.heap.size, 3, none⟩ = some (.int .u64 c.time) := A4.cell 3
        have q4 : w4.cell? ⟨w.heap.size, 4, none⟩ = some (.slice c.va.ao c.va.n c.va.cap) := A4.cell 4
        have q5 : w4.cell? ⟨w.heap.size, 5, none⟩ = some (.bool c.gone) := A4.cell 5
        have CL := lay_any w4 p f t cs c (hTb.below B4 t2) X4 hs hn (hok.below B4) hgd hcn
        unfold CA.val at CL
        go_wp2_with fail
        refine CL.mono ?_
        rintro e w5 ⟨rfl, X5, K5⟩
        clear CL q0 q1 q2 q3 q4 q5
        have A5 : Arr w5 w.heap.size 69 (#[.string c.row, .string c.fam, .string c.qual, .int .u64 c.time, .slice c.va.ao c.va.n c.va.cap, .bool c.gone]).toList := (K5.block _ A4.lt (by omega)).trans A4
        have q0 : w5.cell? ⟨w.heap.size, 0, none⟩ = some (.string c.row) := A5.cell 0
        have q1 : w5.cell? ⟨w.heap.size, 1, none⟩ = some (.string c.fam) := A5.cell 1
        have q2 : w5.cell? ⟨w.heap.size, 2, none⟩ = some (.string c.qual) := A5.cell 2
        have q3 : w5.cell? ⟨w.heap.size, 3, none⟩ = some (.int .u64 c.time) := A5.cell 3
        have q4 : w5.cell? ⟨w.heap.size, 4, none⟩ = some (.slice c.va.ao c.va.n c.va.cap) := A5.cell 4
        have q5 : w5.cell? ⟨w.heap.size, 5, none⟩ = some (.bool c.gone) := A5.cell 5
        have CO := column_any w5 p f t (cIns cs c.c) c.key X5 (hs.ins _) (hg.ins hgd) hrow (by have := cIns_len cs c.c; omega)
        rw [show c.key.val = .agg #[.string c.row, .string c.fam, .string c.qual, .int .u64 c.time] from rfl] at CO
        have K5' := (Wr.of (p := p) B4).trans K5
        clear X4 A4 B4
        go_wp2_with fail
        refine CO.mono ?_
        rintro e w6 ⟨ao2, n2, cap2, l2, rfl, h2, -, hl2, C6⟩
        have X6 := X5.below C6
        have K6 := K5'.trans (Wr.of C6)
        have HL2 : Hid (l2.map CA.c = colC c.key (cIns cs c.c)) := hl2
        have hll := h2.len
        have hb2 : l2.length ≤ 4 := by
          have h3 := congrArg List.length hl2
          rw [List.length_map] at h3
          have h4 := List.length_filter_le (fun x : CV => x.col c.key) (cIns cs c.c)
          have h5 := cIns_len cs c.c
          unfold colC at h3
          omega
        clear CO hl2 X5 q0 q1 q2 q3 q4 q5
        have g4 : ¬ 4 < n2 := by omega
        · have i4 : ¬ (4 : Int) < (n2 : Int) := by omega
          have HM : Hid (mPut cs c.c = (cIns cs c.c, 0)) := mPut_few HNF.out (l2 := l2.map CA.c) HL2.out (by rw [List.length_map]; omega)
          go_wp2
          go_ret
          exact ⟨by rw [HM.out] <;> rfl, by rw [HM.out]; exact X6, K6⟩
    · have i1 : ¬ (n1 : Int) < 4 := by omega
      have HNF : Hid (NotFull cs c.c) := fun h => g1 (by rw [HLN.out]; exact h.2.1)
      have X4 := X3
      have A4 := A3
      have B4 := B3
      clear X3 A3 HB2 HLN
      have q0 : w3.cell? ⟨w.heap.size, 0, none⟩ = some (.string c.row) := A4.cell 0
      have q1 : w3.cell? ⟨w.heap.size, 1, none⟩ = some (.string c.fam) := A4.cell 1
      have q2 : w3.cell? ⟨w.heap.size, 2, none⟩ = some (.string c.qual) := A4.cell 2
      have q3 : w3.cell? ⟨w.heap.size, 3, none⟩ = some (.int .u64 c.time) := A4.cell 3
      have q4 : w3.cell? ⟨w.heap.size, 4, none⟩ = some (.slice c.va.ao c.va.n c.va.cap) := A4.cell 4
      have q5 : w3.cell? ⟨w.heap.size, 5, none⟩ = some (.bool c.gone) := A4.cell 5
      have CL := lay_any w3 p f t cs c (hTb.below B4 t2) X4 hs hn (hok.below B4) hgd hcn
      unfold CA.val at CL
      go_wp2_with fail
      refine CL.mono ?_
      rintro e w5 ⟨rfl, X5, K5⟩
      clear CL q0 q1 q2 q3 q4 q5
      have A5 : Arr w5 w.heap.size 69 (#[.string c.row, .string c.fam, .string c.qual, .int .u64 c.time, .slice c.va.ao c.va.n c.va.cap, .bool c.gone]).toList := (K5.block _ A4.lt (by omega)).trans A4
      have q0 : w5.cell? ⟨w.heap.size, 0, none⟩ = some (.string c.row) := A5.cell 0
      have q1 : w5.cell? ⟨w.heap.size, 1, none⟩ = some (.string c.fam) := A5.cell 1
      have q2 : w5.cell? ⟨w.heap.size, 2, none⟩ = some (.string c.qual) := A5.cell 2
      have q3 : w5.cell? ⟨w.heap.size, 3, none⟩ = some (.int .u64 c.time) := A5.cell 3
      have q4 : w5.cell? ⟨w.heap.size, 4, none⟩ = some (.slice c.va.ao c.va.n c.va.cap) := A5.cell 4
      have q5 : w5.cell? ⟨w.heap.size, 5, none⟩ = some (.bool c.gone) := A5.cell 5
      have CO := column_any w5 p f t (cIns cs c.c) c.key X5 (hs.ins _) (hg.ins hgd) hrow (by have := cIns_len cs c.c; omega)
      rw [show c.key.val = .agg #[.string c.row, .string c.fam, .string c.qual, .int .u64 c.time] from rfl] at CO
      have K5' := (Wr.of (p := p) B4).trans K5
      clear X4 A4 B4
      go_wp2_with fail
      refine CO.mono ?_
      rintro e w6 ⟨ao2, n2, cap2, l2, rfl, h2, -, hl2, C6⟩
      have X6 := X5.below C6
      have K6 := K5'.trans (Wr.of C6)
      have HL2 : Hid (l2.map CA.c = colC c.key (cIns cs c.c)) := hl2
      have hll := h2.len
      have hb2 : l2.length ≤ 4 := by
        have h3 := congrArg List.length hl2
        rw [List.length_map] at h3
        have h4 := List.length_filter_le (fun x : CV => x.col c.key) (cIns cs c.c)
        have h5 := cIns_len cs c.c
        unfold colC at h3
        omega
      clear CO hl2 X5 q0 q1 q2 q3 q4 q5
      have g4 : ¬ 4 < n2 := by omega
      · have i4 : ¬ (4 : Int) < (n2 : Int) := by omega
        have HM : Hid (mPut cs c.c = (cIns cs c.c, 0)) := mPut_few HNF.out (l2 := l2.map CA.c) HL2.out (by rw [List.length_map]; omega)
        go_wp2
        go_ret
        exact ⟨by rw [HM.out] <;> rfl, by rw [HM.out]; exact X6, K6⟩
set_option maxHeartbeats 2000000 in
set_option maxRecDepth 100000 in
theorem do_put_few (w : World) (p : Nat) (f t : ByteArray) (cs : List CV) (o : OA) (hk : o.kind = 1) (hTb : Tabs w) (hT : TB w p f t cs) (hs : CSrt cs) (hg : CGood cs) (hn : cs.length ≤ 3) (hok : o.ok w) (hgd : o.cell.c.good) :
    Calls Tryz.prog 48 #[.pointer (some ⟨p, 0, none⟩), o.val] w (DoPost w p f t ((mPut cs o.cell.c).1, ⟨(mPut cs o.cell.c).2, [], false⟩)) := by
  have t2 := hTb.two
  obtain ⟨W1, hW1⟩ : ∃ V, V = w.alloc (.cells #[.int .i64 o.kind, .string o.row, .string o.fam, .string o.qual, .int .u64 o.time, .string o.to, .slice o.va.ao o.va.n o.va.cap, .slice o.wa.ao o.wa.n o.wa.cap, .bool o.has, .slice o.so o.sn o.sc] 42) := ⟨_, rfl⟩
  obtain ⟨W2, hW2⟩ : ∃ V, V = W1.alloc (.cells #[.int .i64 0, .slice none 0 0, .bool false] 34) := ⟨_, rfl⟩
  have C1 : Below w.heap.size w W1 := by rw [hW1]; exact (Below.refl _ _).alloc (Nat.le_refl _) _
  have C2 : Below W1.heap.size W1 W2 := by rw [hW2]; exact (Below.refl _ _).alloc (Nat.le_refl _) _
  have B2 := C1.trans (C2.mono C1.size)
  have s1 : W1.heap.size = w.heap.size + 1 := by rw [hW1]; exact Array.size_push ..
  have O1 : OC W1 w.heap.size o := by rw [hW1]; exact OC.new w o
  have O2 := O1.keep C2
  have R2 : Arr W2 (w.heap.size + 1) 34 [.int .i64 0, .slice none 0 0, .bool false] := by rw [hW2, ← s1]; exact heap_alloc_new W1 _
  have hp := hT.lt
  have hvn : o.va.n ≤ 100000 := by rw [← hok.va.len]; have := hgd.val; show o.cell.c.value.length ≤ _; omega
  have CP := put_few W2 p f t cs o.cell (hTb.below B2 t2) (hT.below B2) hs hg hn ⟨hok.row, hok.fam, hok.qual, hok.time, hok.va.below B2⟩ hgd hvn
  rw [show o.cell.val = .agg #[.string o.row, .string o.fam, .string o.qual, .int .u64 o.time, .slice o.va.ao o.va.n o.va.cap, .bool false] from rfl] at CP
  have k1 : (o.kind == 1) = true := by simp [hk]
  have k2 : (o.kind == 2) = false := by simp [hk]
  have k3 : (o.kind == 3) = false := by simp [hk]
  have k4 : (o.kind == 4) = false := by simp [hk]
  have k5 : (o.kind == 5) = false := by simp [hk]
  have k6 : (o.kind == 6) = false := by simp [hk]
  have k7 : (o.kind == 7) = false := by simp [hk]
  obtain ⟨m, hm⟩ : ∃ m, m = mPut cs o.cell.c := ⟨_, rfl⟩
  rw [← hm] at CP ⊢
  clear hm hk
  unfold OA.val
  go_enter Tryz.func48, Tryz.ntmps48
  go_wp2_with fail
  rw [← hW1, ← hW2]
  clear hW1 hW2 s1
  refine CP.mono ?_
  rintro e w3 ⟨rfl, X3, K3⟩
  have R3 : Arr w3 (w.heap.size + 1) 34 [.int .i64 0, .slice none 0 0, .bool false] := (K3.block _ R2.lt (by omega)).trans R2
  have K3' := (Wr.of (p := p) B2).trans K3
  have CB := only_any w3 m.2
  unfold resV at CB
  clear CP R2
  go_wp2_with fail
  refine CB.mono ?_
  rintro e w4 ⟨rfl, C4⟩
  have R4 := arr_below R3 C4
  have X4 := X3.below C4
  have K4 := K3'.trans (Wr.of C4)
  have r0 : w4.cell? ⟨w.heap.size + 1, 0, none⟩ = some (.int .i64 0) := R4.cell 0
  have f0 := R4.free 0
  have r1 : w4.cell? ⟨w.heap.size + 1, 1, none⟩ = some (.slice none 0 0) := R4.cell 1
  have f1 := R4.free 1
  have r2 : w4.cell? ⟨w.heap.size + 1, 2, none⟩ = some (.bool false) := R4.cell 2
  have f2 := R4.free 2
  have lt := R4.lt
  clear CB R3 X3
  have KW : Wr (w.heap.size + 1) w4 (((w4.setCell ⟨w.heap.size + 1, 0, none⟩ (.int .i64 m.2)).setCell ⟨w.heap.size + 1, 1, none⟩ (.slice none 0 0)).setCell ⟨w.heap.size + 1, 2, none⟩ (.bool false)) := (((Wr.refl _ _).set 0 _).set 1 _).set 2 _
  go_wp2
  exact bodyPost_ret (v := .agg #[.int .i64 m.2, .slice none 0 0, .bool false]) (by simp [results, Tryz.results48, go_sem, r0, r1, r2]) rfl ⟨ResP.bad m.2 _, TB.dull R4 (Dull.res _ _) KW (by omega) X4, K4.new KW (Nat.le_succ _)⟩
open Go.RowKit
def opP (g : Nat) : OA := ⟨1, ⟨#[97]⟩, ⟨#[102]⟩, ⟨#[]⟩, 0, ⟨#[]⟩, ⟨some ⟨g, 0, none⟩, 1, 1, [118]⟩, ⟨none, 0, 0, []⟩, false, none, 0, 0⟩
def opG : OA := ⟨7, ⟨#[97]⟩, ⟨#[102]⟩, ⟨#[]⟩, 0, ⟨#[]⟩, ⟨none, 0, 0, []⟩, ⟨none, 0, 0, []⟩, false, none, 0, 0⟩
def cvA : CV := ⟨⟨#[97]⟩, ⟨#[102]⟩, ⟨#[]⟩, 0, [118], false⟩
theorem cvA_good : cvA.good := ⟨by decide, by decide, by decide, by intro x hx; simp [cvA] at hx; omega, fun h => by simp [cvA] at h⟩
theorem opP_right (g : Nat) : rightO (opP g).s [] = true := by kernel_rfl
theorem opG_right : rightO opG.s [] = true := by kernel_rfl
theorem mPutA : mPut [] cvA = ([cvA], 0) := by kernel_rfl
theorem mGetA : mGet [cvA] ⟨⟨#[97]⟩, ⟨#[102]⟩, ⟨#[]⟩, 0⟩ = ⟨0, [cvA], false⟩ := by kernel_rfl
theorem inRowsA : inRows ⟨#[]⟩ ⟨#[]⟩ ⟨#[97]⟩ = true := by kernel_rfl
theorem newKA : newK ⟨#[]⟩ ⟨#[]⟩ = 0 := by kernel_rfl
theorem CSrt.one (c : CV) : CSrt [c] := Srt.one _
theorem OWL.nil0 (w : World) : OWL w 0 none 0 0 [] := ⟨rfl, Nat.le_refl _, Nat.zero_le _, fun _ => ⟨rfl, rfl⟩, fun _ h => by simp at h, fun _ h => by simp at h⟩
theorem opP_ok (w : World) (g : Nat) (h : Sl w (some ⟨g, 0, none⟩) 1 1 [118]) : (opP g).ok w :=
  ⟨show (-9223372036854775808 : Int) ≤ 1 ∧ (1 : Int) ≤ 9223372036854775807 by decide, show (⟨#[97]⟩ : ByteArray).size ≤ maxLen by decide, show (⟨#[102]⟩ : ByteArray).size ≤ maxLen by decide, show (⟨#[]⟩ : ByteArray).size ≤ maxLen by decide, show 0 < 18446744073709551616 by decide, show (⟨#[]⟩ : ByteArray).size ≤ maxLen by decide, h, Sl.nothing w, Nat.le_refl _, Nat.zero_le _, fun _ => ⟨rfl, rfl⟩⟩
theorem opG_ok (w : World) : opG.ok w :=
  ⟨by decide, by decide, by decide, by decide, by decide, by decide, Sl.nothing w, Sl.nothing w, Nat.le_refl _, by decide, fun _ => ⟨rfl, rfl⟩⟩
theorem applyP (w : World) (p g : Nat) (hTb : Tabs w) (hT : TB w p ⟨#[]⟩ ⟨#[]⟩ []) (h : Sl w (some ⟨g, 0, none⟩) 1 1 [118]) :
    Calls Tryz.prog 15 #[.pointer (some ⟨p, 0, none⟩), (opP g).val] w (DoPost w p ⟨#[]⟩ ⟨#[]⟩ ([cvA], ⟨0, [], false⟩)) := by
  have t2 := hTb.two
  have := apply_any w p ⟨#[]⟩ ⟨#[]⟩ [] (opP g) [] ([cvA], ⟨0, [], false⟩) hT (opP_ok w g h) (OWL.nil0 w) (opP_right g) (fun V u _ hu => by
    have := isout_row V p ⟨#[]⟩ ⟨#[]⟩ u (opP g) hu (show (1 : Int) ≠ 8 by decide)
    rw [show (opP g).row = ⟨#[97]⟩ from rfl, inRowsA] at this
    exact this) (fun V hV => by
    have := do_put_few V p ⟨#[]⟩ ⟨#[]⟩ [] (opP g) rfl (hTb.below hV t2) (hT.below hV) List.Pairwise.nil (fun _ h => by simp at h) (by decide) (opP_ok V g (h.below hV)) cvA_good
    rw [show (opP g).cell.c = cvA from rfl, mPutA] at this
    exact this)
  exact this
theorem applyG (w : World) (p : Nat) (hT : TB w p ⟨#[]⟩ ⟨#[]⟩ [cvA]) :
    Calls Tryz.prog 15 #[.pointer (some ⟨p, 0, none⟩), opG.val] w (DoPost w p ⟨#[]⟩ ⟨#[]⟩ ([cvA], ⟨0, [cvA], false⟩)) := by
  have := apply_any w p ⟨#[]⟩ ⟨#[]⟩ [cvA] opG [] ([cvA], ⟨0, [cvA], false⟩) hT (opG_ok w) (OWL.nil0 w) opG_right (fun V u _ hu => by
    have := isout_row V p ⟨#[]⟩ ⟨#[]⟩ u opG hu (by decide)
    rw [show opG.row = ⟨#[97]⟩ from rfl, inRowsA] at this
    exact this) (fun V hV => by
    have := do_get V p ⟨#[]⟩ ⟨#[]⟩ [cvA] opG rfl (hT.below hV) (CSrt.one _) (fun c hc => by rw [List.mem_singleton.1 hc]; exact cvA_good) (by decide) (by decide)
    rw [show opG.key = ⟨⟨#[97]⟩, ⟨#[102]⟩, ⟨#[]⟩, 0⟩ from rfl, mGetA] at this
    exact this)
  exact this
set_option maxHeartbeats 2000000 in
set_option maxRecDepth 100000 in
theorem alive10 (w : World) (hTb : Tabs w) : Calls Tryz.prog 10 #[] w fun e w' => e = .returned (.bool true) ∧ Below w.heap.size w w' := by
  have t2 := hTb.two
  have CN := tnew_any w ⟨#[]⟩ ⟨#[]⟩ (by decide) (by decide)
  go_enter Tryz.func10, Tryz.ntmps10
  go_wp2_with fail
  refine CN.mono ?_
  rintro e w1 (⟨-, rfl, X1, C1⟩ | ⟨h, -⟩)
  case inr => rw [newKA] at h; simp at h
  clear CN
  have kc := fun (w : World) (C : Array Value) (n c g : Nat) (hg : g = w.heap.size) => Joins.run_convert_bytes_const_at (P := Tryz.prog) w 40 5 C n c g hg Tryz.underlying40 Tryz.underlying5
  obtain ⟨W2, hW2⟩ : ∃ V, V = w1.alloc (.cells #[.string ⟨#[97]⟩, .string ⟨#[102]⟩, .string ⟨#[]⟩, .int .u64 0] 39) := ⟨_, rfl⟩
  obtain ⟨W3, hW3⟩ : ∃ V, V = W2.alloc (.cells #[.int .u8 118] 5 (1, 2)) := ⟨_, rfl⟩
  have C2 : Below w1.heap.size w1 W2 := by rw [hW2]; exact (Below.refl _ _).alloc (Nat.le_refl _) _
  have C3 : Below W2.heap.size W2 W3 := by rw [hW3]; exact (Below.refl _ _).alloc (Nat.le_refl _) _
  have z2 : W2.heap.size = w1.heap.size + 1 := by rw [hW2]; exact Array.size_push ..
  have K2 : Arr W2 w1.heap.size 39 [.string ⟨#[97]⟩, .string ⟨#[102]⟩, .string ⟨#[]⟩, .int .u64 0] := by rw [hW2]; exact heap_alloc_new w1 _
  have K3 := arr_below K2 C3
  have S3 : Sl W3 (some ⟨w1.heap.size + 1, 0, none⟩) 1 1 [118] := by rw [hW3, ← z2]; exact Sl.const W2 [118] (1, 2) (fun x hx => by simp at hx; omega) (by simp [maxLen])
  have k1 := kc W2 #[.int .u8 118] 1 1 (w1.heap.size + 1) z2.symm
  rw [hW2] at k1
  have B3 := (C1.trans (C2.mono C1.size)).trans (C3.mono (by have := C1.size; have := C2.size; omega))
  have X3 := (X1.below C2).below C3
  have CP := applyP W3 w.heap.size (w1.heap.size + 1) (hTb.below B3 t2) X3 S3
  have hpl := X1.lt
  have ek : (opP (w1.heap.size + 1)).val = .agg #[.int .i64 1, .string ⟨#[97]⟩, .string ⟨#[102]⟩, .string ⟨#[]⟩, .int .u64 0, .string ⟨#[]⟩, .slice (some ⟨w1.heap.size + 1, 0, none⟩) 1 1, .slice none 0 0, .bool false, .slice none 0 0] := rfl
  rw [ek] at CP
  go_wp2_with fail
  rw [← hW2, ← hW3]
  clear hW2 hW3 k1 z2 K2 S3 C2 C3 X1 X3 ek
  refine CP.mono ?_
  rintro e w4 ⟨⟨ao, n, cap, l, rfl, -, -⟩, X4, K4⟩
  unfold resV
  have hs3 := B3.size
  have hwn : w.heap.size ≠ w1.heap.size := by omega
  have K4' : Arr w4 w1.heap.size 39 [.string ⟨#[97]⟩, .string ⟨#[102]⟩, .string ⟨#[]⟩, .int .u64 0] := (K4.block _ K3.lt (Ne.symm hwn)).trans K3
  have B4 := Wr.below B3 K4 B3.size (Nat.le_refl _)
  clear CP K3
  obtain ⟨W5, hW5⟩ : ∃ V, V = w4.alloc (.cells #[.int .i64 0, .slice ao n cap, .bool false] 34) := ⟨_, rfl⟩
  have C5 : Below w4.heap.size w4 W5 := by rw [hW5]; exact (Below.refl _ _).alloc (Nat.le_refl _) _
  have Q5 : Arr W5 w4.heap.size 34 [.int .i64 0, .slice ao n cap, .bool false] := by rw [hW5]; exact heap_alloc_new w4 _
  have K5 := arr_below K4' C5
  have X5 := X4.below C5
  have B5 := B4.trans (C5.mono B4.size)
  have q0 : (w4.alloc (.cells #[.int .i64 0, .slice ao n cap, .bool false] 34)).cell? ⟨w1.heap.size, 0, none⟩ = some (.string ⟨#[97]⟩) := by rw [← hW5]; exact K5.cell 0
  have q1 : (w4.alloc (.cells #[.int .i64 0, .slice ao n cap, .bool false] 34)).cell? ⟨w1.heap.size, 1, none⟩ = some (.string ⟨#[102]⟩) := by rw [← hW5]; exact K5.cell 1
  have q2 : (w4.alloc (.cells #[.int .i64 0, .slice ao n cap, .bool false] 34)).cell? ⟨w1.heap.size, 2, none⟩ = some (.string ⟨#[]⟩) := by rw [← hW5]; exact K5.cell 2
  have q3 : (w4.alloc (.cells #[.int .i64 0, .slice ao n cap, .bool false] 34)).cell? ⟨w1.heap.size, 3, none⟩ = some (.int .u64 0) := by rw [← hW5]; exact K5.cell 3
  have CG := applyG W5 w.heap.size X5
  have ek : opG.val = .agg #[.int .i64 7, .string ⟨#[97]⟩, .string ⟨#[102]⟩, .string ⟨#[]⟩, .int .u64 0, .string ⟨#[]⟩, .slice none 0 0, .slice none 0 0, .bool false, .slice none 0 0] := rfl
  rw [ek] at CG
  go_wp2_with fail
  rw [← hW5]
  clear hW5 q0 q1 q2 q3 ek
  refine CG.mono ?_
  rintro e w6 ⟨⟨bo, m, mc, l2, rfl, L6, hl6⟩, X6, K6⟩
  unfold resV
  have hz5 := B5.size
  have Q6 : Arr w6 w4.heap.size 34 [.int .i64 0, .slice ao n cap, .bool false] := (K6.block _ Q5.lt (by have := B4.size; have := X4.lt; omega)).trans Q5
  have B6 := Wr.below B5 K6 B5.size (Nat.le_refl _)
  have hl61 : l2.length = 1 := by have := congrArg List.length hl6; rw [List.length_map] at this; exact this
  obtain rfl : m = 1 := by rw [← L6.len]; exact hl61
  obtain ⟨cc, rfl⟩ : ∃ cc, l2 = [cc] := by
    match l2, hl61 with
    | [cc], _ => exact ⟨cc, rfl⟩
  have hcc : cc.c = cvA := by simpa using hl6
  obtain ⟨lb, lo, rfl, hc6⟩ := L6.at (by omega)
  have Xc := hc6 0 (by simp)
  rw [Nat.zero_mul, Nat.add_zero] at Xc
  have Xc : CX w6 lb lo cc := Xc
  have c4 := Xc.c4
  have okc : cc.ok w6 := L6.ok _ (List.mem_singleton.2 rfl)
  have Sv := okc.va
  have hvx : cc.va.xs = [118] := congrArg CV.value hcc
  rw [hvx] at Sv
  clear CG Q5 hl6 hl61 hc6 Xc hcc L6 okc hvx
  obtain ⟨W7, hW7⟩ : ∃ V, V = w6.alloc (.cells #[.int .i64 0, .slice (some ⟨lb, lo, none⟩) 1 mc, .bool false] 34) := ⟨_, rfl⟩
  have C7 : Below w6.heap.size w6 W7 := by rw [hW7]; exact (Below.refl _ _).alloc (Nat.le_refl _) _
  have B7 := B6.trans (C7.mono B6.size)
  have Q7 := arr_below Q6 C7
  have e0 : (w6.alloc (.cells #[.int .i64 0, .slice (some ⟨lb, lo, none⟩) 1 mc, .bool false] 34)).cell? ⟨w4.heap.size, 0, none⟩ = some (.int .i64 0) := by rw [← hW7]; exact Q7.cell 0
  have e4 : (w6.alloc (.cells #[.int .i64 0, .slice (some ⟨lb, lo, none⟩) 1 mc, .bool false] 34)).cell? ⟨lb, lo + 4, none⟩ = some (.slice cc.va.ao cc.va.n cc.va.cap) := by rw [← hW7]; exact (C7.cell (World.block_lt_of_cell? _ _ c4)).trans c4
  have cv := conv_str (Sv.below C7)
  rw [hW7] at cv
  have hvs : ((strOfNums [118]).toList == [118]) = true := by kernel_rfl
  go_wp2
  go_ret
  rw [← hW7]
  exact ⟨rfl, B7⟩
open Go.RowKit
theorem same_true (w : World) (ao bo : Option Addr) (n cap m cap2 : Nat) (xs : List Int) (h : Sl w ao n cap xs) (h2 : Sl w bo m cap2 xs) :
    Calls Tryz.prog 19 #[.slice ao n cap, .slice bo m cap2] w fun e w' => e = .returned (.bool true) ∧ Below w.heap.size w w' := by
  refine (same_any w ao bo n cap m cap2 xs xs h h2).mono ?_
  rintro e w' ⟨rfl, q, rfl⟩
  exact ⟨by simp, ⟨rfl, rfl, rfl, Nat.le_refl _, fun _ _ => rfl⟩⟩
open Go.RowKit
theorem cellsB_few {l : List CA} {m : Nat} (h : cellsB l (m : Int) = true) : l.length ≤ m := by
  have := of_decide_eq_true (Bool.and_eq_true_iff.1 h).1
  omega
theorem of_stand {f t : ByteArray} {cs : List CV} (h : ofK f t cs = 0) (ht : ∀ c ∈ cs, c.time < 18446744073709551616) (hb : ∀ c ∈ cs, Byt c.value) : Stand f t cs.length (layAll [] cs) ∧ newK f t = 0 := by
  have hk : newK f t = 0 := by
    unfold ofK at h
    split at h
    · assumption
    · simp at h
  unfold ofK at h
  rw [if_pos hk] at h
  obtain ⟨h1, -, -, -⟩ := judgeK_ok h
  have := (Stand.nil f t).layAll cs (fun c hc => ⟨good_of (h1 c hc).1 (h1 c hc).2.2 (ht c hc) (hb c hc), (h1 c hc).2.1⟩)
  rw [Nat.zero_add] at this
  exact ⟨this, hk⟩
set_option maxHeartbeats 8000000 in
set_option maxRecDepth 100000 in
theorem tabletOf_any (W : World) (f t : ByteArray) (a0 : Option Addr) (n0 c0 : Nat) (l : List CA) (hf0 : f.size ≤ maxLen) (ht0 : t.size ≤ maxLen) (L0 : CL W a0 n0 c0 l) (sm0 : ∀ c ∈ l, c.small) (hT : Tabs W) :
    Calls Tryz.prog 4 #[.string f, .string t, .slice a0 n0 c0] W fun e w' => e = .returned (.bool true) ∧ Below W.heap.size W w' := by
  have t2 := hT.two
  have HTb : Hid (Tabs W) := hT
  have AL := fun (V : World) (hV : Below W.heap.size W V) => alive10 V (hT.below hV t2)
  have HAL : Hid (∀ (V : World) (hV : Below W.heap.size W V), Calls Tryz.prog 10 #[] V fun e w' => e = .returned (.bool true) ∧ Below V.heap.size V w') := AL
  clear AL hT
  have hl1 := Nat.le_of_eq L0.len
  have hl2 := Nat.le_of_eq L0.len.symm
  have CLg := lcells_any W a0 n0 c0 l 30 L0 sm0
  obtain ⟨b1, hb1⟩ : ∃ b, b = cellsB l 30 := ⟨_, rfl⟩
  have HB1 : Hid (b1 = cellsB l 30) := hb1
  rw [← hb1] at CLg
  clear hb1 sm0
  go_enter Tryz.func4, Tryz.ntmps4
  go_wp2_with fail
  refine CLg.mono ?_
  rintro e w1 ⟨rfl, B1⟩
  clear CLg
  cases b1 with
  | false =>
    have AV := HAL.out w1 B1
    go_wp2_with fail
    refine AV.mono ?_
    rintro e wz ⟨rfl, Cz⟩
    go_wp2
    go_ret
    exact ⟨rfl, (B1.trans (Cz.mono B1.size))⟩
  | true =>
    by_cases g1 : f.size ≤ 100
    case neg =>
      have i1 : (100 : Int) < (f.size : Int) := by omega
      have AV := HAL.out w1 B1
      go_wp2_with fail
      refine AV.mono ?_
      rintro e wz ⟨rfl, Cz⟩
      go_wp2
      go_ret
      exact ⟨rfl, (B1.trans (Cz.mono B1.size))⟩
    have i1 : ¬ (100 : Int) < (f.size : Int) := by omega
    by_cases g2 : t.size ≤ 100
    case neg =>
      have i2 : (100 : Int) < (t.size : Int) := by omega
      have AV := HAL.out w1 B1
      go_wp2_with fail
      refine AV.mono ?_
      rintro e wz ⟨rfl, Cz⟩
      go_wp2
      go_ret
      exact ⟨rfl, (B1.trans (Cz.mono B1.size))⟩
    have i2 : ¬ (100 : Int) < (t.size : Int) := by omega
    have hn30 : n0 ≤ 30 := by
      have h := HB1.out.symm
      have := cellsB_few (m := 30) h
      omega
    clear HB1
    have CO := of_any10 w1 f t a0 n0 c0 l (HTb.out.below B1 t2) (by omega) (by omega) (L0.below B1) (by omega)
    obtain ⟨cs, hcs⟩ : ∃ cs, cs = l.map CA.c := ⟨_, rfl⟩
    have hcn : cs.length = n0 := by rw [hcs, List.length_map]; exact L0.len
    have HTM : Hid (∀ c ∈ cs, c.time < 18446744073709551616) := fun c hc => by
      rw [hcs] at hc
      obtain ⟨x, hx, rfl⟩ := List.mem_map.1 hc
      exact (L0.ok x hx).time
    have HBY : Hid (∀ c ∈ cs, Byt c.value) := fun c hc => by
      rw [hcs] at hc
      obtain ⟨x, hx, rfl⟩ := List.mem_map.1 hc
      exact (L0.ok x hx).va.byte
    rw [← hcs] at CO
    have HRO : Hid (∀ V, Below W.heap.size W V → Calls Tryz.prog 29 #[.string f, .string t, .slice a0 n0 c0] V (ROfPost V f t cs)) := fun V hV => by
      have := rof10_any V f t a0 n0 c0 l hf0 ht0 (L0.below hV) (by omega)
      rw [← hcs] at this
      exact this
    have HCN : Hid (cs.length ≤ 30) := by show _ ≤ _; omega
    clear hcs hcn L0 hl1 hl2
    go_wp2_with fail
    refine CO.mono ?_
    rintro e w2 (⟨hk0, p, hp, rfl, X2, C2⟩ | ⟨hk1, rfl, C2⟩)
    case inr =>
      have B2 := B1.trans (C2.mono B1.size)
      have CR := HRO.out w2 B2
      clear CO HRO
      go_wp2_with fail
      refine CR.mono ?_
      rintro e w3 (⟨hk0, -⟩ | ⟨-, rfl, C3⟩)
      · exact absurd hk0 hk1
      have B3 := B2.trans (C3.mono B2.size)
      clear CR
      obtain ⟨k, hk⟩ : ∃ k, k = ofK f t cs := ⟨_, rfl⟩
      rw [← hk] at hk1 ⊢
      clear hk
      have z0 : (k != 0) = true := by simp [hk1]
      have z1 : (k == k) = true := by simp
      have BA : Below w3.heap.size w3 (w3.alloc (.cells #[.string ⟨#[]⟩, .string ⟨#[]⟩, .slice none 0 0] 32)) := (Below.refl _ _).alloc (Nat.le_refl _) _
      have B4 := B3.trans (BA.mono B3.size)
      have AV := HAL.out _ B4
      go_wp2_with fail
      refine AV.mono ?_
      rintro e wz ⟨rfl, Cz⟩
      go_wp2
      go_ret
      exact ⟨rfl, B4.trans (Cz.mono B4.size)⟩
    have B2 := B1.trans (C2.mono B1.size)
    have CR := HRO.out w2 B2
    clear CO HRO
    go_wp2_with fail
    refine CR.mono ?_
    rintro e w3 (⟨-, bo, bm, bc, ml, rfl, L3, hml, C3⟩ | ⟨hk1, -⟩)
    case inr => exact absurd hk0 hk1
    have B3 := B2.trans (C3.mono B2.size)
    have X3 := X2.below C3
    clear CR X2
    obtain ⟨hst, hnk⟩ := of_stand hk0 HTM.out HBY.out
    have hsz : f.size ≤ 32 ∧ t.size ≤ 32 ∧ (t.size = 0 ∨ cmpL (sb f) (sb t) < 0) := by
      unfold newK at hnk
      split at hnk
      · assumption
      · simp at hnk
    have hf32 := hsz.1
    have ht32 := hsz.2.1
    have hlen := hst.len
    have hc30 := HCN.out
    have hll : (layAll [] cs).length ≤ 30 := by omega
    obtain ⟨q, hq⟩ : ∃ q, q = w3.heap.size := ⟨_, rfl⟩
    obtain ⟨w4, hw4⟩ : ∃ V, V = w3.alloc (.cells #[.string f, .string t, .slice bo bm bc] 32) := ⟨_, rfl⟩
    have C4 : Below w3.heap.size w3 w4 := by rw [hw4]; exact (Below.refl _ _).alloc (Nat.le_refl _) _
    have M4 : Arr w4 q 32 [.string f, .string t, .slice bo bm bc] := by rw [hw4, hq]; exact heap_alloc_new w3 _
    have B4 := B3.trans (C4.mono B3.size)
    have X4 := X3.below C4
    have L4 := L3.below C4
    have m0 : w4.cell? ⟨q, 0, none⟩ = some (.string f) := M4.cell 0
    have m1 : w4.cell? ⟨q, 1, none⟩ = some (.string t) := M4.cell 1
    have m2 : w4.cell? ⟨q, 2, none⟩ = some (.slice bo bm bc) := M4.cell 2
    have hbm : bm ≤ 30 := by
      have h1 := L3.len
      have h2 := congrArg List.length hml
      rw [List.length_map] at h2
      omega
    have HCE : Hid (∀ V, Below w4.heap.size w4 V → Calls Tryz.prog 17 #[.pointer (some ⟨p, 0, none⟩)] V fun e w' => ∃ co cn cc cl, e = .returned (.slice co cn cc) ∧ (CL w' co cn cc cl ∧ cl.map CA.c = layAll [] cs) ∧ Below V.heap.size V w') := fun V hV => by
      refine (cells_st V p f t (layAll [] cs) (X4.below hV) hst.srt hst.good hf32 ht32 hst.rows (by omega)).mono ?_
      rintro e w' ⟨co, cn, cc, cl, rfl, h1, -, h2, B⟩
      exact ⟨co, cn, cc, cl, rfl, ⟨h1, h2⟩, B⟩
    have HSM : Hid (∀ V, Below w4.heap.size w4 V → ∀ co cn cc cl, CL V co cn cc cl → cl.map CA.c = layAll [] cs → Calls Tryz.prog 16 #[.slice co cn cc, .slice bo bm bc] V fun e w' => e = .returned (.bool true) ∧ Below V.heap.size V w') := fun V hV co cn cc cl h1 h2 => by
      have hn : bm = cn := CL.len_of h1 L4 (h2.trans hml.symm)
      subst hn
      exact same10_any V co bo bm cc bc cl ml h1 (L4.below hV) (h2.trans hml.symm) (by omega)
    have HRT : Hid (∀ V, Below w4.heap.size w4 V → Calls Tryz.prog 20 #[.pointer (some ⟨p, 0, none⟩)] V fun e w' => ∃ ro rc, e = .returned (.slice ro 32 rc) ∧ Sl w' ro 32 rc (rootT f t (layAll [] cs)) ∧ Below V.heap.size V w') := fun V hV => troot_any V p f t (layAll [] cs) (HTb.out.below (B4.trans (hV.mono B4.size)) t2) (X4.below hV) hst.good (by omega) hf32 ht32
    have HRR : Hid (∀ V, Below w4.heap.size w4 V → Calls Tryz.prog 21 #[.agg #[.string f, .string t, .slice bo bm bc]] V fun e w' => ∃ so sc, e = .returned (.slice so 32 sc) ∧ Sl w' so 32 sc (rootT f t (layAll [] cs)) ∧ Below V.heap.size V w') := fun V hV => by
      have := rroot10_any V f t bo bm bc ml (L4.below hV) (by rw [hml]; exact hst.good) (by omega) hf32 ht32
      rw [hml] at this
      exact this
    clear hst hnk hsz L3 L4 X3 X4 hml M4 hlen hll hk0
    go_wp2
    rw [← hw4, ← hq]
    clear hw4 hq
    have zHS : Hid (∀ V, Below w4.heap.size w4 V → V.cell? ⟨q, 0, none⟩ = some (.string f) ∧ V.cell? ⟨q, 1, none⟩ = some (.string t) ∧ V.cell? ⟨q, 2, none⟩ = some (.slice bo bm bc)) := fun V hV => ⟨(hV.cell (World.block_lt_of_cell? _ _ m0)).trans m0, (hV.cell (World.block_lt_of_cell? _ _ m1)).trans m1, (hV.cell (World.block_lt_of_cell? _ _ m2)).trans m2⟩
    have zE0 : Below w4.heap.size w4 w4.drew := (Below.refl _ _).drew
    refine wp_region_noPanic ?_
    refine wp_region_held_drew (S := fun V => V.cell? ⟨q, 0, none⟩ = some (.string f) ∧ V.cell? ⟨q, 1, none⟩ = some (.string t) ∧ V.cell? ⟨q, 2, none⟩ = some (.slice bo bm bc)) (by kernel_rfl) (zHS.out _ zE0) (fun zH0 => ?_)
    obtain ⟨zv0, hv0⟩ : ∃ v, v = w4.drew := ⟨_, rfl⟩
    rw [← hv0] at zH0 zE0 ⊢
    clear hv0
    refine hr_take_w 0 (some 51) (.int .i64 0) rfl rfl (by kernel_rfl) (by kernel_rfl) (by kernel_rfl) rfl (fun W hW => by obtain ⟨h0, h1, h2⟩ := hW; go_simp) zH0 ?_
    simp only [FL]
    refine hr_take_w 1 (some 52) (.bool true) rfl rfl (by kernel_rfl) (by kernel_rfl) (by kernel_rfl) rfl (fun W hW => by obtain ⟨h0, h1, h2⟩ := hW; go_simp) zH0 ?_
    simp only [FL]
    refine hr_take_w 2 (some 53) (.bool true) rfl rfl (by kernel_rfl) (by kernel_rfl) (by kernel_rfl) rfl (fun W hW => by obtain ⟨h0, h1, h2⟩ := hW; go_simp) zH0 ?_
    simp only [FL]
    refine hr_take_w 3 (some 54) (.pointer (some ⟨p, 0, none⟩)) rfl rfl (by kernel_rfl) (by kernel_rfl) (by kernel_rfl) rfl (fun W hW => by obtain ⟨h0, h1, h2⟩ := hW; go_simp) zH0 ?_
    simp only [FL]
    refine hr_take_w 5 (some 56) (.pointer (some ⟨q, 2, none⟩)) rfl rfl (by kernel_rfl) (by kernel_rfl) (by kernel_rfl) rfl (fun W hW => by obtain ⟨h0, h1, h2⟩ := hW; go_simp) zH0 ?_
    simp only [FL]
    refine hr_take_w 6 (some 57) (.slice bo bm bc) rfl rfl (by kernel_rfl) (by kernel_rfl) (by kernel_rfl) rfl (fun W hW => by obtain ⟨h0, h1, h2⟩ := hW; go_simp) zH0 ?_
    simp only [FL]
    refine hr_call_w 4 (some 55) 17 #[.pointer (some ⟨p, 0, none⟩)] rfl rfl (by kernel_rfl) rfl (by go_simp) (fun v w' => ∃ co cn cc cl, v = .slice co cn cc ∧ (CL w' co cn cc cl ∧ cl.map CA.c = layAll [] cs) ∧ Below zv0.heap.size zv0 w') ((HCE.out zv0 zE0).mono (by
      rintro e w' ⟨co, cn, cc, cl, rfl, F, C⟩
      exact ⟨_, rfl, co, cn, cc, cl, rfl, F, C⟩)) ?_
    rintro v zv1 ⟨co, cn, cc, cl, rfl, zF0, zC0⟩
    have zE1 := zE0.trans (zC0.mono zE0.size)
    have zH1 := zHS.out zv1 zE1
    refine ⟨zH1, ?_⟩
    simp only [FL]
    obtain ⟨LC, hcl⟩ := zF0
    refine hr_call_w 7 (some 58) 16 #[.slice co cn cc, .slice bo bm bc] rfl rfl (by kernel_rfl) rfl (by go_simp) (fun v w' => v = .bool true ∧ Below zv1.heap.size zv1 w') ((HSM.out zv1 zE1 co cn cc cl LC hcl).mono (by
      rintro e w' ⟨rfl, C⟩
      exact ⟨_, rfl, rfl, C⟩)) ?_
    rintro v zv2 ⟨rfl, zC1⟩
    have zE2 := zE1.trans (zC1.mono zE1.size)
    have zH2 := zHS.out zv2 zE2
    refine ⟨zH2, ?_⟩
    simp only [FL]
    refine hr_take_w 8 (some 59) (.bool true) rfl rfl (by kernel_rfl) (by kernel_rfl) (by kernel_rfl) rfl (fun W hW => by obtain ⟨h0, h1, h2⟩ := hW; go_simp) zH2 ?_
    simp only [FL]
    refine hr_take_w 9 (some 60) (.bool true) rfl rfl (by kernel_rfl) (by kernel_rfl) (by kernel_rfl) rfl (fun W hW => by obtain ⟨h0, h1, h2⟩ := hW; go_simp) zH2 ?_
    simp only [FL]
    refine hr_take_w 10 (some 61) (.pointer (some ⟨p, 0, none⟩)) rfl rfl (by kernel_rfl) (by kernel_rfl) (by kernel_rfl) rfl (fun W hW => by obtain ⟨h0, h1, h2⟩ := hW; go_simp) zH2 ?_
    simp only [FL]
    refine hr_take_w 12 (some 63) (.agg #[.string f, .string t, .slice bo bm bc]) rfl rfl (by kernel_rfl) (by kernel_rfl) (by kernel_rfl) rfl (fun W hW => by obtain ⟨h0, h1, h2⟩ := hW; go_simp) zH2 ?_
    simp only [FL]
    refine hr_call_w 11 (some 62) 20 #[.pointer (some ⟨p, 0, none⟩)] rfl rfl (by kernel_rfl) rfl (by go_simp) (fun v w' => ∃ ro rc, v = .slice ro 32 rc ∧ Sl w' ro 32 rc (rootT f t (layAll [] cs)) ∧ Below zv2.heap.size zv2 w') ((HRT.out zv2 zE2).mono (by
      rintro e w' ⟨ro, rc, rfl, F, C⟩
      exact ⟨_, rfl, ro, rc, rfl, F, C⟩)) ?_
    rintro v zv3 ⟨ro, rc, rfl, zF2, zC2⟩
    have zE3 := zE2.trans (zC2.mono zE2.size)
    have zH3 := zHS.out zv3 zE3
    refine ⟨zH3, ?_⟩
    simp only [FL]
    refine hr_call_w 13 (some 64) 21 #[.agg #[.string f, .string t, .slice bo bm bc]] rfl rfl (by kernel_rfl) rfl (by go_simp) (fun v w' => ∃ so sc, v = .slice so 32 sc ∧ Sl w' so 32 sc (rootT f t (layAll [] cs)) ∧ Below zv3.heap.size zv3 w') ((HRR.out zv3 zE3).mono (by
      rintro e w' ⟨so, sc, rfl, F, C⟩
      exact ⟨_, rfl, so, sc, rfl, F, C⟩)) ?_
    rintro v zv4 ⟨so, sc, rfl, zF3, zC3⟩
    have zE4 := zE3.trans (zC3.mono zE3.size)
    have zH4 := zHS.out zv4 zE4
    have zF2 := zF2.below zC3
    refine ⟨zH4, ?_⟩
    simp only [FL]
    refine hr_call_w 14 (some 65) 19 #[.slice ro 32 rc, .slice so 32 sc] rfl rfl (by kernel_rfl) rfl (by go_simp) (fun v w' => v = .bool true ∧ Below zv4.heap.size zv4 w') ((same_true zv4 _ _ _ _ _ _ _ zF2 zF3).mono (by
      rintro e w' ⟨rfl, C⟩
      exact ⟨_, rfl, rfl, C⟩)) ?_
    rintro v zv5 ⟨rfl, zC4⟩
    have zE5 := zE4.trans (zC4.mono zE4.size)
    have zH5 := zHS.out zv5 zE5
    refine ⟨zH5, ?_⟩
    simp only [FL]
    refine hr_take_w 15 (some 66) (.bool true) rfl rfl (by kernel_rfl) (by kernel_rfl) (by kernel_rfl) rfl (fun W hW => by obtain ⟨h0, h1, h2⟩ := hW; go_simp) zH5 ?_
    simp only [FL]
    refine hr_take_w 16 (some 67) (.bool true) rfl rfl (by kernel_rfl) (by kernel_rfl) (by kernel_rfl) rfl (fun W hW => by obtain ⟨h0, h1, h2⟩ := hW; go_simp) zH5 ?_
    simp only [FL]
    refine hr_call_w 17 (some 68) 10 #[] rfl rfl (by kernel_rfl) rfl (by go_simp) (fun v w' => v = .bool true ∧ Below zv5.heap.size zv5 w') ((HAL.out zv5 (B4.trans (zE5.mono B4.size))).mono (by
      rintro e w' ⟨rfl, C⟩
      exact ⟨_, rfl, rfl, C⟩)) ?_
    rintro v zv6 ⟨rfl, zC5⟩
    have zE6 := zE5.trans (zC5.mono zE5.size)
    have zH6 := zHS.out zv6 zE6
    refine ⟨zH6, ?_⟩
    simp only [FL]
    refine hr_take_w 18 (some 69) (.bool true) rfl rfl (by kernel_rfl) (by kernel_rfl) (by kernel_rfl) rfl (fun W hW => by obtain ⟨h0, h1, h2⟩ := hW; go_simp) zH6 ?_
    simp only [FL]
    refine hr_take_w 19 (some 6) (.bool true) rfl rfl (by kernel_rfl) (by kernel_rfl) (by kernel_rfl) rfl (fun W hW => by obtain ⟨h0, h1, h2⟩ := hW; go_simp) zH6 ?_
    simp only [FL]
    refine wpAnyH_done (by kernel_rfl) ?_ _
    refine NoPanic.normal ?_
    go_wp2
    go_ret
    exact ⟨rfl, B4.trans (zE6.mono B4.size)⟩
end Go.Proofs.YthlpccajnmkbjaaGreatDoor

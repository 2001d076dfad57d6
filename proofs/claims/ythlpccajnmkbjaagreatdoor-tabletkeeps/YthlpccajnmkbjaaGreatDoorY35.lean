/-
  Texts in one: TbRow, TbDo, TbApply.
-/
import Derived.Test.YthlpccajnmkbjaaGreatDoorY34
import Derived.Test.YthlpccajnmkbjaaGreatDoorY5
import Derived.Test.YthlpccajnmkbjaaGreatDoorY18
namespace Go.Proofs.YthlpccajnmkbjaaGreatDoor
open Go.RowKit

set_option maxHeartbeats 1000000 in
theorem hasRow_any (w : World) (p : Nat) (f t r : ByteArray) (u : Option Addr) (h : TbC w p f t u) :
    Calls Tryz.prog 70 #[.pointer (some ⟨p, 0, none⟩), .string r] w fun e w' => e = .returned (.bool (inRows f t r)) ∧ w' = w := by
  have c0 : w.cell? ⟨p, 0, none⟩ = some (.string f) := Arr.cell h 0
  have c1 : w.cell? ⟨p, 1, none⟩ = some (.string t) := Arr.cell h 1
  clear h
  by_cases e1 : cmpL (sb r) (sb f) < 0
  · have HV : Hid (inRows f t r = false) := decide_eq_false fun h => h.1 e1
    have l1 : Op.bytesLess r.toList f.toList = true := by rw [less_sb]; exact decide_eq_true e1
    clear e1
    go_enter Tryz.func70, Tryz.ntmps70
    go_wp2
    go_ret
    exact ⟨by rw [HV.out] <;> rfl, rfl⟩
  have l1 : Op.bytesLess r.toList f.toList = false := by rw [less_sb]; exact decide_eq_false e1
  by_cases hz : t.size = 0
  · have HV : Hid (inRows f t r = true) := decide_eq_true ⟨e1, .inl hz⟩
    have e0 : (t.toList == (ByteArray.mk #[]).toList) = true := by rw [empty_of hz]; simp
    have ee : t.toList.isEmpty = true := by rw [toE]; exact decide_eq_true hz
    clear e1 hz
    go_enter Tryz.func70, Tryz.ntmps70
    go_wp2
    go_ret
    exact ⟨by rw [HV.out] <;> rfl, rfl⟩
  have e0 : (t.toList == (ByteArray.mk #[]).toList) = false := toL_ne (fun h => hz (by rw [h]; rfl))
  have e1' : (t.toList == []) = false := by rw [← e0]; congr 1; simp
  have ee : t.toList.isEmpty = false := by rw [toE]; exact decide_eq_false hz
  by_cases e2 : cmpL (sb r) (sb t) < 0
  · have HV : Hid (inRows f t r = true) := decide_eq_true ⟨e1, .inr e2⟩
    have l2 : Op.bytesLess r.toList t.toList = true := by rw [less_sb]; exact decide_eq_true e2
    clear e1 e2 hz
    go_enter Tryz.func70, Tryz.ntmps70
    go_wp2
    go_ret
    exact ⟨by rw [HV.out] <;> rfl, rfl⟩
  · have HV : Hid (inRows f t r = false) := decide_eq_false fun h => h.2.elim hz e2
    have l2 : Op.bytesLess r.toList t.toList = false := by rw [less_sb]; exact decide_eq_false e2
    clear e1 e2 hz
    go_enter Tryz.func70, Tryz.ntmps70
    go_wp2
    go_ret
    exact ⟨by rw [HV.out] <;> rfl, rfl⟩

/-- May these be bounds? -/
def newK (f t : ByteArray) : Int := if f.size ≤ 32 ∧ t.size ≤ 32 ∧ (t.size = 0 ∨ cmpL (sb f) (sb t) < 0) then 0 else 1
/-- What New answers. -/
def NewPost (w : World) (f t : ByteArray) (e : Ending) (w' : World) : Prop :=
  (newK f t = 0 ∧ e = .returned (.tuple #[.pointer (some ⟨w.heap.size, 0, none⟩), .int .i64 0]) ∧ TB w' w.heap.size f t [] ∧ Below w.heap.size w w') ∨ (newK f t = 1 ∧ e = .returned (.tuple #[.pointer none, .int .i64 1]) ∧ w' = w)
theorem newOk (f t : ByteArray) (h : f.size ≤ 32 ∧ t.size ≤ 32 ∧ (t.size = 0 ∨ cmpL (sb f) (sb t) < 0)) : newK f t = 0 := if_pos h
theorem TB.new (w : World) (f t : ByteArray) : TB (w.alloc (.cells #[.string f, .string t, .pointer none] 79)) w.heap.size f t [] := ⟨none, heap_alloc_new w _, TT.nil _⟩

set_option maxHeartbeats 1000000 in
theorem tnew_any (w : World) (f t : ByteArray) (hf : f.size ≤ 1000000) (ht : t.size ≤ 1000000) : Calls Tryz.prog 11 #[.string f, .string t] w (NewPost w f t) := by
  have hfi : (f.size : Int) ≤ 1000000 := by omega
  have hti : (t.size : Int) ≤ 1000000 := by omega
  have X := TB.new w f t
  have B : Below w.heap.size w (w.alloc (.cells #[.string f, .string t, .pointer none] 79)) := (Below.refl _ _).alloc (Nat.le_refl _) _
  by_cases g1 : f.size ≤ 32
  case neg =>
    have i1 : (32 : Int) < (f.size : Int) := by omega
    have HV : Hid (newK f t = 1) := by show _ = _; unfold newK; rw [if_neg (fun h => g1 h.1)]
    go_enter Tryz.func11, Tryz.ntmps11
    go_wp2
    go_ret2
    exact .inr ⟨HV.out, rfl, rfl⟩
  have i1 : (f.size : Int) ≤ 32 := by omega
  by_cases g2 : t.size ≤ 32
  case neg =>
    have i2 : (32 : Int) < (t.size : Int) := by omega
    have HV : Hid (newK f t = 1) := by show _ = _; unfold newK; rw [if_neg (fun h => g2 h.2.1)]
    go_enter Tryz.func11, Tryz.ntmps11
    go_wp2
    go_ret2
    exact .inr ⟨HV.out, rfl, rfl⟩
  have i2 : (t.size : Int) ≤ 32 := by omega
  by_cases hz : t.size = 0
  · have HV : Hid (newK f t = 0) := newOk f t ⟨g1, g2, .inl hz⟩
    have e0 : (t.toList == (ByteArray.mk #[]).toList) = true := by rw [empty_of hz]; simp
    have ee : t.toList.isEmpty = true := by rw [toE]; exact decide_eq_true hz
    clear hz
    go_enter Tryz.func11, Tryz.ntmps11
    go_wp2
    go_ret2
    exact .inl ⟨HV.out, rfl, X, B⟩
  have e0 : (t.toList == (ByteArray.mk #[]).toList) = false := toL_ne (fun h => hz (by rw [h]; rfl))
  have e1' : (t.toList == []) = false := by rw [← e0]; congr 1; simp
  have ee : t.toList.isEmpty = false := by rw [toE]; exact decide_eq_false hz
  by_cases e2 : cmpL (sb f) (sb t) < 0
  · have HV : Hid (newK f t = 0) := newOk f t ⟨g1, g2, .inr e2⟩
    have l2 : Op.bytesLess t.toList f.toList = false := by rw [less_sb]; exact decide_eq_false (cmpL_asym e2)
    have l3 : (t.toList == f.toList) = false := toL_ne fun h => by rw [h] at e2; exact cmpL_irr _ e2
    have l4 : Op.bytesLess f.toList t.toList = true := by rw [less_sb]; exact decide_eq_true e2
    clear e2 hz
    go_enter Tryz.func11, Tryz.ntmps11
    go_wp2
    go_ret2
    exact .inl ⟨HV.out, rfl, X, B⟩
  · have l4 : Op.bytesLess f.toList t.toList = false := by rw [less_sb]; exact decide_eq_false e2
    have l5 : (Op.bytesLess t.toList f.toList || t.toList == f.toList) = true := by
      rw [less_sb]
      rcases cmpL_total (sb t) (sb f) with h | h | h
      · rw [decide_eq_true h]; rfl
      · rw [sb_inj h]; simp
      · exact absurd h e2
    have HV : Hid (newK f t = 1) := by show _ = _; unfold newK; rw [if_neg (fun h => h.2.2.elim hz e2)]
    go_enter Tryz.func11, Tryz.ntmps11
    go_wp2
    go_ret2
    exact .inr ⟨HV.out, rfl, rfl⟩
end Go.Proofs.YthlpccajnmkbjaaGreatDoor

namespace Go.Proofs.YthlpccajnmkbjaaGreatDoor
open Go.RowKit

/-- What do leaves. -/
def DoPost (w : World) (p : Nat) (f t : ByteArray) (r : List CV × RV) (e : Ending) (w' : World) : Prop := ResP r.2 e w' ∧ TB w' p f t r.1 ∧ Wr p w w'
/-- The cell that an operation puts. -/
def OA.cell (o : OA) : CA := ⟨o.row, o.fam, o.qual, o.time, o.va, false⟩
theorem ResP.wr {w w' : World} {p : Nat} {x y z : Value} {r : RV} {e : Ending} (h : Arr w p 34 [x, y, z]) (hx : ∀ s, x ≠ .int .u8 s) (hx2 : ∀ s, x ≠ .string s) (hy : ∀ s, y ≠ .int .u8 s) (hy2 : ∀ s, y ≠ .string s) (hz : ∀ s, z ≠ .int .u8 s) (hz2 : ∀ s, z ≠ .string s) (k : Wr p w w') (S : ResP r e w) : ResP r e w' := by
  obtain ⟨ao, n, cap, l, he, hc, hl⟩ := S
  exact ⟨ao, n, cap, l, he, hc.wr h hx hx2 hy hy2 hz hz2 k, hl⟩

set_option maxHeartbeats 2000000 in
set_option maxRecDepth 100000 in
theorem do_put (w : World) (p : Nat) (f t : ByteArray) (cs : List CV) (o : OA) (hk : o.kind = 1) (hTb : Tabs w) (hT : TB w p f t cs) (hs : CSrt cs) (hg : CGood cs) (hn : cs.length ≤ 900) (hok : o.ok w) (hgd : o.cell.c.good) :
    Calls Tryz.prog 48 #[.pointer (some ⟨p, 0, none⟩), o.val] w (DoPost w p f t ((mPut cs o.cell.c).1, ⟨(mPut cs o.cell.c).2, [], false⟩)) := by
  have t2 := hTb.two
  obtain ⟨W1, hW1⟩ : ∃ V, V = w.alloc (.cells #[.int .i64 o.kind, .string o.row, .string o.fam, .string o.qual, .int .u64 o.time, .string o.to, .slice o.va.ao o.va.n o.va.cap, .slice o.wa.ao o.wa.n o.wa.cap, .bool o.has, .slice o.so o.sn o.sc] 42) := ⟨_, rfl⟩
  obtain ⟨W2, hW2⟩ : ∃ V, V = W1.alloc (.cells #[.int .i64 0, .slice none 0 0, .bool false] 34) := ⟨_, rfl⟩
  have C1 : Below w.heap.size w W1 := by rw [hW1]; exact (Below.refl _ _).alloc (Nat.le_refl _) _
  have C2 : Below W1.heap.size W1 W2 := by rw [hW2]; exact (Below.refl _ _).alloc (Nat.le_refl _) _
  have B2 := C1.trans (C2.mono C1.size)
  have s1 : W1.heap.size = w.heap.size + 1 := by rw [hW1]; exact Array.size_push ..
  have O1 : OC W1 w.heap.size o := by rw [hW1]; exact OC.new w o
  have O2 := O1.keep C2
  have R2 : Arr W2 (w.heap.size + 1) 34 [.int .i64 0, .slice none 0 0, .bool false] := by rw [hW2, ← s1]; exact heap_alloc_new W1 _
  have hp := hT.lt
  have hvn : o.va.n ≤ 100000 := by rw [← hok.va.len]; have := hgd.val; show o.cell.c.value.length ≤ _; omega
  have CP := put_any W2 p f t cs o.cell (hTb.below B2 t2) (hT.below B2) hs hg hn ⟨hok.row, hok.fam, hok.qual, hok.time, hok.va.below B2⟩ hgd hvn
  rw [show o.cell.val = .agg #[.string o.row, .string o.fam, .string o.qual, .int .u64 o.time, .slice o.va.ao o.va.n o.va.cap, .bool false] from rfl] at CP
  have k1 : (o.kind == 1) = true := by simp [hk]
  have k2 : (o.kind == 2) = false := by simp [hk]
  have k3 : (o.kind == 3) = false := by simp [hk]
  have k4 : (o.kind == 4) = false := by simp [hk]
  have k5 : (o.kind == 5) = false := by simp [hk]
  have k6 : (o.kind == 6) = false := by simp [hk]
  have k7 : (o.kind == 7) = false := by simp [hk]
  obtain ⟨m, hm⟩ : ∃ m, m = mPut cs o.cell.c := ⟨_, rfl⟩
  rw [← hm] at CP ⊢
  clear hm hk
  unfold OA.val
  go_enter Tryz.func48, Tryz.ntmps48
  go_wp2_with fail
  rw [← hW1, ← hW2]
  clear hW1 hW2 s1
  refine CP.mono ?_
  rintro e w3 ⟨rfl, X3, K3⟩
  have R3 : Arr w3 (w.heap.size + 1) 34 [.int .i64 0, .slice none 0 0, .bool false] := (K3.block _ R2.lt (by omega)).trans R2
  have K3' := (Wr.of (p := p) B2).trans K3
  have CB := only_any w3 m.2
  unfold resV at CB
  clear CP R2
  go_wp2_with fail
  refine CB.mono ?_
  rintro e w4 ⟨rfl, C4⟩
  have R4 := arr_below R3 C4
  have X4 := X3.below C4
  have K4 := K3'.trans (Wr.of C4)
  have r0 : w4.cell? ⟨w.heap.size + 1, 0, none⟩ = some (.int .i64 0) := R4.cell 0
  have f0 := R4.free 0
  have r1 : w4.cell? ⟨w.heap.size + 1, 1, none⟩ = some (.slice none 0 0) := R4.cell 1
  have f1 := R4.free 1
  have r2 : w4.cell? ⟨w.heap.size + 1, 2, none⟩ = some (.bool false) := R4.cell 2
  have f2 := R4.free 2
  have lt := R4.lt
  clear CB R3 X3
  have KW : Wr (w.heap.size + 1) w4 (((w4.setCell ⟨w.heap.size + 1, 0, none⟩ (.int .i64 m.2)).setCell ⟨w.heap.size + 1, 1, none⟩ (.slice none 0 0)).setCell ⟨w.heap.size + 1, 2, none⟩ (.bool false)) := (((Wr.refl _ _).set 0 _).set 1 _).set 2 _
  go_wp2
  exact bodyPost_ret (v := .agg #[.int .i64 m.2, .slice none 0 0, .bool false]) (by simp [results, Tryz.results48, go_sem, r0, r1, r2]) rfl ⟨ResP.bad m.2 _, TB.dull R4 (Dull.res _ _) KW (by omega) X4, K4.new KW (Nat.le_succ _)⟩

set_option maxHeartbeats 2000000 in
set_option maxRecDepth 100000 in
theorem do_get (w : World) (p : Nat) (f t : ByteArray) (cs : List CV) (o : OA) (hk : o.kind = 7) (hT : TB w p f t cs) (hs : CSrt cs) (hg : CGood cs) (hn : cs.length ≤ 1000) (hr : o.row.size ≤ 32) :
    Calls Tryz.prog 48 #[.pointer (some ⟨p, 0, none⟩), o.val] w (DoPost w p f t (cs, mGet cs o.key)) := by
  obtain ⟨W1, hW1⟩ : ∃ V, V = w.alloc (.cells #[.int .i64 o.kind, .string o.row, .string o.fam, .string o.qual, .int .u64 o.time, .string o.to, .slice o.va.ao o.va.n o.va.cap, .slice o.wa.ao o.wa.n o.wa.cap, .bool o.has, .slice o.so o.sn o.sc] 42) := ⟨_, rfl⟩
  obtain ⟨W2, hW2⟩ : ∃ V, V = W1.alloc (.cells #[.int .i64 0, .slice none 0 0, .bool false] 34) := ⟨_, rfl⟩
  have C1 : Below w.heap.size w W1 := by rw [hW1]; exact (Below.refl _ _).alloc (Nat.le_refl _) _
  have C2 : Below W1.heap.size W1 W2 := by rw [hW2]; exact (Below.refl _ _).alloc (Nat.le_refl _) _
  have B2 := C1.trans (C2.mono C1.size)
  have s1 : W1.heap.size = w.heap.size + 1 := by rw [hW1]; exact Array.size_push ..
  have O1 : OC W1 w.heap.size o := by rw [hW1]; exact OC.new w o
  have O2 := O1.keep C2
  have R2 : Arr W2 (w.heap.size + 1) 34 [.int .i64 0, .slice none 0 0, .bool false] := by rw [hW2, ← s1]; exact heap_alloc_new W1 _
  have hp := hT.lt
  have CP := get_any W2 p f t cs o.key (hT.below B2) hs hg hn hr
  rw [show o.key.val = .agg #[.string o.row, .string o.fam, .string o.qual, .int .u64 o.time] from rfl] at CP
  have k1 : (o.kind == 1) = false := by simp [hk]
  have k2 : (o.kind == 2) = false := by simp [hk]
  have k3 : (o.kind == 3) = false := by simp [hk]
  have k4 : (o.kind == 4) = false := by simp [hk]
  have k5 : (o.kind == 5) = false := by simp [hk]
  have k6 : (o.kind == 6) = false := by simp [hk]
  have k7 : (o.kind == 7) = true := by simp [hk]
  clear hk
  obtain ⟨m, hm⟩ : ∃ m, m = mGet cs o.key := ⟨_, rfl⟩
  rw [← hm] at CP ⊢
  clear hm
  unfold OA.val
  go_enter Tryz.func48, Tryz.ntmps48
  go_wp2_with fail
  rw [← hW1, ← hW2]
  clear hW1 hW2 s1
  refine CP.mono ?_
  rintro e w3 ⟨⟨ao, n, cap, l, rfl, L3, hl⟩, C3⟩
  have R3 := arr_below R2 C3
  have B3 := B2.trans (C3.mono B2.size)
  unfold resV
  have r0 : w3.cell? ⟨w.heap.size + 1, 0, none⟩ = some (.int .i64 0) := R3.cell 0
  have f0 := R3.free 0
  have r1 : w3.cell? ⟨w.heap.size + 1, 1, none⟩ = some (.slice none 0 0) := R3.cell 1
  have f1 := R3.free 1
  have r2 : w3.cell? ⟨w.heap.size + 1, 2, none⟩ = some (.bool false) := R3.cell 2
  have f2 := R3.free 2
  have lt := R3.lt
  have KW : Wr (w.heap.size + 1) w3 (((w3.setCell ⟨w.heap.size + 1, 0, none⟩ (.int .i64 m.e)).setCell ⟨w.heap.size + 1, 1, none⟩ (.slice ao n cap)).setCell ⟨w.heap.size + 1, 2, none⟩ (.bool m.more)) := (((Wr.refl _ _).set 0 _).set 1 _).set 2 _
  clear CP R2
  go_wp2
  exact bodyPost_ret (v := .agg #[.int .i64 m.e, .slice ao n cap, .bool m.more]) (by simp [results, Tryz.results48, go_sem, r0, r1, r2]) rfl ⟨⟨ao, n, cap, l, rfl, L3.wr R3 (by simp) (by simp) (by simp) (by simp) (by simp) (by simp) KW, hl⟩, TB.dull R3 (Dull.res _ _) KW (by omega) (hT.below B3), (Wr.of B3).new KW (Nat.le_succ _)⟩
end Go.Proofs.YthlpccajnmkbjaaGreatDoor

namespace Go.Proofs.YthlpccajnmkbjaaGreatDoor
open Go.RowKit

set_option maxHeartbeats 1000000 in
set_option maxRecDepth 100000 in
theorem isout_row (w : World) (p : Nat) (f t : ByteArray) (u : Option Addr) (o : OA) (h : TbC w p f t u) (hk : o.kind ≠ 8) :
    Calls Tryz.prog 47 #[.pointer (some ⟨p, 0, none⟩), o.val] w fun e w' => e = .returned (.bool (!(inRows f t o.row))) ∧ Below w.heap.size w w' := by
  obtain ⟨W1, hW1⟩ : ∃ V, V = w.alloc (.cells #[.int .i64 o.kind, .string o.row, .string o.fam, .string o.qual, .int .u64 o.time, .string o.to, .slice o.va.ao o.va.n o.va.cap, .slice o.wa.ao o.wa.n o.wa.cap, .bool o.has, .slice o.so o.sn o.sc] 42) := ⟨_, rfl⟩
  have C1 : Below w.heap.size w W1 := by rw [hW1]; exact (Below.refl _ _).alloc (Nat.le_refl _) _
  have k8 : (o.kind != 8) = true := by simp [hk]
  have CH := hasRow_any W1 p f t o.row u (arr_below h C1)
  obtain ⟨b, hb⟩ : ∃ b, b = inRows f t o.row := ⟨_, rfl⟩
  rw [← hb] at CH ⊢
  clear hb hk
  unfold OA.val
  go_enter Tryz.func47, Tryz.ntmps47
  go_wp2_with fail
  rw [← hW1]
  clear hW1
  refine CH.mono ?_
  rintro e w2 ⟨rfl, hw⟩
  obtain rfl := hw.symm
  go_wp2
  go_ret
  exact ⟨rfl, C1⟩

/-- What Apply leaves of what do did. -/
def keepM (cs : List CV) (r : List CV × RV) : List CV := if r.2.e = 0 then r.1 else cs

set_option maxHeartbeats 4000000 in
set_option maxRecDepth 100000 in
theorem apply_any (w : World) (p : Nat) (f t : ByteArray) (cs : List CV) (o : OA) (l : List OA) (r : List CV × RV) (hT : TB w p f t cs) (hok : o.ok w) (hs : OWL w 0 o.so o.sn o.sc l) (hr : rightO o.s (l.map sn0) = true)
    (hout : ∀ V u, Below w.heap.size w V → TbC V p f t u → Calls Tryz.prog 47 #[.pointer (some ⟨p, 0, none⟩), o.val] V fun e w' => e = .returned (.bool false) ∧ Below V.heap.size V w')
    (hdo : ∀ V, Below w.heap.size w V → Calls Tryz.prog 48 #[.pointer (some ⟨p, 0, none⟩), o.val] V (DoPost V p f t r)) :
    Calls Tryz.prog 15 #[.pointer (some ⟨p, 0, none⟩), o.val] w (DoPost w p f t (keepM cs r, r.2)) := by
  obtain ⟨W1, hW1⟩ : ∃ V, V = w.alloc (.cells #[.int .i64 o.kind, .string o.row, .string o.fam, .string o.qual, .int .u64 o.time, .string o.to, .slice o.va.ao o.va.n o.va.cap, .slice o.wa.ao o.wa.n o.wa.cap, .bool o.has, .slice o.so o.sn o.sc] 42) := ⟨_, rfl⟩
  obtain ⟨W2, hW2⟩ : ∃ V, V = W1.alloc (.cells #[.int .i64 0, .slice none 0 0, .bool false] 34) := ⟨_, rfl⟩
  have C1 : Below w.heap.size w W1 := by rw [hW1]; exact (Below.refl _ _).alloc (Nat.le_refl _) _
  have C2 : Below W1.heap.size W1 W2 := by rw [hW2]; exact (Below.refl _ _).alloc (Nat.le_refl _) _
  have B2 := C1.trans (C2.mono C1.size)
  have s1 : W1.heap.size = w.heap.size + 1 := by rw [hW1]; exact Array.size_push ..
  have O1 : OC W1 w.heap.size o := by rw [hW1]; exact OC.new w o
  have O2 := O1.keep C2
  have R2 : Arr W2 (w.heap.size + 1) 34 [.int .i64 0, .slice none 0 0, .bool false] := by rw [hW2, ← s1]; exact heap_alloc_new W1 _
  have hp := hT.lt
  have CR := pRight_any W2 o l (hok.below B2) (hs.below B2)
  rw [hr] at CR
  unfold OA.val at CR hout hdo ⊢
  have o0 : W2.cell? ⟨w.heap.size, 0, none⟩ = some (.int .i64 o.kind) := O2.cs.c0
  have o1 : W2.cell? ⟨w.heap.size, 1, none⟩ = some (.string o.row) := O2.cs.c1
  have o2 : W2.cell? ⟨w.heap.size, 2, none⟩ = some (.string o.fam) := O2.cs.c2
  have o3 : W2.cell? ⟨w.heap.size, 3, none⟩ = some (.string o.qual) := O2.cs.c3
  have o4 : W2.cell? ⟨w.heap.size, 4, none⟩ = some (.int .u64 o.time) := O2.cs.c4
  have o5 : W2.cell? ⟨w.heap.size, 5, none⟩ = some (.string o.to) := O2.cs.c5
  have o6 : W2.cell? ⟨w.heap.size, 6, none⟩ = some (.slice o.va.ao o.va.n o.va.cap) := O2.cs.c6
  have o7 : W2.cell? ⟨w.heap.size, 7, none⟩ = some (.slice o.wa.ao o.wa.n o.wa.cap) := O2.cs.c7
  have o8 : W2.cell? ⟨w.heap.size, 8, none⟩ = some (.bool o.has) := O2.cs.c8
  have o9 : W2.cell? ⟨w.heap.size, 9, none⟩ = some (.slice o.so o.sn o.sc) := O2.cs.c9
  have HOUT : Hid (∀ V u, Below w.heap.size w V → TbC V p f t u → Calls Tryz.prog 47 #[.pointer (some ⟨p, 0, none⟩), .agg #[.int .i64 o.kind, .string o.row, .string o.fam, .string o.qual, .int .u64 o.time, .string o.to, .slice o.va.ao o.va.n o.va.cap, .slice o.wa.ao o.wa.n o.wa.cap, .bool o.has, .slice o.so o.sn o.sc]] V fun e w' => e = .returned (.bool false) ∧ Below V.heap.size V w') := hout
  have HDO : Hid (∀ V, Below w.heap.size w V → Calls Tryz.prog 48 #[.pointer (some ⟨p, 0, none⟩), .agg #[.int .i64 o.kind, .string o.row, .string o.fam, .string o.qual, .int .u64 o.time, .string o.to, .slice o.va.ao o.va.n o.va.cap, .slice o.wa.ao o.wa.n o.wa.cap, .bool o.has, .slice o.so o.sn o.sc]] V (DoPost V p f t r)) := hdo
  clear hout hdo hs hok hr
  go_enter Tryz.func15, Tryz.ntmps15
  go_wp2_with fail
  rw [← hW1, ← hW2]
  clear hW1 hW2 s1
  refine CR.mono ?_
  rintro e w3 ⟨rfl, C3⟩
  rw [show kindO true = 0 from rfl]
  have B3 := B2.trans (C3.mono B2.size)
  have R3 := arr_below R2 C3
  have O3 := O2.keep C3
  obtain ⟨u, A3, T3⟩ := hT.below B3
  have CO := HOUT.out w3 u B3 A3
  clear o0 o1 o2 o3 o4 o5 o6 o7 o8 o9
  have o0 : w3.cell? ⟨w.heap.size, 0, none⟩ = some (.int .i64 o.kind) := O3.cs.c0
  have o1 : w3.cell? ⟨w.heap.size, 1, none⟩ = some (.string o.row) := O3.cs.c1
  have o2 : w3.cell? ⟨w.heap.size, 2, none⟩ = some (.string o.fam) := O3.cs.c2
  have o3 : w3.cell? ⟨w.heap.size, 3, none⟩ = some (.string o.qual) := O3.cs.c3
  have o4 : w3.cell? ⟨w.heap.size, 4, none⟩ = some (.int .u64 o.time) := O3.cs.c4
  have o5 : w3.cell? ⟨w.heap.size, 5, none⟩ = some (.string o.to) := O3.cs.c5
  have o6 : w3.cell? ⟨w.heap.size, 6, none⟩ = some (.slice o.va.ao o.va.n o.va.cap) := O3.cs.c6
  have o7 : w3.cell? ⟨w.heap.size, 7, none⟩ = some (.slice o.wa.ao o.wa.n o.wa.cap) := O3.cs.c7
  have o8 : w3.cell? ⟨w.heap.size, 8, none⟩ = some (.bool o.has) := O3.cs.c8
  have o9 : w3.cell? ⟨w.heap.size, 9, none⟩ = some (.slice o.so o.sn o.sc) := O3.cs.c9
  clear CR R2 O2 C3
  go_wp2_with fail
  refine CO.mono ?_
  rintro e w4 ⟨rfl, C4⟩
  have B4 := B3.trans (C4.mono B3.size)
  have R4 := arr_below R3 C4
  have O4 := O3.keep C4
  have A4 : TbC w4 p f t u := arr_below A3 C4
  have T4 := T3.below C4
  have u4 : w4.cell? ⟨p, 2, none⟩ = some (.pointer u) := Arr.cell A4 2
  have CD := HDO.out w4 B4
  clear o0 o1 o2 o3 o4 o5 o6 o7 o8 o9
  have o0 : w4.cell? ⟨w.heap.size, 0, none⟩ = some (.int .i64 o.kind) := O4.cs.c0
  have o1 : w4.cell? ⟨w.heap.size, 1, none⟩ = some (.string o.row) := O4.cs.c1
  have o2 : w4.cell? ⟨w.heap.size, 2, none⟩ = some (.string o.fam) := O4.cs.c2
  have o3 : w4.cell? ⟨w.heap.size, 3, none⟩ = some (.string o.qual) := O4.cs.c3
  have o4 : w4.cell? ⟨w.heap.size, 4, none⟩ = some (.int .u64 o.time) := O4.cs.c4
  have o5 : w4.cell? ⟨w.heap.size, 5, none⟩ = some (.string o.to) := O4.cs.c5
  have o6 : w4.cell? ⟨w.heap.size, 6, none⟩ = some (.slice o.va.ao o.va.n o.va.cap) := O4.cs.c6
  have o7 : w4.cell? ⟨w.heap.size, 7, none⟩ = some (.slice o.wa.ao o.wa.n o.wa.cap) := O4.cs.c7
  have o8 : w4.cell? ⟨w.heap.size, 8, none⟩ = some (.bool o.has) := O4.cs.c8
  have o9 : w4.cell? ⟨w.heap.size, 9, none⟩ = some (.slice o.so o.sn o.sc) := O4.cs.c9
  clear CO R3 O3 C4 A3 T3
  go_wp2_with fail
  refine CD.mono ?_
  rintro e w5 ⟨⟨ao, n, cap, cl, rfl, L5, hcl⟩, X5, K5⟩
  have hw4 := B4.size
  have R5 : Arr w5 (w.heap.size + 1) 34 [.int .i64 0, .slice none 0 0, .bool false] := (K5.block _ R4.lt (by omega)).trans R4
  have K5' := (Wr.of (p := p) B4).trans K5
  unfold resV
  clear o0 o1 o2 o3 o4 o5 o6 o7 o8 o9
  clear CD R4 O4
  by_cases hz : r.2.e = 0
  · have z0 : (r.2.e != 0) = false := by simp [hz]
    have HZ : Hid (keepM cs r = r.1) := if_pos hz
    clear hz u4
    have r0 : w5.cell? ⟨w.heap.size + 1, 0, none⟩ = some (.int .i64 0) := R5.cell 0
    have f0 := R5.free 0
    have r1 : w5.cell? ⟨w.heap.size + 1, 1, none⟩ = some (.slice none 0 0) := R5.cell 1
    have f1 := R5.free 1
    have r2 : w5.cell? ⟨w.heap.size + 1, 2, none⟩ = some (.bool false) := R5.cell 2
    have f2 := R5.free 2
    have lt := R5.lt
    have KW : Wr (w.heap.size + 1) w5 (((w5.setCell ⟨w.heap.size + 1, 0, none⟩ (.int .i64 r.2.e)).setCell ⟨w.heap.size + 1, 1, none⟩ (.slice ao n cap)).setCell ⟨w.heap.size + 1, 2, none⟩ (.bool r.2.more)) := (((Wr.refl _ _).set 0 _).set 1 _).set 2 _
    go_wp2
    exact bodyPost_ret (v := .agg #[.int .i64 r.2.e, .slice ao n cap, .bool r.2.more]) (by simp [results, Tryz.results15, go_sem, r0, r1, r2, lt]) rfl ⟨⟨ao, n, cap, cl, rfl, (L5.wr R5 (by simp) (by simp) (by simp) (by simp) (by simp) (by simp) KW).below ((Below.refl _ _).alloc (Nat.le_refl _) _), hcl⟩, by rw [HZ.out]; exact (TB.dull R5 (Dull.res _ _) KW (by omega) X5).below ((Below.refl _ _).alloc (Nat.le_refl _) _), (K5'.new KW (Nat.le_succ _)).alloc _⟩
  · have z0 : (r.2.e != 0) = true := by simp [hz]
    have HZ : Hid (keepM cs r = cs) := if_neg hz
    clear hz u4
    have T5 := T4.tb A4 K5
    obtain ⟨u5, A5, -⟩ := X5
    have g2 : w5.cell? ⟨p, 2, none⟩ = some (.pointer u5) := Arr.cell A5 2
    have gf := Arr.free A5 2
    obtain ⟨w6, hw6⟩ : ∃ V, V = w5.setCell ⟨p, 2, none⟩ (.pointer u) := ⟨_, rfl⟩
    have KP : Wr p w5 w6 := by rw [hw6]; exact (Wr.refl _ _).set 2 _
    have s6 : w6.heap.size = w5.heap.size := by rw [hw6]; simp
    have X6 : TB w6 p f t cs := ⟨u, by rw [hw6]; exact Arr.set A5 2 (.pointer u), T5.tb A5 KP⟩
    have R6 : Arr w6 (w.heap.size + 1) 34 [.int .i64 0, .slice none 0 0, .bool false] := (KP.block _ R5.lt (by omega)).trans R5
    have L6 := L5.tb A5 KP
    have r0 : w6.cell? ⟨w.heap.size + 1, 0, none⟩ = some (.int .i64 0) := R6.cell 0
    have f0 := R6.free 0
    have r1 : w6.cell? ⟨w.heap.size + 1, 1, none⟩ = some (.slice none 0 0) := R6.cell 1
    have f1 := R6.free 1
    have r2 : w6.cell? ⟨w.heap.size + 1, 2, none⟩ = some (.bool false) := R6.cell 2
    have f2 := R6.free 2
    have lt := R6.lt
    have KW : Wr (w.heap.size + 1) w6 (((w6.setCell ⟨w.heap.size + 1, 0, none⟩ (.int .i64 r.2.e)).setCell ⟨w.heap.size + 1, 1, none⟩ (.slice ao n cap)).setCell ⟨w.heap.size + 1, 2, none⟩ (.bool r.2.more)) := (((Wr.refl _ _).set 0 _).set 1 _).set 2 _
    have hR5 := R5.lt
    have r0' : w5.cell? ⟨w.heap.size + 1, 0, none⟩ = some (.int .i64 0) := R5.cell 0
    have r1' : w5.cell? ⟨w.heap.size + 1, 1, none⟩ = some (.slice none 0 0) := R5.cell 1
    have r2' : w5.cell? ⟨w.heap.size + 1, 2, none⟩ = some (.bool false) := R5.cell 2
    have f0' := R5.free 0
    have f1' := R5.free 1
    have f2' := R5.free 2
    have hpR : p ≠ w.heap.size + 1 := by omega
    have hp5 : p < w5.heap.size := Arr.lt A5
    go_wp2
    rw [← hw6]
    exact bodyPost_ret (v := .agg #[.int .i64 r.2.e, .slice ao n cap, .bool r.2.more]) (by simp [results, Tryz.results15, go_sem, r0, r1, r2, lt]) rfl ⟨⟨ao, n, cap, cl, rfl, (L6.wr R6 (by simp) (by simp) (by simp) (by simp) (by simp) (by simp) KW).below ((Below.refl _ _).alloc (Nat.le_refl _) _), hcl⟩, by rw [HZ.out]; exact (TB.dull R6 (Dull.res _ _) KW (by omega) X6).below ((Below.refl _ _).alloc (Nat.le_refl _) _), ((K5'.trans KP).new KW (Nat.le_succ _)).alloc _⟩
end Go.Proofs.YthlpccajnmkbjaaGreatDoor

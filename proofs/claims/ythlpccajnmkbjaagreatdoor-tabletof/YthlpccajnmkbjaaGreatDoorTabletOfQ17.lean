/-
  Texts in one: TbPut, TbGet, Less, TbRow, TbJudge, TbStand.
-/
import Derived.Test.YthlpccajnmkbjaaGreatDoorTabletOfQ12
import Derived.Test.YthlpccajnmkbjaaGreatDoorTabletOfQ16
import Derived.Test.YthlpccajnmkbjaaGreatDoorTabletOfQ0
import Derived.Test.YthlpccajnmkbjaaGreatDoorTabletOfQ8
namespace Go.Proofs.YthlpccajnmkbjaaGreatDoor
open Go.RowKit
def CV.ky (c : CV) : KA := ⟨c.row, c.fam, c.qual, c.time⟩
def mPut (cs : List CV) (c : CV) : List CV × Int :=
  if (colC c.ky cs).any (eqK c.ky) = false ∧ (colC c.ky cs).length < 4 ∧ 32 ≤ cs.length then (cs, 9)
  else match (colC c.ky (cIns cs c)).getLast? with
    | none => (cIns cs c, 0)
    | some x => if 4 < (colC c.ky (cIns cs c)).length then (cDel (cIns cs c) x.kv, 0) else (cIns cs c, 0)
def NotFull (cs : List CV) (c : CV) : Prop := ¬ ((colC c.ky cs).any (eqK c.ky) = false ∧ (colC c.ky cs).length < 4 ∧ 32 ≤ cs.length)
theorem mPut_is9 {cs : List CV} {c : CV} (h : (colC c.ky cs).any (eqK c.ky) = false ∧ (colC c.ky cs).length < 4 ∧ 32 ≤ cs.length) : mPut cs c = (cs, 9) := by
  unfold mPut
  rw [if_pos h]
theorem mPut_few {cs : List CV} {c : CV} (h : NotFull cs c) {l2 : List CV} (e : l2 = colC c.ky (cIns cs c)) (hl : ¬ 4 < l2.length) : mPut cs c = (cIns cs c, 0) := by
  unfold mPut
  rw [if_neg h, ← e]
  cases l2.getLast? with
  | none => rfl
  | some x => simp only; rw [if_neg hl]
def PutPost10 (w : World) (p : Nat) (f t : ByteArray) (r : List CV × Int) (e : Ending) (w' : World) : Prop := e = .returned (.int .i64 r.2) ∧ TB w' p f t r.1 ∧ Wr p w w'
open Go.RowKit
set_option maxHeartbeats 1000000 in
theorem only_any (w : World) (k : Int) : Calls Tryz.prog 45 #[.int .i64 k] w fun e w' => e = .returned (resV k none 0 0 false) ∧ Below w.heap.size w w' := by
  have B : Below w.heap.size w (w.alloc (.cells #[.int .i64 k, .slice none 0 0, .bool false] 34)) := (Below.refl _ _).alloc (Nat.le_refl _) _
  go_enter Tryz.func45, Tryz.ntmps45
  go_wp2
  exact bodyPost_ret (v := .agg #[.int .i64 k, .slice none 0 0, .bool false]) (by simp [results, Tryz.results45, go_sem]) rfl ⟨rfl, B⟩
def mGet (cs : List CV) (k : KA) : RV := match (colC k cs).head? with
  | none => ⟨7, [], false⟩
  | some c => if c.gone then ⟨7, [], false⟩ else ⟨0, [c], false⟩
def ResP (r : RV) (e : Ending) (w' : World) : Prop := ∃ ao n cap l, e = .returned (resV r.e ao n cap r.more) ∧ CL w' ao n cap l ∧ l.map CA.c = r.cells
theorem ResP.bad (k : Int) (w' : World) : ResP ⟨k, [], false⟩ (.returned (resV k none 0 0 false)) w' := ⟨none, 0, 0, [], rfl, CL.nothing _, rfl⟩
theorem CL.one (w : World) (c : CA) (h : c.ok (w.alloc (.cells #[.string c.row, .string c.fam, .string c.qual, .int .u64 c.time, .slice c.va.ao c.va.n c.va.cap, .bool c.gone] 69))) : CL (w.alloc (.cells #[.string c.row, .string c.fam, .string c.qual, .int .u64 c.time, .slice c.va.ao c.va.n c.va.cap, .bool c.gone] 69)) (some ⟨w.heap.size, 0, none⟩) 1 1 [c] := by
  refine ⟨rfl, Nat.le_refl _, by decide, fun h => by simp at h, fun a ha i hi j v hv => ?_, fun d hd => by rw [List.mem_singleton.1 hd]; exact h⟩
  obtain rfl := Option.some.inj ha
  obtain rfl : i = 0 := by simp at hi; exact hi
  rw [Addr.add_lit, Nat.zero_mul, Nat.zero_add, Nat.zero_add, cell_of_row _ w.heap.size j _ _ _ (heap_alloc_new w _)]
  simpa [CA.cells] using hv
theorem CL.wr {w w' : World} {p : Nat} {x y z : Value} (h : Arr w p 34 [x, y, z]) (hx : ∀ s, x ≠ .int .u8 s) (hx2 : ∀ s, x ≠ .string s) (hy : ∀ s, y ≠ .int .u8 s) (hy2 : ∀ s, y ≠ .string s) (hz : ∀ s, z ≠ .int .u8 s) (hz2 : ∀ s, z ≠ .string s) (k : Wr p w w') {ao : Option Addr} {n cap : Nat} {l : List CA} (S : CL w ao n cap l) : CL w' ao n cap l := by
  refine ⟨S.len, S.le, S.mx, S.nil, fun a ha i hi j v hv => ?_, fun c hc => ⟨(S.ok c hc).row, (S.ok c hc).fam, (S.ok c hc).qual, (S.ok c hc).time, (S.ok c hc).va.wr h (by intro v hv; simp only [List.mem_cons, List.not_mem_nil, or_false] at hv; rcases hv with rfl | rfl | rfl <;> assumption) k⟩⟩
  have h0 := S.cell a ha i hi 0 _ rfl
  have hne : a.block ≠ p := fun e => by
    have e2 : (a.add (i * 6 + 0)).block = p := (add_block _ _).trans e
    generalize a.add (i * 6 + 0) = ad at h0 e2
    obtain ⟨b, off, spot⟩ := ad
    obtain rfl : b = p := e2
    have hs : spot = none := World.cell?_spot h0
    subst hs
    rw [Arr.cell h off] at h0
    match off, h0 with
    | 0, h0 => exact hx2 _ (Option.some.inj h0)
    | 1, h0 => exact hy2 _ (Option.some.inj h0)
    | 2, h0 => exact hz2 _ (Option.some.inj h0)
    | _ + 3, h0 => simp at h0
  exact k.cell (S.cell a ha i hi j v hv) (by rw [add_block]; exact hne)
set_option maxHeartbeats 2000000 in
set_option maxRecDepth 100000 in
theorem get_any (w : World) (p : Nat) (f t : ByteArray) (cs : List CV) (k : KA) (hT : TB w p f t cs) (hs : CSrt cs) (hg : CGood cs) (hn : cs.length ≤ 1000) (hr : k.row.size ≤ 32) :
    Calls Tryz.prog 79 #[.pointer (some ⟨p, 0, none⟩), k.val] w fun e w' => ResP (mGet cs k) e w' ∧ Below w.heap.size w w' := by
  obtain ⟨W1, hW1⟩ : ∃ V, V = w.alloc (.cells #[.string k.row, .string k.fam, .string k.qual, .int .u64 k.time] 39) := ⟨_, rfl⟩
  obtain ⟨W2, hW2⟩ : ∃ V, V = W1.alloc (.cells #[.int .i64 0, .slice none 0 0, .bool false] 34) := ⟨_, rfl⟩
  have C1 : Below w.heap.size w W1 := by rw [hW1]; exact (Below.refl _ _).alloc (Nat.le_refl _) _
  have C2 : Below W1.heap.size W1 W2 := by rw [hW2]; exact (Below.refl _ _).alloc (Nat.le_refl _) _
  have B2 := C1.trans (C2.mono C1.size)
  have s1 : W1.heap.size = w.heap.size + 1 := by rw [hW1]; exact Array.size_push ..
  have R2 : Arr W2 (w.heap.size + 1) 34 [.int .i64 0, .slice none 0 0, .bool false] := by rw [hW2, ← s1]; exact heap_alloc_new W1 _
  have CO := column_any W2 p f t cs k (hT.below B2) hs hg hr hn
  unfold KA.val at CO ⊢
  go_enter Tryz.func79, Tryz.ntmps79
  go_wp2_with fail
  rw [← hW1, ← hW2]
  clear hW1 hW2 s1
  refine CO.mono ?_
  rintro e w3 ⟨ao, n, cap, l, rfl, h1, -, hl, C3⟩
  have B3 := B2.trans (C3.mono B2.size)
  have R3 := arr_below R2 C3
  have hll := h1.len
  have hn1 : n ≤ 1000 := by
    have h3 := congrArg List.length hl
    rw [List.length_map, hll] at h3
    have h4 := List.length_filter_le (fun x : CV => x.col k) cs
    unfold colC at h3
    omega
  clear CO R2 C3
  by_cases hz : n = 0
  · subst hz
    have HM : Hid (mGet cs k = ⟨7, [], false⟩) := by
      show _ = _
      obtain rfl : l = [] := List.eq_nil_of_length_eq_zero hll
      unfold mGet
      rw [← hl]
      rfl
    have CB := only_any w3 7
    unfold resV at CB
    clear hl hll hn1
    go_wp2_with fail
    refine CB.mono ?_
    rintro e w4 ⟨rfl, C4⟩
    have B4 := B3.trans (C4.mono B3.size)
    have R4 := arr_below R3 C4
    have r0 : w4.cell? ⟨w.heap.size + 1, 0, none⟩ = some (.int .i64 0) := R4.cell 0
    have f0 := R4.free 0
    have r1 : w4.cell? ⟨w.heap.size + 1, 1, none⟩ = some (.slice none 0 0) := R4.cell 1
    have f1 := R4.free 1
    have r2 : w4.cell? ⟨w.heap.size + 1, 2, none⟩ = some (.bool false) := R4.cell 2
    have f2 := R4.free 2
    have lt := R4.lt
    clear CB
    go_wp2
    exact bodyPost_ret (v := .agg #[.int .i64 7, .slice none 0 0, .bool false]) (by simp [results, Tryz.results79, go_sem, r0, r1, r2]) rfl ⟨by rw [HM.out]; exact ResP.bad 7 _, Wr.below B4 ((((Wr.refl _ _).set 0 _).set 1 _).set 2 _) B4.size (Nat.le_succ _)⟩
  · have hni : ((n : Int) == 0) = false := by simp; omega
    have hnp : (0 : Int) < (n : Int) := by omega
    have h0l : 0 < l.length := by omega
    obtain ⟨lb, lo, rfl, hc⟩ := h1.at (by omega)
    have X := hc 0 h0l
    rw [Nat.zero_mul, Nat.add_zero] at X
    have hok := h1.ok _ (List.getElem_mem h0l)
    have HH : Hid ((colC k cs).head? = some l[0].c) := by
      show _ = _
      rw [← hl, List.head?_map, List.head?_eq_getElem?, List.getElem?_eq_getElem h0l]
      rfl
    obtain ⟨c, hce⟩ : ∃ c, c = l[0] := ⟨_, rfl⟩
    rw [← hce] at X hok HH
    obtain ⟨q0, q1, q2, q3, q4, q5⟩ := X
    clear hc hce hl hll h1 h0l hz
    cases hgn : c.gone with
    | true =>
      have HM : Hid (mGet cs k = ⟨7, [], false⟩) := by
        show _ = _
        unfold mGet
        rw [HH.out]
        simp only
        rw [show c.c.gone = c.gone from rfl, hgn]
        rfl
      rw [hgn] at q5
      have CB := only_any w3 7
      unfold resV at CB
      clear hgn
      go_wp2_with fail
      refine CB.mono ?_
      rintro e w4 ⟨rfl, C4⟩
      have B4 := B3.trans (C4.mono B3.size)
      have R4 := arr_below R3 C4
      have r0 : w4.cell? ⟨w.heap.size + 1, 0, none⟩ = some (.int .i64 0) := R4.cell 0
      have f0 := R4.free 0
      have r1 : w4.cell? ⟨w.heap.size + 1, 1, none⟩ = some (.slice none 0 0) := R4.cell 1
      have f1 := R4.free 1
      have r2 : w4.cell? ⟨w.heap.size + 1, 2, none⟩ = some (.bool false) := R4.cell 2
      have f2 := R4.free 2
      have lt := R4.lt
      clear CB q0 q1 q2 q3 q4 q5
      go_wp2
      exact bodyPost_ret (v := .agg #[.int .i64 7, .slice none 0 0, .bool false]) (by simp [results, Tryz.results79, go_sem, r0, r1, r2]) rfl ⟨by rw [HM.out]; exact ResP.bad 7 _, Wr.below B4 ((((Wr.refl _ _).set 0 _).set 1 _).set 2 _) B4.size (Nat.le_succ _)⟩
    | false =>
      have HM : Hid (mGet cs k = ⟨0, [c.c], false⟩) := by
        show _ = _
        unfold mGet
        rw [HH.out]
        simp only
        rw [show c.c.gone = c.gone from rfl, hgn]
        rfl
      rw [hgn] at q5
      have r0 : w3.cell? ⟨w.heap.size + 1, 0, none⟩ = some (.int .i64 0) := R3.cell 0
      have f0 := R3.free 0
      have r1 : w3.cell? ⟨w.heap.size + 1, 1, none⟩ = some (.slice none 0 0) := R3.cell 1
      have f1 := R3.free 1
      have r2 : w3.cell? ⟨w.heap.size + 1, 2, none⟩ = some (.bool false) := R3.cell 2
      have f2 := R3.free 2
      have lt := R3.lt
      have KW : Wr (w.heap.size + 1) w3 (((w3.setCell ⟨w.heap.size + 1, 0, none⟩ (.int .i64 0)).setCell ⟨w.heap.size + 1, 1, none⟩ (.slice (some ⟨w3.heap.size, 0, none⟩) 1 1)).setCell ⟨w.heap.size + 1, 2, none⟩ (.bool false)) := (((Wr.refl _ _).set 0 _).set 1 _).set 2 _
      have ok5 : c.ok (((w3.setCell ⟨w.heap.size + 1, 0, none⟩ (.int .i64 0)).setCell ⟨w.heap.size + 1, 1, none⟩ (.slice (some ⟨w3.heap.size, 0, none⟩) 1 1)).setCell ⟨w.heap.size + 1, 2, none⟩ (.bool false)) := ⟨hok.row, hok.fam, hok.qual, hok.time, hok.va.wr R3 (by simp) KW⟩
      have CL1 := CL.one (((w3.setCell ⟨w.heap.size + 1, 0, none⟩ (.int .i64 0)).setCell ⟨w.heap.size + 1, 1, none⟩ (.slice (some ⟨w3.heap.size, 0, none⟩) 1 1)).setCell ⟨w.heap.size + 1, 2, none⟩ (.bool false)) c (ok5.below ((Below.refl _ _).alloc (Nat.le_refl _) _))
      rw [hgn, show (((w3.setCell ⟨w.heap.size + 1, 0, none⟩ (.int .i64 0)).setCell ⟨w.heap.size + 1, 1, none⟩ (.slice (some ⟨w3.heap.size, 0, none⟩) 1 1)).setCell ⟨w.heap.size + 1, 2, none⟩ (.bool false)).heap.size = w3.heap.size by simp] at CL1
      clear hgn
      go_wp2
      exact bodyPost_ret (v := .agg #[.int .i64 0, .slice (some ⟨w3.heap.size, 0, none⟩) 1 1, .bool false]) (by simp [results, Tryz.results79, go_sem, r0, r1, r2, lt]) rfl ⟨by rw [HM.out]; exact ⟨_, _, _, [c], rfl, CL1, rfl⟩, Wr.below B3 (KW.alloc _) B3.size (Nat.le_succ _)⟩
open Go.RowKit
theorem less_cmp : ∀ a b : List UInt8, Op.bytesLess a b = decide (cmpL (a.map fun c => (c.toNat : Int)) (b.map fun c => (c.toNat : Int)) < 0)
  | [], [] => rfl
  | _ :: _, [] => rfl
  | [], _ :: _ => rfl
  | a :: x, b :: y => by
    rw [Op.bytesLess, less_cmp x y, List.map_cons, List.map_cons, cmpL_cons]
    by_cases e : a = b
    · subst e
      have h : ¬ a < a := UInt8.lt_irrefl a
      simp [h]
    · have hn : a.toNat ≠ b.toNat := fun h => e (UInt8.toNat_inj.1 h)
      have hb : (a == b) = false := by simp [e]
      rw [hb, if_neg (by omega)]
      by_cases l : a < b
      · have l2 : (a.toNat : Int) < (b.toNat : Int) := by have := UInt8.lt_iff_toNat_lt.1 l; omega
        rw [if_pos l2]
        simp [l]
      · have l2 : ¬ (a.toNat : Int) < (b.toNat : Int) := fun h => l (UInt8.lt_iff_toNat_lt.2 (by omega))
        rw [if_neg l2]
        simp [l]
theorem less_sb (s t : ByteArray) : Op.bytesLess s.toList t.toList = decide (cmpL (sb s) (sb t) < 0) := by
  rw [ByteArray.toList_eq, ByteArray.toList_eq, less_cmp]
  rfl
open Go.RowKit
set_option maxHeartbeats 1000000 in
theorem hasRow_any (w : World) (p : Nat) (f t r : ByteArray) (u : Option Addr) (h : TbC w p f t u) :
    Calls Tryz.prog 70 #[.pointer (some ⟨p, 0, none⟩), .string r] w fun e w' => e = .returned (.bool (inRows f t r)) ∧ w' = w := by
  have c0 : w.cell? ⟨p, 0, none⟩ = some (.string f) := Arr.cell h 0
  have c1 : w.cell? ⟨p, 1, none⟩ = some (.string t) := Arr.cell h 1
  clear h
  by_cases e1 : cmpL (sb r) (sb f) < 0
  · have HV : Hid (inRows f t r = false) := decide_eq_false fun h => h.1 e1
    have l1 : Op.bytesLess r.toList f.toList = true := by rw [less_sb]; exact decide_eq_true e1
    clear e1
    go_enter Tryz.func70, Tryz.ntmps70
    go_wp2
    go_ret
    exact ⟨by rw [HV.out] <;> rfl, rfl⟩
  have l1 : Op.bytesLess r.toList f.toList = false := by rw [less_sb]; exact decide_eq_false e1
  by_cases hz : t.size = 0
  · have HV : Hid (inRows f t r = true) := decide_eq_true ⟨e1, .inl hz⟩
    have e0 : (t.toList == (ByteArray.mk #[]).toList) = true := by rw [empty_of hz]; simp
    have ee : t.toList.isEmpty = true := by rw [toE]; exact decide_eq_true hz
    clear e1 hz
    go_enter Tryz.func70, Tryz.ntmps70
    go_wp2
    go_ret
    exact ⟨by rw [HV.out] <;> rfl, rfl⟩
  have e0 : (t.toList == (ByteArray.mk #[]).toList) = false := toL_ne (fun h => hz (by rw [h]; rfl))
  have e1' : (t.toList == []) = false := by rw [← e0]; congr 1; simp
  have ee : t.toList.isEmpty = false := by rw [toE]; exact decide_eq_false hz
  by_cases e2 : cmpL (sb r) (sb t) < 0
  · have HV : Hid (inRows f t r = true) := decide_eq_true ⟨e1, .inr e2⟩
    have l2 : Op.bytesLess r.toList t.toList = true := by rw [less_sb]; exact decide_eq_true e2
    clear e1 e2 hz
    go_enter Tryz.func70, Tryz.ntmps70
    go_wp2
    go_ret
    exact ⟨by rw [HV.out] <;> rfl, rfl⟩
  · have HV : Hid (inRows f t r = false) := decide_eq_false fun h => h.2.elim hz e2
    have l2 : Op.bytesLess r.toList t.toList = false := by rw [less_sb]; exact decide_eq_false e2
    clear e1 e2 hz
    go_enter Tryz.func70, Tryz.ntmps70
    go_wp2
    go_ret
    exact ⟨by rw [HV.out] <;> rfl, rfl⟩
def newK (f t : ByteArray) : Int := if f.size ≤ 32 ∧ t.size ≤ 32 ∧ (t.size = 0 ∨ cmpL (sb f) (sb t) < 0) then 0 else 1
def NewPost (w : World) (f t : ByteArray) (e : Ending) (w' : World) : Prop :=
  (newK f t = 0 ∧ e = .returned (.tuple #[.pointer (some ⟨w.heap.size, 0, none⟩), .int .i64 0]) ∧ TB w' w.heap.size f t [] ∧ Below w.heap.size w w') ∨ (newK f t = 1 ∧ e = .returned (.tuple #[.pointer none, .int .i64 1]) ∧ w' = w)
theorem newOk (f t : ByteArray) (h : f.size ≤ 32 ∧ t.size ≤ 32 ∧ (t.size = 0 ∨ cmpL (sb f) (sb t) < 0)) : newK f t = 0 := if_pos h
theorem TB.new (w : World) (f t : ByteArray) : TB (w.alloc (.cells #[.string f, .string t, .pointer none] 79)) w.heap.size f t [] := ⟨none, heap_alloc_new w _, TT.nil _⟩
set_option maxHeartbeats 1000000 in
theorem tnew_any (w : World) (f t : ByteArray) (hf : f.size ≤ 1000000) (ht : t.size ≤ 1000000) : Calls Tryz.prog 11 #[.string f, .string t] w (NewPost w f t) := by
  have hfi : (f.size : Int) ≤ 1000000 := by omega
  have hti : (t.size : Int) ≤ 1000000 := by omega
  have X := TB.new w f t
  have B : Below w.heap.size w (w.alloc (.cells #[.string f, .string t, .pointer none] 79)) := (Below.refl _ _).alloc (Nat.le_refl _) _
  by_cases g1 : f.size ≤ 32
  case neg =>
    have i1 : (32 : Int) < (f.size : Int) := by omega
    have HV : Hid (newK f t = 1) := by show _ = _; unfold newK; rw [if_neg (fun h => g1 h.1)]
    go_enter Tryz.func11, Tryz.ntmps11
    go_wp2
    go_ret2
    exact .inr ⟨HV.out, rfl, rfl⟩
  have i1 : (f.size : Int) ≤ 32 := by omega
  by_cases g2 : t.size ≤ 32
  case neg =>
    have i2 : (32 : Int) < (t.size : Int) := by omega
    have HV : Hid (newK f t = 1) := by show _ = _; unfold newK; rw [if_neg (fun h => g2 h.2.1)]
    go_enter Tryz.func11, Tryz.ntmps11
    go_wp2
    go_ret2
    exact .inr ⟨HV.out, rfl, rfl⟩
  have i2 : (t.size : Int) ≤ 32 := by omega
  by_cases hz : t.size = 0
  · have HV : Hid (newK f t = 0) := newOk f t ⟨g1, g2, .inl hz⟩
    have e0 : (t.toList == (ByteArray.mk #[]).toList) = true := by rw [empty_of hz]; simp
    have ee : t.toList.isEmpty = true := by rw [toE]; exact decide_eq_true hz
    clear hz
    go_enter Tryz.func11, Tryz.ntmps11
    go_wp2
    go_ret2
    exact .inl ⟨HV.out, rfl, X, B⟩
  have e0 : (t.toList == (ByteArray.mk #[]).toList) = false := toL_ne (fun h => hz (by rw [h]; rfl))
  have e1' : (t.toList == []) = false := by rw [← e0]; congr 1; simp
  have ee : t.toList.isEmpty = false := by rw [toE]; exact decide_eq_false hz
  by_cases e2 : cmpL (sb f) (sb t) < 0
  · have HV : Hid (newK f t = 0) := newOk f t ⟨g1, g2, .inr e2⟩
    have l2 : Op.bytesLess t.toList f.toList = false := by rw [less_sb]; exact decide_eq_false (cmpL_asym e2)
    have l3 : (t.toList == f.toList) = false := toL_ne fun h => by rw [h] at e2; exact cmpL_irr _ e2
    have l4 : Op.bytesLess f.toList t.toList = true := by rw [less_sb]; exact decide_eq_true e2
    clear e2 hz
    go_enter Tryz.func11, Tryz.ntmps11
    go_wp2
    go_ret2
    exact .inl ⟨HV.out, rfl, X, B⟩
  · have l4 : Op.bytesLess f.toList t.toList = false := by rw [less_sb]; exact decide_eq_false e2
    have l5 : (Op.bytesLess t.toList f.toList || t.toList == f.toList) = true := by
      rw [less_sb]
      rcases cmpL_total (sb t) (sb f) with h | h | h
      · rw [decide_eq_true h]; rfl
      · rw [sb_inj h]; simp
      · exact absurd h e2
    have HV : Hid (newK f t = 1) := by show _ = _; unfold newK; rw [if_neg (fun h => h.2.2.elim hz e2)]
    go_enter Tryz.func11, Tryz.ntmps11
    go_wp2
    go_ret2
    exact .inr ⟨HV.out, rfl, rfl⟩
open Go.RowKit
def wrongV (c : CV) : Bool := decide (256 < c.value.length) || (c.gone && decide (0 < c.value.length))
def notR (c : CV) : Bool := !(c.ky.isRight)
def KA.colK (k : KA) : KA := ⟨k.row, k.fam, k.qual, 0⟩
def judgeK (f t : ByteArray) (cs : List CV) : Int :=
  if cs.any notR then 5
  else if cs.any (fun c => !(inRows f t c.row)) then 8
  else if cs.any wrongV || decide (1 < mostK (cs.map CV.ky)) then 1
  else if 4 < mostK (cs.map fun c => c.ky.colK) then 4
  else if 32 < cs.length then 9
  else 0
set_option maxHeartbeats 1000000 in
theorem j2_tells (w : World) : Tells w 101 #[] notR := fun W c hb _ => by
  show Calls Tryz.prog 101 #[.agg #[.string c.row, .string c.fam, .string c.qual, .int .u64 c.time, .slice c.va.ao c.va.n c.va.cap, .bool c.gone]] W _
  obtain ⟨W1, hW1⟩ : ∃ V, V = W.alloc (.cells #[.string c.row, .string c.fam, .string c.qual, .int .u64 c.time, .slice c.va.ao c.va.n c.va.cap, .bool c.gone] 69) := ⟨_, rfl⟩
  have C1 : Below W.heap.size W W1 := by rw [hW1]; exact (Below.refl _ _).alloc (Nat.le_refl _) _
  have CP := pright_any W1 c.key
  unfold KA.val CA.key at CP
  have HV : Hid (∀ b, KA.isRight ⟨c.row, c.fam, c.qual, c.time⟩ = b → notR c.c = !b) := fun b hb => by
    show (!(KA.isRight ⟨c.row, c.fam, c.qual, c.time⟩)) = !b
    rw [hb]
  cases hr : KA.isRight ⟨c.row, c.fam, c.qual, c.time⟩ with
  | true =>
    rw [show KA.kind ⟨c.row, c.fam, c.qual, c.time⟩ = 0 from if_pos hr] at CP
    have HW := HV.out _ hr
    have HW2 : Hid (notR c.c = false) := HW
    clear HV HW
    go_enter Tryz.func101, Tryz.ntmps101
    go_wp2_with fail
    rw [← hW1]
    refine CP.mono ?_
    rintro e w2 ⟨rfl, C2⟩
    go_wp2
    go_ret
    exact ⟨by rw [HW2.out] <;> rfl, C1.trans (C2.mono C1.size)⟩
  | false =>
    rw [show KA.kind ⟨c.row, c.fam, c.qual, c.time⟩ = 5 from if_neg (by rw [hr]; simp)] at CP
    have HW := HV.out _ hr
    have HW2 : Hid (notR c.c = true) := HW
    clear HV HW
    go_enter Tryz.func101, Tryz.ntmps101
    go_wp2_with fail
    rw [← hW1]
    refine CP.mono ?_
    rintro e w2 ⟨rfl, C2⟩
    go_wp2
    go_ret
    exact ⟨by rw [HW2.out] <;> rfl, C1.trans (C2.mono C1.size)⟩
set_option maxHeartbeats 1000000 in
theorem j3_tells (w : World) (p tb : Nat) (f t : ByteArray) (u : Option Addr) (hC : TbC w p f t u) (hB : Arr w tb 25 [.pointer (some ⟨p, 0, none⟩)]) : Tells w 103 #[.pointer (some ⟨tb, 0, none⟩)] (fun c => !(inRows f t c.row)) := fun W c hb _ => by
  show Calls Tryz.prog 103 #[.agg #[.string c.row, .string c.fam, .string c.qual, .int .u64 c.time, .slice c.va.ao c.va.n c.va.cap, .bool c.gone], .pointer (some ⟨tb, 0, none⟩)] W _
  obtain ⟨W1, hW1⟩ : ∃ V, V = W.alloc (.cells #[.string c.row, .string c.fam, .string c.qual, .int .u64 c.time, .slice c.va.ao c.va.n c.va.cap, .bool c.gone] 69) := ⟨_, rfl⟩
  have C1 : Below W.heap.size W W1 := by rw [hW1]; exact (Below.refl _ _).alloc (Nat.le_refl _) _
  have A1 := arr_below hB hb
  have q0 : W.cell? ⟨tb, 0, none⟩ = some (.pointer (some ⟨p, 0, none⟩)) := Arr.cell A1 0
  have lt := A1.lt
  have CP := hasRow_any W1 p f t c.row u (arr_below (arr_below hC hb) C1)
  clear A1
  go_enter Tryz.func103, Tryz.ntmps103
  go_wp2_with fail
  rw [← hW1]
  refine CP.mono ?_
  rintro e w2 ⟨rfl, hw⟩
  obtain rfl := hw.symm
  go_wp2
  go_ret
  exact ⟨rfl, by rw [← hW1]; exact C1⟩
set_option maxHeartbeats 2000000 in
theorem hw_tells (w : World) : Tells w 104 #[] wrongV := fun W c hb hok => by
  show Calls Tryz.prog 104 #[.agg #[.string c.row, .string c.fam, .string c.qual, .int .u64 c.time, .slice c.va.ao c.va.n c.va.cap, .bool c.gone]] W _
  have C1 : Below W.heap.size W (W.alloc (.cells #[.string c.row, .string c.fam, .string c.qual, .int .u64 c.time, .slice c.va.ao c.va.n c.va.cap, .bool c.gone] 69)) := (Below.refl _ _).alloc (Nat.le_refl _) _
  have hl := hok.va.len
  have hv : Hid (wrongV c.c = (decide (256 < c.va.n) || (c.gone && decide (0 < c.va.n)))) := by
    show (decide (256 < c.va.xs.length) || (c.gone && decide (0 < c.va.xs.length))) = _
    rw [hl]
  clear hl hok
  by_cases h1 : 256 < c.va.n
  · have i1 : (256 : Int) < (c.va.n : Int) := by omega
    have hw : Hid (wrongV c.c = true) := by
      show _ = _
      rw [hv.out, decide_eq_true h1, Bool.true_or]
    clear hv h1
    go_enter Tryz.func104, Tryz.ntmps104
    go_wp2
    go_ret
    exact ⟨by rw [hw.out] <;> rfl, C1⟩
  · have i1 : ¬ (256 : Int) < (c.va.n : Int) := by omega
    cases hg : c.gone with
    | false =>
      have hw : Hid (wrongV c.c = false) := by
        show _ = _
        rw [hv.out, decide_eq_false h1, hg, Bool.false_or, Bool.false_and]
      clear hv h1
      go_enter Tryz.func104, Tryz.ntmps104
      go_wp2
      go_ret
      exact ⟨by rw [hw.out] <;> rfl, by rw [← hg]; exact C1⟩
    | true =>
      by_cases h2 : 0 < c.va.n
      · have i2 : (0 : Int) < (c.va.n : Int) := by omega
        have hw : Hid (wrongV c.c = true) := by
          show _ = _
          rw [hv.out, hg, decide_eq_true h2, Bool.true_and, Bool.or_true]
        clear hv h1
        go_enter Tryz.func104, Tryz.ntmps104
        go_wp2
        go_ret
        exact ⟨by rw [hw.out] <;> rfl, by rw [← hg]; exact C1⟩
      · have i2 : ¬ (0 : Int) < (c.va.n : Int) := by omega
        have hw : Hid (wrongV c.c = false) := by
          show _ = _
          rw [hv.out, hg, decide_eq_false h1, decide_eq_false h2]
          rfl
        clear hv h1
        go_enter Tryz.func104, Tryz.ntmps104
        go_wp2
        go_ret
        exact ⟨by rw [hw.out] <;> rfl, by rw [← hg]; exact C1⟩
set_option maxHeartbeats 1000000 in
theorem whole_any (V : World) (k : KA) : Calls Tryz.prog 106 #[k.val] V fun e w' => e = .returned k.val ∧ Below V.heap.size V w' := by
  unfold KA.val
  have B : Below V.heap.size V ((V.alloc (.cells #[.string k.row, .string k.fam, .string k.qual, .int .u64 k.time] 39)).alloc (.cells #[.string k.row, .string k.fam, .string k.qual, .int .u64 k.time] 39)) := ((Below.refl _ _).alloc (Nat.le_refl _) _).alloc (by simp) _
  go_enter Tryz.func106, Tryz.ntmps106
  go_wp2
  exact bodyPost_ret (v := .agg #[.string k.row, .string k.fam, .string k.qual, .int .u64 k.time]) (by simp [results, Tryz.results106, go_sem]) rfl ⟨rfl, B⟩
set_option maxHeartbeats 1000000 in
theorem column_of (V : World) (k : KA) : Calls Tryz.prog 107 #[k.val] V fun e w' => e = .returned k.colK.val ∧ Below V.heap.size V w' := by
  unfold KA.val KA.colK
  have B : Below V.heap.size V ((V.alloc (.cells #[.string k.row, .string k.fam, .string k.qual, .int .u64 0] 39)).alloc (.cells #[.string k.row, .string k.fam, .string k.qual, .int .u64 0] 39)) := ((Below.refl _ _).alloc (Nat.le_refl _) _).alloc (by simp) _
  go_enter Tryz.func107, Tryz.ntmps107
  go_wp2
  exact bodyPost_ret (v := .agg #[.string k.row, .string k.fam, .string k.qual, .int .u64 0]) (by simp [results, Tryz.results107, go_sem]) rfl ⟨rfl, B⟩
set_option maxHeartbeats 1000000 in
theorem some_any (V : World) (bb g : Nat) (lb : Array Value) (pr : CV → Bool) (ao : Option Addr) (n cap : Nat) (l : List CA) (eg : ∀ args w, (callFunc g args).run Tryz.prog w = .ok (.enter g args) w) (hA : Arr V bb 30 [.slice ao n cap]) (h : CL V ao n cap l) (hn : n ≤ 1000) (hand : Tells V g lb pr) (b : Bool) (hb : Hid (b = (l.map CA.c).any pr)) :
    Calls Tryz.prog 99 #[.func (.func g) #[] lb, .pointer (some ⟨bb, 0, none⟩)] V fun e w' => e = .returned (.bool b) ∧ Below V.heap.size V w' := by
  have q0 : V.cell? ⟨bb, 0, none⟩ = some (.slice ao n cap) := hA.cell 0
  have CC := contains_any V ao n cap l g lb pr eg h hn hand b hb
  clear h hand hA hb
  go_enter Tryz.func99, Tryz.ntmps99
  go_wp2_with fail
  refine CC.mono ?_
  rintro e w2 ⟨rfl, C2⟩
  go_wp2
  go_ret
  exact ⟨rfl, C2⟩
set_option maxHeartbeats 4000000 in
set_option maxRecDepth 100000 in
theorem judge_any10 (w : World) (p : Nat) (f t : ByteArray) (u : Option Addr) (ao : Option Addr) (n cap : Nat) (l : List CA) (hC : TbC w p f t u) (L : CL w ao n cap l) (hn : n ≤ 1000) :
    Calls Tryz.prog 59 #[.pointer (some ⟨p, 0, none⟩), .slice ao n cap] w fun e w' => e = .returned (.int .i64 (judgeK f t (l.map CA.c))) ∧ Below w.heap.size w w' := by
  have hl := L.len
  obtain ⟨W1, hW1⟩ : ∃ V, V = w.alloc (.cells #[.pointer (some ⟨p, 0, none⟩)] 25) := ⟨_, rfl⟩
  obtain ⟨W2, hW2⟩ : ∃ V, V = W1.alloc (.cells #[.slice ao n cap] 30) := ⟨_, rfl⟩
  have C1 : Below w.heap.size w W1 := by rw [hW1]; exact (Below.refl _ _).alloc (Nat.le_refl _) _
  have C2 : Below W1.heap.size W1 W2 := by rw [hW2]; exact (Below.refl _ _).alloc (Nat.le_refl _) _
  have s1 : W1.heap.size = w.heap.size + 1 := by rw [hW1]; exact Array.size_push ..
  have B2 := C1.trans (C2.mono C1.size)
  have T1 : Arr W1 w.heap.size 25 [.pointer (some ⟨p, 0, none⟩)] := by rw [hW1]; exact heap_alloc_new w _
  have T2 := arr_below T1 C2
  have L2 : Arr W2 (w.heap.size + 1) 30 [.slice ao n cap] := by rw [hW2, ← s1]; exact heap_alloc_new W1 _
  obtain ⟨cs, hcs⟩ : ∃ cs, cs = l.map CA.c := ⟨_, rfl⟩
  have HCS : Hid (cs = l.map CA.c) := hcs
  have hcl : cs.length = n := by rw [hcs, List.length_map, hl]
  obtain ⟨b1, hb1⟩ : ∃ b, b = cs.any notR := ⟨_, rfl⟩
  obtain ⟨b2, hb2⟩ : ∃ b, b = cs.any (fun c => !(inRows f t c.row)) := ⟨_, rfl⟩
  obtain ⟨b3, hb3⟩ : ∃ b, b = cs.any wrongV := ⟨_, rfl⟩
  obtain ⟨m1, hm1⟩ : ∃ m, m = mostK (cs.map CV.ky) := ⟨_, rfl⟩
  obtain ⟨m2, hm2⟩ : ∃ m, m = mostK (cs.map fun c => c.ky.colK) := ⟨_, rfl⟩
  have HJ : Hid (judgeK f t (l.map CA.c) = if b1 then 5 else if b2 then 8 else if b3 || decide (1 < m1) then 1 else if 4 < m2 then 4 else if 32 < n then 9 else 0) := by
    show _ = _
    rw [← hcs]
    unfold judgeK
    rw [← hb1, ← hb2, ← hb3, ← hm1, ← hm2, hcl]
  have A1 := some_any W2 (w.heap.size + 1) 101 #[] notR ao n cap l (enters_of Tryz.func101 (by kernel_rfl) rfl) L2 (L.below B2) hn (j2_tells W2) b1 (by show _ = _; rw [hb1, hcs])
  have A2 : Hid (∀ V, Below W2.heap.size W2 V → Calls Tryz.prog 99 #[.func (.func 103) #[] #[.pointer (some ⟨w.heap.size, 0, none⟩)], .pointer (some ⟨w.heap.size + 1, 0, none⟩)] V fun e w' => e = .returned (.bool b2) ∧ Below V.heap.size V w') := fun V hV =>
    some_any V (w.heap.size + 1) 103 #[.pointer (some ⟨w.heap.size, 0, none⟩)] _ ao n cap l (enters_of Tryz.func103 (by kernel_rfl) rfl) (arr_below L2 hV) ((L.below B2).below hV) hn (j3_tells V p w.heap.size f t u (arr_below (arr_below hC B2) hV) (arr_below T2 hV)) b2 (by show _ = _; rw [hb2, hcs])
  have A3 : Hid (∀ V, Below W2.heap.size W2 V → Calls Tryz.prog 99 #[.func (.func 104) #[] #[], .pointer (some ⟨w.heap.size + 1, 0, none⟩)] V fun e w' => e = .returned (.bool b3) ∧ Below V.heap.size V w') := fun V hV =>
    some_any V (w.heap.size + 1) 104 #[] wrongV ao n cap l (enters_of Tryz.func104 (by kernel_rfl) rfl) (arr_below L2 hV) ((L.below B2).below hV) hn (hw_tells V) b3 (by show _ = _; rw [hb3, hcs])
  have A4 : Hid (∀ V, Below W2.heap.size W2 V → Calls Tryz.prog 105 #[.slice ao n cap, .func (.func 106) #[] #[]] V fun e w' => e = .returned (.int .i64 m1) ∧ Below V.heap.size V w') := fun V hV => by
    have := most_any V ao n cap l 106 (fun k => k) (enters_of Tryz.func106 (by kernel_rfl) rfl) ((L.below B2).below hV) hn whole_any (fun _ h => h)
    rw [show (l.map fun c => c.key) = cs.map CV.ky from by rw [hcs, List.map_map]; rfl, ← hm1] at this
    exact this
  have A5 : Hid (∀ V, Below W2.heap.size W2 V → Calls Tryz.prog 105 #[.slice ao n cap, .func (.func 107) #[] #[]] V fun e w' => e = .returned (.int .i64 m2) ∧ Below V.heap.size V w') := fun V hV => by
    have := most_any V ao n cap l 107 KA.colK (enters_of Tryz.func107 (by kernel_rfl) rfl) ((L.below B2).below hV) hn column_of (fun k h => ⟨h.row, h.fam, h.qual, show 0 < 18446744073709551616 by decide⟩)
    rw [show (l.map fun c => c.key.colK) = cs.map (fun c => c.ky.colK) from by rw [hcs, List.map_map]; rfl, ← hm2] at this
    exact this
  have e1 := fun (V : World) (args : Array Value) => enters_of (P := Tryz.prog) Tryz.func99 (by kernel_rfl) rfl args V
  have HL2 : Hid (Arr W2 (w.heap.size + 1) 30 [.slice ao n cap]) := L2
  rw [HJ.out]
  clear hcs hb1 hb2 hb3 hm1 hm2 hcl hl HJ T1 T2 L2 L hC HCS
  go_enter Tryz.func59, Tryz.ntmps59
  go_wp2_with fail
  rw [← hW1, ← hW2]
  clear hW1 hW2
  refine A1.mono ?_
  rintro e w3 ⟨rfl, C3⟩
  have B3 := B2.trans (C3.mono B2.size)
  clear A1
  cases b1 with
  | true =>
    go_wp2
    go_ret
    exact ⟨rfl, B3⟩
  | false =>
    have A2 := A2.out w3 C3
    go_wp2_with fail
    refine A2.mono ?_
    rintro e w4 ⟨rfl, C4⟩
    have E4 := C3.trans (C4.mono C3.size)
    have B4 := B2.trans (E4.mono B2.size)
    clear A2
    cases b2 with
    | true =>
      go_wp2
      go_ret
      exact ⟨rfl, B4⟩
    | false =>
      have A3 := A3.out w4 E4
      go_wp2_with fail
      refine A3.mono ?_
      rintro e w5 ⟨rfl, C5⟩
      have E5 := E4.trans (C5.mono E4.size)
      have B5 := B2.trans (E5.mono B2.size)
      clear A3
      cases b3 with
      | true =>
        go_wp2
        go_ret
        exact ⟨rfl, B5⟩
      | false =>
        have A4 := A4.out w5 E5
        have q5 : w5.cell? ⟨w.heap.size + 1, 0, none⟩ = some (.slice ao n cap) := (arr_below HL2.out E5).cell 0
        go_wp2_with fail
        refine A4.mono ?_
        rintro e w6 ⟨rfl, C6⟩
        have E6 := E5.trans (C6.mono E5.size)
        have B6 := B2.trans (E6.mono B2.size)
        clear A4 q5
        by_cases d1 : 1 < m1
        · have i1 : (1 : Int) < (m1 : Int) := by omega
          go_wp2
          go_ret
          exact ⟨by simp, B6⟩
        have i1 : ¬ (1 : Int) < (m1 : Int) := by omega
        have A5 := A5.out w6 E6
        have q6 : w6.cell? ⟨w.heap.size + 1, 0, none⟩ = some (.slice ao n cap) := (arr_below HL2.out E6).cell 0
        go_wp2_with fail
        refine A5.mono ?_
        rintro e w7 ⟨rfl, C7⟩
        have E7 := E6.trans (C7.mono E6.size)
        have B7 := B2.trans (E7.mono B2.size)
        have q7 : w7.cell? ⟨w.heap.size + 1, 0, none⟩ = some (.slice ao n cap) := (arr_below HL2.out E7).cell 0
        clear A5 q6
        by_cases d2 : 4 < m2
        · have i2 : (4 : Int) < (m2 : Int) := by omega
          go_wp2
          go_ret
          exact ⟨by simp, B7⟩
        have i2 : ¬ (4 : Int) < (m2 : Int) := by omega
        by_cases d3 : 32 < n
        · have i3 : (32 : Int) < (n : Int) := by omega
          go_wp2
          go_ret
          exact ⟨by simp, B7⟩
        have i3 : ¬ (32 : Int) < (n : Int) := by omega
        go_wp2
        go_ret
        exact ⟨by simp, B7⟩
open Go.RowKit
structure Stand (f t : ByteArray) (n : Nat) (cs : List CV) : Prop where
  srt : CSrt cs
  good : CGood cs
  rows : ∀ c ∈ cs, inRows f t c.row = true
  len : cs.length ≤ n
theorem Stand.nil (f t : ByteArray) : Stand f t 0 [] := ⟨List.Pairwise.nil, fun _ h => by simp at h, fun _ h => by simp at h, Nat.le_refl _⟩
theorem Stand.mono {f t : ByteArray} {n m : Nat} {cs : List CV} (h : Stand f t n cs) (hm : n ≤ m) : Stand f t m cs := ⟨h.srt, h.good, h.rows, Nat.le_trans h.len hm⟩
theorem Stand.lay {f t : ByteArray} {n : Nat} {cs : List CV} (h : Stand f t n cs) {c : CV} (hc : c.good) (hr : inRows f t c.row = true) : Stand f t (n + 1) (cIns cs c) :=
  ⟨h.srt.ins c, h.good.ins hc, fun x hx => by
    rcases mem_cIns hx with rfl | hx
    · exact hr
    · exact h.rows x hx, Nat.le_trans (cIns_len cs c) (Nat.succ_le_succ h.len)⟩
end Go.Proofs.YthlpccajnmkbjaaGreatDoor

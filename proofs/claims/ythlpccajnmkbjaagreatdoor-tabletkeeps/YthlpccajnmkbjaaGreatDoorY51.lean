/-
  Texts in one: TbAll, TbKeep, TbGone, TbOut, TbBad, TbBatch, TbStep, TbEvery.
-/
import Derived.Test.YthlpccajnmkbjaaGreatDoorY35
import Derived.Test.YthlpccajnmkbjaaGreatDoorY50
import Derived.Test.YthlpccajnmkbjaaGreatDoorY9
import Derived.Deep.QuietTactic
import Derived.BigQuiet
namespace Go.Proofs.YthlpccajnmkbjaaGreatDoor
open Go.RowKit

/-- The parts, one behind the other, until one fails. -/
def mAll (step : List CV → OA → List CV × RV) : List OA → List CV → List CV × Int
  | [], cs => (cs, 0)
  | o :: l, cs => if (step cs o).2.e = 0 then mAll step l (step cs o).1 else ((step cs o).1, (step cs o).2.e)
theorem mAll_step {step : List CV → OA → List CV × RV} {l : List OA} {k : Nat} (h : k < l.length) (ds : List CV) : mAll step (l.drop k) ds = if (step ds l[k]).2.e = 0 then mAll step (l.drop (k + 1)) (step ds l[k]).1 else ((step ds l[k]).1, (step ds l[k]).2.e) := by
  rw [List.drop_eq_getElem_cons h]
  rfl

set_option maxHeartbeats 4000000 in
set_option maxRecDepth 100000 in
theorem doAll_any (w : World) (p : Nat) (f t : ByteArray) (cs : List CV) (ao : Option Addr) (n cap : Nat) (l : List OA) (step : List CV → OA → List CV × RV) (I : Nat → List CV → Prop) (G : World → Prop)
    (hT : TB w p f t cs) (hl : OWL w 0 ao n cap l) (hn : n ≤ 1000) (hG : G w) (hI : I 0 cs)
    (gB : ∀ V V', G V → Below V.heap.size V V' → G V') (gW : ∀ V V' u, G V → TbC V p f t u → Wr p V V' → G V')
    (hstep : ∀ k (h : k < l.length) V ds, I k ds → G V → TB V p f t ds → OWL V 0 ao n cap l → Calls Tryz.prog 48 #[.pointer (some ⟨p, 0, none⟩), l[k].val] V (DoPost V p f t (step ds l[k])))
    (hI1 : ∀ k (h : k < l.length) ds, I k ds → (step ds l[k]).2.e = 0 → I (k + 1) (step ds l[k]).1) :
    Calls Tryz.prog 78 #[.pointer (some ⟨p, 0, none⟩), .slice ao n cap] w (PutPost10 w p f t (mAll step l cs)) := by
  have hl1 : @List.length OA l ≤ n := Nat.le_of_eq hl.len
  have hl2 : n ≤ @List.length OA l := Nat.le_of_eq hl.len.symm
  by_cases hz : n = 0
  · subst hz
    have HM : Hid (mAll step l cs = (cs, 0)) := by
      show _ = _
      rw [List.eq_nil_of_length_eq_zero (Nat.le_antisymm hl1 (Nat.zero_le _))]
      rfl
    clear hstep hI1 gB gW
    go_enter Tryz.func78, Tryz.ntmps78
    go_wp2
    go_loopw [10] (fun i wr => i = .int .i64 0 ∧ wr = w) (fun _ _ => 0)
    case atStart => exact ⟨rfl, rfl⟩
    case round =>
      obtain ⟨rfl, rfl⟩ := hrel
      go_wp2
      go_ret
      exact ⟨by rw [HM.out]; rfl, by rw [HM.out]; exact hT, Wr.refl _ _⟩
  have hni : (n : Int) ≤ 1000 := by omega
  obtain ⟨b, off, rfl, hc⟩ := hl.at (by omega)
  have HS : Hid (∀ k (h : k < l.length) V ds, I k ds → G V → TB V p f t ds → OWL V 0 (some ⟨b, off, none⟩) n cap l → Calls Tryz.prog 48 #[.pointer (some ⟨p, 0, none⟩), l[k].val] V (DoPost V p f t (step ds l[k]))) := hstep
  have HI1 : Hid (∀ k (h : k < l.length) ds, I k ds → (step ds l[k]).2.e = 0 → I (k + 1) (step ds l[k]).1) := hI1
  have HGB : Hid (∀ V V', G V → Below V.heap.size V V' → G V') := gB
  have HGW : Hid (∀ V V' u, G V → TbC V p f t u → Wr p V V' → G V') := gW
  clear hc hstep hI1 gB gW
  go_enter Tryz.func78, Tryz.ntmps78
  go_wp2
  go_loopw [10] (fun i wr => ∃ (k : Nat) (ds : List CV), k ≤ n ∧ i = .int .i64 k ∧ I k ds ∧ Hid (mAll step (l.drop k) ds = mAll step l cs) ∧ TB wr p f t ds ∧ OWL wr 0 (some ⟨b, off, none⟩) n cap l ∧ G wr ∧ Wr p w wr) (fun i _ => n - (intOf i).toNat)
  case atStart => exact ⟨0, cs, Nat.zero_le _, rfl, hI, rfl, hT, hl, hG, Wr.refl _ _⟩
  case round =>
    obtain ⟨k, ds, hk, rfl, I0, HM, X0, L0, G0, K0⟩ := hrel
    by_cases hlt : k < n
    · have hki : (k : Int) < (n : Int) := by omega
      have hkl : k < l.length := by omega
      obtain ⟨b', off', e, hc⟩ := L0.at (by omega)
      cases e
      have X : OX wr b (off + k * 10) (l[k] : OA) := hc k hkl
      have HST := mAll_step (step := step) hkl ds
      obtain ⟨W1, hW1⟩ : ∃ V, V = wr.alloc (.cells #[.int .i64 l[k].kind, .string l[k].row, .string l[k].fam, .string l[k].qual, .int .u64 l[k].time, .string l[k].to, .slice l[k].va.ao l[k].va.n l[k].va.cap, .slice l[k].wa.ao l[k].wa.n l[k].wa.cap, .bool l[k].has, .slice l[k].so l[k].sn l[k].sc] 42) := ⟨_, rfl⟩
      have C1 : Below wr.heap.size wr W1 := by rw [hW1]; exact (Below.refl _ _).alloc (Nat.le_refl _) _
      have CD := HS.out k hkl W1 ds I0 (HGB.out _ _ G0 C1) (X0.below C1) (L0.below C1)
      have HI2 : Hid ((step ds l[k]).2.e = 0 → I (k + 1) (step ds l[k]).1) := HI1.out k hkl ds I0
      obtain ⟨r, hr⟩ : ∃ r, r = step ds l[k] := ⟨_, rfl⟩
      rw [← hr] at CD HI2 HST
      obtain ⟨o, hoe⟩ : ∃ o, o = l[k] := ⟨_, rfl⟩
      rw [← hoe] at X hW1 CD
      have HSM : Hid (mAll step (l.drop k) ds = if r.2.e = 0 then mAll step (l.drop (k + 1)) r.1 else (r.1, r.2.e)) := HST
      obtain ⟨q0, q1, q2, q3, q4, q5, q6, q7, q8, q9⟩ := X
      obtain ⟨u, A1, -⟩ := X0.below C1
      have L1 := L0.below C1
      have G1 := HGB.out _ _ G0 C1
      unfold OA.val at CD
      clear hc hoe hr HST
      go_wp2_with fail
      rw [← hW1]
      clear hW1
      refine CD.mono ?_
      rintro e w2 ⟨⟨a2, n2, c2, l2, rfl, -, -⟩, X2, K2⟩
      have L2 := L1.tb A1 K2
      have G2 := HGW.out _ _ u G1 A1 K2
      have K3 := K0.trans ((Wr.of C1).trans K2)
      unfold resV
      have C3 : Below w2.heap.size w2 (w2.alloc (.cells #[.int .i64 r.2.e, .slice a2 n2 c2, .bool r.2.more] 34)) := (Below.refl _ _).alloc (Nat.le_refl _) _
      clear CD q0 q1 q2 q3 q4 q5 q6 q7 q8 q9 A1 L1 G1 L0 G0 X0
      by_cases hz2 : r.2.e = 0
      · have z0 : (r.2.e != 0) = false := by simp [hz2]
        have I2 := HI2.out hz2
        have HM2 : Hid (mAll step (l.drop (k + 1)) r.1 = mAll step l cs) := by
          show _ = _
          rw [← HM.out, HSM.out, if_pos hz2]
        clear hz2 HI2 HSM HM
        go_wp2
        go_roundw
        case rel => exact ⟨k + 1, r.1, by omega, by go_num, I2, HM2, X2.below C3, L2.below C3, HGB.out _ _ G2 C3, K3.trans (Wr.of C3)⟩
        case measure => simp [intOf]; omega
      · have z0 : (r.2.e != 0) = true := by simp [hz2]
        have HM2 : Hid (mAll step l cs = (r.1, r.2.e)) := by
          show _ = _
          rw [← HM.out, HSM.out, if_neg hz2]
        clear hz2 HI2 HSM HM
        go_wp2
        go_ret
        exact ⟨by rw [HM2.out]; rfl, by rw [HM2.out]; exact X2.below C3, K3.trans (Wr.of C3)⟩
    · have hge : ¬ (k : Int) < (n : Int) := by omega
      have HM2 : Hid (mAll step l cs = (ds, 0)) := by
        show _ = _
        rw [← HM.out, List.drop_of_length_le (by omega)]
        rfl
      clear HM
      go_wp2
      go_ret
      exact ⟨by rw [HM2.out]; rfl, by rw [HM2.out]; exact X0, K0⟩
end Go.Proofs.YthlpccajnmkbjaaGreatDoor

namespace Go.Proofs.YthlpccajnmkbjaaGreatDoor
open Go.RowKit

theorem mPut_or (cs : List CV) (c : CV) : (mPut cs c).1 = cs ∨ (mPut cs c).1 = cIns cs c ∨ ∃ k, (mPut cs c).1 = cDel (cIns cs c) k := by
  unfold mPut
  split
  · exact .inl rfl
  · split
    · exact .inr (.inl rfl)
    · split
      · exact .inr (.inr ⟨_, rfl⟩)
      · exact .inr (.inl rfl)
theorem mPut_srt {cs : List CV} (h : CSrt cs) (c : CV) : CSrt (mPut cs c).1 := by
  rcases mPut_or cs c with e | e | ⟨k, e⟩ <;> rw [e]
  · exact h
  · exact h.ins c
  · exact (h.ins c).del k
theorem mPut_good {cs : List CV} (h : CGood cs) {c : CV} (hc : c.good) : CGood (mPut cs c).1 := by
  rcases mPut_or cs c with e | e | ⟨k, e⟩ <;> rw [e]
  · exact h
  · exact h.ins hc
  · exact (h.ins hc).del k
theorem mPut_len (cs : List CV) (c : CV) : (mPut cs c).1.length ≤ cs.length + 1 := by
  have h1 := cIns_len cs c
  rcases mPut_or cs c with e | e | ⟨k, e⟩ <;> rw [e]
  · omega
  · exact h1
  · have := cDel_len (cIns cs c) k
    omega
theorem mPut_mem {cs : List CV} {c x : CV} (h : x ∈ (mPut cs c).1) : x = c ∨ x ∈ cs := by
  rcases mPut_or cs c with e | e | ⟨k, e⟩ <;> rw [e] at h
  · exact .inr h
  · exact mem_cIns h
  · exact mem_cIns (mem_cDel h)
/-- Cells that may stand in a tablet of these bounds. -/
structure Stand (f t : ByteArray) (n : Nat) (cs : List CV) : Prop where
  srt : CSrt cs
  good : CGood cs
  rows : ∀ c ∈ cs, inRows f t c.row = true
  len : cs.length ≤ n
theorem Stand.nil (f t : ByteArray) : Stand f t 0 [] := ⟨List.Pairwise.nil, fun _ h => by simp at h, fun _ h => by simp at h, Nat.le_refl _⟩
theorem Stand.mono {f t : ByteArray} {n m : Nat} {cs : List CV} (h : Stand f t n cs) (hm : n ≤ m) : Stand f t m cs := ⟨h.srt, h.good, h.rows, Nat.le_trans h.len hm⟩
theorem Stand.put {f t : ByteArray} {n : Nat} {cs : List CV} (h : Stand f t n cs) {c : CV} (hc : c.good) (hr : inRows f t c.row = true) : Stand f t (n + 1) (mPut cs c).1 :=
  ⟨mPut_srt h.srt c, mPut_good h.good hc, fun x hx => by
    rcases mPut_mem hx with rfl | hx
    · exact hr
    · exact h.rows x hx, Nat.le_trans (mPut_len cs c) (Nat.succ_le_succ h.len)⟩
theorem Stand.lay {f t : ByteArray} {n : Nat} {cs : List CV} (h : Stand f t n cs) {c : CV} (hc : c.good) (hr : inRows f t c.row = true) : Stand f t (n + 1) (cIns cs c) :=
  ⟨h.srt.ins c, h.good.ins hc, fun x hx => by
    rcases mem_cIns hx with rfl | hx
    · exact hr
    · exact h.rows x hx, Nat.le_trans (cIns_len cs c) (Nat.succ_le_succ h.len)⟩
theorem mTake_mem : ∀ (l cs : List CV) {x : CV}, x ∈ mTake cs l → x ∈ cs
  | [], _, _, h => h
  | _ :: l, _, _, h => mem_cDel (mTake_mem l _ h)
theorem Stand.take {f t : ByteArray} {n : Nat} {cs : List CV} (h : Stand f t n cs) (l : List CV) : Stand f t n (mTake cs l) :=
  ⟨mTake_srt l cs h.srt, mTake_good l cs h.good, fun x hx => h.rows x (mTake_mem l cs hx), Nat.le_trans (mTake_len l cs) h.len⟩
theorem Stand.delC {f t : ByteArray} {n : Nat} {cs : List CV} (h : Stand f t n cs) (l : List CV) : Stand f t n (mDelC cs l).1 := by
  unfold mDelC
  split
  · exact h
  · exact h.take l
theorem Stand.chk {f t : ByteArray} {n : Nat} {cs : List CV} (h : Stand f t n cs) {o : OA} (hc : o.cell.c.good) (hr : inRows f t o.row = true) : Stand f t (n + 1) (mChk cs o).1 := by
  unfold mChk
  split
  · exact h.put hc hr
  · exact h.mono (Nat.le_succ n)
end Go.Proofs.YthlpccajnmkbjaaGreatDoor

namespace Go.Proofs.YthlpccajnmkbjaaGreatDoor
open Go.RowKit

/-- The mark of a cell that is gone. -/
def KA.mark (k : KA) : CA := ⟨k.row, k.fam, k.qual, k.time, ⟨none, 0, 0, []⟩, true⟩
/-- A cell is marked gone. -/
def mGone (cs : List CV) (k : KA) : List CV × Int := if ((colC k cs).filter fun c => !c.gone).any (eqK k) then (cIns cs k.mark.c, 0) else (cs, 7)

set_option maxHeartbeats 4000000 in
set_option maxRecDepth 100000 in
theorem mark_any (w : World) (p : Nat) (f t : ByteArray) (cs : List CV) (k : KA) (hTb : Tabs w) (hT : TB w p f t cs) (hs : CSrt cs) (hg : CGood cs) (hn : cs.length ≤ 1000) (hr : k.row.size ≤ 32) (hko : k.ok) (hgd : k.mark.c.good) :
    Calls Tryz.prog 74 #[.pointer (some ⟨p, 0, none⟩), k.val] w (PutPost10 w p f t (mGone cs k)) := by
  have t2 := hTb.two
  obtain ⟨W1, hW1⟩ : ∃ V, V = w.alloc (.cells #[.string k.row, .string k.fam, .string k.qual, .int .u64 k.time] 39) := ⟨_, rfl⟩
  have C1 : Below w.heap.size w W1 := by rw [hW1]; exact (Below.refl _ _).alloc (Nat.le_refl _) _
  have K1 : KyC W1 w.heap.size k := by rw [hW1]; exact KyC.new w k
  have CO := column_row W1 p f t cs k (hT.below C1) hs hg hr hn
  unfold KA.val at CO ⊢
  go_enter Tryz.func74, Tryz.ntmps74
  go_wp2_with fail
  rw [← hW1]
  clear hW1
  refine CO.mono ?_
  rintro e w2 ⟨v, base, l, rfl, hb, R2, hl, C2⟩
  have hll : l.length ≤ 1000 := by
    have h3 := congrArg List.length hl
    rw [List.length_map] at h3
    have h4 := List.length_filter_le (fun x : CV => x.col k) cs
    unfold colC at h3
    omega
  have CD := delete_any w2 base v l 119 #[] (fun c => c.gone) (enters_of Tryz.func119 (by kernel_rfl) rfl) R2 hll (fun W => gone_tells W)
  clear CO
  go_wp2_with fail
  refine CD.mono ?_
  rintro e w3 ⟨ao, n, cap, l3, rfl, L3, hl3, g, hbg, K3⟩
  have hs1 := C1.size
  have hs2 := C2.size
  have C3 : Below W1.heap.size W1 w3 := Wr.below C2 K3 hs2 (by omega)
  have B3 := C1.trans (C3.mono hs1)
  have Y3 := K1.keep C3
  have hn3 : n ≤ 1000 := by
    have h3 := congrArg List.length hl3
    rw [List.length_map, L3.len] at h3
    have h4 := List.length_filter_le (fun c : CV => !c.gone) (l.map CA.c)
    rw [List.length_map] at h4
    omega
  obtain ⟨bb, hbb⟩ : ∃ bb, bb = (l3.map CA.c).any (eqK k) := ⟨_, rfl⟩
  have HBB : Hid (bb = (l3.map CA.c).any (eqK k)) := hbb
  have HB2 : Hid (bb = ((colC k cs).filter fun c => !c.gone).any (eqK k)) := by show _ = _; rw [hbb, hl3, hl]
  have CH := has_any w3 ao n cap l3 k L3 hn3 bb HBB
  unfold KA.val at CH
  have q0 : w3.cell? ⟨w.heap.size, 0, none⟩ = some (.string k.row) := Y3.c0
  have q1 : w3.cell? ⟨w.heap.size, 1, none⟩ = some (.string k.fam) := Y3.c1
  have q2 : w3.cell? ⟨w.heap.size, 2, none⟩ = some (.string k.qual) := Y3.c2
  have q3 : w3.cell? ⟨w.heap.size, 3, none⟩ = some (.int .u64 k.time) := Y3.c3
  clear CD hl3 hl hbb K3 C2
  go_wp2_with fail
  refine CH.mono ?_
  rintro e w4 ⟨rfl, C4⟩
  have B4 := B3.trans (C4.mono B3.size)
  have Y4 := Y3.keep C4
  clear CH q0 q1 q2 q3
  cases bb with
  | false =>
    have HM : Hid (mGone cs k = (cs, 7)) := by
      show _ = _
      unfold mGone
      rw [← HB2.out]
      rfl
    clear HBB HB2
    go_wp2
    go_ret
    exact ⟨by rw [HM.out]; rfl, by rw [HM.out]; exact hT.below B4, Wr.of B4⟩
  | true =>
    have HM : Hid (mGone cs k = (cIns cs k.mark.c, 0)) := by
      show _ = _
      unfold mGone
      rw [← HB2.out]
      rfl
    have CL := lay_any w4 p f t cs k.mark (hTb.below B4 t2) (hT.below B4) hs hn ⟨hko.row, hko.fam, hko.qual, hko.time, Sl.nothing _⟩ hgd (Nat.zero_le _)
    rw [show k.mark.val = .agg #[.string k.row, .string k.fam, .string k.qual, .int .u64 k.time, .slice none 0 0, .bool true] from rfl] at CL
    have q0 : w4.cell? ⟨w.heap.size, 0, none⟩ = some (.string k.row) := Y4.c0
    have q1 : w4.cell? ⟨w.heap.size, 1, none⟩ = some (.string k.fam) := Y4.c1
    have q2 : w4.cell? ⟨w.heap.size, 2, none⟩ = some (.string k.qual) := Y4.c2
    have q3 : w4.cell? ⟨w.heap.size, 3, none⟩ = some (.int .u64 k.time) := Y4.c3
    clear HBB HB2
    go_wp2_with fail
    refine CL.mono ?_
    rintro e w5 ⟨rfl, X5, K5⟩
    have K6 := (Wr.of (p := p) B4).trans K5
    clear CL q0 q1 q2 q3
    go_wp2
    go_ret
    exact ⟨by rw [HM.out]; rfl, by rw [HM.out]; exact X5, K6⟩

set_option maxHeartbeats 2000000 in
set_option maxRecDepth 100000 in
theorem do_delcell (w : World) (p : Nat) (f t : ByteArray) (cs : List CV) (o : OA) (hk : o.kind = 2) (hTb : Tabs w) (hT : TB w p f t cs) (hs : CSrt cs) (hg : CGood cs) (hn : cs.length ≤ 1000) (hok : o.ok w) (hr : o.row.size ≤ 32) (hgd : o.key.mark.c.good) :
    Calls Tryz.prog 48 #[.pointer (some ⟨p, 0, none⟩), o.val] w (DoPost w p f t ((mGone cs o.key).1, ⟨(mGone cs o.key).2, [], false⟩)) := by
  have t2 := hTb.two
  obtain ⟨W1, hW1⟩ : ∃ V, V = w.alloc (.cells #[.int .i64 o.kind, .string o.row, .string o.fam, .string o.qual, .int .u64 o.time, .string o.to, .slice o.va.ao o.va.n o.va.cap, .slice o.wa.ao o.wa.n o.wa.cap, .bool o.has, .slice o.so o.sn o.sc] 42) := ⟨_, rfl⟩
  obtain ⟨W2, hW2⟩ : ∃ V, V = W1.alloc (.cells #[.int .i64 0, .slice none 0 0, .bool false] 34) := ⟨_, rfl⟩
  have C1 : Below w.heap.size w W1 := by rw [hW1]; exact (Below.refl _ _).alloc (Nat.le_refl _) _
  have C2 : Below W1.heap.size W1 W2 := by rw [hW2]; exact (Below.refl _ _).alloc (Nat.le_refl _) _
  have B2 := C1.trans (C2.mono C1.size)
  have s1 : W1.heap.size = w.heap.size + 1 := by rw [hW1]; exact Array.size_push ..
  have O1 : OC W1 w.heap.size o := by rw [hW1]; exact OC.new w o
  have O2 := O1.keep C2
  have R2 : Arr W2 (w.heap.size + 1) 34 [.int .i64 0, .slice none 0 0, .bool false] := by rw [hW2, ← s1]; exact heap_alloc_new W1 _
  have hp := hT.lt
  have CT := mark_any W2 p f t cs o.key (hTb.below B2 t2) (hT.below B2) hs hg hn hr ⟨hok.row, hok.fam, hok.qual, hok.time⟩ hgd
  rw [show o.key.val = .agg #[.string o.row, .string o.fam, .string o.qual, .int .u64 o.time] from rfl] at CT
  have k1 : (o.kind == 1) = false := by simp [hk]
  have k2 : (o.kind == 2) = true := by simp [hk]
  have k3 : (o.kind == 3) = false := by simp [hk]
  have k4 : (o.kind == 4) = false := by simp [hk]
  have k5 : (o.kind == 5) = false := by simp [hk]
  have k6 : (o.kind == 6) = false := by simp [hk]
  have k7 : (o.kind == 7) = false := by simp [hk]
  obtain ⟨m, hm⟩ : ∃ m, m = mGone cs o.key := ⟨_, rfl⟩
  rw [← hm] at CT ⊢
  clear hk hm
  unfold OA.val
  go_enter Tryz.func48, Tryz.ntmps48
  go_wp2_with fail
  rw [← hW1, ← hW2]
  clear hW1 hW2 s1
  refine CT.mono ?_
  rintro e w4 ⟨rfl, X4, K4⟩
  have R4 : Arr w4 (w.heap.size + 1) 34 [.int .i64 0, .slice none 0 0, .bool false] := (K4.block _ R2.lt (by omega)).trans R2
  have K4' := (Wr.of (p := p) B2).trans K4
  clear CT R2
  have CB := only_any w4 m.2
  unfold resV at CB
  go_wp2_with fail
  refine CB.mono ?_
  rintro e w5 ⟨rfl, C5⟩
  have R5 := arr_below R4 C5
  have X5 := X4.below C5
  have K5 := K4'.trans (Wr.of C5)
  have r0 : w5.cell? ⟨w.heap.size + 1, 0, none⟩ = some (.int .i64 0) := R5.cell 0
  have f0 := R5.free 0
  have r1 : w5.cell? ⟨w.heap.size + 1, 1, none⟩ = some (.slice none 0 0) := R5.cell 1
  have f1 := R5.free 1
  have r2 : w5.cell? ⟨w.heap.size + 1, 2, none⟩ = some (.bool false) := R5.cell 2
  have f2 := R5.free 2
  have lt := R5.lt
  clear CB R4 X4
  have KW : Wr (w.heap.size + 1) w5 (((w5.setCell ⟨w.heap.size + 1, 0, none⟩ (.int .i64 m.2)).setCell ⟨w.heap.size + 1, 1, none⟩ (.slice none 0 0)).setCell ⟨w.heap.size + 1, 2, none⟩ (.bool false)) := (((Wr.refl _ _).set 0 _).set 1 _).set 2 _
  go_wp2
  exact bodyPost_ret (v := .agg #[.int .i64 m.2, .slice none 0 0, .bool false]) (by simp [results, Tryz.results48, go_sem, r0, r1, r2]) rfl ⟨ResP.bad m.2 _, TB.dull R5 (Dull.res _ _) KW (by omega) X5, K5.new KW (Nat.le_succ _)⟩

theorem Stand.gone {f t : ByteArray} {n : Nat} {cs : List CV} (h : Stand f t n cs) {k : KA} (hc : k.mark.c.good) (hr : inRows f t k.row = true) : Stand f t (n + 1) (mGone cs k).1 := by
  unfold mGone
  split
  · exact h.lay hc hr
  · exact h.mono (Nat.le_succ n)
end Go.Proofs.YthlpccajnmkbjaaGreatDoor

namespace Go.Proofs.YthlpccajnmkbjaaGreatDoor
open Go.RowKit

/-- Is a row above the bound? -/
def isAb (t r : ByteArray) : Bool := decide (t.size ≠ 0 ∧ cmpL (sb t) (sb r) < 0)
/-- Is a scan outside? -/
def outScan (f t r x : ByteArray) : Bool := decide (cmpL (sb r) (sb f) < 0) || (isAb t r || isAb t x)

theorem gt_sb (r t : ByteArray) : (!Op.bytesLess r.toList t.toList && !(r.toList == t.toList)) = decide (cmpL (sb t) (sb r) < 0) := by
  rw [less_sb]
  by_cases e : r = t
  · subst e
    rw [decide_eq_false (cmpL_irr _)]
    simp
  · rw [toL_ne e]
    rcases cmpL_total (sb r) (sb t) with h | h | h
    · rw [decide_eq_true h, decide_eq_false (cmpL_asym h)]; rfl
    · exact absurd (sb_inj h) e
    · rw [decide_eq_false (cmpL_asym h), decide_eq_true h]; rfl
set_option maxHeartbeats 1000000 in
theorem isabove_any (w : World) (p : Nat) (f t r : ByteArray) (u : Option Addr) (h : TbC w p f t u) :
    Calls Tryz.prog 71 #[.pointer (some ⟨p, 0, none⟩), .string r] w fun e w' => e = .returned (.bool (isAb t r)) ∧ w' = w := by
  have c1 : w.cell? ⟨p, 1, none⟩ = some (.string t) := Arr.cell h 1
  clear h
  by_cases hz : t.size = 0
  · have HV : Hid (isAb t r = false) := decide_eq_false fun h => h.1 hz
    have e0 : (t.toList == (ByteArray.mk #[]).toList) = true := by rw [empty_of hz]; simp
    have ee : t.toList.isEmpty = true := by rw [toE]; exact decide_eq_true hz
    clear hz
    go_enter Tryz.func71, Tryz.ntmps71
    go_wp2
    go_ret
    exact ⟨by rw [HV.out] <;> rfl, rfl⟩
  have e0 : (t.toList == (ByteArray.mk #[]).toList) = false := toL_ne (fun h => hz (by rw [h]; rfl))
  have e1' : (t.toList == []) = false := by rw [← e0]; congr 1; simp
  have ee : t.toList.isEmpty = false := by rw [toE]; exact decide_eq_false hz
  have HV : Hid (isAb t r = (!Op.bytesLess r.toList t.toList && !(r.toList == t.toList))) := by
    show _ = _
    rw [gt_sb]
    exact decide_eq_decide.2 ⟨fun h => h.2, fun h => ⟨hz, h⟩⟩
  clear hz
  go_enter Tryz.func71, Tryz.ntmps71
  go_wp2
  go_ret
  exact ⟨by rw [HV.out] <;> rfl, rfl⟩

set_option maxHeartbeats 4000000 in
set_option maxRecDepth 100000 in
theorem isout_scan (w : World) (p : Nat) (f t : ByteArray) (u : Option Addr) (o : OA) (h : TbC w p f t u) (hk : o.kind = 8) :
    Calls Tryz.prog 47 #[.pointer (some ⟨p, 0, none⟩), o.val] w fun e w' => e = .returned (.bool (outScan f t o.row o.to)) ∧ Below w.heap.size w w' := by
  have C1 : Below w.heap.size w (w.alloc (.cells #[.int .i64 o.kind, .string o.row, .string o.fam, .string o.qual, .int .u64 o.time, .string o.to, .slice o.va.ao o.va.n o.va.cap, .slice o.wa.ao o.wa.n o.wa.cap, .bool o.has, .slice o.so o.sn o.sc] 42)) := (Below.refl _ _).alloc (Nat.le_refl _) _
  have h1 := arr_below h C1
  have O1 := OC.new w o
  have o0 : (w.alloc (.cells #[.int .i64 o.kind, .string o.row, .string o.fam, .string o.qual, .int .u64 o.time, .string o.to, .slice o.va.ao o.va.n o.va.cap, .slice o.wa.ao o.wa.n o.wa.cap, .bool o.has, .slice o.so o.sn o.sc] 42)).cell? ⟨w.heap.size, 0, none⟩ = some (.int .i64 o.kind) := O1.cs.c0
  have o1 : (w.alloc (.cells #[.int .i64 o.kind, .string o.row, .string o.fam, .string o.qual, .int .u64 o.time, .string o.to, .slice o.va.ao o.va.n o.va.cap, .slice o.wa.ao o.wa.n o.wa.cap, .bool o.has, .slice o.so o.sn o.sc] 42)).cell? ⟨w.heap.size, 1, none⟩ = some (.string o.row) := O1.cs.c1
  have o2 : (w.alloc (.cells #[.int .i64 o.kind, .string o.row, .string o.fam, .string o.qual, .int .u64 o.time, .string o.to, .slice o.va.ao o.va.n o.va.cap, .slice o.wa.ao o.wa.n o.wa.cap, .bool o.has, .slice o.so o.sn o.sc] 42)).cell? ⟨w.heap.size, 2, none⟩ = some (.string o.fam) := O1.cs.c2
  have o3 : (w.alloc (.cells #[.int .i64 o.kind, .string o.row, .string o.fam, .string o.qual, .int .u64 o.time, .string o.to, .slice o.va.ao o.va.n o.va.cap, .slice o.wa.ao o.wa.n o.wa.cap, .bool o.has, .slice o.so o.sn o.sc] 42)).cell? ⟨w.heap.size, 3, none⟩ = some (.string o.qual) := O1.cs.c3
  have o4 : (w.alloc (.cells #[.int .i64 o.kind, .string o.row, .string o.fam, .string o.qual, .int .u64 o.time, .string o.to, .slice o.va.ao o.va.n o.va.cap, .slice o.wa.ao o.wa.n o.wa.cap, .bool o.has, .slice o.so o.sn o.sc] 42)).cell? ⟨w.heap.size, 4, none⟩ = some (.int .u64 o.time) := O1.cs.c4
  have o5 : (w.alloc (.cells #[.int .i64 o.kind, .string o.row, .string o.fam, .string o.qual, .int .u64 o.time, .string o.to, .slice o.va.ao o.va.n o.va.cap, .slice o.wa.ao o.wa.n o.wa.cap, .bool o.has, .slice o.so o.sn o.sc] 42)).cell? ⟨w.heap.size, 5, none⟩ = some (.string o.to) := O1.cs.c5
  have o6 : (w.alloc (.cells #[.int .i64 o.kind, .string o.row, .string o.fam, .string o.qual, .int .u64 o.time, .string o.to, .slice o.va.ao o.va.n o.va.cap, .slice o.wa.ao o.wa.n o.wa.cap, .bool o.has, .slice o.so o.sn o.sc] 42)).cell? ⟨w.heap.size, 6, none⟩ = some (.slice o.va.ao o.va.n o.va.cap) := O1.cs.c6
  have o7 : (w.alloc (.cells #[.int .i64 o.kind, .string o.row, .string o.fam, .string o.qual, .int .u64 o.time, .string o.to, .slice o.va.ao o.va.n o.va.cap, .slice o.wa.ao o.wa.n o.wa.cap, .bool o.has, .slice o.so o.sn o.sc] 42)).cell? ⟨w.heap.size, 7, none⟩ = some (.slice o.wa.ao o.wa.n o.wa.cap) := O1.cs.c7
  have o8 : (w.alloc (.cells #[.int .i64 o.kind, .string o.row, .string o.fam, .string o.qual, .int .u64 o.time, .string o.to, .slice o.va.ao o.va.n o.va.cap, .slice o.wa.ao o.wa.n o.wa.cap, .bool o.has, .slice o.so o.sn o.sc] 42)).cell? ⟨w.heap.size, 8, none⟩ = some (.bool o.has) := O1.cs.c8
  have o9 : (w.alloc (.cells #[.int .i64 o.kind, .string o.row, .string o.fam, .string o.qual, .int .u64 o.time, .string o.to, .slice o.va.ao o.va.n o.va.cap, .slice o.wa.ao o.wa.n o.wa.cap, .bool o.has, .slice o.so o.sn o.sc] 42)).cell? ⟨w.heap.size, 9, none⟩ = some (.slice o.so o.sn o.sc) := O1.cs.c9
  have c0 : (w.alloc (.cells #[.int .i64 o.kind, .string o.row, .string o.fam, .string o.qual, .int .u64 o.time, .string o.to, .slice o.va.ao o.va.n o.va.cap, .slice o.wa.ao o.wa.n o.wa.cap, .bool o.has, .slice o.so o.sn o.sc] 42)).cell? ⟨p, 0, none⟩ = some (.string f) := Arr.cell h1 0
  have k8 : (o.kind != 8) = false := by simp [hk]
  clear hk
  unfold OA.val
  by_cases e1 : cmpL (sb o.row) (sb f) < 0
  · have HV : Hid (outScan f t o.row o.to = true) := by show _ = _; unfold outScan; rw [decide_eq_true e1]; rfl
    have l1 : Op.bytesLess o.row.toList f.toList = true := by rw [less_sb]; exact decide_eq_true e1
    clear e1
    go_enter Tryz.func47, Tryz.ntmps47
    go_wp2_with fail
    go_quiet (fail)
    go_wp2
    go_ret
    exact ⟨by rw [HV.out] <;> rfl, belN C1 _⟩
  have l1 : Op.bytesLess o.row.toList f.toList = false := by rw [less_sb]; exact decide_eq_false e1
  cases HA : isAb t o.row with
  | true =>
    have HV : Hid (outScan f t o.row o.to = true) := by show _ = _; unfold outScan; rw [HA]; simp
    have A : ∀ q, Calls Tryz.prog 71 #[.pointer (some ⟨p, 0, none⟩), .string o.row] ((w.alloc (.cells #[.int .i64 o.kind, .string o.row, .string o.fam, .string o.qual, .int .u64 o.time, .string o.to, .slice o.va.ao o.va.n o.va.cap, .slice o.wa.ao o.wa.n o.wa.cap, .bool o.has, .slice o.so o.sn o.sc] 42)).drewN q) fun e w' => e = .returned (.bool true) ∧ w' = (w.alloc (.cells #[.int .i64 o.kind, .string o.row, .string o.fam, .string o.qual, .int .u64 o.time, .string o.to, .slice o.va.ao o.va.n o.va.cap, .slice o.wa.ao o.wa.n o.wa.cap, .bool o.has, .slice o.so o.sn o.sc] 42)).drewN q := fun q => by
      have X := isabove_any ((w.alloc (.cells #[.int .i64 o.kind, .string o.row, .string o.fam, .string o.qual, .int .u64 o.time, .string o.to, .slice o.va.ao o.va.n o.va.cap, .slice o.wa.ao o.wa.n o.wa.cap, .bool o.has, .slice o.so o.sn o.sc] 42)).drewN q) p f t o.row u (arr_below h1 (below_drewN _ _ _))
      rw [HA] at X
      exact X
    clear HA e1
    go_enter Tryz.func47, Tryz.ntmps47
    go_wp2_with fail
    go_quiet ((first | (go_at_call_of 71 (Value.string o.row); exact Calls.quiet_of_same (A _))))
    go_wp2
    go_ret
    exact ⟨by rw [HV.out] <;> rfl, belN C1 _⟩
  | false =>
    cases HB : isAb t o.to with
    | true =>
      have HV : Hid (outScan f t o.row o.to = true) := by show _ = _; unfold outScan; rw [HB]; simp
      have A : ∀ q, Calls Tryz.prog 71 #[.pointer (some ⟨p, 0, none⟩), .string o.row] ((w.alloc (.cells #[.int .i64 o.kind, .string o.row, .string o.fam, .string o.qual, .int .u64 o.time, .string o.to, .slice o.va.ao o.va.n o.va.cap, .slice o.wa.ao o.wa.n o.wa.cap, .bool o.has, .slice o.so o.sn o.sc] 42)).drewN q) fun e w' => e = .returned (.bool false) ∧ w' = (w.alloc (.cells #[.int .i64 o.kind, .string o.row, .string o.fam, .string o.qual, .int .u64 o.time, .string o.to, .slice o.va.ao o.va.n o.va.cap, .slice o.wa.ao o.wa.n o.wa.cap, .bool o.has, .slice o.so o.sn o.sc] 42)).drewN q := fun q => by
        have X := isabove_any ((w.alloc (.cells #[.int .i64 o.kind, .string o.row, .string o.fam, .string o.qual, .int .u64 o.time, .string o.to, .slice o.va.ao o.va.n o.va.cap, .slice o.wa.ao o.wa.n o.wa.cap, .bool o.has, .slice o.so o.sn o.sc] 42)).drewN q) p f t o.row u (arr_below h1 (below_drewN _ _ _))
        rw [HA] at X
        exact X
      have B : ∀ q, Calls Tryz.prog 71 #[.pointer (some ⟨p, 0, none⟩), .string o.to] ((w.alloc (.cells #[.int .i64 o.kind, .string o.row, .string o.fam, .string o.qual, .int .u64 o.time, .string o.to, .slice o.va.ao o.va.n o.va.cap, .slice o.wa.ao o.wa.n o.wa.cap, .bool o.has, .slice o.so o.sn o.sc] 42)).drewN q) fun e w' => e = .returned (.bool true) ∧ w' = (w.alloc (.cells #[.int .i64 o.kind, .string o.row, .string o.fam, .string o.qual, .int .u64 o.time, .string o.to, .slice o.va.ao o.va.n o.va.cap, .slice o.wa.ao o.wa.n o.wa.cap, .bool o.has, .slice o.so o.sn o.sc] 42)).drewN q := fun q => by
        have X := isabove_any ((w.alloc (.cells #[.int .i64 o.kind, .string o.row, .string o.fam, .string o.qual, .int .u64 o.time, .string o.to, .slice o.va.ao o.va.n o.va.cap, .slice o.wa.ao o.wa.n o.wa.cap, .bool o.has, .slice o.so o.sn o.sc] 42)).drewN q) p f t o.to u (arr_below h1 (below_drewN _ _ _))
        rw [HB] at X
        exact X
      clear HA HB e1
      go_enter Tryz.func47, Tryz.ntmps47
      go_wp2_with fail
      go_quiet ((first | (go_at_call_of 71 (Value.string o.row); exact Calls.quiet_of_same (A _)) | (go_at_call_of 71 (Value.string o.to); exact Calls.quiet_of_same (B _))))
      go_wp2
      go_ret
      exact ⟨by rw [HV.out] <;> rfl, belN C1 _⟩
    | false =>
      have HV : Hid (outScan f t o.row o.to = false) := by show _ = _; unfold outScan; rw [HA, HB, decide_eq_false e1]; rfl
      have A : ∀ q, Calls Tryz.prog 71 #[.pointer (some ⟨p, 0, none⟩), .string o.row] ((w.alloc (.cells #[.int .i64 o.kind, .string o.row, .string o.fam, .string o.qual, .int .u64 o.time, .string o.to, .slice o.va.ao o.va.n o.va.cap, .slice o.wa.ao o.wa.n o.wa.cap, .bool o.has, .slice o.so o.sn o.sc] 42)).drewN q) fun e w' => e = .returned (.bool false) ∧ w' = (w.alloc (.cells #[.int .i64 o.kind, .string o.row, .string o.fam, .string o.qual, .int .u64 o.time, .string o.to, .slice o.va.ao o.va.n o.va.cap, .slice o.wa.ao o.wa.n o.wa.cap, .bool o.has, .slice o.so o.sn o.sc] 42)).drewN q := fun q => by
        have X := isabove_any ((w.alloc (.cells #[.int .i64 o.kind, .string o.row, .string o.fam, .string o.qual, .int .u64 o.time, .string o.to, .slice o.va.ao o.va.n o.va.cap, .slice o.wa.ao o.wa.n o.wa.cap, .bool o.has, .slice o.so o.sn o.sc] 42)).drewN q) p f t o.row u (arr_below h1 (below_drewN _ _ _))
        rw [HA] at X
        exact X
      have B : ∀ q, Calls Tryz.prog 71 #[.pointer (some ⟨p, 0, none⟩), .string o.to] ((w.alloc (.cells #[.int .i64 o.kind, .string o.row, .string o.fam, .string o.qual, .int .u64 o.time, .string o.to, .slice o.va.ao o.va.n o.va.cap, .slice o.wa.ao o.wa.n o.wa.cap, .bool o.has, .slice o.so o.sn o.sc] 42)).drewN q) fun e w' => e = .returned (.bool false) ∧ w' = (w.alloc (.cells #[.int .i64 o.kind, .string o.row, .string o.fam, .string o.qual, .int .u64 o.time, .string o.to, .slice o.va.ao o.va.n o.va.cap, .slice o.wa.ao o.wa.n o.wa.cap, .bool o.has, .slice o.so o.sn o.sc] 42)).drewN q := fun q => by
        have X := isabove_any ((w.alloc (.cells #[.int .i64 o.kind, .string o.row, .string o.fam, .string o.qual, .int .u64 o.time, .string o.to, .slice o.va.ao o.va.n o.va.cap, .slice o.wa.ao o.wa.n o.wa.cap, .bool o.has, .slice o.so o.sn o.sc] 42)).drewN q) p f t o.to u (arr_below h1 (below_drewN _ _ _))
        rw [HB] at X
        exact X
      clear HA HB e1
      go_enter Tryz.func47, Tryz.ntmps47
      go_wp2_with fail
      go_quiet ((first | (go_at_call_of 71 (Value.string o.row); exact Calls.quiet_of_same (A _)) | (go_at_call_of 71 (Value.string o.to); exact Calls.quiet_of_same (B _))))
      go_wp2
      go_ret
      exact ⟨by rw [HV.out] <;> rfl, belN C1 _⟩

end Go.Proofs.YthlpccajnmkbjaaGreatDoor

namespace Go.Proofs.YthlpccajnmkbjaaGreatDoor
open Go.RowKit

set_option maxHeartbeats 4000000 in
set_option maxRecDepth 100000 in
theorem apply_bad (w : World) (p : Nat) (f t : ByteArray) (cs : List CV) (o : OA) (l : List OA) (hT : TB w p f t cs) (hok : o.ok w) (hs : OWL w 0 o.so o.sn o.sc l) (hr : rightO o.s (l.map sn0) = false) :
    Calls Tryz.prog 15 #[.pointer (some ⟨p, 0, none⟩), o.val] w (DoPost w p f t (cs, ⟨6, [], false⟩)) := by
  obtain ⟨W1, hW1⟩ : ∃ V, V = w.alloc (.cells #[.int .i64 o.kind, .string o.row, .string o.fam, .string o.qual, .int .u64 o.time, .string o.to, .slice o.va.ao o.va.n o.va.cap, .slice o.wa.ao o.wa.n o.wa.cap, .bool o.has, .slice o.so o.sn o.sc] 42) := ⟨_, rfl⟩
  obtain ⟨W2, hW2⟩ : ∃ V, V = W1.alloc (.cells #[.int .i64 0, .slice none 0 0, .bool false] 34) := ⟨_, rfl⟩
  have C1 : Below w.heap.size w W1 := by rw [hW1]; exact (Below.refl _ _).alloc (Nat.le_refl _) _
  have C2 : Below W1.heap.size W1 W2 := by rw [hW2]; exact (Below.refl _ _).alloc (Nat.le_refl _) _
  have B2 := C1.trans (C2.mono C1.size)
  have s1 : W1.heap.size = w.heap.size + 1 := by rw [hW1]; exact Array.size_push ..
  have O1 : OC W1 w.heap.size o := by rw [hW1]; exact OC.new w o
  have O2 := O1.keep C2
  have R2 : Arr W2 (w.heap.size + 1) 34 [.int .i64 0, .slice none 0 0, .bool false] := by rw [hW2, ← s1]; exact heap_alloc_new W1 _
  have hp := hT.lt
  have CR := pRight_any W2 o l (hok.below B2) (hs.below B2)
  rw [hr] at CR
  unfold OA.val at CR ⊢
  have o0 : W2.cell? ⟨w.heap.size, 0, none⟩ = some (.int .i64 o.kind) := O2.cs.c0
  have o1 : W2.cell? ⟨w.heap.size, 1, none⟩ = some (.string o.row) := O2.cs.c1
  have o2 : W2.cell? ⟨w.heap.size, 2, none⟩ = some (.string o.fam) := O2.cs.c2
  have o3 : W2.cell? ⟨w.heap.size, 3, none⟩ = some (.string o.qual) := O2.cs.c3
  have o4 : W2.cell? ⟨w.heap.size, 4, none⟩ = some (.int .u64 o.time) := O2.cs.c4
  have o5 : W2.cell? ⟨w.heap.size, 5, none⟩ = some (.string o.to) := O2.cs.c5
  have o6 : W2.cell? ⟨w.heap.size, 6, none⟩ = some (.slice o.va.ao o.va.n o.va.cap) := O2.cs.c6
  have o7 : W2.cell? ⟨w.heap.size, 7, none⟩ = some (.slice o.wa.ao o.wa.n o.wa.cap) := O2.cs.c7
  have o8 : W2.cell? ⟨w.heap.size, 8, none⟩ = some (.bool o.has) := O2.cs.c8
  have o9 : W2.cell? ⟨w.heap.size, 9, none⟩ = some (.slice o.so o.sn o.sc) := O2.cs.c9
  clear hs hok hr
  go_enter Tryz.func15, Tryz.ntmps15
  go_wp2_with fail
  rw [← hW1, ← hW2]
  clear hW1 hW2 s1
  refine CR.mono ?_
  rintro e w3 ⟨rfl, C3⟩
  rw [show kindO false = 6 from rfl]
  have B3 := B2.trans (C3.mono B2.size)
  have R3 := arr_below R2 C3
  clear o0 o1 o2 o3 o4 o5 o6 o7 o8 o9
  clear CR R2 O2 C3
  have CB := only_any w3 6
  unfold resV at CB
  go_wp2_with fail
  refine CB.mono ?_
  rintro e w5 ⟨rfl, C5⟩
  have B5 := B3.trans (C5.mono B3.size)
  have R5 := arr_below R3 C5
  have r0 : w5.cell? ⟨w.heap.size + 1, 0, none⟩ = some (.int .i64 0) := R5.cell 0
  have f0 := R5.free 0
  have r1 : w5.cell? ⟨w.heap.size + 1, 1, none⟩ = some (.slice none 0 0) := R5.cell 1
  have f1 := R5.free 1
  have r2 : w5.cell? ⟨w.heap.size + 1, 2, none⟩ = some (.bool false) := R5.cell 2
  have f2 := R5.free 2
  have lt := R5.lt
  have KW : Wr (w.heap.size + 1) w5 (((w5.setCell ⟨w.heap.size + 1, 0, none⟩ (.int .i64 6)).setCell ⟨w.heap.size + 1, 1, none⟩ (.slice none 0 0)).setCell ⟨w.heap.size + 1, 2, none⟩ (.bool false)) := (((Wr.refl _ _).set 0 _).set 1 _).set 2 _
  clear CB
  go_wp2
  exact bodyPost_ret (v := .agg #[.int .i64 6, .slice none 0 0, .bool false]) (by simp [results, Tryz.results15, go_sem, r0, r1, r2]) rfl ⟨ResP.bad 6 _, TB.dull R5 (Dull.res _ _) KW (by omega) (hT.below B5), (Wr.of B5).new KW (Nat.le_succ _)⟩

set_option maxHeartbeats 4000000 in
set_option maxRecDepth 100000 in
theorem apply_out (w : World) (p : Nat) (f t : ByteArray) (cs : List CV) (o : OA) (l : List OA) (hT : TB w p f t cs) (hok : o.ok w) (hs : OWL w 0 o.so o.sn o.sc l) (hr : rightO o.s (l.map sn0) = true)
    (hout : ∀ V u, Below w.heap.size w V → TbC V p f t u → Calls Tryz.prog 47 #[.pointer (some ⟨p, 0, none⟩), o.val] V fun e w' => e = .returned (.bool true) ∧ Below V.heap.size V w') :
    Calls Tryz.prog 15 #[.pointer (some ⟨p, 0, none⟩), o.val] w (DoPost w p f t (cs, ⟨8, [], false⟩)) := by
  obtain ⟨W1, hW1⟩ : ∃ V, V = w.alloc (.cells #[.int .i64 o.kind, .string o.row, .string o.fam, .string o.qual, .int .u64 o.time, .string o.to, .slice o.va.ao o.va.n o.va.cap, .slice o.wa.ao o.wa.n o.wa.cap, .bool o.has, .slice o.so o.sn o.sc] 42) := ⟨_, rfl⟩
  obtain ⟨W2, hW2⟩ : ∃ V, V = W1.alloc (.cells #[.int .i64 0, .slice none 0 0, .bool false] 34) := ⟨_, rfl⟩
  have C1 : Below w.heap.size w W1 := by rw [hW1]; exact (Below.refl _ _).alloc (Nat.le_refl _) _
  have C2 : Below W1.heap.size W1 W2 := by rw [hW2]; exact (Below.refl _ _).alloc (Nat.le_refl _) _
  have B2 := C1.trans (C2.mono C1.size)
  have s1 : W1.heap.size = w.heap.size + 1 := by rw [hW1]; exact Array.size_push ..
  have O1 : OC W1 w.heap.size o := by rw [hW1]; exact OC.new w o
  have O2 := O1.keep C2
  have R2 : Arr W2 (w.heap.size + 1) 34 [.int .i64 0, .slice none 0 0, .bool false] := by rw [hW2, ← s1]; exact heap_alloc_new W1 _
  have hp := hT.lt
  have CR := pRight_any W2 o l (hok.below B2) (hs.below B2)
  rw [hr] at CR
  unfold OA.val at CR hout ⊢
  have o0 : W2.cell? ⟨w.heap.size, 0, none⟩ = some (.int .i64 o.kind) := O2.cs.c0
  have o1 : W2.cell? ⟨w.heap.size, 1, none⟩ = some (.string o.row) := O2.cs.c1
  have o2 : W2.cell? ⟨w.heap.size, 2, none⟩ = some (.string o.fam) := O2.cs.c2
  have o3 : W2.cell? ⟨w.heap.size, 3, none⟩ = some (.string o.qual) := O2.cs.c3
  have o4 : W2.cell? ⟨w.heap.size, 4, none⟩ = some (.int .u64 o.time) := O2.cs.c4
  have o5 : W2.cell? ⟨w.heap.size, 5, none⟩ = some (.string o.to) := O2.cs.c5
  have o6 : W2.cell? ⟨w.heap.size, 6, none⟩ = some (.slice o.va.ao o.va.n o.va.cap) := O2.cs.c6
  have o7 : W2.cell? ⟨w.heap.size, 7, none⟩ = some (.slice o.wa.ao o.wa.n o.wa.cap) := O2.cs.c7
  have o8 : W2.cell? ⟨w.heap.size, 8, none⟩ = some (.bool o.has) := O2.cs.c8
  have o9 : W2.cell? ⟨w.heap.size, 9, none⟩ = some (.slice o.so o.sn o.sc) := O2.cs.c9
  have HOUT : Hid (∀ V u, Below w.heap.size w V → TbC V p f t u → Calls Tryz.prog 47 #[.pointer (some ⟨p, 0, none⟩), .agg #[.int .i64 o.kind, .string o.row, .string o.fam, .string o.qual, .int .u64 o.time, .string o.to, .slice o.va.ao o.va.n o.va.cap, .slice o.wa.ao o.wa.n o.wa.cap, .bool o.has, .slice o.so o.sn o.sc]] V fun e w' => e = .returned (.bool true) ∧ Below V.heap.size V w') := hout
  clear hout hs hok hr
  go_enter Tryz.func15, Tryz.ntmps15
  go_wp2_with fail
  rw [← hW1, ← hW2]
  clear hW1 hW2 s1
  refine CR.mono ?_
  rintro e w3 ⟨rfl, C3⟩
  rw [show kindO true = 0 from rfl]
  have B3 := B2.trans (C3.mono B2.size)
  have R3 := arr_below R2 C3
  have O3 := O2.keep C3
  obtain ⟨u, A3, T3⟩ := hT.below B3
  have CO := HOUT.out w3 u B3 A3
  clear o0 o1 o2 o3 o4 o5 o6 o7 o8 o9
  have o0 : w3.cell? ⟨w.heap.size, 0, none⟩ = some (.int .i64 o.kind) := O3.cs.c0
  have o1 : w3.cell? ⟨w.heap.size, 1, none⟩ = some (.string o.row) := O3.cs.c1
  have o2 : w3.cell? ⟨w.heap.size, 2, none⟩ = some (.string o.fam) := O3.cs.c2
  have o3 : w3.cell? ⟨w.heap.size, 3, none⟩ = some (.string o.qual) := O3.cs.c3
  have o4 : w3.cell? ⟨w.heap.size, 4, none⟩ = some (.int .u64 o.time) := O3.cs.c4
  have o5 : w3.cell? ⟨w.heap.size, 5, none⟩ = some (.string o.to) := O3.cs.c5
  have o6 : w3.cell? ⟨w.heap.size, 6, none⟩ = some (.slice o.va.ao o.va.n o.va.cap) := O3.cs.c6
  have o7 : w3.cell? ⟨w.heap.size, 7, none⟩ = some (.slice o.wa.ao o.wa.n o.wa.cap) := O3.cs.c7
  have o8 : w3.cell? ⟨w.heap.size, 8, none⟩ = some (.bool o.has) := O3.cs.c8
  have o9 : w3.cell? ⟨w.heap.size, 9, none⟩ = some (.slice o.so o.sn o.sc) := O3.cs.c9
  clear CR R2 O2 C3
  go_wp2_with fail
  refine CO.mono ?_
  rintro e w4 ⟨rfl, C4⟩
  have B4 := B3.trans (C4.mono B3.size)
  have R4 := arr_below R3 C4
  clear o0 o1 o2 o3 o4 o5 o6 o7 o8 o9
  clear CO R3 O3 C4 A3 T3
  have CB := only_any w4 8
  unfold resV at CB
  go_wp2_with fail
  refine CB.mono ?_
  rintro e w5 ⟨rfl, C5⟩
  have B5 := B4.trans (C5.mono B4.size)
  have R5 := arr_below R4 C5
  have r0 : w5.cell? ⟨w.heap.size + 1, 0, none⟩ = some (.int .i64 0) := R5.cell 0
  have f0 := R5.free 0
  have r1 : w5.cell? ⟨w.heap.size + 1, 1, none⟩ = some (.slice none 0 0) := R5.cell 1
  have f1 := R5.free 1
  have r2 : w5.cell? ⟨w.heap.size + 1, 2, none⟩ = some (.bool false) := R5.cell 2
  have f2 := R5.free 2
  have lt := R5.lt
  have KW : Wr (w.heap.size + 1) w5 (((w5.setCell ⟨w.heap.size + 1, 0, none⟩ (.int .i64 8)).setCell ⟨w.heap.size + 1, 1, none⟩ (.slice none 0 0)).setCell ⟨w.heap.size + 1, 2, none⟩ (.bool false)) := (((Wr.refl _ _).set 0 _).set 1 _).set 2 _
  clear CB
  go_wp2
  exact bodyPost_ret (v := .agg #[.int .i64 8, .slice none 0 0, .bool false]) (by simp [results, Tryz.results15, go_sem, r0, r1, r2]) rfl ⟨ResP.bad 8 _, TB.dull R5 (Dull.res _ _) KW (by omega) (hT.below B5), (Wr.of B5).new KW (Nat.le_succ _)⟩

end Go.Proofs.YthlpccajnmkbjaaGreatDoor

namespace Go.Proofs.YthlpccajnmkbjaaGreatDoor
open Go.RowKit

set_option maxHeartbeats 2000000 in
set_option maxRecDepth 100000 in
theorem do_batch (w : World) (p : Nat) (f t : ByteArray) (cs : List CV) (o : OA) (m : List CV × Int) (hk : o.kind = 6) (hT : TB w p f t cs)
    (hall : ∀ V, Below w.heap.size w V → Calls Tryz.prog 78 #[.pointer (some ⟨p, 0, none⟩), .slice o.so o.sn o.sc] V (PutPost10 V p f t m)) :
    Calls Tryz.prog 48 #[.pointer (some ⟨p, 0, none⟩), o.val] w (DoPost w p f t (m.1, ⟨m.2, [], false⟩)) := by
  obtain ⟨W1, hW1⟩ : ∃ V, V = w.alloc (.cells #[.int .i64 o.kind, .string o.row, .string o.fam, .string o.qual, .int .u64 o.time, .string o.to, .slice o.va.ao o.va.n o.va.cap, .slice o.wa.ao o.wa.n o.wa.cap, .bool o.has, .slice o.so o.sn o.sc] 42) := ⟨_, rfl⟩
  obtain ⟨W2, hW2⟩ : ∃ V, V = W1.alloc (.cells #[.int .i64 0, .slice none 0 0, .bool false] 34) := ⟨_, rfl⟩
  have C1 : Below w.heap.size w W1 := by rw [hW1]; exact (Below.refl _ _).alloc (Nat.le_refl _) _
  have C2 : Below W1.heap.size W1 W2 := by rw [hW2]; exact (Below.refl _ _).alloc (Nat.le_refl _) _
  have B2 := C1.trans (C2.mono C1.size)
  have s1 : W1.heap.size = w.heap.size + 1 := by rw [hW1]; exact Array.size_push ..
  have O1 : OC W1 w.heap.size o := by rw [hW1]; exact OC.new w o
  have O2 := O1.keep C2
  have R2 : Arr W2 (w.heap.size + 1) 34 [.int .i64 0, .slice none 0 0, .bool false] := by rw [hW2, ← s1]; exact heap_alloc_new W1 _
  have hp := hT.lt
  have CT := hall W2 B2
  have k1 : (o.kind == 1) = false := by simp [hk]
  have k2 : (o.kind == 2) = false := by simp [hk]
  have k3 : (o.kind == 3) = false := by simp [hk]
  have k4 : (o.kind == 4) = false := by simp [hk]
  have k5 : (o.kind == 5) = false := by simp [hk]
  have k6 : (o.kind == 6) = true := by simp [hk]
  have k7 : (o.kind == 7) = false := by simp [hk]
  clear hk hall
  unfold OA.val
  go_enter Tryz.func48, Tryz.ntmps48
  go_wp2_with fail
  rw [← hW1, ← hW2]
  clear hW1 hW2 s1
  refine CT.mono ?_
  rintro e w4 ⟨rfl, X4, K4⟩
  have R4 : Arr w4 (w.heap.size + 1) 34 [.int .i64 0, .slice none 0 0, .bool false] := (K4.block _ R2.lt (by omega)).trans R2
  have K4' := (Wr.of (p := p) B2).trans K4
  clear CT R2
  have CB := only_any w4 m.2
  unfold resV at CB
  go_wp2_with fail
  refine CB.mono ?_
  rintro e w5 ⟨rfl, C5⟩
  have R5 := arr_below R4 C5
  have X5 := X4.below C5
  have K5 := K4'.trans (Wr.of C5)
  have r0 : w5.cell? ⟨w.heap.size + 1, 0, none⟩ = some (.int .i64 0) := R5.cell 0
  have f0 := R5.free 0
  have r1 : w5.cell? ⟨w.heap.size + 1, 1, none⟩ = some (.slice none 0 0) := R5.cell 1
  have f1 := R5.free 1
  have r2 : w5.cell? ⟨w.heap.size + 1, 2, none⟩ = some (.bool false) := R5.cell 2
  have f2 := R5.free 2
  have lt := R5.lt
  clear CB R4 X4
  have KW : Wr (w.heap.size + 1) w5 (((w5.setCell ⟨w.heap.size + 1, 0, none⟩ (.int .i64 m.2)).setCell ⟨w.heap.size + 1, 1, none⟩ (.slice none 0 0)).setCell ⟨w.heap.size + 1, 2, none⟩ (.bool false)) := (((Wr.refl _ _).set 0 _).set 1 _).set 2 _
  go_wp2
  exact bodyPost_ret (v := .agg #[.int .i64 m.2, .slice none 0 0, .bool false]) (by simp [results, Tryz.results48, go_sem, r0, r1, r2]) rfl ⟨ResP.bad m.2 _, TB.dull R5 (Dull.res _ _) KW (by omega) X5, K5.new KW (Nat.le_succ _)⟩

end Go.Proofs.YthlpccajnmkbjaaGreatDoor

namespace Go.Proofs.YthlpccajnmkbjaaGreatDoor
open Go.RowKit

/-- One step. -/
def mStep (cs : List CV) (o : OA) : List CV × RV :=
  if o.kind = 1 then ((mPut cs o.cell.c).1, ⟨(mPut cs o.cell.c).2, [], false⟩)
  else if o.kind = 2 then ((mGone cs o.key).1, ⟨(mGone cs o.key).2, [], false⟩)
  else if o.kind = 3 then ((mDelC cs (colC o.key cs)).1, ⟨(mDelC cs (colC o.key cs)).2, [], false⟩)
  else if o.kind = 4 then ((mDelC cs (cs.filter fun c => decide (c.row = o.row))).1, ⟨(mDelC cs (cs.filter fun c => decide (c.row = o.row))).2, [], false⟩)
  else if o.kind = 5 then ((mChk cs o).1, ⟨(mChk cs o).2, [], false⟩)
  else if o.kind = 7 then (cs, mGet cs o.key)
  else (cs, mScan cs o.row o.to)
theorem leaf_key {o : OA} {n : Nat} (h : leaf o.s n = true) (hk : o.kind = 1 ∨ o.kind = 2 ∨ o.kind = 3 ∨ o.kind = 5 ∨ o.kind = 7) : 1 ≤ o.row.size ∧ o.row.size ≤ 32 ∧ 1 ≤ o.fam.size ∧ o.fam.size ≤ 32 ∧ o.qual.size ≤ 32 := by
  unfold leaf at h
  rw [if_pos (show o.s.kind = 1 ∨ o.s.kind = 2 ∨ o.s.kind = 3 ∨ o.s.kind = 5 ∨ o.s.kind = 7 from hk)] at h
  exact of_decide_eq_true (Bool.and_eq_true_iff.1 h).2
theorem leaf_row {o : OA} {n : Nat} (h : leaf o.s n = true) : o.row.size ≤ 32 := by
  have hk := leaf_kind h
  unfold leaf at h
  have h := (Bool.and_eq_true_iff.1 h).2
  split at h
  · exact (of_decide_eq_true h).2.1
  · split at h
    · exact (of_decide_eq_true h).2
    · split at h
      · exact (of_decide_eq_true (Bool.and_eq_true_iff.1 h).1).2
      · split at h
        · exact (of_decide_eq_true h).1
        · simp at h
theorem leaf_to {o : OA} {n : Nat} (h : leaf o.s n = true) (hk : o.kind = 8) : o.to.size ≤ 32 := by
  unfold leaf at h
  have h := (Bool.and_eq_true_iff.1 h).2
  have hk : o.s.kind = 8 := hk
  rw [if_neg (by omega), if_neg (by omega), if_neg (by omega), if_pos hk] at h
  exact (of_decide_eq_true h).2
theorem leaf_val {o : OA} {n : Nat} (h : leaf o.s n = true) : o.va.xs.length ≤ 256 := by
  unfold leaf at h
  exact (of_decide_eq_true (Bool.and_eq_true_iff.1 h).1).2.2.1
theorem right_key {o : OA} (h : 1 ≤ o.row.size ∧ o.row.size ≤ 32 ∧ 1 ≤ o.fam.size ∧ o.fam.size ≤ 32 ∧ o.qual.size ≤ 32) : (KV.mk (sb o.row) (sb o.fam) (sb o.qual) o.time).right := by
  show 1 ≤ (sb o.row).length ∧ (sb o.row).length ≤ 32 ∧ 1 ≤ (sb o.fam).length ∧ (sb o.fam).length ≤ 32 ∧ (sb o.qual).length ≤ 32
  rw [sb_len, sb_len, sb_len]
  exact h
theorem cell_good {o : OA} {w : World} {n : Nat} (h : leaf o.s n = true) (hok : o.ok w) (hk : o.kind = 1 ∨ o.kind = 2 ∨ o.kind = 3 ∨ o.kind = 5 ∨ o.kind = 7) : o.cell.c.good :=
  ⟨right_key (leaf_key h hk), hok.time, leaf_val h, hok.va.byte, fun h => by simp [OA.cell, CA.c] at h⟩
theorem mark_good {o : OA} {w : World} {n : Nat} (h : leaf o.s n = true) (hok : o.ok w) (hk : o.kind = 1 ∨ o.kind = 2 ∨ o.kind = 3 ∨ o.kind = 5 ∨ o.kind = 7) : o.key.mark.c.good :=
  ⟨right_key (leaf_key h hk), hok.time, Nat.zero_le _, fun _ h => by simp [KA.mark, CA.c] at h, fun _ => rfl⟩
/-- do, of an operation that is no batch. -/
theorem step_any (w : World) (p : Nat) (f t : ByteArray) (cs : List CV) (o : OA) (n : Nat) (hTb : Tabs w) (hT : TB w p f t cs) (hS : Stand f t 900 cs) (hok : o.ok w) (hl : leaf o.s n = true) (h6 : o.kind ≠ 6) :
    Calls Tryz.prog 48 #[.pointer (some ⟨p, 0, none⟩), o.val] w (DoPost w p f t (mStep cs o)) := by
  have hk : 1 ≤ o.kind ∧ o.kind ≤ 8 := leaf_kind hl
  have hr := leaf_row hl
  have hn := hS.len
  unfold mStep
  by_cases k1 : o.kind = 1
  · rw [if_pos k1]; exact do_put w p f t cs o k1 hTb hT hS.srt hS.good hn hok (cell_good hl hok (.inl k1))
  by_cases k2 : o.kind = 2
  · rw [if_neg k1, if_pos k2]; exact do_delcell w p f t cs o k2 hTb hT hS.srt hS.good (by omega) hok hr (mark_good hl hok (.inr (.inl k2)))
  by_cases k3 : o.kind = 3
  · rw [if_neg k1, if_neg k2, if_pos k3]; exact do_delcol w p f t cs o k3 hT hS.srt hS.good (by omega) hr
  by_cases k4 : o.kind = 4
  · rw [if_neg k1, if_neg k2, if_neg k3, if_pos k4]; exact do_delrow w p f t cs o k4 hT hS.srt hS.good (by omega) hr
  by_cases k5 : o.kind = 5
  · rw [if_neg k1, if_neg k2, if_neg k3, if_neg k4, if_pos k5]; exact do_check w p f t cs o k5 hTb hT hS.srt hS.good hn hok (cell_good hl hok (.inr (.inr (.inr (.inl k5))))) hr
  by_cases k7 : o.kind = 7
  · rw [if_neg k1, if_neg k2, if_neg k3, if_neg k4, if_neg k5, if_pos k7]; exact do_get w p f t cs o k7 hT hS.srt hS.good (by omega) hr
  · rw [if_neg k1, if_neg k2, if_neg k3, if_neg k4, if_neg k5, if_neg k7]
    have k8 : o.kind = 8 := by omega
    exact do_scan w p f t cs o k8 hT hS.srt hS.good (by omega) hr (leaf_to hl k8)
/-- What a step keeps. -/
theorem Stand.step {f t : ByteArray} {m : Nat} {cs : List CV} (h : Stand f t m cs) {o : OA} {w : World} {n : Nat} (hok : o.ok w) (hl : leaf o.s n = true) (hr : inRows f t o.row = true ∨ o.kind = 8) : Stand f t (m + 1) (mStep cs o).1 := by
  unfold mStep
  have hr' : o.kind ≠ 8 → inRows f t o.row = true := fun h8 => hr.resolve_right h8
  by_cases k1 : o.kind = 1
  · rw [if_pos k1]; exact h.put (cell_good hl hok (.inl k1)) (hr' (by omega))
  by_cases k2 : o.kind = 2
  · rw [if_neg k1, if_pos k2]; exact h.gone (mark_good hl hok (.inr (.inl k2))) (hr' (by omega))
  by_cases k3 : o.kind = 3
  · rw [if_neg k1, if_neg k2, if_pos k3]; exact (h.delC _).mono (Nat.le_succ m)
  by_cases k4 : o.kind = 4
  · rw [if_neg k1, if_neg k2, if_neg k3, if_pos k4]; exact (h.delC _).mono (Nat.le_succ m)
  by_cases k5 : o.kind = 5
  · rw [if_neg k1, if_neg k2, if_neg k3, if_neg k4, if_pos k5]; exact h.chk (cell_good hl hok (.inr (.inr (.inr (.inl k5))))) (hr' (by omega))
  by_cases k7 : o.kind = 7
  · rw [if_neg k1, if_neg k2, if_neg k3, if_neg k4, if_neg k5, if_pos k7]; exact h.mono (Nat.le_succ m)
  · rw [if_neg k1, if_neg k2, if_neg k3, if_neg k4, if_neg k5, if_neg k7]; exact h.mono (Nat.le_succ m)
end Go.Proofs.YthlpccajnmkbjaaGreatDoor

namespace Go.Proofs.YthlpccajnmkbjaaGreatDoor
open Go.RowKit

theorem Tabs.tb {w w' : World} {p : Nat} {f t : ByteArray} {u : Option Addr} (h : Tabs w) (hc : TbC w p f t u) (k : Wr p w w') : Tabs w' := by
  have key : ∀ (xs : List Int) (b j : Nat) (v : Value), (wv xs)[j]? = some v → w.cell? ⟨b, j, none⟩ = some v → w'.cell? ⟨b, j, none⟩ = some v := fun xs b j v hv hw => by
    obtain ⟨x, -, rfl⟩ := List.mem_map.1 (List.mem_of_getElem? hv)
    exact k.cell hw (hc.ne hw (by simp) (by simp))
  exact ⟨fun j v hv => key _ _ j v hv (h.first j v hv), fun j v hv => key _ _ j v hv (h.cubes j v hv), Nat.le_trans h.two k.size⟩
/-- What do does. -/
def mDo (cs : List CV) (o : OA) (l : List OA) : List CV × RV := if o.kind = 6 then ((mAll mStep l cs).1, ⟨(mAll mStep l cs).2, [], false⟩) else mStep cs o
def isOut (f t : ByteArray) (o : OA) : Bool := if o.kind = 8 then outScan f t o.row o.to else !(inRows f t o.row)
/-- What Apply does. -/
def mApply (f t : ByteArray) (cs : List CV) (o : OA) (l : List OA) : List CV × RV :=
  if rightO o.s (l.map sn0) = false then (cs, ⟨6, [], false⟩)
  else if isOut f t o = true then (cs, ⟨8, [], false⟩)
  else (keepM cs (mDo cs o l), (mDo cs o l).2)
theorem isout_any (w : World) (p : Nat) (f t : ByteArray) (u : Option Addr) (o : OA) (h : TbC w p f t u) :
    Calls Tryz.prog 47 #[.pointer (some ⟨p, 0, none⟩), o.val] w fun e w' => e = .returned (.bool (isOut f t o)) ∧ Below w.heap.size w w' := by
  unfold isOut
  by_cases k : o.kind = 8
  · rw [if_pos k]; exact isout_scan w p f t u o h k
  · rw [if_neg k]; exact isout_row w p f t u o h k
theorem right_leaf {o : OA} {l : List OA} (h : rightO o.s (l.map sn0) = true) : leaf o.s (l.map sn0).length = true := (Bool.and_eq_true_iff.1 h).1
theorem right_part {o : OA} {l : List OA} (h : rightO o.s (l.map sn0) = true) (hk : o.kind = 6) {x : OA} (hx : x ∈ l) : x.kind ≠ 6 ∧ x.kind ≠ 8 ∧ leaf x.s x.sn = true ∧ x.row = o.row := by
  have h2 := (Bool.and_eq_true_iff.1 h).2
  rw [show decide (o.s.kind ≠ 6) = false from decide_eq_false (fun e => e hk), Bool.false_or] at h2
  have h3 := List.all_eq_true.1 h2 (sn0 x) (List.mem_map.2 ⟨x, hx, rfl⟩)
  obtain ⟨h4, h5⟩ := Bool.and_eq_true_iff.1 h3
  obtain ⟨h6, h7⟩ := Bool.and_eq_true_iff.1 h4
  have h8 : 1 ≤ x.kind ∧ x.kind ≤ 4 := of_decide_eq_true h6
  exact ⟨by omega, by omega, h7, of_decide_eq_true h5⟩
theorem parts_few {o : OA} {l : List OA} (h : rightO o.s (l.map sn0) = true) (hk : o.kind = 6) : l.length ≤ 8 := by
  have h := right_leaf h
  unfold leaf at h
  have h := (Bool.and_eq_true_iff.1 h).2
  have hk : o.s.kind = 6 := hk
  rw [if_neg (by omega), if_neg (by omega), if_pos hk] at h
  have := (of_decide_eq_true (Bool.and_eq_true_iff.1 h).2).2
  rw [List.length_map] at this
  exact this
theorem do_any (w : World) (p : Nat) (f t : ByteArray) (cs : List CV) (o : OA) (l : List OA) (hTb : Tabs w) (hT : TB w p f t cs) (hS : Stand f t 800 cs) (hok : o.ok w) (hl : OWL w 0 o.so o.sn o.sc l) (hr : rightO o.s (l.map sn0) = true) (hin : isOut f t o = false) :
    Calls Tryz.prog 48 #[.pointer (some ⟨p, 0, none⟩), o.val] w (DoPost w p f t (mDo cs o l)) := by
  unfold mDo
  by_cases k : o.kind = 6
  · rw [if_pos k]
    have hrow : inRows f t o.row = true := by
      unfold isOut at hin
      rw [if_neg (by omega)] at hin
      simpa using hin
    have hlen := parts_few hr k
    have hsn : o.sn ≤ 1000 := by
      have h9 : @List.length OA l = o.sn := hl.len
      omega
    have t2 := hTb.two
    refine do_batch w p f t cs o (mAll mStep l cs) k hT fun V hV => ?_
    refine doAll_any V p f t cs o.so o.sn o.sc l mStep (fun k ds => Stand f t (800 + k) ds) (fun W => Tabs W ∧ ∀ x ∈ l, x.ok W) (hT.below hV) (hl.below hV) hsn ⟨hTb.below hV t2, fun x hx => (hl.ok x hx).below hV⟩ hS (fun A B h b => ⟨h.1.below b h.1.two, fun x hx => (h.2 x hx).below b⟩) (fun A B u h hc b => ⟨h.1.tb hc b, fun x hx => (h.2 x hx).tb hc b⟩) (fun i hi W ds hI hG hTB _ => ?_) (fun i hi ds hI _ => ?_)
    · obtain ⟨p6, p8, pl, pr⟩ := right_part hr k (List.getElem_mem hi)
      exact step_any W p f t ds l[i] _ hG.1 hTB (hI.mono (by omega)) (hG.2 _ (List.getElem_mem hi)) pl p6
    · obtain ⟨p6, p8, pl, pr⟩ := right_part hr k (List.getElem_mem hi)
      exact hI.step (hl.ok _ (List.getElem_mem hi)) pl (.inl (by rw [pr]; exact hrow))
  · rw [if_neg k]
    exact step_any w p f t cs o _ hTb hT (hS.mono (by omega)) hok (right_leaf hr) k
/-- Apply. -/
theorem every_any (w : World) (p : Nat) (f t : ByteArray) (cs : List CV) (o : OA) (l : List OA) (hTb : Tabs w) (hT : TB w p f t cs) (hS : Stand f t 800 cs) (hok : o.ok w) (hl : OWL w 0 o.so o.sn o.sc l) :
    Calls Tryz.prog 15 #[.pointer (some ⟨p, 0, none⟩), o.val] w (DoPost w p f t (mApply f t cs o l)) := by
  unfold mApply
  have t2 := hTb.two
  cases hr : rightO o.s (l.map sn0) with
  | false => rw [if_pos rfl]; exact apply_bad w p f t cs o l hT hok hl hr
  | true =>
    rw [if_neg (by simp)]
    cases ho : isOut f t o with
    | true =>
      rw [if_pos rfl]
      refine apply_out w p f t cs o l hT hok hl hr fun V u _ hc => ?_
      have := isout_any V p f t u o hc
      rw [ho] at this
      exact this
    | false =>
      rw [if_neg (by simp)]
      refine apply_any w p f t cs o l (mDo cs o l) hT hok hl hr (fun V u _ hc => ?_) (fun V hV => ?_)
      · have := isout_any V p f t u o hc
        rw [ho] at this
        exact this
      · exact do_any V p f t cs o l (hTb.below hV t2) (hT.below hV) hS (hok.below hV) (hl.below hV) hr ho
end Go.Proofs.YthlpccajnmkbjaaGreatDoor

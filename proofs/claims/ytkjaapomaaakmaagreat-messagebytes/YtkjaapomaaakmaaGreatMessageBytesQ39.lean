/-
  Texts in one: MethL, MgRdM, RdOr, PRdQ.
-/
import Derived.Test.YtkjaapomaaakmaaGreatMessageBytesQ12
import Derived.Test.YtkjaapomaaakmaaGreatMessageBytesQ14
import Derived.Test.YtkjaapomaaakmaaGreatMessageBytesQ25
import Derived.Test.YtkjaapomaaakmaaGreatMessageBytesQ13
namespace Go.Proofs.YtkjaapomaaakmaaGreat
open Go.RowKit
theorem left_any (w : World) (p L : Nat) (xs : List Int) (k : Int) (h : R w p L xs k) : Calls Tryz.prog 91 #[.pointer (some ⟨p, 0, none⟩)] w fun e w' => e = .returned (.int .i64 (if k = 0 then (xs.length : Int) else 0)) ∧ w' = w := by
 obtain ⟨ao, n, cap, hr⟩ := h
 have h0 := hr.c0
 have h1 := hr.c1
 have hl := hr.sl.len
 clear hr
 by_cases hk : k = 0
 ·rw [if_pos hk]
  subst hl hk
  go_enter Tryz.func91, Tryz.ntmps91
  go_wp2_with (go_at_call 86; refine (failed_any _ p 0 h1).mono ?_; rintro e w' ⟨rfl, rfl⟩)
  go_ret
  exact ⟨rfl, rfl⟩
 ·rw [if_neg hk]
  have hb : (k != 0) = true := by simp [hk]
  clear hk
  go_enter Tryz.func91, Tryz.ntmps91
  go_wp2_with (go_at_call 86; refine (failed_any _ p k h1).mono ?_; rintro e w' ⟨rfl, rfl⟩)
  go_ret
  exact ⟨rfl, rfl⟩
open Go.RowKit
theorem R.lowM {W W' : World} {rp B : Nat} {xs : List Int} {k : Int} (h : R W rp rp xs k) (hb : Below B W W') (hB : rp < B) : R W' rp rp xs k := by
 obtain ⟨ao, n, cap, r⟩ := h
 have hbk := hb.block rp hB
 refine ⟨ao, n, cap, (World.cell?_of_block (a := ⟨rp, 0, none⟩) hbk).trans r.c0, (World.cell?_of_block (a := ⟨rp, 1, none⟩) hbk).trans r.c1, (World.frozen?_of_block (a := ⟨rp, 0, none⟩) hbk).trans r.f0, (World.frozen?_of_block (a := ⟨rp, 1, none⟩) hbk).trans r.f1, ?_, r.low, r.le, r.sm⟩
 exact Sl.kept (b := ⟨ao, n, cap, _⟩) r.sl (fun x hx => by
  obtain ⟨a, ha, hn, rfl⟩ := hx
  have hl1 := r.low a ha hn
  exact hb.block _ (by omega))
theorem fail_gm (w : World) (p L : Nat) (xs : List Int) (k q : Int) (h : R w p L xs k) : Calls Tryz.prog 87 #[.pointer (some ⟨p, 0, none⟩), .int .i64 q] w fun e w' => e = .returned (.tuple #[]) ∧ R w' p L (flS xs k q).1 (flS xs k q).2 ∧ w.grownBy w' (some p) := by
 by_cases hk : k = 0
 ·by_cases hq : q = 0
  ·have hf : flS xs k q = (xs, k) := by unfold flS; rw [if_pos hk, if_pos hq, hk]
   rw [hf]
   obtain ⟨ao, n, cap, hr⟩ := h
   refine (fail_not w p k q hr.c1 (.inr hq)).mono ?_
   rintro e w' ⟨rfl, rfl⟩
   exact ⟨rfl, ⟨ao, n, cap, hr⟩, World.grownBy.refl _ _⟩
  ·have hf : flS xs k q = ([], q) := by unfold flS; rw [if_pos hk, if_neg hq]
   rw [hf]
   subst hk
   exact fail_any w p L xs q h hq
 ·have hf : flS xs k q = (xs, k) := by unfold flS; rw [if_neg hk]
  rw [hf]
  obtain ⟨ao, n, cap, hr⟩ := h
  refine (fail_not w p k q hr.c1 (.inl hk)).mono ?_
  rintro e w' ⟨rfl, rfl⟩
  exact ⟨rfl, ⟨ao, n, cap, hr⟩, World.grownBy.refl _ _⟩
theorem gtrans {a b c : World} {p : Nat} (h : a.grownBy b (some p)) (k : b.grownBy c (some p)) : a.grownBy c (some p) :=
 ⟨k.os.trans h.os, k.tape.trans h.tape, k.output.trans h.output, Nat.le_trans h.size k.size, fun z hz hne => (k.block z (Nat.lt_of_lt_of_le hz h.size) hne).trans (h.block z hz hne)⟩
theorem gthen {a b c : World} {p : Nat} (h : a.grownBy b (some p)) (k : Below a.heap.size b c) : a.grownBy c (some p) := ⟨k.os.trans h.os, k.tape.trans h.tape, k.output.trans h.output, Nat.le_trans h.size k.size, fun z hz hne => (k.block z hz).trans (h.block z hz hne)⟩
theorem gbelow {a b : World} (p : Nat) (h : Below a.heap.size a b) : a.grownBy b (some p) := ⟨h.os, h.tape, h.output, h.size, fun z hz _ => h.block z hz⟩
theorem GI.rdr {α : Type} {E : El α} (F : E.Fine) {t : TypeId} {W W' : World} {base : Nat} {v : Value} {ys : List α} (h : GI E t W base v ys) (hl : ∀ y ∈ ys, ∀ z, E.blk y z → base ≤ z) {p : Nat} (hp : p < base) (hg : W.grownBy W' (some p)) : GI E t W' base v ys :=
 h.kept F fun z hz => hg.block z (h.lt F hz) (fun e => by
  have e := Option.some.inj e
  rcases hz with hz | ⟨y, hy, hz⟩
  ·have := (h.own.lt z hz).1
   omega
  ·have := hl y hy z hz
   omega)
def TxsPost (w : World) (p : Nat) (xs : List Int) (k : Int) (e : Ending) (w' : World) : Prop :=
 ∃ (ao : Option Addr) (n cap : Nat) (l : List SA), e = .returned (.slice ao n cap) ∧ GL elS w' ao n cap l ∧ l.map SA.v = (vsT xs k).1 ∧ R w' p p (vsT xs k).2.1 (vsT xs k).2.2 ∧ w.grownBy w' (some p) ∧ ∀ z, GLb elS ao n l z → w.heap.size ≤ z
set_option maxRecDepth 100000 in
set_option maxHeartbeats 4000000 in
theorem takeTexts_any (w : World) (p : Nat) (xs : List Int) (k : Int) (h : R w p p xs k) :
  Calls Tryz.prog 50 #[.pointer (some ⟨p, 0, none⟩)] w (TxsPost w p xs k) := by
 have hp := h.plt.1
 have CI := int_any w p p xs k 16 (by omega) h.byte h
 have HV : Hid (vsT xs k = repT vT (intS xs k 16).1 (intS xs k 16).2.1 (intS xs k 16).2.2) := rfl
 have hc16 := intS_le xs k 16
 have e16 : ((16 : Nat) : Int) = 16 := rfl
 rw [e16] at hc16
 clear e16
 go_enter Tryz.func50, Tryz.ntmps50
 go_wp2_with fail
 refine CI.mono ?_
 rintro e w1 ⟨rfl, R1, G1⟩
 generalize intS xs k 16 = c at HV hc16 R1 ⊢
 obtain ⟨cn, cxs, ck⟩ := c
 simp only at HV hc16 R1 ⊢
 have hci : (cn : Int) ≤ 16 := by omega
 clear CI h
 go_wp2_with fail
 go_loopw [3, 6] (fun v' i wr => ∃ (j : Nat) (v : Value) (ys : List SA), j ≤ cn ∧ i = .int .i64 j ∧ v = v' ∧ GI elS 114 wr w.heap.size v ys ∧ Hid (ys.map SA.v = (repT vT j cxs ck).1) ∧ ys.length = j ∧ R wr p p (repT vT j cxs ck).2.1 (repT vT j cxs ck).2.2 ∧ w.grownBy wr (some p) ∧ Hid (∀ y ∈ ys, ∀ z, elS.blk y z → w.heap.size ≤ z)) (fun _ i _ => cn - (intOf i).toNat)
 case atStart => exact ⟨0, _, [], Nat.zero_le _, rfl, rfl, GI.nil _ _ _ _, rfl, rfl, R1, G1, fun _ h => absurd h List.not_mem_nil⟩
 case round =>
  clear R1 G1
  obtain ⟨j, v, ys, hj, rfl, rfl, GR, HY, hyl, RR, GG, HL⟩ := hrel
  have hsz := GG.size
  by_cases hlt : j < cn
  ·have hji : (j : Int) < (cn : Int) := by omega
   have HS : Hid (repT vT (j + 1) cxs ck = ((repT vT j cxs ck).1 ++ [(vT (repT vT j cxs ck).2.1 (repT vT j cxs ck).2.2).1], (vT (repT vT j cxs ck).2.1 (repT vT j cxs ck).2.2).2)) := repT_snoc vT j cxs ck
   generalize repT vT j cxs ck = s at HY RR HS
   obtain ⟨sl, sx, sk⟩ := s
   simp only at HY RR HS
   have HT : Hid (vT sx sk = (⟨(uintS sx sk).1, (bytesS (uintS sx sk).2.1 (uintS sx sk).2.2 65536).1, (bytesS (bytesS (uintS sx sk).2.1 (uintS sx sk).2.2 65536).2.1 (bytesS (uintS sx sk).2.1 (uintS sx sk).2.2 65536).2.2 32).1⟩, (bytesS (bytesS (uintS sx sk).2.1 (uintS sx sk).2.2 65536).2.1 (bytesS (uintS sx sk).2.1 (uintS sx sk).2.2 65536).2.2 32).2)) := rfl
   have CU := uint_any wr p p sx sk RR
   have vlt : Hid (∀ z, v.ownBlock = some z → z < wr.heap.size) := fun z hz => (GR.own.lt z hz).2
   have hlt1 := uintS_lt (k := sk) RR.byte
   go_wp2_with fail
   refine CU.mono ?_
   rintro e w2 ⟨rfl, R2, G2⟩
   generalize uintS sx sk = r1 at HT hlt1 R2 ⊢
   have GR := GR.rdr elS_fine HL.out hp G2
   have GG := gtrans GG G2
   have s1 := G2.size
   clear CU G2 RR
   have CB := bytes_any w2 p p r1.2.1 r1.2.2 65536 (by omega) R2
   go_wp2_with fail
   refine CB.mono ?_
   rintro e w3 ⟨bo, bn, bc, rfl, S3, F3, R3, G3⟩
   generalize bytesS r1.2.1 r1.2.2 65536 = r2 at HT S3 R3
   have GR := GR.rdr elS_fine HL.out hp G3
   have s2 := s1
   have s1 := Nat.le_trans s1 G3.size
   have GG := gtrans GG G3
   clear CB G3 R2
   have CC := bytes_any w3 p p r2.2.1 r2.2.2 32 (by omega) R3
   go_wp2_with fail
   refine CC.mono ?_
   rintro e w4 ⟨to, tn, tc, rfl, S4, F4, R4, G4⟩
   generalize bytesS r2.2.1 r2.2.2 32 = r3 at HT S4 R4
   have GR := GR.rdr elS_fine HL.out hp G4
   have S3 : Sl w4 bo bn bc r2.1 := S3.keepNe (fun a ha _ e => by have := F3 a ha; have := GG.size; omega) G4
   have s3 := s1
   have GG := gtrans GG G4
   clear CC G4 R3 s1
   obtain ⟨y, hy⟩ : ∃ y : SA, y = ⟨r1.1, ⟨bo, bn, bc, r2.1⟩, ⟨to, tn, tc, r3.1⟩⟩ := ⟨_, rfl⟩
   have C5 : Below w4.heap.size w4 (w4.alloc (.cells #[.int .u64 r1.1, .slice bo bn bc, .slice to tn tc] 114)) := (Below.refl _ _).alloc (Nat.le_refl _) _
   have K5 : (w4.alloc (.cells #[.int .u64 r1.1, .slice bo bn bc, .slice to tn tc] 114)).heap[w4.heap.size]? = some (.cells #[.int .u64 r1.1, .slice bo bn bc, .slice to tn tc] 114) := heap_alloc_new _ _
   have yok : y.ok w4 := by rw [hy]; exact ⟨hlt1, S3, S4⟩
   have HYF : Hid (∀ z, elS.blk y z → w.heap.size ≤ z ∧ v.ownBlock ≠ some z) := fun z hz => by
    rw [hy] at hz
    have hlow : wr.heap.size ≤ z := by
     rcases hz with ⟨a, ha, _, rfl⟩ | ⟨a, ha, _, rfl⟩
     ·exact Nat.le_trans s2 (F3 a ha)
     ·exact Nat.le_trans s3 (F4 a ha)
    exact ⟨Nat.le_trans hsz hlow, fun e => by have := vlt.out z e; omega⟩
   have HG : Hid (∀ j u, (elS.c y)[j]? = some u → (w4.alloc (.cells #[.int .u64 r1.1, .slice bo bn bc, .slice to tn tc] 114)).cell? ((⟨w4.heap.size, 0, none⟩ : Addr).add j) = some u) := fun j u hu => by
    rw [Addr.add_lit, Nat.zero_add, cell_of_row _ _ j _ _ _ K5]
    rw [hy] at hu
    simpa [elS, SA.cells] using hu
   have hyv : y.v = ⟨r1.1, r2.1, r3.1⟩ := by rw [hy]; rfl
   have HYV : Hid ((ys ++ [y]).map SA.v = (repT vT (j + 1) cxs ck).1) := by
    show _ = _
    rw [HS.out, HT.out, List.map_append, HY.out]
    simp only [List.map_cons, List.map_nil, hyv]
   have HSR : Hid ((repT vT (j + 1) cxs ck).2 = r3.2) := by
    show _ = _
    rw [HS.out, HT.out]
   have HL2 : Hid (∀ u ∈ ys ++ [y], ∀ z, elS.blk u z → w.heap.size ≤ z) := fun u hu z hz => by
    rcases List.mem_append.1 hu with hu | hu
    ·exact HL.out u hu z hz
    ·rw [List.mem_singleton.1 hu] at hz
     exact (HYF.out z hz).1
   have GR5 := GR.below elS_fine C5
   have yok5 : elS.ok y (w4.alloc (.cells #[.int .u64 r1.1, .slice bo bn bc, .slice to tn tc] 114)) := yok.below C5
   have R5 := R4.below C5
   have GG5 := gtrans GG (gbelow p C5)
   have hb5 := GG5.size
   clear hy hyv HS HT HY HL S3 S4 F3 F4 R4 K5 yok s2 s3 GR C5 vlt
   go_wp2_with (refine wpList_appG elS_fine tyS rfl (.tmp 8) (.tmp 16) rfl GR5 rfl rfl HG.out yok5 (fun z hz => (HYF.out z hz).2) (by omega) (by unfold maxLen; omega) hb5 ?_; intro v6 w6 GR6 B6)
   have R6 := R5.lowM B6 hp
   have GG6 : w.grownBy w6 (some p) := gthen GG5 B6
   go_roundw
   case rel => exact ⟨j + 1, v6, ys ++ [y], by omega, by go_num, rfl, GR6, HYV, by simp [hyl], by rw [HSR.out]; exact R6, GG6, HL2⟩
   case measure => simp [intOf]; omega
  ·have hge : (cn : Int) ≤ (j : Int) := by omega
   obtain rfl : j = cn := by omega
   obtain ⟨ao, cap, rfl, GLx, hlo⟩ := GR.gl elS_fine
   have HF : Hid (∀ z, GLb elS ao ys.length ys z → w.heap.size ≤ z) := fun z hz => by
    rcases hz with hz | ⟨y, hy, hz⟩
    ·exact hlo z hz
    ·exact HL.out y hy z hz
   clear hlo HL
   go_wp2
   go_ret
   exact ⟨ao, _, cap, ys, rfl, GLx, by rw [HV.out]; exact HY.out, by rw [HV.out]; exact RR, GG, HF.out⟩
open Go.RowKit
theorem rd_or {α : Type} (f : Th α) (kind : α → Int) (xs : List Int) : rdT f kind xs = if or2 (doneS (f xs 0).2.1 (f xs 0).2.2) (kind (f xs 0).1) = 0 then .inr (f xs 0).1 else .inl (or2 (doneS (f xs 0).2.1 (f xs 0).2.2) (kind (f xs 0).1)) := by
 unfold rdT or2
 by_cases c : doneS (f xs 0).2.1 (f xs 0).2.2 = 0
 ·simp only [c, if_true]
 ·simp only [c, if_false]
open Go.RowKit
def zeroOA : OA := ⟨0, ⟨#[]⟩, ⟨#[]⟩, ⟨#[]⟩, 0, ⟨#[]⟩, noBs, noBs, false, none, 0, 0⟩
theorem zeroOA_ok (w : World) : zeroOA.ok w := ⟨by decide, by decide, by decide, by decide, by decide, by decide, Sl.nothing w, Sl.nothing w, Nat.le_refl _, Nat.zero_le _, fun _ => ⟨rfl, rfl⟩⟩
end Go.Proofs.YtkjaapomaaakmaaGreat

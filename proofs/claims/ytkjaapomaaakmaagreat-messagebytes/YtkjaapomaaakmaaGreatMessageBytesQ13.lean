/-
  Texts in one: RBytes, PText, SameBut, PRdRM, POr2, RBytesB, Own10, HRegB, ScopeMid, PTakeM, KeyT.
-/
import Derived.Test.YtkjaapomaaakmaaGreatMessageBytesQ12
import Derived.Test.YtkjaapomaaakmaaGreatMessageBytesQ8
import Derived.Test.YtkjaapomaaakmaaGreatMessageBytesQ10
import Derived.Test.YtkjaapomaaakmaaGreatMessageBytesQ0
import Derived.Test.YtkjaapomaaakmaaGreatMessageBytesQ11
import Derived.Test.YtkjaapomaaakmaaGreatMessageBytesQ2
namespace Go.Proofs.YtkjaapomaaakmaaGreat
open Go.RowKit
theorem R.byte {w : World} {p L : Nat} {xs : List Int} {k : Int} (h : R w p L xs k) : Byt xs := by
 obtain ⟨ao, n, cap, hr⟩ := h
 exact hr.sl.byte
theorem Sl.keepNe {w w' : World} {q : Nat} {ao : Option Addr} {n cap : Nat} {xs : List Int} (h : Sl w ao n cap xs) (hne : ∀ a, ao = some a → 0 < n → a.block ≠ q) (hg : w.grownBy w' (some q)) : Sl w' ao n cap xs := by
 refine ⟨h.len, h.le, h.mx, h.nil, fun a ha i hi => hg.cell (h.cell a ha i hi) ?_, h.byte⟩
 have := hne a ha (by omega)
 have e : (a.add i).block = a.block := by unfold Addr.add; split <;> rfl
 rw [e]
 simp
 exact this
theorem Sl.ofOwn {w : World} {base : Nat} {ao : Option Addr} {n cap : Nat} {xs : List Int} (h : w.ownsRow base 5 1 (.slice ao n cap) n (bv xs)) (hb : Byt xs) : Sl w ao n cap xs := by
 obtain ⟨bo, c, he, hs, _⟩ := Sl.own h hb
 simp only [Value.slice.injEq] at he
 obtain ⟨rfl, _, rfl⟩ := he
 exact hs
theorem bytes_end {w w' w2 : World} {p L m n cap : Nat} {ao bo : Option Addr} {c : Nat} {rs : List Int} {k : Int} (hg1 : w.grownBy w' (some p)) (hr : Rd w' p L ao n cap rs k) (hb2 : Below w'.heap.size w' w2)
  (hown : w2.ownsRow w'.heap.size 5 1 (.slice (some ⟨w'.heap.size, 0, none⟩) m (m + 0)) m (bv (rs.take m))) (hs : Sl w2 bo (n - m) c (rs.drop m)) (hlow : ∀ a, bo = some a → 0 < n - m → a.block < L) :
  Sl (w2.setCell ⟨p, 0, none⟩ (.slice bo (n - m) c)) (some ⟨w'.heap.size, 0, none⟩) m m (rs.take m) ∧ (∀ a, some (⟨w'.heap.size, 0, none⟩ : Addr) = some a → w.heap.size ≤ a.block) ∧
   R (w2.setCell ⟨p, 0, none⟩ (.slice bo (n - m) c)) p L (rs.drop m) k ∧ w.grownBy (w2.setCell ⟨p, 0, none⟩ (.slice bo (n - m) c)) (some p) := by
 have hp := hr.plt
 refine ⟨(Sl.ofOwn hown (hr.sl.byte.take m)).keepNe ?_ (grown_setCell _ _ _ _), ?_, ⟨_, _, _, (hr.below hb2).rest hs hlow (by omega)⟩, grown_trans hg1 (grown_trans (grown_below hb2) (grown_setCell _ _ _ _))⟩
 ·intro a ha _
  obtain rfl := Option.some.inj ha
  show w'.heap.size ≠ p
  omega
 ·intro a ha
  obtain rfl := Option.some.inj ha
  exact hg1.size
set_option maxHeartbeats 800000 in
theorem bytes_any (w : World) (p L : Nat) (xs : List Int) (k most : Int) (hmost : most ≤ 9223372036854775807) (h : R w p L xs k) : Calls Tryz.prog 47 #[.pointer (some ⟨p, 0, none⟩), .int .i64 most] w fun e w' =>
  ∃ ao n cap, e = .returned (.slice ao n cap) ∧ Sl w' ao n cap (bytesS xs k most).1 ∧ (∀ a, ao = some a → w.heap.size ≤ a.block) ∧ R w' p L (bytesS xs k most).2.1 (bytesS xs k most).2.2 ∧ w.grownBy w' (some p) := by
 have hU := int_any w p L xs k most hmost h.byte h
 unfold bytesS
 generalize intS xs k most = T at *
 obtain ⟨m, rs, q⟩ := T
 simp only at hU ⊢
 have HU : Hid (Calls _ _ _ _ _) := hU
 clear hU h
 by_cases hq : q = 0
 ·subst hq
  rw [if_pos rfl]
  by_cases hbad : rs.length < m
  ·rw [if_pos hbad]
   go_enter Tryz.func47, Tryz.ntmps47
   go_wp2_with fail
   refine HU.out.mono ?_
   rintro e w1 ⟨rfl, hR1, hg1⟩
   clear HU
   have hR1' := hR1
   obtain ⟨ao, n, cap, hr⟩ := hR1'
   have hc0 := hr.c0
   have hc1 := hr.c1
   have hl := hr.sl.len
   have hlt : (n : Int) < (m : Int) := by omega
   clear hr hl hbad
   go_wp2_with (first | (go_at_call 86; refine (failed_any _ p 0 hc1).mono ?_; rintro e w' ⟨rfl, rfl⟩) | (go_at_call 87; refine (fail_any _ p L rs 2 hR1 (by decide)).mono ?_; rintro e w2 ⟨rfl, hr2, hg2⟩))
   have hg := grown_trans hg1 hg2
   go_ret
   exact ⟨none, 0, 0, rfl, Sl.nothing _, fun a ha => by simp at ha, hr2, hg⟩
  ·rw [if_neg hbad]
   go_enter Tryz.func47, Tryz.ntmps47
   go_wp2_with fail
   refine HU.out.mono ?_
   rintro e w1 ⟨rfl, hR1, hg1⟩
   clear HU
   obtain ⟨ao, n, cap, hr⟩ := hR1
   have hc0 := hr.c0
   have hc1 := hr.c1
   have hl := hr.sl.len
   have hle := hr.sl.le
   have hmx := hr.sl.mx
   unfold maxLen at hmx
   have hsm := hr.sm
   have hmn : m ≤ n := by omega
   have hsl := hr.sl.take m hmn
   clear hbad
   go_wp2_with (first | (go_at_call 86; refine (failed_any _ p 0 hc1).mono ?_; rintro e w' ⟨rfl, rfl⟩) | fail)
   refine (withRoom_any _ _ _ _ 0 _ hsl (by omega)).mono ?_
   rintro e w2 ⟨rfl, hown2, hb2⟩
   have hr2 := hr.below hb2
   have hd0 := hr2.c0
   have hf0 := hr2.f0
   by_cases hcm : cap = m
   ·subst hcm
    have hfin := bytes_end hg1 hr hb2 hown2 (hr2.sl.dropAll hmn) (fun a ha hp => by omega)
    rw [show n - cap = 0 from by omega] at hfin
    go_wp2_with fail
    go_ret
    exact ⟨_, _, _, rfl, hfin⟩
   ·have hfin := bytes_end hg1 hr hb2 hown2 (hr2.sl.drop m hmn) (low_drop hr.low (by omega))
    go_wp2_with fail
    go_ret
    exact ⟨_, _, _, rfl, hfin⟩
 ·rw [if_neg hq]
  have hqb : (q != 0) = true := by simp [hq]
  clear hq
  go_enter Tryz.func47, Tryz.ntmps47
  go_wp2_with fail
  refine HU.out.mono ?_
  rintro e w1 ⟨rfl, hR1, hg1⟩
  clear HU
  have hc1 := hR1.kind
  go_wp2_with (go_at_call 86; refine (failed_any _ p q hc1).mono ?_; rintro e w' ⟨rfl, rfl⟩)
  go_ret
  exact ⟨none, 0, 0, rfl, Sl.nothing _, fun a ha => by simp at ha, hR1, hg1⟩
open Go.RowKit
def Left (w : World) (p L : Nat) (t : List Int × Int) (w' : World) : Prop := R w' p L t.1 t.2 ∧ w.grownBy w' (some p)
set_option maxRecDepth 100000 in
set_option maxHeartbeats 1000000 in
theorem ttext_any (w : World) (p L : Nat) (xs : List Int) (k : Int) (h : R w p L xs k) :
  Calls Tryz.prog 129 #[.pointer (some ⟨p, 0, none⟩)] w fun e w' => e = .returned (.string (txT 32 xs k).1) ∧ Left w p L (txT 32 xs k).2 w' := by
 go_enter Tryz.func129, Tryz.ntmps129
 go_wp2_with fail
 refine (bytes_any w p L xs k 32 (by decide) h).mono ?_
 rintro e w1 ⟨ao, n, cap, rfl, S1, _, R1, G1⟩
 have c1 := conv_str S1
 obtain ⟨y, hy⟩ : ∃ y, y = strOfNums (bytesS xs k 32).1 := ⟨_, rfl⟩
 have HY : Hid (y = strOfNums (bytesS xs k 32).1) := hy
 rw [← hy] at c1
 have HR : Hid (R w1 p L (bytesS xs k 32).2.1 (bytesS xs k 32).2.2) := R1
 clear hy S1 R1 h
 go_wp2
 go_ret
 exact ⟨by show Ending.returned (Value.string y) = _; rw [HY.out]; exact rfl, HR.out, G1⟩
theorem grown_own {w W : World} {p q i : Nat} {v : Value} (h : w.grownBy W (some p)) (hq : w.heap.size ≤ q) : w.grownBy (W.setCell ⟨q, i, none⟩ v) (some p) :=
 ⟨h.os, h.tape, h.output, by rw [World.size_setCell]; exact h.size, fun j hj hne => (Below.heap_setCell W ⟨q, i, none⟩ v j (by show j ≠ q; omega)).trans (h.block j hj hne)⟩
theorem R.own {W : World} {p L q i : Nat} {v : Value} {xs : List Int} {k : Int} (h : R W p L xs k) (hp : p < q) (hL : L ≤ q) : R (W.setCell ⟨q, i, none⟩ v) p L xs k := h.keep (by omega) hL (grown_setCell W q i v)
theorem R.plt {W : World} {p L : Nat} {xs : List Int} {k : Int} (h : R W p L xs k) : p < W.heap.size ∧ L ≤ p := by
 obtain ⟨ao, n, cap, h⟩ := h
 exact ⟨h.plt, h.le⟩
def zeroKA : KA := ⟨⟨#[]⟩, ⟨#[]⟩, ⟨#[]⟩, 0⟩
def keyOf (q : ByteArray × ByteArray × ByteArray × Nat) : KA := ⟨q.1, q.2.1, q.2.2.1, q.2.2.2⟩
theorem KyC.grown {V V' : World} {q p : Nat} {k : KA} (h : KyC V q k) (hg : V.grownBy V' (some p)) (hne : q ≠ p) : KyC V' q k := (hg.block q h.lt (by simp; omega)).trans h
set_option maxRecDepth 100000 in
set_option maxHeartbeats 4000000 in
theorem tkey_any (w : World) (p L : Nat) (xs : List Int) (k : Int) (h : R w p L xs k) :
  Calls Tryz.prog 121 #[.pointer (some ⟨p, 0, none⟩)] w fun e w' => e = .returned (keyOf (keyT xs k).1).val ∧ Left w p L (keyT xs k).2 w' := by
 have hpl := h.plt
 have K0 : KyC (w.alloc (.cells #[.string ⟨#[]⟩, .string ⟨#[]⟩, .string ⟨#[]⟩, .int .u64 0] 59)) w.heap.size zeroKA := heap_alloc_new w _
 have B0 : Below w.heap.size w (w.alloc (.cells #[.string ⟨#[]⟩, .string ⟨#[]⟩, .string ⟨#[]⟩, .int .u64 0] 59)) := (Below.refl _ w).alloc (Nat.le_refl _) _
 have R0 := h.below B0
 have G0 : w.grownBy _ (some p) := grown_below B0
 clear h
 go_enter Tryz.func121, Tryz.ntmps121
 go_wp2_with fail
 obtain ⟨w0, hw0⟩ : ∃ W, W = w.alloc (.cells #[.string ⟨#[]⟩, .string ⟨#[]⟩, .string ⟨#[]⟩, .int .u64 0] 59) := ⟨_, rfl⟩
 obtain ⟨N, hN⟩ : ∃ N, N = w.heap.size := ⟨_, rfl⟩
 rw [← hw0] at K0 R0 G0 ⊢
 rw [← hN] at K0 ⊢
 have HN : Hid (N = w.heap.size) := hN
 have hne : N ≠ p := by omega
 have hpN : p < N ∧ L ≤ N := by omega
 clear hw0 hN B0
 refine (ttext_any w0 p L xs k R0).mono ?_
 rintro e w1 ⟨rfl, R1, G1⟩
 obtain ⟨r1, e1⟩ : ∃ r, r = txT 32 xs k := ⟨_, rfl⟩
 have E1 : Hid (r1 = txT 32 xs k) := e1
 rw [← e1] at R1 ⊢
 clear e1
 have K1 := K0.grown G1 hne
 have G1 := grown_trans G0 G1
 clear K0 R0 G0
 go_wp2_with fail
 refine (ttext_any w1 p L r1.2.1 r1.2.2 R1).mono ?_
 rintro e w2 ⟨rfl, R2, G2⟩
 obtain ⟨r2, e2⟩ : ∃ r, r = txT 32 r1.2.1 r1.2.2 := ⟨_, rfl⟩
 have E2 : Hid (r2 = txT 32 r1.2.1 r1.2.2) := e2
 rw [← e2] at R2 ⊢
 clear e2
 have K2 := K1.grown G2 hne
 have G2 := grown_trans G1 G2
 clear K1 R1 G1
 go_wp2_with fail
 refine (ttext_any w2 p L r2.2.1 r2.2.2 R2).mono ?_
 rintro e w3 ⟨rfl, R3, G3⟩
 obtain ⟨r3, e3⟩ : ∃ r, r = txT 32 r2.2.1 r2.2.2 := ⟨_, rfl⟩
 have E3 : Hid (r3 = txT 32 r2.2.1 r2.2.2) := e3
 rw [← e3] at R3 ⊢
 clear e3
 have K3 := K2.grown G3 hne
 have G3 := grown_trans G2 G3
 clear K2 R2 G2
 go_wp2_with fail
 refine (uint_any w3 p L r3.2.1 r3.2.2 R3).mono ?_
 rintro e w4 ⟨rfl, R4, G4⟩
 obtain ⟨r4, e4⟩ : ∃ r, r = uintS r3.2.1 r3.2.2 := ⟨_, rfl⟩
 have E4 : Hid (r4 = uintS r3.2.1 r3.2.2) := e4
 rw [← e4] at R4 ⊢
 clear e4
 have K4 := K3.grown G4 hne
 have G4 := grown_trans G3 G4
 clear K3 R3 G3
 have q0 := K4.c0
 have q1 := K4.c1
 have q2 := K4.c2
 have q3 := K4.c3
 have f0 : w4.frozen? ⟨N, 0, none⟩ = false := frozen_of_row w4 N 0 _ _ K4
 have f1 : w4.frozen? ⟨N, 1, none⟩ = false := frozen_of_row w4 N 1 _ _ K4
 have f2 : w4.frozen? ⟨N, 2, none⟩ = false := frozen_of_row w4 N 2 _ _ K4
 have f3 : w4.frozen? ⟨N, 3, none⟩ = false := frozen_of_row w4 N 3 _ _ K4
 have lt := K4.lt
 have hwN : w.heap.size ≤ N := by rw [HN.out]; exact Nat.le_refl _
 have RF : R ((((w4.setCell ⟨N, 0, none⟩ (.string r1.1)).setCell ⟨N, 1, none⟩ (.string r2.1)).setCell ⟨N, 2, none⟩ (.string r3.1)).setCell ⟨N, 3, none⟩ (.int .u64 r4.1)) p L r4.2.1 r4.2.2 := (((R4.own hpN.1 hpN.2).own hpN.1 hpN.2).own hpN.1 hpN.2).own hpN.1 hpN.2
 have GF : w.grownBy ((((w4.setCell ⟨N, 0, none⟩ (.string r1.1)).setCell ⟨N, 1, none⟩ (.string r2.1)).setCell ⟨N, 2, none⟩ (.string r3.1)).setCell ⟨N, 3, none⟩ (.int .u64 r4.1)) (some p) := grown_own (grown_own (grown_own (grown_own G4 hwN) hwN) hwN) hwN
 have HK : Hid (keyT xs k = ((r1.1, r2.1, r3.1, r4.1), r4.2)) := by
  show _ = _
  unfold keyT andT
  rw [← E1.out, ← E2.out, ← E3.out, ← E4.out]
 clear hne hpN G4 R4 K4
 go_wp2
 refine bodyPost_ret (v := .agg #[.string r1.1, .string r2.1, .string r3.1, .int .u64 r4.1]) (by simp [results, Tryz.results121, go_sem, q0, q1, q2, q3]) rfl ⟨?_, ?_⟩
 ·rw [HK.out]
  rfl
 ·rw [HK.out]
  exact ⟨RF, GF⟩
open Go.RowKit
theorem SameBut.trans {N : Nat} {a b c : World} (h : b.heap.size = a.heap.size ∧ ∀ j, j ≠ N → b.heap[j]? = a.heap[j]?) (k : c.heap.size = b.heap.size ∧ ∀ j, j ≠ N → c.heap[j]? = b.heap[j]?) : c.heap.size = a.heap.size ∧ ∀ j, j ≠ N → c.heap[j]? = a.heap[j]? :=
 ⟨k.1.trans h.1, fun j hj => (k.2 j hj).trans (h.2 j hj)⟩
theorem same_set (w : World) (N i : Nat) (v : Value) : (w.setCell ⟨N, i, none⟩ v).heap.size = w.heap.size ∧ ∀ j, j ≠ N → (w.setCell ⟨N, i, none⟩ v).heap[j]? = w.heap[j]? :=
 ⟨World.size_setCell .., fun j hj => Below.heap_setCell w ⟨N, i, none⟩ v j hj⟩
open Go.RowKit
def cT : Th CV := mapT toC (andT (txT 32) (andT (txT 32) (andT (txT 32) (andT uintS (andT (byT 256) boolS)))))
theorem thr_c : Thr pC cT := ((thr_text 32).andThen ((thr_text 32).andThen ((thr_text 32).andThen (thr_uint.andThen ((thr_bytes 256).andThen thr_bool))))).map toC
def resTh : Th RV := mapT toR (andT (intT' 100) (andD (intT' 16) fun n => andT (repT cT n) boolS))
theorem thr_r : Thr pR resTh := ((thr_int 100).andThen ((thr_int 16).dep fun n => (thr_c.rep n).andThen thr_bool)).map toR
theorem cT_key (xs : List Int) (k : Int) : cT xs k = (⟨(keyT xs k).1.1, (keyT xs k).1.2.1, (keyT xs k).1.2.2.1, (keyT xs k).1.2.2.2, (bytesS (keyT xs k).2.1 (keyT xs k).2.2 256).1, (boolS (bytesS (keyT xs k).2.1 (keyT xs k).2.2 256).2.1 (bytesS (keyT xs k).2.1 (keyT xs k).2.2 256).2.2).1⟩, (boolS (bytesS (keyT xs k).2.1 (keyT xs k).2.2 256).2.1 (bytesS (keyT xs k).2.1 (keyT xs k).2.2 256).2.2).2) := by
 have e : ((256 : Nat) : Int) = 256 := rfl
 unfold cT mapT
 simp only [andT, keyT, byT, toC, e]
theorem CA.ok.blk_lt {c : CA} {w : World} (h : c.ok w) {x : Nat} (hx : c.va.blk x) : x < w.heap.size := h.va.blk_lt hx
theorem CA.ok.kept {c : CA} {w w' : World} (h : c.ok w) (hk : ∀ x, c.va.blk x → w'.heap[x]? = w.heap[x]?) : c.ok w' := ⟨h.row, h.fam, h.qual, h.time, h.va.kept hk⟩
theorem CL.kept {w w' : World} {ao : Option Addr} {n cap : Nat} {l : List CA} (h : CL w ao n cap l) (hk : ∀ x, (sblk ao n x ∨ ∃ c ∈ l, c.va.blk x) → w'.heap[x]? = w.heap[x]?) : CL w' ao n cap l := by
 refine ⟨h.len, h.le, h.mx, h.nil, fun a ha i hi j v hv => ?_, fun y hy => (h.ok y hy).kept fun x hx => hk x (.inr ⟨y, hy, hx⟩)⟩
 have hb : (a.add (i * 6 + j)).block = a.block := by unfold Addr.add; split <;> rfl
 rw [← h.cell a ha i hi j v hv]
 exact World.cell?_of_block (by rw [hb]; exact hk _ (.inl ⟨a, ha, by have := h.len; omega, rfl⟩))
def RW (V : World) (p : Nat) (e : Int) (v : Value) (m : Bool) : Prop := V.heap[p]? = some (.cells #[.int .i64 e, v, .bool m] 28)
theorem RW.lt {V : World} {p : Nat} {e : Int} {v : Value} {m : Bool} (h : RW V p e v m) : p < V.heap.size := (Array.getElem?_eq_some_iff.1 h).1
theorem RW.kept {V V' : World} {p : Nat} {e : Int} {v : Value} {m : Bool} (h : RW V p e v m) (hk : V'.heap[p]? = V.heap[p]?) : RW V' p e v m := hk.trans h
theorem RW.c0 {V : World} {p : Nat} {e : Int} {v : Value} {m : Bool} (h : RW V p e v m) : V.cell? ⟨p, 0, none⟩ = some (.int .i64 e) := cell_of_row V p 0 _ _ _ h
theorem RW.c1 {V : World} {p : Nat} {e : Int} {v : Value} {m : Bool} (h : RW V p e v m) : V.cell? ⟨p, 1, none⟩ = some v := cell_of_row V p 1 _ _ _ h
theorem RW.c2 {V : World} {p : Nat} {e : Int} {v : Value} {m : Bool} (h : RW V p e v m) : V.cell? ⟨p, 2, none⟩ = some (.bool m) := cell_of_row V p 2 _ _ _ h
theorem RW.fz {V : World} {p : Nat} {e : Int} {v : Value} {m : Bool} (h : RW V p e v m) (i : Nat) : V.frozen? ⟨p, i, none⟩ = false := frozen_of_row V p i _ _ h
theorem RW.setL {V : World} {p : Nat} {e : Int} {v : Value} {m : Bool} (h : RW V p e v m) (u : Value) : RW (V.setCell ⟨p, 1, none⟩ u) p e u m := heap_setCell_same V p 1 _ _ _ h
theorem RW.setM {V : World} {p : Nat} {e : Int} {v : Value} {m : Bool} (h : RW V p e v m) (b : Bool) : RW (V.setCell ⟨p, 2, none⟩ (.bool b)) p e v b := heap_setCell_same V p 2 _ _ _ h
structure ResInv (w : World) (p L N M parts : Nat) (e : Int) (hx : List Int) (hk : Int) (V : World) (v : Value) (l : List CA) : Prop where
 rd : R V p L (repT cT l.length hx hk).2.1 (repT cT l.length hx hk).2.2
 ov : RW V M e v false
 res : RW V N 0 (.slice none 0 0) false
 own : V.ownsRow (M + 1) 104 6 v l.length (cellsC l)
 oks : ∀ y ∈ l, y.ok V
 far : ∀ x, (∃ y ∈ l, y.va.blk x) → M < x ∧ v.ownBlock ≠ some x
 thr : l.map CA.c = (repT cT l.length hx hk).1
 bel : Below N w V
 le : l.length ≤ parts
 pos : L ≤ p ∧ p < M ∧ N < p
theorem ResInv.drew {w : World} {p L N M parts : Nat} {e : Int} {hx : List Int} {hk : Int} {V : World} {v : Value} {l : List CA} (h : ResInv w p L N M parts e hx hk V v l) : ResInv w p L N M parts e hx hk V.drew v l :=
 ⟨h.rd.below (Below.refl _ _).drew, h.ov, h.res, h.own.drew, fun y hy => (h.oks y hy).below (Below.refl _ _).drew, h.far, h.thr, h.bel.drew, h.le, h.pos⟩
theorem ResInv.ownlt {w : World} {p L N M parts : Nat} {e : Int} {hx : List Int} {hk : Int} {V : World} {v : Value} {l : List CA} (h : ResInv w p L N M parts e hx hk V v l) {g : Nat} (hg : v.ownBlock = some g) : M < g ∧ g < V.heap.size := by
 have := h.own.lt g hg
 omega
theorem ResInv.step {w : World} {p L N M parts : Nat} {e : Int} {hx : List Int} {hk : Int} {V : World} {v : Value} {l : List CA} (h : ResInv w p L N M parts e hx hk V v l) (hlt : l.length < parts)
  {y : CA} {V1 V3 : World} {v' : Value} {ob : Obj} (y1 : y.ok V1) (y2 : ∀ x, y.va.blk x → V.heap.size ≤ x) (y3 : y.c = (cT (repT cT l.length hx hk).2.1 (repT cT l.length hx hk).2.2).1)
  (y4 : R V1 p L (cT (repT cT l.length hx hk).2.1 (repT cT l.length hx hk).2.2).2.1 (cT (repT cT l.length hx hk).2.1 (repT cT l.length hx hk).2.2).2.2) (y5 : V.grownBy V1 (some p))
  (a1 : V3.ownsRow (M + 1) 104 6 v' (l.length + 1) (cellsC l ++ y.cells)) (a2 : (V1.alloc ob).grownBy V3 v.ownBlock) (a3 : ∀ g, v'.ownBlock = some g → v.ownBlock = some g ∨ (V1.alloc ob).heap.size ≤ g) :
  ResInv w p L N M parts e hx hk (V3.setCell ⟨M, 1, none⟩ v') v' (l ++ [y]) := by
 have hp := h.pos
 have sz1 := y5.size
 have sz2 : (V1.alloc ob).heap.size = V1.heap.size + 1 := by simp
 have sz3 := a2.size
 have key : ∀ x, x < V1.heap.size → v.ownBlock ≠ some x → V3.heap[x]? = V1.heap[x]? := fun x hx1 hx2 => (a2.block x (by omega) (fun e => hx2 e.symm)).trans (heap_alloc_old V1 ob hx1)
 have own1 : ∀ x, x ≤ M → v.ownBlock ≠ some x := fun x hx1 hx2 => by have := (h.ownlt hx2).1; omega
 have hM : M < V.heap.size := h.ov.lt
 have RB : ∀ x, x < V.heap.size → x ≠ p → V1.heap[x]? = V.heap[x]? := fun x hx1 hx2 => y5.block x hx1 (by simp; exact hx2)
 have ov3 : RW V3 M e v false := (h.ov.kept (RB M hM (by omega))).kept (key M (by omega) (own1 M (Nat.le_refl _)))
 have hset : ∀ x, x ≠ M → (V3.setCell ⟨M, 1, none⟩ v').heap[x]? = V3.heap[x]? := (same_set V3 M 1 v').2
 have fin : ∀ x, x < V.heap.size → x ≠ p → x ≠ M → v.ownBlock ≠ some x → (V3.setCell ⟨M, 1, none⟩ v').heap[x]? = V.heap[x]? := fun x b1 b2 b3 b4 => ((hset x b3).trans (key x (by omega) b4)).trans (RB x b1 b2)
 refine ⟨?_, ov3.setL v', ?_, ?_, ?_, ?_, ?_, ?_, ?_, hp⟩
 ·rw [List.length_append, List.length_singleton, repT_snoc]
  obtain ⟨ao, n, cap, r⟩ := y4
  have r3 : R V3 p L (cT (repT cT l.length hx hk).2.1 (repT cT l.length hx hk).2.2).2.1 (cT (repT cT l.length hx hk).2.1 (repT cT l.length hx hk).2.2).2.2 := by
   have rp : p < V1.heap.size := r.plt
   have hbk := key p rp (own1 p (by omega))
   refine ⟨ao, n, cap, (World.cell?_of_block (a := ⟨p, 0, none⟩) hbk).trans r.c0, (World.cell?_of_block (a := ⟨p, 1, none⟩) hbk).trans r.c1, (World.frozen?_of_block (a := ⟨p, 0, none⟩) hbk).trans r.f0, (World.frozen?_of_block (a := ⟨p, 1, none⟩) hbk).trans r.f1, ?_, r.low, r.le, r.sm⟩
   exact Sl.kept (b := ⟨ao, n, cap, _⟩) r.sl (fun x hx1 => by
    obtain ⟨a, ha, hn, rfl⟩ := hx1
    have hl1 := r.low a ha hn
    exact key _ (by omega) (own1 _ (by omega)))
  exact r3.own (by omega) (by omega)
 ·exact h.res.kept (fin N h.res.lt (by omega) (by omega) (own1 N (by omega)))
 ·rw [List.length_append, List.length_singleton]
  have e : cellsC (l ++ [y]) = cellsC l ++ y.cells := by unfold cellsC; simp
  rw [e]
  refine own_kept a1 fun g hg => hset g ?_
  have := (a1.lt g hg).1
  omega
 ·intro q hq
  rcases List.mem_append.1 hq with hq | hq
  ·exact (h.oks q hq).kept fun x hx1 => fin x ((h.oks q hq).blk_lt hx1) (by have := (h.far x ⟨q, hq, hx1⟩).1; omega) (by have := (h.far x ⟨q, hq, hx1⟩).1; omega) (h.far x ⟨q, hq, hx1⟩).2
  ·rw [List.mem_singleton.1 hq]
   refine y1.kept fun x hx1 => ?_
   have c1 := y2 x hx1
   have c2 := y1.blk_lt hx1
   have c3 : v.ownBlock ≠ some x := fun e => by have := h.ownlt e; omega
   exact (hset x (by omega)).trans (key x c2 c3)
 ·intro x hx1
  have old : ∀ x, x < V1.heap.size → v.ownBlock ≠ some x → v'.ownBlock ≠ some x := fun x b1 b2 b3 => by
   rcases a3 x b3 with c | c
   ·exact b2 c
   ·omega
  obtain ⟨q, hq, hx1⟩ := hx1
  rcases List.mem_append.1 hq with hq | hq
  ·have := h.far x ⟨q, hq, hx1⟩
   exact ⟨this.1, old x (by have := (h.oks q hq).blk_lt hx1; omega) this.2⟩
  ·rw [List.mem_singleton.1 hq] at hx1
   have c1 := y2 x hx1
   have c2 := y1.blk_lt hx1
   refine ⟨by omega, old x c2 fun e => ?_⟩
   have := h.ownlt e
   omega
 ·rw [List.length_append, List.length_singleton, repT_snoc, List.map_append, h.thr, ← y3]
  rfl
 ·have hb := h.bel.size
  refine Below.setCell (h.bel.trans ⟨?_, ?_, ?_, ?_, ?_⟩) (by show N ≤ M; omega) _
  ·rw [a2.os]; exact y5.os
  ·rw [a2.tape]; exact y5.tape
  ·rw [a2.output]; exact y5.output
  ·omega
  ·intro x b1
   have b2 := h.res.lt
   exact (key x (by omega) (own1 x (by omega))).trans (RB x (by omega) (by omega))
 ·rw [List.length_append, List.length_singleton]
  omega
open Go.RowKit
def or2 (a b : Int) : Int := if a = 0 then b else a
set_option maxRecDepth 100000 in
set_option maxHeartbeats 2000000 in
theorem por2_any (w : World) (g : Nat) (c0 c1 : Int) (hg : w.heap[g]? = some (.cells #[.int .i64 c0, .int .i64 c1] 25)) :
  Calls Tryz.prog 120 #[.slice (some ⟨g, 0, none⟩) 2 2] w fun e w' => e = .returned (.int .i64 (or2 c0 c1)) ∧ w' = w := by
 have q0 : w.cell? ⟨g, 0, none⟩ = some (.int .i64 c0) := cell_of_row w g 0 _ _ _ hg
 have q1 : w.cell? ⟨g, 1, none⟩ = some (.int .i64 c1) := cell_of_row w g 1 _ _ _ hg
 clear hg
 go_enter Tryz.func120, Tryz.ntmps120
 go_wp2_with fail
 go_loopw [5, 8] (fun _ i wr => wr = w ∧ ∃ j : Nat, i = .int .i64 j ∧ j ≤ 2 ∧ (0 < j → c0 = 0) ∧ (1 < j → c1 = 0)) (fun _ i _ => 2 - (intOf i).toNat)
 case atStart => exact ⟨rfl, 0, rfl, by omega, by omega, by omega⟩
 case round =>
  obtain ⟨rfl, j, rfl, hj, h1, h2⟩ := hrel
  obtain rfl | rfl | rfl : j = 0 ∨ j = 1 ∨ j = 2 := by omega
  ·by_cases z : c0 = 0
   ·subst z
    clear h1 h2
    go_wp2
    go_roundw
    case rel => exact ⟨trivial, 1, rfl, by omega, fun _ => trivial, by omega⟩
    case measure => simp [intOf]
   ·have zb : (c0 != 0) = true := by simp [z]
    have zc : (c0 == 0) = false := by simp [z]
    have hv : Hid (or2 c0 c1 = c0) := if_neg z
    clear h1 h2 z
    go_wp2
    go_ret
    exact ⟨by rw [hv.out] <;> rfl, rfl⟩
  ·obtain rfl := h1 (by omega)
   by_cases z : c1 = 0
   ·subst z
    clear h1 h2
    go_wp2
    go_roundw
    case rel => exact ⟨trivial, 2, rfl, by omega, fun _ => trivial, fun _ => trivial⟩
    case measure => simp [intOf]
   ·have zb : (c1 != 0) = true := by simp [z]
    have zc : (c1 == 0) = false := by simp [z]
    have hv : Hid (or2 0 c1 = c1) := if_pos rfl
    clear h1 h2 z
    go_wp2
    go_ret
    exact ⟨by rw [hv.out] <;> rfl, rfl⟩
  ·obtain rfl := h1 (by omega)
   obtain rfl := h2 (by omega)
   clear h1 h2
   go_wp2
   go_ret
   exact ⟨rfl, rfl⟩
open Go.RowKit
set_option maxHeartbeats 800000 in
theorem bool_any (w : World) (p L : Nat) (xs : List Int) (k : Int) (h : R w p L xs k) : Calls Tryz.prog 122 #[.pointer (some ⟨p, 0, none⟩)] w fun e w' =>
  e = .returned (.bool (boolS xs k).1) ∧ R w' p L (boolS xs k).2.1 (boolS xs k).2.2 ∧ w.grownBy w' (some p) := by
 have hR := h
 obtain ⟨ao, n, cap, hr⟩ := h
 have hc0 := hr.c0
 have hc1 := hr.c1
 have hf0 := hr.f0
 have hl := hr.sl.len
 by_cases hk : k = 0
 ·subst hk
  cases xs with
  | nil =>
   obtain rfl : n = 0 := by simpa using hl.symm
   rw [show boolS [] 0 = (false, [], 2) from rfl]
   clear hr hl
   go_enter Tryz.func122, Tryz.ntmps122
   go_wp2_with (first | (go_at_call 86; refine (failed_any _ p 0 hc1).mono ?_; rintro e w' ⟨rfl, rfl⟩) | (go_at_call 87; refine (fail_any _ p L [] 2 hR (by decide)).mono ?_; rintro e w2 ⟨rfl, hr2, hg2⟩))
   go_ret
   exact ⟨rfl, hr2, hg2⟩
  | cons c r =>
   have hn : 0 < n := by rw [← hl]; simp
   have hnb : ((n : Int) == 0) = false := by simp; omega
   have hn1 : (0 : Int) < (n : Int) := by omega
   have hn2 : (1 : Int) ≤ (n : Int) := by omega
   have hby := hr.sl.byte c (by simp)
   obtain ⟨b, off, rfl, hcell⟩ := hr.sl.at hn
   have c0 := hcell 0 hn
   rw [Nat.add_zero, show (c :: r).getD 0 0 = c from rfl] at c0
   have hle := hr.sl.le
   have hmx := hr.sl.mx
   unfold maxLen at hmx
   clear hcell
   by_cases hbig : 1 < c
   ·rw [show boolS (c :: r) 0 = (false, [], 3) from by simp [boolS, hbig]]
    clear hr
    go_enter Tryz.func122, Tryz.ntmps122
    go_wp2_with (first | (go_at_call 86; refine (failed_any _ p 0 hc1).mono ?_; rintro e w' ⟨rfl, rfl⟩) | (go_at_call 87; refine (fail_any _ p L (c :: r) 3 hR (by decide)).mono ?_; rintro e w2 ⟨rfl, hr2, hg2⟩))
    go_ret
    exact ⟨rfl, hr2, hg2⟩
   ·have hc1' : c ≤ 1 := by omega
    rw [show boolS (c :: r) 0 = (c == 1, r, 0) from by simp [boolS, hbig]]
    have hsd := hr.sl.drop 1 hn
    rw [show (c :: r).drop 1 = r from rfl] at hsd
    have hsa : cap = 1 → Sl w (some ⟨b, off, none⟩) (n - 1) 0 r := by
     intro hc
     subst hc
     exact hr.sl.dropAll hn
    clear hbig
    go_enter Tryz.func122, Tryz.ntmps122
    go_wp2_with (first | (go_at_call 86; refine (failed_any _ p 0 hc1).mono ?_; rintro e w' ⟨rfl, rfl⟩) | fail)
    ·have hcap : cap = 1 := by assumption
     have hfin : R (w'.setCell ⟨p, 0, none⟩ (.slice (some ⟨b, off, none⟩) (n - 1) 0)) p L r 0 := ⟨_, _, _, hr.rest (hsa hcap) (fun a ha hp => by omega) (by omega)⟩
     go_ret
     exact ⟨rfl, hfin, grown_setCell _ _ _ _⟩
    ·have hfin := hr.rest hsd (low_drop hr.low (by omega)) (by omega)
     rw [show Option.map (fun x => x.add 1) (some (⟨b, off, none⟩ : Addr)) = some ⟨b, off + 1, none⟩ from by rw [Option.map_some, Addr.add_lit]] at hfin
     go_ret
     exact ⟨rfl, ⟨_, _, _, hfin⟩, grown_setCell _ _ _ _⟩
 ·have hb : (k != 0) = true := by simp [hk]
  have hs : boolS xs k = (false, xs, k) := by simp [boolS, hk]
  rw [hs]
  clear hr hk hs
  go_enter Tryz.func122, Tryz.ntmps122
  go_wp2_with (go_at_call 86; refine (failed_any _ p k hc1).mono ?_; rintro e w' ⟨rfl, rfl⟩)
  go_ret
  exact ⟨rfl, hR, World.grownBy.refl _ _⟩
open Go.RowKit
theorem opInfo : (Tryz.prog.info? 62).map (fun i => (i.zero, i.size, i.bytes)) = some (some (.agg #[.int .i64 0, .string ⟨#[]⟩, .string ⟨#[]⟩, .string ⟨#[]⟩, .int .u64 0, .string ⟨#[]⟩, .slice none 0 0, .slice none 0 0, .bool false, .slice none 0 0]), 10, 160) := by kernel_rfl
def cellsO (l : List OA) : List Value := (l.map OA.cells).flatten
theorem OWL.own {w : World} {base : Nat} {v : Value} {n : Nat} {l : List OA} (h : w.ownsRow base 62 10 v n (cellsO l)) (hok : ∀ o ∈ l, o.ok w) : ∃ ao cap, v = .slice ao n cap ∧ OWL w 0 ao n cap l := by
 have hl : l.length = n := by
  have := h.1
  unfold cellsO at this
  rw [flat_len OA.cells 10 (fun _ => rfl)] at this
  omega
 rcases h.2 with ⟨rfl, rfl⟩ | ⟨g, cap, cur, rfl, a1, a2, a3, a4, a5, a6⟩
 ·exact ⟨Option.none, 0, rfl, hl, Nat.le_refl _, Nat.zero_le _, fun _ => ⟨rfl, rfl⟩, fun _ h => by simp at h, fun y hy => hok y hy⟩
 ·refine ⟨some ⟨g, 0, Option.none⟩, cap, rfl, hl, a3, a4, fun h => by simp at h, fun a ha i hi j u hu => ?_, fun y hy => hok y hy⟩
  obtain rfl := Option.some.inj ha
  have hj : j < 10 := (List.getElem?_eq_some_iff.1 hu).1
  refine h.cells (g := g) rfl (i * 10 + j) u ?_
  unfold cellsO
  rw [flat_get OA.cells 10 (fun _ => rfl) l i j hi hj]
  exact hu
def OA.blks (o : OA) (x : Nat) : Prop := o.va.blk x ∨ o.wa.blk x
theorem OA.ok.blk_lt {o : OA} {w : World} (h : o.ok w) {x : Nat} (hx : o.blks x) : x < w.heap.size := by
 rcases hx with hx | hx
 ·exact h.va.blk_lt hx
 ·exact h.wa.blk_lt hx
theorem OA.ok.kept {o : OA} {w w' : World} (h : o.ok w) (hk : ∀ x, o.blks x → w'.heap[x]? = w.heap[x]?) : o.ok w' :=
 ⟨h.kind, h.row, h.fam, h.qual, h.time, h.to, h.va.kept (fun x hx => hk x (.inl hx)), h.wa.kept (fun x hx => hk x (.inr hx)), h.le, h.mx, h.nil⟩
end Go.Proofs.YtkjaapomaaakmaaGreat
namespace Go
section
variable {P : Program} {ops : Array Oper} {S : World → Prop} {Q : Exit → Act → World → Prop} {fuel : Nat} {listed : Array Bool} {a : Act} {w : World}
theorem op_do (i : Nat) (d : Option Tmp) (v : Value) {oi : Oper} {w' : World} (hi : ops[i]? = some oi) (hd : oi.dst = d) (hg : oi.guard = none) (hrun : (execOp a.eval oi).run P w = .ok (.value v) w') (hS : S w')
  (h : wpAnyH P .any ops (NoPanic Q) S fuel (listed.setIfInBounds i true) (a.put d v) w') : wpOp P ops (NoPanic Q) i (fun a' w' => S w' ∧ wpAnyH P .any ops (NoPanic Q) S fuel (listed.setIfInBounds i true) a' w') a w := by
 have hw : Region.wanted oi (yielded ops a.tmps) = true := by simp [Region.wanted, hg]
 unfold wpOp
 simp only [hi, hw, if_true, Oper.wp, hrun, Oper.upon, hd]
 exact .inl ⟨hS, h⟩
theorem op_call (i : Nat) (d : Option Tmp) {oi : Oper} (f : FuncId) (args : Array Value) (hi : ops[i]? = some oi) (hd : oi.dst = d) (hg : oi.guard = none) (hrun : (execOp a.eval oi).run P w = .ok (.enter f args) w)
  (R : Value → World → Prop) (hc : Calls P f args w fun e w' => ∃ v, e = .returned v ∧ R v w')
  (h : ∀ v w', R v w' → S w' ∧ wpAnyH P .any ops (NoPanic Q) S fuel (listed.setIfInBounds i true) (a.put d v) w') : wpOp P ops (NoPanic Q) i (fun a' w' => S w' ∧ wpAnyH P .any ops (NoPanic Q) S fuel (listed.setIfInBounds i true) a' w') a w := by
 have hw : Region.wanted oi (yielded ops a.tmps) = true := by simp [Region.wanted, hg]
 unfold wpOp
 simp only [hi, hw, if_true, Oper.wp, hrun, Oper.upon, hd]
 refine .inl (hc.mono ?_)
 rintro e w' ⟨v, rfl, hR⟩
 exact h v w' hR
theorem hr_two {i j : Nat} (hr : Region.ready .any ops listed = [i, j]) (h1 : wpOp P ops (NoPanic Q) i (fun a' w' => S w' ∧ wpAnyH P .any ops (NoPanic Q) S fuel (listed.setIfInBounds i true) a' w') a w)
  (h2 : wpOp P ops (NoPanic Q) j (fun a' w' => S w' ∧ wpAnyH P .any ops (NoPanic Q) S fuel (listed.setIfInBounds j true) a' w') a w) : wpAnyH P .any ops (NoPanic Q) S (fuel + 1) listed a w := by
 refine wpAnyH_all hr (by simp) fun k hk => ?_
 simp only [List.mem_cons, List.not_mem_nil, or_false] at hk
 rcases hk with rfl | rfl
 ·exact h1
 ·exact h2
theorem hr_own (i : Nat) (d : Option Tmp) {oi : Oper} (hi : ops[i]? = some oi) (hd : oi.dst = d) (hr : Region.ready .any ops listed = [i]) (hg : oi.guard = none) (s x : Operand) (t : TypeId)
  (ho : oi.op = .call { callee := .builtin .append, args := #[s, x], argTypes := #[t, t] })
  (base : Nat) (e : TypeId) (inf : TypeInfo) (z : Value) (size bytes : Nat) (ht : P.underlying t = some (.slice e)) (hinf : P.info? e = some inf) (hz : inf.zero = some z)
  (hsize : inf.size = size) (hby : inf.bytes = bytes) (hzs : z.cells.size = size) (hsz : 0 < size)
  (v : Value) (n : Nat) (xs : List Value) (hs : a.eval s = v) (hown : w.ownsRow base e size v n xs)
  (ad : Addr) (m c : Nat) (news : List Value) (hx : a.eval x = .slice (some ad) m c) (hl : news.length = m * size) (hnews : ∀ j u, news[j]? = some u → w.cell? (ad.add j) = some u) (h1 : ∀ u ∈ news, u.oneCell' = true)
  (h63 : n + m ≤ maxLen) (hbytes : (n + m) * bytes ≤ 140737488355328) (hbase : base ≤ w.heap.size)
  (h : ∀ v' w', w'.ownsRow base e size v' (n + m) (xs ++ news) → w.grownBy w' v.ownBlock → (∀ g, v'.ownBlock = some g → v.ownBlock = some g ∨ w.heap.size ≤ g) → S w' ∧ wpAnyH P .any ops (NoPanic Q) S fuel (listed.setIfInBounds i true) (a.put d v') w') : wpAnyH P .any ops (NoPanic Q) S (fuel + 1) listed a w := by
 refine wpAnyH_all hr (by simp) fun j hj => ?_
 obtain rfl := List.mem_singleton.1 hj
 have hw : Region.wanted oi (yielded ops a.tmps) = true := by simp [Region.wanted, hg]
 obtain ⟨v', w', hrun, h2, h3, h4⟩ := Go.Proofs.YtkjaapomaaakmaaGreat.run_append_own2 (P := P) w base t oi.type e inf z size bytes ht hinf hz hsize hby hzs hsz v n xs hown ad m c news hl hnews h1 h63 hbytes hbase
 unfold wpOp
 simp only [hi, hw, if_true]
 refine .inl ?_
 unfold Oper.wp execOp
 simp only [ho, resolve, invoke, builtin, Sem.run_bind, Sem.run_pure, Result.andThen_ok, List.map_toArray, List.map_cons, List.map_nil, hs, hx, hrun, Oper.upon, hd]
 exact h v' w' h2 h3 h4
end
end Go
namespace Go.Proofs.YtkjaapomaaakmaaGreat
open Go.RowKit
theorem wp_scope_mid {P : Program} {Q : Exit → Act → World → Prop} {a : Act} {w : World} {h1 h2 h3 h4 h5 y : Code} (l : Nat) (J : Act → World → Prop) (μ : Act → World → Nat)
  (hf : findLabel (h1.seq (h2.seq (h3.seq (h4.seq (h5.seq ((Code.label l).seq y)))))) l = some (.seq .skip y))
  (first : h1.wp P (Exit.then (fun a w => h2.wp P (Exit.then (fun a w => h3.wp P (Exit.then (fun a w => h4.wp P (Exit.then (fun a w => h5.wp P (Exit.then J (Exit.jump l J Q)) a w) (Exit.jump l J Q)) a w) (Exit.jump l J Q)) a w) (Exit.jump l J Q)) a w) (Exit.jump l J Q)) a w)
  (pass : ∀ a w, J a w → y.wp P (Exit.jump l (fun a' w' => J a' w' ∧ μ a' w' < μ a w) Q) a w) :
  (Code.scope (h1.seq (h2.seq (h3.seq (h4.seq (h5.seq ((Code.label l).seq y))))))).wp P Q a w := by
 refine wp_scope_jumps l J μ hf ?_ ?_
 ·have last : ∀ a w, J a w → ((Code.label l).seq y).wp P (Exit.jump l J Q) a w := fun a w hJ => by
   refine wp_seq (wp_label ?_)
   show y.wp P _ a w
   refine wp_mono (pass a w hJ) ?_
   intro e a' w' h
   cases e with
   | goto l' => exact ⟨h.1, h.2.1⟩
   | _ => exact h
  have up : ∀ {K K' : Act → World → Prop} {Q' : Exit → Act → World → Prop}, (∀ a w, K a w → K' a w) → ∀ e a w, Exit.then K Q' e a w → Exit.then K' Q' e a w := fun hk e a w h => by
   cases e with
   | normal => exact hk a w h
   | _ => exact h
  refine wp_seq (wp_mono first (up fun a w h => ?_))
  refine wp_seq (wp_mono h (up fun a w h => ?_))
  refine wp_seq (wp_mono h (up fun a w h => ?_))
  refine wp_seq (wp_mono h (up fun a w h => ?_))
  exact wp_seq (wp_mono h (up fun a w h => last a w h))
 ·intro a w hJ
  exact wp_seq (wp_skip (pass a w hJ))
open Go.RowKit
def OV (V : World) (p : Nat) (o : OA) (v : Value) : Prop := V.heap[p]? = some (.cells #[.int .i64 o.kind, .string o.row, .string o.fam, .string o.qual, .int .u64 o.time, .string o.to, .slice o.va.ao o.va.n o.va.cap, .slice o.wa.ao o.wa.n o.wa.cap, .bool o.has, v] 62)
theorem OV.lt {V : World} {p : Nat} {o : OA} {v : Value} (h : OV V p o v) : p < V.heap.size := (Array.getElem?_eq_some_iff.1 h).1
theorem OV.kept {V V' : World} {p : Nat} {o : OA} {v : Value} (h : OV V p o v) (hk : V'.heap[p]? = V.heap[p]?) : OV V' p o v := hk.trans h
theorem OV.grown {V V' : World} {q p : Nat} {o : OA} {v : Value} (h : OV V q o v) (hg : V.grownBy V' (some p)) (hne : q ≠ p) : OV V' q o v := h.kept (hg.block q h.lt (by simp; omega))
structure OVs (V : World) (p : Nat) (o : OA) (v : Value) : Prop where
 c0 : V.cell? ⟨p, 0, none⟩ = some (.int .i64 o.kind)
 c1 : V.cell? ⟨p, 1, none⟩ = some (.string o.row)
 c2 : V.cell? ⟨p, 2, none⟩ = some (.string o.fam)
 c3 : V.cell? ⟨p, 3, none⟩ = some (.string o.qual)
 c4 : V.cell? ⟨p, 4, none⟩ = some (.int .u64 o.time)
 c5 : V.cell? ⟨p, 5, none⟩ = some (.string o.to)
 c6 : V.cell? ⟨p, 6, none⟩ = some (.slice o.va.ao o.va.n o.va.cap)
 c7 : V.cell? ⟨p, 7, none⟩ = some (.slice o.wa.ao o.wa.n o.wa.cap)
 c8 : V.cell? ⟨p, 8, none⟩ = some (.bool o.has)
 c9 : V.cell? ⟨p, 9, none⟩ = some (v)
theorem OV.cs {V : World} {p : Nat} {o : OA} {v : Value} (h : OV V p o v) : OVs V p o v :=
 ⟨cell_of_row V p 0 _ _ _ h, cell_of_row V p 1 _ _ _ h, cell_of_row V p 2 _ _ _ h, cell_of_row V p 3 _ _ _ h, cell_of_row V p 4 _ _ _ h, cell_of_row V p 5 _ _ _ h, cell_of_row V p 6 _ _ _ h, cell_of_row V p 7 _ _ _ h, cell_of_row V p 8 _ _ _ h, cell_of_row V p 9 _ _ _ h⟩
theorem OV.fz {V : World} {p : Nat} {o : OA} {v : Value} (h : OV V p o v) (i : Nat) : V.frozen? ⟨p, i, none⟩ = false := frozen_of_row V p i _ _ h
theorem OV.setV {V : World} {p : Nat} {o : OA} {v : Value} (h : OV V p o v) (b : Bs) : OV (V.setCell ⟨p, 6, none⟩ (.slice b.ao b.n b.cap)) p { o with va := b } v := heap_setCell_same V p 6 _ _ _ h
theorem OV.setW {V : World} {p : Nat} {o : OA} {v : Value} (h : OV V p o v) (b : Bs) : OV (V.setCell ⟨p, 7, none⟩ (.slice b.ao b.n b.cap)) p { o with wa := b } v := heap_setCell_same V p 7 _ _ _ h
theorem OV.setH {V : World} {p : Nat} {o : OA} {v : Value} (h : OV V p o v) (b : Bool) : OV (V.setCell ⟨p, 8, none⟩ (.bool b)) p { o with has := b } v := heap_setCell_same V p 8 _ _ _ h
theorem OV.setP {V : World} {p : Nat} {o : OA} {v : Value} (h : OV V p o v) (u : Value) : OV (V.setCell ⟨p, 9, none⟩ u) p o u := heap_setCell_same V p 9 _ _ _ h
def OA.sblk (o : OA) (x : Nat) : Prop := ∃ a, o.so = some a ∧ 0 < o.sn ∧ a.block = x
def TakePost (F : Nat) (w : World) (p L most : Nat) (xs : List Int) (k : Int) (e : Ending) (w' : World) : Prop :=
 ∃ (o : OA) (l : List OA), e = .returned o.val ∧ o.ok w' ∧ OWL w' 0 o.so o.sn o.sc l ∧ (∀ x, (o.blks x ∨ o.sblk x ∨ ∃ y ∈ l, y.blks x) → x < F ∨ w.heap.size ≤ x) ∧ o.s = (sT most xs k).1.1 ∧
  l.map sn0 = (repT (sT 0) (sT most xs k).1.2 (sT most xs k).2.1 (sT most xs k).2.2).1 ∧ Left w p L (repT (sT 0) (sT most xs k).1.2 (sT most xs k).2.1 (sT most xs k).2.2).2 w'
def lenAt (M : Nat) (V : World) : Nat := match V.cell? ⟨M, 9, none⟩ with
 | some (.slice _ n _) => n
 | _ => 0
def ptrOf : Value → Nat
 | .pointer (some a) => a.block
 | _ => 0
structure TakeInv (F : Nat) (w : World) (p L N M parts : Nat) (o : OA) (hx : List Int) (hk : Int) (V : World) (v : Value) (l : List OA) : Prop where
 rd : R V p L (repT (sT 0) l.length hx hk).2.1 (repT (sT 0) l.length hx hk).2.2
 ov : OV V M o v
 res : V.heap[N]? = some (.cells #[.int .i64 0, .string ⟨#[]⟩, .string ⟨#[]⟩, .string ⟨#[]⟩, .int .u64 0, .string ⟨#[]⟩, .slice none 0 0, .slice none 0 0, .bool false, .slice none 0 0] 62)
 own : V.ownsRow (M + 1) 62 10 v l.length (cellsO l)
 ok : o.ok V
 oks : ∀ y ∈ l, y.ok V
 far : ∀ x, (o.blks x ∨ ∃ y ∈ l, y.blks x) → (x < F ∨ M < x) ∧ v.ownBlock ≠ some x
 thr : l.map sn0 = (repT (sT 0) l.length hx hk).1
 gr : w.grownBy V (some p)
 le : l.length ≤ parts
 pos : L ≤ p ∧ p < N ∧ N < M ∧ w.heap.size ≤ N ∧ F ≤ L
theorem TakeInv.drew {F : Nat} {w : World} {p L N M parts : Nat} {o : OA} {hx : List Int} {hk : Int} {V : World} {v : Value} {l : List OA} (h : TakeInv F w p L N M parts o hx hk V v l) : TakeInv F w p L N M parts o hx hk V.drew v l :=
 ⟨h.rd.below (Below.refl _ _).drew, h.ov, h.res, h.own.drew, h.ok.below (Below.refl _ _).drew, fun y hy => (h.oks y hy).below (Below.refl _ _).drew, h.far, h.thr, grown_trans h.gr (grown_below (Below.refl _ _).drew), h.le, h.pos⟩
theorem TakeInv.ownlt {F : Nat} {w : World} {p L N M parts : Nat} {o : OA} {hx : List Int} {hk : Int} {V : World} {v : Value} {l : List OA} (h : TakeInv F w p L N M parts o hx hk V v l) {g : Nat} (hg : v.ownBlock = some g) : M < g ∧ g < V.heap.size := by
 have := h.own.lt g hg
 omega
theorem TakeInv.step {F : Nat} {w : World} {p L N M parts : Nat} {o : OA} {hx : List Int} {hk : Int} {V : World} {v : Value} {l : List OA} (h : TakeInv F w p L N M parts o hx hk V v l) (hlt : l.length < parts)
  {y : OA} {V1 V3 : World} {v' : Value} {ob : Obj} (y1 : y.ok V1) (y2 : ∀ x, y.blks x → x < F ∨ V.heap.size ≤ x) (y3 : sn0 y = (sT 0 (repT (sT 0) l.length hx hk).2.1 (repT (sT 0) l.length hx hk).2.2).1)
  (y4 : R V1 p L (sT 0 (repT (sT 0) l.length hx hk).2.1 (repT (sT 0) l.length hx hk).2.2).2.1 (sT 0 (repT (sT 0) l.length hx hk).2.1 (repT (sT 0) l.length hx hk).2.2).2.2) (y5 : V.grownBy V1 (some p))
  (a1 : V3.ownsRow (M + 1) 62 10 v' (l.length + 1) (cellsO l ++ y.cells)) (a2 : (V1.alloc ob).grownBy V3 v.ownBlock) (a3 : ∀ g, v'.ownBlock = some g → v.ownBlock = some g ∨ (V1.alloc ob).heap.size ≤ g) :
  TakeInv F w p L N M parts o hx hk (V3.setCell ⟨M, 9, none⟩ v') v' (l ++ [y]) := by
 have hp := h.pos
 have sz1 := y5.size
 have sz2 : (V1.alloc ob).heap.size = V1.heap.size + 1 := by simp
 have sz3 := a2.size
 have key : ∀ x, x < V1.heap.size → v.ownBlock ≠ some x → V3.heap[x]? = V1.heap[x]? := fun x hx1 hx2 => (a2.block x (by omega) (fun e => hx2 e.symm)).trans (heap_alloc_old V1 ob hx1)
 have own1 : ∀ x, x ≤ M → v.ownBlock ≠ some x := fun x hx1 hx2 => by have := (h.ownlt hx2).1; omega
 have hM : M < V.heap.size := h.ov.lt
 have RB : ∀ x, x < V.heap.size → x ≠ p → V1.heap[x]? = V.heap[x]? := fun x hx1 hx2 => y5.block x hx1 (by simp; exact hx2)
 have ov1 : OV V1 M o v := h.ov.kept (RB M hM (by omega))
 have ov3 : OV V3 M o v := ov1.kept (key M (by omega) (own1 M (Nat.le_refl _)))
 have hset : ∀ x, x ≠ M → (V3.setCell ⟨M, 9, none⟩ v').heap[x]? = V3.heap[x]? := (same_set V3 M 9 v').2
 have fin : ∀ x, x < V.heap.size → x ≠ p → x ≠ M → v.ownBlock ≠ some x → (V3.setCell ⟨M, 9, none⟩ v').heap[x]? = V.heap[x]? := fun x b1 b2 b3 b4 => ((hset x b3).trans (key x (by omega) b4)).trans (RB x b1 b2)
 have oldfar : ∀ x, (o.blks x ∨ ∃ y ∈ l, y.blks x) → x ≠ p ∧ x ≠ M := fun x hx1 => by have := (h.far x hx1).1; omega
 refine ⟨?_, ov3.setP v', ?_, ?_, ?_, ?_, ?_, ?_, ?_, ?_, hp⟩
 ·rw [List.length_append, List.length_singleton, repT_snoc]
  obtain ⟨ao, n, cap, r⟩ := y4
  have r3 : R V3 p L (sT 0 (repT (sT 0) l.length hx hk).2.1 (repT (sT 0) l.length hx hk).2.2).2.1 (sT 0 (repT (sT 0) l.length hx hk).2.1 (repT (sT 0) l.length hx hk).2.2).2.2 := by
   have rp : p < V1.heap.size := r.plt
   have hbk := key p rp (own1 p (by omega))
   refine ⟨ao, n, cap, (World.cell?_of_block (a := ⟨p, 0, none⟩) hbk).trans r.c0, (World.cell?_of_block (a := ⟨p, 1, none⟩) hbk).trans r.c1, (World.frozen?_of_block (a := ⟨p, 0, none⟩) hbk).trans r.f0, (World.frozen?_of_block (a := ⟨p, 1, none⟩) hbk).trans r.f1, ?_, r.low, r.le, r.sm⟩
   exact Sl.kept (b := ⟨ao, n, cap, _⟩) r.sl (fun x hx1 => by
    obtain ⟨a, ha, hn, rfl⟩ := hx1
    have hl1 := r.low a ha hn
    exact key _ (by omega) (own1 _ (by omega)))
  exact r3.own (by omega) (by omega)
 ·exact (fin N (Array.getElem?_eq_some_iff.1 h.res).1 (by omega) (by omega) (own1 N (by omega))).trans h.res
 ·rw [List.length_append, List.length_singleton]
  have e : cellsO (l ++ [y]) = cellsO l ++ y.cells := by unfold cellsO; simp
  rw [e]
  refine own_kept a1 fun g hg => hset g ?_
  have := (a1.lt g hg).1
  omega
 ·exact h.ok.kept fun x hx1 => fin x (h.ok.blk_lt hx1) (oldfar x (.inl hx1)).1 (oldfar x (.inl hx1)).2 (h.far x (.inl hx1)).2
 ·intro q hq
  rcases List.mem_append.1 hq with hq | hq
  ·exact (h.oks q hq).kept fun x hx1 => fin x ((h.oks q hq).blk_lt hx1) (oldfar x (.inr ⟨q, hq, hx1⟩)).1 (oldfar x (.inr ⟨q, hq, hx1⟩)).2 (h.far x (.inr ⟨q, hq, hx1⟩)).2
  ·rw [List.mem_singleton.1 hq]
   refine y1.kept fun x hx1 => ?_
   have c1 := y2 x hx1
   have c2 := y1.blk_lt hx1
   have c3 : v.ownBlock ≠ some x := fun e => by have := h.ownlt e; omega
   exact (hset x (by omega)).trans (key x c2 c3)
 ·intro x hx1
  have old : ∀ x, x < V1.heap.size → v.ownBlock ≠ some x → v'.ownBlock ≠ some x := fun x b1 b2 b3 => by
   rcases a3 x b3 with c | c
   ·exact b2 c
   ·omega
  rcases hx1 with hx1 | ⟨q, hq, hx1⟩
  ·have := h.far x (.inl hx1)
   exact ⟨this.1, old x (by have := h.ok.blk_lt hx1; omega) this.2⟩
  ·rcases List.mem_append.1 hq with hq | hq
   ·have := h.far x (.inr ⟨q, hq, hx1⟩)
    exact ⟨this.1, old x (by have := (h.oks q hq).blk_lt hx1; omega) this.2⟩
   ·rw [List.mem_singleton.1 hq] at hx1
    have c1 := y2 x hx1
    have c2 := y1.blk_lt hx1
    refine ⟨by omega, old x c2 fun e => ?_⟩
    have := h.ownlt e
    omega
 ·rw [List.length_append, List.length_singleton, repT_snoc, List.map_append, h.thr, ← y3]
  rfl
 ·refine grown_own ?_ (by omega)
  refine ⟨?_, ?_, ?_, ?_, ?_⟩
  ·rw [a2.os]; exact y5.os.trans h.gr.os
  ·rw [a2.tape]; exact y5.tape.trans h.gr.tape
  ·rw [a2.output]; exact y5.output.trans h.gr.output
  ·have := h.gr.size; omega
  ·intro x b1 b2
   have b3 := h.gr.size
   exact ((key x (by omega) (own1 x (by omega))).trans (y5.block x (by omega) b2)).trans (h.gr.block x b1 b2)
 ·rw [List.length_append, List.length_singleton]
  omega
open Go.RowKit
theorem txT_ok {xs : List Int} (h : Byt xs) {k : Int} : (txT 32 xs k).1.size ≤ 32 := by
 show (strOfNums (bytesS xs k ((32 : Nat) : Int)).1).size ≤ 32
 rw [str_size (bytesS_byt h k 32).1]
 exact bytesS_le xs k 32
theorem txT_byt {xs : List Int} (h : Byt xs) {k : Int} : Byt (txT 32 xs k).2.1 := (bytesS_byt h k 32).2
theorem keyT_ok {xs : List Int} (h : Byt xs) {k : Int} : (keyT xs k).1.1.size ≤ 32 ∧ (keyT xs k).1.2.1.size ≤ 32 ∧ (keyT xs k).1.2.2.1.size ≤ 32 ∧ (keyT xs k).1.2.2.2 < 18446744073709551616 :=
 ⟨txT_ok h, txT_ok (txT_byt h), txT_ok (txT_byt (txT_byt h)), uintS_lt (txT_byt (txT_byt (txT_byt h)))⟩
end Go.Proofs.YtkjaapomaaakmaaGreat

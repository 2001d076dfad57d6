/-
  Texts in one: PText, BsBlk, PRdRM, LRow, HRegE, HRegG.
-/
import Derived.Test.YtlgafjalcpjelaaDoorSessionPlaysQ1
import Derived.Test.YtlgafjalcpjelaaDoorSessionPlaysQ13
import Derived.Test.YtlgafjalcpjelaaDoorSessionPlaysQ10
import Derived.Test.YtlgafjalcpjelaaDoorSessionPlaysQ0
import Derived.Test.YtlgafjalcpjelaaDoorSessionPlaysQ11
import Derived.Test.YtlgafjalcpjelaaDoorSessionPlaysQ9
import Derived.Test.YtlgafjalcpjelaaDoorSessionPlaysQ7
namespace Go.Proofs.YtlgafjalcpjelaaDoor
open Go.RowKit
def Left (w : World) (p L : Nat) (t : List Int × Int) (w' : World) : Prop := R w' p L t.1 t.2 ∧ w.grownBy w' (some p)
set_option maxRecDepth 100000 in
set_option maxHeartbeats 1000000 in
theorem ttext_any (w : World) (p L : Nat) (xs : List Int) (k : Int) (h : R w p L xs k) :
    Calls Tryd.prog 76 #[.pointer (some ⟨p, 0, none⟩)] w fun e w' => e = .returned (.string (txT 32 xs k).1) ∧ Left w p L (txT 32 xs k).2 w' := by
  go_enter Tryd.func76, Tryd.ntmps76
  go_wp2_with fail
  refine (bytes_any w p L xs k 32 (by decide) h).mono ?_
  rintro e w1 ⟨ao, n, cap, rfl, S1, _, R1, G1⟩
  have c1 := conv_str S1
  obtain ⟨y, hy⟩ : ∃ y, y = strOfNums (bytesS xs k 32).1 := ⟨_, rfl⟩
  have HY : Hid (y = strOfNums (bytesS xs k 32).1) := hy
  rw [← hy] at c1
  have HR : Hid (R w1 p L (bytesS xs k 32).2.1 (bytesS xs k 32).2.2) := R1
  clear hy S1 R1 h
  go_wp2
  go_ret
  exact ⟨by show Ending.returned (Value.string y) = _; rw [HY.out]; exact rfl, HR.out, G1⟩
theorem grown_own {w W : World} {p q i : Nat} {v : Value} (h : w.grownBy W (some p)) (hq : w.heap.size ≤ q) : w.grownBy (W.setCell ⟨q, i, none⟩ v) (some p) :=
  ⟨h.os, h.tape, h.output, by rw [World.size_setCell]; exact h.size, fun j hj hne => (Below.heap_setCell W ⟨q, i, none⟩ v j (by show j ≠ q; omega)).trans (h.block j hj hne)⟩
theorem R.own {W : World} {p L q i : Nat} {v : Value} {xs : List Int} {k : Int} (h : R W p L xs k) (hp : p < q) (hL : L ≤ q) : R (W.setCell ⟨q, i, none⟩ v) p L xs k := h.keep (by omega) hL (grown_setCell W q i v)
theorem R.plt {W : World} {p L : Nat} {xs : List Int} {k : Int} (h : R W p L xs k) : p < W.heap.size ∧ L ≤ p := by
  obtain ⟨ao, n, cap, h⟩ := h
  exact ⟨h.plt, h.le⟩
def zeroKA : KA := ⟨⟨#[]⟩, ⟨#[]⟩, ⟨#[]⟩, 0⟩
def keyOf (q : ByteArray × ByteArray × ByteArray × Nat) : KA := ⟨q.1, q.2.1, q.2.2.1, q.2.2.2⟩
theorem KyC.grown {V V' : World} {q p : Nat} {k : KA} (h : KyC V q k) (hg : V.grownBy V' (some p)) (hne : q ≠ p) : KyC V' q k := (hg.block q h.lt (by simp; omega)).trans h
set_option maxRecDepth 100000 in
set_option maxHeartbeats 4000000 in
theorem tkey_any (w : World) (p L : Nat) (xs : List Int) (k : Int) (h : R w p L xs k) :
    Calls Tryd.prog 59 #[.pointer (some ⟨p, 0, none⟩)] w fun e w' => e = .returned (keyOf (keyT xs k).1).val ∧ Left w p L (keyT xs k).2 w' := by
  have hpl := h.plt
  have K0 : KyC (w.alloc (.cells #[.string ⟨#[]⟩, .string ⟨#[]⟩, .string ⟨#[]⟩, .int .u64 0] 69)) w.heap.size zeroKA := heap_alloc_new w _
  have B0 : Below w.heap.size w (w.alloc (.cells #[.string ⟨#[]⟩, .string ⟨#[]⟩, .string ⟨#[]⟩, .int .u64 0] 69)) := (Below.refl _ w).alloc (Nat.le_refl _) _
  have R0 := h.below B0
  have G0 : w.grownBy _ (some p) := grown_below B0
  clear h
  go_enter Tryd.func59, Tryd.ntmps59
  go_wp2_with fail
  obtain ⟨w0, hw0⟩ : ∃ W, W = w.alloc (.cells #[.string ⟨#[]⟩, .string ⟨#[]⟩, .string ⟨#[]⟩, .int .u64 0] 69) := ⟨_, rfl⟩
  obtain ⟨N, hN⟩ : ∃ N, N = w.heap.size := ⟨_, rfl⟩
  rw [← hw0] at K0 R0 G0 ⊢
  rw [← hN] at K0 ⊢
  have HN : Hid (N = w.heap.size) := hN
  have hne : N ≠ p := by omega
  have hpN : p < N ∧ L ≤ N := by omega
  clear hw0 hN B0
  refine (ttext_any w0 p L xs k R0).mono ?_
  rintro e w1 ⟨rfl, R1, G1⟩
  obtain ⟨r1, e1⟩ : ∃ r, r = txT 32 xs k := ⟨_, rfl⟩
  have E1 : Hid (r1 = txT 32 xs k) := e1
  rw [← e1] at R1 ⊢
  clear e1
  have K1 := K0.grown G1 hne
  have G1 := grown_trans G0 G1
  clear K0 R0 G0
  go_wp2_with fail
  refine (ttext_any w1 p L r1.2.1 r1.2.2 R1).mono ?_
  rintro e w2 ⟨rfl, R2, G2⟩
  obtain ⟨r2, e2⟩ : ∃ r, r = txT 32 r1.2.1 r1.2.2 := ⟨_, rfl⟩
  have E2 : Hid (r2 = txT 32 r1.2.1 r1.2.2) := e2
  rw [← e2] at R2 ⊢
  clear e2
  have K2 := K1.grown G2 hne
  have G2 := grown_trans G1 G2
  clear K1 R1 G1
  go_wp2_with fail
  refine (ttext_any w2 p L r2.2.1 r2.2.2 R2).mono ?_
  rintro e w3 ⟨rfl, R3, G3⟩
  obtain ⟨r3, e3⟩ : ∃ r, r = txT 32 r2.2.1 r2.2.2 := ⟨_, rfl⟩
  have E3 : Hid (r3 = txT 32 r2.2.1 r2.2.2) := e3
  rw [← e3] at R3 ⊢
  clear e3
  have K3 := K2.grown G3 hne
  have G3 := grown_trans G2 G3
  clear K2 R2 G2
  go_wp2_with fail
  refine (uint_any w3 p L r3.2.1 r3.2.2 R3).mono ?_
  rintro e w4 ⟨rfl, R4, G4⟩
  obtain ⟨r4, e4⟩ : ∃ r, r = uintS r3.2.1 r3.2.2 := ⟨_, rfl⟩
  have E4 : Hid (r4 = uintS r3.2.1 r3.2.2) := e4
  rw [← e4] at R4 ⊢
  clear e4
  have K4 := K3.grown G4 hne
  have G4 := grown_trans G3 G4
  clear K3 R3 G3
  have q0 := K4.c0
  have q1 := K4.c1
  have q2 := K4.c2
  have q3 := K4.c3
  have f0 : w4.frozen? ⟨N, 0, none⟩ = false := frozen_of_row w4 N 0 _ _ K4
  have f1 : w4.frozen? ⟨N, 1, none⟩ = false := frozen_of_row w4 N 1 _ _ K4
  have f2 : w4.frozen? ⟨N, 2, none⟩ = false := frozen_of_row w4 N 2 _ _ K4
  have f3 : w4.frozen? ⟨N, 3, none⟩ = false := frozen_of_row w4 N 3 _ _ K4
  have lt := K4.lt
  have hwN : w.heap.size ≤ N := by rw [HN.out]; exact Nat.le_refl _
  have RF : R ((((w4.setCell ⟨N, 0, none⟩ (.string r1.1)).setCell ⟨N, 1, none⟩ (.string r2.1)).setCell ⟨N, 2, none⟩ (.string r3.1)).setCell ⟨N, 3, none⟩ (.int .u64 r4.1)) p L r4.2.1 r4.2.2 := (((R4.own hpN.1 hpN.2).own hpN.1 hpN.2).own hpN.1 hpN.2).own hpN.1 hpN.2
  have GF : w.grownBy ((((w4.setCell ⟨N, 0, none⟩ (.string r1.1)).setCell ⟨N, 1, none⟩ (.string r2.1)).setCell ⟨N, 2, none⟩ (.string r3.1)).setCell ⟨N, 3, none⟩ (.int .u64 r4.1)) (some p) := grown_own (grown_own (grown_own (grown_own G4 hwN) hwN) hwN) hwN
  have HK : Hid (keyT xs k = ((r1.1, r2.1, r3.1, r4.1), r4.2)) := by
    show _ = _
    unfold keyT andT
    rw [← E1.out, ← E2.out, ← E3.out, ← E4.out]
  clear hne hpN G4 R4 K4
  go_wp2
  refine bodyPost_ret (v := .agg #[.string r1.1, .string r2.1, .string r3.1, .int .u64 r4.1]) (by simp [results, Tryd.results59, go_sem, q0, q1, q2, q3]) rfl ⟨?_, ?_⟩
  · rw [HK.out]
    rfl
  · rw [HK.out]
    exact ⟨RF, GF⟩
open Go.RowKit
def Bs.blk (b : Bs) (x : Nat) : Prop := ∃ a, b.ao = some a ∧ 0 < b.n ∧ a.block = x
theorem Sl.blk_lt {w : World} {b : Bs} (h : Sl w b.ao b.n b.cap b.xs) {x : Nat} (hx : b.blk x) : x < w.heap.size := by
  obtain ⟨a, ha, hn, rfl⟩ := hx
  exact h.lt a ha hn
theorem Sl.kept {w w' : World} {b : Bs} (h : Sl w b.ao b.n b.cap b.xs) (hk : ∀ x, b.blk x → w'.heap[x]? = w.heap[x]?) : Sl w' b.ao b.n b.cap b.xs := by
  refine ⟨h.len, h.le, h.mx, h.nil, fun a ha i hi => ?_, h.byte⟩
  have hb : (a.add i).block = a.block := by unfold Addr.add; split <;> rfl
  rw [← h.cell a ha i hi]
  exact World.cell?_of_block (by rw [hb]; exact hk _ ⟨a, ha, by omega, rfl⟩)
open Go.RowKit
def cT : Th CV := mapT toC (andT (txT 32) (andT (txT 32) (andT (txT 32) (andT uintS (andT (byT 256) boolS)))))
theorem thr_c : Thr pC cT := ((thr_text 32).andThen ((thr_text 32).andThen ((thr_text 32).andThen (thr_uint.andThen ((thr_bytes 256).andThen thr_bool))))).map toC
def resTh : Th RV := mapT toR (andT (intT' 100) (andD (intT' 16) fun n => andT (repT cT n) boolS))
theorem thr_r : Thr pR resTh := ((thr_int 100).andThen ((thr_int 16).dep fun n => (thr_c.rep n).andThen thr_bool)).map toR
theorem cT_key (xs : List Int) (k : Int) : cT xs k = (⟨(keyT xs k).1.1, (keyT xs k).1.2.1, (keyT xs k).1.2.2.1, (keyT xs k).1.2.2.2, (bytesS (keyT xs k).2.1 (keyT xs k).2.2 256).1, (boolS (bytesS (keyT xs k).2.1 (keyT xs k).2.2 256).2.1 (bytesS (keyT xs k).2.1 (keyT xs k).2.2 256).2.2).1⟩, (boolS (bytesS (keyT xs k).2.1 (keyT xs k).2.2 256).2.1 (bytesS (keyT xs k).2.1 (keyT xs k).2.2 256).2.2).2) := by
  have e : ((256 : Nat) : Int) = 256 := rfl
  unfold cT mapT
  simp only [andT, keyT, byT, toC, e]
theorem CA.ok.blk_lt {c : CA} {w : World} (h : c.ok w) {x : Nat} (hx : c.va.blk x) : x < w.heap.size := h.va.blk_lt hx
theorem CA.ok.kept {c : CA} {w w' : World} (h : c.ok w) (hk : ∀ x, c.va.blk x → w'.heap[x]? = w.heap[x]?) : c.ok w' := ⟨h.row, h.fam, h.qual, h.time, h.va.kept hk⟩
def sblk (ao : Option Addr) (n x : Nat) : Prop := ∃ a, ao = some a ∧ 0 < n ∧ a.block = x
theorem CL.kept {w w' : World} {ao : Option Addr} {n cap : Nat} {l : List CA} (h : CL w ao n cap l) (hk : ∀ x, (sblk ao n x ∨ ∃ c ∈ l, c.va.blk x) → w'.heap[x]? = w.heap[x]?) : CL w' ao n cap l := by
  refine ⟨h.len, h.le, h.mx, h.nil, fun a ha i hi j v hv => ?_, fun y hy => (h.ok y hy).kept fun x hx => hk x (.inr ⟨y, hy, hx⟩)⟩
  have hb : (a.add (i * 6 + j)).block = a.block := by unfold Addr.add; split <;> rfl
  rw [← h.cell a ha i hi j v hv]
  exact World.cell?_of_block (by rw [hb]; exact hk _ (.inl ⟨a, ha, by have := h.len; omega, rfl⟩))
def RW (V : World) (p : Nat) (e : Int) (v : Value) (m : Bool) : Prop := V.heap[p]? = some (.cells #[.int .i64 e, v, .bool m] 37)
theorem RW.lt {V : World} {p : Nat} {e : Int} {v : Value} {m : Bool} (h : RW V p e v m) : p < V.heap.size := (Array.getElem?_eq_some_iff.1 h).1
theorem RW.kept {V V' : World} {p : Nat} {e : Int} {v : Value} {m : Bool} (h : RW V p e v m) (hk : V'.heap[p]? = V.heap[p]?) : RW V' p e v m := hk.trans h
theorem RW.c0 {V : World} {p : Nat} {e : Int} {v : Value} {m : Bool} (h : RW V p e v m) : V.cell? ⟨p, 0, none⟩ = some (.int .i64 e) := cell_of_row V p 0 _ _ _ h
theorem RW.c1 {V : World} {p : Nat} {e : Int} {v : Value} {m : Bool} (h : RW V p e v m) : V.cell? ⟨p, 1, none⟩ = some v := cell_of_row V p 1 _ _ _ h
theorem RW.c2 {V : World} {p : Nat} {e : Int} {v : Value} {m : Bool} (h : RW V p e v m) : V.cell? ⟨p, 2, none⟩ = some (.bool m) := cell_of_row V p 2 _ _ _ h
theorem RW.fz {V : World} {p : Nat} {e : Int} {v : Value} {m : Bool} (h : RW V p e v m) (i : Nat) : V.frozen? ⟨p, i, none⟩ = false := frozen_of_row V p i _ _ h
theorem RW.setL {V : World} {p : Nat} {e : Int} {v : Value} {m : Bool} (h : RW V p e v m) (u : Value) : RW (V.setCell ⟨p, 1, none⟩ u) p e u m := heap_setCell_same V p 1 _ _ _ h
theorem RW.setM {V : World} {p : Nat} {e : Int} {v : Value} {m : Bool} (h : RW V p e v m) (b : Bool) : RW (V.setCell ⟨p, 2, none⟩ (.bool b)) p e v b := heap_setCell_same V p 2 _ _ _ h
structure ResInv (w : World) (p L N M parts : Nat) (e : Int) (hx : List Int) (hk : Int) (V : World) (v : Value) (l : List CA) : Prop where
  rd : R V p L (repT cT l.length hx hk).2.1 (repT cT l.length hx hk).2.2
  ov : RW V M e v false
  res : RW V N 0 (.slice none 0 0) false
  own : V.ownsRow (M + 1) 71 6 v l.length (cellsC l)
  oks : ∀ y ∈ l, y.ok V
  far : ∀ x, (∃ y ∈ l, y.va.blk x) → M < x ∧ v.ownBlock ≠ some x
  thr : l.map CA.c = (repT cT l.length hx hk).1
  bel : Below N w V
  le : l.length ≤ parts
  pos : L ≤ p ∧ p < M ∧ N < p
theorem ResInv.drew {w : World} {p L N M parts : Nat} {e : Int} {hx : List Int} {hk : Int} {V : World} {v : Value} {l : List CA} (h : ResInv w p L N M parts e hx hk V v l) : ResInv w p L N M parts e hx hk V.drew v l :=
  ⟨h.rd.below (Below.refl _ _).drew, h.ov, h.res, h.own.drew, fun y hy => (h.oks y hy).below (Below.refl _ _).drew, h.far, h.thr, h.bel.drew, h.le, h.pos⟩
theorem ResInv.ownlt {w : World} {p L N M parts : Nat} {e : Int} {hx : List Int} {hk : Int} {V : World} {v : Value} {l : List CA} (h : ResInv w p L N M parts e hx hk V v l) {g : Nat} (hg : v.ownBlock = some g) : M < g ∧ g < V.heap.size := by
  have := h.own.lt g hg
  omega
theorem ResInv.step {w : World} {p L N M parts : Nat} {e : Int} {hx : List Int} {hk : Int} {V : World} {v : Value} {l : List CA} (h : ResInv w p L N M parts e hx hk V v l) (hlt : l.length < parts)
    {y : CA} {V1 V3 : World} {v' : Value} {ob : Obj} (y1 : y.ok V1) (y2 : ∀ x, y.va.blk x → V.heap.size ≤ x) (y3 : y.c = (cT (repT cT l.length hx hk).2.1 (repT cT l.length hx hk).2.2).1)
    (y4 : R V1 p L (cT (repT cT l.length hx hk).2.1 (repT cT l.length hx hk).2.2).2.1 (cT (repT cT l.length hx hk).2.1 (repT cT l.length hx hk).2.2).2.2) (y5 : V.grownBy V1 (some p))
    (a1 : V3.ownsRow (M + 1) 71 6 v' (l.length + 1) (cellsC l ++ y.cells)) (a2 : (V1.alloc ob).grownBy V3 v.ownBlock) (a3 : ∀ g, v'.ownBlock = some g → v.ownBlock = some g ∨ (V1.alloc ob).heap.size ≤ g) :
    ResInv w p L N M parts e hx hk (V3.setCell ⟨M, 1, none⟩ v') v' (l ++ [y]) := by
  have hp := h.pos
  have sz1 := y5.size
  have sz2 : (V1.alloc ob).heap.size = V1.heap.size + 1 := by simp
  have sz3 := a2.size
  have key : ∀ x, x < V1.heap.size → v.ownBlock ≠ some x → V3.heap[x]? = V1.heap[x]? := fun x hx1 hx2 => (a2.block x (by omega) (fun e => hx2 e.symm)).trans (heap_alloc_old V1 ob hx1)
  have own1 : ∀ x, x ≤ M → v.ownBlock ≠ some x := fun x hx1 hx2 => by have := (h.ownlt hx2).1; omega
  have hM : M < V.heap.size := h.ov.lt
  have RB : ∀ x, x < V.heap.size → x ≠ p → V1.heap[x]? = V.heap[x]? := fun x hx1 hx2 => y5.block x hx1 (by simp; exact hx2)
  have ov3 : RW V3 M e v false := (h.ov.kept (RB M hM (by omega))).kept (key M (by omega) (own1 M (Nat.le_refl _)))
  have hset : ∀ x, x ≠ M → (V3.setCell ⟨M, 1, none⟩ v').heap[x]? = V3.heap[x]? := (same_set V3 M 1 v').2
  have fin : ∀ x, x < V.heap.size → x ≠ p → x ≠ M → v.ownBlock ≠ some x → (V3.setCell ⟨M, 1, none⟩ v').heap[x]? = V.heap[x]? := fun x b1 b2 b3 b4 => ((hset x b3).trans (key x (by omega) b4)).trans (RB x b1 b2)
  refine ⟨?_, ov3.setL v', ?_, ?_, ?_, ?_, ?_, ?_, ?_, hp⟩
  · rw [List.length_append, List.length_singleton, repT_snoc]
    obtain ⟨ao, n, cap, r⟩ := y4
    have r3 : R V3 p L (cT (repT cT l.length hx hk).2.1 (repT cT l.length hx hk).2.2).2.1 (cT (repT cT l.length hx hk).2.1 (repT cT l.length hx hk).2.2).2.2 := by
      have rp : p < V1.heap.size := r.plt
      have hbk := key p rp (own1 p (by omega))
      refine ⟨ao, n, cap, (World.cell?_of_block (a := ⟨p, 0, none⟩) hbk).trans r.c0, (World.cell?_of_block (a := ⟨p, 1, none⟩) hbk).trans r.c1, (World.frozen?_of_block (a := ⟨p, 0, none⟩) hbk).trans r.f0, (World.frozen?_of_block (a := ⟨p, 1, none⟩) hbk).trans r.f1, ?_, r.low, r.le, r.sm⟩
      exact Sl.kept (b := ⟨ao, n, cap, _⟩) r.sl (fun x hx1 => by
        obtain ⟨a, ha, hn, rfl⟩ := hx1
        have hl1 := r.low a ha hn
        exact key _ (by omega) (own1 _ (by omega)))
    exact r3.own (by omega) (by omega)
  · exact h.res.kept (fin N h.res.lt (by omega) (by omega) (own1 N (by omega)))
  · rw [List.length_append, List.length_singleton]
    have e : cellsC (l ++ [y]) = cellsC l ++ y.cells := by unfold cellsC; simp
    rw [e]
    refine own_kept a1 fun g hg => hset g ?_
    have := (a1.lt g hg).1
    omega
  · intro q hq
    rcases List.mem_append.1 hq with hq | hq
    · exact (h.oks q hq).kept fun x hx1 => fin x ((h.oks q hq).blk_lt hx1) (by have := (h.far x ⟨q, hq, hx1⟩).1; omega) (by have := (h.far x ⟨q, hq, hx1⟩).1; omega) (h.far x ⟨q, hq, hx1⟩).2
    · rw [List.mem_singleton.1 hq]
      refine y1.kept fun x hx1 => ?_
      have c1 := y2 x hx1
      have c2 := y1.blk_lt hx1
      have c3 : v.ownBlock ≠ some x := fun e => by have := h.ownlt e; omega
      exact (hset x (by omega)).trans (key x c2 c3)
  · intro x hx1
    have old : ∀ x, x < V1.heap.size → v.ownBlock ≠ some x → v'.ownBlock ≠ some x := fun x b1 b2 b3 => by
      rcases a3 x b3 with c | c
      · exact b2 c
      · omega
    obtain ⟨q, hq, hx1⟩ := hx1
    rcases List.mem_append.1 hq with hq | hq
    · have := h.far x ⟨q, hq, hx1⟩
      exact ⟨this.1, old x (by have := (h.oks q hq).blk_lt hx1; omega) this.2⟩
    · rw [List.mem_singleton.1 hq] at hx1
      have c1 := y2 x hx1
      have c2 := y1.blk_lt hx1
      refine ⟨by omega, old x c2 fun e => ?_⟩
      have := h.ownlt e
      omega
  · rw [List.length_append, List.length_singleton, repT_snoc, List.map_append, h.thr, ← y3]
    rfl
  · have hb := h.bel.size
    refine Below.setCell (h.bel.trans ⟨?_, ?_, ?_, ?_, ?_⟩) (by show N ≤ M; omega) _
    · rw [a2.os]; exact y5.os
    · rw [a2.tape]; exact y5.tape
    · rw [a2.output]; exact y5.output
    · omega
    · intro x b1
      have b2 := h.res.lt
      exact (key x (by omega) (own1 x (by omega))).trans (RB x (by omega) (by omega))
  · rw [List.length_append, List.length_singleton]
    omega
open Go.RowKit
def LA.en (y : LA) : EN := ⟨y.cl, y.st, resR y.e y.cs y.m⟩
def LA.blk (y : LA) (x : Nat) : Prop := sblk y.ao y.n x ∨ ∃ c ∈ y.cs, c.va.blk x
theorem LA.ok.blk_lt {y : LA} {w : World} (h : y.ok w) {x : Nat} (hx : y.blk x) : x < w.heap.size := by
  rcases hx with ⟨a, ha, hn, rfl⟩ | ⟨c, hc, hx⟩
  · have hl := h.cs.len
    have h0 := h.cs.cell a ha 0 (by omega) 0 _ rfl
    have hlt := World.block_lt_of_cell? w _ h0
    have hb : (a.add (0 * 6 + 0)).block = a.block := by unfold Addr.add; split <;> rfl
    rw [hb] at hlt
    exact hlt
  · exact (h.cs.ok c hc).blk_lt hx
theorem LA.ok.kept {y : LA} {w w' : World} (h : y.ok w) (hk : ∀ x, y.blk x → w'.heap[x]? = w.heap[x]?) : y.ok w' := ⟨h.cl, h.st, h.cs.kept hk⟩
def cellsL (l : List LA) : List Value := (l.map LA.cells).flatten
theorem l_one (y : LA) : ∀ u ∈ y.cells, u.oneCell' = true := by
  intro u hu
  unfold LA.cells at hu
  simp only [List.mem_cons, List.not_mem_nil, or_false] at hu
  rcases hu with rfl | rfl | rfl | rfl | rfl <;> rfl
structure LTy (t s : TypeId) : Prop where
  info : (Tryd.prog.info? t).map (fun i => (i.zero, i.size, i.bytes)) = some (some (.agg #[.int .u64 0, .int .u64 0, .int .i64 0, .slice none 0 0, .bool false]), 5, 56)
  und : Tryd.prog.underlying s = some (.slice t)
theorem lty1 : LTy 72 47 := ⟨by kernel_rfl, Tryd.underlying47⟩
theorem lty2 : LTy 39 23 := ⟨by kernel_rfl, Tryd.underlying23⟩
structure AllI (t : TypeId) (W : World) (base : Nat) (v : Value) (ys : List LA) : Prop where
  own : W.ownsRow base t 5 v ys.length (cellsL ys)
  ok : ∀ y ∈ ys, y.ok W
  far : ∀ y ∈ ys, ∀ x, y.blk x → v.ownBlock ≠ some x
theorem AllI.nil (t : TypeId) (W : World) (base : Nat) : AllI t W base (.slice none 0 0) [] := ⟨World.ownsRow_nil _ _ _ _, fun _ h => by simp at h, fun _ h => by simp at h⟩
theorem AllI.below {t : TypeId} {W W' : World} {base : Nat} {v : Value} {ys : List LA} (h : AllI t W base v ys) (hb : Below W.heap.size W W') : AllI t W' base v ys :=
  ⟨own_kept h.own fun g hg => hb.block g (h.own.lt g hg).2, fun y hy => (h.ok y hy).below hb, h.far⟩
theorem AllI.slice {t : TypeId} {W : World} {base : Nat} {v : Value} {ys : List LA} (h : AllI t W base v ys) : ∃ ao n cap, v = .slice ao n cap := by
  rcases h.own.2 with ⟨rfl, _⟩ | ⟨g, cap, cur, rfl, _⟩
  · exact ⟨none, 0, 0, rfl⟩
  · exact ⟨_, _, cap, rfl⟩
theorem AllI.app {t s : TypeId} (hty : LTy t s) {W : World} {base : Nat} {v : Value} {ys : List LA} (h : AllI t W base v ys) (ty : TypeId) {g cp : Nat} {y : LA} {t' : TypeId} (hG : W.heap[g]? = some (.cells #[.int .u64 y.cl, .int .u64 y.st, .int .i64 y.e, .slice y.ao y.n y.cap, .bool y.m] t')) (he : y.ok W) (hf : ∀ x, y.blk x → v.ownBlock ≠ some x) (hn : ys.length ≤ 1000) (hbase : base ≤ W.heap.size) :
    ∃ v' W1, (Builtin.append_ #[s, s] ty #[v, .slice (some ⟨g, 0, none⟩) 1 cp]).run Tryd.prog W = .ok v' W1 ∧ AllI t W1 base v' (ys ++ [y]) ∧ Below base W W1 ∧ ∃ ao n cap, v' = .slice ao n cap := by
  obtain ⟨i0, hi, hz0, hz1, hz2⟩ := info_parts hty.info
  obtain ⟨v', W1, hr, ho, hg, ha⟩ := run_append_own2 (P := Tryd.prog) W base s ty t i0 _ 5 56 hty.und hi hz0 hz1 hz2 rfl (by decide) v ys.length (cellsL ys) h.own ⟨g, 0, none⟩ 1 cp y.cells rfl
    (fun j u hu => by
      rw [Addr.add_lit, Nat.zero_add, cell_of_row W g j _ _ _ hG]
      simpa [LA.cells] using hu) (l_one y) (by unfold maxLen; omega) (by omega) hbase
  have hown : W1.ownsRow base t 5 v' (ys ++ [y]).length (cellsL (ys ++ [y])) := by
    have e1 : cellsL (ys ++ [y]) = cellsL ys ++ y.cells := by simp [cellsL]
    rw [e1, List.length_append]
    exact ho
  have key : ∀ z : LA, z.ok W → (∀ x, z.blk x → v.ownBlock ≠ some x) → z.ok W1 ∧ ∀ x, z.blk x → v'.ownBlock ≠ some x := fun z hz hzf => ⟨hz.kept fun x hx => hg.block x (hz.blk_lt hx) (fun e => hzf x hx e.symm), fun x hx e => by
    rcases ha x e with c | c
    · exact hzf x hx c
    · have := hz.blk_lt hx
      omega⟩
  refine ⟨v', W1, hr, ⟨hown, fun z hz => ?_, fun z hz => ?_⟩, (Below.refl _ W).grown hg hbase (fun k hk => (h.own.lt k hk).1), ?_⟩
  · rcases List.mem_append.1 hz with hz | hz
    · exact (key z (h.ok z hz) (h.far z hz)).1
    · rw [List.mem_singleton.1 hz]; exact (key y he hf).1
  · rcases List.mem_append.1 hz with hz | hz
    · exact (key z (h.ok z hz) (h.far z hz)).2
    · rw [List.mem_singleton.1 hz]; exact (key y he hf).2
  · rcases ho.2 with ⟨rfl, _⟩ | ⟨g, cap, cur, rfl, _⟩
    · exact ⟨none, 0, 0, rfl⟩
    · exact ⟨_, _, cap, rfl⟩
theorem AllI.ll {t : TypeId} {W : World} {base : Nat} {v : Value} {ys : List LA} (h : AllI t W base v ys) : ∃ ao cap, v = .slice ao ys.length cap ∧ LL12 W ao ys.length cap ys ∧ ∀ z, sblk ao ys.length z → base ≤ z := by
  rcases h.own.2 with ⟨rfl, e⟩ | ⟨g, cap, cur, rfl, a1, a2, a3, a4, a5, a6⟩
  · rw [e]
    have : ys = [] := List.eq_nil_of_length_eq_zero e
    subst this
    exact ⟨none, 0, rfl, LL12.nothing W, fun z hz => by obtain ⟨a, ha, _⟩ := hz; cases ha⟩
  · refine ⟨some ⟨g, 0, none⟩, cap, rfl, ⟨rfl, a3, a4, fun h => by simp at h, fun a ha i hi j u hu => ?_, h.ok⟩, fun z hz => by obtain ⟨a, ha, _, rfl⟩ := hz; cases ha; exact a1⟩
    obtain rfl := Option.some.inj ha
    have hj : j < 5 := (List.getElem?_eq_some_iff.1 hu).1
    refine h.own.cells (g := g) rfl (i * 5 + j) u ?_
    unfold cellsL
    rw [flat_get LA.cells 5 (fun _ => rfl) ys i j hi hj]
    exact hu
def LLb (ao : Option Addr) (n : Nat) (ys : List LA) (z : Nat) : Prop := sblk ao n z ∨ ∃ y ∈ ys, y.blk z
theorem LL12.kept {w w' : World} {ao : Option Addr} {n cap : Nat} {l : List LA} (h : LL12 w ao n cap l) (hk : ∀ x, LLb ao n l x → w'.heap[x]? = w.heap[x]?) : LL12 w' ao n cap l := by
  refine ⟨h.len, h.le, h.mx, h.nil, fun a ha i hi j v hv => ?_, fun y hy => (h.ok y hy).kept fun x hx => hk x (.inr ⟨y, hy, hx⟩)⟩
  have hb : (a.add (i * 5 + j)).block = a.block := by unfold Addr.add; split <;> rfl
  rw [← h.cell a ha i hi j v hv]
  exact World.cell?_of_block (by rw [hb]; exact hk _ (.inl ⟨a, ha, by have := h.len; omega, rfl⟩))
theorem LL12.blk_lt {w : World} {ao : Option Addr} {n cap : Nat} {l : List LA} (h : LL12 w ao n cap l) {x : Nat} (hx : LLb ao n l x) : x < w.heap.size := by
  rcases hx with ⟨a, ha, hn, rfl⟩ | ⟨y, hy, hx⟩
  · have hl := h.len
    have h0 := h.cell a ha 0 (by omega) 0 _ rfl
    have hlt := World.block_lt_of_cell? w _ h0
    have hb : (a.add (0 * 5 + 0)).block = a.block := by unfold Addr.add; split <;> rfl
    rw [hb] at hlt
    exact hlt
  · exact (h.ok y hy).blk_lt hx
def LsIs (w : World) (D : Nat) (l : List EN) (x : Ending) (w' : World) : Prop := ∃ (ao : Option Addr) (n cap : Nat) (ys : List LA), x = .returned (.slice ao n cap) ∧ LL12 w' ao n cap ys ∧ ys.map LA.en = l ∧ Below w.heap.size w w' ∧ ∀ z, LLb ao n ys z → D ≤ z
structure YOK (W : World) (N : Nat) (e : EN) (y : LA) : Prop where
  cl : y.cl = e.cl
  st : y.st = e.st
  ok : y.ok W
  r : resR y.e y.cs y.m = e.r
  far : ∀ x, y.blk x → N ≤ x
theorem YOK.below {W W' : World} {N : Nat} {e : EN} {y : LA} (h : YOK W N e y) (hb : Below W.heap.size W W') : YOK W' N e y := ⟨h.cl, h.st, h.ok.below hb, h.r, h.far⟩
theorem YOK.en {W : World} {N : Nat} {e : EN} {y : LA} (h : YOK W N e y) : y.en = e := by
  unfold LA.en
  rw [h.cl, h.st, h.r]
end Go.Proofs.YtlgafjalcpjelaaDoor
namespace Go
open Go.RowKit
def EffRun (P : Program) (o : Oper) (a : Act) (w : World) (R : Value → World → Prop) : Prop :=
  (∃ v w', (execOp a.eval o).run P w = .ok (.value v) w' ∧ R v w') ∨
  (∃ f args, (execOp a.eval o).run P w = .ok (.enter f args) w ∧ Calls P f args w fun e w' => ∃ v, e = .returned v ∧ R v w')
end Go
namespace Go
open Go.RowKit
def setL (L : Array Bool) (is : List Nat) : Array Bool := is.foldl (fun L i => L.setIfInBounds i true) L
theorem setL_size (is : List Nat) : ∀ L : Array Bool, (setL L is).size = L.size := by
  induction is with
  | nil => intro L; rfl
  | cons i is ih => intro L; exact (ih _).trans (by simp)
theorem setL_get (is : List Nat) : ∀ (L : Array Bool) (j : Nat), j < L.size → (setL L is).getD j true = (L.getD j true || is.contains j) := by
  induction is with
  | nil => intro L j _; simp [setL]
  | cons i is ih =>
    intro L j hj
    have h := ih (L.setIfInBounds i true) j (by simpa using hj)
    show (setL (L.setIfInBounds i true) is).getD j true = _
    rw [h]
    by_cases hij : i = j
    · subst hij
      have : (L.setIfInBounds i true).getD i true = true := by simp [hj]
      rw [this]
      simp
    · rw [getD_set_ne true hij]
      have : (i :: is).contains j = is.contains j := by
        rw [List.contains_cons, show (j == i) = false by simpa using fun e => hij e.symm, Bool.false_or]
      rw [this]
theorem arr_ext {A B : Array Bool} (hs : A.size = B.size) (h : ∀ j, j < A.size → A.getD j true = B.getD j true) : A = B := by
  refine Array.ext hs fun j h1 h2 => ?_
  have := h j h1
  simpa [h1, h2] using this
def depOk (ops : Array Oper) (L : Array Bool) (i : Nat) : Bool := ((ops[i]?).map (·.after.all fun e => !Region.binds .any e || L.getD e.on false)).getD false
theorem depOk_of {ops : Array Oper} {L : Array Bool} {i : Nat} {o : Oper} (ho : ops[i]? = some o) (h : ∀ e ∈ o.after, Region.binds .any e = true → L.getD e.on false = true) : depOk ops L i = true := by
  simp only [depOk, ho, Option.map_some, Option.getD_some]
  refine Array.all_eq_true_iff_forall_mem.2 fun e he => ?_
  by_cases hb : Region.binds .any e = true
  · rw [h e he hb, Bool.or_true]
  · simp [hb]
theorem getD_set_on {L : Array Bool} {i j : Nat} (h : L.getD j false = true) : (L.setIfInBounds i true).getD j false = true := by
  by_cases hij : i = j
  · subst hij
    by_cases hlt : i < L.size
    · simp [hlt]
    · simp [hlt] at h
  · simp only [Array.getD_eq_getD_getElem?] at h ⊢
    rw [Array.getElem?_setIfInBounds_ne hij]
    exact h
theorem depOk_set {ops : Array Oper} {L : Array Bool} {i j : Nat} (h : depOk ops L i = true) : depOk ops (L.setIfInBounds j true) i = true := by
  cases ho : ops[i]? with
  | none => simp [depOk, ho] at h
  | some o =>
    refine depOk_of ho fun e he hb => ?_
    simp only [depOk, ho, Option.map_some, Option.getD_some] at h
    have := Array.all_eq_true_iff_forall_mem.1 h e he
    rw [hb, Bool.not_true, Bool.false_or] at this
    exact getD_set_on this
def effChk (ops : Array Oper) (all : List Nat) : List Nat → Array Bool → Bool → Bool
  | [], L, sk => !sk || !(all.all fun i => !L.getD i true || depOk ops L i) || (!(Region.ready .any ops L).isEmpty && (Region.ready .any ops L).all fun j => all.contains j)
  | i :: is, L, sk => effChk ops all is (L.setIfInBounds i true) sk && effChk ops all is L true
theorem effChk_spec {ops : Array Oper} {all : List Nat} (c : Nat → Bool) : ∀ (is : List Nat) (L : Array Bool) (sk : Bool), effChk ops all is L sk = true → (sk = true ∨ ∃ i ∈ is, c i = false) → (∀ i ∈ all, (setL L (is.filter c)).getD i true = true → depOk ops (setL L (is.filter c)) i = true) →
    Region.ready .any ops (setL L (is.filter c)) ≠ [] ∧ ∀ j ∈ Region.ready .any ops (setL L (is.filter c)), j ∈ all
  | [], L, sk, h, hs, hcl => by
    rcases hs with rfl | ⟨i, hi, _⟩
    · have hcl' : (all.all fun i => !L.getD i true || depOk ops L i) = true := List.all_eq_true.2 fun i hi => by
        by_cases hL : L.getD i true = true
        · have := hcl i hi hL
          have h2 : depOk ops L i = true := this
          rw [h2, Bool.or_true]
        · have h2 : L.getD i true = false := by simpa using hL
          rw [h2]
          rfl
      simp only [effChk, hcl', Bool.not_true, Bool.false_or, Bool.and_eq_true] at h
      refine ⟨fun e => ?_, fun j hj => ?_⟩
      · have : Region.ready .any ops L = [] := e
        rw [this] at h
        simp at h
      · have := List.all_eq_true.1 h.2 j hj
        simpa using this
    · simp at hi
  | i :: is, L, sk, h, hs, hcl => by
    simp only [effChk, Bool.and_eq_true] at h
    by_cases hc : c i = true
    · rw [List.filter_cons, if_pos hc] at hcl ⊢
      refine effChk_spec c is (L.setIfInBounds i true) sk h.1 ?_ hcl
      rcases hs with hs | ⟨j, hj, hf⟩
      · exact .inl hs
      · rcases List.mem_cons.1 hj with rfl | hj
        · rw [hc] at hf; simp at hf
        · exact .inr ⟨j, hj, hf⟩
    · rw [List.filter_cons, if_neg hc] at hcl ⊢
      exact effChk_spec c is L true h.2 (.inl rfl) hcl
def unC (c : Nat → Bool) : List Nat → Nat
  | [] => 0
  | i :: is => unC c is + (if c i then 0 else 1)
theorem unC_same {c d : Nat → Bool} : ∀ (is : List Nat), (∀ i ∈ is, c i = d i) → unC c is = unC d is
  | [], _ => rfl
  | i :: is, h => by rw [unC, unC, unC_same is (fun j hj => h j (List.mem_cons_of_mem _ hj)), h i (List.mem_cons_self ..)]
theorem unC_set {c : Nat → Bool} {i : Nat} (hc : c i = false) : ∀ (is : List Nat), is.Nodup → i ∈ is → unC c is = unC (fun j => c j || j == i) is + 1
  | [], _, h => by simp at h
  | j :: is, hn, h => by
    have hn' := List.nodup_cons.1 hn
    rw [unC, unC]
    by_cases hji : j = i
    · subst hji
      have := unC_same (c := c) (d := fun k => c k || k == j) is (fun k hk => by
        have hne : k ≠ j := fun e => hn'.1 (e ▸ hk)
        have : (k == j) = false := by simpa using hne
        simp [this])
      rw [← this, hc]
      simp
    · have hi : i ∈ is := by
        rcases List.mem_cons.1 h with h | h
        · exact absurd h.symm hji
        · exact h
      have ih := unC_set hc is hn'.2 hi
      have : (j == i) = false := by simpa using hji
      rw [ih]
      simp only [this, Bool.or_false]
      omega
theorem unC_zero {c : Nat → Bool} : ∀ (is : List Nat), unC c is = 0 → ∀ i ∈ is, c i = true
  | [], _, i, h => by simp at h
  | j :: is, h0, i, h => by
    rw [unC] at h0
    rcases List.mem_cons.1 h with rfl | h
    · by_cases hc : c i = true
      · exact hc
      · rw [if_neg hc] at h0; omega
    · exact unC_zero is (by omega) i h
theorem unC_none : ∀ (is : List Nat), unC (fun _ => false) is = is.length
  | [] => rfl
  | i :: is => by rw [unC, unC_none is]; simp
def putL (a : Act) (f : Nat → Value) (ids : List (Nat × Nat)) : Act := ids.foldl (fun a p => a.put (some p.2) (f p.1)) a
theorem putL_size (f : Nat → Value) (ids : List (Nat × Nat)) : ∀ a : Act, (putL a f ids).tmps.size = a.tmps.size := by
  induction ids with
  | nil => intro a; rfl
  | cons p ids ih => intro a; exact (ih _).trans (by simp [Act.put])
theorem putL_defers (f : Nat → Value) (ids : List (Nat × Nat)) : ∀ a : Act, (putL a f ids).defers = a.defers := by
  induction ids with
  | nil => intro a; rfl
  | cons p ids ih => intro a; exact (ih _).trans rfl
theorem putL_other (f : Nat → Value) (k : Nat) (ids : List (Nat × Nat)) : ∀ a : Act, (∀ p ∈ ids, p.2 ≠ k) → (putL a f ids).tmps[k]? = a.tmps[k]? := by
  induction ids with
  | nil => intro a _; rfl
  | cons p ids ih =>
    intro a h
    have h1 := ih (a.put (some p.2) (f p.1)) (fun q hq => h q (List.mem_cons_of_mem _ hq))
    refine h1.trans ?_
    have hne := h p (List.mem_cons_self ..)
    simp [Act.put, Array.getElem?_setIfInBounds_ne hne]
theorem putL_at (f : Nat → Value) : ∀ (ids : List (Nat × Nat)) (a : Act), (ids.map (·.2)).Nodup → ∀ p ∈ ids, p.2 < a.tmps.size → (putL a f ids).tmps[p.2]? = some (f p.1)
  | [], a, _, p, h, _ => by simp at h
  | q :: ids, a, hn, p, h, hlt => by
    have hn' := List.nodup_cons.1 hn
    rcases List.mem_cons.1 h with rfl | h
    · have h1 := putL_other f p.2 ids (a.put (some p.2) (f p.1)) (fun q hq e => hn'.1 (List.mem_map.2 ⟨q, hq, e⟩))
      refine h1.trans ?_
      simp [Act.put, hlt]
    · exact putL_at f ids (a.put (some q.2) (f q.1)) hn'.2 p h (by simpa [Act.put] using hlt)
def effTo (ops : Array Oper) (L0 : Array Bool) (ids : List (Nat × Nat)) (n : Nat) : Bool :=
  ids.all (fun p => decide (p.2 < n) && !L0.getD p.1 true && (match ops[p.1]? with | some o => o.dst == some p.2 && o.guard.isNone | none => false)) &&
  effChk ops (ids.map (·.1)) (ids.map (·.1)) L0 false && decide (L0.size = ops.size)
def EffGot (ids : List (Nat × Nat)) (F : Nat → Value → World → Prop) (a : Act) (w : World) (j : Nat) : Prop := ∀ p ∈ ids, p.1 = j → ∃ v, a.tmps[p.2]? = some v ∧ F j v w
structure EffKeep (ids : List (Nat × Nat)) (a0 a : Act) : Prop where
  defers : a.defers = a0.defers
  size : a.tmps.size = a0.tmps.size
  same : ∀ k, (∀ p ∈ ids, p.2 ≠ k) → a.tmps[k]? = a0.tmps[k]?
theorem EffKeep.get {ids : List (Nat × Nat)} {a0 a : Act} (h : EffKeep ids a0 a) (k : Nat) {v : Value} (hk : ids.all (fun p => p.2 != k) = true) (h0 : a0.tmps[k]? = some v) : a.tmps[k]? = some v := by
  rw [h.same k (fun p hp => by simpa using List.all_eq_true.1 hk p hp)]
  exact h0
theorem EffGot.at {ids : List (Nat × Nat)} {F : Nat → Value → World → Prop} {a : Act} {w : World} {j : Nat} (h : EffGot ids F a w j) (d : Nat) (hd : ids.contains (j, d) = true) : ∃ v, a.tmps[d]? = some v ∧ F j v w :=
  h (j, d) (by simpa using hd) rfl
theorem wpAnyH_effto {P : Program} {ops : Array Oper} {S : World → Prop} {Q : Exit → Act → World → Prop} {a0 : Act} {W0 : World} {L0 : Array Bool} (m : Nat) (F : Nat → Value → World → Prop) (ids : List (Nat × Nat)) (n : Nat)
    (hok : effTo ops L0 ids n = true) (hn1 : (ids.map (·.1)).Nodup) (hn2 : (ids.map (·.2)).Nodup) (hn : n = a0.tmps.size)
    (mono : ∀ i v w w', F i v w → Below w.heap.size w w' → F i v w')
    (hS : ∀ w, Below W0.heap.size W0 w → S w)
    (step : ∀ p ∈ ids, ∀ o a w, ops[p.1]? = some o → EffKeep ids a0 a → Below W0.heap.size W0 w → (∀ j, o.after.any (fun e => Region.binds .any e && e.on == j) = true → EffGot ids F a w j) → EffRun P o a w (fun v w' => F p.1 v w' ∧ Below w.heap.size w w'))
    (fin : ∀ (f : Nat → Value) w, Below W0.heap.size W0 w → (∀ p ∈ ids, F p.1 (f p.1) w) → wpAnyH P .any ops (NoPanic Q) S m (setL L0 (ids.map (·.1))) (putL a0 f ids) w) :
    wpAnyH P .any ops (NoPanic Q) S (ids.length + m) L0 a0 W0 := by
  simp only [effTo, Bool.and_eq_true, decide_eq_true_eq] at hok
  obtain ⟨⟨hok1, hok2⟩, hLs⟩ := hok
  have hat : ∀ p ∈ ids, p.2 < a0.tmps.size ∧ L0.getD p.1 true = false ∧ ∃ o, ops[p.1]? = some o ∧ o.dst = some p.2 ∧ o.guard = none := fun p hp => by
    have h := List.all_eq_true.1 hok1 p hp
    simp only [Bool.and_eq_true, decide_eq_true_eq, Bool.not_eq_true'] at h
    obtain ⟨⟨h1, h2⟩, h3⟩ := h
    refine ⟨hn ▸ h1, h2, ?_⟩
    cases ho : ops[p.1]? with
    | none => rw [ho] at h3; simp at h3
    | some o =>
      rw [ho] at h3
      simp only [Bool.and_eq_true, beq_iff_eq] at h3
      exact ⟨o, rfl, h3.1, Option.isNone_iff_eq_none.1 h3.2⟩
  have main : ∀ (k : Nat) (c : Nat → Bool) (a : Act) (w : World), unC c (ids.map (·.1)) = k → EffKeep ids a0 a → Below W0.heap.size W0 w → (∀ p ∈ ids, c p.1 = true → ∃ v, a.tmps[p.2]? = some v ∧ F p.1 v w) →
      (∀ i ∈ ids.map (·.1), (setL L0 ((ids.map (·.1)).filter c)).getD i true = true → depOk ops (setL L0 ((ids.map (·.1)).filter c)) i = true) →
      wpAnyH P .any ops (NoPanic Q) S (k + m) (setL L0 ((ids.map (·.1)).filter c)) a w := by
    intro k
    induction k with
    | zero =>
      intro c a w hu hs hb hh _
      have hz := unC_zero _ hu
      have hall : ∀ p ∈ ids, ∃ v, a.tmps[p.2]? = some v ∧ F p.1 v w := fun p hp => hh p hp (hz p.1 (List.mem_map_of_mem hp))
      have hLeq : setL L0 ((ids.map (·.1)).filter c) = setL L0 (ids.map (·.1)) := by rw [List.filter_eq_self.2 hz]
      obtain ⟨f, hf⟩ : ∃ f : Nat → Value, ∀ p ∈ ids, a.tmps[p.2]? = some (f p.1) ∧ F p.1 (f p.1) w := by
        have hch : ∀ j, ∃ v, ∀ p ∈ ids, p.1 = j → a.tmps[p.2]? = some v ∧ F p.1 v w := fun j => by
          by_cases hj : ∃ p ∈ ids, p.1 = j
          · obtain ⟨p, hp, rfl⟩ := hj
            obtain ⟨v, h1, h2⟩ := hall p hp
            refine ⟨v, fun q hq e => ?_⟩
            obtain ⟨-, -, o, ho, hd, -⟩ := hat p hp
            obtain ⟨-, -, o', ho', hd', -⟩ := hat q hq
            rw [e, ho] at ho'
            obtain rfl := Option.some.inj ho'
            have : p.2 = q.2 := Option.some.inj (hd.symm.trans hd')
            rw [← this, e]
            exact ⟨h1, h2⟩
          · exact ⟨undef, fun q hq e => absurd ⟨q, hq, e⟩ hj⟩
        exact ⟨fun j => Classical.choose (hch j), fun p hp => Classical.choose_spec (hch p.1) p hp rfl⟩
      have ha : a = putL a0 f ids := by
        have ht : a.tmps = (putL a0 f ids).tmps := by
          refine Array.ext (by rw [putL_size]; exact hs.size) fun j h1 h2 => ?_
          have : a.tmps[j]? = (putL a0 f ids).tmps[j]? := by
            by_cases hj : ∃ p ∈ ids, p.2 = j
            · obtain ⟨p, hp, rfl⟩ := hj
              rw [(hf p hp).1, putL_at f ids a0 hn2 p hp (hat p hp).1]
            · have hj' : ∀ p ∈ ids, p.2 ≠ j := fun p hp e => hj ⟨p, hp, e⟩
              rw [hs.same j hj', putL_other f j ids a0 hj']
          simpa [h1, h2] using this
        have hd : a.defers = (putL a0 f ids).defers := by rw [putL_defers]; exact hs.defers
        cases a
        cases hp : putL a0 f ids
        rw [hp] at ht hd
        simp only at ht hd
        rw [ht, hd]
      rw [hLeq, ha, Nat.zero_add]
      exact fin f w hb (fun p hp => (hf p hp).2)
    | succ k ih =>
      intro c a w hu hs hb hh hcl
      have hex : ∃ i ∈ ids.map (·.1), c i = false := by
        by_cases h : ∃ i ∈ ids.map (·.1), c i = false
        · exact h
        · exfalso
          have hz : ∀ i ∈ ids.map (·.1), c i = true := fun i hi => by
            by_cases hc : c i = true
            · exact hc
            · exact absurd ⟨i, hi, by simpa using hc⟩ h
          have : unC c (ids.map (·.1)) = unC (fun _ => true) (ids.map (·.1)) := unC_same _ (fun i hi => hz i hi)
          have h0 : ∀ l : List Nat, unC (fun _ => true) l = 0 := fun l => by
            induction l with
            | nil => rfl
            | cons x l ih => rw [unC, ih]; rfl
          rw [hu, h0] at this
          omega
      obtain ⟨hne, hsub⟩ := effChk_spec (ops := ops) (all := ids.map (·.1)) c (ids.map (·.1)) L0 false hok2 (.inr hex) hcl
      have hsz : (setL L0 ((ids.map (·.1)).filter c)).size = ops.size := by rw [setL_size]; exact hLs
      rw [show k + 1 + m = (k + m) + 1 by omega]
      refine ⟨fun h => absurd h hne, fun i hi => ?_⟩
      obtain ⟨p, hp, rfl⟩ := List.mem_map.1 (hsub i hi)
      obtain ⟨h1, o, ho, hdep⟩ := mem_ready.1 hi
      obtain ⟨hdl, hL0, o', ho', hdo, hg⟩ := hat p hp
      rw [ho] at ho'
      obtain rfl := Option.some.inj ho'
      have hlt := (Array.getElem?_eq_some_iff.1 ho).1
      have hci : c p.1 = false := by
        by_cases hc : c p.1 = true
        · exfalso
          rw [setL_get _ _ _ (by omega)] at h1
          have : ((ids.map (·.1)).filter c).contains p.1 = true := by
            simpa using ⟨⟨p.2, hp⟩, hc⟩
          rw [this] at h1
          simp at h1
        · simpa using hc
      have hw : Region.wanted o (yielded ops a.tmps) = true := by simp [Region.wanted, hg]
      have hrun := step p hp o a w ho hs hb (fun j hj q hq hqj => by
        obtain ⟨e, hem, hbj⟩ := Array.any_eq_true'.1 hj
        simp only [Bool.and_eq_true, beq_iff_eq] at hbj
        obtain ⟨hbi, rfl⟩ := hbj
        have h2 := hdep e hem hbi
        obtain ⟨-, hq0, oq, hoq, -⟩ := hat q hq
        have hqlt := (Array.getElem?_eq_some_iff.1 hoq).1
        have h4 : (setL L0 ((ids.map (·.1)).filter c)).getD q.1 true = true := by
          rw [hqj]
          have : e.on < (setL L0 ((ids.map (·.1)).filter c)).size := by rw [hsz, ← hqj]; exact hqlt
          simpa [this] using h2
        rw [setL_get _ _ _ (by omega), hq0, Bool.false_or] at h4
        have h5 : c q.1 = true := by
          have h6 : q.1 ∈ (ids.map (·.1)).filter c := by simpa using h4
          exact (List.mem_filter.1 h6).2
        have := hh q hq h5
        rw [hqj] at this
        exact this)
      have next : ∀ v w', F p.1 v w' ∧ Below w.heap.size w w' → S w' ∧ wpAnyH P .any ops (NoPanic Q) S (k + m) ((setL L0 ((ids.map (·.1)).filter c)).setIfInBounds p.1 true) (a.put (some p.2) v) w' := by
        rintro v w' ⟨hF, hb'⟩
        have hbw := hb.trans (hb'.mono hb.size)
        have htm : (a.put (some p.2) v).tmps = a.tmps.setIfInBounds p.2 v := rfl
        refine ⟨hS w' hbw, ?_⟩
        have hLq : (setL L0 ((ids.map (·.1)).filter c)).setIfInBounds p.1 true = setL L0 ((ids.map (·.1)).filter fun j => c j || j == p.1) := by
          refine arr_ext (by simp [setL_size]) fun j hj => ?_
          have hj' : j < L0.size := by simpa [setL_size] using hj
          rw [setL_get _ _ _ hj']
          by_cases hji : p.1 = j
          · subst hji
            have h7 : ((setL L0 ((ids.map (·.1)).filter c)).setIfInBounds p.1 true).getD p.1 true = true := by
              have : p.1 < (setL L0 ((ids.map (·.1)).filter c)).size := by rw [setL_size]; exact hj'
              simp [this]
            have h8 : ((ids.map (·.1)).filter fun j => c j || j == p.1).contains p.1 = true := by
              rw [List.contains_iff_mem]
              exact List.mem_filter.2 ⟨List.mem_map_of_mem hp, by simp⟩
            rw [h7, h8]
            simp
          · rw [getD_set_ne true hji, setL_get _ _ _ hj']
            congr 1
            have hbe : (j == p.1) = false := by simpa using fun e => hji e.symm
            rw [Bool.eq_iff_iff, List.contains_iff_mem, List.contains_iff_mem, List.mem_filter, List.mem_filter, hbe, Bool.or_false]
        rw [hLq]
        refine ih _ _ _ ?_ ⟨hs.defers, by rw [htm, Array.size_setIfInBounds]; exact hs.size, fun q hq => ?_⟩ hbw (fun q hq hcq => ?_) ?_
        · have := unC_set hci (ids.map (·.1)) hn1 (List.mem_map_of_mem hp)
          omega
        · rw [htm, Array.getElem?_setIfInBounds_ne (hq p hp)]
          exact hs.same q hq
        · by_cases hqp : q.1 = p.1
          · have h9 : q.2 = p.2 := by
              obtain ⟨-, -, oq, hoq, hdq, -⟩ := hat q hq
              rw [hqp, ho] at hoq
              obtain rfl := Option.some.inj hoq
              exact Option.some.inj (hdq.symm.trans hdo)
            rw [hqp, h9]
            refine ⟨v, ?_, hF⟩
            rw [htm, Array.getElem?_setIfInBounds_self_of_lt (by rw [hs.size]; exact hdl)]
          · have hbe : (q.1 == p.1) = false := by simpa using hqp
            have hcq' : c q.1 = true := by simpa [hbe] using hcq
            obtain ⟨v', h1', h2'⟩ := hh q hq hcq'
            refine ⟨v', ?_, mono _ _ _ _ h2' hb'⟩
            have hne : p.2 ≠ q.2 := fun e => hqp (by
              have hinj : ∀ (l : List (Nat × Nat)), (l.map (·.2)).Nodup → ∀ x ∈ l, ∀ y ∈ l, x.2 = y.2 → x = y := by
                intro l
                induction l with
                | nil => intro _ x hx; simp at hx
                | cons z l ihl =>
                  intro hnd x hx y hy exy
                  have hnd' := List.nodup_cons.1 hnd
                  rcases List.mem_cons.1 hx with rfl | hxl
                  · rcases List.mem_cons.1 hy with rfl | hyl
                    · rfl
                    · exact absurd (List.mem_map.2 ⟨y, hyl, exy.symm⟩) hnd'.1
                  · rcases List.mem_cons.1 hy with rfl | hyl
                    · exact absurd (List.mem_map.2 ⟨x, hxl, exy⟩) hnd'.1
                    · exact ihl hnd'.2 x hxl y hyl exy
              rw [hinj ids hn2 q hq p hp e.symm])
            rw [htm, Array.getElem?_setIfInBounds_ne hne]
            exact h1'
        · rw [← hLq]
          intro i hi hiL
          by_cases hip : p.1 = i
          · subst hip
            exact depOk_set (depOk_of ho hdep)
          · rw [getD_set_ne true hip] at hiL
            exact depOk_set (hcl i hi hiL)
      rcases hrun with ⟨v, w', hr, hR⟩ | ⟨f, args, hr, hc⟩
      · unfold wpOp
        simp only [ho, hw, if_true, Oper.wp, hr, Oper.upon, hdo]
        exact .inl (next v w' hR)
      · unfold wpOp
        simp only [ho, hw, if_true, Oper.wp, hr, Oper.upon, hdo]
        refine .inl (hc.mono ?_)
        rintro e w' ⟨v, rfl, hR⟩
        exact next v w' hR
  have h := main (ids.length) (fun _ => false) a0 W0 (by rw [unC_none]; simp) ⟨rfl, rfl, fun _ _ => rfl⟩ (Below.refl _ _) (fun p hp h => by simp at h) (fun i hi hL => by
    exfalso
    obtain ⟨p, hp, rfl⟩ := List.mem_map.1 hi
    rw [List.filter_eq_nil_iff.2 (by simp)] at hL
    have := (hat p hp).2.1
    have h2 : L0.getD p.1 true = true := hL
    rw [this] at h2
    simp at h2)
  have he : setL L0 ((ids.map (·.1)).filter fun _ => false) = L0 := by
    rw [List.filter_eq_nil_iff.2 (by simp)]
    rfl
  rw [he] at h
  exact h
end Go

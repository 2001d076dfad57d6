/-
  Small texts in one.
-/
import Derived.Test.YtbfcilfdeemnpaaRThr
import Derived.Test.YtbfcilfdeemnpaaRLow
import Derived.Test.YtbfcilfdeemnpaaRRdM
import Derived.Test.YtbfcilfdeemnpaaRRes
namespace Go.Proofs.Ytbfcilfdeemnpaa
open Go.RowKit

theorem cR_key (xs : List Int) (k : Int) : cR xs k = (⟨(keyRT xs k).1.1, (keyRT xs k).1.2.1, (keyRT xs k).1.2.2.1, (keyRT xs k).1.2.2.2, (bytesT (keyRT xs k).2.1 (keyRT xs k).2.2 256).1, (boolT (bytesT (keyRT xs k).2.1 (keyRT xs k).2.2 256).2.1 (bytesT (keyRT xs k).2.1 (keyRT xs k).2.2 256).2.2).1⟩, (boolT (bytesT (keyRT xs k).2.1 (keyRT xs k).2.2 256).2.1 (bytesT (keyRT xs k).2.1 (keyRT xs k).2.2 256).2.2).2) := by
  have e : ((256 : Nat) : Int) = 256 := rfl
  unfold cR mapT
  simp only [andT, keyRT, byR, toC, e]
theorem resRT_eq {xs : List Int} {r1 r2 : Nat × List Int × Int} {c : List CV × List Int × Int} {b : Bool × List Int × Int} (h1 : r1 = intT xs 0 100) (h2 : r2 = intT r1.2.1 r1.2.2 16) (h3 : c = stopT cR r2.1 r2.2.1 r2.2.2) (h4 : b = boolT c.2.1 c.2.2) : resRT xs 0 = (⟨(r1.1 : Int), c.1, b.1⟩, b.2) := by
  have e1 : ((100 : Nat) : Int) = 100 := rfl
  have e2 : ((16 : Nat) : Int) = 16 := rfl
  subst h4 h3 h2 h1
  unfold resRT mapT
  simp only [andT, andD, intR, toR, e1, e2]
/-- A cell in a block of its own. -/
def CC6 (V : World) (g : Nat) (a b c : ByteArray) (t : Nat) (v : Value) (z : Bool) : Prop := V.heap[g]? = some (.cells #[.string a, .string b, .string c, .int .u64 t, v, .bool z] 53)
theorem CC6.lt {V : World} {g : Nat} {a b c : ByteArray} {t : Nat} {v : Value} {z : Bool} (h : CC6 V g a b c t v z) : g < V.heap.size := (Array.getElem?_eq_some_iff.1 h).1
theorem CC6.kept {V V' : World} {g : Nat} {a b c : ByteArray} {t : Nat} {v : Value} {z : Bool} (h : CC6 V g a b c t v z) (hk : V'.heap[g]? = V.heap[g]?) : CC6 V' g a b c t v z := hk.trans h
theorem CC6.fz {V : World} {g : Nat} {a b c : ByteArray} {t : Nat} {v : Value} {z : Bool} (h : CC6 V g a b c t v z) (i : Nat) : V.frozen? ⟨g, i, none⟩ = false := frozen_of_row V g i _ _ h

/-- While the reference reads cells: those that were read are l. -/
structure ResG (w : World) (p L N M parts : Nat) (e : Int) (acc : List CV) (ys : List Int) (q : Int) (V : World) (v : Value) (l : List CA) : Prop where
  rd : R V p L ys q
  ov : RW V M e v false
  res : RW V N 0 (.slice none 0 0) false
  own : V.ownsRow (M + 1) 53 6 v l.length (cellsC l)
  oks : ∀ y ∈ l, y.ok V
  far : ∀ x, (∃ y ∈ l, y.va.blk x) → x < L
  thr : l.map CA.c = acc
  bel : Below N w V
  le : l.length ≤ parts
  pos : L ≤ N ∧ N < p ∧ p < M
theorem ResG.drew {w : World} {p L N M parts : Nat} {e : Int} {acc : List CV} {ys : List Int} {q : Int} {V : World} {v : Value} {l : List CA} (h : ResG w p L N M parts e acc ys q V v l) : ResG w p L N M parts e acc ys q V.drew v l :=
  ⟨h.rd.below (Below.refl _ _).drew, h.ov, h.res, h.own.drew, fun y hy => (h.oks y hy).below (Below.refl _ _).drew, h.far, h.thr, h.bel.drew, h.le, h.pos⟩
theorem ResG.ownlt {w : World} {p L N M parts : Nat} {e : Int} {acc : List CV} {ys : List Int} {q : Int} {V : World} {v : Value} {l : List CA} (h : ResG w p L N M parts e acc ys q V v l) {g : Nat} (hg : v.ownBlock = some g) : M < g ∧ g < V.heap.size := by
  have := h.own.lt g hg
  omega
/-- One more cell. -/
theorem ResG.step {w : World} {p L N M parts : Nat} {e : Int} {acc : List CV} {ys : List Int} {q : Int} {V : World} {v : Value} {l : List CA} (h : ResG w p L N M parts e acc ys q V v l) (hlt : l.length < parts)
    {y : CA} {V1 V3 : World} {v' : Value} {ob : Obj} (y1 : y.ok V1) (y2 : ∀ x, y.va.blk x → x < L) {s : CV} {ys1 : List Int} {q1 : Int} (y3 : y.c = s)
    (y4 : R V1 p L ys1 q1) (y5 : V.grownBy V1 (some p))
    (a1 : V3.ownsRow (M + 1) 53 6 v' (l.length + 1) (cellsC l ++ y.cells)) (a2 : (V1.alloc ob).grownBy V3 v.ownBlock) :
    ResG w p L N M parts e (acc ++ [s]) ys1 q1 (V3.setCell ⟨M, 1, none⟩ v') v' (l ++ [y]) := by
  have hp := h.pos
  have sz1 := y5.size
  have sz2 : (V1.alloc ob).heap.size = V1.heap.size + 1 := by simp
  have sz3 := a2.size
  have key : ∀ x, x < V1.heap.size → v.ownBlock ≠ some x → V3.heap[x]? = V1.heap[x]? := fun x hx1 hx2 => (a2.block x (by omega) (fun e => hx2 e.symm)).trans (heap_alloc_old V1 ob hx1)
  have own1 : ∀ x, x ≤ M → v.ownBlock ≠ some x := fun x hx1 hx2 => by have := (h.ownlt hx2).1; omega
  have hM : M < V.heap.size := h.ov.lt
  have RB : ∀ x, x < V.heap.size → x ≠ p → V1.heap[x]? = V.heap[x]? := fun x hx1 hx2 => y5.block x hx1 (by simp; exact hx2)
  have ov3 : RW V3 M e v false := (h.ov.kept (RB M hM (by omega))).kept (key M (by omega) (own1 M (Nat.le_refl _)))
  have hset : ∀ x, x ≠ M → (V3.setCell ⟨M, 1, none⟩ v').heap[x]? = V3.heap[x]? := (same_set V3 M 1 v').2
  have fin : ∀ x, x < V.heap.size → x ≠ p → x ≠ M → v.ownBlock ≠ some x → (V3.setCell ⟨M, 1, none⟩ v').heap[x]? = V.heap[x]? := fun x b1 b2 b3 b4 => ((hset x b3).trans (key x (by omega) b4)).trans (RB x b1 b2)
  refine ⟨?_, ov3.setL v', ?_, ?_, ?_, ?_, ?_, ?_, ?_, hp⟩
  · obtain ⟨ao, n, cap, r⟩ := y4
    have r3 : R V3 p L ys1 q1 := by
      have rp : p < V1.heap.size := r.plt
      have hbk := key p rp (own1 p (by omega))
      refine ⟨ao, n, cap, (World.cell?_of_block (a := ⟨p, 0, none⟩) hbk).trans r.c0, (World.cell?_of_block (a := ⟨p, 1, none⟩) hbk).trans r.c1, (World.frozen?_of_block (a := ⟨p, 0, none⟩) hbk).trans r.f0, (World.frozen?_of_block (a := ⟨p, 1, none⟩) hbk).trans r.f1, ?_, r.low, r.le, r.sm⟩
      exact Sl.kept (b := ⟨ao, n, cap, _⟩) r.sl (fun x hx1 => by
        obtain ⟨a, ha, hn, rfl⟩ := hx1
        have hl1 := r.low a ha hn
        exact key _ (by omega) (own1 _ (by omega)))
    exact r3.own (by omega) (by omega)
  · exact h.res.kept (fin N h.res.lt (by omega) (by omega) (own1 N (by omega)))
  · rw [List.length_append, List.length_singleton]
    have e : cellsC (l ++ [y]) = cellsC l ++ y.cells := by unfold cellsC; simp
    rw [e]
    refine own_kept a1 fun g hg => hset g ?_
    have := (a1.lt g hg).1
    omega
  · intro z hq
    rcases List.mem_append.1 hq with hq | hq
    · refine (h.oks z hq).kept fun x hx1 => ?_
      have c1 := h.far x ⟨z, hq, hx1⟩
      exact fin x ((h.oks z hq).blk_lt hx1) (by omega) (by omega) (own1 x (by omega))
    · rw [List.mem_singleton.1 hq]
      refine y1.kept fun x hx1 => ?_
      have c1 := y2 x hx1
      have c2 := y1.blk_lt hx1
      exact (hset x (by omega)).trans (key x c2 (own1 x (by omega)))
  · intro x hx1
    obtain ⟨z, hq, hx1⟩ := hx1
    rcases List.mem_append.1 hq with hq | hq
    · exact h.far x ⟨z, hq, hx1⟩
    · rw [List.mem_singleton.1 hq] at hx1
      exact y2 x hx1
  · rw [List.map_append, h.thr, ← y3]
    rfl
  · have hb := h.bel.size
    refine Below.setCell (h.bel.trans ⟨?_, ?_, ?_, ?_, ?_⟩) (by show N ≤ M; omega) _
    · rw [a2.os]; exact y5.os
    · rw [a2.tape]; exact y5.tape
    · rw [a2.output]; exact y5.output
    · omega
    · intro x b1
      have b2 := h.res.lt
      exact (key x (by omega) (own1 x (by omega))).trans (RB x (by omega) (by omega))
  · rw [List.length_append, List.length_singleton]
    omega
end Go.Proofs.Ytbfcilfdeemnpaa

namespace Go.Proofs.Ytbfcilfdeemnpaa
open Go.RowKit

set_option maxRecDepth 100000 in
set_option maxHeartbeats 16000000 in
theorem rrdr_any (w : World) (ao : Option Addr) (n cap : Nat) (xs : List Int) (h : Sl w ao n cap xs) (hn : n ≤ 100000) :
    Calls Try.prog 21 #[.slice ao n cap] w (RdrPost w (rdR xs)) := by
  have HRD : Hid (rdR xs = rdT resRT kindR xs) := rdR_ref xs
  have B : Below w.heap.size w (((w.alloc (.cells #[.int .i64 0, .slice none 0 0, .bool false] 45)).alloc (.cells #[.slice ao n cap, .int .i64 0] 71)).alloc (.cells #[.int .i64 0, .slice none 0 0, .bool false] 45)) := (((Below.refl _ w).alloc (Nat.le_refl _) _).alloc (by simp) _).alloc (by simp; omega) _
  have K : RW (((w.alloc (.cells #[.int .i64 0, .slice none 0 0, .bool false] 45)).alloc (.cells #[.slice ao n cap, .int .i64 0] 71)).alloc (.cells #[.int .i64 0, .slice none 0 0, .bool false] 45)) w.heap.size 0 (.slice none 0 0) false := (heap_alloc_old _ _ (by simp; omega)).trans ((heap_alloc_old _ _ (by simp)).trans (heap_alloc_new w _))
  have P0 : (((w.alloc (.cells #[.int .i64 0, .slice none 0 0, .bool false] 45)).alloc (.cells #[.slice ao n cap, .int .i64 0] 71)).alloc (.cells #[.int .i64 0, .slice none 0 0, .bool false] 45)).heap[w.heap.size + 1]? = some (.cells #[.slice ao n cap, .int .i64 0] 71) := by
    refine (heap_alloc_old _ _ (by simp)).trans ?_
    have := heap_alloc_new (w.alloc (.cells #[.int .i64 0, .slice none 0 0, .bool false] 45)) (.cells #[.slice ao n cap, .int .i64 0] 71)
    simpa using this
  have O : RW (((w.alloc (.cells #[.int .i64 0, .slice none 0 0, .bool false] 45)).alloc (.cells #[.slice ao n cap, .int .i64 0] 71)).alloc (.cells #[.int .i64 0, .slice none 0 0, .bool false] 45)) (w.heap.size + 1 + 1) 0 (.slice none 0 0) false := by
    have := heap_alloc_new ((w.alloc (.cells #[.int .i64 0, .slice none 0 0, .bool false] 45)).alloc (.cells #[.slice ao n cap, .int .i64 0] 71)) (.cells #[.int .i64 0, .slice none 0 0, .bool false] 45)
    unfold RW
    simpa using this
  have R0 : R (((w.alloc (.cells #[.int .i64 0, .slice none 0 0, .bool false] 45)).alloc (.cells #[.slice ao n cap, .int .i64 0] 71)).alloc (.cells #[.int .i64 0, .slice none 0 0, .bool false] 45)) (w.heap.size + 1) w.heap.size xs 0 := ⟨ao, n, cap, cell_of_row _ _ 0 _ _ _ P0, cell_of_row _ _ 1 _ _ _ P0, frozen_of_row _ _ 0 _ _ P0, frozen_of_row _ _ 1 _ _ P0, h.below B, fun a ha hp => h.lt a ha hp, by omega, by omega⟩
  clear h P0
  go_enter Try.func21, Try.ntmps21
  go_wp2_with fail
  obtain ⟨w0, hw0⟩ : ∃ W, W = (((w.alloc (.cells #[.int .i64 0, .slice none 0 0, .bool false] 45)).alloc (.cells #[.slice ao n cap, .int .i64 0] 71)).alloc (.cells #[.int .i64 0, .slice none 0 0, .bool false] 45)) := ⟨_, rfl⟩
  obtain ⟨N, hN⟩ : ∃ N, N = w.heap.size := ⟨_, rfl⟩
  rw [← hw0] at K B R0 O ⊢
  rw [← hN] at K B R0 O ⊢
  obtain ⟨M, hM⟩ : ∃ M, M = N + 1 + 1 := ⟨_, rfl⟩
  rw [← hM] at O ⊢
  have HN : Hid (N = w.heap.size) := hN
  have hNM : N + 1 < M ∧ N ≤ M := by omega
  clear hw0 hN hM
  refine (rInt_any w0 (N + 1) N xs 0 100 (by decide) R0.byte R0).mono ?_
  rintro e u1 ⟨rfl, R1, G1⟩
  obtain ⟨r1, e1⟩ : ∃ r, r = intT xs 0 100 := ⟨_, rfl⟩
  have ER1 : Hid (r1 = intT xs 0 100) := e1
  rw [← e1] at R1 ⊢
  have K1 := K.kept (G1.block N K.lt (by simp))
  have O1 := O.kept (G1.block M O.lt (by simp; omega))
  have B1 := B.trans (below_grown G1 (by have := B.size; have := HN.out; omega) (by omega))
  have c0 := O1.c0
  have f0 := O1.fz 0
  clear e1 R0 K O B G1
  obtain ⟨w1, hV⟩ : ∃ V, V = u1.setCell ⟨M, 0, none⟩ (.int .i64 r1.1) := ⟨_, rfl⟩
  have SB : w1.heap.size = u1.heap.size ∧ ∀ j, j ≠ M → w1.heap[j]? = u1.heap[j]? := by rw [hV]; exact same_set _ _ _ _
  have R0 : R w1 (N + 1) N r1.2.1 r1.2.2 := by rw [hV]; exact R.own R1 hNM.1 hNM.2
  have B : Below N w w1 := by rw [hV]; exact B1.setCell hNM.2 _
  have K := K1.kept (SB.2 N (by omega))
  have O : RW w1 M r1.1 (.slice none 0 0) false := by rw [hV]; exact heap_setCell_same _ M 0 _ _ _ O1
  clear R1 B1 K1 O1 SB
  go_wp2_with fail
  rw [← hV]
  clear hV c0 f0
  refine (rInt_any w1 (N + 1) N r1.2.1 r1.2.2 16 (by decide) R0.byte R0).mono ?_
  rintro e w2 ⟨rfl, R2, G2⟩
  obtain ⟨r2, e2⟩ : ∃ r, r = intT r1.2.1 r1.2.2 16 := ⟨_, rfl⟩
  have ER2 : Hid (r2 = intT r1.2.1 r1.2.2 16) := e2
  have Z2 : r2.1 ≤ 16 := by rw [e2]; exact intT_le 16 _ _
  rw [← e2] at R2 ⊢
  have inv0 : ResG w (N + 1) N N M r2.1 r1.1 [] r2.2.1 r2.2.2 w2 (.slice none 0 0) [] := ⟨R2, O.kept (G2.block M O.lt (by simp; omega)), K.kept (G2.block N K.lt (by simp)), ⟨rfl, .inl ⟨rfl, rfl⟩⟩, fun _ h => by simp at h, fun x h => by obtain ⟨y, hy, _⟩ := h; simp at hy, rfl, B.trans (below_grown G2 (by have := B.size; have := HN.out; omega) (by omega)), Nat.zero_le _, ⟨Nat.le_refl _, by omega, hNM.1⟩⟩
  clear e2 R2 O K B G2 R0
  go_wp2_with fail
  go_loopw [7] (fun i wr => ∃ (v : Value) (l : List CA), i = .int .i64 (l.length : Nat) ∧ ResG w (N + 1) N N M r2.1 r1.1 (stopT cR l.length r2.2.1 r2.2.2).1 (stopT cR l.length r2.2.1 r2.2.2).2.1 (stopT cR l.length r2.2.1 r2.2.2).2.2 wr v l) (fun i _ => r2.1 - (intOf i).toNat)
  case atStart => exact ⟨_, [], rfl, inv0⟩
  case round =>
    clear inv0
    obtain ⟨v, l, rfl, inv⟩ := hrel
    obtain ⟨ao1, cap1, hv, CL1⟩ := CL.own inv.own inv.oks
    have hle := inv.le
    have kk := inv.rd.kind
    by_cases hlt : l.length < r2.1
    · by_cases hq : (stopT cR l.length r2.2.1 r2.2.2).2.2 = 0
      · have i6 : (l.length : Int) < (r2.1 : Int) := by omega
        have HSN : Hid (stopT cR (l.length + 1) r2.2.1 r2.2.2 = ((stopT cR l.length r2.2.1 r2.2.2).1 ++ [(cR (stopT cR l.length r2.2.1 r2.2.2).2.1 (stopT cR l.length r2.2.1 r2.2.2).2.2).1], (cR (stopT cR l.length r2.2.1 r2.2.2).2.1 (stopT cR l.length r2.2.1 r2.2.2).2.2).2)) := stopT_snoc cR l.length r2.2.1 r2.2.2 hq
        obtain ⟨i0, hi, hz0, hz1, hz2⟩ := info_parts cellInfo
        rw [hq] at kk
        clear hq CL1 hv
        have HI : Hid (ResG w (N + 1) N N M r2.1 r1.1 (stopT cR l.length r2.2.1 r2.2.2).1 (stopT cR l.length r2.2.1 r2.2.2).2.1 (stopT cR l.length r2.2.1 r2.2.2).2.2 wr (v) l) := inv
        obtain ⟨T, hT⟩ : ∃ T, T = (stopT cR l.length r2.2.1 r2.2.2) := ⟨_, rfl⟩
        have HT : Hid (T = (stopT cR l.length r2.2.1 r2.2.2)) := hT
        have B0 : Below wr.heap.size wr (wr.alloc (.cells #[.string ⟨#[]⟩, .string ⟨#[]⟩, .string ⟨#[]⟩, .int .u64 0, .slice none 0 0, .bool false] 53)) := (Below.refl _ wr).alloc (Nat.le_refl _) _
        have R0 : R (wr.alloc (.cells #[.string ⟨#[]⟩, .string ⟨#[]⟩, .string ⟨#[]⟩, .int .u64 0, .slice none 0 0, .bool false] 53)) (N + 1) N T.2.1 T.2.2 := by rw [hT]; exact inv.rd.below B0
        have O : CC6 (wr.alloc (.cells #[.string ⟨#[]⟩, .string ⟨#[]⟩, .string ⟨#[]⟩, .int .u64 0, .slice none 0 0, .bool false] 53)) wr.heap.size ⟨#[]⟩ ⟨#[]⟩ ⟨#[]⟩ 0 (.slice none 0 0) false := heap_alloc_new wr _
        have G : wr.grownBy (wr.alloc (.cells #[.string ⟨#[]⟩, .string ⟨#[]⟩, .string ⟨#[]⟩, .int .u64 0, .slice none 0 0, .bool false] 53)) (some (N + 1)) := grown_below B0
        have hMg : M < wr.heap.size := inv.ov.lt
        clear inv B0 hT
        go_wp2_with fail
        clear kk
        obtain ⟨g, hg⟩ : ∃ g, g = wr.heap.size := ⟨_, rfl⟩
        obtain ⟨x0, hx0⟩ : ∃ W, W = wr.alloc (.cells #[.string ⟨#[]⟩, .string ⟨#[]⟩, .string ⟨#[]⟩, .int .u64 0, .slice none 0 0, .bool false] 53) := ⟨_, rfl⟩
        rw [← hx0] at R0 O G ⊢
        rw [← hg] at O ⊢
        have HG : Hid (g = wr.heap.size) := hg
        have hgp : N + 1 < g ∧ N ≤ g ∧ wr.heap.size ≤ g ∧ M < g := by omega
        clear hx0 hg
        refine (rrkey_any x0 (N + 1) N T.2.1 T.2.2 R0).mono ?_
        rintro e y1 ⟨rfl, R1, G1⟩
        obtain ⟨k1, e1⟩ : ∃ r, r = keyRT T.2.1 T.2.2 := ⟨_, rfl⟩
        have HK1 : Hid (k1 = keyRT T.2.1 T.2.2) := e1
        have Zk := keyRT_ok R0.byte (k := T.2.2)
        unfold KA.val keyOf
        rw [← e1] at R1 Zk ⊢
        have O1 := O.kept (G1.block g O.lt (by simp; omega))
        have G0 := grown_trans G G1
        have c0 : y1.cell? ⟨g, 0, none⟩ = some (.string ⟨#[]⟩) := cell_of_row y1 g 0 _ _ _ O1
        have f0 := O1.fz 0
        have c1 : y1.cell? ⟨g, 1, none⟩ = some (.string ⟨#[]⟩) := cell_of_row y1 g 1 _ _ _ O1
        have f1 := O1.fz 1
        have c2 : y1.cell? ⟨g, 2, none⟩ = some (.string ⟨#[]⟩) := cell_of_row y1 g 2 _ _ _ O1
        have f2 := O1.fz 2
        have c3 : y1.cell? ⟨g, 3, none⟩ = some (.int .u64 0) := cell_of_row y1 g 3 _ _ _ O1
        have f3 := O1.fz 3
        clear R0 O G
        obtain ⟨x1, hV⟩ : ∃ V, V = ((((y1.setCell ⟨g, 0, none⟩ (.string k1.1.1)).setCell ⟨g, 1, none⟩ (.string k1.1.2.1)).setCell ⟨g, 2, none⟩ (.string k1.1.2.2.1)).setCell ⟨g, 3, none⟩ (.int .u64 k1.1.2.2.2)) := ⟨_, rfl⟩
        have SB : x1.heap.size = y1.heap.size ∧ ∀ j, j ≠ g → x1.heap[j]? = y1.heap[j]? := by rw [hV]; exact (SameBut.trans (SameBut.trans (SameBut.trans (SameBut.trans ⟨rfl, fun _ _ => rfl⟩ (same_set _ _ _ _)) (same_set _ _ _ _)) (same_set _ _ _ _)) (same_set _ _ _ _))
        have R0 : R x1 (N + 1) N k1.2.1 k1.2.2 := by rw [hV]; exact (R.own (R.own (R.own (R.own R1 hgp.1 hgp.2.1) hgp.1 hgp.2.1) hgp.1 hgp.2.1) hgp.1 hgp.2.1)
        have G : wr.grownBy x1 (some (N + 1)) := by rw [hV]; exact (grown_own (grown_own (grown_own (grown_own G0 hgp.2.2.1) hgp.2.2.1) hgp.2.2.1) hgp.2.2.1)
        have O : CC6 x1 g k1.1.1 k1.1.2.1 k1.1.2.2.1 k1.1.2.2.2 (.slice none 0 0) false := by rw [hV]; exact (heap_setCell_same _ g 3 _ _ (.int .u64 k1.1.2.2.2) (heap_setCell_same _ g 2 _ _ (.string k1.1.2.2.1) (heap_setCell_same _ g 1 _ _ (.string k1.1.2.1) (heap_setCell_same _ g 0 _ _ (.string k1.1.1) O1))))
        clear e1 R1 G1 SB O1 G0
        go_wp2_with fail
        rw [← hV]
        clear hV c0 f0 c1 f1 c2 f2 c3 f3
        refine (rBytes_low x1 (N + 1) N k1.2.1 k1.2.2 256 (by decide) R0).mono ?_
        rintro e y2 ⟨bo, bn, bc, rfl, S, LO, R1, G1⟩
        obtain ⟨k2, e1⟩ : ∃ r, r = bytesT k1.2.1 k1.2.2 256 := ⟨_, rfl⟩
        have HK2 : Hid (k2 = bytesT k1.2.1 k1.2.2 256) := e1
        rw [← e1] at S R1
        have O1 := O.kept (G1.block g O.lt (by simp; omega))
        have G0 := grown_trans G G1
        have c4 : y2.cell? ⟨g, 4, none⟩ = some (.slice none 0 0) := cell_of_row y2 g 4 _ _ _ O1
        have f4 := O1.fz 4
        clear R0 O G
        obtain ⟨x2, hV⟩ : ∃ V, V = (y2.setCell ⟨g, 4, none⟩ (.slice bo bn bc)) := ⟨_, rfl⟩
        have SB : x2.heap.size = y2.heap.size ∧ ∀ j, j ≠ g → x2.heap[j]? = y2.heap[j]? := by rw [hV]; exact (SameBut.trans ⟨rfl, fun _ _ => rfl⟩ (same_set _ _ _ _))
        have R0 : R x2 (N + 1) N k2.2.1 k2.2.2 := by rw [hV]; exact (R.own R1 hgp.1 hgp.2.1)
        have G : wr.grownBy x2 (some (N + 1)) := by rw [hV]; exact (grown_own G0 hgp.2.2.1)
        have O : CC6 x2 g k1.1.1 k1.1.2.1 k1.1.2.2.1 k1.1.2.2.2 (.slice bo bn bc) false := by rw [hV]; exact (heap_setCell_same _ g 4 _ _ (.slice bo bn bc) O1)
        have LO : Hid (∀ a, bo = some a → 0 < bn → a.block < N) := LO
        have S := Sl.kept (b := ⟨bo, bn, bc, k2.1⟩) S (w' := x2) (fun x hx => by
          obtain ⟨a, ha, hn, rfl⟩ := hx
          exact SB.2 _ (by have := LO.out a ha hn; omega))
        clear e1 R1 G1 SB O1 G0
        go_wp2_with fail
        rw [← hV]
        clear hV c4 f4
        refine (rBool_read x2 (N + 1) N k2.2.1 k2.2.2 R0).mono ?_
        rintro e y3 ⟨rfl, R1, G1⟩
        obtain ⟨k3, e1⟩ : ∃ r, r = boolT k2.2.1 k2.2.2 := ⟨_, rfl⟩
        have HK3 : Hid (k3 = boolT k2.2.1 k2.2.2) := e1
        rw [← e1] at R1 ⊢
        have O1 := O.kept (G1.block g O.lt (by simp; omega))
        have G0 := grown_trans G G1
        have S := Sl.kept (b := ⟨bo, bn, bc, k2.1⟩) S (w' := y3) (fun x hx => by
          obtain ⟨a, ha, hn, rfl⟩ := hx
          exact G1.block _ (S.lt a ha hn) (by have := LO.out a ha hn; simp; omega))
        have c5 : y3.cell? ⟨g, 5, none⟩ = some (.bool false) := cell_of_row y3 g 5 _ _ _ O1
        have f5 := O1.fz 5
        clear R0 O G
        have SB : (y3.setCell ⟨g, 5, none⟩ (.bool k3.1)).heap.size = y3.heap.size ∧ ∀ j, j ≠ g → (y3.setCell ⟨g, 5, none⟩ (.bool k3.1)).heap[j]? = y3.heap[j]? := by exact (SameBut.trans ⟨rfl, fun _ _ => rfl⟩ (same_set _ _ _ _))
        have R0 : R (y3.setCell ⟨g, 5, none⟩ (.bool k3.1)) (N + 1) N k3.2.1 k3.2.2 := by exact (R.own R1 hgp.1 hgp.2.1)
        have G : wr.grownBy (y3.setCell ⟨g, 5, none⟩ (.bool k3.1)) (some (N + 1)) := by exact (grown_own G0 hgp.2.2.1)
        have O : CC6 (y3.setCell ⟨g, 5, none⟩ (.bool k3.1)) g k1.1.1 k1.1.2.1 k1.1.2.2.1 k1.1.2.2.2 (.slice bo bn bc) k3.1 := by exact (heap_setCell_same _ g 5 _ _ (.bool k3.1) O1)
        have S := Sl.kept (b := ⟨bo, bn, bc, k2.1⟩) S (w' := (y3.setCell ⟨g, 5, none⟩ (.bool k3.1))) (fun x hx => by
          obtain ⟨a, ha, hn, rfl⟩ := hx
          exact SB.2 _ (by have := LO.out a ha hn; omega))
        have m1 : RW y3 M r1.1 (v) false := HI.out.ov.kept (G0.block M hMg (by simp; omega))
        have mc1 := m1.c1
        have hgM : g ≠ M := by omega
        have hMg2 : M ≠ g := by omega
        have b0 : y3.cell? ⟨g, 0, none⟩ = some (.string k1.1.1) := cell_of_row y3 g 0 _ _ _ O1
        have b1 : y3.cell? ⟨g, 1, none⟩ = some (.string k1.1.2.1) := cell_of_row y3 g 1 _ _ _ O1
        have b2 : y3.cell? ⟨g, 2, none⟩ = some (.string k1.1.2.2.1) := cell_of_row y3 g 2 _ _ _ O1
        have b3 : y3.cell? ⟨g, 3, none⟩ = some (.int .u64 k1.1.2.2.2) := cell_of_row y3 g 3 _ _ _ O1
        have b4 : y3.cell? ⟨g, 4, none⟩ = some (.slice bo bn bc) := cell_of_row y3 g 4 _ _ _ O1
        clear e1 R1 G1 SB O1 G0 m1
        have HY5 : Hid (wr.grownBy (y3.setCell ⟨g, 5, none⟩ (.bool k3.1)) (some (N + 1))) := G
        have HY1 : Hid ((⟨k1.1.1, k1.1.2.1, k1.1.2.2.1, k1.1.2.2.2, ⟨bo, bn, bc, k2.1⟩, k3.1⟩ : CA).ok (y3.setCell ⟨g, 5, none⟩ (.bool k3.1))) := ⟨by show k1.1.1.size ≤ maxLen; unfold maxLen; omega, by show k1.1.2.1.size ≤ maxLen; unfold maxLen; omega, by show k1.1.2.2.1.size ≤ maxLen; unfold maxLen; omega, Zk.2.2.2, S⟩
        have HY2 : Hid (∀ x, (⟨k1.1.1, k1.1.2.1, k1.1.2.2.1, k1.1.2.2.2, ⟨bo, bn, bc, k2.1⟩, k3.1⟩ : CA).va.blk x → x < N) := fun x hx => by
          obtain ⟨a, ha, hn, rfl⟩ := hx
          exact LO.out a ha hn
        have HY3 : Hid ((⟨k1.1.1, k1.1.2.1, k1.1.2.2.1, k1.1.2.2.2, ⟨bo, bn, bc, k2.1⟩, k3.1⟩ : CA).c = (cR (stopT cR l.length r2.2.1 r2.2.2).2.1 (stopT cR l.length r2.2.1 r2.2.2).2.2).1) := by
          show _ = _
          rw [← HT.out, cR_key, ← HK1.out, ← HK2.out, ← HK3.out]
          rfl
        have HY4 : Hid (R (y3.setCell ⟨g, 5, none⟩ (.bool k3.1)) (N + 1) N (cR (stopT cR l.length r2.2.1 r2.2.2).2.1 (stopT cR l.length r2.2.1 r2.2.2).2.2).2.1 (cR (stopT cR l.length r2.2.1 r2.2.2).2.1 (stopT cR l.length r2.2.1 r2.2.2).2.2).2.2) := by
          show R _ _ _ _ _
          rw [← HT.out, cR_key, ← HK1.out, ← HK2.out, ← HK3.out]
          exact R0
        have m0 : RW (y3.setCell ⟨g, 5, none⟩ (.bool k3.1)) M r1.1 (v) false := HI.out.ov.kept (G.block M hMg (by simp; omega))
        have own0 : (y3.setCell ⟨g, 5, none⟩ (.bool k3.1)).ownsRow (M + 1) 53 6 (v) l.length (cellsC l) := own_kept HI.out.own fun x hx => G.block x (HI.out.ownlt hx).2 (by have := HI.out.ownlt hx; simp; omega)
        have ownU4 : ((y3.setCell ⟨g, 5, none⟩ (.bool k3.1)).alloc (.cells #[.string k1.1.1, .string k1.1.2.1, .string k1.1.2.2.1, .int .u64 k1.1.2.2.2, .slice bo bn bc, .bool k3.1] 53)).ownsRow (M + 1) 53 6 (v) l.length (cellsC l) := own_kept own0 fun x hx => heap_alloc_old _ _ (by have := HI.out.ownlt hx; have := HY5.out.size; omega)
        have N4 : ((y3.setCell ⟨g, 5, none⟩ (.bool k3.1)).alloc (.cells #[.string k1.1.1, .string k1.1.2.1, .string k1.1.2.2.1, .int .u64 k1.1.2.2.2, .slice bo bn bc, .bool k3.1] 53)).heap[y3.heap.size]? = some (.cells #[.string k1.1.1, .string k1.1.2.1, .string k1.1.2.2.1, .int .u64 k1.1.2.2.2, .slice bo bn bc, .bool k3.1] 53) := by
          rw [← (same_set y3 g 5 (.bool k3.1)).1]
          exact heap_alloc_new (y3.setCell ⟨g, 5, none⟩ (.bool k3.1)) _
        have HM0 : Hid (RW (y3.setCell ⟨g, 5, none⟩ (.bool k3.1)) M r1.1 (v) false) := m0
        have HOW : Hid (World.ownsRow _ _ _ _ _ _ _) := ownU4
        have HN4 : Hid (_ = _) := N4
        clear R0 O S G m0 own0 ownU4 N4
        go_wp2_with (at_builtin; refine wpList_append_own _ rfl (.tmp 42) (.tmp 44) 43 rfl (M + 1) 53 i0 _ 6 88 Try.underlying43 hi hz0 hz1 hz2 rfl (by decide) (v) l.length (cellsC l) rfl HOW.out ⟨y3.heap.size, 0, none⟩ 1 1 (⟨k1.1.1, k1.1.2.1, k1.1.2.2.1, k1.1.2.2.2, ⟨bo, bn, bc, k2.1⟩, k3.1⟩ : CA).cells rfl rfl (fun j u hu => by rw [Addr.add_lit, Nat.zero_add]; exact (cell_of_row _ y3.heap.size j #[.string k1.1.1, .string k1.1.2.1, .string k1.1.2.2.1, .int .u64 k1.1.2.2.2, .slice bo bn bc, .bool k3.1] _ (0, 0) HN4.out).trans (show ((⟨k1.1.1, k1.1.2.1, k1.1.2.2.1, k1.1.2.2.2, ⟨bo, bn, bc, k2.1⟩, k3.1⟩ : CA).cells.toArray)[j]? = some u from by rw [List.getElem?_toArray]; exact hu)) (c_one (⟨k1.1.1, k1.1.2.1, k1.1.2.2.1, k1.1.2.2.2, ⟨bo, bn, bc, k2.1⟩, k3.1⟩ : CA)) (by unfold maxLen; omega) (by omega) (Nat.le_trans (Nat.succ_le_of_lt HM0.out.lt) (by simp)) ?_; intro v5 U5 O5 G5 _; have ST := HI.out.step (by omega) HY1.out HY2.out HY3.out HY4.out HY5.out O5 G5; have n5 : RW U5 M r1.1 (v) false := HM0.out.kept ((G5.block M (Nat.lt_of_lt_of_le HM0.out.lt (by simp)) (fun e => by have := HI.out.ownlt e.symm; omega)).trans (heap_alloc_old (y3.setCell ⟨g, 5, none⟩ (.bool k3.1)) _ HM0.out.lt)); have d1 := n5.c1; have z1 := n5.fz 1; have mm := CL.own ST.own ST.oks; rw [List.length_append, List.length_singleton] at mm; obtain ⟨ao3, cap3, rfl, _⟩ := mm; have HST : Hid _ := ST; clear ST O5 G5 n5)
        go_roundw
        case rel => exact ⟨_, l ++ [(⟨k1.1.1, k1.1.2.1, k1.1.2.2.1, k1.1.2.2.2, ⟨bo, bn, bc, k2.1⟩, k3.1⟩ : CA)], by rw [List.length_append, List.length_singleton]; go_num, by rw [List.length_append, List.length_singleton, HSN.out]; exact HST.out⟩
        case measure => simp [intOf]; omega
      · have i6 : (l.length : Int) < (r2.1 : Int) := by omega
        have i7 : ((stopT cR l.length r2.2.1 r2.2.2).2.2 == 0) = false := by simp [hq]
        have HEQ : Hid (stopT cR r2.1 r2.2.1 r2.2.2 = (stopT cR l.length r2.2.1 r2.2.2)) := stopT_halt cR l.length r2.1 r2.2.1 r2.2.2 hle hq
        clear hq
        subst hv
        go_wp2_with fail
        clear kk
        obtain ⟨T, hT⟩ : ∃ T, T = (stopT cR l.length r2.2.1 r2.2.2) := ⟨_, rfl⟩
        have HT : Hid (T = (stopT cR l.length r2.2.1 r2.2.2)) := hT
        refine (rBool_read wr (N + 1) N T.2.1 T.2.2 (by rw [hT]; exact inv.rd)).mono ?_
        rintro e w5 ⟨rfl, R5, G5⟩
        obtain ⟨b, hb⟩ : ∃ b, b = boolT T.2.1 T.2.2 := ⟨_, rfl⟩
        have HB : Hid (b = boolT T.2.1 T.2.2) := hb
        rw [← hb] at R5 ⊢
        have FAR : Hid (∀ x, (sblk ao1 l.length x ∨ ∃ c ∈ l, c.va.blk x) → (x < N ∨ M < x) ∧ x < wr.heap.size) := fun x hx => by
          rcases hx with hx | ⟨c, hc, hx⟩
          · have := inv.ownlt (sblk_own hx)
            omega
          · exact ⟨.inl (inv.far x ⟨c, hc, hx⟩), (inv.oks c hc).blk_lt hx⟩
        have CL5 := CL1.kept (w' := w5) fun x hx => G5.block x (FAR.out x hx).2 (by have := (FAR.out x hx).1; simp; omega)
        have m5 := inv.ov.kept (G5.block M inv.ov.lt (by simp; omega))
        have K5 := inv.res.kept (G5.block N inv.res.lt (by simp))
        have B5 := inv.bel.trans (below_grown G5 (by have := inv.bel.size; have := HN.out; omega) (by omega))
        have HL : Hid (l.map CA.c = T.1) := by show _ = _; rw [hT]; exact inv.thr
        have d2 := m5.c2
        have z2 := m5.fz 2
        obtain ⟨w6, hw6⟩ : ∃ W, W = w5.setCell ⟨M, 2, none⟩ (.bool b.1) := ⟨_, rfl⟩
        have SB6 : w6.heap.size = w5.heap.size ∧ ∀ j, j ≠ M → w6.heap[j]? = w5.heap[j]? := by rw [hw6]; exact same_set _ _ _ _
        have QX : RW w6 M r1.1 (.slice ao1 l.length cap1) b.1 := by rw [hw6]; exact m5.setM b.1
        have KX : RW w6 N 0 (.slice none 0 0) false := K5.kept (SB6.2 N (by omega))
        have R6 : R w6 (N + 1) N b.2.1 b.2.2 := by rw [hw6]; exact R5.own hNM.1 hNM.2
        have BX : Below N w w6 := by rw [hw6]; exact B5.setCell hNM.2 _
        have CLX := CL5.kept (w' := w6) fun x hx => SB6.2 x (by have := (FAR.out x hx).1; omega)
        have FR : Hid (∀ x, (sblk ao1 l.length x ∨ ∃ c ∈ l, c.va.blk x) → x ≠ N) := fun x hx => by have := (FAR.out x hx).1; omega
        clear hT hb inv CL1 CL5 G5 R5 K5 B5 m5 SB6 FAR
        go_wp2_with fail
        rw [← hw6]
        clear hw6 d2 z2
        refine (rDone_any w6 (N + 1) N b.2.1 b.2.2 R6).mono ?_
        rintro e w7 ⟨rfl, rfl⟩
        obtain ⟨d, hd⟩ : ∃ d, d = doneS b.2.1 b.2.2 := ⟨_, rfl⟩
        rw [← hd]
        have HD : Hid (d = doneS b.2.1 b.2.2) := hd
        have HRT : Hid (resRT xs 0 = (resR r1.1 l b.1, b.2)) := by
          show _ = _
          rw [resRT_eq ER1.out ER2.out (HT.out.trans HEQ.out.symm) HB.out, ← HL.out]
          rfl
        clear hd R6
        by_cases hk : d = 0
        case neg =>
          have HQ : Hid (rdR xs = .inl d) := by
            show _ = _
            rw [HRD.out]
            unfold rdT
            rw [HRT.out]
            show (if doneS b.2.1 b.2.2 = 0 then _ else _) = _
            rw [← HD.out, if_neg hk]
          have hkc : (d != 0) = true := by simp [hk]
          have hkb : (d == 0) = false := by simp [hk]
          clear hk
          have n0 := KX.c0
          have g0 := KX.fz 0
          have n1 := KX.c1
          have g1 := KX.fz 1
          have n2 := KX.c2
          have g2 := KX.fz 2
          have BF : Hid (Below N w (((w7.setCell ⟨N, 0, none⟩ (.int .i64 0)).setCell ⟨N, 1, none⟩ (.slice none 0 0)).setCell ⟨N, 2, none⟩ (.bool false))) := (((BX.setCell (Nat.le_refl _) _).setCell (Nat.le_refl _) _).setCell (Nat.le_refl _) _)
          clear KX QX CLX BX
          go_wp2
          refine bodyPost_ret (v := .tuple #[.agg #[.int .i64 0, .slice none 0 0, .bool false], .int .i64 d]) (by simp [results, Try.results21, go_sem, n0, n1, n2]) rfl ?_
          exact ⟨fun k hk => by
            have e := Sum.inl.inj (HQ.out.symm.trans hk)
            subst e
            rfl, fun q hq => absurd (HQ.out.symm.trans hq) (by simp), by rw [← HN.out]; exact BF.out⟩
        subst hk
        have CR := rrr_any w7 r1.1 ao1 l.length cap1 l b.1 CLX
        have q0 := QX.c0
        have q1 := QX.c1
        have q2 := QX.c2
        have HCR : Hid (Calls _ _ _ _ _) := CR
        clear CR
        go_wp2_with fail
        clear q0 q1 q2
        refine (Calls.mono HCR.out) ?_
        rintro e w8 ⟨rfl, C⟩
        obtain ⟨kb, hkk⟩ : ∃ d, d = rightR (resR r1.1 l b.1) := ⟨_, rfl⟩
        rw [← hkk]
        have BX := BX.trans (C.mono (by have := BX.size; have := HN.out; omega))
        have KX := KX.kept (C.block N KX.lt)
        have QX := QX.kept (C.block M QX.lt)
        have CLX := CLX.below C
        have HRQ : Hid (rdR xs = if kb = true then .inr (resR r1.1 l b.1) else .inl 1) := by
          show _ = _
          rw [HRD.out]
          unfold rdT
          rw [HRT.out]
          show (if doneS b.2.1 b.2.2 = 0 then _ else _) = _
          rw [← HD.out, if_pos rfl]
          unfold kindR
          rw [← hkk]
          cases kb <;> rfl
        clear C hkk HCR HD
        have n0 := KX.c0
        have g0 := KX.fz 0
        have n1 := KX.c1
        have g1 := KX.fz 1
        have n2 := KX.c2
        have g2 := KX.fz 2
        cases kb with
        | true =>
          have HQ : Hid (rdR xs = .inr (resR r1.1 l b.1)) := HRQ.out
          have q0 := QX.c0
          have q1 := QX.c1
          have q2 := QX.c2
          have BF : Below N w (((w8.setCell ⟨N, 0, none⟩ (.int .i64 r1.1)).setCell ⟨N, 1, none⟩ (.slice ao1 l.length cap1)).setCell ⟨N, 2, none⟩ (.bool b.1)) := (((BX.setCell (Nat.le_refl _) _).setCell (Nat.le_refl _) _).setCell (Nat.le_refl _) _)
          have SB : ((((w8.setCell ⟨N, 0, none⟩ (.int .i64 r1.1)).setCell ⟨N, 1, none⟩ (.slice ao1 l.length cap1)).setCell ⟨N, 2, none⟩ (.bool b.1))).heap.size = w8.heap.size ∧ ∀ j, j ≠ N → ((((w8.setCell ⟨N, 0, none⟩ (.int .i64 r1.1)).setCell ⟨N, 1, none⟩ (.slice ao1 l.length cap1)).setCell ⟨N, 2, none⟩ (.bool b.1))).heap[j]? = w8.heap[j]? := (SameBut.trans (SameBut.trans (SameBut.trans ⟨rfl, fun _ _ => rfl⟩ (same_set _ _ _ _)) (same_set _ _ _ _)) (same_set _ _ _ _))
          have GOOD : Hid (CL (((w8.setCell ⟨N, 0, none⟩ (.int .i64 r1.1)).setCell ⟨N, 1, none⟩ (.slice ao1 l.length cap1)).setCell ⟨N, 2, none⟩ (.bool b.1)) ao1 l.length cap1 l ∧ Below N w (((w8.setCell ⟨N, 0, none⟩ (.int .i64 r1.1)).setCell ⟨N, 1, none⟩ (.slice ao1 l.length cap1)).setCell ⟨N, 2, none⟩ (.bool b.1))) := ⟨CLX.kept fun x hx => SB.2 x (FR.out x hx), BF⟩
          clear SB BF CLX HRQ KX QX BX
          go_wp2
          refine bodyPost_ret (v := .tuple #[.agg #[.int .i64 r1.1, .slice ao1 l.length cap1, .bool b.1], .int .i64 0]) (by simp [results, Try.results21, go_sem, n0, n1, n2]) rfl ?_
          exact ⟨fun k hk => absurd (HQ.out.symm.trans hk) (by simp), fun q hq => by
            have e := Sum.inr.inj (HQ.out.symm.trans hq)
            subst e
            exact ⟨_, _, _, _, l, _, rfl, GOOD.out.1, rfl⟩, by rw [← HN.out]; exact GOOD.out.2⟩
        | false =>
          have HQ : Hid (rdR xs = .inl 1) := HRQ.out
          clear HRQ
          have BF : Hid (Below N w (((w8.setCell ⟨N, 0, none⟩ (.int .i64 0)).setCell ⟨N, 1, none⟩ (.slice none 0 0)).setCell ⟨N, 2, none⟩ (.bool false))) := (((BX.setCell (Nat.le_refl _) _).setCell (Nat.le_refl _) _).setCell (Nat.le_refl _) _)
          clear KX QX CLX BX
          go_wp2
          refine bodyPost_ret (v := .tuple #[.agg #[.int .i64 0, .slice none 0 0, .bool false], .int .i64 1]) (by simp [results, Try.results21, go_sem, n0, n1, n2]) rfl ?_
          exact ⟨fun k hk => by
            have e := Sum.inl.inj (HQ.out.symm.trans hk)
            subst e
            rfl, fun q hq => absurd (HQ.out.symm.trans hq) (by simp), by rw [← HN.out]; exact BF.out⟩
    · have i6 : (r2.1 : Int) ≤ (l.length : Int) := by omega
      have HEQ : Hid (stopT cR r2.1 r2.2.1 r2.2.2 = (stopT cR l.length r2.2.1 r2.2.2)) := by
        show stopT cR r2.1 r2.2.1 r2.2.2 = (stopT cR l.length r2.2.1 r2.2.2)
        rw [show l.length = r2.1 by omega]
      subst hv
      go_wp2_with fail
      clear kk
      obtain ⟨T, hT⟩ : ∃ T, T = (stopT cR l.length r2.2.1 r2.2.2) := ⟨_, rfl⟩
      have HT : Hid (T = (stopT cR l.length r2.2.1 r2.2.2)) := hT
      refine (rBool_read wr (N + 1) N T.2.1 T.2.2 (by rw [hT]; exact inv.rd)).mono ?_
      rintro e w5 ⟨rfl, R5, G5⟩
      obtain ⟨b, hb⟩ : ∃ b, b = boolT T.2.1 T.2.2 := ⟨_, rfl⟩
      have HB : Hid (b = boolT T.2.1 T.2.2) := hb
      rw [← hb] at R5 ⊢
      have FAR : Hid (∀ x, (sblk ao1 l.length x ∨ ∃ c ∈ l, c.va.blk x) → (x < N ∨ M < x) ∧ x < wr.heap.size) := fun x hx => by
        rcases hx with hx | ⟨c, hc, hx⟩
        · have := inv.ownlt (sblk_own hx)
          omega
        · exact ⟨.inl (inv.far x ⟨c, hc, hx⟩), (inv.oks c hc).blk_lt hx⟩
      have CL5 := CL1.kept (w' := w5) fun x hx => G5.block x (FAR.out x hx).2 (by have := (FAR.out x hx).1; simp; omega)
      have m5 := inv.ov.kept (G5.block M inv.ov.lt (by simp; omega))
      have K5 := inv.res.kept (G5.block N inv.res.lt (by simp))
      have B5 := inv.bel.trans (below_grown G5 (by have := inv.bel.size; have := HN.out; omega) (by omega))
      have HL : Hid (l.map CA.c = T.1) := by show _ = _; rw [hT]; exact inv.thr
      have d2 := m5.c2
      have z2 := m5.fz 2
      obtain ⟨w6, hw6⟩ : ∃ W, W = w5.setCell ⟨M, 2, none⟩ (.bool b.1) := ⟨_, rfl⟩
      have SB6 : w6.heap.size = w5.heap.size ∧ ∀ j, j ≠ M → w6.heap[j]? = w5.heap[j]? := by rw [hw6]; exact same_set _ _ _ _
      have QX : RW w6 M r1.1 (.slice ao1 l.length cap1) b.1 := by rw [hw6]; exact m5.setM b.1
      have KX : RW w6 N 0 (.slice none 0 0) false := K5.kept (SB6.2 N (by omega))
      have R6 : R w6 (N + 1) N b.2.1 b.2.2 := by rw [hw6]; exact R5.own hNM.1 hNM.2
      have BX : Below N w w6 := by rw [hw6]; exact B5.setCell hNM.2 _
      have CLX := CL5.kept (w' := w6) fun x hx => SB6.2 x (by have := (FAR.out x hx).1; omega)
      have FR : Hid (∀ x, (sblk ao1 l.length x ∨ ∃ c ∈ l, c.va.blk x) → x ≠ N) := fun x hx => by have := (FAR.out x hx).1; omega
      clear hT hb inv CL1 CL5 G5 R5 K5 B5 m5 SB6 FAR
      go_wp2_with fail
      rw [← hw6]
      clear hw6 d2 z2
      refine (rDone_any w6 (N + 1) N b.2.1 b.2.2 R6).mono ?_
      rintro e w7 ⟨rfl, rfl⟩
      obtain ⟨d, hd⟩ : ∃ d, d = doneS b.2.1 b.2.2 := ⟨_, rfl⟩
      rw [← hd]
      have HD : Hid (d = doneS b.2.1 b.2.2) := hd
      have HRT : Hid (resRT xs 0 = (resR r1.1 l b.1, b.2)) := by
        show _ = _
        rw [resRT_eq ER1.out ER2.out (HT.out.trans HEQ.out.symm) HB.out, ← HL.out]
        rfl
      clear hd R6
      by_cases hk : d = 0
      case neg =>
        have HQ : Hid (rdR xs = .inl d) := by
          show _ = _
          rw [HRD.out]
          unfold rdT
          rw [HRT.out]
          show (if doneS b.2.1 b.2.2 = 0 then _ else _) = _
          rw [← HD.out, if_neg hk]
        have hkc : (d != 0) = true := by simp [hk]
        have hkb : (d == 0) = false := by simp [hk]
        clear hk
        have n0 := KX.c0
        have g0 := KX.fz 0
        have n1 := KX.c1
        have g1 := KX.fz 1
        have n2 := KX.c2
        have g2 := KX.fz 2
        have BF : Hid (Below N w (((w7.setCell ⟨N, 0, none⟩ (.int .i64 0)).setCell ⟨N, 1, none⟩ (.slice none 0 0)).setCell ⟨N, 2, none⟩ (.bool false))) := (((BX.setCell (Nat.le_refl _) _).setCell (Nat.le_refl _) _).setCell (Nat.le_refl _) _)
        clear KX QX CLX BX
        go_wp2
        refine bodyPost_ret (v := .tuple #[.agg #[.int .i64 0, .slice none 0 0, .bool false], .int .i64 d]) (by simp [results, Try.results21, go_sem, n0, n1, n2]) rfl ?_
        exact ⟨fun k hk => by
          have e := Sum.inl.inj (HQ.out.symm.trans hk)
          subst e
          rfl, fun q hq => absurd (HQ.out.symm.trans hq) (by simp), by rw [← HN.out]; exact BF.out⟩
      subst hk
      have CR := rrr_any w7 r1.1 ao1 l.length cap1 l b.1 CLX
      have q0 := QX.c0
      have q1 := QX.c1
      have q2 := QX.c2
      have HCR : Hid (Calls _ _ _ _ _) := CR
      clear CR
      go_wp2_with fail
      clear q0 q1 q2
      refine (Calls.mono HCR.out) ?_
      rintro e w8 ⟨rfl, C⟩
      obtain ⟨kb, hkk⟩ : ∃ d, d = rightR (resR r1.1 l b.1) := ⟨_, rfl⟩
      rw [← hkk]
      have BX := BX.trans (C.mono (by have := BX.size; have := HN.out; omega))
      have KX := KX.kept (C.block N KX.lt)
      have QX := QX.kept (C.block M QX.lt)
      have CLX := CLX.below C
      have HRQ : Hid (rdR xs = if kb = true then .inr (resR r1.1 l b.1) else .inl 1) := by
        show _ = _
        rw [HRD.out]
        unfold rdT
        rw [HRT.out]
        show (if doneS b.2.1 b.2.2 = 0 then _ else _) = _
        rw [← HD.out, if_pos rfl]
        unfold kindR
        rw [← hkk]
        cases kb <;> rfl
      clear C hkk HCR HD
      have n0 := KX.c0
      have g0 := KX.fz 0
      have n1 := KX.c1
      have g1 := KX.fz 1
      have n2 := KX.c2
      have g2 := KX.fz 2
      cases kb with
      | true =>
        have HQ : Hid (rdR xs = .inr (resR r1.1 l b.1)) := HRQ.out
        have q0 := QX.c0
        have q1 := QX.c1
        have q2 := QX.c2
        have BF : Below N w (((w8.setCell ⟨N, 0, none⟩ (.int .i64 r1.1)).setCell ⟨N, 1, none⟩ (.slice ao1 l.length cap1)).setCell ⟨N, 2, none⟩ (.bool b.1)) := (((BX.setCell (Nat.le_refl _) _).setCell (Nat.le_refl _) _).setCell (Nat.le_refl _) _)
        have SB : ((((w8.setCell ⟨N, 0, none⟩ (.int .i64 r1.1)).setCell ⟨N, 1, none⟩ (.slice ao1 l.length cap1)).setCell ⟨N, 2, none⟩ (.bool b.1))).heap.size = w8.heap.size ∧ ∀ j, j ≠ N → ((((w8.setCell ⟨N, 0, none⟩ (.int .i64 r1.1)).setCell ⟨N, 1, none⟩ (.slice ao1 l.length cap1)).setCell ⟨N, 2, none⟩ (.bool b.1))).heap[j]? = w8.heap[j]? := (SameBut.trans (SameBut.trans (SameBut.trans ⟨rfl, fun _ _ => rfl⟩ (same_set _ _ _ _)) (same_set _ _ _ _)) (same_set _ _ _ _))
        have GOOD : Hid (CL (((w8.setCell ⟨N, 0, none⟩ (.int .i64 r1.1)).setCell ⟨N, 1, none⟩ (.slice ao1 l.length cap1)).setCell ⟨N, 2, none⟩ (.bool b.1)) ao1 l.length cap1 l ∧ Below N w (((w8.setCell ⟨N, 0, none⟩ (.int .i64 r1.1)).setCell ⟨N, 1, none⟩ (.slice ao1 l.length cap1)).setCell ⟨N, 2, none⟩ (.bool b.1))) := ⟨CLX.kept fun x hx => SB.2 x (FR.out x hx), BF⟩
        clear SB BF CLX HRQ KX QX BX
        go_wp2
        refine bodyPost_ret (v := .tuple #[.agg #[.int .i64 r1.1, .slice ao1 l.length cap1, .bool b.1], .int .i64 0]) (by simp [results, Try.results21, go_sem, n0, n1, n2]) rfl ?_
        exact ⟨fun k hk => absurd (HQ.out.symm.trans hk) (by simp), fun q hq => by
          have e := Sum.inr.inj (HQ.out.symm.trans hq)
          subst e
          exact ⟨_, _, _, _, l, _, rfl, GOOD.out.1, rfl⟩, by rw [← HN.out]; exact GOOD.out.2⟩
      | false =>
        have HQ : Hid (rdR xs = .inl 1) := HRQ.out
        clear HRQ
        have BF : Hid (Below N w (((w8.setCell ⟨N, 0, none⟩ (.int .i64 0)).setCell ⟨N, 1, none⟩ (.slice none 0 0)).setCell ⟨N, 2, none⟩ (.bool false))) := (((BX.setCell (Nat.le_refl _) _).setCell (Nat.le_refl _) _).setCell (Nat.le_refl _) _)
        clear KX QX CLX BX
        go_wp2
        refine bodyPost_ret (v := .tuple #[.agg #[.int .i64 0, .slice none 0 0, .bool false], .int .i64 1]) (by simp [results, Try.results21, go_sem, n0, n1, n2]) rfl ?_
        exact ⟨fun k hk => by
          have e := Sum.inl.inj (HQ.out.symm.trans hk)
          subst e
          rfl, fun q hq => absurd (HQ.out.symm.trans hq) (by simp), by rw [← HN.out]; exact BF.out⟩
end Go.Proofs.Ytbfcilfdeemnpaa

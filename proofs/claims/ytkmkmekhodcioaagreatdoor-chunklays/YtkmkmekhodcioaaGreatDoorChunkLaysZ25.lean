/-
  The reference's block.
-/
import Derived.Test.YtkmkmekhodcioaaGreatDoorChunkLaysZ24
import Derived.Deep.RegionLaw
import Derived.RangeFuncLeaves
import Derived.Shelf.Abstract
namespace Go

/-- A call that answers and leaves the world alone, within a region that draws its order. -/
theorem step_call_same {P : Program} {ops : Array Oper} {o : Oper} {a : Act} {w : World} {K : Act → World → Prop} {Q : Exit → Act → World → Prop} {E : Prop} (hgd : o.guard = none) (f : FuncId) (x y : Operand) (tx ty : TypeId)
    (ho : o.op = .call { callee := .value (.func f), args := #[x, y], argTypes := #[tx, ty] }) (hent : ∀ args w, (callFunc f args).run P w = .ok (.enter f args) w)
    (v : Value) (hc : Calls P f #[a.eval x, a.eval y] w fun e w' => e = .returned v ∧ w' = w)
    (h : K (a.put o.dst v) w) :
    if Region.wanted o (yielded ops a.tmps) = true then Oper.wp P o a w K Q else E := by
  have hw : Region.wanted o (yielded ops a.tmps) = true := by simp [Region.wanted, hgd]
  rw [if_pos hw]
  have hrun : (execOp a.eval o).run P w = .ok (.enter f #[a.eval x, a.eval y]) w := by
    simp [execOp, ho, resolve, invoke, hent, Act.eval, go_sem]
  unfold Oper.wp
  rw [hrun, Oper.upon_enter]
  refine hc.mono ?_
  rintro e w' ⟨rfl, rfl⟩
  exact h

end Go

namespace Go.Proofs.YtkmkmekhodcioaaGreatDoor
open Go.RowKit

theorem u32info : (Tryz.prog.info? 89).map (fun i => (i.zero, i.size, i.bytes)) = some (some (.int .u32 0), 1, 4) := by kernel_rfl

/-- Words that lie from a block's beginning on. -/
def CW (w : World) (b : Nat) (xs : List Int) : Prop := ∀ i, i < xs.length → w.cell? ⟨b, i, none⟩ = some (.int .u32 (xs.getD i 0))
theorem CW.below {w w' : World} {b n : Nat} {xs : List Int} (h : CW w b xs) (hb : Below n w w') (hn : b < n) : CW w' b xs := fun i hi => (hb.cell (p := ⟨b, i, none⟩) hn).trans (h i hi)
theorem CW.lt {w : World} {b : Nat} {xs : List Int} (h : CW w b xs) (h0 : 0 < xs.length) : b < w.heap.size := World.block_lt_of_cell? w _ (h 0 h0)
theorem Arr.cw {w : World} {b : Nat} {t : TypeId} {xs : List Int} (h : Arr w b t (wv xs)) : CW w b xs := fun i hi => by rw [h.cell, wv_get _ _ hi]

/-- A new row of words, as it lies. -/
theorem made_arr {w : World} {base g n : Nat} {t : TypeId} (h : w.ownsRow base t 1 (.slice (some ⟨g, 0, none⟩) n n) n (madeCells (Value.int .u32 0).cells (n * 1)).toList) : Arr w g t (wv (List.replicate n 0)) := by
  rcases h.2 with ⟨h0, _⟩ | ⟨g', cap, cur, hv, hg, hh, hle, hmx, hcs, htk⟩
  · simp at h0
  · simp only [Value.slice.injEq, Option.some.injEq, Addr.mk.injEq, and_true, true_and] at hv
    obtain ⟨rfl, rfl⟩ := hv
    have e : cur.toList = wv (List.replicate n 0) := by
      rw [List.take_of_length_le (by simp [hcs])] at htk
      rw [htk]
      refine List.ext_getElem? fun i => ?_
      by_cases hi : i < n
      · simp [madeCells, wv, hi, Value.cells, Nat.mod_one]
      · simp [madeCells, wv, hi, Value.cells]
    unfold Arr
    rw [← e]
    exact hh

/-- The reference's word of four bytes. -/
theorem be_ref (B : List Int) (k : Nat) (hB : Byt B) : bits .or .u32 (bits .or .u32 (bits .or .u32 (B.getD (4 * k) 0 * 16777216 % 4294967296) (B.getD (4 * k + 1) 0 * 65536 % 4294967296)) (B.getD (4 * k + 2) 0 * 256 % 4294967296)) (B.getD (4 * k + 3) 0) = be B k 4 := by
  have g : ∀ j, ∃ n : Nat, B.getD j 0 = (n : Int) ∧ n < 256 := fun j => by
    have h : 0 ≤ B.getD j 0 ∧ B.getD j 0 ≤ 255 := hB.at j
    obtain ⟨n, hn⟩ := Int.eq_ofNat_of_zero_le h.1
    exact ⟨n, hn, by omega⟩
  obtain ⟨b0, e0, l0⟩ := g (4 * k)
  obtain ⟨b1, e1, l1⟩ := g (4 * k + 1)
  obtain ⟨b2, e2, l2⟩ := g (4 * k + 2)
  obtain ⟨b3, e3, l3⟩ := g (4 * k + 3)
  have m0 : (b0 : Int) * 16777216 % 4294967296 = ((b0 * 16777216 : Nat) : Int) := by omega
  have m1 : (b1 : Int) * 65536 % 4294967296 = ((b1 * 65536 : Nat) : Int) := by omega
  have m2 : (b2 : Int) * 256 % 4294967296 = ((b2 * 256 : Nat) : Int) := by omega
  have j1 : b0 * 16777216 ||| b1 * 65536 = b0 * 16777216 + b1 * 65536 := nat_join 24 _ _ (by omega) (by omega)
  have j2 : (b0 * 16777216 + b1 * 65536) ||| b2 * 256 = b0 * 16777216 + b1 * 65536 + b2 * 256 := nat_join 16 _ _ (by omega) (by omega)
  have j3 : (b0 * 16777216 + b1 * 65536 + b2 * 256) ||| b3 = b0 * 16777216 + b1 * 65536 + b2 * 256 + b3 := nat_join 8 _ _ (by omega) (by omega)
  rw [e0, e1, e2, e3, m0, m1, m2, u32_or_nat _ _ (by omega) (by omega), j1, u32_or_nat _ _ (by omega) (by omega), j2, u32_or_nat _ _ (by omega) (by omega), j3]
  have s : ∀ (x b : Nat), x < 16777216 → b < 256 → sh (x : Int) (b : Int) = ((x * 256 + b : Nat) : Int) := by
    intro x b hx hb
    unfold sh
    rw [IntKind.wrap_u32', show (x : Int) * 256 % 4294967296 = ((x * 256 : Nat) : Int) by omega, u32_or_nat _ _ (by omega) (by omega), nat_join 8 _ _ (by omega) (by omega)]
  have z : be B k 4 = sh (sh (sh (sh ((0 : Nat) : Int) (b0 : Int)) b1) b2) b3 := by
    rw [← e0, ← e1, ← e2, ← e3]
    rfl
  rw [z, s _ _ (by omega) l0, s _ _ (by omega) l1, s _ _ (by omega) l2, s _ _ (by omega) l3]
  refine congrArg _ ?_
  omega

theorem eight (X : List Int) (h : X.length = 8) : ∃ a b c d e f g l, X = [a, b, c, d, e, f, g, l] := by
  match X, h with
  | [a, b, c, d, e, f, g, l], _ => exact ⟨a, b, c, d, e, f, g, l, rfl⟩
theorem Rr_eight (X Ws : List Int) (k : Nat) (h : X.length = 8) : ∃ a b c d e f g l, Rr X Ws k = [a, b, c, d, e, f, g, l] := by
  induction k with
  | zero => exact eight X h
  | succ k ih =>
    obtain ⟨a, b, c, d, e, f, g, l, e1⟩ := ih
    simp only [Rr, e1, rnd]
    exact ⟨_, _, _, _, _, _, _, _, rfl⟩

theorem cell_set_ne (W : World) (N k i : Nat) (z : Value) (h : i ≠ k) : (W.setCell ⟨N, k, none⟩ z).cell? ⟨N, i, none⟩ = W.cell? ⟨N, i, none⟩ := by
  have hk : ¬ k = i := fun e => h e.symm
  simp only [World.cell?, World.setCell, Array.getElem?_modify, if_true]
  cases W.heap[N]? with
  | none => rfl
  | some o => cases o <;> simp [hk]
theorem keep2 {W : World} {N k i j : Nat} {u v z : Value} (hi : i ≠ k) (hj : j ≠ k) (a : W.cell? ⟨N, i, none⟩ = some u) (b : W.cell? ⟨N, j, none⟩ = some v) :
    (W.setCell ⟨N, k, none⟩ z).cell? ⟨N, i, none⟩ = some u ∧ (W.setCell ⟨N, k, none⟩ z).cell? ⟨N, j, none⟩ = some v :=
  ⟨(cell_set_ne W N k i z hi).trans a, (cell_set_ne W N k j z hj).trans b⟩

/-- What the block's function is handed. -/
structure BIn (w : World) (bh bk bb ob : Nat) (X B : List Int) : Prop where
  h : CW w bh X
  k : CW w bk K0
  b : ∀ i, i < 64 → w.cell? ⟨bb, ob + i, none⟩ = some (.int .u8 (B.getD i 0))
  lenX : X.length = 8
  lenB : B.length = 64
  byte : Byt B
theorem BIn.below {w w' : World} {bh bk bb ob : Nat} {X B : List Int} (h : BIn w bh bk bb ob X B) (hb : Below w.heap.size w w') : BIn w' bh bk bb ob X B :=
  ⟨h.h.below hb (h.h.lt (by rw [h.lenX]; decide)), h.k.below hb (h.k.lt (by decide)), fun i hi => (hb.cell (p := ⟨bb, ob + i, none⟩) (World.block_lt_of_cell? w _ (h.b i hi))).trans (h.b i hi), h.lenX, h.lenB, h.byte⟩

end Go.Proofs.YtkmkmekhodcioaaGreatDoor

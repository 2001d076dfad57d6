/-
  The program's closure that appends a byte of a time.
-/
import Derived.Test.YthghninlfkkahaaPNames
import Derived.Deep.RegionLaw
import Derived.ChangeAlike
namespace Go.Proofs.Ythghninlfkkahaa
open Go.RowKit

/-- append(out, x...) as a step of a region that draws, out the call's own. -/
theorem step_app {ops : Array Oper} {o : Oper} {a : Act} {w : World} {K : Act → World → Prop} {Q : Exit → Act → World → Prop} {E : Prop} (hgd : o.guard = none) (s x : Operand)
    (ho : o.op = .call { callee := .builtin .append, args := #[s, x], argTypes := #[22, 22] })
    (base : Nat) (v : Value) (n : Nat) (xs : List Int) (hs : a.eval s = v) (hown : w.ownsRow base 5 1 v n (bv xs))
    (ad : Addr) (m c : Nat) (ys : List Int) (hx : a.eval x = .slice (some ad) m c) (hsl : Sl w (some ad) m c ys) (hb : n + m ≤ 140737488355328) (hbase : base ≤ w.heap.size)
    (h : ∀ v' w', w'.ownsRow base 5 1 v' (n + m) (bv (xs ++ ys)) → w.grownBy w' v.ownBlock → K (a.put o.dst v') w') :
    if Region.wanted o (yielded ops a.tmps) = true then Oper.wp Try.prog o a w K Q else E := by
  obtain ⟨i0, hi, hz0, hz1, hz2⟩ := info_parts u8info
  have hw : Region.wanted o (yielded ops a.tmps) = true := by simp [Region.wanted, hgd]
  rw [if_pos hw]
  refine wp_append_own w s x 22 ho base 5 i0 (.int .u8 0) 1 1 Try.underlying22 hi hz0 hz1 hz2 rfl (by decide) v n (bv xs) hs hown ad m c (bv ys) hx (by rw [bv_length, hsl.len, Nat.mul_one]) (hsl.cells ad rfl) (bv_one ys) (by unfold maxLen; omega) (by omega) hbase ?_
  intro v' w' h1 h2 _
  rw [← bv_append] at h1
  exact h v' w' h1 h2

set_option maxHeartbeats 4000000 in
set_option maxRecDepth 100000 in
theorem padd_any (w : World) (pb pl base : Nat) (v : Value) (n : Nat) (xs : List Int) (L m : Nat)
    (hb : w.heap[pb]? = some (.cells #[v] 22)) (hl : w.heap[pl]? = some (.cells #[.int .u64 L] 24)) (O : w.ownsRow base 5 1 v n (bv xs)) (hpb : pb < base) (hbase : base ≤ w.heap.size) (hn : n ≤ 1000000) (hm : m ≤ 7) (hxs : Byt xs) (s : Int) (hs : s = 8 * (m : Int)) :
    Calls Try.prog 17 #[.int .i64 s, .pointer (some ⟨pb, 0, none⟩), .pointer (some ⟨pl, 0, none⟩)] w fun e w' =>
      e = .returned (.tuple #[]) ∧ ∃ v', w'.heap[pb]? = some (.cells #[v'] 22) ∧ w'.heap[pl]? = some (.cells #[.int .u64 L] 24) ∧ w'.ownsRow base 5 1 v' (n + 1) (bv (xs ++ [((L / 256 ^ m % 256 : Nat) : Int)])) ∧ Below pb w w' := by
  subst hs
  have q1 : w.cell? ⟨pb, 0, none⟩ = some v := by rw [cell_of_row w pb 0 _ _ _ hb]; rfl
  have q2 : w.cell? ⟨pl, 0, none⟩ = some (.int .u64 L) := by rw [cell_of_row w pl 0 _ _ _ hl]; rfl
  have hlt : pb < w.heap.size := (Array.getElem?_eq_some_iff.1 hb).1
  have hll : pl < w.heap.size := (Array.getElem?_eq_some_iff.1 hl).1
  have n1 : some pb ≠ v.ownBlock := fun e => by have := (O.lt _ e.symm).1; omega
  have n2 : some pl ≠ v.ownBlock := fun e => by
    rcases O.2 with ⟨rfl, _⟩ | ⟨g, cap, cur, rfl, _, hh, _⟩
    · simp [Value.ownBlock] at e
    · simp only [Value.ownBlock, Option.some.injEq] at e
      subst e
      rw [hl] at hh
      simp at hh
  obtain ⟨x, hx⟩ : ∃ x, x = L / 256 ^ m % 256 := ⟨_, rfl⟩
  have hx8 : x < 256 := by rw [hx]; exact Nat.mod_lt _ (by omega)
  obtain ⟨y, hy⟩ : ∃ y, y = IntKind.u8.wrap ((L : Int) / 2 ^ (8 * (m : Int)).toNat) := ⟨_, rfl⟩
  have hxe : Hid (y = (x : Int)) := by
    show _ = _
    rw [hy, hx]
    have h2 : (2 : Nat) ^ (8 * m) = 256 ^ m := by rw [Nat.pow_mul]
    have h3 : (8 * (m : Int)).toNat = 8 * m := by omega
    rw [← h2, h3, IntKind.wrap_u8]
    push_cast
    rfl
  have hy8 : 0 ≤ y ∧ y ≤ 255 := by have := hxe.out; omega
  have hy' := hy.symm
  have hz : (8 * (m : Int)).toNat < 64 := by omega
  clear hy
  rw [← hx]
  clear hx
  have HB : Hid (w.heap[pb]? = some (.cells #[v] 22)) := hb
  have HL : Hid (w.heap[pl]? = some (.cells #[.int .u64 L] 24)) := hl
  have HN1 : Hid (some pb ≠ v.ownBlock) := n1
  have HN2 : Hid (some pl ≠ v.ownBlock) := n2
  clear hb hl n1 n2
  have BX : Byt (xs ++ [y]) := hxs.append (by intro z hz; simp at hz; omega)
  go_enter Try.func17, Try.ntmps17
  go_wp2
  go_region_law (refine step_app rfl (.tmp 4) (.tmp 9) rfl base v n xs rfl (by exact O.alloc _) _ 1 1 [y] rfl (by exact (Sl.one w y hy8).below (Below.refl _ _).drew) (by omega) (by simp; omega) ?_; intro v2 w2 O2 G2; obtain ⟨so, sc, hv2, S2, -⟩ := Sl.own O2 BX; have e2 : w2.heap[pb]? = some (.cells #[v] 22) := (G2.block pb (by simp; omega) HN1.out).trans ((heap_alloc_old w _ hlt).trans HB.out); subst hv2; have c2 := cell_of_row w2 pb 0 _ _ _ e2; have f2 := frozen_of_row w2 pb 0 _ _ e2)
  all_goals
    have e3 : w2.heap[pl]? = some (.cells #[.int .u64 L] 24) := (G2.block pl (by simp; omega) HN2.out).trans ((heap_alloc_old w _ hll).trans HL.out)
    have ne : pl ≠ pb := fun e => by rw [e, e2] at e3; simp at e3
    have z2 := G2.size
    have O3 : (w2.setCell ⟨pb, 0, none⟩ (.slice so (n + 1) sc)).ownsRow base 5 1 (.slice so (n + 1) sc) (n + 1) (bv (xs ++ [(x : Int)])) := by
      rw [← hxe.out]
      refine O2.kept (row := some pb) ⟨rfl, rfl, rfl, by simp, fun k _ hk => heap_setCell_other w2 _ k _ (fun e => hk (by rw [e]))⟩ (.inr fun e => ?_)
      have := (O2.lt _ e).1
      omega
    have B2 : Below pb w (w2.setCell ⟨pb, 0, none⟩ (.slice so (n + 1) sc)) := by
      refine ((((Below.refl pb w).alloc (by omega) _).drew.grown G2 (by simp; omega) (fun k hk => ?_)).setCell ?_ _)
      · have := (O.lt k hk).1
        omega
      · exact Nat.le_refl _
    go_wp2
    go_end0
    refine ⟨rfl, _, ?_, ?_, O3, B2⟩
    · rw [heap_setCell_same w2 pb 0 _ _ _ e2]; rfl
    · rw [heap_setCell_other w2 _ pl _ ne]; exact e3
end Go.Proofs.Ythghninlfkkahaa

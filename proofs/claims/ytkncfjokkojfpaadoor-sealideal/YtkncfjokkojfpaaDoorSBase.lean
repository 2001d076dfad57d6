/-
  The words of the contracts on package seal.
-/
import Derived.Test.YtkncfjokkojfpaaDoorMapF
import Derived.Test.YtkncfjokkojfpaaDoorOfM
import Derived.Test.YtkncfjokkojfpaaDoorMac
import Derived.DeepKeys4
namespace Go.Proofs.YtkncfjokkojfpaaDoor
open Go.RowKit

theorem laidS : laidOutB Tryd.prog = true := by kernel_rfl
theorem k24 : Maps.Keyed Tryd.prog 24 := Maps.int_keyed Tryd.underlying24
theorem k62 : Maps.Keyed Tryd.prog 62 := Maps.Keyed.of_law (deep_law_laid laidS (m := 3) (by omega) (of_decide_eq_true (by kernel_rfl)) (by kernel_rfl) (by kernel_rfl))

/-- A saying: a node, and a digest's bytes. -/
def sv (node : Nat) (ds : List Int) : Value := .agg (.int .u64 node :: bv ds).toArray
theorem sv_inj {n m : Nat} {ds es : List Int} (h : sv n ds = sv m es) : n = m ∧ ds = es := by
  simp only [sv, Value.agg.injEq] at h
  have h1 : (Value.int .u64 (n : Int) :: bv ds) = Value.int .u64 (m : Int) :: bv es := by simpa using congrArg Array.toList h
  rw [List.cons.injEq] at h1
  have h0 := h1.1
  simp only [Value.int.injEq, true_and] at h0
  refine ⟨by omega, ?_⟩
  have h2 := h1.2
  unfold bv at h2
  exact List.map_inj_right (fun a b e => by simpa using e) |>.1 h2

theorem mapM_all {α β : Type} {f : α → Option β} : ∀ l : List α, (∀ x ∈ l, ∃ y, f x = some y) → ∃ ys, l.mapM f = some ys
  | [], _ => ⟨[], rfl⟩
  | x :: l, h => by
    obtain ⟨y, hy⟩ := h x (List.mem_cons_self ..)
    obtain ⟨ys, hys⟩ := mapM_all l (fun z hz => h z (List.mem_cons_of_mem _ hz))
    exact ⟨y :: ys, by simp [List.mapM_cons, hy, hys]⟩

theorem c5 : Tryd.prog.cellsOf 5 = 1 := by kernel_rfl
theorem c24 : Tryd.prog.cellsOf 24 = 1 := by kernel_rfl
theorem c60 : Tryd.prog.cellsOf 60 = 32 := by kernel_rfl
theorem c62 : Tryd.prog.cellsOf 62 = 33 := by kernel_rfl
theorem kt62 : Tryd.prog.keyType 62 = true := by kernel_rfl

theorem lits5 (d : Nat) (x : Int) (h : 0 ≤ x ∧ x ≤ 255) : Tryd.prog.keyLits (d + 1) 5 [.int .u8 x] = some [.int .u8 x] := by
  have hw : (Lit.int .u8 x).wf = true := by simp [Lit.wf, IntKind.min, IntKind.max, IntKind.signed, IntKind.bits]; omega
  simp [Program.keyLits, Tryd.underlying5, hw]
theorem lits24 (d : Nat) (n : Nat) (h : n < 18446744073709551616) : Tryd.prog.keyLits (d + 1) 24 [.int .u64 n] = some [.int .u64 n] := by
  have hw : (Lit.int .u64 n).wf = true := by simp [Lit.wf, IntKind.min, IntKind.max, IntKind.signed, IntKind.bits]; omega
  simp [Program.keyLits, Tryd.underlying24, hw]
theorem lits60 (d : Nat) (ds : List Int) (hl : ds.length = 32) (hb : Byt ds) : ∃ ls, Tryd.prog.keyLits (d + 2) 60 (bv ds) = some ls := by
  have hc : (bv ds).length = 32 := by rw [bv_length, hl]
  obtain ⟨ys, hys⟩ := mapM_all (f := fun i => Tryd.prog.keyLits (d + 1) 5 (((bv ds).drop (i * Tryd.prog.cellsOf 5)).take (Tryd.prog.cellsOf 5))) (List.range 32) (fun i hi => by
    have hi' := List.mem_range.1 hi
    have e : ((bv ds).drop (i * Tryd.prog.cellsOf 5)).take (Tryd.prog.cellsOf 5) = [.int .u8 (ds.getD i 0)] := by
      rw [c5, Nat.mul_one]
      have h1 := bv_get ds i (by omega)
      rw [List.take_one, List.head?_drop, h1]
      rfl
    rw [e]
    exact ⟨_, lits5 d _ (hb.at i)⟩)
  refine ⟨ys.flatten, ?_⟩
  unfold Program.keyLits
  rw [Tryd.underlying60]
  simp only [c60, hc, if_true]
  rw [hys]
  rfl
theorem key62 (node : Nat) (ds : List Int) (hn : node < 18446744073709551616) (hl : ds.length = 32) (hb : Byt ds) : ∃ l, keyOf Tryd.prog 62 (sv node ds) = some l := by
  have hf : (sv node ds).formed Tryd.prog 62 = true := by
    simp [sv, Value.formed, Tryd.underlying62, c62, bv, hl]
  obtain ⟨d, hd⟩ : ∃ d, Tryd.prog.types.size = d + 2 := ⟨Tryd.prog.types.size - 2, by
    have : 2 ≤ Tryd.prog.types.size := of_decide_eq_true (by kernel_rfl)
    omega⟩
  obtain ⟨ls, hls⟩ := lits60 d ds hl hb
  have h24 := lits24 (d + 1) node hn
  have hk : ∃ ls, Tryd.prog.keyLits (d + 3) 62 (.int .u64 node :: bv ds) = some ls := by
    unfold Program.keyLits
    rw [Tryd.underlying62]
    have hc : (Value.int .u64 node :: bv ds).length = 33 := by simp [bv, hl]
    simp only [c62, hc]
    refine ⟨[.int .u64 node] ++ (ls ++ []), ?_⟩
    rw [if_pos ⟨trivial, by kernel_rfl⟩]
    simp only [List.mapM_cons, List.mapM_nil, c24, c60, List.drop_zero, List.drop_succ_cons, List.take_succ_cons, List.take_zero]
    rw [List.take_of_length_le (by rw [bv_length, hl]; omega), h24, hls]
    rfl
  obtain ⟨l2, hl2⟩ := hk
  have e0 : (sv node ds).cells.toList = .int .u64 node :: bv ds := by simp [sv, Value.cells]
  unfold keyOf
  rw [Tryd.underlying62]
  simp only [kt62, hf, Bool.and_self, if_true]
  rw [hd, e0, hl2]
  exact ⟨_, rfl⟩
theorem key24 (node : Nat) (hn : node < 18446744073709551616) : keyOf Tryd.prog 24 (.int .u64 node) = some (.int .u64 node) :=
  Maps.keyOf_int_mk Tryd.underlying24 (by simp [Lit.wf, IntKind.min, IntKind.max, IntKind.signed, IntKind.bits]; omega)

end Go.Proofs.YtkncfjokkojfpaaDoor

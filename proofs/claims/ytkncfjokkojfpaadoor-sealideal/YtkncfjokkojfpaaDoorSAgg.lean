/-
  Values of many cells: sayings built, arrays seen through a slice.
-/
import Derived.Test.YtkncfjokkojfpaaDoorSBook
import Derived.RegionTactic
namespace Go
theorem fold_set (xs : List Value) (off : Nat) : ∀ (k : Nat) (cs : Array Value), off + k + xs.length ≤ cs.size →
    ((xs.zipIdx k).foldl (fun cs (p : Value × Nat) => cs.setIfInBounds (off + p.2) p.1) cs).toList = cs.toList.take (off + k) ++ xs ++ cs.toList.drop (off + k + xs.length) := by
  induction xs with
  | nil => intro k cs _; simp
  | cons x xs ih =>
    intro k cs h
    rw [List.length_cons] at h
    have hs : (cs.setIfInBounds (off + k) x).size = cs.size := by simp
    rw [List.zipIdx_cons, List.foldl_cons, ih (k + 1) _ (by simp only [hs]; omega)]
    simp only [Array.toList_setIfInBounds, List.length_cons]
    have hl : cs.toList.length = cs.size := by simp
    have e1 : off + (k + 1) = off + k + 1 := by omega
    rw [e1]
    have t1 : (cs.toList.set (off + k) x).take (off + k + 1) = cs.toList.take (off + k) ++ [x] := by
      rw [List.take_add_one, List.take_set_of_le (by omega), List.getElem?_set_self (by omega)]
      rfl
    have t2 : (cs.toList.set (off + k) x).drop (off + k + 1 + xs.length) = cs.toList.drop (off + k + (xs.length + 1)) := by
      rw [List.drop_set_of_lt (by omega)]
      congr 1
      omega
    rw [t1, t2]
    simp
theorem fill_step (place : Nat → Option (Nat × Nat)) (cs : Array Value) (i : Nat) (v : Value) (rest : List (Nat × Value)) (off size : Nat) (hp : place i = some (off, size)) (hv : v.cells.size = size) (hs : off + size ≤ cs.size) :
    Instr.fill place cs ((i, v) :: rest) = Instr.fill place (cs.toList.take off ++ v.cells.toList ++ cs.toList.drop (off + size)).toArray rest := by
  have e : (v.cells.zipIdx.foldl (fun cs (p : Value × Nat) => cs.setIfInBounds (off + p.2) p.1) cs) = (cs.toList.take off ++ v.cells.toList ++ cs.toList.drop (off + size)).toArray := by
    apply Array.toList_inj.1
    have := fold_set v.cells.toList off 0 cs (by simp [hv]; omega)
    rw [← Array.foldl_toList, Array.toList_zipIdx, this]
    simp [hv]
  have h1 : ¬ (v.cells.size ≠ size ∨ off + v.cells.size > cs.size) := by omega
  simp only [Instr.fill, hp]
  rw [if_neg (by simpa using h1)]
  exact congrArg (fun z => Instr.fill place z rest) e
end Go

namespace Go.Proofs.YtkncfjokkojfpaaDoor
open Go.RowKit

theorem z62v : (Tryd.prog.info? 62).map (fun i => (i.zero, i.size)) = some (some (.agg (.int .u64 0 :: bv (List.replicate 32 0)).toArray), 33) := by kernel_rfl
theorem a62 : (Tryd.prog.info? 62).map (·.size) = some 33 := by kernel_rfl
theorem g62 (w : World) : (isAgg 62).run Tryd.prog w = .ok true w := by
  simp [isAgg, run_underlying Tryd.underlying62 w]
theorem z60v : (Tryd.prog.info? 60).map (fun i => (i.zero, i.size)) = some (some (.agg (bv (List.replicate 32 0)).toArray), 32) := by kernel_rfl
theorem a60 : (Tryd.prog.info? 60).map (·.size) = some 32 := by kernel_rfl
theorem g60 (w : World) : (isAgg 60).run Tryd.prog w = .ok true w := by
  simp [isAgg, run_underlying Tryd.underlying60 w]

/-- *[32]byte of a slice. -/
theorem run_arrayAt (a : Option Addr) (n cap : Nat) (h : 32 ≤ n) (w : World) : (Instr.arrayAt 60 (.slice a n cap)).run Tryd.prog w = .ok (.pointer a) w := by
  have h' : ¬ n < 32 := by omega
  simp [Instr.arrayAt, run_underlying Tryd.underlying60 w, h', Result.andThen]

theorem run_build62 (w : World) (node : Nat) (ds : List Int) (hl : ds.length = 32) : (Instr.build 62 #[(0, .int .u64 node), (1, .agg (bv ds).toArray)]).run Tryd.prog w = .ok (sv node ds) w := by
  have hz : (zeroValue 62).run Tryd.prog w = .ok (.agg (.int .u64 0 :: bv (List.replicate 32 0)).toArray) w := (zero_of_info z62v).1 w
  have hb : (bv ds).length = 32 := by rw [bv_length, hl]
  have h2 : Instr.fill (fun i => (#[(0, 1), (1, 32)] : Array (Nat × Nat))[i]?) (.int .u64 0 :: bv (List.replicate 32 0)).toArray [(0, .int .u64 node), (1, .agg (bv ds).toArray)] = some (.int .u64 node :: bv ds).toArray := by
    have hs : ((.int .u64 0 :: bv (List.replicate 32 0)).toArray : Array Value).size = 33 := by simp [bv]
    rw [fill_step _ _ 0 _ _ 0 1 rfl rfl (by omega)]
    rw [fill_step _ _ 1 _ _ 1 32 rfl (by simp [Value.cells, hb]) (by simp [Value.cells, bv])]
    simp only [Instr.fill, Option.some.injEq]
    apply Array.toList_inj.1
    simp [Value.cells, bv]
  unfold Instr.build
  simp only [Sem.run_bind, hz, Result.andThen_ok, run_underlying Tryd.underlying62 w]
  have hf : (Array.mapM (fun (f : Field) => do pure (f.offset, ← sizeOf f.type)) (Tryd.prog.fieldsOf 62)).run Tryd.prog w = .ok #[(0, 1), (1, 32)] w := by kernel_rfl
  simp only [Program.fieldsOf, Tryd.underlying62] at hf
  simp only [hf, Result.andThen_ok]
  have e0 : (Value.agg (.int .u64 0 :: bv (List.replicate 32 0)).toArray).cells = (.int .u64 0 :: bv (List.replicate 32 0)).toArray := rfl
  rw [e0, h2]
  rfl

end Go.Proofs.YtkncfjokkojfpaaDoor

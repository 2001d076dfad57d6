/-
  Texts in one: AppL, AppG.
-/
import Derived.Test.YtnbejckdhdbamaaGreatMessageRightQ0
namespace Go.Proofs.YtnbejckdhdbamaaGreat
open Go.RowKit
theorem wpList_append_run {P : Program} {w w' : World} {v v' u : Value} {sl : TypeId} {ops : Array Oper} {rest : List Oper} {o : Oper} {a : Act} {Q : Exit → Act → World → Prop} (hgd : o.guard = none) (s x : Operand)
  (ho : o.op = .call { callee := .builtin .append, args := #[s, x], argTypes := #[sl, sl] }) (hs : a.eval s = v) (hx : a.eval x = u) (hr : (Builtin.append_ #[sl, sl] o.type #[v, u]).run P w = .ok v' w')
  (K : wpList P ops Q rest (a.put o.dst v') w') : wpList P ops Q (o :: rest) a w := by
 refine wpList_plain hgd fun K' hK => ?_
 unfold Oper.wp execOp
 simp only [ho, resolve, invoke, builtin, Sem.run_bind, Sem.run_pure, Result.andThen_ok, List.map_toArray, List.map_cons, List.map_nil, hs, hx, hr]
 exact hK _ _ K
theorem wpList_appG {α : Type} {E : El α} (F : E.Fine) {bytes : Nat} {zv : Value} {t sl : TypeId} (hty : GTy E.sz bytes zv t sl) {w : World} {ops : Array Oper} {rest : List Oper} {o : Oper} {a : Act} {Q : Exit → Act → World → Prop} (hgd : o.guard = none) (s x : Operand)
  (ho : o.op = .call { callee := .builtin .append, args := #[s, x], argTypes := #[sl, sl] }) {base : Nat} {v : Value} {ys : List α} (h : GI E t w base v ys) (hs : a.eval s = v) {ad : Addr} {cp : Nat} (hx : a.eval x = .slice (some ad) 1 cp) {y : α}
  (hG : ∀ j u, (E.c y)[j]? = some u → w.cell? (ad.add j) = some u) (he : E.ok y w) (hf : ∀ x, E.blk y x → v.ownBlock ≠ some x) (hn : (ys.length + 1) * bytes ≤ 140737488355328) (hm : ys.length + 1 ≤ maxLen) (hbase : base ≤ w.heap.size)
  (K : ∀ v' w', GI E t w' base v' (ys ++ [y]) → Below base w w' → wpList Tryz.prog ops Q rest (a.put o.dst v') w') : wpList Tryz.prog ops Q (o :: rest) a w := by
 obtain ⟨v', w', hr, h2, h3, _, _⟩ := h.app F hty o.type hG he hf hn hm hbase
 exact wpList_append_run hgd s x ho hs hx hr (K v' w' h2 h3)
open Go.RowKit
theorem tyS : GTy elS.sz 56 (.agg #[.int .u64 0, .slice none 0 0, .slice none 0 0]) 112 38 := ⟨by kernel_rfl, rfl, Tryz.underlying38⟩
end Go.Proofs.YtnbejckdhdbamaaGreat

/-
  Tag, Check, Said, Forged, Many.
-/
import Derived.Test.YtkncfjokkojfpaaDoorSTag
namespace Go
theorem exec_mapUpdate {P : Program} {a : Act} {w : World} {o : Oper} {t : TypeId} {m x v : Operand} {mv xv vv : Value} {R : World → Prop} (ho : o.op = .mapUpdate t m x v) (hm : a.eval m = mv) (hx : a.eval x = xv) (hv : a.eval v = vv) (hr : ∃ w', (Instr.mapUpdate t mv xv vv).run P w = .ok () w' ∧ R w') :
    ∃ w', (execOp a.eval o).run P w = .ok .skip w' ∧ R w' := by
  obtain ⟨w', h1, h2⟩ := hr
  refine ⟨w', ?_, h2⟩
  unfold execOp
  simp only [ho, hm, hx, hv, h1, Sem.run_bind, Sem.run_pure, Result.andThen_ok]
end Go

namespace Go.Proofs.YtkncfjokkojfpaaDoor
open Go.RowKit

/-- The keys of a book: whom it knows, and their keys, if it is real. -/
def KN (w : World) (real : Bool) (mst : List Int) (kn : Nat → Bool) (KF : Value → Option Value) : Prop :=
  ∀ node, node < 18446744073709551616 → (kn node = false → KF (.int .u64 node) = none) ∧ (kn node = true → ∃ ko n c, KF (.int .u64 node) = some (.slice ko n c) ∧ (real = true → Sl w ko n c (nkL mst node)))
theorem KN.below {w w' : World} {real : Bool} {mst : List Int} {kn : Nat → Bool} {KF : Value → Option Value} (h : KN w real mst kn KF) (hb : Below w.heap.size w w') : KN w' real mst kn KF := by
  intro node hn
  refine ⟨(h node hn).1, fun hk => ?_⟩
  obtain ⟨ko, n, c, h1, h2⟩ := (h node hn).2 hk
  exact ⟨ko, n, c, h1, fun hr => (h2 hr).below hb⟩
theorem KN.grown {w w' : World} {real : Bool} {mst : List Int} {kn : Nat → Bool} {KF : Value → Option Value} {g : Nat} (h : KN w real mst kn KF) (hg : w.grownBy w' (some g)) (hm : ∃ es c, w.heap[g]? = some (.map es c)) : KN w' real mst kn KF := by
  intro node hn
  refine ⟨(h node hn).1, fun hk => ?_⟩
  obtain ⟨ko, n, c, h1, h2⟩ := (h node hn).2 hk
  refine ⟨ko, n, c, h1, fun hr => ?_⟩
  refine (h2 hr).grown hg fun a ha h0 e => ?_
  obtain ⟨es, c2, hm⟩ := hm
  have := (h2 hr).cell a ha 0 h0
  have e0 : a.add 0 = a := by simp [Addr.add]
  rw [e0] at this
  subst e
  simp [World.cell?, hm] at this
theorem KN.isSome {w : World} {real : Bool} {mst : List Int} {kn : Nat → Bool} {KF : Value → Option Value} (h : KN w real mst kn KF) {node : Nat} (hn : node < 18446744073709551616) : (KF (.int .u64 node)).isSome = kn node := by
  cases hk : kn node with
  | false => rw [(h node hn).1 hk]; rfl
  | true => obtain ⟨ko, n, c, h1, _⟩ := (h node hn).2 hk; rw [h1]; rfl

theorem tagOf_any (w : World) (p mk ms : Nat) (real : Bool) (nk ns : Nat) (KF SF : Value → Option Value) (mst : List Int) (kn : Nat → Bool) (node : Nat) (body : List Int) (h : BK w p mk ms real nk ns KF SF) (hK : KN w real mst kn KF) (hT : Tabs w) (hn : node < 18446744073709551616) (hk : kn node = true) :
    Calls Tryd.prog 33 #[.pointer (some ⟨p, 0, none⟩), sv node (dgL real node body)] w fun e w' => e = .returned (.agg (bv (tgL real mst node body)).toArray) ∧ Below w.heap.size w w' := by
  cases real with
  | false => exact tagOf_ideal w p mk ms nk ns KF SF node _ h (dgL_len _ _ _)
  | true =>
    obtain ⟨ko, n, c, h1, h2⟩ := (hK node hn).2 hk
    exact tagOf_real w p mk ms nk ns KF SF node _ ko n c _ h hT hn (dgL_len _ _ _) (dgL_byte _ _ _) h1 (h2 rfl)

/-- What was said is marked so. -/
def SU (SF : Value → Option Value) : Prop := ∀ v u, SF v = some u → u = .agg #[]

theorem tag_nil (w : World) (node : Nat) (v : Value) : Calls Tryd.prog 16 #[.pointer none, .int .u64 node, v] w fun e w' => e = .returned (.tuple #[.slice none 0 0, .int .i64 17]) ∧ w' = w := by
  go_enter Tryd.func16, Tryd.ntmps16
  go_wp2
  go_ret2
  exact ⟨rfl, rfl⟩
theorem check_nil (w : World) (node : Nat) (v u : Value) : Calls Tryd.prog 20 #[.pointer none, .int .u64 node, v, u] w fun e w' => e = .returned (.bool false) ∧ w' = w := by
  go_enter Tryd.func20, Tryd.ntmps20
  go_wp2
  go_ret
  exact ⟨rfl, rfl⟩
theorem said_nil (w : World) (node : Nat) (v : Value) : Calls Tryd.prog 21 #[.pointer none, .int .u64 node, v] w fun e w' => e = .returned (.bool false) ∧ w' = w := by
  go_enter Tryd.func21, Tryd.ntmps21
  go_wp2
  go_ret
  exact ⟨rfl, rfl⟩
theorem forged_nil (w : World) (node : Nat) (v u : Value) : Calls Tryd.prog 22 #[.pointer none, .int .u64 node, v, u] w fun e w' => e = .returned (.bool false) ∧ w' = w := by
  go_enter Tryd.func22, Tryd.ntmps22
  go_wp2_with (go_at_call 20; refine (check_nil w node v u).mono ?_; rintro e w' ⟨rfl, rfl⟩)
  go_ret
  exact ⟨rfl, rfl⟩
theorem many_nil (w : World) : Calls Tryd.prog 23 #[.pointer none] w fun e w' => e = .returned (.int .i64 0) ∧ w' = w := by
  go_enter Tryd.func23, Tryd.ntmps23
  go_wp2
  go_ret
  exact ⟨rfl, rfl⟩
theorem many_any (w : World) (p mk ms : Nat) (real : Bool) (nk ns : Nat) (KF SF : Value → Option Value) (h : BK w p mk ms real nk ns KF SF) : Calls Tryd.prog 23 #[.pointer (some ⟨p, 0, none⟩)] w fun e w' => e = .returned (.int .i64 ns) ∧ w' = w := by
  have c2 := h.c2
  have hlen := h.said.len Tryd.underlying54 3
  go_enter Tryd.func23, Tryd.ntmps23
  go_wp2
  go_ret
  exact ⟨rfl, rfl⟩

set_option maxRecDepth 100000 in
set_option maxHeartbeats 1000000 in
theorem said_any (w : World) (p mk ms : Nat) (real : Bool) (nk ns : Nat) (KF SF : Value → Option Value) (node : Nat) (bo : Option Addr) (bn bc : Nat) (body : List Int) (h : BK w p mk ms real nk ns KF SF) (hT : Tabs w) (hn : node < 18446744073709551616) (hB : Sl w bo bn bc body) (hb : bn ≤ 1000000) (hu : SU SF) :
    Calls Tryd.prog 21 #[.pointer (some ⟨p, 0, none⟩), .int .u64 node, .slice bo bn bc] w fun e w' => e = .returned (.bool (SF (sv node (dgL real node body))).isSome) ∧ Below w.heap.size w w' := by
  go_enter Tryd.func21, Tryd.ntmps21
  go_wp2_with (first
    | (go_at_call 32; refine (sayingOf_any w p mk ms real nk ns KF SF node bo bn bc body h hT hn hB hb).mono ?_; rintro e w1 ⟨rfl, B1⟩)
    | (go_at_call 36; refine (has_any w1 p mk ms real nk ns KF SF node _ (h.below B1) hn (dgL_len _ _ _) (dgL_byte _ _ _) hu).mono ?_; rintro e w2 ⟨rfl, B2⟩))
  go_ret
  exact ⟨rfl, B1.trans (B2.mono B1.size)⟩

end Go.Proofs.YtkncfjokkojfpaaDoor

/-
  The reference's Requests.
-/
import Derived.Test.YtbfcilfdeemnpaaRSame
import Derived.Test.YtbfcilfdeemnpaaPReq
namespace Go.Proofs.Ytbfcilfdeemnpaa
open Go.RowKit

set_option maxRecDepth 100000 in
set_option maxHeartbeats 4000000 in
theorem rreqs_any (d : Nat) (w : World) (c1 t1 c2 t2 : Nat) (x y : OD d) (hx : OW w d x) (hy : OW w d y) (lx : lightD d x = true) (ly : lightD d y = true) :
    Calls Try.prog 23 #[qVal c1 t1 (topD d x), qVal c2 t2 (topD d y)] w fun e w' => e = .returned (.bool (decide (c1 = c2) && (decide (t1 = t2) && sameD d x y))) ∧ Below w.heap.size w w' := by
  obtain ⟨a, ha⟩ : ∃ a, a = topD d x := ⟨_, rfl⟩
  obtain ⟨b, hb⟩ : ∃ b, b = topD d y := ⟨_, rfl⟩
  have B : Below w.heap.size w ((w.alloc (Obj.cells #[.int .u64 c1, .int .u64 t1, .int .i64 a.kind, .string a.row, .string a.fam, .string a.qual, .int .u64 a.time, .string a.to, .slice a.va.ao a.va.n a.va.cap, .slice a.wa.ao a.wa.n a.wa.cap, .bool a.has, .slice a.so a.sn a.sc] 30)).alloc (Obj.cells #[.int .u64 c2, .int .u64 t2, .int .i64 b.kind, .string b.row, .string b.fam, .string b.qual, .int .u64 b.time, .string b.to, .slice b.va.ao b.va.n b.va.cap, .slice b.wa.ao b.wa.n b.wa.cap, .bool b.has, .slice b.so b.sn b.sc] 30)) := ((Below.refl _ w).alloc (Nat.le_refl _) _).alloc (by simp) _
  have CR := rsame6 d ((w.alloc (Obj.cells #[.int .u64 c1, .int .u64 t1, .int .i64 a.kind, .string a.row, .string a.fam, .string a.qual, .int .u64 a.time, .string a.to, .slice a.va.ao a.va.n a.va.cap, .slice a.wa.ao a.wa.n a.wa.cap, .bool a.has, .slice a.so a.sn a.sc] 30)).alloc (Obj.cells #[.int .u64 c2, .int .u64 t2, .int .i64 b.kind, .string b.row, .string b.fam, .string b.qual, .int .u64 b.time, .string b.to, .slice b.va.ao b.va.n b.va.cap, .slice b.wa.ao b.wa.n b.wa.cap, .bool b.has, .slice b.so b.sn b.sc] 30)) x y (hx.below B) (hy.below B) lx ly
  rw [← ha, ← hb] at CR ⊢
  clear hx hy lx ly ha hb
  rw [show qVal c1 t1 a = .agg #[.int .u64 c1, .int .u64 t1, .int .i64 a.kind, .string a.row, .string a.fam, .string a.qual, .int .u64 a.time, .string a.to, .slice a.va.ao a.va.n a.va.cap, .slice a.wa.ao a.wa.n a.wa.cap, .bool a.has, .slice a.so a.sn a.sc] from rfl, show qVal c2 t2 b = .agg #[.int .u64 c2, .int .u64 t2, .int .i64 b.kind, .string b.row, .string b.fam, .string b.qual, .int .u64 b.time, .string b.to, .slice b.va.ao b.va.n b.va.cap, .slice b.wa.ao b.wa.n b.wa.cap, .bool b.has, .slice b.so b.sn b.sc] from rfl]
  unfold OA.val at CR
  by_cases z1 : c1 = c2
  case neg =>
    have i1 : ((c1 : Int) == (c2 : Int)) = false := by simp; omega
    have hv : Hid ((decide (c1 = c2) && (decide (t1 = t2) && sameD d x y)) = false) := by show _ = _; simp [z1]
    clear CR z1
    go_enter Try.func23, Try.ntmps23
    go_wp2
    go_ret
    exact ⟨by rw [hv.out] <;> rfl, B⟩
  by_cases z2 : t1 = t2
  case neg =>
    have i1 : ((c1 : Int) == (c2 : Int)) = true := by simp; omega
    have i2 : ((t1 : Int) == (t2 : Int)) = false := by simp; omega
    have hv : Hid ((decide (c1 = c2) && (decide (t1 = t2) && sameD d x y)) = false) := by show _ = _; simp [z2]
    clear CR z1 z2
    go_enter Try.func23, Try.ntmps23
    go_wp2
    go_ret
    exact ⟨by rw [hv.out] <;> rfl, B⟩
  have i1 : ((c1 : Int) == (c2 : Int)) = true := by simp; omega
  have i2 : ((t1 : Int) == (t2 : Int)) = true := by simp; omega
  have hv : Hid ((decide (c1 = c2) && (decide (t1 = t2) && sameD d x y)) = sameD d x y) := by show _ = _; simp [z1, z2]
  clear z1 z2
  go_enter Try.func23, Try.ntmps23
  go_wp2_with (go_at_call 22; refine CR.mono ?_; rintro e w2 ⟨rfl, C⟩; have D := B.trans (C.mono B.size))
  go_ret
  exact ⟨by rw [hv.out] <;> rfl, D⟩
end Go.Proofs.Ytbfcilfdeemnpaa

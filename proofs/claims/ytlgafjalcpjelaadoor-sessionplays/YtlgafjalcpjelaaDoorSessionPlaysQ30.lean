/-
  Texts in one: ROf.
-/
import Derived.Test.YtlgafjalcpjelaaDoorSessionPlaysQ25
import Derived.Test.YtlgafjalcpjelaaDoorSessionPlaysQ29
namespace Go.Proofs.YtlgafjalcpjelaaDoor
open Go.RowKit
set_option maxRecDepth 100000 in
set_option maxHeartbeats 1000000 in
theorem rof_any (w : World) (s : ByteArray) (ao : Option Addr) (n cap : Nat) (ps : List Part) (hP : PL w ao n cap ps) (hs : s.size ≤ 1000000) (hn : n ≤ 1000000) (hq : ∀ q ∈ ps, q.n ≤ 1000000) (hL : (formL (sb s) (pxs ps)).length ≤ 100000) :
    Calls Tryd.prog 37 #[.string s, .slice ao n cap] w fun e w' => ∃ v, e = .returned v ∧ w'.ownsRow w.heap.size 5 1 v 32 (bv (sumL (formL (sb s) (pxs ps)))) ∧ Below w.heap.size w w' := by
  have hl := hP.len
  have fb := formL_byte s ps hs (by omega) (fun q hq' => ⟨(hP.sl q hq').byte, by rw [(hP.sl q hq').len]; exact hq q hq'⟩)
  go_enter Tryd.func37, Tryd.ntmps37
  go_wp2_with (go_at_call 53; refine (rform_any w s ao n cap ps hP hs hn hq).mono ?_; rintro e w1 ⟨v1, rfl, own1, B1⟩; obtain ⟨fo, fc, rfl, S1, -⟩ := Sl.own own1 fb; have s1 := B1.size; clear own1)
  refine (rsum_any w1 fo _ fc _ S1 hL).mono ?_
  rintro e w2 ⟨v2, rfl, own2, C2⟩
  have B2 : Below w.heap.size w w2 := B1.trans (C2.mono s1)
  go_wp2
  go_ret
  exact ⟨_, rfl, own_base own2 s1, B2⟩
end Go.Proofs.YtlgafjalcpjelaaDoor

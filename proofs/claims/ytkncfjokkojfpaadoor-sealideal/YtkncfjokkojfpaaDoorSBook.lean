/-
  A book in memory; Key, knows, sayingOf.
-/
import Derived.Test.YtkncfjokkojfpaaDoorSBase
import Derived.Test.YtkncfjokkojfpaaDoorApp2
namespace Go.Proofs.YtkncfjokkojfpaaDoor
open Go.RowKit

/-- The book at block p: is it real; its keys in block mk, what was said in block ms. -/
structure BK (w : World) (p mk ms : Nat) (real : Bool) (nk ns : Nat) (KF SF : Value → Option Value) : Prop where
  heap : w.heap[p]? = some (.cells #[.bool real, .map (some mk), .map (some ms)] 56)
  keys : MF w 24 mk nk KF
  said : MF w 62 ms ns SF
  ne : mk ≠ ms

theorem BK.lt {w : World} {p mk ms : Nat} {real : Bool} {nk ns : Nat} {KF SF : Value → Option Value} (h : BK w p mk ms real nk ns KF SF) : p < w.heap.size := (Array.getElem?_eq_some_iff.1 h.heap).1
theorem BK.below {w w' : World} {p mk ms : Nat} {real : Bool} {nk ns : Nat} {KF SF : Value → Option Value} (h : BK w p mk ms real nk ns KF SF) (hb : Below w.heap.size w w') : BK w' p mk ms real nk ns KF SF :=
  ⟨(hb.block p h.lt).trans h.heap, h.keys.below hb h.keys.lt, h.said.below hb h.said.lt, h.ne⟩
theorem BK.ofHeap {w w' : World} {p mk ms : Nat} {real : Bool} {nk ns : Nat} {KF SF : Value → Option Value} (h : BK w p mk ms real nk ns KF SF) (e : w'.heap = w.heap) : BK w' p mk ms real nk ns KF SF :=
  ⟨by rw [e]; exact h.heap, h.keys.ofHeap e, h.said.ofHeap e, h.ne⟩
theorem BK.c0 {w : World} {p mk ms : Nat} {real : Bool} {nk ns : Nat} {KF SF : Value → Option Value} (h : BK w p mk ms real nk ns KF SF) : w.cell? ⟨p, 0, none⟩ = some (.bool real) := by rw [cell_of_row w p 0 _ _ _ h.heap]; rfl
theorem BK.c1 {w : World} {p mk ms : Nat} {real : Bool} {nk ns : Nat} {KF SF : Value → Option Value} (h : BK w p mk ms real nk ns KF SF) : w.cell? ⟨p, 1, none⟩ = some (.map (some mk)) := by rw [cell_of_row w p 1 _ _ _ h.heap]; rfl
theorem BK.c2 {w : World} {p mk ms : Nat} {real : Bool} {nk ns : Nat} {KF SF : Value → Option Value} (h : BK w p mk ms real nk ns KF SF) : w.cell? ⟨p, 2, none⟩ = some (.map (some ms)) := by rw [cell_of_row w p 2 _ _ _ h.heap]; rfl
theorem BK.pms {w : World} {p mk ms : Nat} {real : Bool} {nk ns : Nat} {KF SF : Value → Option Value} (h : BK w p mk ms real nk ns KF SF) : p ≠ ms := by
  rintro rfl
  obtain ⟨D, ⟨es, clock, hb, _⟩, _⟩ := h.said
  have := h.heap
  rw [hb] at this
  cases this

/-- Parts that lie in a new block. -/
theorem PL.two (w : World) (a b : Part) (ha : Sl w a.ao a.n a.cap a.xs) (hb : Sl w b.ao b.n b.cap b.xs) (t : TypeId) : PL (w.alloc (.cells #[a.val, b.val] t)) (some ⟨w.heap.size, 0, none⟩) 2 2 [a, b] := by
  have hP := Pts.new w [a, b] t (by
    intro q hq
    simp only [List.mem_cons, List.not_mem_nil, or_false] at hq
    rcases hq with rfl | rfl
    · exact ha
    · exact hb)
  refine ⟨rfl, Nat.le_refl _, by decide, fun h => by simp at h, fun x hx i hi => ?_, fun q hq => ?_⟩
  · obtain rfl := Option.some.inj hx
    exact (hP i hi).1
  · obtain ⟨i, hi, rfl⟩ := List.mem_iff_getElem.1 hq
    exact (hP i hi).2

/-- The strings of the chapter, as bytes. -/
def wKey : ByteArray := ⟨#[107, 101, 121]⟩
def wIdeal : ByteArray := ⟨#[105, 100, 101, 97, 108]⟩
def wSaid : ByteArray := ⟨#[115, 97, 105, 100]⟩
/-- A node's key, the digest of a saying, a tag. -/
def nkL (mst : List Int) (node : Nat) : List Int := sumL (formL (sb wKey) [mst, enc node])
def wdL (real : Bool) : ByteArray := if real then wSaid else wIdeal
def dgL (real : Bool) (node : Nat) (body : List Int) : List Int := sumL (formL (sb (wdL real)) [enc node, body])
def tgL (real : Bool) (mst : List Int) (node : Nat) (body : List Int) : List Int := if real then macL (nkL mst node) (dgL real node body) else dgL real node body
theorem dgL_len (real : Bool) (node : Nat) (body : List Int) : (dgL real node body).length = 32 := sumL_len _
theorem dgL_byte (real : Bool) (node : Nat) (body : List Int) : Byt (dgL real node body) := sumL_byte _
theorem tgL_len (real : Bool) (mst : List Int) (node : Nat) (body : List Int) : (tgL real mst node body).length = 32 := by
  unfold tgL macL
  split
  · exact sumL_len _
  · exact sumL_len _
theorem tgL_byte (real : Bool) (mst : List Int) (node : Nat) (body : List Int) : Byt (tgL real mst node body) := by
  unfold tgL macL
  split
  · exact sumL_byte _
  · exact sumL_byte _

set_option maxRecDepth 100000 in
set_option maxHeartbeats 1000000 in
theorem skey_any (w : World) (mo : Option Addr) (mn mc : Nat) (mst : List Int) (node : Nat) (hT : Tabs w) (hM : Sl w mo mn mc mst) (hm : mn ≤ 1000000) (hn : node < 18446744073709551616) :
    Calls Tryd.prog 13 #[.slice mo mn mc, .int .u64 node] w fun e w' => ∃ v, e = .returned v ∧ w'.ownsRow w.heap.size 5 1 v 32 (bv (nkL mst node)) ∧ Below w.heap.size w w' := by
  have h2 := hT.two
  have en := enc_length hn
  go_enter Tryd.func13, Tryd.ntmps13
  go_wp2_with (go_at_call 28; refine (wUint_any w none 0 0 node [] (Sl.nothing w) (by omega) hn).mono ?_; rintro e w1 ⟨v1, rfl, own1, B1⟩; simp only [List.nil_append, Nat.zero_add] at own1; obtain ⟨uo, uc, rfl, S1, -⟩ := Sl.own own1 (enc_byte hn); have s1 := B1.size; have M1 := hM.below B1; clear own1)
  have B2 : Below w.heap.size w (w1.alloc (.cells #[.slice mo mn mc, .slice uo (enc node).length uc] 22)) := B1.alloc s1 _
  have P2 : PL (w1.alloc (.cells #[.slice mo mn mc, .slice uo (enc node).length uc] 22)) (some ⟨w1.heap.size, 0, none⟩) 2 2 [⟨mo, mn, mc, mst⟩, ⟨uo, (enc node).length, uc, enc node⟩] := PL.two w1 ⟨mo, mn, mc, mst⟩ ⟨uo, (enc node).length, uc, enc node⟩ M1 S1 22
  have s2 := B2.size
  refine (of_any _ wKey _ 2 2 _ P2 (hT.below B2 h2) (by decide) (by omega) (by intro q hq; simp only [List.mem_cons, List.not_mem_nil, or_false] at hq; rcases hq with rfl | rfl <;> simp only <;> omega)).mono ?_
  rintro e w3 ⟨v3, rfl, own3, C3⟩
  have B3 : Below w.heap.size w w3 := B2.trans (C3.mono s2)
  go_wp2
  go_ret
  exact ⟨_, rfl, own_base own3 s2, B3⟩

theorem z22 (w : World) : (zeroValue 22).run Tryd.prog w = .ok (.slice none 0 0) w := by kernel_rfl
theorem z64 (w : World) : (zeroValue 64).run Tryd.prog w = .ok (.agg #[]) w := by kernel_rfl

set_option maxHeartbeats 1000000 in
theorem knows_any (w : World) (p mk ms : Nat) (real : Bool) (nk ns : Nat) (KF SF : Value → Option Value) (node : Nat) (h : BK w p mk ms real nk ns KF SF) (hn : node < 18446744073709551616) :
    Calls Tryd.prog 31 #[.pointer (some ⟨p, 0, none⟩), .int .u64 node] w fun e w' => e = .returned (.bool (KF (.int .u64 node)).isSome) ∧ w' = w := by
  have c1 := h.c1
  have hl := h.keys.look k24 Tryd.underlying53 (z22 w) (key24 node hn)
  go_enter Tryd.func31, Tryd.ntmps31
  go_wp2
  go_ret
  exact ⟨rfl, rfl⟩

end Go.Proofs.YtkncfjokkojfpaaDoor

/-
  Texts in one: RForm, RTurn, RBlock, RBlockW, RTabs, RPad, App2, RSum, ROf, RLevel7, RShape7, RForm7.
-/
import Derived.Test.YtnicnfjickknjaaDoorTreePlaysZ1
import Derived.Test.YtnicnfjickknjaaDoorTreePlaysZ5
import Derived.Test.YtnicnfjickknjaaDoorTreePlaysZ0
import Derived.Deep.RegionHeld3
import Derived.Deep.RegionLaw
import Derived.RangeFuncLeaves
import Derived.Shelf.Abstract
import Derived.RangeFuncBox
import Derived.Deep.AppendLies
import Derived.Test.YtnicnfjickknjaaDoorTreePlaysZ3
import Derived.Test.YtnicnfjickknjaaDoorTreePlaysZ4
namespace Go.Proofs.YtnicnfjickknjaaDoor
open Go.RowKit

theorem formL_byte (s : ByteArray) (ps : List Part) (hs : s.size ≤ 1000000) (hn : ps.length ≤ 1000000) (h : ∀ q ∈ ps, Byt q.xs ∧ q.xs.length ≤ 1000000) : Byt (formL (sb s) (pxs ps)) := by
  unfold formL
  rw [sb_len, pxs_len]
  refine ((Byt.append (enc_byte (by omega)) (sb_byte s)).append (enc_byte (by omega))).append (fmP_byte _ fun x hx => ?_)
  obtain ⟨q, hq, rfl⟩ := List.mem_map.1 hx
  exact ⟨(h q hq).1, by have := (h q hq).2; omega⟩

set_option maxRecDepth 100000 in
set_option maxHeartbeats 4000000 in
theorem rform_any (w : World) (s : ByteArray) (ao : Option Addr) (n cap : Nat) (ps : List Part) (hP : PL w ao n cap ps) (hs : s.size ≤ 1000000) (hn : n ≤ 1000000) (hq : ∀ q ∈ ps, q.n ≤ 1000000) :
    Calls Tryd.prog 75 #[.string s, .slice ao n cap] w fun e w' => ∃ v, e = .returned v ∧ w'.ownsRow w.heap.size 5 1 v (formL (sb s) (pxs ps)).length (bv (formL (sb s) (pxs ps))) ∧ Below w.heap.size w w' := by
  have hl := hP.len
  have hni : (n : Int) ≤ 1000000 := by omega
  have hsl := sb_len s
  have es := enc_length (n := s.size) (by omega)
  have en := enc_length (n := n) (by omega)
  have hby : Byt (formL (sb s) (pxs ps)) := formL_byte s ps hs (by omega) (fun q hq' => ⟨(hP.sl q hq').byte, by rw [(hP.sl q hq').len]; exact hq q hq'⟩)
  go_enter Tryd.func75, Tryd.ntmps75
  go_wp2_with (first
    | (refine wpList_conv_bytes rfl (.tmp 7) rfl s rfl (by omega) ?_; intro g2 c2 w2 hg2 S2 B2; have s2 := B2.size; clear hg2)
    | (go_at_call 60; refine (rBytes_any w2 none _ 0 0 s.size c2 [] _ (Sl.nothing w2) S2 (by omega)).mono ?_; rintro e w3 ⟨v3, rfl, own3, C3⟩; simp only [List.nil_append, Nat.zero_add] at own3; obtain ⟨fo, fc, rfl, S3, -⟩ := Sl.own own3 (Byt.append (enc_byte (by omega)) (sb_byte s)); have B3 : Below w.heap.size w w3 := B2.trans (C3.mono (by omega)); have s3 := C3.size; clear C3 own3 S2 B2)
    | (go_at_call 59; refine (rUint_any w3 fo _ fc n _ S3 (by omega) (by omega)).mono ?_; rintro e w4 ⟨v4, rfl, own4, C4⟩; have B4 : Below w.heap.size w w4 := B3.trans (C4.mono (by omega)); have s4 := C4.size; clear C4 S3 B3))
  obtain ⟨F, hF⟩ : ∃ F, F = enc s.size ++ sb s ++ enc n := ⟨_, rfl⟩
  have hFl : F.length = (enc s.size).length + s.size + (enc n).length := by rw [hF]; simp [hsl]; omega
  have hFb : Byt F := by rw [hF]; exact (Byt.append (enc_byte (by omega)) (sb_byte s)).append (enc_byte (by omega))
  have HF : Hid (formL (sb s) (pxs ps) = F ++ fmP (pxs ps)) := by
    show _ = _
    rw [hF, formL, hsl, pxs_len, hl]
  rw [← hF, ← hFl] at own4
  have own4' := own_base own4 (base' := w.heap.size) (by omega)
  clear hF hsl own4
  go_wp2_with fail
  go_loopw [5, 6] (fun v i wr => ∃ k : Nat, k ≤ n ∧ i = .int .i64 k ∧ Below w.heap.size w wr ∧ wr.ownsRow w.heap.size 5 1 v (F ++ fmP (pxs (ps.take k))).length (bv (F ++ fmP (pxs (ps.take k))))) (fun _ i _ => n - (intOf i).toNat)
  case atStart => exact ⟨0, by omega, rfl, B4, by simpa [pxs, fmP] using own4'⟩
  case round =>
    clear own4' B4
    obtain ⟨k, hk, rfl, B7, own7⟩ := hrel
    have t7 := B7.size
    by_cases hlt : k < n
    · have hki : (k : Int) < (n : Int) := by omega
      have hkl : k < ps.length := by omega
      obtain ⟨ab, aof, rfl, hc⟩ := (hP.below B7).at (by omega)
      have c1 := hc k hkl
      have S1 := (hP.below B7).sl ps[k] (List.getElem_mem hkl)
      have HX : Hid (fmP (pxs (ps.take (k + 1))) = fmP (pxs (ps.take k)) ++ (enc ps[k].n ++ ps[k].xs)) := by
        show _ = _
        rw [pxs_take ps k hkl, fmP_snoc, S1.len]
      have hqn := hq ps[k] (List.getElem_mem hkl)
      have hFM : (fmP (pxs (ps.take k))).length ≤ k * (1000000 + 10) := by
        refine Nat.le_trans (fmP_le _ 1000000 (by omega) (fun x hx => ?_)) ?_
        · obtain ⟨q, hq', rfl⟩ := List.mem_map.1 hx
          rw [(hP.sl q (List.mem_of_mem_take hq')).len]
          exact hq q (List.mem_of_mem_take hq')
        · rw [pxs_len, List.length_take]
          exact Nat.mul_le_mul_right _ (by omega)
      have hFb7 : Byt (F ++ fmP (pxs (ps.take k))) := hFb.append (fmP_byte _ fun x hx => by
        obtain ⟨q, hq', rfl⟩ := List.mem_map.1 hx
        have := hP.sl q (List.mem_of_mem_take hq')
        exact ⟨this.byte, by have := this.len; have := hq q (List.mem_of_mem_take hq'); omega⟩)
      obtain ⟨q, hqe⟩ : ∃ q, q = ps[k] := ⟨_, rfl⟩
      rw [← hqe] at c1 S1 HX hqn
      clear hqe hc
      have hql := S1.len
      have eq := enc_length (n := q.n) (by omega)
      have hGl : (F ++ fmP (pxs (ps.take k))).length ≤ 2000000 * 1000010 := by simp; omega
      obtain ⟨G, hG⟩ : ∃ G, G = F ++ fmP (pxs (ps.take k)) := ⟨_, rfl⟩
      rw [← hG] at own7 hFb7 hGl
      have HG : Hid (G = F ++ fmP (pxs (ps.take k))) := hG
      clear hG
      unfold Part.val at c1
      obtain ⟨fo, fc, rfl, S7, -⟩ := Sl.own own7 hFb7
      go_wp2_with (go_at_call 60; refine (rBytes_any wr fo q.ao G.length fc q.n q.cap G q.xs S7 S1 (by omega)).mono ?_; rintro e w8 ⟨v8, rfl, own8, C8⟩; have B8 : Below w.heap.size w w8 := B7.trans (C8.mono (by omega)); clear C8 own7 S7 S1)
      go_roundw
      case rel =>
        refine ⟨k + 1, by omega, by go_num, B8, ?_⟩
        rw [HX.out, ← List.append_assoc F, ← HG.out]
        have el : (G ++ (enc q.n ++ q.xs)).length = G.length + (enc q.n).length + q.n := by simp [hql]; omega
        rw [el, ← List.append_assoc]
        exact own_base own8 t7
      case measure => simp [intOf]; omega
    · have hge : (n : Int) ≤ (k : Int) := by omega
      have e : ps.take k = ps := List.take_of_length_le (by omega)
      rw [e] at own7
      clear e
      go_wp2_with fail
      go_ret
      refine ⟨_, rfl, ?_, B7⟩
      rw [HF.out]
      exact own7

end Go.Proofs.YtnicnfjickknjaaDoor

namespace Go.Proofs.YtnicnfjickknjaaDoor
open Go.RowKit

theorem bor_comm (x y : Int) : bits .or .u32 x y = bits .or .u32 y x := by
  show IntKind.u32.wrap _ = IntKind.u32.wrap _
  rw [BitVec.or_comm]

set_option maxRecDepth 100000 in
set_option maxHeartbeats 1000000 in
theorem turn_2 (x : Int) (w : World) :
    Calls Tryd.prog 62 #[.int .u32 x, .int .u64 2] w fun e w' => e = .returned (.int .u32 (rl (-2) x)) ∧ w' = w := by
  go_enter Tryd.func62, Tryd.ntmps62
  go_wp2
  go_ret
  refine ⟨?_, rfl⟩
  show _ = Ending.returned (Value.int .u32 (bits .or .u32 (IntKind.u32.wrap (x * 2 ^ 30)) (x / 2 ^ 2)))
  rw [bor_comm]
  rfl

set_option maxRecDepth 100000 in
set_option maxHeartbeats 1000000 in
theorem turn_6 (x : Int) (w : World) :
    Calls Tryd.prog 62 #[.int .u32 x, .int .u64 6] w fun e w' => e = .returned (.int .u32 (rl (-6) x)) ∧ w' = w := by
  go_enter Tryd.func62, Tryd.ntmps62
  go_wp2
  go_ret
  refine ⟨?_, rfl⟩
  show _ = Ending.returned (Value.int .u32 (bits .or .u32 (IntKind.u32.wrap (x * 2 ^ 26)) (x / 2 ^ 6)))
  rw [bor_comm]
  rfl

set_option maxRecDepth 100000 in
set_option maxHeartbeats 1000000 in
theorem turn_7 (x : Int) (w : World) :
    Calls Tryd.prog 62 #[.int .u32 x, .int .u64 7] w fun e w' => e = .returned (.int .u32 (rl (-7) x)) ∧ w' = w := by
  go_enter Tryd.func62, Tryd.ntmps62
  go_wp2
  go_ret
  refine ⟨?_, rfl⟩
  show _ = Ending.returned (Value.int .u32 (bits .or .u32 (IntKind.u32.wrap (x * 2 ^ 25)) (x / 2 ^ 7)))
  rw [bor_comm]
  rfl

set_option maxRecDepth 100000 in
set_option maxHeartbeats 1000000 in
theorem turn_11 (x : Int) (w : World) :
    Calls Tryd.prog 62 #[.int .u32 x, .int .u64 11] w fun e w' => e = .returned (.int .u32 (rl (-11) x)) ∧ w' = w := by
  go_enter Tryd.func62, Tryd.ntmps62
  go_wp2
  go_ret
  refine ⟨?_, rfl⟩
  show _ = Ending.returned (Value.int .u32 (bits .or .u32 (IntKind.u32.wrap (x * 2 ^ 21)) (x / 2 ^ 11)))
  rw [bor_comm]
  rfl

set_option maxRecDepth 100000 in
set_option maxHeartbeats 1000000 in
theorem turn_13 (x : Int) (w : World) :
    Calls Tryd.prog 62 #[.int .u32 x, .int .u64 13] w fun e w' => e = .returned (.int .u32 (rl (-13) x)) ∧ w' = w := by
  go_enter Tryd.func62, Tryd.ntmps62
  go_wp2
  go_ret
  refine ⟨?_, rfl⟩
  show _ = Ending.returned (Value.int .u32 (bits .or .u32 (IntKind.u32.wrap (x * 2 ^ 19)) (x / 2 ^ 13)))
  rw [bor_comm]
  rfl

set_option maxRecDepth 100000 in
set_option maxHeartbeats 1000000 in
theorem turn_17 (x : Int) (w : World) :
    Calls Tryd.prog 62 #[.int .u32 x, .int .u64 17] w fun e w' => e = .returned (.int .u32 (rl (-17) x)) ∧ w' = w := by
  go_enter Tryd.func62, Tryd.ntmps62
  go_wp2
  go_ret
  refine ⟨?_, rfl⟩
  show _ = Ending.returned (Value.int .u32 (bits .or .u32 (IntKind.u32.wrap (x * 2 ^ 15)) (x / 2 ^ 17)))
  rw [bor_comm]
  rfl

set_option maxRecDepth 100000 in
set_option maxHeartbeats 1000000 in
theorem turn_18 (x : Int) (w : World) :
    Calls Tryd.prog 62 #[.int .u32 x, .int .u64 18] w fun e w' => e = .returned (.int .u32 (rl (-18) x)) ∧ w' = w := by
  go_enter Tryd.func62, Tryd.ntmps62
  go_wp2
  go_ret
  refine ⟨?_, rfl⟩
  show _ = Ending.returned (Value.int .u32 (bits .or .u32 (IntKind.u32.wrap (x * 2 ^ 14)) (x / 2 ^ 18)))
  rw [bor_comm]
  rfl

set_option maxRecDepth 100000 in
set_option maxHeartbeats 1000000 in
theorem turn_19 (x : Int) (w : World) :
    Calls Tryd.prog 62 #[.int .u32 x, .int .u64 19] w fun e w' => e = .returned (.int .u32 (rl (-19) x)) ∧ w' = w := by
  go_enter Tryd.func62, Tryd.ntmps62
  go_wp2
  go_ret
  refine ⟨?_, rfl⟩
  show _ = Ending.returned (Value.int .u32 (bits .or .u32 (IntKind.u32.wrap (x * 2 ^ 13)) (x / 2 ^ 19)))
  rw [bor_comm]
  rfl

set_option maxRecDepth 100000 in
set_option maxHeartbeats 1000000 in
theorem turn_22 (x : Int) (w : World) :
    Calls Tryd.prog 62 #[.int .u32 x, .int .u64 22] w fun e w' => e = .returned (.int .u32 (rl (-22) x)) ∧ w' = w := by
  go_enter Tryd.func62, Tryd.ntmps62
  go_wp2
  go_ret
  refine ⟨?_, rfl⟩
  show _ = Ending.returned (Value.int .u32 (bits .or .u32 (IntKind.u32.wrap (x * 2 ^ 10)) (x / 2 ^ 22)))
  rw [bor_comm]
  rfl

set_option maxRecDepth 100000 in
set_option maxHeartbeats 1000000 in
theorem turn_25 (x : Int) (w : World) :
    Calls Tryd.prog 62 #[.int .u32 x, .int .u64 25] w fun e w' => e = .returned (.int .u32 (rl (-25) x)) ∧ w' = w := by
  go_enter Tryd.func62, Tryd.ntmps62
  go_wp2
  go_ret
  refine ⟨?_, rfl⟩
  show _ = Ending.returned (Value.int .u32 (bits .or .u32 (IntKind.u32.wrap (x * 2 ^ 7)) (x / 2 ^ 25)))
  rw [bor_comm]
  rfl

/-- turn, by its count. -/
def tl2 (k : Int) (x : Int) : Int := rl (-k) x
theorem turn_at (x k : Int) (w : World) (hk : k = 2 ∨ k = 6 ∨ k = 7 ∨ k = 11 ∨ k = 13 ∨ k = 17 ∨ k = 18 ∨ k = 19 ∨ k = 22 ∨ k = 25) :
    Calls Tryd.prog 62 #[.int .u32 x, .int .u64 k] w fun e w' => e = .returned (.int .u32 (tl2 k x)) ∧ w' = w := by
  rcases hk with rfl | rfl | rfl | rfl | rfl | rfl | rfl | rfl | rfl | rfl
  · exact turn_2 x w
  · exact turn_6 x w
  · exact turn_7 x w
  · exact turn_11 x w
  · exact turn_13 x w
  · exact turn_17 x w
  · exact turn_18 x w
  · exact turn_19 x w
  · exact turn_22 x w
  · exact turn_25 x w

end Go.Proofs.YtnicnfjickknjaaDoor

namespace Go

/-- A call that answers and leaves the world alone, within a region that draws its order. -/
theorem step_call_same {P : Program} {ops : Array Oper} {o : Oper} {a : Act} {w : World} {K : Act → World → Prop} {Q : Exit → Act → World → Prop} {E : Prop} (hgd : o.guard = none) (f : FuncId) (x y : Operand) (tx ty : TypeId)
    (ho : o.op = .call { callee := .value (.func f), args := #[x, y], argTypes := #[tx, ty] }) (hent : ∀ args w, (callFunc f args).run P w = .ok (.enter f args) w)
    (v : Value) (hc : Calls P f #[a.eval x, a.eval y] w fun e w' => e = .returned v ∧ w' = w)
    (h : K (a.put o.dst v) w) :
    if Region.wanted o (yielded ops a.tmps) = true then Oper.wp P o a w K Q else E := by
  have hw : Region.wanted o (yielded ops a.tmps) = true := by simp [Region.wanted, hgd]
  rw [if_pos hw]
  have hrun : (execOp a.eval o).run P w = .ok (.enter f #[a.eval x, a.eval y]) w := by
    simp [execOp, ho, resolve, invoke, hent, Act.eval, go_sem]
  unfold Oper.wp
  rw [hrun, Oper.upon_enter]
  refine hc.mono ?_
  rintro e w' ⟨rfl, rfl⟩
  exact h

end Go

namespace Go.Proofs.YtnicnfjickknjaaDoor
open Go.RowKit

theorem u32info : (Tryd.prog.info? 83).map (fun i => (i.zero, i.size, i.bytes)) = some (some (.int .u32 0), 1, 4) := by kernel_rfl

/-- Words that lie from a block's beginning on. -/
def CW (w : World) (b : Nat) (xs : List Int) : Prop := ∀ i, i < xs.length → w.cell? ⟨b, i, none⟩ = some (.int .u32 (xs.getD i 0))
theorem CW.below {w w' : World} {b n : Nat} {xs : List Int} (h : CW w b xs) (hb : Below n w w') (hn : b < n) : CW w' b xs := fun i hi => (hb.cell (p := ⟨b, i, none⟩) hn).trans (h i hi)
theorem CW.lt {w : World} {b : Nat} {xs : List Int} (h : CW w b xs) (h0 : 0 < xs.length) : b < w.heap.size := World.block_lt_of_cell? w _ (h 0 h0)
theorem Arr.cw {w : World} {b : Nat} {t : TypeId} {xs : List Int} (h : Arr w b t (wv xs)) : CW w b xs := fun i hi => by rw [h.cell, wv_get _ _ hi]

/-- A new row of words, as it lies. -/
theorem made_arr {w : World} {base g n : Nat} {t : TypeId} (h : w.ownsRow base t 1 (.slice (some ⟨g, 0, none⟩) n n) n (madeCells (Value.int .u32 0).cells (n * 1)).toList) : Arr w g t (wv (List.replicate n 0)) := by
  rcases h.2 with ⟨h0, _⟩ | ⟨g', cap, cur, hv, hg, hh, hle, hmx, hcs, htk⟩
  · simp at h0
  · simp only [Value.slice.injEq, Option.some.injEq, Addr.mk.injEq, and_true, true_and] at hv
    obtain ⟨rfl, rfl⟩ := hv
    have e : cur.toList = wv (List.replicate n 0) := by
      rw [List.take_of_length_le (by simp [hcs])] at htk
      rw [htk]
      refine List.ext_getElem? fun i => ?_
      by_cases hi : i < n
      · simp [madeCells, wv, hi, Value.cells, Nat.mod_one]
      · simp [madeCells, wv, hi, Value.cells]
    unfold Arr
    rw [← e]
    exact hh

/-- The reference's word of four bytes. -/
theorem be_ref (B : List Int) (k : Nat) (hB : Byt B) : bits .or .u32 (bits .or .u32 (bits .or .u32 (B.getD (4 * k) 0 * 16777216 % 4294967296) (B.getD (4 * k + 1) 0 * 65536 % 4294967296)) (B.getD (4 * k + 2) 0 * 256 % 4294967296)) (B.getD (4 * k + 3) 0) = be B k 4 := by
  have g : ∀ j, ∃ n : Nat, B.getD j 0 = (n : Int) ∧ n < 256 := fun j => by
    have h : 0 ≤ B.getD j 0 ∧ B.getD j 0 ≤ 255 := hB.at j
    obtain ⟨n, hn⟩ := Int.eq_ofNat_of_zero_le h.1
    exact ⟨n, hn, by omega⟩
  obtain ⟨b0, e0, l0⟩ := g (4 * k)
  obtain ⟨b1, e1, l1⟩ := g (4 * k + 1)
  obtain ⟨b2, e2, l2⟩ := g (4 * k + 2)
  obtain ⟨b3, e3, l3⟩ := g (4 * k + 3)
  have m0 : (b0 : Int) * 16777216 % 4294967296 = ((b0 * 16777216 : Nat) : Int) := by omega
  have m1 : (b1 : Int) * 65536 % 4294967296 = ((b1 * 65536 : Nat) : Int) := by omega
  have m2 : (b2 : Int) * 256 % 4294967296 = ((b2 * 256 : Nat) : Int) := by omega
  have j1 : b0 * 16777216 ||| b1 * 65536 = b0 * 16777216 + b1 * 65536 := nat_join 24 _ _ (by omega) (by omega)
  have j2 : (b0 * 16777216 + b1 * 65536) ||| b2 * 256 = b0 * 16777216 + b1 * 65536 + b2 * 256 := nat_join 16 _ _ (by omega) (by omega)
  have j3 : (b0 * 16777216 + b1 * 65536 + b2 * 256) ||| b3 = b0 * 16777216 + b1 * 65536 + b2 * 256 + b3 := nat_join 8 _ _ (by omega) (by omega)
  rw [e0, e1, e2, e3, m0, m1, m2, u32_or_nat _ _ (by omega) (by omega), j1, u32_or_nat _ _ (by omega) (by omega), j2, u32_or_nat _ _ (by omega) (by omega), j3]
  have s : ∀ (x b : Nat), x < 16777216 → b < 256 → sh (x : Int) (b : Int) = ((x * 256 + b : Nat) : Int) := by
    intro x b hx hb
    unfold sh
    rw [IntKind.wrap_u32', show (x : Int) * 256 % 4294967296 = ((x * 256 : Nat) : Int) by omega, u32_or_nat _ _ (by omega) (by omega), nat_join 8 _ _ (by omega) (by omega)]
  have z : be B k 4 = sh (sh (sh (sh ((0 : Nat) : Int) (b0 : Int)) b1) b2) b3 := by
    rw [← e0, ← e1, ← e2, ← e3]
    rfl
  rw [z, s _ _ (by omega) l0, s _ _ (by omega) l1, s _ _ (by omega) l2, s _ _ (by omega) l3]
  refine congrArg _ ?_
  omega

theorem eight (X : List Int) (h : X.length = 8) : ∃ a b c d e f g l, X = [a, b, c, d, e, f, g, l] := by
  match X, h with
  | [a, b, c, d, e, f, g, l], _ => exact ⟨a, b, c, d, e, f, g, l, rfl⟩
theorem Rr_eight (X Ws : List Int) (k : Nat) (h : X.length = 8) : ∃ a b c d e f g l, Rr X Ws k = [a, b, c, d, e, f, g, l] := by
  induction k with
  | zero => exact eight X h
  | succ k ih =>
    obtain ⟨a, b, c, d, e, f, g, l, e1⟩ := ih
    simp only [Rr, e1, rnd]
    exact ⟨_, _, _, _, _, _, _, _, rfl⟩

theorem cell_set_ne (W : World) (N k i : Nat) (z : Value) (h : i ≠ k) : (W.setCell ⟨N, k, none⟩ z).cell? ⟨N, i, none⟩ = W.cell? ⟨N, i, none⟩ := by
  have hk : ¬ k = i := fun e => h e.symm
  simp only [World.cell?, World.setCell, Array.getElem?_modify, if_true]
  cases W.heap[N]? with
  | none => rfl
  | some o => cases o <;> simp [hk]
theorem keep2 {W : World} {N k i j : Nat} {u v z : Value} (hi : i ≠ k) (hj : j ≠ k) (a : W.cell? ⟨N, i, none⟩ = some u) (b : W.cell? ⟨N, j, none⟩ = some v) :
    (W.setCell ⟨N, k, none⟩ z).cell? ⟨N, i, none⟩ = some u ∧ (W.setCell ⟨N, k, none⟩ z).cell? ⟨N, j, none⟩ = some v :=
  ⟨(cell_set_ne W N k i z hi).trans a, (cell_set_ne W N k j z hj).trans b⟩

/-- What the block's function is handed. -/
structure BIn (w : World) (bh bk bb ob : Nat) (X B : List Int) : Prop where
  h : CW w bh X
  k : CW w bk K0
  b : ∀ i, i < 64 → w.cell? ⟨bb, ob + i, none⟩ = some (.int .u8 (B.getD i 0))
  lenX : X.length = 8
  lenB : B.length = 64
  byte : Byt B
theorem BIn.below {w w' : World} {bh bk bb ob : Nat} {X B : List Int} (h : BIn w bh bk bb ob X B) (hb : Below w.heap.size w w') : BIn w' bh bk bb ob X B :=
  ⟨h.h.below hb (h.h.lt (by rw [h.lenX]; decide)), h.k.below hb (h.k.lt (by decide)), fun i hi => (hb.cell (p := ⟨bb, ob + i, none⟩) (World.block_lt_of_cell? w _ (h.b i hi))).trans (h.b i hi), h.lenX, h.lenB, h.byte⟩

end Go.Proofs.YtnicnfjickknjaaDoor

namespace Go.Proofs.YtnicnfjickknjaaDoor
open Go.RowKit Go.Shelf

set_option maxRecDepth 100000 in
set_option maxHeartbeats 4000000 in
theorem rblock_any (w : World) (bh ch bk ck bb ob nb cb : Nat) (X B : List Int) (hI : BIn w bh bk bb ob X B) (hnb : 64 ≤ nb) :
    Calls Tryd.prog 44 #[.slice (some ⟨bh, 0, none⟩) 8 ch, .slice (some ⟨bk, 0, none⟩) 64 ck, .slice (some ⟨bb, ob, none⟩) nb cb] w fun e w' =>
      ∃ g, e = .returned (.slice (some ⟨g, 0, none⟩) 8 8) ∧ CW w' g (part (Rr X (W B 64) 64) X 8) ∧ Below w.heap.size w w' := by
  obtain ⟨i0, hi, hz0, hz1, hz2⟩ := info_parts u32info
  have hent : ∀ args w, (callFunc 62 args).run Tryd.prog w = .ok (.enter 62 args) w := enters_of Tryd.func62 (by kernel_rfl) rfl
  have hnbi : (64 : Int) ≤ (nb : Int) := by omega
  go_enter Tryd.func44, Tryd.ntmps44
  go_wp2_with (at_make; refine wpList_make_full _ rfl _ _ 78 rfl w.heap.size 83 i0 (.int .u32 0) 1 Tryd.underlying78 hi hz0 hz1 _ _ _ _ 64 rfl rfl rfl rfl (by rw [hz2]; decide) (by decide) (Nat.le_refl _) ?_; intro w1 own1 g1; have A1 := made_arr own1; have B1 : Below w.heap.size w w1 := (Below.refl _ w).grown g1 (Nat.le_refl _) (by simp); have s1 := A1.lt; clear own1 g1)
  go_loopw [8] (fun i wr => ∃ k : Nat, k ≤ 64 ∧ i = .int .i64 k ∧ Below w.heap.size w wr ∧ Arr wr w.heap.size 83 (wv (fillW B k))) (fun i _ => 64 - (intOf i).toNat)
  case atStart => exact ⟨0, by omega, rfl, B1, A1⟩
  case round =>
    clear A1 B1 s1
    obtain ⟨k, hk, rfl, B2, A2⟩ := hrel
    by_cases hlt : k < 64
    · have hki : (k : Int) < 64 := by omega
      have ck0 := A2.cell k
      rw [wv_get _ _ (by rw [fillW_len _ _ (by omega)]; omega)] at ck0
      have ckf := A2.free k
      by_cases h16 : k < 16
      · have h16i : (k : Int) < 16 := by omega
        have H2 := hI.below B2
        have c0 := H2.b (4 * k) (by omega)
        have c1 := H2.b (4 * k + 1) (by omega)
        have c2 := H2.b (4 * k + 2) (by omega)
        have c3 := H2.b (4 * k + 3) (by omega)
        clear H2
        have t0 : (4 * (k : Int)).toNat = 4 * k := by omega
        have t1 : (4 * (k : Int) + 1).toNat = 4 * k + 1 := by omega
        have t2 : (4 * (k : Int) + 2).toNat = 4 * k + 2 := by omega
        have t3 : (4 * (k : Int) + 3).toNat = 4 * k + 3 := by omega
        have n0 : 4 * (k : Int) < (nb : Int) := by omega
        have n1 : 4 * (k : Int) + 1 < (nb : Int) := by omega
        have n2 : 4 * (k : Int) + 2 < (nb : Int) := by omega
        have n3 : 4 * (k : Int) + 3 < (nb : Int) := by omega
        go_wp2_with fail
        go_region
        all_goals go_wp2
        go_roundw
        case rel =>
          refine ⟨k + 1, by omega, by go_num, (B2.setCell (Nat.le_refl _) _).drew, ?_⟩
          have a7 := (A2.set k (.int .u32 (be B k 4))).drew
          have e := arrW_next B k hlt
          rw [if_pos h16] at e
          rw [wv_set, fillW_arr _ _ hlt, arrW_set, e, ← be_ref B k hI.byte] at a7
          have y : ∀ j, B[j]?.getD 0 % 4294967296 = B.getD j 0 := fun j => by
            have : 0 ≤ B.getD j 0 ∧ B.getD j 0 ≤ 255 := hI.byte.at j
            show B.getD j 0 % 4294967296 = _
            omega
          rw [y, y, y, y]
          exact a7
        case measure => simp [intOf]; omega
      · have h16i : (16 : Int) ≤ (k : Int) := by omega
        have cs : ∀ j, j < k → wr.cell? ⟨w.heap.size, j, none⟩ = some (.int .u32 ((W B k).getD j 0)) := by
          intro j hj
          rw [A2.cell, wv_get _ _ (by rw [fillW_len _ _ (by omega)]; omega), fillW_low _ _ _ hj]
        have c15 := cs (k - 15) (by omega)
        have c2 := cs (k - 2) (by omega)
        have c16 := cs (k - 16) (by omega)
        have c7 := cs (k - 7) (by omega)
        obtain ⟨x15, hx15⟩ : ∃ x, x = (W B k).getD (k - 15) 0 := ⟨_, rfl⟩
        obtain ⟨x2, hx2⟩ : ∃ x, x = (W B k).getD (k - 2) 0 := ⟨_, rfl⟩
        obtain ⟨x16, hx16⟩ : ∃ x, x = (W B k).getD (k - 16) 0 := ⟨_, rfl⟩
        obtain ⟨x7, hx7⟩ : ∃ x, x = (W B k).getD (k - 7) 0 := ⟨_, rfl⟩
        have HX : Hid (nxt (W B k) k = ad (ad (ad x16 (s0 x15)) x7) (s1 x2)) := by rw [hx15, hx2, hx16, hx7]; rfl
        rw [← hx15] at c15
        rw [← hx2] at c2
        rw [← hx16] at c16
        rw [← hx7] at c7
        clear hx15 hx2 hx16 hx7 cs
        have e15 : ((k : Int) - 15).toNat = k - 15 := by omega
        have e2 : ((k : Int) - 2).toNat = k - 2 := by omega
        have e16 : ((k : Int) - 16).toNat = k - 16 := by omega
        have e7 : ((k : Int) - 7).toNat = k - 7 := by omega
        have f15 : 0 ≤ ((k : Int) - 15) := by omega
        have f2 : 0 ≤ ((k : Int) - 2) := by omega
        have f16 : 0 ≤ ((k : Int) - 16) := by omega
        have f7 : 0 ≤ ((k : Int) - 7) := by omega
        have g15 : ((k : Int) - 15) < 64 := by omega
        have g2 : ((k : Int) - 2) < 64 := by omega
        have g16 : ((k : Int) - 16) < 64 := by omega
        have g7 : ((k : Int) - 7) < 64 := by omega
        go_wp2_with fail
        go_quiet (fail)
        go_wp2_with fail
        clear f15 f2 g15 g2 e15 e2 c15 c2
        have v16 : IntKind.i64.wrap ((k : Int) - 16) = (k : Int) - 16 := by rw [IntKind.wrap_i64]; omega
        have v7 : IntKind.i64.wrap ((k : Int) - 7) = (k : Int) - 7 := by rw [IntKind.wrap_i64]; omega
        have o7 : (7 : Int) ≤ (k : Int) := by omega
        go_region_held3 (fun w' => w'.cell? ⟨w.heap.size, k - 16, none⟩ = some (.int .u32 x16) ∧ w'.cell? ⟨w.heap.size, k - 7, none⟩ = some (.int .u32 x7)) (first | go_keep | (refine ⟨?_, ?_⟩ <;> assumption) | exact ⟨c16, c7⟩ | exact keep2 (by omega) (by omega) c16 c7) (first | (go_at_call 62; refine (turn_at _ _ _ (by simp)).mono ?_; rintro e w' ⟨rfl, rfl⟩))
        go_wp2
        go_roundw
        case rel =>
          have a6 : Arr (wr.drewN (nq + 1)) w.heap.size 83 (wv (fillW B k)) := A2
          refine ⟨k + 1, by omega, by go_num, (bel_drewN B2 _).setCell (Nat.le_refl _) _, ?_⟩
          have a7 := a6.set k (.int .u32 (nxt (W B k) k))
          have e := arrW_next B k hlt
          rw [if_neg h16] at e
          rw [wv_set, fillW_arr _ _ hlt, arrW_set, e] at a7
          rw [HX.out] at a7
          exact a7
        case measure => simp [intOf]; omega
    · obtain rfl : k = 64 := by omega
      rw [fillW_all] at A2
      have H2 := hI.below B2
      have hs2 := B2.size
      have hNlt := A2.lt
      go_wp2_with (at_builtin; refine wpList_append_own _ rfl _ _ 78 rfl w.heap.size 83 i0 (.int .u32 0) 1 4 Tryd.underlying78 hi hz0 hz1 hz2 rfl (by decide) _ 0 [] rfl (World.ownsRow_lit wr #[] 0 hs2 (by decide) rfl) ⟨bh, 0, none⟩ 8 ch (wv X) rfl (by rw [wv_length, hI.lenX]) (fun j u hu => by
          have hj : j < X.length := by have := (List.getElem?_eq_some_iff.1 hu).1; rwa [wv_length] at this
          rw [wv_get X j hj] at hu
          rw [add_at, Nat.zero_add, Below.cell ((Below.refl _ wr).alloc (Nat.le_refl _) _) (p := ⟨bh, j, none⟩) (H2.h.lt (by rw [hI.lenX]; decide)), H2.h j hj]
          exact hu) (wv_one X) (by decide) (by decide) (by simp; omega) ?_; intro v3 w3 own3 g3 _; obtain ⟨g, cap, rfl⟩ := ownsRow_succ own3)
      have C3 : CW w3 g X := fun i hi => by
        have := own3.cellAt i (by rw [hI.lenX] at hi; omega)
        rw [this]
        exact wv_get X i hi
      have B3 : Below w.heap.size w w3 := (B2.alloc hs2 _).grown g3 (by simp; omega) (fun k hk => by have := Option.some.inj (show some wr.heap.size = some k from hk); omega)
      have A3 : Arr w3 w.heap.size 83 (wv (W B 64)) := (A2.grown (World.grownBy_alloc wr (.cells #[] 83) none) (by simp)).grown g3 (fun e => by have := Option.some.inj (show some w.heap.size = some wr.heap.size from e); omega)
      have hg3 : w.heap.size ≤ g := (own3.lt g rfl).1
      clear g3 own3 H2 A2 B2 hs2 hNlt hk hlt
      go_wp2_with fail
      go_loopw [11, 12] (fun v t wr => ∃ (k g cap : Nat) (L : List Int), k ≤ 64 ∧ t = .int .i64 k ∧ v = .slice (some ⟨g, 0, none⟩) 8 cap ∧ Hid (Rr X (W B 64) k = L) ∧ CW wr g L ∧ (0 < k → cap = 8 ∧ Arr wr g 83 (wv L)) ∧ Below w.heap.size w wr ∧ Arr wr w.heap.size 83 (wv (W B 64)) ∧ w.heap.size ≤ g) (fun _ t _ => 64 - (intOf t).toNat)
      case atStart => exact ⟨0, g, cap, X, by omega, rfl, rfl, rfl, C3, fun h => by omega, B3, A3, hg3⟩
      case round =>
        clear C3 B3 A3 hg3
        obtain ⟨k, g, cap, L, hk, rfl, rfl, HL, CL, hA, B4, A4, hg4⟩ := hrel
        have H4 := hI.below B4
        by_cases hlt : k < 64
        · have hki : (k : Int) < 64 := by omega
          obtain ⟨a, b, c, d, e, f, gg, l, rfl⟩ : ∃ a b c d e f gg l, L = [a, b, c, d, e, f, gg, l] := by
            rw [← HL.out]
            exact Rr_eight X (W B 64) k hI.lenX
          have c0 : wr.cell? ⟨g, 0, none⟩ = some (.int .u32 a) := CL 0 (by simp)
          have c1 : wr.cell? ⟨g, 1, none⟩ = some (.int .u32 b) := CL 1 (by simp)
          have c2 : wr.cell? ⟨g, 2, none⟩ = some (.int .u32 c) := CL 2 (by simp)
          have c3 : wr.cell? ⟨g, 3, none⟩ = some (.int .u32 d) := CL 3 (by simp)
          have c4 : wr.cell? ⟨g, 4, none⟩ = some (.int .u32 e) := CL 4 (by simp)
          have c5 : wr.cell? ⟨g, 5, none⟩ = some (.int .u32 f) := CL 5 (by simp)
          have c6 : wr.cell? ⟨g, 6, none⟩ = some (.int .u32 gg) := CL 6 (by simp)
          have c7 : wr.cell? ⟨g, 7, none⟩ = some (.int .u32 l) := CL 7 (by simp)
          have ck1 := H4.k k hlt
          have cw := A4.cell k
          rw [wv_get _ _ (by rw [W_len]; exact hlt)] at cw
          obtain ⟨xk, hxk⟩ : ∃ x, x = K0.getD k 0 := ⟨_, rfl⟩
          obtain ⟨xw, hxw⟩ : ∃ x, x = (W B 64).getD k 0 := ⟨_, rfl⟩
          have HN : Hid (Rr X (W B 64) (k + 1) = rnd [a, b, c, d, e, f, gg, l] xk xw) := by
            have : Rr X (W B 64) (k + 1) = rnd (Rr X (W B 64) k) (K0.getD k 0) ((W B 64).getD k 0) := rfl
            rw [HL.out, ← hxk, ← hxw] at this
            exact this
          rw [← hxk] at ck1
          rw [← hxw] at cw
          clear hxk hxw CL H4 hA
          have hs4 := B4.size
          go_wp2_with fail
          go_quiet (fail)
          go_wp2_with fail
          go_region_held3 (fun w' => w'.cell? ⟨g, 5, none⟩ = some (.int .u32 f) ∧ w'.cell? ⟨g, 6, none⟩ = some (.int .u32 gg) ∧ w'.cell? ⟨g, 7, none⟩ = some (.int .u32 l) ∧ w'.cell? ⟨bk, k, none⟩ = some (.int .u32 xk) ∧ w'.cell? ⟨w.heap.size, k, none⟩ = some (.int .u32 xw)) (first | go_keep | (refine ⟨?_, ?_, ?_, ?_, ?_⟩ <;> assumption) | exact ⟨c5, c6, c7, ck1, cw⟩) (first | (go_at_call 62; refine (turn_at _ _ _ (by simp)).mono ?_; rintro e w' ⟨rfl, rfl⟩))
          go_wp2_with fail
          go_region_held3 (fun w' => w'.cell? ⟨g, 1, none⟩ = some (.int .u32 b) ∧ w'.cell? ⟨g, 2, none⟩ = some (.int .u32 c)) (first | go_keep | (refine ⟨?_, ?_⟩ <;> assumption) | exact ⟨c1, c2⟩) (first | (go_at_call 62; refine (turn_at _ _ _ (by simp)).mono ?_; rintro e w' ⟨rfl, rfl⟩))
          go_wp2_with fail
          go_region_held3 (fun w' => w'.cell? ⟨g, 0, none⟩ = some (.int .u32 a) ∧ w'.cell? ⟨g, 1, none⟩ = some (.int .u32 b) ∧ w'.cell? ⟨g, 2, none⟩ = some (.int .u32 c) ∧ w'.cell? ⟨g, 3, none⟩ = some (.int .u32 d) ∧ w'.cell? ⟨g, 4, none⟩ = some (.int .u32 e) ∧ w'.cell? ⟨g, 5, none⟩ = some (.int .u32 f) ∧ w'.cell? ⟨g, 6, none⟩ = some (.int .u32 gg)) (first | go_keep | (refine ⟨?_, ?_, ?_, ?_, ?_, ?_, ?_⟩ <;> assumption) | exact ⟨c0, c1, c2, c3, c4, c5, c6⟩) (fail)
          go_wp2
          go_roundw
          case rel =>
            have e9 : ∀ q, (wr.drewN q).heap = wr.heap := fun q => rfl
            refine ⟨k + 1, wr.heap.size, 8, rnd [a, b, c, d, e, f, gg, l] xk xw, by omega, by go_num, rfl, HN.out, ?_, fun _ => ⟨rfl, ?_⟩, (bel_drewN B4 _).alloc hs4 _, ?_⟩
            · exact Arr.cw (heap_alloc_new (wr.drewN _) _)
            · exact heap_alloc_new (wr.drewN _) _
            · exact ⟨Arr.grown (show Arr (wr.drewN _) _ _ _ from A4) (World.grownBy_alloc (wr.drewN _) _ none) (by simp), hs4⟩
          case measure => simp [intOf]; omega
        · obtain rfl : k = 64 := by omega
          obtain ⟨rfl, A5⟩ := hA (by omega)
          have HL2 : Hid (Rr X (W B 64) 64 = L) := HL
          have lL : L.length = 8 := by
            obtain ⟨a, b, c, d, e, f, gg, l, e8⟩ := Rr_eight X (W B 64) 64 hI.lenX
            rw [← HL.out, e8]
            rfl
          have B5 := B4
          clear CL H4 A4 HL hA B4 hk hlt
          go_wp2_with fail
          go_loopw [17] (fun i wr => ∃ j : Nat, j ≤ 8 ∧ i = .int .i64 j ∧ Below w.heap.size w wr ∧ Arr wr g 83 (wv (part L X j))) (fun i _ => 8 - (intOf i).toNat)
          case atStart => exact ⟨0, by omega, rfl, B5, by rw [part_zero _ _ lL]; exact A5⟩
          case round =>
            clear A5 B5
            obtain ⟨j, hj, rfl, B6, A6⟩ := hrel
            by_cases hjt : j < 8
            · have hji : (j : Int) < 8 := by omega
              have H6 := hI.below B6
              have c1 := A6.cell j
              rw [wv_get _ _ (by rw [part_len]; exact hjt), part_get _ _ _ _ hjt] at c1
              simp only [Nat.lt_irrefl, if_false] at c1
              have cf := A6.free j
              have c2 := H6.h j (by rw [hI.lenX]; exact hjt)
              obtain ⟨x, hx⟩ : ∃ x, x = L.getD j 0 := ⟨_, rfl⟩
              obtain ⟨y, hy⟩ : ∃ y, y = X.getD j 0 := ⟨_, rfl⟩
              have HXY : Hid (part L X (j + 1) = (part L X j).set j (ad x y)) := by rw [hx, hy]; exact (part_succ _ _ _).symm
              rw [← hx] at c1
              rw [← hy] at c2
              clear hx hy H6
              go_wp2_with fail
              go_region
              all_goals go_wp2
              go_roundw
              case rel =>
                refine ⟨j + 1, by omega, by go_num, (B6.setCell hg4 _).drew, ?_⟩
                rw [HXY.out, ← wv_set]
                exact (A6.set j (.int .u32 (ad x y))).drew
              case measure => simp [intOf]; omega
            · obtain rfl : j = 8 := by omega
              go_wp2_with fail
              go_ret
              refine ⟨g, rfl, ?_, B6⟩
              rw [HL2.out]
              exact A6.cw

end Go.Proofs.YtnicnfjickknjaaDoor

namespace Go.Proofs.YtnicnfjickknjaaDoor
open Go.RowKit

set_option maxRecDepth 100000 in
set_option maxHeartbeats 1000000 in
theorem rfirst_any (w : World) : Calls Tryd.prog 42 #[] w fun e w' => e = .returned (.slice (some ⟨w.heap.size, 0, none⟩) 8 8) ∧ w' = w.alloc (.cells (wv H0).toArray 83) := by
  go_enter Tryd.func42, Tryd.ntmps42
  go_wp2
  go_ret
  exact ⟨rfl, rfl⟩

set_option maxRecDepth 100000 in
set_option maxHeartbeats 1000000 in
theorem rcubes_any (w : World) : Calls Tryd.prog 43 #[] w fun e w' => e = .returned (.slice (some ⟨w.heap.size, 0, none⟩) 64 64) ∧ w' = w.alloc (.cells (wv K0).toArray 83) := by
  go_enter Tryd.func43, Tryd.ntmps43
  go_wp2
  go_ret
  exact ⟨rfl, rfl⟩

theorem tab_cw (w : World) (xs : List Int) (t : TypeId) : CW (w.alloc (.cells (wv xs).toArray t)) w.heap.size xs := Arr.cw (heap_alloc_new w _)

end Go.Proofs.YtnicnfjickknjaaDoor

namespace Go.Proofs.YtnicnfjickknjaaDoor
open Go.RowKit

/-- A length by eight bytes, the highest first. -/
def be8 (L : Nat) : List Int := (List.range 8).map fun i => ((L / 2 ^ (8 * (7 - i)) % 256 : Nat) : Int)

theorem padL_ref (n : Nat) : padL n = 128 :: (List.replicate (pe n - 9) 0 ++ be8 (n * 8 % 18446744073709551616)) := by
  have he := pe_le n
  obtain ⟨e, hee⟩ : ∃ e, e = pe n := ⟨_, rfl⟩
  obtain ⟨L, hL⟩ : ∃ L, L = n * 8 % 18446744073709551616 := ⟨_, rfl⟩
  unfold padL
  rw [← hee, ← hL]
  rw [← hee] at he
  refine List.ext_getElem? fun q => ?_
  by_cases hq : q < e
  · have h72 : q < 72 := by omega
    rw [List.getElem?_take_of_lt hq]
    simp only [tl, List.getElem?_map, List.getElem?_range h72, Option.map_some]
    by_cases h8 : e ≤ q + 8
    · rw [if_pos ⟨h8, hq⟩]
      obtain ⟨p, rfl⟩ : ∃ p, q = p + 1 := ⟨q - 1, by omega⟩
      have i8 : p - (e - 9) < 8 := by omega
      rw [List.getElem?_cons_succ, List.getElem?_append_right (by simp; omega)]
      simp only [List.length_replicate, be8, List.getElem?_map, List.getElem?_range i8, Option.map_some]
      have e7 : 7 - (p - (e - 9)) = e - 1 - (p + 1) := by omega
      rw [e7]
    · rw [if_neg (by omega)]
      cases q with
      | zero => rfl
      | succ p =>
        rw [if_neg (by omega), List.getElem?_cons_succ, List.getElem?_append_left (by simp; omega), List.getElem?_replicate, if_pos (by omega)]
  · rw [List.getElem?_take_eq_none (by omega), List.getElem?_eq_none (by simp [be8]; omega)]

/-- The words behind i blocks. -/
def XS (bs : List Int) (i : Nat) : List Int := part H0 (AA bs i) 8
theorem XS_zero (bs : List Int) : XS bs 0 = H0 := by
  unfold XS AA
  decide
theorem XS_succ (bs : List Int) (i : Nat) : part (Rr (XS bs i) (W (blk bs i) 64) 64) (XS bs i) 8 = XS bs (i + 1) := by
  refine List.ext_getElem? fun j => ?_
  by_cases hj : j < 8
  · have lA := AA_len bs i
    simp only [XS, AA, mixA, part, List.getElem?_map, List.getElem?_range hj, Option.map_some, hj, if_true]
    refine congrArg some ?_
    have g1 : ∀ (F : Nat → Int), ((List.range 8).map F).getD j 0 = F j := fun F => by simp [List.getD, hj]
    rw [g1, g1]
    simp only [hj, if_true]
    obtain ⟨x, hx⟩ : ∃ x, x = H0.getD j 0 := ⟨_, rfl⟩
    obtain ⟨y, hy⟩ : ∃ y, y = (AA bs i).getD j 0 := ⟨_, rfl⟩
    rw [← hx, ← hy]
    generalize (Rr _ _ 64).getD j 0 = z
    simp only [ad, IntKind.wrap_u32']
    omega
  · simp [XS, part, hj]
theorem wds_XS (bs : List Int) : wds bs = XS (bs ++ padL bs.length) ((bs ++ padL bs.length).length / 64) := rfl

end Go.Proofs.YtnicnfjickknjaaDoor

namespace Go.Proofs.YtnicnfjickknjaaDoor
open Go.RowKit

/-- append(out, x...), out the call's own and not nil. -/
theorem wpList_app2 {w : World} {ops : Array Oper} {rest : List Oper} {o : Oper} {a : Act} {Q : Exit → Act → World → Prop} (hgd : o.guard = none) (s x : Operand)
    (ho : o.op = .call { callee := .builtin .append, args := #[s, x], argTypes := #[23, 23] })
    (base : Nat) (g0 n c0 : Nat) (xs : List Int) (hs : a.eval s = .slice (some ⟨g0, 0, none⟩) n c0) (hown : w.ownsRow base 5 1 (.slice (some ⟨g0, 0, none⟩) n c0) n (bv xs))
    (bo : Option Addr) (m c : Nat) (ys : List Int) (hx : a.eval x = .slice bo m c) (hsl : Sl w bo m c ys) (hb : n + m ≤ 140737488355328) (hbase : base ≤ w.heap.size)
    (h : ∀ g cap w', w'.ownsRow base 5 1 (.slice (some ⟨g, 0, none⟩) (n + m) cap) (n + m) (bv (xs ++ ys)) → Below base w w' → wpList Tryd.prog ops Q rest (a.put o.dst (.slice (some ⟨g, 0, none⟩) (n + m) cap)) w') : wpList Tryd.prog ops Q (o :: rest) a w := by
  obtain ⟨i0, hi, hz0, hz1, hz2⟩ := info_parts u8info
  cases bo with
  | some ad =>
    refine wpList_append_own w hgd s x 23 ho base 5 i0 (.int .u8 0) 1 1 Tryd.underlying23 hi hz0 hz1 hz2 rfl (by decide) _ n (bv xs) hs hown ad m c (bv ys) hx (by rw [bv_length, hsl.len, Nat.mul_one]) (hsl.cells ad rfl) (bv_one ys) (by unfold maxLen; omega) (by omega) hbase ?_
    intro v' w' h1 h2 h3
    rw [← bv_append] at h1
    have hb2 := (Below.refl _ w).grown h2 hbase (fun k hk => (hown.lt k hk).1)
    rcases h1.2 with ⟨e, _⟩ | ⟨g, cap, cur, e, _⟩
    · exact absurd (h3.1 e).1 (by simp)
    · subst e
      exact h g cap w' h1 hb2
  | none =>
    obtain ⟨rfl, rfl⟩ := hsl.nil rfl
    obtain rfl : ys = [] := List.eq_nil_of_length_eq_zero hsl.len
    refine wpList_append_own_none hgd s x 23 ho base 5 i0 1 Tryd.underlying23 hi _ n (bv xs) hs hown hx ?_
    exact h g0 c0 w (by simpa using hown) (Below.refl _ _)

end Go.Proofs.YtnicnfjickknjaaDoor

namespace Go.Proofs.YtnicnfjickknjaaDoor
open Go.RowKit

/-- append(out, x...) within a region that draws its order, out the call's own. -/
theorem step_app {w : World} {ops : Array Oper} {o : Oper} {a : Act} {K : Act → World → Prop} {Q : Exit → Act → World → Prop} {E : Prop} (hgd : o.guard = none) (s x : Operand)
    (ho : o.op = .call { callee := .builtin .append, args := #[s, x], argTypes := #[23, 23] })
    (base : Nat) (v : Value) (n : Nat) (xs : List Int) (hs : a.eval s = v) (hown : w.ownsRow base 5 1 v n (bv xs))
    (ad : Addr) (m c : Nat) (ys : List Int) (hx : a.eval x = .slice (some ad) m c) (hsl : Sl w (some ad) m c ys) (hm : 0 < m) (hb : n + m ≤ 140737488355328) (hbase : base ≤ w.heap.size)
    (h : ∀ v' w', w'.ownsRow base 5 1 v' (n + m) (bv (xs ++ ys)) → Below base w w' → w.grownBy w' v.ownBlock → K (a.put o.dst v') w') :
    if Region.wanted o (yielded ops a.tmps) = true then Oper.wp Tryd.prog o a w K Q else E := by
  obtain ⟨i0, hi, hz0, hz1, hz2⟩ := info_parts u8info
  refine step_append_lies w hgd s x 23 ho base 5 i0 (.int .u8 0) 1 1 Tryd.underlying23 hi hz0 hz1 hz2 rfl (by decide) v n (bv xs) hs hown ad m c (bv ys) hx (by rw [bv_length, hsl.len, Nat.mul_one]) (hsl.cells ad rfl) (bv_one ys) hm (by unfold maxLen; omega) (by omega) hbase _ rfl ?_
  intro g cap w' h1 h2 _ _
  rw [← bv_append] at h1
  exact h _ w' h1 ((Below.refl _ w).grown h2 hbase (fun k hk => (hown.lt k hk).1)) h2

theorem Sl.drewd {w : World} {ao : Option Addr} {n cap : Nat} {xs : List Int} (h : Sl w ao n cap xs) : Sl w.drew ao n cap xs := ⟨h.len, h.le, h.mx, h.nil, h.cell, h.byte⟩
theorem be8_len (L : Nat) : (be8 L).length = 8 := rfl
theorem be8_take (L q : Nat) (h : q < 8) : (be8 L).take (8 - (q + 1)) ++ [((L / 2 ^ (8 * q) % 256 : Nat) : Int)] = (be8 L).take (8 - q) := by
  have e : 8 - q = 8 - (q + 1) + 1 := by omega
  rw [e, List.take_add_one, be8, List.getElem?_map, List.getElem?_range (by omega)]
  simp only [Option.map_some, Option.toList_some]
  have e2 : 7 - (8 - (q + 1)) = q := by omega
  rw [e2]

theorem mask64 (x : Int) (h0 : 0 ≤ x) (h1 : x < 18446744073709551616) : bits .and .u64 x 255 = x % 256 :=
  bits_mask .u64 64 (by decide) (fun n _ _ => by rw [IntKind.wrap_u64]; omega) 8 (by decide) x h0 h1
theorem mask32 (x : Int) (h0 : 0 ≤ x) (h1 : x < 4294967296) : bits .and .u32 x 255 = x % 256 :=
  bits_mask .u32 32 (by decide) (fun n _ _ => by rw [IntKind.wrap_u32']; omega) 8 (by decide) x h0 h1
theorem byte_of (n q : Nat) (hn : n ≤ 100000) : bits .and .u64 ((n : Int) * 8 / 2 ^ (8 * q)) 255 % 256 = ((n * 8 / 2 ^ (8 * q) % 256 : Nat) : Int) := by
  have e : (n : Int) * 8 / 2 ^ (8 * q) = ((n * 8 / 2 ^ (8 * q) : Nat) : Int) := by simp
  have hle : n * 8 / 2 ^ (8 * q) ≤ n * 8 := Nat.div_le_self _ _
  rw [e]
  generalize n * 8 / 2 ^ (8 * q) = y at hle
  rw [mask64 _ (by omega) (by omega)]
  omega
theorem XS_rng (al : List Int) (i j : Nat) : 0 ≤ (XS al i).getD j 0 ∧ (XS al i).getD j 0 < 4294967296 := by
  by_cases hj : j < 8
  · have g1 : ∀ (F : Nat → Int), ((List.range 8).map F).getD j 0 = F j := fun F => by simp [List.getD, hj]
    unfold XS part
    rw [g1]
    simp only [hj, if_true, ad, IntKind.wrap_u32']
    omega
  · simp [XS, part, List.getD, hj]

/-- What the loop over the blocks holds. -/
structure R3 (w wr : World) (al : List Int) (i gh ch bb ob nb cb : Nat) : Prop where
  bel : Below w.heap.size w wr
  st : CW wr gh (XS al i)
  k : CW wr (w.heap.size + 1) K0
  s : Sl wr (some ⟨bb, ob, none⟩) nb cb (al.drop (64 * i))
  nb : 64 * i + nb = al.length
  gh : gh < wr.heap.size
theorem XS_len (al : List Int) (i : Nat) : (XS al i).length = 8 := part_len _ _ _
theorem R3.bin {w wr : World} {al : List Int} {i gh ch bb ob nb cb : Nat} (h : R3 w wr al i gh ch bb ob nb cb) (h64 : 64 ≤ nb) : BIn wr gh (w.heap.size + 1) bb ob (XS al i) (blk al i) := by
  refine ⟨h.st, h.k, fun j hj => ?_, XS_len _ _, ?_, (h.s.byte.take 64)⟩
  · have := h.s.cell _ rfl j (by omega)
    rw [add_at] at this
    rw [this]
    simp [blk, List.getD, hj]
  · have := h.nb
    simp [blk]
    omega

set_option maxRecDepth 100000 in
set_option maxHeartbeats 4000000 in
theorem rsum_any (w : World) (ao : Option Addr) (n cap : Nat) (bs : List Int) (hS : Sl w ao n cap bs) (hn : n ≤ 100000) :
    Calls Tryd.prog 23 #[.slice ao n cap] w fun e w' => ∃ v, e = .returned v ∧ w'.ownsRow w.heap.size 5 1 v 32 (bv (sumL bs)) ∧ Below w.heap.size w w' := by
  obtain ⟨i0, hi, hz0, hz1, hz2⟩ := info_parts u8info
  have hln := hS.len
  have hni : (n : Int) ≤ 100000 := by omega
  have hpe := pe_le n
  have hbB := hS.byte
  go_enter Tryd.func23, Tryd.ntmps23
  go_wp2_with (first
    | (go_at_call 42; refine (rfirst_any w).mono ?_; rintro e w1 ⟨rfl, hw1⟩; have F1 : CW w1 w.heap.size H0 := by rw [hw1]; exact tab_cw w H0 _
       have B1 : Below w.heap.size w w1 := by rw [hw1]; exact (Below.refl _ w).alloc (Nat.le_refl _) _
       have s1 : w1.heap.size = w.heap.size + 1 := by rw [hw1]; simp
       clear hw1)
    | (go_at_call 43; refine (rcubes_any w1).mono ?_; rintro e w2 ⟨rfl, hw2⟩; rw [s1]; have D2 : Below w1.heap.size w1 w2 := by rw [hw2]; exact (Below.refl _ w1).alloc (Nat.le_refl _) _
       have K2 : CW w2 (w.heap.size + 1) K0 := by rw [hw2, ← s1]; exact tab_cw w1 K0 _
       have B2 : Below w.heap.size w w2 := B1.trans (D2.mono (by omega))
       have F2 := F1.below D2 (by omega)
       have s2 : w2.heap.size = w.heap.size + 2 := by rw [hw2]; simp [s1]
       clear hw2 F1 B1 D2 s1)
    | (at_builtin; refine wpList_app2 rfl (.tmp 12) (.tmp 13) rfl (w.heap.size + 2) (w.heap.size + 2) 0 0 [] rfl (by have h9 := World.ownsRow_lit (base := w.heap.size + 2) (e := 5) (size := 1) w2 #[] 0 (by omega) (by decide) rfl; rw [s2] at h9; exact h9) ao n cap bs rfl ((hS.below B2).below ((Below.refl _ w2).alloc (Nat.le_refl _) _)) (by omega) (by simp; omega) ?_; intro g3 c3 w3 own3 C3; have D3 : Below (w.heap.size + 2) w2 w3 := ((Below.refl _ w2).alloc (by omega) _).trans C3; simp only [Nat.zero_add, List.nil_append] at own3 ⊢; clear C3)
    | (at_builtin; refine wpList_app2 rfl (.tmp 14) (.tmp 15) rfl (w.heap.size + 2) g3 n c3 bs rfl (own3.alloc _) _ 1 1 [128] rfl (Sl.new w3 [128] (by intro x hx; rw [List.mem_singleton.1 hx]; omega) (by decide)) (by omega) (by have := D3.size; simp; omega) ?_; intro g4 c4 w4 own4 C4; have D4 : Below (w.heap.size + 2) w2 w4 := (D3.alloc (by have := D3.size; omega) _).trans C4; clear C4 own3 D3))
  have t4 := D4.size
  have B4 : Below w.heap.size w w4 := B2.trans (D4.mono (by omega))
  have F4 := F2.below D4 (by omega)
  have K4 := K2.below D4 (by omega)
  have hz : 9 ≤ pe n ∧ (n + 1 + (pe n - 9)) % 64 = 56 := by unfold pe; split <;> omega
  have hlow : ∀ k, k < pe n - 9 → (n + 1 + k) % 64 ≠ 56 := by unfold pe; split <;> (intro k hk; omega)
  clear B2 F2 K2 D4
  go_wp2_with fail
  go_loopw [5] (fun v wr => ∃ (k g c : Nat), k ≤ pe n - 9 ∧ v = .slice (some ⟨g, 0, none⟩) (n + 1 + k) c ∧ wr.ownsRow (w.heap.size + 2) 5 1 (.slice (some ⟨g, 0, none⟩) (n + 1 + k) c) (n + 1 + k) (bv (bs ++ 128 :: List.replicate k 0)) ∧ Below w.heap.size w wr ∧ CW wr w.heap.size H0 ∧ CW wr (w.heap.size + 1) K0 ∧ w.heap.size + 2 ≤ wr.heap.size) (fun v _ => 72 + n - lenOf v)
  case atStart => exact ⟨0, g4, c4, by omega, rfl, own4, B4, F4, K4, by omega⟩
  case round =>
    clear own4 B4 F4 K4 t4
    obtain ⟨k, g, c, hk, rfl, own5, B5, F5, K5, t5⟩ := hrel
    by_cases hlt : k < pe n - 9
    · have hne : (((n + 1 + k : Nat) : Int).tmod 64 != 56) = true := by
        rw [Int.tmod_eq_emod_of_nonneg (by omega)]
        have := hlow k hlt
        simp
        omega
      go_wp2_with (at_builtin; refine wpList_app2 rfl (.tmp 21) (.tmp 22) rfl (w.heap.size + 2) g (n + 1 + k) c _ rfl (own5.alloc _) _ 1 1 [0] rfl (Sl.new wr [0] (by intro x hx; rw [List.mem_singleton.1 hx]; omega) (by decide)) (by omega) (by simp; omega) ?_; intro g6 c6 w6 own6 C6; have D6 : Below (w.heap.size + 2) wr w6 := ((Below.refl _ wr).alloc t5 _).trans C6; clear C6)
      go_roundw
      case rel =>
        refine ⟨k + 1, g6, c6, by omega, rfl, ?_, B5.trans (D6.mono (by omega)), F5.below D6 (by omega), K5.below D6 (by omega), by have := D6.size; omega⟩
        have e : bs ++ 128 :: List.replicate k 0 ++ [0] = bs ++ 128 :: List.replicate (k + 1) 0 := by
          rw [List.replicate_succ']
          simp
        rw [e] at own6
        exact own6
      case measure => simp [lenOf]; omega
    · obtain rfl : k = pe n - 9 := by omega
      obtain ⟨z, hz'⟩ : ∃ z, z = pe n - 9 := ⟨_, rfl⟩
      have HZ : Hid (z = pe n - 9) := hz'
      rw [← hz'] at own5 hz ⊢
      have hne : (((n : Int) + 1 + (z : Int)) % 64 != 56) = false := by
        have := hz.2
        simp
        omega
      have hzl : z ≤ 63 := by omega
      have HQ : Hid ((n + 1 + z) % 64 = 56) := hz.2
      clear hz' hlow hk hlt hz
      go_wp2_with fail
      clear hne
      go_loopw [5, 7] (fun v i wr => ∃ (q g c : Nat), q ≤ 8 ∧ v = .slice (some ⟨g, 0, none⟩) (n + 1 + z + (8 - q)) c ∧ i = .int .i64 ((q : Int) - 1) ∧ wr.ownsRow (w.heap.size + 2) 5 1 (.slice (some ⟨g, 0, none⟩) (n + 1 + z + (8 - q)) c) (n + 1 + z + (8 - q)) (bv (bs ++ 128 :: (List.replicate z 0 ++ (be8 (n * 8)).take (8 - q)))) ∧ Below w.heap.size w wr ∧ CW wr w.heap.size H0 ∧ CW wr (w.heap.size + 1) K0 ∧ w.heap.size + 2 ≤ wr.heap.size) (fun _ i _ => (intOf i + 1).toNat)
      case atStart => exact ⟨8, g, c, by omega, rfl, rfl, by simpa using own5, B5, F5, K5, t5⟩
      case round =>
        clear own5 B5 F5 K5 t5
        obtain ⟨q, g, c, hq, rfl, rfl, own6, B6, F6, K6, t6⟩ := hrel
        cases q with
        | succ q =>
          have eq1 : (((q + 1 : Nat) : Int) - 1) = (q : Int) := by omega
          rw [eq1]
          clear eq1
          have hq7 : (q : Int) ≤ 7 := by omega
          obtain ⟨m, hm⟩ : ∃ m, m = n + 1 + z + (8 - (q + 1)) := ⟨_, rfl⟩
          rw [← hm] at own6 ⊢
          have HM : Hid (m + 1 = n + 1 + z + (8 - q)) := (by omega : m + 1 = n + 1 + z + (8 - q))
          have hmb : m ≤ 100100 := by omega
          obtain ⟨y, hy⟩ : ∃ y : Int, y = ((n * 8 / 2 ^ (8 * q) % 256 : Nat) : Int) := ⟨_, rfl⟩
          have hy1 : 0 ≤ y ∧ y ≤ 255 := by
            rw [hy]
            generalize n * 8 / 2 ^ (8 * q) = x
            omega
          have HV : Hid (bits .and .u64 ((n : Int) * 8 / 2 ^ (8 * q)) 255 % 256 = y) := by rw [hy]; exact byte_of n q hn
          have HY : Hid (y = ((n * 8 / 2 ^ (8 * q) % 256 : Nat) : Int)) := hy
          clear hm hy
          go_wp2_with (at_builtin; rw [HV.out]; refine wpList_app2 rfl (.tmp 32) (.tmp 40) rfl (w.heap.size + 2) g m c _ rfl (own6.alloc _) _ 1 1 [y] rfl (Sl.new wr [y] (by intro x hx; rw [List.mem_singleton.1 hx]; exact hy1) (by simp [maxLen])) (by omega) (by simp; omega) ?_; intro g6 c6 w6 own7 C6; have D6 : Below (w.heap.size + 2) wr w6 := ((Below.refl _ wr).alloc t6 _).trans C6; clear C6)
          go_roundw
          case rel =>
            rw [HM.out] at own7
            refine ⟨q, g6, c6, by omega, by rw [HM.out], by go_num, ?_, B6.trans (D6.mono (by omega)), F6.below D6 (by omega), K6.below D6 (by omega), by have := D6.size; omega⟩
            have e : bs ++ 128 :: (List.replicate z 0 ++ (be8 (n * 8)).take (8 - (q + 1))) ++ [y] = bs ++ 128 :: (List.replicate z 0 ++ (be8 (n * 8)).take (8 - q)) := by
              rw [← be8_take (n * 8) q (by omega), HY.out]
              simp
            rw [e] at own7
            exact own7
          case measure => simp [intOf]
        | zero =>
          have eq0 : (((0 : Nat) : Int) - 1) = -1 := rfl
          rw [eq0]
          clear eq0
          obtain ⟨al, hal⟩ : ∃ al, al = bs ++ padL bs.length := ⟨_, rfl⟩
          have e1 : bs ++ 128 :: (List.replicate z 0 ++ (be8 (n * 8)).take (8 - 0)) = al := by
            rw [hal, padL_ref, hln, ← HZ.out]
            have : n * 8 % 18446744073709551616 = n * 8 := by omega
            rw [this]
            rfl
          rw [e1] at own6
          have hlen : n + 1 + z + (8 - 0) = al.length := by
            rw [← e1]
            simp [be8_len, hln]
            omega
          have h64 : al.length % 64 = 0 := by rw [← hlen]; have := HQ.out; omega
          rw [hlen] at own6 ⊢
          have hbA : Byt al := by
            rw [← e1]
            refine hbB.append ?_
            intro x hx
            simp only [List.mem_cons, List.mem_append] at hx
            rcases hx with rfl | hx | hx
            · omega
            · have := (List.mem_replicate.1 hx).2; omega
            · have := List.mem_of_mem_take hx
              simp only [be8, List.mem_map] at this
              obtain ⟨j, _, rfl⟩ := this
              omega
          have hal2 : al.length ≤ 100200 := by omega
          have HW : Hid (wds bs = XS al (al.length / 64)) := by rw [hal]; exact wds_XS bs
          have hsl := Sl.own own6 hbA
          obtain ⟨ao', cap', hve, S6, _⟩ := hsl
          simp only [Value.slice.injEq] at hve
          obtain ⟨rfl, -, rfl⟩ := hve
          have R6 : R3 w wr al 0 w.heap.size 8 g 0 al.length c := ⟨B6, by rw [XS_zero]; exact F6, K6, by simpa using S6, by omega, by omega⟩
          clear hal e1 hlen own6 B6 F6 K6 S6 hbA HQ HZ
          go_wp2_with fail
          go_loopw [3, 5] (fun h v wr => ∃ (i gh ch bb ob nb cb : Nat), h = .slice (some ⟨gh, 0, none⟩) 8 ch ∧ v = .slice (some ⟨bb, ob, none⟩) nb cb ∧ R3 w wr al i gh ch bb ob nb cb) (fun _ v _ => lenOf v)
          case atStart => exact ⟨0, w.heap.size, 8, g, 0, al.length, c, rfl, rfl, R6⟩
          case round =>
            clear R6
            obtain ⟨i, gh, ch, bb, ob, nb, cb, rfl, rfl, R7⟩ := hrel
            have hnb := R7.nb
            by_cases h0 : 0 < nb
            · have h64n : 64 ≤ nb := by omega
              have h0i : (0 : Int) < (nb : Int) := by omega
              have hs2 : ∀ w', (Instr.slice 23 (.slice (some ⟨bb, ob, none⟩) nb cb) (some (.int .i64 64)) none none).run Tryd.prog w' = .ok (.slice (some (if cb = 64 then (⟨bb, ob, none⟩ : Addr) else (⟨bb, ob, none⟩ : Addr).add 64)) (nb - 64) (cb - 64)) w' := slice22l ⟨bb, ob, none⟩ nb cb 64 h64n
              obtain ⟨ob2, e2⟩ : ∃ ob2, (if cb = 64 then (⟨bb, ob, none⟩ : Addr) else (⟨bb, ob, none⟩ : Addr).add 64) = ⟨bb, ob2, none⟩ := by
                split
                · exact ⟨_, rfl⟩
                · exact ⟨_, add_at _ _ _⟩
              rw [e2] at hs2
              have HE2 : Hid ((if cb = 64 then (⟨bb, ob, none⟩ : Addr) else (⟨bb, ob, none⟩ : Addr).add 64) = ⟨bb, ob2, none⟩) := e2
              clear e2
              go_wp2_with (go_at_call 44; refine (rblock_any wr gh ch (w.heap.size + 1) 64 bb ob nb cb _ _ (R7.bin h64n) h64n).mono ?_; rintro e w8 ⟨g8, rfl, C8, B8⟩)
              go_roundw
              case rel =>
                rw [XS_succ] at C8
                have S8 := (R7.s.below B8).cut 64 h64n
                rw [HE2.out, List.drop_drop] at S8
                have hsz := R7.bel.size
                have hkk := R7.k.lt (by decide)
                refine ⟨i + 1, g8, 8, bb, ob2, nb - 64, cb - 64, rfl, rfl, R7.bel.trans (B8.mono hsz), C8, R7.k.below B8 hkk, ?_, by omega, C8.lt (by rw [XS_len]; decide)⟩
                have e : 64 * i + 64 = 64 * (i + 1) := by omega
                rw [e] at S8
                exact S8
              case measure => simp [lenOf]; omega
            · have hi2 : i = al.length / 64 := by omega
              have F8 := R7.st
              have B8 := R7.bel
              have hgh := R7.gh
              have hsz := B8.size
              have HO : Hid (outL (wds bs) 8 = sumL bs) := outL_all bs
              rw [← hi2] at HW
              have hXr := XS_rng al i
              have hXl := XS_len al i
              rw [HW.out] at HO
              generalize XS al i = X at F8 HO hXr hXl
              clear hi2 R7 HW
              obtain rfl : nb = 0 := by omega
              clear hnb h0 h64 hal2
              obtain ⟨b0, hb0⟩ : ∃ b0, b0 = wr.heap.size := ⟨_, rfl⟩
              obtain ⟨w0, hw0⟩ : ∃ w0, w0 = wr := ⟨_, rfl⟩
              rw [← hw0] at F8 B8 hgh hsz hb0
              have D8 : Below b0 w0 wr := by rw [hw0]; exact Below.refl _ _
              clear hw0
              go_wp2_with fail
              go_loopw [8, 9] (fun v i wz => ∃ k : Nat, k ≤ 8 ∧ i = .int .i64 k ∧ Below b0 w0 wz ∧ wz.ownsRow b0 5 1 v (4 * k) (bv (outL X k))) (fun _ i _ => 8 - (intOf i).toNat)
              case atStart => exact ⟨0, by omega, rfl, D8, World.ownsRow_nil _ _ _ _⟩
              case round =>
                clear D8
                obtain ⟨k, hk, rfl, D9, own9⟩ := hrel
                by_cases hlt : k < 8
                · have hki : (k : Int) < 8 := by omega
                  have c9 := (F8.below D9 (by omega)) k (by omega)
                  have c0 := F8 k (by omega)
                  obtain ⟨x, hx⟩ : ∃ x, x = X.getD k 0 := ⟨_, rfl⟩
                  have hxr := hXr k
                  rw [← hx] at c9 c0 hxr
                  have HX : Hid (x = X.getD k 0) := hx
                  clear hx
                  have hs9 := D9.size
                  have HC0 : Hid (w0.cell? ⟨gh, k, none⟩ = some (.int .u32 x)) := c0
                  clear c0
                  go_wp2_with fail
                  have HV0 : Hid (IntKind.u8.wrap (x / 16777216) = x / 16777216 % 256) := IntKind.wrap_u8 _
                  have HV1 : Hid (IntKind.u8.wrap (bits .and .u32 (x / 65536) 255) = x / 65536 % 256) := by
                    show _ = _
                    rw [mask32 _ (by omega) (by omega), IntKind.wrap_u8]
                    omega
                  have HV2 : Hid (IntKind.u8.wrap (bits .and .u32 (x / 256) 255) = x / 256 % 256) := by
                    show _ = _
                    rw [mask32 _ (by omega) (by omega), IntKind.wrap_u8]
                    omega
                  have HV3 : Hid (IntKind.u8.wrap (bits .and .u32 x 255) = x % 256) := by
                    show _ = _
                    rw [mask32 _ (by omega) (by omega), IntKind.wrap_u8]
                    omega
                  go_region_held3 (fun w' => w'.cell? ⟨gh, k, none⟩ = some (.int .u32 x)) (first | go_keep | assumption | exact (D7.cell (p := ⟨gh, k, none⟩) (by show gh < b0; omega)).trans HC0.out) ((rw [HV0.out, HV1.out, HV2.out, HV3.out]; refine step_app (by rfl) (.tmp 55) (.tmp 82) (by rfl) b0 _ (4 * k) (outL X k) (by rfl) (by exact World.ownsRow.alloc own9 _) _ 4 4 (b4 x) (by rfl) (by exact (Sl.new wr (b4 x) (b4_byte x) (by simp [b4, maxLen])).drewd) (by decide) (by omega) (by simp; omega) ?_; intro v7 w7 own7 C7 _; have D7 : Below b0 w0 w7 := (D9.alloc (by omega) _).drew.trans C7; clear C7))
                  go_wp2
                  go_roundw
                  case rel =>
                    refine ⟨k + 1, by omega, by go_num, D7, ?_⟩
                    rw [outL_succ X k (by omega), ← HX.out, Nat.mul_add]
                    exact own7
                  case measure => simp [intOf]; omega
                · obtain rfl : k = 8 := by omega
                  go_wp2
                  go_ret
                  refine ⟨_, rfl, ?_, B8.trans (D9.mono (by omega))⟩
                  rw [← HO.out]
                  exact own_base own9 (by omega)

end Go.Proofs.YtnicnfjickknjaaDoor

namespace Go.Proofs.YtnicnfjickknjaaDoor
open Go.RowKit

set_option maxRecDepth 100000 in
set_option maxHeartbeats 1000000 in
theorem rof_any (w : World) (s : ByteArray) (ao : Option Addr) (n cap : Nat) (ps : List Part) (hP : PL w ao n cap ps) (hs : s.size ≤ 1000000) (hn : n ≤ 1000000) (hq : ∀ q ∈ ps, q.n ≤ 1000000) (hL : (formL (sb s) (pxs ps)).length ≤ 100000) :
    Calls Tryd.prog 57 #[.string s, .slice ao n cap] w fun e w' => ∃ v, e = .returned v ∧ w'.ownsRow w.heap.size 5 1 v 32 (bv (sumL (formL (sb s) (pxs ps)))) ∧ Below w.heap.size w w' := by
  have hl := hP.len
  have fb := formL_byte s ps hs (by omega) (fun q hq' => ⟨(hP.sl q hq').byte, by rw [(hP.sl q hq').len]; exact hq q hq'⟩)
  go_enter Tryd.func57, Tryd.ntmps57
  go_wp2_with (go_at_call 75; refine (rform_any w s ao n cap ps hP hs hn hq).mono ?_; rintro e w1 ⟨v1, rfl, own1, B1⟩; obtain ⟨fo, fc, rfl, S1, -⟩ := Sl.own own1 fb; have s1 := B1.size; clear own1)
  refine (rsum_any w1 fo _ fc _ S1 hL).mono ?_
  rintro e w2 ⟨v2, rfl, own2, C2⟩
  have B2 : Below w.heap.size w w2 := B1.trans (C2.mono s1)
  go_wp2
  go_ret
  exact ⟨_, rfl, own_base own2 s1, B2⟩

theorem formL_len (s : ByteArray) (ps : List Part) (B : Nat) (hs : s.size < 18446744073709551616) (hn : ps.length < 18446744073709551616) (hB : B < 18446744073709551616) (h : ∀ q ∈ ps, q.xs.length ≤ B) : (formL (sb s) (pxs ps)).length ≤ 20 + s.size + ps.length * (B + 10) := by
  have h1 := fmP_le (pxs ps) B hB (fun x hx => by obtain ⟨q, hq, rfl⟩ := List.mem_map.1 hx; exact h q hq)
  have h2 := enc_length (n := s.size) hs
  have h3 := enc_length (n := ps.length) hn
  rw [pxs_len] at h1
  unfold formL
  rw [sb_len, pxs_len]
  simp only [List.length_append, sb_len]
  omega

end Go.Proofs.YtnicnfjickknjaaDoor

namespace Go.Proofs.YtnicnfjickknjaaDoor
open Go.RowKit

theorem tw_at {α : Type} (p : α → Bool) : ∀ (l : List α) (j : Nat) (h : j < l.length), j < (l.takeWhile p).length → p l[j] = true
  | [], j, h, _ => by simp at h
  | a :: l, j, h, hj => by
    rw [List.takeWhile_cons] at hj
    split at hj
    · rename_i ha
      cases j with
      | zero => simpa using ha
      | succ j => simpa using tw_at p l j (by simpa using h) (by simpa using hj)
    · simp at hj
theorem tw_end {α : Type} (p : α → Bool) : ∀ (l : List α) (h : (l.takeWhile p).length < l.length), p (l[(l.takeWhile p).length]'h) = false
  | [], h => by simp at h
  | a :: l, h => by
    by_cases ha : p a = true
    · have e : (a :: l).takeWhile p = a :: l.takeWhile p := by rw [List.takeWhile_cons, if_pos ha]
      have h2 : (l.takeWhile p).length < l.length := by rw [e] at h; simpa using h
      have ih := tw_end p l h2
      simp only [e, List.length_cons, List.getElem_cons_succ]
      exact ih
    · have e : (a :: l).takeWhile p = [] := by rw [List.takeWhile_cons, if_neg ha]
      simp only [e, List.length_nil, List.getElem_cons_zero]
      simpa using ha

set_option maxHeartbeats 1000000 in
set_option maxRecDepth 100000 in
theorem rlevel_any (w : World) (ao : Option Addr) (n cap : Nat) (xs : List Int) (h : Sl w ao n cap xs) (hn : n ≤ 50000) :
    Calls Tryd.prog 38 #[.slice ao n cap] w fun e w' => e = .returned (.int .i64 (lev xs)) ∧ Below w.heap.size w w' := by
  have B0 : Below w.heap.size w (w.alloc (.cells #[.slice ao n cap] 23)) := (Below.refl _ w).alloc (Nat.le_refl _) _
  have P0 := pl_one w ao n cap xs h 23
  obtain ⟨D, hD⟩ : ∃ D, D = sumL (formL (sb lvS) [xs]) := ⟨_, rfl⟩
  have hDl : D.length = 32 := by rw [hD]; exact sumL_len _
  have hDb : Byt D := by rw [hD]; exact sumL_byte _
  have hfl : (formL (sb lvS) (pxs [⟨ao, n, cap, xs⟩])).length ≤ 100000 := by
    have := formL_len lvS [⟨ao, n, cap, xs⟩] 50000 (by decide) (by simp) (by decide) (by intro q hq; rw [List.mem_singleton.1 hq]; show xs.length ≤ 50000; rw [h.len]; exact hn)
    have e : lvS.size = 5 := rfl
    simp only [List.length_cons, List.length_nil, e] at this
    omega
  have CO := rof_any _ lvS (some ⟨w.heap.size, 0, none⟩) 1 1 [⟨ao, n, cap, xs⟩] P0 (by decide) (by decide) (by intro q hq; rw [List.mem_singleton.1 hq]; show n ≤ 1000000; omega) hfl
  rw [show formL (sb lvS) (pxs [⟨ao, n, cap, xs⟩]) = formL (sb lvS) [xs] from rfl, ← hD] at CO
  have HL : Hid (lev xs = ((hexL D).takeWhile fun c => c == 48).length) := by show _ = _; rw [hD]; rfl
  have hlv := lev_le xs
  obtain ⟨m, hm⟩ : ∃ m, m = lev xs := ⟨_, rfl⟩
  rw [← hm] at HL hlv ⊢
  clear hD hfl hm
  go_enter Tryd.func38, Tryd.ntmps38
  go_wp2_with fail
  refine CO.mono ?_
  rintro e w1 ⟨v1, rfl, own1, C1⟩
  obtain ⟨fo, fc, rfl, S1, -⟩ := Sl.own own1 hDb
  have B1 : Below w.heap.size w w1 := B0.trans (C1.mono B0.size)
  clear own1 C1 CO P0 B0
  go_wp2_with fail
  refine (rhex_any w1 fo 32 fc D S1 (by decide)).mono ?_
  rintro e w2 ⟨rfl, C2⟩
  have B2 : Below w.heap.size w w2 := B1.trans (C2.mono B1.size)
  obtain ⟨H, hH⟩ : ∃ H, H = strOfNums (hexL D) := ⟨_, rfl⟩
  have hs : H.size = 64 := by rw [hH, strOfNums_size, hexL_len, hDl]
  have hsb : Hid (sb H = hexL D) := by show _ = _; rw [hH]; exact sb_str (hexL_byte hDb)
  rw [← hH]
  clear hH C2 S1 B1
  have HS : Hid (H.size = 64) := hs
  have hs1 : H.size ≤ 64 := Nat.le_of_eq hs
  clear hs
  have hAt : ∀ k (hk : k < H.size), (H[k].toNat : Int) = (hexL D)[k]'(by rw [← hsb.out, sb_len]; exact hk) := by
    intro k hk
    have h1 := sb_at H k hk
    have hk2 : k < (sb H).length := by rw [sb_len]; exact hk
    rw [List.drop_eq_getElem_cons hk2] at h1
    have h2 := (List.cons.inj h1).1
    rw [← h2]
    simp only [hsb.out]
  have HA : Hid (∀ k (hk : k < H.size), (H[k].toNat : Int) = (hexL D)[k]'(by rw [← hsb.out, sb_len]; exact hk)) := hAt
  clear hAt
  go_wp2_with fail
  go_loopw [4] (fun a wr => ∃ k : Nat, a = .int .i64 k ∧ k ≤ m ∧ wr = w2) (fun a _ => m - (intOf a).toNat)
  case atStart => exact ⟨0, rfl, Nat.zero_le _, rfl⟩
  case round =>
    obtain ⟨k, rfl, hk, rfl⟩ := hrel
    by_cases hkm : k < m
    · have hk64 : k < H.size := by have := HS.out; omega
      have hki : (k : Int) < (H.size : Int) := by omega
      have hb : ((H[k].toNat : Int) == 48) = true := by
        rw [HA.out k hk64]
        exact tw_at (fun c : Int => c == 48) (hexL D) k (by rw [← hsb.out, sb_len]; exact hk64) (by rw [← HL.out]; exact hkm)
      go_wp2
      go_roundw
      case rel => exact ⟨k + 1, by go_num, by omega, trivial⟩
      case measure => simp [intOf]; omega
    · obtain rfl : k = m := by omega
      by_cases hk64 : k < H.size
      · have hki : (k : Int) < (H.size : Int) := by omega
        have hb : ((H[k].toNat : Int) == 48) = false := by
          rw [HA.out k hk64]
          have := tw_end (fun c : Int => c == 48) (hexL D) (by rw [← HL.out, ← hsb.out, sb_len]; exact hk64)
          simp only [← HL.out] at this
          exact this
        go_wp2
        go_ret
        exact ⟨rfl, B2⟩
      · have hki : ¬ (k : Int) < (H.size : Int) := by omega
        go_wp2
        go_ret
        exact ⟨rfl, B2⟩
end Go.Proofs.YtnicnfjickknjaaDoor

namespace Go.Proofs.YtnicnfjickknjaaDoor
open Go.RowKit

theorem rninfo : (Tryd.prog.info? 47).map (fun i => (i.zero, i.size, i.bytes)) = some (some (.pointer none), 1, 8) := by kernel_rfl
/-- l[j:i] -/
theorem run_midR {W : World} {ao : Option Addr} {n cap j i : Nat} (h1 : j ≤ i) (h2 : i ≤ cap) :
    (Instr.sliceAt 26 (.slice ao n cap) (some (.int .i64 (j : Nat))) (some (.int .i64 (i : Nat))) none).run Tryd.prog W = .ok (.slice (bk2 ao cap j) (i - j) (cap - j)) W := by
  have ht := Tryd.underlying26
  have he : Tryd.prog.elem 26 = 43 := by simp [Program.elem, ht]
  rw [run_sliceAt_slice W 26 _ _ _ _ (by rw [he]; exact ht), run_slice_lh W 26 ao n cap (by rw [he]; exact ht) .i64 .i64 j i (by omega) (by omega) (by omega), he, size2]
  simp only [Result.andThen_ok, sliced, Int.toNat_natCast, bk2]
theorem IL.cells2 {w w' : World} {b off n cap : Nat} {its : List IP} (h : IL w (some ⟨b, off, none⟩) n cap its) (hb : Below w.heap.size w w') (i : Nat) (hi : i < its.length) :
    w'.cell? ⟨b, off + i * 2, none⟩ = some (.slice its[i].k.ao its[i].k.n its[i].k.cap) ∧ w'.cell? ⟨b, off + i * 2 + 1, none⟩ = some (.slice its[i].v.ao its[i].v.n its[i].v.cap) := by
  have := (h.below hb).cell _ rfl i hi
  rw [Addr.add_lit, Addr.add_lit, ← Nat.add_assoc] at this
  exact this
/-- While a node's lists are being made. -/
structure RSh (w0 wI wr : World) (M : Nat) (l : List It) (i fr : Nat) (k v c : Value) (ks vs : List Part) (us : List Value) (segs : List (List It)) (xs : List It) : Prop where
  nb : NB wr wI.heap.size wI.heap.size 71 47 (M : Int) k v c (ks.map Part.val) (vs.map Part.val) us
  b : Below wI.heap.size wI wr
  prt : Prt lev M l i fr segs xs
  ek : ks.map Part.xs = xs.map It.k
  ev : vs.map Part.xs = xs.map It.v
  kf : KidsF wr w0.heap.size wI.heap.size wI.heap.size k v c us segs
  sk : ∀ q ∈ ks, Sl w0 q.ao q.n q.cap q.xs
  sv : ∀ q ∈ vs, Sl w0 q.ao q.n q.cap q.xs

set_option maxHeartbeats 4000000 in
set_option maxRecDepth 100000 in
theorem rshape_fuel (w0 : World) : ∀ (N : Nat) (wI : World) (ao : Option Addr) (n cap : Nat) (its : List IP) (_ : IL wI ao n cap its) (_ : ∀ q ∈ its, q.ok w0 ∧ q.k.n ≤ 50000) (_ : Below w0.heap.size w0 wI) (_ : n ≤ 50000) (_ : n ≤ N),
    Calls Tryd.prog 16 #[.slice ao n cap] wI (OnT w0.heap.size wI (its.map IP.it)) := by
  intro N
  induction N using Nat.strongRecOn with | _ N ih => ?_
  intro wI ao n cap its hL hok h0 hn hN
  have hl1 := Nat.le_of_eq hL.len
  have hl2 := Nat.le_of_eq hL.len.symm
  have hni : (n : Int) ≤ 50000 := by omega
  by_cases hz : n = 0
  · subst hz
    obtain rfl : its = [] := List.eq_nil_of_length_eq_zero hL.len
    go_enter Tryd.func16, Tryd.ntmps16
    go_wp2
    go_ret
    exact OnT.nil _ _
  obtain ⟨b, off, rfl, hc⟩ := hL.at (by omega)
  clear hc
  have hzi : ¬ (n : Int) = 0 := by omega
  go_enter Tryd.func16, Tryd.ntmps16
  go_wp2
  go_loopw [4] (fun i wr => ∃ (kk M : Nat), kk ≤ n ∧ i = .int .i64 kk ∧ NB wr wI.heap.size wI.heap.size 71 47 (M : Int) (.slice none 0 0) (.slice none 0 0) (.slice none 0 0) [] [] [] ∧ Below wI.heap.size wI wr ∧ Hid (∀ j (h : j < its.length), j < kk → lev its[j].k.xs ≤ M) ∧ Hid (M = 0 ∨ ∃ q ∈ its, lev q.k.xs = M)) (fun i _ => n - (intOf i).toNat)
  case atStart => exact ⟨0, 0, Nat.zero_le _, rfl, NB.new wI 71 47 0, (Below.refl _ _).alloc (Nat.le_refl _) _, fun j _ h => by omega, .inl rfl⟩
  case round =>
    obtain ⟨kk, M, hkk, rfl, N, B, HLE, HEX⟩ := hrel
    by_cases hlt : kk < n
    · have hki : (kk : Int) < (n : Int) := by omega
      have hkl : kk < its.length := by omega
      obtain ⟨q, hq⟩ : ∃ q, q = its[kk] := ⟨_, rfl⟩
      have HQ : Hid (q = its[kk]) := hq
      have HC : Hid (∀ V, Below wI.heap.size wI V → V.cell? ⟨b, off + kk * 2, none⟩ = some (.slice q.k.ao q.k.n q.k.cap) ∧ V.cell? ⟨b, off + kk * 2 + 1, none⟩ = some (.slice q.v.ao q.v.n q.v.cap)) := fun V hV => by rw [hq]; exact hL.cells2 hV kk hkl
      have hqo := hok q (by rw [hq]; exact List.getElem_mem _)
      have hqI := hqo.1.below h0
      have hqn := hqo.2
      clear hq
      go_wp2
      have E0 : Below wr.heap.size wr wr.drew := (Below.refl _ _).drew
      refine wp_region_noPanic ?_
      refine wp_region_held_drew (S := fun _ => True) (by kernel_rfl) trivial (fun _ => ?_)
      obtain ⟨v0, hv0⟩ : ∃ v, v = wr.drew := ⟨_, rfl⟩
      rw [← hv0] at E0 ⊢
      clear hv0
      refine hr_take_w 0 (some 18) (.pointer (some ⟨wI.heap.size, 0, none⟩)) rfl rfl (by kernel_rfl) (by kernel_rfl) (by kernel_rfl) rfl (fun W hW => by go_simp) trivial ?_
      simp only [Act.put, List.setIfInBounds_toArray, List.set_cons_zero, List.set_cons_succ]
      refine hr_take_w 1 (some 19) (.pointer (some ⟨wI.heap.size, 0, none⟩)) rfl rfl (by kernel_rfl) (by kernel_rfl) (by kernel_rfl) rfl (fun W hW => by go_simp) trivial ?_
      simp only [Act.put, List.setIfInBounds_toArray, List.set_cons_zero, List.set_cons_succ]
      refine hr_take_w 2 (some 20) (.pointer (some ⟨wI.heap.size, 0, none⟩)) rfl rfl (by kernel_rfl) (by kernel_rfl) (by kernel_rfl) rfl (fun W hW => by go_simp) trivial ?_
      simp only [Act.put, List.setIfInBounds_toArray, List.set_cons_zero, List.set_cons_succ]
      refine hr_take_w 3 (some 21) (.pointer (some ⟨wI.heap.size, 0, none⟩)) rfl rfl (by kernel_rfl) (by kernel_rfl) (by kernel_rfl) rfl (fun W hW => by go_simp) trivial ?_
      simp only [Act.put, List.setIfInBounds_toArray, List.set_cons_zero, List.set_cons_succ]
      refine hr_take_w 5 (some 23) (.slice (some ⟨b, off, none⟩) n cap) rfl rfl (by kernel_rfl) (by kernel_rfl) (by kernel_rfl) rfl (fun W hW => by go_simp) trivial ?_
      simp only [Act.put, List.setIfInBounds_toArray, List.set_cons_zero, List.set_cons_succ]
      refine hr_take_w 6 (some 24) (.int .i64 (kk : Nat)) rfl rfl (by kernel_rfl) (by kernel_rfl) (by kernel_rfl) rfl (fun W hW => by go_simp) trivial ?_
      simp only [Act.put, List.setIfInBounds_toArray, List.set_cons_zero, List.set_cons_succ]
      refine hr_take_w 7 (some 25) (.pointer (some ⟨b, off + kk * 2, none⟩)) rfl rfl (by kernel_rfl) (by kernel_rfl) (by kernel_rfl) rfl (fun W hW => by go_simp) trivial ?_
      simp only [Act.put, List.setIfInBounds_toArray, List.set_cons_zero, List.set_cons_succ]
      refine hr_take_w 8 (some 26) (.pointer (some ⟨b, off + kk * 2, none⟩)) rfl rfl (by kernel_rfl) (by kernel_rfl) (by kernel_rfl) rfl (fun W hW => by go_simp) trivial ?_
      simp only [Act.put, List.setIfInBounds_toArray, List.set_cons_zero, List.set_cons_succ]
      refine wpAnyH_effto 3 (fun zi zv zw => (zi = 4 → zv = .int .i64 (M : Nat)) ∧ (zi = 9 → zv = .slice q.k.ao q.k.n q.k.cap) ∧ (zi = 10 → zv = .int .i64 (lev q.k.xs : Nat)) ∧ (zi = 11 → zv = .int .i64 (max M (lev q.k.xs) : Nat))) [(4, 22), (9, 27), (10, 28), (11, 29)] 107 (by kernel_rfl) (by decide) (by decide) rfl ?_ (fun _ _ => trivial) ?_ ?_
      · intro zi v w w' h hb
        refine ⟨fun e => ?_, fun e => ?_, fun e => ?_, fun e => ?_⟩
        · have h := h.1 e
          exact h
        · have h := h.2.1 e
          exact h
        · have h := h.2.2.1 e
          exact h
        · have h := h.2.2.2 e
          exact h
      · intro zp zhi o a w ho hs hb hdep
        have EB := E0.trans (hb.mono E0.size)
        simp only [List.mem_cons, List.not_mem_nil, or_false] at zhi
        rcases zhi with rfl | rfl | rfl | rfl
        · obtain rfl : _ = o := Option.some.inj (show some _ = some o from ho)
          have t21 : a.tmps[21]? = some (.pointer (some ⟨wI.heap.size, 0, none⟩)) := hs.get 21 (by kernel_rfl) rfl
          have N' := N.below EB
          have lc := N'.arr.cell 0
          exact .inl ⟨.int .i64 (M : Nat), w, by go_simp, ⟨fun _ => rfl, fun e => absurd e (by decide), fun e => absurd e (by decide), fun e => absurd e (by decide)⟩, Below.refl _ _⟩
        · obtain rfl : _ = o := Option.some.inj (show some _ = some o from ho)
          have t26 : a.tmps[26]? = some (.pointer (some ⟨b, off + kk * 2, none⟩)) := hs.get 26 (by kernel_rfl) rfl
          have lc := (HC.out w (B.trans (EB.mono B.size))).1
          exact .inl ⟨.slice q.k.ao q.k.n q.k.cap, w, by go_simp, ⟨fun e => absurd e (by decide), fun _ => rfl, fun e => absurd e (by decide), fun e => absurd e (by decide)⟩, Below.refl _ _⟩
        · obtain rfl : _ = o := Option.some.inj (show some _ = some o from ho)
          obtain ⟨x27, t27, f27⟩ := (hdep 9 (by kernel_rfl)).at 27 (by kernel_rfl)
          replace f27 := f27.2.1 rfl
          subst f27
          refine .inr ⟨38, #[.slice q.k.ao q.k.n q.k.cap], by go_simp, (rlevel_any w q.k.ao q.k.n q.k.cap q.k.xs (hqI.1.below (B.trans (EB.mono B.size))) hqn).mono ?_⟩
          rintro e w' ⟨rfl, C⟩
          exact ⟨_, rfl, ⟨fun e => absurd e (by decide), fun e => absurd e (by decide), fun _ => rfl, fun e => absurd e (by decide)⟩, C⟩
        · obtain rfl : _ = o := Option.some.inj (show some _ = some o from ho)
          obtain ⟨x22, t22, f22⟩ := (hdep 4 (by kernel_rfl)).at 22 (by kernel_rfl)
          replace f22 := f22.1 rfl
          obtain ⟨x28, t28, f28⟩ := (hdep 10 (by kernel_rfl)).at 28 (by kernel_rfl)
          replace f28 := f28.2.2.1 rfl
          subst f22
          subst f28
          exact .inl ⟨.int .i64 (max M (lev q.k.xs) : Nat), w, by go_simp; omega, ⟨fun e => absurd e (by decide), fun e => absurd e (by decide), fun e => absurd e (by decide), fun _ => rfl⟩, Below.refl _ _⟩
      intro zf v1 hb hh
      have E1 := E0.trans (hb.mono E0.size)
      obtain e4 := (hh (4, 22) (by simp)).1 rfl
      obtain e9 := (hh (9, 27) (by simp)).2.1 rfl
      obtain e10 := (hh (10, 28) (by simp)).2.2.1 rfl
      obtain e11 := (hh (11, 29) (by simp)).2.2.2 rfl
      clear hh hb
      simp only [putL, List.foldl_cons, List.foldl_nil, e4, e9, e10, e11]
      clear e4 e9 e10 e11
      simp only [Act.put, List.setIfInBounds_toArray, List.set_cons_zero, List.set_cons_succ]
      have N1 := N.below E1
      have lc := N1.arr.cell 0
      have lf := N1.arr.free 0
      obtain ⟨N2, C2, B2⟩ := N1.level (by decide) (by decide) ((max M (lev q.k.xs) : Nat) : Int)
      refine hr_take_w 12 (some 30) (.pointer (some ⟨wI.heap.size, 0, none⟩)) rfl rfl (by kernel_rfl) (by kernel_rfl) (by kernel_rfl) rfl (fun W hW => by go_simp) trivial ?_
      simp only [Act.put, List.setIfInBounds_toArray, List.set_cons_zero, List.set_cons_succ]
      refine hr_take_w 13 (some 31) (.pointer (some ⟨wI.heap.size, 0, none⟩)) rfl rfl (by kernel_rfl) (by kernel_rfl) (by kernel_rfl) rfl (fun W hW => by go_simp) trivial ?_
      simp only [Act.put, List.setIfInBounds_toArray, List.set_cons_zero, List.set_cons_succ]
      refine hr_skip 14 none (w' := v1.setCell ⟨wI.heap.size, 0, none⟩ (.int .i64 (max M (lev q.k.xs) : Nat))) rfl rfl (by kernel_rfl) rfl (by go_simp) trivial ?_
      simp only [Act.put]
      refine wpAnyH_done (by kernel_rfl) ?_ _
      refine NoPanic.normal ?_
      clear lc lf
      have B3 := B.trans ((E1.mono B.size).trans B2)
      go_wp2
      go_roundw
      case rel =>
        refine ⟨kk + 1, max M (lev q.k.xs), by omega, by go_num, N2, B3, fun j hj hjk => ?_, ?_⟩
        · by_cases hjj : j = kk
          · subst hjj
            rw [← HQ.out]
            omega
          · have := HLE.out j hj (by omega)
            omega
        · by_cases hmx : M ≤ lev q.k.xs
          · exact .inr ⟨its[kk], List.getElem_mem _, by rw [← HQ.out]; omega⟩
          · rcases HEX.out with h | ⟨y, hy, hyl⟩
            · exact absurd h (by omega)
            · exact .inr ⟨y, hy, by omega⟩
      case measure => simp [intOf]; omega
    · have hge : ¬ (kk : Int) < (n : Int) := by omega
      have hkn : n = kk := by omega
      subst hkn
      have HMX : Hid (∀ j (h : j < its.length), lev its[j].k.xs ≤ M) := fun j h => HLE.out j h (by omega)
      have HEQ : Hid (∃ q ∈ its, lev q.k.xs = M) := by
        rcases HEX.out with h | h
        · exact ⟨its[0], List.getElem_mem (by omega), by have := HMX.out 0 (by omega); omega⟩
        · exact h
      clear HLE HEX
      go_wp2
      go_loopw [5, 6] (fun f i wr => ∃ (ii fr : Nat) (k v c : Value) (ks vs : List Part) (us : List Value) (segs : List (List It)) (xs : List It), i = .int .i64 ii ∧ f = .int .i64 fr ∧ RSh w0 wI wr M (its.map IP.it) ii fr k v c ks vs us segs xs) (fun _ i _ => n - (intOf i).toNat)
      case atStart => exact ⟨0, 0, _, _, _, [], [], [], [], [], rfl, rfl, N, B, Prt.start _ _ _, rfl, rfl, KidsF.nil _ _ _ _ _ _ _, fun _ h => by simp at h, fun _ h => by simp at h⟩
      case round =>
        clear N B
        obtain ⟨ii, fr, k, v, c, ks, vs, us, segs, xs, rfl, rfl, H⟩ := hrel
        have hfr := H.prt.le
        have hin : ii ≤ n := by have := H.prt.hi; rw [List.length_map] at this; omega
        have hic : ii ≤ cap := Nat.le_trans hin hL.le
        by_cases hlt : ii < n
        · have hki : (ii : Int) < (n : Int) := by omega
          have hkl : ii < its.length := by omega
          obtain ⟨q, hq⟩ : ∃ q, q = its[ii] := ⟨_, rfl⟩
          have HQ : Hid (q = its[ii]) := hq
          have HC : Hid (∀ V, Below wI.heap.size wI V → V.cell? ⟨b, off + ii * 2, none⟩ = some (.slice q.k.ao q.k.n q.k.cap) ∧ V.cell? ⟨b, off + ii * 2 + 1, none⟩ = some (.slice q.v.ao q.v.n q.v.cap)) := fun V hV => by rw [hq]; exact hL.cells2 hV ii hkl
          have hqo := hok q (by rw [hq]; exact List.getElem_mem _)
          have hqI := hqo.1.below h0
          have hqn := hqo.2
          have HQI : Hid (∀ (hh : ii < (its.map IP.it).length), (its.map IP.it)[ii] = q.it) := fun hh => by rw [List.getElem_map, hq]
          clear hq
          have N := H.nb
          have B := H.b
          have KF := H.kf
          have HP := H.prt
          have HEK : Hid (ks.map Part.xs = xs.map It.k) := H.ek
          have HEV : Hid (vs.map Part.xs = xs.map It.v) := H.ev
          have HSK : Hid (∀ q ∈ ks, Sl w0 q.ao q.n q.cap q.xs) := H.sk
          have HSV : Hid (∀ q ∈ vs, Sl w0 q.ao q.n q.cap q.xs) := H.sv
          have hxl := H.prt.len
          have hkl2 := congrArg List.length H.ek
          have hvl := congrArg List.length H.ev
          have hsl : segs.length ≤ ii := H.prt.many
          rw [List.length_map, List.length_map] at hkl2 hvl
          have HXL : Hid (ks.length ≤ 50000 ∧ vs.length ≤ 50000 ∧ segs.length ≤ 50000) := ⟨by omega, by omega, by omega⟩
          have HLL : Hid (segs.length = xs.length) := hxl
          clear H hxl hkl2 hvl hsl
          have lc0 := (HC.out wr B).1
          have lc3 := N.arr.cell 0
          by_cases hlv : lev q.k.xs = M
          · have hlvb : ((lev q.k.xs : Int) == (M : Int)) = true := by simp [hlv]
            have HLV : Hid (lev q.k.xs = M) := hlv
            clear hlv
            go_wp2
            have tHS : Hid (∀ V, Below wr.heap.size wr V → V.cell? ⟨b, off + ii * 2, none⟩ = some (.slice q.k.ao q.k.n q.k.cap) ∧ V.cell? ⟨wI.heap.size, 0, none⟩ = some (.int .i64 (M : Nat))) := fun V hV => ⟨(hV.cell (World.block_lt_of_cell? _ _ lc0)).trans lc0, (hV.cell (World.block_lt_of_cell? _ _ lc3)).trans lc3⟩
            have tE0 : Below wr.heap.size wr wr.drew := (Below.refl _ _).drew
            refine wp_region_noPanic ?_
            refine wp_region_held_drew (S := fun V => V.cell? ⟨b, off + ii * 2, none⟩ = some (.slice q.k.ao q.k.n q.k.cap) ∧ V.cell? ⟨wI.heap.size, 0, none⟩ = some (.int .i64 (M : Nat))) (by kernel_rfl) (tHS.out _ tE0) (fun tH0 => ?_)
            obtain ⟨tv0, hv0⟩ : ∃ v, v = wr.drew := ⟨_, rfl⟩
            rw [← hv0] at tH0 tE0 ⊢
            clear hv0
            refine hr_take_w 0 (some 38) (.slice (some ⟨b, off, none⟩) n cap) rfl rfl (by kernel_rfl) (by kernel_rfl) (by kernel_rfl) rfl (fun W hW => by obtain ⟨h0, h1⟩ := hW; go_simp) tH0 ?_
            simp only [Act.put, List.setIfInBounds_toArray, List.set_cons_zero, List.set_cons_succ]
            refine hr_take_w 1 (some 39) (.int .i64 (ii : Nat)) rfl rfl (by kernel_rfl) (by kernel_rfl) (by kernel_rfl) rfl (fun W hW => by obtain ⟨h0, h1⟩ := hW; go_simp) tH0 ?_
            simp only [Act.put, List.setIfInBounds_toArray, List.set_cons_zero, List.set_cons_succ]
            refine hr_take_w 2 (some 40) (.pointer (some ⟨b, off + ii * 2, none⟩)) rfl rfl (by kernel_rfl) (by kernel_rfl) (by kernel_rfl) rfl (fun W hW => by obtain ⟨h0, h1⟩ := hW; go_simp) tH0 ?_
            simp only [Act.put, List.setIfInBounds_toArray, List.set_cons_zero, List.set_cons_succ]
            refine hr_take_w 3 (some 41) (.pointer (some ⟨b, off + ii * 2, none⟩)) rfl rfl (by kernel_rfl) (by kernel_rfl) (by kernel_rfl) rfl (fun W hW => by obtain ⟨h0, h1⟩ := hW; go_simp) tH0 ?_
            simp only [Act.put, List.setIfInBounds_toArray, List.set_cons_zero, List.set_cons_succ]
            refine hr_take_w 4 (some 42) (.slice q.k.ao q.k.n q.k.cap) rfl rfl (by kernel_rfl) (by kernel_rfl) (by kernel_rfl) rfl (fun W hW => by obtain ⟨h0, h1⟩ := hW; go_simp) tH0 ?_
            simp only [Act.put, List.setIfInBounds_toArray, List.set_cons_zero, List.set_cons_succ]
            refine hr_take_w 6 (some 44) (.pointer (some ⟨wI.heap.size, 0, none⟩)) rfl rfl (by kernel_rfl) (by kernel_rfl) (by kernel_rfl) rfl (fun W hW => by obtain ⟨h0, h1⟩ := hW; go_simp) tH0 ?_
            simp only [Act.put, List.setIfInBounds_toArray, List.set_cons_zero, List.set_cons_succ]
            refine hr_take_w 7 (some 45) (.pointer (some ⟨wI.heap.size, 0, none⟩)) rfl rfl (by kernel_rfl) (by kernel_rfl) (by kernel_rfl) rfl (fun W hW => by obtain ⟨h0, h1⟩ := hW; go_simp) tH0 ?_
            simp only [Act.put, List.setIfInBounds_toArray, List.set_cons_zero, List.set_cons_succ]
            refine hr_take_w 8 (some 46) (.pointer (some ⟨wI.heap.size, 0, none⟩)) rfl rfl (by kernel_rfl) (by kernel_rfl) (by kernel_rfl) rfl (fun W hW => by obtain ⟨h0, h1⟩ := hW; go_simp) tH0 ?_
            simp only [Act.put, List.setIfInBounds_toArray, List.set_cons_zero, List.set_cons_succ]
            refine hr_take_w 9 (some 47) (.int .i64 (M : Nat)) rfl rfl (by kernel_rfl) (by kernel_rfl) (by kernel_rfl) rfl (fun W hW => by obtain ⟨h0, h1⟩ := hW; go_simp) tH0 ?_
            simp only [Act.put, List.setIfInBounds_toArray, List.set_cons_zero, List.set_cons_succ]
            refine hr_call_w 5 (some 43) 38 #[.slice q.k.ao q.k.n q.k.cap] rfl rfl (by kernel_rfl) rfl (by go_simp) (fun v w' => v = .int .i64 (lev q.k.xs : Nat) ∧ Below tv0.heap.size tv0 w') ((rlevel_any tv0 q.k.ao q.k.n q.k.cap q.k.xs (hqI.1.below (B.trans (tE0.mono B.size))) hqn).mono (by
              rintro e w' ⟨rfl, C⟩
              exact ⟨_, rfl, rfl, C⟩)) ?_
            rintro v tv1 ⟨rfl, tC0⟩
            have tE1 := tE0.trans (tC0.mono tE0.size)
            have tH1 := tHS.out tv1 tE1
            refine ⟨tH1, ?_⟩
            simp only [Act.put, List.setIfInBounds_toArray, List.set_cons_zero, List.set_cons_succ]
            refine hr_take_w 10 (some 48) (.bool true) rfl rfl (by kernel_rfl) (by kernel_rfl) (by kernel_rfl) rfl (fun W hW => by obtain ⟨h0, h1⟩ := hW; go_simp) tH1 ?_
            simp only [Act.put, List.setIfInBounds_toArray, List.set_cons_zero, List.set_cons_succ]
            refine wpAnyH_done (by kernel_rfl) ?_ _
            refine NoPanic.normal ?_
            clear lc0 lc3 tHS tH0 tH1
            replace N := N.below tE1
            replace B := B.trans (tE1.mono B.size)
            replace KF := KF.chg (Chg.below tE1)
            go_wp2
            have pE0 : Below tv1.heap.size tv1 tv1.drew := (Below.refl _ _).drew
            refine wp_region_noPanic ?_
            refine wp_region_held_drew (S := fun _ => True) (by kernel_rfl) trivial (fun _ => ?_)
            obtain ⟨pv0, hv0⟩ : ∃ v, v = tv1.drew := ⟨_, rfl⟩
            rw [← hv0] at pE0 ⊢
            clear hv0
            refine hr_take_w 0 (some 49) (.pointer (some ⟨wI.heap.size, 0, none⟩)) rfl rfl (by kernel_rfl) (by kernel_rfl) (by kernel_rfl) rfl (fun W hW => by go_simp) trivial ?_
            simp only [Act.put, List.setIfInBounds_toArray, List.set_cons_zero, List.set_cons_succ]
            refine hr_take_w 1 (some 50) (.pointer (some ⟨wI.heap.size, 0, none⟩)) rfl rfl (by kernel_rfl) (by kernel_rfl) (by kernel_rfl) rfl (fun W hW => by go_simp) trivial ?_
            simp only [Act.put, List.setIfInBounds_toArray, List.set_cons_zero, List.set_cons_succ]
            refine hr_take_w 2 (some 51) (.pointer (some ⟨wI.heap.size, 0, none⟩)) rfl rfl (by kernel_rfl) (by kernel_rfl) (by kernel_rfl) rfl (fun W hW => by go_simp) trivial ?_
            simp only [Act.put, List.setIfInBounds_toArray, List.set_cons_zero, List.set_cons_succ]
            refine hr_take_w 3 (some 52) (.pointer (some ⟨wI.heap.size, 1, none⟩)) rfl rfl (by kernel_rfl) (by kernel_rfl) (by kernel_rfl) rfl (fun W hW => by go_simp) trivial ?_
            simp only [Act.put, List.setIfInBounds_toArray, List.set_cons_zero, List.set_cons_succ]
            refine hr_take_w 5 (some 54) (.slice (some ⟨b, off, none⟩) n cap) rfl rfl (by kernel_rfl) (by kernel_rfl) (by kernel_rfl) rfl (fun W hW => by go_simp) trivial ?_
            simp only [Act.put, List.setIfInBounds_toArray, List.set_cons_zero, List.set_cons_succ]
            refine hr_take_w 6 (some 55) (.int .i64 (ii : Nat)) rfl rfl (by kernel_rfl) (by kernel_rfl) (by kernel_rfl) rfl (fun W hW => by go_simp) trivial ?_
            simp only [Act.put, List.setIfInBounds_toArray, List.set_cons_zero, List.set_cons_succ]
            refine hr_take_w 7 (some 56) (.pointer (some ⟨b, off + ii * 2, none⟩)) rfl rfl (by kernel_rfl) (by kernel_rfl) (by kernel_rfl) rfl (fun W hW => by go_simp) trivial ?_
            simp only [Act.put, List.setIfInBounds_toArray, List.set_cons_zero, List.set_cons_succ]
            refine hr_take_w 8 (some 57) (.pointer (some ⟨b, off + ii * 2, none⟩)) rfl rfl (by kernel_rfl) (by kernel_rfl) (by kernel_rfl) rfl (fun W hW => by go_simp) trivial ?_
            simp only [Act.put, List.setIfInBounds_toArray, List.set_cons_zero, List.set_cons_succ]
            refine wpAnyH_effto 4 (fun zi zv zw => (zi = 4 → zv = k) ∧ (zi = 9 → zv = .slice q.k.ao q.k.n q.k.cap) ∧ (zi = 10 → ∃ g1, zv = .slice (some ⟨g1, 0, none⟩) 1 1 ∧ VL zw (some ⟨g1, 0, none⟩) 1 1 [.slice q.k.ao q.k.n q.k.cap])) [(4, 53), (9, 58), (10, 59)] 107 (by kernel_rfl) (by decide) (by decide) rfl ?_ (fun _ _ => trivial) ?_ ?_
            · intro zi v w w' h hb
              refine ⟨fun e => ?_, fun e => ?_, fun e => ?_⟩
              · have h := h.1 e
                exact h
              · have h := h.2.1 e
                exact h
              · have h := h.2.2 e
                obtain ⟨g1, h1, h2⟩ := h
                exact ⟨g1, h1, h2.below hb⟩
            · intro zp zhi o a w ho hs hb hdep
              have pEB := pE0.trans (hb.mono pE0.size)
              simp only [List.mem_cons, List.not_mem_nil, or_false] at zhi
              rcases zhi with rfl | rfl | rfl
              · obtain rfl : _ = o := Option.some.inj (show some _ = some o from ho)
                have t52 : a.tmps[52]? = some (.pointer (some ⟨wI.heap.size, 1, none⟩)) := hs.get 52 (by kernel_rfl) rfl
                have N' := N.below pEB
                have lc := N'.arr.cell 1
                exact .inl ⟨k, w, by go_simp, ⟨fun _ => rfl, fun e => absurd e (by decide), fun e => absurd e (by decide)⟩, Below.refl _ _⟩
              · obtain rfl : _ = o := Option.some.inj (show some _ = some o from ho)
                have t57 : a.tmps[57]? = some (.pointer (some ⟨b, off + ii * 2, none⟩)) := hs.get 57 (by kernel_rfl) rfl
                have lc := (HC.out w (B.trans (pEB.mono B.size))).1
                exact .inl ⟨.slice q.k.ao q.k.n q.k.cap, w, by go_simp, ⟨fun e => absurd e (by decide), fun _ => rfl, fun e => absurd e (by decide)⟩, Below.refl _ _⟩
              · obtain rfl : _ = o := Option.some.inj (show some _ = some o from ho)
                obtain ⟨x58, t58, f58⟩ := (hdep 9 (by kernel_rfl)).at 58 (by kernel_rfl)
                replace f58 := f58.2.1 rfl
                subst f58
                exact .inl ⟨_, _, by go_simp, ⟨fun e => absurd e (by decide), fun e => absurd e (by decide), fun _ => ⟨_, rfl, VL.new w [.slice q.k.ao q.k.n q.k.cap] 23 (by simp [maxLen])⟩⟩, (Below.refl _ _).alloc (Nat.le_refl _) _⟩
            intro zf pv1 hb hh
            have pE1 := pE0.trans (hb.mono pE0.size)
            obtain e4 := (hh (4, 53) (by simp)).1 rfl
            obtain e9 := (hh (9, 58) (by simp)).2.1 rfl
            obtain ⟨g1, e10, G1⟩ := (hh (10, 59) (by simp)).2.2 rfl
            clear hh hb
            simp only [putL, List.foldl_cons, List.foldl_nil, e4, e9, e10]
            clear e4 e9 e10
            simp only [Act.put, List.setIfInBounds_toArray, List.set_cons_zero, List.set_cons_succ]
            have N1 := N.below pE1
            obtain ⟨x1, W1, ha, P1⟩ := N1.appK (by decide) (by decide) (ty := 68) (u := .slice q.k.ao q.k.n q.k.cap) G1 rfl (by rw [List.length_map]; have := HXL.out; omega)
            obtain ⟨ko2, kn2, kc2, rfl⟩ := row_slice P1.nb.ok
            refine hr_ex 11 (some 60) rfl rfl (by kernel_rfl) rfl (R := fun v w' => (.slice ko2 kn2 kc2) = v ∧ W1 = w') ⟨_, W1, by simp [execOp, Act.eval, resolve, invoke, builtin, ha], rfl, rfl⟩ ?_
            rintro v w' ⟨rfl, rfl⟩
            refine ⟨trivial, ?_⟩
            simp only [Act.put, List.setIfInBounds_toArray, List.set_cons_zero, List.set_cons_succ]
            refine hr_take_w 12 (some 61) (.pointer (some ⟨wI.heap.size, 0, none⟩)) rfl rfl (by kernel_rfl) (by kernel_rfl) (by kernel_rfl) rfl (fun W hW => by go_simp) trivial ?_
            simp only [Act.put, List.setIfInBounds_toArray, List.set_cons_zero, List.set_cons_succ]
            refine hr_take_w 13 (some 62) (.pointer (some ⟨wI.heap.size, 1, none⟩)) rfl rfl (by kernel_rfl) (by kernel_rfl) (by kernel_rfl) rfl (fun W hW => by go_simp) trivial ?_
            simp only [Act.put, List.setIfInBounds_toArray, List.set_cons_zero, List.set_cons_succ]
            have lc := P1.arr.cell 1
            have lf := P1.arr.free 1
            refine hr_skip 14 none (w' := W1.setCell ⟨wI.heap.size, 1, none⟩ (.slice ko2 kn2 kc2)) rfl rfl (by kernel_rfl) rfl (by go_simp) trivial ?_
            simp only [Act.put]
            refine wpAnyH_done (by kernel_rfl) ?_ _
            refine NoPanic.normal ?_
            clear lc lf ha
            have D1 := (Chg.below (g := wI.heap.size) (k := k) (v := v) (c := c) pE1).trans P1.chg
            have N3 := P1.nb
            have KF3 := KF.chg D1
            have B3 := B.trans ((pE1.mono B.size).trans P1.below)
            obtain ⟨W3, hW2⟩ : ∃ W2, W2 = W1.setCell ⟨wI.heap.size, 1, none⟩ (.slice ko2 kn2 kc2) := ⟨_, rfl⟩
            rw [← hW2] at N3 KF3 B3 ⊢
            clear hW2
            go_wp2
            have rE0 : Below W3.heap.size W3 W3.drew := (Below.refl _ _).drew
            refine wp_region_noPanic ?_
            refine wp_region_held_drew (S := fun _ => True) (by kernel_rfl) trivial (fun _ => ?_)
            obtain ⟨rv0, hv0⟩ : ∃ v, v = W3.drew := ⟨_, rfl⟩
            rw [← hv0] at rE0 ⊢
            clear hv0
            refine hr_take_w 0 (some 63) (.pointer (some ⟨wI.heap.size, 0, none⟩)) rfl rfl (by kernel_rfl) (by kernel_rfl) (by kernel_rfl) rfl (fun W hW => by go_simp) trivial ?_
            simp only [Act.put, List.setIfInBounds_toArray, List.set_cons_zero, List.set_cons_succ]
            refine hr_take_w 1 (some 64) (.pointer (some ⟨wI.heap.size, 0, none⟩)) rfl rfl (by kernel_rfl) (by kernel_rfl) (by kernel_rfl) rfl (fun W hW => by go_simp) trivial ?_
            simp only [Act.put, List.setIfInBounds_toArray, List.set_cons_zero, List.set_cons_succ]
            refine hr_take_w 2 (some 65) (.pointer (some ⟨wI.heap.size, 0, none⟩)) rfl rfl (by kernel_rfl) (by kernel_rfl) (by kernel_rfl) rfl (fun W hW => by go_simp) trivial ?_
            simp only [Act.put, List.setIfInBounds_toArray, List.set_cons_zero, List.set_cons_succ]
            refine hr_take_w 3 (some 66) (.pointer (some ⟨wI.heap.size, 2, none⟩)) rfl rfl (by kernel_rfl) (by kernel_rfl) (by kernel_rfl) rfl (fun W hW => by go_simp) trivial ?_
            simp only [Act.put, List.setIfInBounds_toArray, List.set_cons_zero, List.set_cons_succ]
            refine hr_take_w 5 (some 68) (.slice (some ⟨b, off, none⟩) n cap) rfl rfl (by kernel_rfl) (by kernel_rfl) (by kernel_rfl) rfl (fun W hW => by go_simp) trivial ?_
            simp only [Act.put, List.setIfInBounds_toArray, List.set_cons_zero, List.set_cons_succ]
            refine hr_take_w 6 (some 69) (.int .i64 (ii : Nat)) rfl rfl (by kernel_rfl) (by kernel_rfl) (by kernel_rfl) rfl (fun W hW => by go_simp) trivial ?_
            simp only [Act.put, List.setIfInBounds_toArray, List.set_cons_zero, List.set_cons_succ]
            refine hr_take_w 7 (some 70) (.pointer (some ⟨b, off + ii * 2, none⟩)) rfl rfl (by kernel_rfl) (by kernel_rfl) (by kernel_rfl) rfl (fun W hW => by go_simp) trivial ?_
            simp only [Act.put, List.setIfInBounds_toArray, List.set_cons_zero, List.set_cons_succ]
            refine hr_take_w 8 (some 71) (.pointer (some ⟨b, off + ii * 2 + 1, none⟩)) rfl rfl (by kernel_rfl) (by kernel_rfl) (by kernel_rfl) rfl (fun W hW => by go_simp) trivial ?_
            simp only [Act.put, List.setIfInBounds_toArray, List.set_cons_zero, List.set_cons_succ]
            refine wpAnyH_effto 4 (fun zi zv zw => (zi = 4 → zv = v) ∧ (zi = 9 → zv = .slice q.v.ao q.v.n q.v.cap) ∧ (zi = 10 → ∃ g1, zv = .slice (some ⟨g1, 0, none⟩) 1 1 ∧ VL zw (some ⟨g1, 0, none⟩) 1 1 [.slice q.v.ao q.v.n q.v.cap])) [(4, 67), (9, 72), (10, 73)] 107 (by kernel_rfl) (by decide) (by decide) rfl ?_ (fun _ _ => trivial) ?_ ?_
            · intro zi v w w' h hb
              refine ⟨fun e => ?_, fun e => ?_, fun e => ?_⟩
              · have h := h.1 e
                exact h
              · have h := h.2.1 e
                exact h
              · have h := h.2.2 e
                obtain ⟨g1, h1, h2⟩ := h
                exact ⟨g1, h1, h2.below hb⟩
            · intro zp zhi o a w ho hs hb hdep
              have rEB := rE0.trans (hb.mono rE0.size)
              simp only [List.mem_cons, List.not_mem_nil, or_false] at zhi
              rcases zhi with rfl | rfl | rfl
              · obtain rfl : _ = o := Option.some.inj (show some _ = some o from ho)
                have t66 : a.tmps[66]? = some (.pointer (some ⟨wI.heap.size, 2, none⟩)) := hs.get 66 (by kernel_rfl) rfl
                have N' := N3.below rEB
                have lc := N'.arr.cell 2
                exact .inl ⟨v, w, by go_simp, ⟨fun _ => rfl, fun e => absurd e (by decide), fun e => absurd e (by decide)⟩, Below.refl _ _⟩
              · obtain rfl : _ = o := Option.some.inj (show some _ = some o from ho)
                have t71 : a.tmps[71]? = some (.pointer (some ⟨b, off + ii * 2 + 1, none⟩)) := hs.get 71 (by kernel_rfl) rfl
                have lc := (HC.out w (B3.trans (rEB.mono B3.size))).2
                exact .inl ⟨.slice q.v.ao q.v.n q.v.cap, w, by go_simp, ⟨fun e => absurd e (by decide), fun _ => rfl, fun e => absurd e (by decide)⟩, Below.refl _ _⟩
              · obtain rfl : _ = o := Option.some.inj (show some _ = some o from ho)
                obtain ⟨x72, t72, f72⟩ := (hdep 9 (by kernel_rfl)).at 72 (by kernel_rfl)
                replace f72 := f72.2.1 rfl
                subst f72
                exact .inl ⟨_, _, by go_simp, ⟨fun e => absurd e (by decide), fun e => absurd e (by decide), fun _ => ⟨_, rfl, VL.new w [.slice q.v.ao q.v.n q.v.cap] 23 (by simp [maxLen])⟩⟩, (Below.refl _ _).alloc (Nat.le_refl _) _⟩
            intro zf rv1 hb hh
            have rE1 := rE0.trans (hb.mono rE0.size)
            obtain e4 := (hh (4, 67) (by simp)).1 rfl
            obtain e9 := (hh (9, 72) (by simp)).2.1 rfl
            obtain ⟨g1, e10, G1⟩ := (hh (10, 73) (by simp)).2.2 rfl
            clear hh hb
            simp only [putL, List.foldl_cons, List.foldl_nil, e4, e9, e10]
            clear e4 e9 e10
            simp only [Act.put, List.setIfInBounds_toArray, List.set_cons_zero, List.set_cons_succ]
            have N1 := N3.below rE1
            obtain ⟨x2, W1, ha, P1⟩ := N1.appV (by decide) (by decide) (ty := 68) (u := .slice q.v.ao q.v.n q.v.cap) G1 rfl (by rw [List.length_map]; have := HXL.out; omega)
            obtain ⟨vo2, vn2, vc2, rfl⟩ := row_slice P1.nb.ov
            refine hr_ex 11 (some 74) rfl rfl (by kernel_rfl) rfl (R := fun v w' => (.slice vo2 vn2 vc2) = v ∧ W1 = w') ⟨_, W1, by simp [execOp, Act.eval, resolve, invoke, builtin, ha], rfl, rfl⟩ ?_
            rintro v w' ⟨rfl, rfl⟩
            refine ⟨trivial, ?_⟩
            simp only [Act.put, List.setIfInBounds_toArray, List.set_cons_zero, List.set_cons_succ]
            refine hr_take_w 12 (some 75) (.pointer (some ⟨wI.heap.size, 0, none⟩)) rfl rfl (by kernel_rfl) (by kernel_rfl) (by kernel_rfl) rfl (fun W hW => by go_simp) trivial ?_
            simp only [Act.put, List.setIfInBounds_toArray, List.set_cons_zero, List.set_cons_succ]
            refine hr_take_w 13 (some 76) (.pointer (some ⟨wI.heap.size, 2, none⟩)) rfl rfl (by kernel_rfl) (by kernel_rfl) (by kernel_rfl) rfl (fun W hW => by go_simp) trivial ?_
            simp only [Act.put, List.setIfInBounds_toArray, List.set_cons_zero, List.set_cons_succ]
            have lc := P1.arr.cell 2
            have lf := P1.arr.free 2
            refine hr_skip 14 none (w' := W1.setCell ⟨wI.heap.size, 2, none⟩ (.slice vo2 vn2 vc2)) rfl rfl (by kernel_rfl) rfl (by go_simp) trivial ?_
            simp only [Act.put]
            refine wpAnyH_done (by kernel_rfl) ?_ _
            refine NoPanic.normal ?_
            clear lc lf ha
            have D1 := (Chg.below (g := wI.heap.size) (k := (.slice ko2 kn2 kc2)) (v := v) (c := c) rE1).trans P1.chg
            have N4 := P1.nb
            have KF4 := KF3.chg D1
            have B4 := B3.trans ((rE1.mono B3.size).trans P1.below)
            obtain ⟨W4, hW2⟩ : ∃ W2, W2 = W1.setCell ⟨wI.heap.size, 2, none⟩ (.slice vo2 vn2 vc2) := ⟨_, rfl⟩
            rw [← hW2] at N4 KF4 B4 ⊢
            clear hW2
            go_wp2
            have sE0 : Below W4.heap.size W4 W4.drew := (Below.refl _ _).drew
            refine wp_region_noPanic ?_
            refine wp_region_held_drew (S := fun _ => True) (by kernel_rfl) trivial (fun _ => ?_)
            obtain ⟨sv0, hv0⟩ : ∃ v, v = W4.drew := ⟨_, rfl⟩
            rw [← hv0] at sE0 ⊢
            clear hv0
            refine hr_take_w 0 (some 77) (.pointer (some ⟨wI.heap.size, 0, none⟩)) rfl rfl (by kernel_rfl) (by kernel_rfl) (by kernel_rfl) rfl (fun W hW => by go_simp) trivial ?_
            simp only [Act.put, List.setIfInBounds_toArray, List.set_cons_zero, List.set_cons_succ]
            refine hr_take_w 1 (some 78) (.pointer (some ⟨wI.heap.size, 0, none⟩)) rfl rfl (by kernel_rfl) (by kernel_rfl) (by kernel_rfl) rfl (fun W hW => by go_simp) trivial ?_
            simp only [Act.put, List.setIfInBounds_toArray, List.set_cons_zero, List.set_cons_succ]
            refine hr_take_w 2 (some 79) (.pointer (some ⟨wI.heap.size, 0, none⟩)) rfl rfl (by kernel_rfl) (by kernel_rfl) (by kernel_rfl) rfl (fun W hW => by go_simp) trivial ?_
            simp only [Act.put, List.setIfInBounds_toArray, List.set_cons_zero, List.set_cons_succ]
            refine hr_take_w 3 (some 80) (.pointer (some ⟨wI.heap.size, 3, none⟩)) rfl rfl (by kernel_rfl) (by kernel_rfl) (by kernel_rfl) rfl (fun W hW => by go_simp) trivial ?_
            simp only [Act.put, List.setIfInBounds_toArray, List.set_cons_zero, List.set_cons_succ]
            refine hr_take_w 5 (some 82) (.slice (some ⟨b, off, none⟩) n cap) rfl rfl (by kernel_rfl) (by kernel_rfl) (by kernel_rfl) rfl (fun W hW => by go_simp) trivial ?_
            simp only [Act.put, List.setIfInBounds_toArray, List.set_cons_zero, List.set_cons_succ]
            refine hr_take_w 6 (some 83) (.int .i64 (fr : Nat)) rfl rfl (by kernel_rfl) (by kernel_rfl) (by kernel_rfl) rfl (fun W hW => by go_simp) trivial ?_
            simp only [Act.put, List.setIfInBounds_toArray, List.set_cons_zero, List.set_cons_succ]
            refine hr_take_w 7 (some 84) (.int .i64 (ii : Nat)) rfl rfl (by kernel_rfl) (by kernel_rfl) (by kernel_rfl) rfl (fun W hW => by go_simp) trivial ?_
            simp only [Act.put, List.setIfInBounds_toArray, List.set_cons_zero, List.set_cons_succ]
            refine hr_take_w 8 (some 85) (.slice (bk2 (some ⟨b, off, none⟩) cap fr) (ii - fr) (cap - fr)) rfl rfl (by kernel_rfl) (by kernel_rfl) (by kernel_rfl) rfl (fun W hW => by simp [execOp, Act.eval, run_midR (W := W) (n := n) hfr hic]) trivial ?_
            simp only [Act.put, List.setIfInBounds_toArray, List.set_cons_zero, List.set_cons_succ]
            refine wpAnyH_effto 4 (fun zi zv zw => (zi = 4 → zv = c) ∧ (zi = 9 → ∃ po, zv = .pointer po ∧ Far zw w0.heap.size wI.heap.size wI.heap.size (.slice ko2 kn2 kc2) (.slice vo2 vn2 vc2) c fun x => T x (.pointer po) (((its.drop fr).take (ii - fr)).map IP.it)) ∧ (zi = 10 → ∃ po g1, zv = .slice (some ⟨g1, 0, none⟩) 1 1 ∧ VL zw (some ⟨g1, 0, none⟩) 1 1 [.pointer po] ∧ Far zw w0.heap.size wI.heap.size wI.heap.size (.slice ko2 kn2 kc2) (.slice vo2 vn2 vc2) c fun x => T x (.pointer po) (((its.drop fr).take (ii - fr)).map IP.it))) [(4, 81), (9, 86), (10, 87)] 107 (by kernel_rfl) (by decide) (by decide) rfl ?_ (fun _ _ => trivial) ?_ ?_
            · intro zi v w w' h hb
              refine ⟨fun e => ?_, fun e => ?_, fun e => ?_⟩
              · have h := h.1 e
                exact h
              · have h := h.2.1 e
                obtain ⟨po, h1, h2⟩ := h
                exact ⟨po, h1, h2.chg (Chg.below hb)⟩
              · have h := h.2.2 e
                obtain ⟨po, g1, h1, h2, h3⟩ := h
                exact ⟨po, g1, h1, h2.below hb, h3.chg (Chg.below hb)⟩
            · intro zp zhi o a w ho hs hb hdep
              have sEB := sE0.trans (hb.mono sE0.size)
              simp only [List.mem_cons, List.not_mem_nil, or_false] at zhi
              rcases zhi with rfl | rfl | rfl
              · obtain rfl : _ = o := Option.some.inj (show some _ = some o from ho)
                have t80 : a.tmps[80]? = some (.pointer (some ⟨wI.heap.size, 3, none⟩)) := hs.get 80 (by kernel_rfl) rfl
                have N' := N4.below sEB
                have lc := N'.arr.cell 3
                exact .inl ⟨c, w, by go_simp, ⟨fun _ => rfl, fun e => absurd e (by decide), fun e => absurd e (by decide)⟩, Below.refl _ _⟩
              · obtain rfl : _ = o := Option.some.inj (show some _ = some o from ho)
                have t85 : a.tmps[85]? = some (.slice (bk2 (some ⟨b, off, none⟩) cap fr) (ii - fr) (cap - fr)) := hs.get 85 (by kernel_rfl) rfl
                have N' := N4.below sEB
                have BB := B4.trans (sEB.mono B4.size)
                have hsz := BB.size
                have CS := ih (ii - fr) (by omega) w (bk2 (some ⟨b, off, none⟩) cap fr) (ii - fr) (cap - fr) ((its.drop fr).take (ii - fr)) (((hL.from fr (by omega)).front (ii - fr) (by omega)).below BB) (fun y hy => hok y (List.mem_of_mem_drop (List.mem_of_mem_take hy))) (h0.trans (BB.mono h0.size)) (by omega) (by omega)
                refine .inr ⟨16, #[.slice (bk2 (some ⟨b, off, none⟩) cap fr) (ii - fr) (cap - fr)], by go_simp, CS.mono ?_⟩
                rintro e w' ⟨po, rfl, O, C⟩
                exact ⟨_, rfl, ⟨fun e => absurd e (by decide), fun _ => ⟨po, rfl, O.far hsz (fun x hx => N'.offLow (by have := h0.size; omega)) (fun x hx => N'.offNew hx)⟩, fun e => absurd e (by decide)⟩, C⟩
              · obtain rfl : _ = o := Option.some.inj (show some _ = some o from ho)
                obtain ⟨x86, t86, f86⟩ := (hdep 9 (by kernel_rfl)).at 86 (by kernel_rfl)
                replace f86 := f86.2.1 rfl
                obtain ⟨po, rfl, T1⟩ := f86
                have CA : Below w.heap.size w (w.alloc (.cells #[.pointer po] 47)) := (Below.refl _ _).alloc (Nat.le_refl _) _
                exact .inl ⟨_, _, by go_simp, ⟨fun e => absurd e (by decide), fun e => absurd e (by decide), fun _ => ⟨po, _, rfl, VL.new w [.pointer po] 47 (by simp [maxLen]), T1.chg (Chg.below CA)⟩⟩, CA⟩
            intro zf sv1 hb hh
            have sE1 := sE0.trans (hb.mono sE0.size)
            obtain e4 := (hh (4, 81) (by simp)).1 rfl
            obtain ⟨po, g1, e10, G1, T1⟩ := (hh (10, 87) (by simp)).2.2 rfl
            clear hh hb
            simp only [putL, List.foldl_cons, List.foldl_nil, e4, e10]
            clear e4 e10
            simp only [Act.put, List.setIfInBounds_toArray, List.set_cons_zero, List.set_cons_succ]
            have N1 := N4.below sE1
            have D1 : Chg W4 sv1 wI.heap.size (.slice ko2 kn2 kc2) (.slice vo2 vn2 vc2) c (.slice ko2 kn2 kc2) (.slice vo2 vn2 vc2) c := Chg.below sE1
            have KF1 := (KF4.chg D1).app T1
            obtain ⟨c2, W1, ha, P1⟩ := N1.appC (by decide) (by decide) (ps := 69) (ty := 69) Tryd.underlying69 rninfo G1 rfl (by rw [KF4.len]; have := HXL.out; omega)
            obtain ⟨co2, cn2, cc2, rfl⟩ := row_slice P1.nb.oc
            refine hr_ex 11 (some 88) rfl rfl (by kernel_rfl) rfl (R := fun v w' => (.slice co2 cn2 cc2) = v ∧ W1 = w') ⟨_, W1, by simp [execOp, Act.eval, resolve, invoke, builtin, ha], rfl, rfl⟩ ?_
            rintro v w' ⟨rfl, rfl⟩
            refine ⟨trivial, ?_⟩
            simp only [Act.put, List.setIfInBounds_toArray, List.set_cons_zero, List.set_cons_succ]
            refine hr_take_w 12 (some 89) (.pointer (some ⟨wI.heap.size, 0, none⟩)) rfl rfl (by kernel_rfl) (by kernel_rfl) (by kernel_rfl) rfl (fun W hW => by go_simp) trivial ?_
            simp only [Act.put, List.setIfInBounds_toArray, List.set_cons_zero, List.set_cons_succ]
            refine hr_take_w 13 (some 90) (.pointer (some ⟨wI.heap.size, 3, none⟩)) rfl rfl (by kernel_rfl) (by kernel_rfl) (by kernel_rfl) rfl (fun W hW => by go_simp) trivial ?_
            simp only [Act.put, List.setIfInBounds_toArray, List.set_cons_zero, List.set_cons_succ]
            have lc := P1.arr.cell 3
            have lf := P1.arr.free 3
            refine hr_skip 14 none (w' := W1.setCell ⟨wI.heap.size, 3, none⟩ (.slice co2 cn2 cc2)) rfl rfl (by kernel_rfl) rfl (by go_simp) trivial ?_
            simp only [Act.put]
            refine wpAnyH_done (by kernel_rfl) ?_ _
            refine NoPanic.normal ?_
            clear lc lf ha
            have N5 := P1.nb
            have KF5 := KF1.chg P1.chg
            have B5 := B4.trans ((sE1.mono B4.size).trans P1.below)
            obtain ⟨W5, hW5⟩ : ∃ W5, W5 = W1.setCell ⟨wI.heap.size, 3, none⟩ (.slice co2 cn2 cc2) := ⟨_, rfl⟩
            rw [← hW5] at N5 KF5 B5 ⊢
            clear hW5
            go_wp2
            go_roundw
            case rel =>
              have HT := HP.take (by rw [List.length_map]; omega) (by rw [HQI.out]; exact HLV.out)
              refine ⟨ii + 1, ii + 1, (.slice ko2 kn2 kc2), (.slice vo2 vn2 vc2), (.slice co2 cn2 cc2), ks ++ [q.k], vs ++ [q.v], us ++ [.pointer po], _, _, by go_num, by go_num, ?_, B5, HT, ?_, ?_, ?_, ?_, ?_⟩
              · rw [List.map_append, List.map_append]
                exact N5
              · rw [List.map_append, List.map_append, HEK.out, HQI.out]
                rfl
              · rw [List.map_append, List.map_append, HEV.out, HQI.out]
                rfl
              · rw [← List.map_take, ← List.map_drop, List.drop_take]
                exact KF5
              · intro y hy
                rcases List.mem_append.1 hy with hy | hy
                · exact HSK.out y hy
                · rw [List.mem_singleton.1 hy]; exact hqo.1.1
              · intro y hy
                rcases List.mem_append.1 hy with hy | hy
                · exact HSV.out y hy
                · rw [List.mem_singleton.1 hy]; exact hqo.1.2
            case measure => simp [intOf]; omega
          · have hlvb : ((lev q.k.xs : Int) == (M : Int)) = false := by simp; omega
            have HLV : Hid (¬ lev q.k.xs = M) := hlv
            clear hlv
            go_wp2
            have tHS : Hid (∀ V, Below wr.heap.size wr V → V.cell? ⟨b, off + ii * 2, none⟩ = some (.slice q.k.ao q.k.n q.k.cap) ∧ V.cell? ⟨wI.heap.size, 0, none⟩ = some (.int .i64 (M : Nat))) := fun V hV => ⟨(hV.cell (World.block_lt_of_cell? _ _ lc0)).trans lc0, (hV.cell (World.block_lt_of_cell? _ _ lc3)).trans lc3⟩
            have tE0 : Below wr.heap.size wr wr.drew := (Below.refl _ _).drew
            refine wp_region_noPanic ?_
            refine wp_region_held_drew (S := fun V => V.cell? ⟨b, off + ii * 2, none⟩ = some (.slice q.k.ao q.k.n q.k.cap) ∧ V.cell? ⟨wI.heap.size, 0, none⟩ = some (.int .i64 (M : Nat))) (by kernel_rfl) (tHS.out _ tE0) (fun tH0 => ?_)
            obtain ⟨tv0, hv0⟩ : ∃ v, v = wr.drew := ⟨_, rfl⟩
            rw [← hv0] at tH0 tE0 ⊢
            clear hv0
            refine hr_take_w 0 (some 38) (.slice (some ⟨b, off, none⟩) n cap) rfl rfl (by kernel_rfl) (by kernel_rfl) (by kernel_rfl) rfl (fun W hW => by obtain ⟨h0, h1⟩ := hW; go_simp) tH0 ?_
            simp only [Act.put, List.setIfInBounds_toArray, List.set_cons_zero, List.set_cons_succ]
            refine hr_take_w 1 (some 39) (.int .i64 (ii : Nat)) rfl rfl (by kernel_rfl) (by kernel_rfl) (by kernel_rfl) rfl (fun W hW => by obtain ⟨h0, h1⟩ := hW; go_simp) tH0 ?_
            simp only [Act.put, List.setIfInBounds_toArray, List.set_cons_zero, List.set_cons_succ]
            refine hr_take_w 2 (some 40) (.pointer (some ⟨b, off + ii * 2, none⟩)) rfl rfl (by kernel_rfl) (by kernel_rfl) (by kernel_rfl) rfl (fun W hW => by obtain ⟨h0, h1⟩ := hW; go_simp) tH0 ?_
            simp only [Act.put, List.setIfInBounds_toArray, List.set_cons_zero, List.set_cons_succ]
            refine hr_take_w 3 (some 41) (.pointer (some ⟨b, off + ii * 2, none⟩)) rfl rfl (by kernel_rfl) (by kernel_rfl) (by kernel_rfl) rfl (fun W hW => by obtain ⟨h0, h1⟩ := hW; go_simp) tH0 ?_
            simp only [Act.put, List.setIfInBounds_toArray, List.set_cons_zero, List.set_cons_succ]
            refine hr_take_w 4 (some 42) (.slice q.k.ao q.k.n q.k.cap) rfl rfl (by kernel_rfl) (by kernel_rfl) (by kernel_rfl) rfl (fun W hW => by obtain ⟨h0, h1⟩ := hW; go_simp) tH0 ?_
            simp only [Act.put, List.setIfInBounds_toArray, List.set_cons_zero, List.set_cons_succ]
            refine hr_take_w 6 (some 44) (.pointer (some ⟨wI.heap.size, 0, none⟩)) rfl rfl (by kernel_rfl) (by kernel_rfl) (by kernel_rfl) rfl (fun W hW => by obtain ⟨h0, h1⟩ := hW; go_simp) tH0 ?_
            simp only [Act.put, List.setIfInBounds_toArray, List.set_cons_zero, List.set_cons_succ]
            refine hr_take_w 7 (some 45) (.pointer (some ⟨wI.heap.size, 0, none⟩)) rfl rfl (by kernel_rfl) (by kernel_rfl) (by kernel_rfl) rfl (fun W hW => by obtain ⟨h0, h1⟩ := hW; go_simp) tH0 ?_
            simp only [Act.put, List.setIfInBounds_toArray, List.set_cons_zero, List.set_cons_succ]
            refine hr_take_w 8 (some 46) (.pointer (some ⟨wI.heap.size, 0, none⟩)) rfl rfl (by kernel_rfl) (by kernel_rfl) (by kernel_rfl) rfl (fun W hW => by obtain ⟨h0, h1⟩ := hW; go_simp) tH0 ?_
            simp only [Act.put, List.setIfInBounds_toArray, List.set_cons_zero, List.set_cons_succ]
            refine hr_take_w 9 (some 47) (.int .i64 (M : Nat)) rfl rfl (by kernel_rfl) (by kernel_rfl) (by kernel_rfl) rfl (fun W hW => by obtain ⟨h0, h1⟩ := hW; go_simp) tH0 ?_
            simp only [Act.put, List.setIfInBounds_toArray, List.set_cons_zero, List.set_cons_succ]
            refine hr_call_w 5 (some 43) 38 #[.slice q.k.ao q.k.n q.k.cap] rfl rfl (by kernel_rfl) rfl (by go_simp) (fun v w' => v = .int .i64 (lev q.k.xs : Nat) ∧ Below tv0.heap.size tv0 w') ((rlevel_any tv0 q.k.ao q.k.n q.k.cap q.k.xs (hqI.1.below (B.trans (tE0.mono B.size))) hqn).mono (by
              rintro e w' ⟨rfl, C⟩
              exact ⟨_, rfl, rfl, C⟩)) ?_
            rintro v tv1 ⟨rfl, tC0⟩
            have tE1 := tE0.trans (tC0.mono tE0.size)
            have tH1 := tHS.out tv1 tE1
            refine ⟨tH1, ?_⟩
            simp only [Act.put, List.setIfInBounds_toArray, List.set_cons_zero, List.set_cons_succ]
            refine hr_take_w 10 (some 48) (.bool false) rfl rfl (by kernel_rfl) (by kernel_rfl) (by kernel_rfl) rfl (fun W hW => by obtain ⟨h0, h1⟩ := hW; go_simp) tH1 ?_
            simp only [Act.put, List.setIfInBounds_toArray, List.set_cons_zero, List.set_cons_succ]
            refine wpAnyH_done (by kernel_rfl) ?_ _
            refine NoPanic.normal ?_
            clear lc0 lc3 tHS tH0 tH1
            replace N := N.below tE1
            replace B := B.trans (tE1.mono B.size)
            replace KF := KF.chg (Chg.below tE1)
            go_wp2
            go_roundw
            case rel =>
              refine ⟨ii + 1, fr, _, _, _, ks, vs, us, segs, xs, by go_num, rfl, N, B, HP.skip (by rw [List.length_map]; omega) ?_, HEK.out, HEV.out, KF, HSK.out, HSV.out⟩
              rw [HQI.out]
              have h2 := HLV.out
              have h3 := HMX.out ii (by omega)
              rw [← HQ.out] at h3
              show lev q.k.xs < M
              omega
            case measure => simp [intOf]; omega
        · have hge : ¬ (ii : Int) < (n : Int) := by omega
          have hik : n = ii := by omega
          subst hik
          go_wp2
          have N := H.nb
          have B := H.b
          have KF := H.kf
          have HP := H.prt
          have hsl : segs.length ≤ n := H.prt.many
          have HAT : Hid (∃ x ∈ its.map IP.it, lev x.k = M) := by
            obtain ⟨q, hq, hqM⟩ := HEQ.out
            exact ⟨q.it, List.mem_map_of_mem hq, hqM⟩
          have hln : (its.map IP.it).length = n := by rw [List.length_map]; omega
          have hfr0 : 0 < fr := by
            rw [← hln] at HP
            exact HP.pos HAT.out
          have HXL : Hid (segs.length ≤ 50000) := by show _ ≤ _; omega
          clear hsl
          have zE0 : Below wr.heap.size wr wr.drew := (Below.refl _ _).drew
          refine wp_region_noPanic ?_
          refine wp_region_held_drew (S := fun _ => True) (by kernel_rfl) trivial (fun _ => ?_)
          obtain ⟨zv0, hv0⟩ : ∃ v, v = wr.drew := ⟨_, rfl⟩
          rw [← hv0] at zE0 ⊢
          clear hv0
          refine hr_take_w 0 (some 93) (.pointer (some ⟨wI.heap.size, 0, none⟩)) rfl rfl (by kernel_rfl) (by kernel_rfl) (by kernel_rfl) rfl (fun W hW => by go_simp) trivial ?_
          simp only [Act.put, List.setIfInBounds_toArray, List.set_cons_zero, List.set_cons_succ]
          refine hr_take_w 1 (some 94) (.pointer (some ⟨wI.heap.size, 0, none⟩)) rfl rfl (by kernel_rfl) (by kernel_rfl) (by kernel_rfl) rfl (fun W hW => by go_simp) trivial ?_
          simp only [Act.put, List.setIfInBounds_toArray, List.set_cons_zero, List.set_cons_succ]
          refine hr_take_w 2 (some 95) (.pointer (some ⟨wI.heap.size, 0, none⟩)) rfl rfl (by kernel_rfl) (by kernel_rfl) (by kernel_rfl) rfl (fun W hW => by go_simp) trivial ?_
          simp only [Act.put, List.setIfInBounds_toArray, List.set_cons_zero, List.set_cons_succ]
          refine hr_take_w 3 (some 96) (.pointer (some ⟨wI.heap.size, 3, none⟩)) rfl rfl (by kernel_rfl) (by kernel_rfl) (by kernel_rfl) rfl (fun W hW => by go_simp) trivial ?_
          simp only [Act.put, List.setIfInBounds_toArray, List.set_cons_zero, List.set_cons_succ]
          refine hr_take_w 5 (some 98) (.slice (some ⟨b, off, none⟩) n cap) rfl rfl (by kernel_rfl) (by kernel_rfl) (by kernel_rfl) rfl (fun W hW => by go_simp) trivial ?_
          simp only [Act.put, List.setIfInBounds_toArray, List.set_cons_zero, List.set_cons_succ]
          refine hr_take_w 6 (some 99) (.int .i64 (fr : Nat)) rfl rfl (by kernel_rfl) (by kernel_rfl) (by kernel_rfl) rfl (fun W hW => by go_simp) trivial ?_
          simp only [Act.put, List.setIfInBounds_toArray, List.set_cons_zero, List.set_cons_succ]
          refine hr_take_w 7 (some 100) (.slice (bk2 (some ⟨b, off, none⟩) cap fr) (n - fr) (cap - fr)) rfl rfl (by kernel_rfl) (by kernel_rfl) (by kernel_rfl) rfl (fun W hW => by simp [execOp, Act.eval, run_back2 (W := W) (cap := cap) hfr]) trivial ?_
          simp only [Act.put, List.setIfInBounds_toArray, List.set_cons_zero, List.set_cons_succ]
          refine wpAnyH_effto 4 (fun zi zv zw => (zi = 4 → zv = c) ∧ (zi = 8 → ∃ po, zv = .pointer po ∧ Far zw w0.heap.size wI.heap.size wI.heap.size k v c fun x => T x (.pointer po) ((its.drop fr).map IP.it)) ∧ (zi = 9 → ∃ po g1, zv = .slice (some ⟨g1, 0, none⟩) 1 1 ∧ VL zw (some ⟨g1, 0, none⟩) 1 1 [.pointer po] ∧ Far zw w0.heap.size wI.heap.size wI.heap.size k v c fun x => T x (.pointer po) ((its.drop fr).map IP.it))) [(4, 97), (8, 101), (9, 102)] 107 (by kernel_rfl) (by decide) (by decide) rfl ?_ (fun _ _ => trivial) ?_ ?_
          · intro zi v w w' h hb
            refine ⟨fun e => ?_, fun e => ?_, fun e => ?_⟩
            · have h := h.1 e
              exact h
            · have h := h.2.1 e
              obtain ⟨po, h1, h2⟩ := h
              exact ⟨po, h1, h2.chg (Chg.below hb)⟩
            · have h := h.2.2 e
              obtain ⟨po, g1, h1, h2, h3⟩ := h
              exact ⟨po, g1, h1, h2.below hb, h3.chg (Chg.below hb)⟩
          · intro zp zhi o a w ho hs hb hdep
            have zEB := zE0.trans (hb.mono zE0.size)
            simp only [List.mem_cons, List.not_mem_nil, or_false] at zhi
            rcases zhi with rfl | rfl | rfl
            · obtain rfl : _ = o := Option.some.inj (show some _ = some o from ho)
              have t96 : a.tmps[96]? = some (.pointer (some ⟨wI.heap.size, 3, none⟩)) := hs.get 96 (by kernel_rfl) rfl
              have N' := N.below zEB
              have lc := N'.arr.cell 3
              exact .inl ⟨c, w, by go_simp, ⟨fun _ => rfl, fun e => absurd e (by decide), fun e => absurd e (by decide)⟩, Below.refl _ _⟩
            · obtain rfl : _ = o := Option.some.inj (show some _ = some o from ho)
              have t100 : a.tmps[100]? = some (.slice (bk2 (some ⟨b, off, none⟩) cap fr) (n - fr) (cap - fr)) := hs.get 100 (by kernel_rfl) rfl
              have N' := N.below zEB
              have BB := B.trans (zEB.mono B.size)
              have hsz := BB.size
              have CS := ih (n - fr) (by omega) w (bk2 (some ⟨b, off, none⟩) cap fr) (n - fr) (cap - fr) (its.drop fr) ((hL.from fr (by omega)).below BB) (fun y hy => hok y (List.mem_of_mem_drop hy)) (h0.trans (BB.mono h0.size)) (by omega) (by omega)
              refine .inr ⟨16, #[.slice (bk2 (some ⟨b, off, none⟩) cap fr) (n - fr) (cap - fr)], by go_simp, CS.mono ?_⟩
              rintro e w' ⟨po, rfl, O, C⟩
              exact ⟨_, rfl, ⟨fun e => absurd e (by decide), fun _ => ⟨po, rfl, O.far hsz (fun x hx => N'.offLow (by have := h0.size; omega)) (fun x hx => N'.offNew hx)⟩, fun e => absurd e (by decide)⟩, C⟩
            · obtain rfl : _ = o := Option.some.inj (show some _ = some o from ho)
              obtain ⟨x101, t101, f101⟩ := (hdep 8 (by kernel_rfl)).at 101 (by kernel_rfl)
              replace f101 := f101.2.1 rfl
              obtain ⟨po, rfl, T1⟩ := f101
              have CA : Below w.heap.size w (w.alloc (.cells #[.pointer po] 47)) := (Below.refl _ _).alloc (Nat.le_refl _) _
              exact .inl ⟨_, _, by go_simp, ⟨fun e => absurd e (by decide), fun e => absurd e (by decide), fun _ => ⟨po, _, rfl, VL.new w [.pointer po] 47 (by simp [maxLen]), T1.chg (Chg.below CA)⟩⟩, CA⟩
          intro zf zv1 hb hh
          have zE1 := zE0.trans (hb.mono zE0.size)
          obtain e4 := (hh (4, 97) (by simp)).1 rfl
          obtain ⟨po, g1, e9, G1, T1⟩ := (hh (9, 102) (by simp)).2.2 rfl
          clear hh hb
          simp only [putL, List.foldl_cons, List.foldl_nil, e4, e9]
          clear e4 e9
          simp only [Act.put, List.setIfInBounds_toArray, List.set_cons_zero, List.set_cons_succ]
          have N1 := N.below zE1
          have D1 : Chg wr zv1 wI.heap.size k v c k v c := Chg.below zE1
          have KF1 := (KF.chg D1).app T1
          obtain ⟨c2, W1, ha, P1⟩ := N1.appC (by decide) (by decide) (ps := 69) (ty := 69) Tryd.underlying69 rninfo G1 rfl (by rw [KF.len]; have := HXL.out; omega)
          obtain ⟨co2, cn2, cc2, rfl⟩ := row_slice P1.nb.oc
          refine hr_ex 10 (some 103) rfl rfl (by kernel_rfl) rfl (R := fun v w' => (.slice co2 cn2 cc2) = v ∧ W1 = w') ⟨_, W1, by simp [execOp, Act.eval, resolve, invoke, builtin, ha], rfl, rfl⟩ ?_
          rintro v w' ⟨rfl, rfl⟩
          refine ⟨trivial, ?_⟩
          simp only [Act.put, List.setIfInBounds_toArray, List.set_cons_zero, List.set_cons_succ]
          refine hr_take_w 11 (some 104) (.pointer (some ⟨wI.heap.size, 0, none⟩)) rfl rfl (by kernel_rfl) (by kernel_rfl) (by kernel_rfl) rfl (fun W hW => by go_simp) trivial ?_
          simp only [Act.put, List.setIfInBounds_toArray, List.set_cons_zero, List.set_cons_succ]
          refine hr_take_w 12 (some 105) (.pointer (some ⟨wI.heap.size, 3, none⟩)) rfl rfl (by kernel_rfl) (by kernel_rfl) (by kernel_rfl) rfl (fun W hW => by go_simp) trivial ?_
          simp only [Act.put, List.setIfInBounds_toArray, List.set_cons_zero, List.set_cons_succ]
          have lc := P1.arr.cell 3
          have lf := P1.arr.free 3
          refine hr_skip 13 none (w' := W1.setCell ⟨wI.heap.size, 3, none⟩ (.slice co2 cn2 cc2)) rfl rfl (by kernel_rfl) rfl (by go_simp) trivial ?_
          simp only [Act.put]
          refine wpAnyH_done (by kernel_rfl) ?_ _
          refine NoPanic.normal ?_
          clear lc lf ha
          have N5 := P1.nb
          have KF5 := KF1.chg P1.chg
          have B5 := B.trans ((zE1.mono B.size).trans P1.below)
          obtain ⟨W5, hW5⟩ : ∃ W5, W5 = W1.setCell ⟨wI.heap.size, 3, none⟩ (.slice co2 cn2 cc2) := ⟨_, rfl⟩
          rw [← hW5] at N5 KF5 B5 ⊢
          clear hW5
          go_wp2
          go_ret
          refine ⟨_, rfl, ?_, B5⟩
          have hm := h0.size
          have hD := HP
          rw [← hln] at hD
          refine N5.onT (Nat.le_trans hm B5.size) (fun b hb => (B5.block b (by omega)).trans (h0.block b hb)) H.sk H.sv (hD.done HAT.out) H.ek H.ev ?_
          rw [List.map_drop] at KF5
          exact KF5
end Go.Proofs.YtnicnfjickknjaaDoor

namespace Go.Proofs.YtnicnfjickknjaaDoor
open Go.RowKit

theorem rat_any (w : World) (ao : Option Addr) (n cap i : Nat) (ps : List Part) (h : PL w ao n cap ps) (hn : n ≤ 1000000) (hi : i ≤ 1000000) :
    Calls Tryd.prog 61 #[.slice ao n cap, .int .i64 i] w fun e w' => ∃ qo qn qc, e = .returned (.slice qo qn qc) ∧ Sl w qo qn qc ((pxs ps).getD i []) ∧ w' = w := by
  have hl := h.len
  by_cases hlt : i < n
  · have hlt' : (i : Int) < (n : Int) := by omega
    obtain ⟨b, off, rfl, hc⟩ := h.at (by omega)
    have hil : i < ps.length := by omega
    have c1 := hc i hil
    have S1 := h.sl ps[i] (List.getElem_mem hil)
    have HG : Hid ((pxs ps).getD i [] = ps[i].xs) := by show _ = _; simp [pxs, List.getD, hil]
    obtain ⟨q, hq⟩ : ∃ q, q = ps[i] := ⟨_, rfl⟩
    rw [← hq] at c1 S1 HG
    clear hq hc
    unfold Part.val at c1
    go_enter Tryd.func61, Tryd.ntmps61
    go_wp2
    go_ret
    exact ⟨q.ao, q.n, q.cap, rfl, by first | exact S1 | (show Sl w q.ao q.n q.cap ((pxs ps).getD i []); rw [HG.out]; exact S1), rfl⟩
  · have hlt' : ¬ (i : Int) < (n : Int) := by omega
    have HG : Hid ((pxs ps).getD i [] = []) := by show _ = _; rw [List.getD, List.getElem?_eq_none (by simp [pxs]; omega)]; rfl
    go_enter Tryd.func61, Tryd.ntmps61
    go_wp2
    go_ret
    exact ⟨none, 0, 0, rfl, by first | exact Sl.nothing w | (show Sl w none 0 0 ((pxs ps).getD i []); rw [HG.out]; exact Sl.nothing w), rfl⟩

set_option maxHeartbeats 4000000 in
set_option maxRecDepth 100000 in
theorem rform7_any (w : World) (L : Nat) (ko so co : Option Addr) (kn kc sn sc cn cc : Nat) (ks ss cs : List Part) (hK : PL w ko kn kc ks) (hS : PL w so sn sc ss) (hC : PL w co cn cc cs) (hL : L ≤ 9223372036854775807) (hkn : kn ≤ 1000000) (hsn : sn ≤ 1000000) (hcn : cn ≤ 1000000)
    (hF : (formN L (pxs ks) (pxs ss) (pxs cs)).length ≤ 1000000000) :
    Calls Tryd.prog 41 #[.int .i64 L, .slice ko kn kc, .slice so sn sc, .slice co cn cc] w fun e w' => ∃ ro rc, e = .returned (.slice ro (formN L (pxs ks) (pxs ss) (pxs cs)).length rc) ∧ Sl w' ro (formN L (pxs ks) (pxs ss) (pxs cs)).length rc (formN L (pxs ks) (pxs ss) (pxs cs)) ∧ Below w.heap.size w w' := by
  have hkl := hK.len
  have B0 : Below w.heap.size w (w.alloc (.cells (bv nodeL).toArray 5 (4, 5))) := (Below.refl _ w).alloc (Nat.le_refl _) _
  have S0 := Sl.const w nodeL (4, 5) nodeL_byte (by simp [nodeL, maxLen])
  have kc0 := Lib.run_convert_bytes_const (P := Tryd.prog) w 23 5 #[.int .u8 110, .int .u8 111, .int .u8 100, .int .u8 101] 4 4 Tryd.underlying23 Tryd.underlying5
  have hLi : (L : Int) ≤ 9223372036854775807 := by omega
  have hLw : IntKind.u64.wrap (L : Int) = L := by simp [IntKind.wrap, IntKind.bits, IntKind.signed]; omega
  have hkw : IntKind.u64.wrap (kn : Int) = kn := by simp [IntKind.wrap, IntKind.bits, IntKind.signed]; omega
  obtain ⟨KX, hKX⟩ : ∃ X, X = pxs ks := ⟨_, rfl⟩
  obtain ⟨SX, hSX⟩ : ∃ X, X = pxs ss := ⟨_, rfl⟩
  obtain ⟨CX, hCX⟩ : ∃ X, X = pxs cs := ⟨_, rfl⟩
  have hKl : KX.length = kn := by rw [hKX, pxs_len, hkl]
  rw [← hKX, ← hSX, ← hCX] at hF ⊢
  have HF : Hid (formN L KX SX CX = formH L kn CX ++ formTo KX SX CX kn) := by show _ = _; rw [formN, hKl]
  have hF2 := hF
  rw [HF.out, List.length_append] at hF2
  have HKX : Hid (KX = pxs ks) := hKX
  have HSX : Hid (SX = pxs ss) := hSX
  have HCX : Hid (CX = pxs cs) := hCX
  obtain ⟨FN, hFN⟩ : ∃ F, F = formN L KX SX CX := ⟨_, rfl⟩
  rw [← hFN] at HF ⊢
  clear hKX hSX hCX hF hFN
  have e4 := enc_length (n := 4) (by omega)
  have eL := enc_length (n := L) (by omega)
  have eK := enc_length (n := kn) (by omega)
  go_enter Tryd.func41, Tryd.ntmps41
  go_wp2_with fail
  refine (rBytes_any _ none _ 0 0 4 4 [] nodeL (Sl.nothing _) S0 (by omega)).mono ?_
  rintro e w1 ⟨v1, rfl, o1, C1⟩
  clear kc0 S0
  simp only [Nat.zero_add, List.nil_append] at o1
  have hb1 : Byt (enc 4 ++ nodeL) := Byt.append (enc_byte (by omega)) nodeL_byte
  obtain ⟨f1, c1, rfl, S1, -⟩ := Sl.own o1 hb1
  have B1 : Below w.heap.size w w1 := B0.trans (C1.mono B0.size)
  clear B0 C1 o1
  go_wp2_with fail
  refine (rUint_any w1 f1 ((enc 4).length + 4) c1 L (enc 4 ++ nodeL) S1 (by omega) (by omega)).mono ?_
  rintro e w2 ⟨v2, rfl, o2, C2⟩
  have hb2 : Byt ((enc 4 ++ nodeL) ++ enc L) := Byt.append hb1 (enc_byte (by omega))
  obtain ⟨f2, c2, rfl, S2, -⟩ := Sl.own o2 hb2
  have B2 : Below w.heap.size w w2 := B1.trans (C2.mono B1.size)
  clear B1 C2 o2 S1
  go_wp2_with fail
  refine (rUint_any w2 f2 ((enc 4).length + 4 + (enc L).length) c2 kn (enc 4 ++ nodeL ++ enc L) S2 (by omega) (by omega)).mono ?_
  rintro e w3 ⟨v3, rfl, o3, C3⟩
  have hb3 : Byt ((enc 4 ++ nodeL ++ enc L) ++ enc kn) := Byt.append hb2 (enc_byte (by omega))
  obtain ⟨f3, c3, rfl, S3, -⟩ := Sl.own o3 hb3
  have B3 : Below w.heap.size w w3 := B2.trans (C3.mono B2.size)
  clear B2 C3 o3 S2
  have CA := rat_any w3 co cn cc 0 cs (hC.below B3) hcn (by omega)
  rw [← HCX.out] at CA
  go_wp2_with fail
  refine CA.mono ?_
  rintro e w' ⟨qo, qn, qc, rfl, Q1, hw'⟩
  obtain rfl := hw'.symm
  clear CA
  have hq0 : qn = (CX.getD 0 []).length := Q1.len.symm
  have hFH : (formH L kn CX).length = (enc 4).length + 4 + (enc L).length + (enc kn).length + (enc qn).length + qn := by
    rw [hq0]
    simp only [formH, bf, List.length_append, show nodeL.length = 4 from rfl]
    omega
  have HE : Hid (enc 4 ++ nodeL ++ enc L ++ enc kn ++ enc qn ++ CX.getD 0 [] = formH L kn CX) := by
    show _ = _
    rw [hq0]
    simp only [formH, bf, List.append_assoc]
    rfl
  have hq9 : qn ≤ 1000000000 := by omega
  have hq1 : Byt (CX.getD 0 []) := Q1.byte
  have CB := rBytes_any w3 f3 qo ((enc 4).length + 4 + (enc L).length + (enc kn).length) c3 qn qc _ (CX.getD 0 []) S3 Q1 (by omega)
  clear hq0
  go_wp2_with fail
  refine CB.mono ?_
  rintro e w4 ⟨v4, rfl, o4, C4⟩
  rw [HE.out, ← hFH] at o4
  have hFb : Byt (formH L kn CX) := by
    rw [← HE.out]
    exact Byt.append (Byt.append hb3 (enc_byte (by omega))) hq1
  obtain ⟨f4, c4, rfl, S4, -⟩ := Sl.own o4 hFb
  have B4 : Below w.heap.size w w4 := B3.trans (C4.mono B3.size)
  clear B3 C4 o4 S3 Q1 CB HE hFH hFb
  go_wp2_with fail
  go_loopw [9, 10] (fun b i wr => ∃ (k : Nat) (fo : Option Addr) (fc : Nat), k ≤ kn ∧ i = .int .i64 k ∧ b = .slice fo ((formH L kn CX).length + (formTo KX SX CX k).length) fc ∧ Below w.heap.size w wr ∧ Sl wr fo ((formH L kn CX).length + (formTo KX SX CX k).length) fc (formH L kn CX ++ formTo KX SX CX k)) (fun _ i _ => kn - (intOf i).toNat)
  case atStart => exact ⟨0, f4, c4, Nat.zero_le _, rfl, rfl, B4, by simpa [formTo] using S4⟩
  case round =>
    clear S4 B4
    obtain ⟨k, fo, fc, hk, rfl, rfl, B5, S5⟩ := hrel
    by_cases hlt : k < kn
    · have hki : (k : Int) < (kn : Int) := by omega
      have hkl2 : k < ks.length := by omega
      obtain ⟨ab, aof, rfl, hcc⟩ := (hK.below B5).at (by omega)
      have c1 := hcc k hkl2
      have K5 := (hK.below B5).sl ks[k] (List.getElem_mem hkl2)
      have hfs := formTo_succ KX SX CX k
      have hfl := formTo_le KX SX CX (k + 1) kn (by omega)
      rw [hfs] at hfl
      simp only [List.length_append, bf] at hfl
      have HG : Hid (KX.getD k [] = ks[k].xs) := by show _ = _; rw [HKX.out]; simp [pxs, List.getD, hkl2]
      have HFS : Hid (formTo KX SX CX (k + 1) = formTo KX SX CX k ++ (bf (KX.getD k []) ++ (bf (SX.getD k []) ++ bf (CX.getD (k + 1) [])))) := hfs
      obtain ⟨q, hq⟩ : ∃ q, q = ks[k] := ⟨_, rfl⟩
      rw [← hq] at c1 K5 HG
      have hqn : q.n = (KX.getD k []).length := by rw [HG.out, K5.len]
      have hqn2 : q.n ≤ 1000000000 := by omega
      have hqb := K5.byte
      have HQN : Hid (q.n = (KX.getD k []).length) := hqn
      unfold Part.val at c1
      clear hfs hcc hq hqn
      have CB := rBytes_any wr fo q.ao _ fc q.n q.cap _ q.xs S5 K5 (by omega)
      go_wp2_with fail
      refine CB.mono ?_
      rintro e w6 ⟨v6, rfl, o6, C6⟩
      have b6 : Byt (formH L kn CX ++ formTo KX SX CX k ++ enc q.n ++ q.xs) := Byt.append (Byt.append S5.byte (enc_byte (by omega))) hqb
      obtain ⟨f6, c6, rfl, S6, -⟩ := Sl.own o6 b6
      have B6 : Below w.heap.size w w6 := B5.trans (C6.mono B5.size)
      have l6 := enc_length (n := q.n) (by omega)
      clear CB o6 C6 B5 S5 K5 c1
      have CA := rat_any w6 so sn sc k ss (hS.below B6) hsn (by omega)
      rw [← HSX.out] at CA
      go_wp2_with fail
      refine CA.mono ?_
      rintro e w' ⟨ro, rn, rc, rfl, R1, hw'⟩
      obtain rfl := hw'.symm
      have hrn : rn = (SX.getD k []).length := R1.len.symm
      have hrn2 : rn ≤ 1000000000 := by omega
      have HRN : Hid (rn = (SX.getD k []).length) := hrn
      have hrb := R1.byte
      clear hrn CA
      have CB := rBytes_any w6 f6 ro _ c6 rn rc _ _ S6 R1 (by omega)
      go_wp2_with fail
      refine CB.mono ?_
      rintro e w7 ⟨v7, rfl, o7, C7⟩
      have b7 : Byt (formH L kn CX ++ formTo KX SX CX k ++ enc q.n ++ q.xs ++ enc rn ++ SX.getD k []) := Byt.append (Byt.append b6 (enc_byte (by omega))) hrb
      obtain ⟨f7, c7, rfl, S7, -⟩ := Sl.own o7 b7
      have B7 : Below w.heap.size w w7 := B6.trans (C7.mono B6.size)
      have l7 := enc_length (n := rn) (by omega)
      clear CB o7 C7 B6 S6 R1
      have CA := rat_any w7 co cn cc (k + 1) cs (hC.below B7) hcn (by omega)
      rw [← HCX.out] at CA
      have hkw1 : IntKind.i64.wrap ((k : Int) + 1) = ((k + 1 : Nat) : Int) := by
        simp [IntKind.wrap, IntKind.bits, IntKind.signed]
        omega
      go_wp2_with fail
      refine CA.mono ?_
      rintro e w' ⟨ro2, rn2, rc2, rfl, R2, hw'⟩
      obtain rfl := hw'.symm
      have hrn3 : rn2 = (CX.getD (k + 1) []).length := R2.len.symm
      have hrn4 : rn2 ≤ 1000000000 := by omega
      have HRN2 : Hid (rn2 = (CX.getD (k + 1) []).length) := hrn3
      have hrb2 := R2.byte
      clear hrn3 CA
      have CB := rBytes_any w7 f7 ro2 _ c7 rn2 rc2 _ _ S7 R2 (by omega)
      go_wp2_with fail
      refine CB.mono ?_
      rintro e w8 ⟨v8, rfl, o8, C8⟩
      have b8 : Byt (formH L kn CX ++ formTo KX SX CX k ++ enc q.n ++ q.xs ++ enc rn ++ SX.getD k [] ++ enc rn2 ++ CX.getD (k + 1) []) := Byt.append (Byt.append b7 (enc_byte (by omega))) hrb2
      obtain ⟨f8, c8, rfl, S8, -⟩ := Sl.own o8 b8
      have B8 : Below w.heap.size w w8 := B7.trans (C8.mono B7.size)
      clear CB o8 C8 B7 S7 R2 hkw1
      have HX : Hid (formH L kn CX ++ formTo KX SX CX k ++ enc q.n ++ q.xs ++ enc rn ++ SX.getD k [] ++ enc rn2 ++ CX.getD (k + 1) [] = formH L kn CX ++ formTo KX SX CX (k + 1)) := by
        show _ = _
        rw [HFS.out, HQN.out, HRN.out, HRN2.out, ← HG.out]
        simp only [bf, List.append_assoc]
      have HY : Hid ((formH L kn CX).length + (formTo KX SX CX k).length + (enc q.n).length + q.n + (enc rn).length + rn + (enc rn2).length + rn2 = (formH L kn CX).length + (formTo KX SX CX (k + 1)).length) := by
        show _ = _
        rw [HFS.out]
        simp only [bf, List.length_append, ← HQN.out, ← HRN.out, ← HRN2.out]
        omega
      go_wp2_with fail
      go_roundw
      case rel =>
        refine ⟨k + 1, f8, c8, by omega, by go_num, by rw [HY.out], B8, ?_⟩
        rw [HX.out, HY.out] at S8
        exact S8
      case measure => simp [intOf]; omega
    · have hge : (kn : Int) ≤ (k : Int) := by omega
      obtain rfl : k = kn := by omega
      have HY : Hid ((formH L k CX).length + (formTo KX SX CX k).length = FN.length) := by show _ = _; rw [HF.out, List.length_append]
      rw [← HF.out, HY.out] at S5
      go_wp2
      go_ret
      refine ⟨fo, fc, ?_, S5, B5⟩
      show Ending.returned (.slice fo ((formH L k CX).length + (formTo KX SX CX k).length) fc) = _
      rw [HY.out]
end Go.Proofs.YtnicnfjickknjaaDoor

/-
  Texts in one: RForm, RTurn, RBlock.
-/
import Derived.Test.YtdcebokfnbgkaaaDoorChoosePicksQ2
import Derived.Test.YtdcebokfnbgkaaaDoorChoosePicksQ1
import Derived.Deep.RegionHeld3
import Derived.Deep.RegionLaw
import Derived.RangeFuncLeaves
import Derived.Shelf.Abstract
namespace Go.Proofs.YtdcebokfnbgkaaaDoor
open Go.RowKit
theorem formL_byte (s : ByteArray) (ps : List Part) (hs : s.size ≤ 1000000) (hn : ps.length ≤ 1000000) (h : ∀ q ∈ ps, Byt q.xs ∧ q.xs.length ≤ 1000000) : Byt (formL (sb s) (pxs ps)) := by
  unfold formL
  rw [sb_len, pxs_len]
  refine ((Byt.append (enc_byte (by omega)) (sb_byte s)).append (enc_byte (by omega))).append (fmP_byte _ fun x hx => ?_)
  obtain ⟨q, hq, rfl⟩ := List.mem_map.1 hx
  exact ⟨(h q hq).1, by have := (h q hq).2; omega⟩
set_option maxRecDepth 100000 in
set_option maxHeartbeats 4000000 in
theorem rform_any (w : World) (s : ByteArray) (ao : Option Addr) (n cap : Nat) (ps : List Part) (hP : PL w ao n cap ps) (hs : s.size ≤ 1000000) (hn : n ≤ 1000000) (hq : ∀ q ∈ ps, q.n ≤ 1000000) :
    Calls Tryd.prog 46 #[.string s, .slice ao n cap] w fun e w' => ∃ v, e = .returned v ∧ w'.ownsRow w.heap.size 5 1 v (formL (sb s) (pxs ps)).length (bv (formL (sb s) (pxs ps))) ∧ Below w.heap.size w w' := by
  have hl := hP.len
  have hni : (n : Int) ≤ 1000000 := by omega
  have hsl := sb_len s
  have es := enc_length (n := s.size) (by omega)
  have en := enc_length (n := n) (by omega)
  have hby : Byt (formL (sb s) (pxs ps)) := formL_byte s ps hs (by omega) (fun q hq' => ⟨(hP.sl q hq').byte, by rw [(hP.sl q hq').len]; exact hq q hq'⟩)
  go_enter Tryd.func46, Tryd.ntmps46
  go_wp2_with (first
    | (refine wpList_conv_bytes rfl (.tmp 7) rfl s rfl (by omega) ?_; intro g2 c2 w2 hg2 S2 B2; have s2 := B2.size; clear hg2)
    | (go_at_call 62; refine (rBytes_any w2 none _ 0 0 s.size c2 [] _ (Sl.nothing w2) S2 (by omega)).mono ?_; rintro e w3 ⟨v3, rfl, own3, C3⟩; simp only [List.nil_append, Nat.zero_add] at own3; obtain ⟨fo, fc, rfl, S3, -⟩ := Sl.own own3 (Byt.append (enc_byte (by omega)) (sb_byte s)); have B3 : Below w.heap.size w w3 := B2.trans (C3.mono (by omega)); have s3 := C3.size; clear C3 own3 S2 B2)
    | (go_at_call 44; refine (rUint_any w3 fo _ fc n _ S3 (by omega) (by omega)).mono ?_; rintro e w4 ⟨v4, rfl, own4, C4⟩; have B4 : Below w.heap.size w w4 := B3.trans (C4.mono (by omega)); have s4 := C4.size; clear C4 S3 B3))
  obtain ⟨F, hF⟩ : ∃ F, F = enc s.size ++ sb s ++ enc n := ⟨_, rfl⟩
  have hFl : F.length = (enc s.size).length + s.size + (enc n).length := by rw [hF]; simp [hsl]; omega
  have hFb : Byt F := by rw [hF]; exact (Byt.append (enc_byte (by omega)) (sb_byte s)).append (enc_byte (by omega))
  have HF : Hid (formL (sb s) (pxs ps) = F ++ fmP (pxs ps)) := by
    show _ = _
    rw [hF, formL, hsl, pxs_len, hl]
  rw [← hF, ← hFl] at own4
  have own4' := own_base own4 (base' := w.heap.size) (by omega)
  clear hF hsl own4
  go_wp2_with fail
  go_loopw [5, 6] (fun v i wr => ∃ k : Nat, k ≤ n ∧ i = .int .i64 k ∧ Below w.heap.size w wr ∧ wr.ownsRow w.heap.size 5 1 v (F ++ fmP (pxs (ps.take k))).length (bv (F ++ fmP (pxs (ps.take k))))) (fun _ i _ => n - (intOf i).toNat)
  case atStart => exact ⟨0, by omega, rfl, B4, by simpa [pxs, fmP] using own4'⟩
  case round =>
    clear own4' B4
    obtain ⟨k, hk, rfl, B7, own7⟩ := hrel
    have t7 := B7.size
    by_cases hlt : k < n
    · have hki : (k : Int) < (n : Int) := by omega
      have hkl : k < ps.length := by omega
      obtain ⟨ab, aof, rfl, hc⟩ := (hP.below B7).at (by omega)
      have c1 := hc k hkl
      have S1 := (hP.below B7).sl ps[k] (List.getElem_mem hkl)
      have HX : Hid (fmP (pxs (ps.take (k + 1))) = fmP (pxs (ps.take k)) ++ (enc ps[k].n ++ ps[k].xs)) := by
        show _ = _
        rw [pxs_take ps k hkl, fmP_snoc, S1.len]
      have hqn := hq ps[k] (List.getElem_mem hkl)
      have hFM : (fmP (pxs (ps.take k))).length ≤ k * (1000000 + 10) := by
        refine Nat.le_trans (fmP_le _ 1000000 (by omega) (fun x hx => ?_)) ?_
        · obtain ⟨q, hq', rfl⟩ := List.mem_map.1 hx
          rw [(hP.sl q (List.mem_of_mem_take hq')).len]
          exact hq q (List.mem_of_mem_take hq')
        · rw [pxs_len, List.length_take]
          exact Nat.mul_le_mul_right _ (by omega)
      have hFb7 : Byt (F ++ fmP (pxs (ps.take k))) := hFb.append (fmP_byte _ fun x hx => by
        obtain ⟨q, hq', rfl⟩ := List.mem_map.1 hx
        have := hP.sl q (List.mem_of_mem_take hq')
        exact ⟨this.byte, by have := this.len; have := hq q (List.mem_of_mem_take hq'); omega⟩)
      obtain ⟨q, hqe⟩ : ∃ q, q = ps[k] := ⟨_, rfl⟩
      rw [← hqe] at c1 S1 HX hqn
      clear hqe hc
      have hql := S1.len
      have eq := enc_length (n := q.n) (by omega)
      have hGl : (F ++ fmP (pxs (ps.take k))).length ≤ 2000000 * 1000010 := by simp; omega
      obtain ⟨G, hG⟩ : ∃ G, G = F ++ fmP (pxs (ps.take k)) := ⟨_, rfl⟩
      rw [← hG] at own7 hFb7 hGl
      have HG : Hid (G = F ++ fmP (pxs (ps.take k))) := hG
      clear hG
      unfold Part.val at c1
      obtain ⟨fo, fc, rfl, S7, -⟩ := Sl.own own7 hFb7
      go_wp2_with (go_at_call 62; refine (rBytes_any wr fo q.ao G.length fc q.n q.cap G q.xs S7 S1 (by omega)).mono ?_; rintro e w8 ⟨v8, rfl, own8, C8⟩; have B8 : Below w.heap.size w w8 := B7.trans (C8.mono (by omega)); clear C8 own7 S7 S1)
      go_roundw
      case rel =>
        refine ⟨k + 1, by omega, by go_num, B8, ?_⟩
        rw [HX.out, ← List.append_assoc F, ← HG.out]
        have el : (G ++ (enc q.n ++ q.xs)).length = G.length + (enc q.n).length + q.n := by simp [hql]; omega
        rw [el, ← List.append_assoc]
        exact own_base own8 t7
      case measure => simp [intOf]; omega
    · have hge : (n : Int) ≤ (k : Int) := by omega
      have e : ps.take k = ps := List.take_of_length_le (by omega)
      rw [e] at own7
      clear e
      go_wp2_with fail
      go_ret
      refine ⟨_, rfl, ?_, B7⟩
      rw [HF.out]
      exact own7
open Go.RowKit
theorem bor_comm (x y : Int) : bits .or .u32 x y = bits .or .u32 y x := by
  show IntKind.u32.wrap _ = IntKind.u32.wrap _
  rw [BitVec.or_comm]
set_option maxRecDepth 100000 in
set_option maxHeartbeats 1000000 in
theorem turn_2 (x : Int) (w : World) :
    Calls Tryd.prog 69 #[.int .u32 x, .int .u64 2] w fun e w' => e = .returned (.int .u32 (rl (-2) x)) ∧ w' = w := by
  go_enter Tryd.func69, Tryd.ntmps69
  go_wp2
  go_ret
  refine ⟨?_, rfl⟩
  show _ = Ending.returned (Value.int .u32 (bits .or .u32 (IntKind.u32.wrap (x * 2 ^ 30)) (x / 2 ^ 2)))
  rw [bor_comm]
  rfl
set_option maxRecDepth 100000 in
set_option maxHeartbeats 1000000 in
theorem turn_6 (x : Int) (w : World) :
    Calls Tryd.prog 69 #[.int .u32 x, .int .u64 6] w fun e w' => e = .returned (.int .u32 (rl (-6) x)) ∧ w' = w := by
  go_enter Tryd.func69, Tryd.ntmps69
  go_wp2
  go_ret
  refine ⟨?_, rfl⟩
  show _ = Ending.returned (Value.int .u32 (bits .or .u32 (IntKind.u32.wrap (x * 2 ^ 26)) (x / 2 ^ 6)))
  rw [bor_comm]
  rfl
set_option maxRecDepth 100000 in
set_option maxHeartbeats 1000000 in
theorem turn_7 (x : Int) (w : World) :
    Calls Tryd.prog 69 #[.int .u32 x, .int .u64 7] w fun e w' => e = .returned (.int .u32 (rl (-7) x)) ∧ w' = w := by
  go_enter Tryd.func69, Tryd.ntmps69
  go_wp2
  go_ret
  refine ⟨?_, rfl⟩
  show _ = Ending.returned (Value.int .u32 (bits .or .u32 (IntKind.u32.wrap (x * 2 ^ 25)) (x / 2 ^ 7)))
  rw [bor_comm]
  rfl
set_option maxRecDepth 100000 in
set_option maxHeartbeats 1000000 in
theorem turn_11 (x : Int) (w : World) :
    Calls Tryd.prog 69 #[.int .u32 x, .int .u64 11] w fun e w' => e = .returned (.int .u32 (rl (-11) x)) ∧ w' = w := by
  go_enter Tryd.func69, Tryd.ntmps69
  go_wp2
  go_ret
  refine ⟨?_, rfl⟩
  show _ = Ending.returned (Value.int .u32 (bits .or .u32 (IntKind.u32.wrap (x * 2 ^ 21)) (x / 2 ^ 11)))
  rw [bor_comm]
  rfl
set_option maxRecDepth 100000 in
set_option maxHeartbeats 1000000 in
theorem turn_13 (x : Int) (w : World) :
    Calls Tryd.prog 69 #[.int .u32 x, .int .u64 13] w fun e w' => e = .returned (.int .u32 (rl (-13) x)) ∧ w' = w := by
  go_enter Tryd.func69, Tryd.ntmps69
  go_wp2
  go_ret
  refine ⟨?_, rfl⟩
  show _ = Ending.returned (Value.int .u32 (bits .or .u32 (IntKind.u32.wrap (x * 2 ^ 19)) (x / 2 ^ 13)))
  rw [bor_comm]
  rfl
set_option maxRecDepth 100000 in
set_option maxHeartbeats 1000000 in
theorem turn_17 (x : Int) (w : World) :
    Calls Tryd.prog 69 #[.int .u32 x, .int .u64 17] w fun e w' => e = .returned (.int .u32 (rl (-17) x)) ∧ w' = w := by
  go_enter Tryd.func69, Tryd.ntmps69
  go_wp2
  go_ret
  refine ⟨?_, rfl⟩
  show _ = Ending.returned (Value.int .u32 (bits .or .u32 (IntKind.u32.wrap (x * 2 ^ 15)) (x / 2 ^ 17)))
  rw [bor_comm]
  rfl
set_option maxRecDepth 100000 in
set_option maxHeartbeats 1000000 in
theorem turn_18 (x : Int) (w : World) :
    Calls Tryd.prog 69 #[.int .u32 x, .int .u64 18] w fun e w' => e = .returned (.int .u32 (rl (-18) x)) ∧ w' = w := by
  go_enter Tryd.func69, Tryd.ntmps69
  go_wp2
  go_ret
  refine ⟨?_, rfl⟩
  show _ = Ending.returned (Value.int .u32 (bits .or .u32 (IntKind.u32.wrap (x * 2 ^ 14)) (x / 2 ^ 18)))
  rw [bor_comm]
  rfl
set_option maxRecDepth 100000 in
set_option maxHeartbeats 1000000 in
theorem turn_19 (x : Int) (w : World) :
    Calls Tryd.prog 69 #[.int .u32 x, .int .u64 19] w fun e w' => e = .returned (.int .u32 (rl (-19) x)) ∧ w' = w := by
  go_enter Tryd.func69, Tryd.ntmps69
  go_wp2
  go_ret
  refine ⟨?_, rfl⟩
  show _ = Ending.returned (Value.int .u32 (bits .or .u32 (IntKind.u32.wrap (x * 2 ^ 13)) (x / 2 ^ 19)))
  rw [bor_comm]
  rfl
set_option maxRecDepth 100000 in
set_option maxHeartbeats 1000000 in
theorem turn_22 (x : Int) (w : World) :
    Calls Tryd.prog 69 #[.int .u32 x, .int .u64 22] w fun e w' => e = .returned (.int .u32 (rl (-22) x)) ∧ w' = w := by
  go_enter Tryd.func69, Tryd.ntmps69
  go_wp2
  go_ret
  refine ⟨?_, rfl⟩
  show _ = Ending.returned (Value.int .u32 (bits .or .u32 (IntKind.u32.wrap (x * 2 ^ 10)) (x / 2 ^ 22)))
  rw [bor_comm]
  rfl
set_option maxRecDepth 100000 in
set_option maxHeartbeats 1000000 in
theorem turn_25 (x : Int) (w : World) :
    Calls Tryd.prog 69 #[.int .u32 x, .int .u64 25] w fun e w' => e = .returned (.int .u32 (rl (-25) x)) ∧ w' = w := by
  go_enter Tryd.func69, Tryd.ntmps69
  go_wp2
  go_ret
  refine ⟨?_, rfl⟩
  show _ = Ending.returned (Value.int .u32 (bits .or .u32 (IntKind.u32.wrap (x * 2 ^ 7)) (x / 2 ^ 25)))
  rw [bor_comm]
  rfl
def tl2 (k : Int) (x : Int) : Int := rl (-k) x
theorem turn_at (x k : Int) (w : World) (hk : k = 2 ∨ k = 6 ∨ k = 7 ∨ k = 11 ∨ k = 13 ∨ k = 17 ∨ k = 18 ∨ k = 19 ∨ k = 22 ∨ k = 25) :
    Calls Tryd.prog 69 #[.int .u32 x, .int .u64 k] w fun e w' => e = .returned (.int .u32 (tl2 k x)) ∧ w' = w := by
  rcases hk with rfl | rfl | rfl | rfl | rfl | rfl | rfl | rfl | rfl | rfl
  · exact turn_2 x w
  · exact turn_6 x w
  · exact turn_7 x w
  · exact turn_11 x w
  · exact turn_13 x w
  · exact turn_17 x w
  · exact turn_18 x w
  · exact turn_19 x w
  · exact turn_22 x w
  · exact turn_25 x w
end Go.Proofs.YtdcebokfnbgkaaaDoor
namespace Go
end Go
namespace Go.Proofs.YtdcebokfnbgkaaaDoor
open Go.RowKit
theorem u32info : (Tryd.prog.info? 85).map (fun i => (i.zero, i.size, i.bytes)) = some (some (.int .u32 0), 1, 4) := by kernel_rfl
def CW (w : World) (b : Nat) (xs : List Int) : Prop := ∀ i, i < xs.length → w.cell? ⟨b, i, none⟩ = some (.int .u32 (xs.getD i 0))
theorem CW.below {w w' : World} {b n : Nat} {xs : List Int} (h : CW w b xs) (hb : Below n w w') (hn : b < n) : CW w' b xs := fun i hi => (hb.cell (p := ⟨b, i, none⟩) hn).trans (h i hi)
theorem CW.lt {w : World} {b : Nat} {xs : List Int} (h : CW w b xs) (h0 : 0 < xs.length) : b < w.heap.size := World.block_lt_of_cell? w _ (h 0 h0)
theorem Arr.cw {w : World} {b : Nat} {t : TypeId} {xs : List Int} (h : Arr w b t (wv xs)) : CW w b xs := fun i hi => by rw [h.cell, wv_get _ _ hi]
theorem made_arr {w : World} {base g n : Nat} {t : TypeId} (h : w.ownsRow base t 1 (.slice (some ⟨g, 0, none⟩) n n) n (madeCells (Value.int .u32 0).cells (n * 1)).toList) : Arr w g t (wv (List.replicate n 0)) := by
  rcases h.2 with ⟨h0, _⟩ | ⟨g', cap, cur, hv, hg, hh, hle, hmx, hcs, htk⟩
  · simp at h0
  · simp only [Value.slice.injEq, Option.some.injEq, Addr.mk.injEq, and_true, true_and] at hv
    obtain ⟨rfl, rfl⟩ := hv
    have e : cur.toList = wv (List.replicate n 0) := by
      rw [List.take_of_length_le (by simp [hcs])] at htk
      rw [htk]
      refine List.ext_getElem? fun i => ?_
      by_cases hi : i < n
      · simp [madeCells, wv, hi, Value.cells, Nat.mod_one]
      · simp [madeCells, wv, hi, Value.cells]
    unfold Arr
    rw [← e]
    exact hh
theorem be_ref (B : List Int) (k : Nat) (hB : Byt B) : bits .or .u32 (bits .or .u32 (bits .or .u32 (B.getD (4 * k) 0 * 16777216 % 4294967296) (B.getD (4 * k + 1) 0 * 65536 % 4294967296)) (B.getD (4 * k + 2) 0 * 256 % 4294967296)) (B.getD (4 * k + 3) 0) = be B k 4 := by
  have g : ∀ j, ∃ n : Nat, B.getD j 0 = (n : Int) ∧ n < 256 := fun j => by
    have h : 0 ≤ B.getD j 0 ∧ B.getD j 0 ≤ 255 := hB.at j
    obtain ⟨n, hn⟩ := Int.eq_ofNat_of_zero_le h.1
    exact ⟨n, hn, by omega⟩
  obtain ⟨b0, e0, l0⟩ := g (4 * k)
  obtain ⟨b1, e1, l1⟩ := g (4 * k + 1)
  obtain ⟨b2, e2, l2⟩ := g (4 * k + 2)
  obtain ⟨b3, e3, l3⟩ := g (4 * k + 3)
  have m0 : (b0 : Int) * 16777216 % 4294967296 = ((b0 * 16777216 : Nat) : Int) := by omega
  have m1 : (b1 : Int) * 65536 % 4294967296 = ((b1 * 65536 : Nat) : Int) := by omega
  have m2 : (b2 : Int) * 256 % 4294967296 = ((b2 * 256 : Nat) : Int) := by omega
  have j1 : b0 * 16777216 ||| b1 * 65536 = b0 * 16777216 + b1 * 65536 := nat_join 24 _ _ (by omega) (by omega)
  have j2 : (b0 * 16777216 + b1 * 65536) ||| b2 * 256 = b0 * 16777216 + b1 * 65536 + b2 * 256 := nat_join 16 _ _ (by omega) (by omega)
  have j3 : (b0 * 16777216 + b1 * 65536 + b2 * 256) ||| b3 = b0 * 16777216 + b1 * 65536 + b2 * 256 + b3 := nat_join 8 _ _ (by omega) (by omega)
  rw [e0, e1, e2, e3, m0, m1, m2, u32_or_nat _ _ (by omega) (by omega), j1, u32_or_nat _ _ (by omega) (by omega), j2, u32_or_nat _ _ (by omega) (by omega), j3]
  have s : ∀ (x b : Nat), x < 16777216 → b < 256 → sh (x : Int) (b : Int) = ((x * 256 + b : Nat) : Int) := by
    intro x b hx hb
    unfold sh
    rw [IntKind.wrap_u32', show (x : Int) * 256 % 4294967296 = ((x * 256 : Nat) : Int) by omega, u32_or_nat _ _ (by omega) (by omega), nat_join 8 _ _ (by omega) (by omega)]
  have z : be B k 4 = sh (sh (sh (sh ((0 : Nat) : Int) (b0 : Int)) b1) b2) b3 := by
    rw [← e0, ← e1, ← e2, ← e3]
    rfl
  rw [z, s _ _ (by omega) l0, s _ _ (by omega) l1, s _ _ (by omega) l2, s _ _ (by omega) l3]
  refine congrArg _ ?_
  omega
theorem eight (X : List Int) (h : X.length = 8) : ∃ a b c d e f g l, X = [a, b, c, d, e, f, g, l] := by
  match X, h with
  | [a, b, c, d, e, f, g, l], _ => exact ⟨a, b, c, d, e, f, g, l, rfl⟩
theorem Rr_eight (X Ws : List Int) (k : Nat) (h : X.length = 8) : ∃ a b c d e f g l, Rr X Ws k = [a, b, c, d, e, f, g, l] := by
  induction k with
  | zero => exact eight X h
  | succ k ih =>
    obtain ⟨a, b, c, d, e, f, g, l, e1⟩ := ih
    simp only [Rr, e1, rnd]
    exact ⟨_, _, _, _, _, _, _, _, rfl⟩
theorem cell_set_ne (W : World) (N k i : Nat) (z : Value) (h : i ≠ k) : (W.setCell ⟨N, k, none⟩ z).cell? ⟨N, i, none⟩ = W.cell? ⟨N, i, none⟩ := by
  have hk : ¬ k = i := fun e => h e.symm
  simp only [World.cell?, World.setCell, Array.getElem?_modify, if_true]
  cases W.heap[N]? with
  | none => rfl
  | some o => cases o <;> simp [hk]
theorem keep2 {W : World} {N k i j : Nat} {u v z : Value} (hi : i ≠ k) (hj : j ≠ k) (a : W.cell? ⟨N, i, none⟩ = some u) (b : W.cell? ⟨N, j, none⟩ = some v) :
    (W.setCell ⟨N, k, none⟩ z).cell? ⟨N, i, none⟩ = some u ∧ (W.setCell ⟨N, k, none⟩ z).cell? ⟨N, j, none⟩ = some v :=
  ⟨(cell_set_ne W N k i z hi).trans a, (cell_set_ne W N k j z hj).trans b⟩
structure BIn (w : World) (bh bk bb ob : Nat) (X B : List Int) : Prop where
  h : CW w bh X
  k : CW w bk K0
  b : ∀ i, i < 64 → w.cell? ⟨bb, ob + i, none⟩ = some (.int .u8 (B.getD i 0))
  lenX : X.length = 8
  lenB : B.length = 64
  byte : Byt B
theorem BIn.below {w w' : World} {bh bk bb ob : Nat} {X B : List Int} (h : BIn w bh bk bb ob X B) (hb : Below w.heap.size w w') : BIn w' bh bk bb ob X B :=
  ⟨h.h.below hb (h.h.lt (by rw [h.lenX]; decide)), h.k.below hb (h.k.lt (by decide)), fun i hi => (hb.cell (p := ⟨bb, ob + i, none⟩) (World.block_lt_of_cell? w _ (h.b i hi))).trans (h.b i hi), h.lenX, h.lenB, h.byte⟩
end Go.Proofs.YtdcebokfnbgkaaaDoor

/-
  Texts in one: CStr, HRegA, HRegC, PCompare.
-/
import Derived.Test.YtcepknjdiboinaaDoorTreeBetweenZ0
import Derived.Test.YtcepknjdiboinaaDoorTreeBetweenZ3
import Derived.BigQuiet
import Derived.Deep.RegionHeld3
import Derived.Test.YtcepknjdiboinaaDoorTreeBetweenZ2
import Derived.Lib.Bytealg
namespace Go.Proofs.YtcepknjdiboinaaDoor
open Go.RowKit

theorem sb_at (s : ByteArray) (k : Nat) (h : k < s.size) : (sb s).drop k = (s[k].toNat : Int) :: (sb s).drop (k + 1) := by
  have hl : k < (sb s).length := by rw [sb_len]; exact h
  rw [List.drop_eq_getElem_cons hl]
  simp [sb, ByteArray.getElem_eq_getElem_data]
theorem cmpL_cons (a b : Int) (s t : List Int) : cmpL (a :: s) (b :: t) = if a = b then cmpL s t else if a < b then -1 else 1 := by rw [cmpL]
theorem sb_end (s : ByteArray) (k : Nat) (h : s.size ≤ k) : (sb s).drop k = [] := List.drop_eq_nil_of_le (by rw [sb_len]; exact h)

theorem belN {n : Nat} {a w : World} (h : Below n a w) (q : Nat) : Below n a (w.drewN q) := by
  have e0 : (w.drewN q).heap = w.heap := by simp
  exact ⟨by rw [← h.os]; rfl, by rw [← h.tape]; rfl, by rw [← h.output]; rfl, by rw [e0]; exact h.size, fun k hk => by rw [e0]; exact h.block k hk⟩
end Go.Proofs.YtcepknjdiboinaaDoor

namespace Go
section
variable {P : Program} {ops : Array Oper} {S : World → Prop} {Q : Exit → Act → World → Prop} {fuel : Nat} {listed : Array Bool} {a : Act} {w : World}
/-- Take number i first. -/
theorem hr_take (i : Nat) (d : Option Tmp) (v : Value) {oi : Oper} (hi : ops[i]? = some oi) (hd : oi.dst = d) (hs : Region.noSelect ops = true) (hf : Region.free .any ops listed i = true) (hr : (Region.ready .any ops listed).contains i = true)
    (hg : oi.guard = none) (hrun : ∀ W, S W → (execOp a.eval oi).run P W = .ok (.value v) W) (hS : S w) (h : wpAnyH P .any ops (NoPanic Q) S fuel (listed.setIfInBounds i true) (a.put d v) w) : wpAnyH P .any ops (NoPanic Q) S (fuel + 1) listed a w :=
  wpAnyH_take hi hs hf hr (fun _ _ _ h => h) (.inl ⟨by simp [Region.wanted, hg], hrun⟩) hS (by rw [hd]; exact h)
theorem hr_take_w (i : Nat) (d : Option Tmp) (v : Value) {oi : Oper} (hi : ops[i]? = some oi) (hd : oi.dst = d) (hs : Region.noSelect ops = true) (hf : Region.free .any ops listed i = true) (hr : (Region.ready .any ops listed).contains i = true)
    (hw : Region.wanted oi (yielded ops a.tmps) = true) (hrun : ∀ W, S W → (execOp a.eval oi).run P W = .ok (.value v) W) (hS : S w) (h : wpAnyH P .any ops (NoPanic Q) S fuel (listed.setIfInBounds i true) (a.put d v) w) : wpAnyH P .any ops (NoPanic Q) S (fuel + 1) listed a w :=
  wpAnyH_take hi hs hf hr (fun _ _ _ h => h) (.inl ⟨hw, hrun⟩) hS (by rw [hd]; exact h)
/-- Number i's guard says no. -/
theorem hr_none (i : Nat) (d : Option Tmp) {oi : Oper} (hi : ops[i]? = some oi) (hd : oi.dst = d) (hs : Region.noSelect ops = true) (hf : Region.free .any ops listed i = true) (hr : (Region.ready .any ops listed).contains i = true)
    (hw : Region.wanted oi (yielded ops a.tmps) = false) (hS : S w) (h : wpAnyH P .any ops (NoPanic Q) S fuel (listed.setIfInBounds i true) (a.put d undef) w) : wpAnyH P .any ops (NoPanic Q) S (fuel + 1) listed a w :=
  wpAnyH_take hi hs hf hr (fun _ _ _ h => h) (.inr ⟨hw, rfl⟩) hS (by rw [hd]; exact h)
/-- Carry number i out: no other may come up. -/
theorem hr_do (i : Nat) (d : Option Tmp) (v : Value) {oi : Oper} {w' : World} (hi : ops[i]? = some oi) (hd : oi.dst = d) (hr : Region.ready .any ops listed = [i]) (hg : oi.guard = none) (hrun : (execOp a.eval oi).run P w = .ok (.value v) w') (hS : S w')
    (h : wpAnyH P .any ops (NoPanic Q) S fuel (listed.setIfInBounds i true) (a.put d v) w') : wpAnyH P .any ops (NoPanic Q) S (fuel + 1) listed a w := by
  refine wpAnyH_all hr (by simp) fun j hj => ?_
  obtain rfl := List.mem_singleton.1 hj
  have hw : Region.wanted oi (yielded ops a.tmps) = true := by simp [Region.wanted, hg]
  unfold wpOp
  simp only [hi, hw, if_true, Oper.wp, hrun, Oper.upon, hd]
  exact .inl ⟨hS, h⟩
theorem hr_skip (i : Nat) (d : Option Tmp) {oi : Oper} {w' : World} (hi : ops[i]? = some oi) (hd : oi.dst = d) (hr : Region.ready .any ops listed = [i]) (hg : oi.guard = none) (hrun : (execOp a.eval oi).run P w = .ok .skip w') (hS : S w')
    (h : wpAnyH P .any ops (NoPanic Q) S fuel (listed.setIfInBounds i true) (a.put d undef) w') : wpAnyH P .any ops (NoPanic Q) S (fuel + 1) listed a w := by
  refine wpAnyH_all hr (by simp) fun j hj => ?_
  obtain rfl := List.mem_singleton.1 hj
  have hw : Region.wanted oi (yielded ops a.tmps) = true := by simp [Region.wanted, hg]
  unfold wpOp
  simp only [hi, hw, if_true, Oper.wp, hrun, Oper.upon, hd]
  exact .inl ⟨hS, h⟩
theorem hr_skip_ex (i : Nat) (d : Option Tmp) {oi : Oper} {R : World → Prop} (hi : ops[i]? = some oi) (hd : oi.dst = d) (hr : Region.ready .any ops listed = [i]) (hg : oi.guard = none) (hrun : ∃ w', (execOp a.eval oi).run P w = .ok .skip w' ∧ R w')
    (h : ∀ w', R w' → S w' ∧ wpAnyH P .any ops (NoPanic Q) S fuel (listed.setIfInBounds i true) (a.put d undef) w') : wpAnyH P .any ops (NoPanic Q) S (fuel + 1) listed a w := by
  obtain ⟨w', h1, h2⟩ := hrun
  exact hr_skip i d hi hd hr hg h1 (h w' h2).1 (h w' h2).2
/-- .. a call. -/
theorem hr_call (i : Nat) (d : Option Tmp) {oi : Oper} (f : FuncId) (args : Array Value) (hi : ops[i]? = some oi) (hd : oi.dst = d) (hr : Region.ready .any ops listed = [i]) (hg : oi.guard = none) (hrun : (execOp a.eval oi).run P w = .ok (.enter f args) w)
    (R : Value → World → Prop) (hc : Calls P f args w fun e w' => ∃ v, e = .returned v ∧ R v w')
    (h : ∀ v w', R v w' → S w' ∧ wpAnyH P .any ops (NoPanic Q) S fuel (listed.setIfInBounds i true) (a.put d v) w') : wpAnyH P .any ops (NoPanic Q) S (fuel + 1) listed a w := by
  refine wpAnyH_all hr (by simp) fun j hj => ?_
  obtain rfl := List.mem_singleton.1 hj
  have hw : Region.wanted oi (yielded ops a.tmps) = true := by simp [Region.wanted, hg]
  unfold wpOp
  simp only [hi, hw, if_true, Oper.wp, hrun, Oper.upon, hd]
  refine .inl (hc.mono ?_)
  rintro e w' ⟨v, rfl, hR⟩
  exact h v w' hR
theorem hr_call_w (i : Nat) (d : Option Tmp) {oi : Oper} (f : FuncId) (args : Array Value) (hi : ops[i]? = some oi) (hd : oi.dst = d) (hr : Region.ready .any ops listed = [i]) (hw : Region.wanted oi (yielded ops a.tmps) = true) (hrun : (execOp a.eval oi).run P w = .ok (.enter f args) w)
    (R : Value → World → Prop) (hc : Calls P f args w fun e w' => ∃ v, e = .returned v ∧ R v w')
    (h : ∀ v w', R v w' → S w' ∧ wpAnyH P .any ops (NoPanic Q) S fuel (listed.setIfInBounds i true) (a.put d v) w') : wpAnyH P .any ops (NoPanic Q) S (fuel + 1) listed a w := by
  refine wpAnyH_all hr (by simp) fun j hj => ?_
  obtain rfl := List.mem_singleton.1 hj
  unfold wpOp
  simp only [hi, hw, if_true, Oper.wp, hrun, Oper.upon, hd]
  refine .inl (hc.mono ?_)
  rintro e w' ⟨v, rfl, hR⟩
  exact h v w' hR
end
end Go

namespace Go
section
variable {P : Program} {ops : Array Oper} {S : World → Prop} {Q : Exit → Act → World → Prop} {fuel : Nat} {listed : Array Bool} {a : Act} {w : World}
/-- Carry number i out, whatever it yields. -/
theorem hr_ex (i : Nat) (d : Option Tmp) {oi : Oper} {R : Value → World → Prop} (hi : ops[i]? = some oi) (hd : oi.dst = d) (hr : Region.ready .any ops listed = [i]) (hw : Region.wanted oi (yielded ops a.tmps) = true)
    (hrun : ∃ v w', (execOp a.eval oi).run P w = .ok (.value v) w' ∧ R v w')
    (h : ∀ v w', R v w' → S w' ∧ wpAnyH P .any ops (NoPanic Q) S fuel (listed.setIfInBounds i true) (a.put d v) w') : wpAnyH P .any ops (NoPanic Q) S (fuel + 1) listed a w := by
  refine wpAnyH_all hr (by simp) fun j hj => ?_
  obtain rfl := List.mem_singleton.1 hj
  obtain ⟨v, w', hrun, hR⟩ := hrun
  unfold wpOp
  simp only [hi, hw, if_true, Oper.wp, hrun, Oper.upon, hd]
  exact .inl (h v w' hR)
/-- The same where several may come up. -/
theorem op_ex (i : Nat) (d : Option Tmp) {oi : Oper} {R : Value → World → Prop} (hi : ops[i]? = some oi) (hd : oi.dst = d) (hw : Region.wanted oi (yielded ops a.tmps) = true)
    (hrun : ∃ v w', (execOp a.eval oi).run P w = .ok (.value v) w' ∧ R v w')
    (h : ∀ v w', R v w' → S w' ∧ wpAnyH P .any ops (NoPanic Q) S fuel (listed.setIfInBounds i true) (a.put d v) w') : wpOp P ops (NoPanic Q) i (fun a' w' => S w' ∧ wpAnyH P .any ops (NoPanic Q) S fuel (listed.setIfInBounds i true) a' w') a w := by
  obtain ⟨v, w', hrun, hR⟩ := hrun
  unfold wpOp
  simp only [hi, hw, if_true, Oper.wp, hrun, Oper.upon, hd]
  exact .inl (h v w' hR)
theorem op_calls (i : Nat) (d : Option Tmp) {oi : Oper} (f : FuncId) (args : Array Value) (hi : ops[i]? = some oi) (hd : oi.dst = d) (hw : Region.wanted oi (yielded ops a.tmps) = true) (hrun : (execOp a.eval oi).run P w = .ok (.enter f args) w)
    (R : Value → World → Prop) (hc : Calls P f args w fun e w' => ∃ v, e = .returned v ∧ R v w')
    (h : ∀ v w', R v w' → S w' ∧ wpAnyH P .any ops (NoPanic Q) S fuel (listed.setIfInBounds i true) (a.put d v) w') : wpOp P ops (NoPanic Q) i (fun a' w' => S w' ∧ wpAnyH P .any ops (NoPanic Q) S fuel (listed.setIfInBounds i true) a' w') a w := by
  unfold wpOp
  simp only [hi, hw, if_true, Oper.wp, hrun, Oper.upon, hd]
  refine .inl (hc.mono ?_)
  rintro e w' ⟨v, rfl, hR⟩
  exact h v w' hR
theorem hr_any {rs : List Nat} (hr : Region.ready .any ops listed = rs) (hne : rs ≠ []) (h : ∀ i ∈ rs, wpOp P ops (NoPanic Q) i (fun a' w' => S w' ∧ wpAnyH P .any ops (NoPanic Q) S fuel (listed.setIfInBounds i true) a' w') a w) : wpAnyH P .any ops (NoPanic Q) S (fuel + 1) listed a w :=
  wpAnyH_all hr hne h
end
end Go
namespace Go.Proofs.YtcepknjdiboinaaDoor
open Go.RowKit
theorem Addr.add_nought (a : Addr) : a.add 0 = a := by
  obtain ⟨b, o, s⟩ := a
  cases s <;> simp [Addr.add]
/-- l[:i:c] -/
theorem run_front {P : Program} {W : World} {t e : TypeId} {ao : Option Addr} {n cap i c : Nat} (ht : P.underlying t = some (.slice e)) (h1 : i ≤ c) (h2 : c ≤ cap) (hs : ∀ w, (sizeOf e).run P w = .ok 1 w) :
    (Instr.sliceAt t (.slice ao n cap) none (some (.int .i64 (i : Nat))) (some (.int .i64 (c : Nat)))).run P W = .ok (.slice ao i c) W := by
  have he : P.elem t = e := by simp [Program.elem, ht]
  rw [run_sliceAt_slice W t _ _ _ _ (by rw [he]; exact ht), run_slice_hm W t ao n cap (by rw [he]; exact ht) .i64 .i64 i c (by omega) (by omega) (by omega), he, hs]
  simp only [Result.andThen_ok, sliced, Int.toNat_natCast, Nat.zero_mul, Nat.sub_zero]
  cases ao with
  | none => simp
  | some a => simp [Addr.add_nought]
/-- l[:i] -/
theorem run_upto {P : Program} {W : World} {t e : TypeId} {ao : Option Addr} {n cap i : Nat} (ht : P.underlying t = some (.slice e)) (h1 : i ≤ cap) (hs : ∀ w, (sizeOf e).run P w = .ok 1 w) :
    (Instr.sliceAt t (.slice ao n cap) none (some (.int .i64 (i : Nat))) none).run P W = .ok (.slice ao i cap) W := by
  have he : P.elem t = e := by simp [Program.elem, ht]
  rw [run_sliceAt_slice W t _ _ _ _ (by rw [he]; exact ht), run_slice_h W t ao n cap (by rw [he]; exact ht) .i64 i (by omega) (by omega), he, hs]
  simp only [Result.andThen_ok, sliced, Int.toNat_natCast, Nat.zero_mul, Nat.sub_zero]
  cases ao with
  | none => simp
  | some a => simp [Addr.add_nought]
/-- Where l[j:] lies. -/
def bk (ao : Option Addr) (cap j : Nat) : Option Addr := if cap = j then ao else ao.map (·.add j)
/-- l[j:] -/
theorem run_back {P : Program} {W : World} {t e : TypeId} {ao : Option Addr} {n cap j : Nat} (ht : P.underlying t = some (.slice e)) (h1 : j ≤ n) (hs : ∀ w, (sizeOf e).run P w = .ok 1 w) :
    (Instr.sliceAt t (.slice ao n cap) (some (.int .i64 (j : Nat))) none none).run P W = .ok (.slice (bk ao cap j) (n - j) (cap - j)) W := by
  have he : P.elem t = e := by simp [Program.elem, ht]
  rw [run_sliceAt_slice W t _ _ _ _ (by rw [he]; exact ht), run_slice_l W t ao n cap (by rw [he]; exact ht) .i64 j (by omega) (by omega), he, hs]
  simp only [Result.andThen_ok, sliced, Int.toNat_natCast, Nat.mul_one, bk]
theorem VL.from {w : World} {ao : Option Addr} {n cap : Nat} {vs : List Value} (h : VL w ao n cap vs) (j : Nat) (hj : j ≤ n) : VL w (bk ao cap j) (n - j) (cap - j) (vs.drop j) := by
  cases ao with
  | some a => 
    have := h.back j hj
    unfold bk
    by_cases hc : cap = j
    · rw [if_pos hc] at this ⊢
      exact this
    · rw [if_neg hc] at this ⊢
      exact this
  | none =>
    obtain ⟨rfl, rfl⟩ := h.nil rfl
    obtain rfl : j = 0 := by omega
    obtain rfl : vs = [] := List.eq_nil_of_length_eq_zero h.len
    exact VL.nothing w
theorem size1 (e : TypeId) (h : (Tryd.prog.info? e).map (·.size) = some 1) (w : World) : (sizeOf e).run Tryd.prog w = .ok 1 w := by
  cases hi : Tryd.prog.info? e with
  | none => rw [hi] at h; simp at h
  | some i =>
    rw [hi] at h
    simp only [Option.map_some, Option.some.injEq] at h
    simp [sizeOf, typeInfo, hi, h]
end Go.Proofs.YtcepknjdiboinaaDoor

namespace Go.Proofs.YtcepknjdiboinaaDoor
open Go.RowKit

theorem sb_push (s : ByteArray) (b : UInt8) : sb (s.push b) = sb s ++ [(b.toNat : Int)] := by
  simp [sb, ByteArray.push]
theorem load_bytes {w : World} : ∀ (n : Nat) (a : Addr) (xs : List Int) (acc : ByteArray), xs.length = n → Byt xs → (∀ i, i < n → w.cell? (a.add i) = some (.int .u8 (xs.getD i 0))) →
    ∃ s, (Extern.Bytes.loadBytes a n acc).run Tryd.prog w = .ok s w ∧ sb s = sb acc ++ xs
  | 0, a, xs, acc, hl, _, _ => by
    obtain rfl : xs = [] := List.eq_nil_of_length_eq_zero hl
    exact ⟨acc, rfl, by simp⟩
  | n + 1, a, [], acc, hl, _, _ => by simp at hl
  | n + 1, a, x :: xs, acc, hl, hb, hc => by
    have h0 := hc 0 (by omega)
    rw [Addr.add_nought] at h0
    have hx := hb x (List.mem_cons_self ..)
    obtain ⟨s, h1, h2⟩ := load_bytes n (a.add 1) xs (acc.push x.toNat.toUInt8) (by simpa using hl) (fun y hy => hb y (List.mem_cons_of_mem _ hy)) (fun i hi => by
      have := hc (i + 1) (by omega)
      rw [Addr.add_add, Nat.add_comm 1 i, this]
      simp)
    refine ⟨s, ?_, ?_⟩
    · have h0' : w.cell? a = some (.int .u8 x) := by simpa using h0
      unfold Extern.Bytes.loadBytes
      simp only [Sem.run_bind, run_load, h0', Result.andThen_ok]
      exact h1
    · rw [h2, sb_push, List.append_assoc]
      congr 1
      simp
      omega
theorem cmp_sb (a b : List UInt8) : Lib.compareBytes a b = cmpL (a.map fun c => (c.toNat : Int)) (b.map fun c => (c.toNat : Int)) := by
  induction a generalizing b with
  | nil => cases b <;> rfl
  | cons x a ih =>
    cases b with
    | nil => rfl
    | cons y b =>
      have hxy : x < y ↔ (x.toNat : Int) < y.toNat := by rw [UInt8.lt_iff_toNat_lt]; omega
      have hyx : y < x ↔ (y.toNat : Int) < x.toNat := by rw [UInt8.lt_iff_toNat_lt]; omega
      simp only [Lib.compareBytes, List.map_cons, cmpL, ih]
      by_cases h1 : x < y
      · have := hxy.1 h1
        rw [if_pos h1, if_neg (by omega), if_pos (by omega)]
      · rw [if_neg h1]
        by_cases h2 : y < x
        · have := hyx.1 h2
          rw [if_pos h2, if_neg (by omega), if_neg (by omega)]
        · have h3 : ¬ (x.toNat : Int) < y.toNat := fun h => h1 (hxy.2 h)
          have h4 : ¬ (y.toNat : Int) < x.toNat := fun h => h2 (hyx.2 h)
          rw [if_neg h2, if_pos (by omega)]
theorem bytes_of {w : World} {ao : Option Addr} {n cap : Nat} {xs : List Int} (h : Sl w ao n cap xs) : ∃ s, (Extern.Bytes.bytesOf (.slice ao n cap)).run Tryd.prog w = .ok s w ∧ sb s = xs := by
  cases ao with
  | none =>
    obtain ⟨rfl, rfl⟩ := h.nil rfl
    obtain rfl : xs = [] := List.eq_nil_of_length_eq_zero h.len
    exact ⟨_, rfl, rfl⟩
  | some a =>
    obtain ⟨s, h1, h2⟩ := load_bytes n a xs .empty h.len h.byte (h.cell a rfl)
    exact ⟨s, h1, by rw [h2]; rfl⟩
theorem bcmp_any (w : World) (ao bo : Option Addr) (n cap m cap2 : Nat) (xs ys : List Int) (h : Sl w ao n cap xs) (h2 : Sl w bo m cap2 ys) :
    Calls Tryd.prog 44 #[.slice ao n cap, .slice bo m cap2] w fun e w' => e = .returned (.int .i64 (cmpL xs ys)) ∧ w' = w := by
  have hcall : (callFunc 66 #[.slice ao n cap, .slice bo m cap2]).run Tryd.prog w = .ok (.value (.int .i64 (cmpL xs ys))) w := by
    rw [run_callFunc_extern Tryd.func66 (by kernel_rfl) (by kernel_rfl) (by kernel_rfl) (e := Extern.BytealgCompare.compare) (by kernel_rfl)]
    obtain ⟨s, h3, h4⟩ := bytes_of h
    obtain ⟨t, h5, h6⟩ := bytes_of h2
    have e : (Extern.BytealgCompare.compare #[.slice ao n cap, .slice bo m cap2]).run Tryd.prog w = .ok (.int .i64 (cmpL xs ys)) w := by
      change Sem.run Tryd.prog (do pure (goInt (Extern.BytealgCompare.cmp (← Extern.Bytes.bytesOf (.slice ao n cap)) (← Extern.Bytes.bytesOf (.slice bo m cap2))))) w = _
      simp only [Sem.run_bind, h3, h5, Sem.run_pure, Result.andThen]
      rw [Lib.cmp_eq, cmp_sb, ← h4, ← h6]
      rfl
    rw [e]
    rfl
  go_enter Tryd.func44, Tryd.ntmps44
  go_wp2
  go_ret
  exact ⟨rfl, rfl⟩
end Go.Proofs.YtcepknjdiboinaaDoor

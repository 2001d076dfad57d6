/-
  Texts in one: HRegIn, CkRep, CkItems, CkCut, CkBackM, CkAlive, LaysLaw9, Laid7, RowIn.
-/
import Derived.Test.YtkmkmekhodcioaaGreatDoorChunkLaysZ2
import Derived.RangeFuncCalls
import Derived.OrdersIn
import Derived.ControlIn
import Derived.Laws.CopyOwn
import Derived.Lib.MakeNoZero
import Derived.WalkLawsBesides
import Derived.Test.YtkmkmekhodcioaaGreatDoorChunkLaysZ6
import Derived.Test.YtkmkmekhodcioaaGreatDoorChunkLaysZ16
import Derived.Test.YtkmkmekhodcioaaGreatDoorChunkLaysZ14
import Derived.Test.YtkmkmekhodcioaaGreatDoorChunkLaysZ20
import Derived.Test.YtkmkmekhodcioaaGreatDoorChunkLaysZ22
import Derived.Lib.SmallJoins
import Derived.Test.YtkmkmekhodcioaaGreatDoorChunkLaysZ21
import Derived.Test.YtkmkmekhodcioaaGreatDoorChunkLaysZ24
import Derived.Test.YtkmkmekhodcioaaGreatDoorChunkLaysZ30
import Derived.Test.YtkmkmekhodcioaaGreatDoorChunkLaysZ32
import Derived.Test.YtkmkmekhodcioaaGreatDoorChunkLaysZ4
import Derived.Test.YtkmkmekhodcioaaGreatDoorRows
import Derived.Test.YtkmkmekhodcioaaGreatDoorChunkLaysZ0
import Derived.ProofKit
import Derived.LaidMore
import Derived.Lay
import Derived.OpenShut
import Derived.Lib.LaidU8
import Derived.Stop.Joined
namespace Go
section
variable {P : Program} {ops : Array Oper} {Q : Exit → Act → World → Prop}
theorem opIn_of {l n : Nat} {o : Oper} {a : Act} {w : World} {K K' : Act → World → Prop} (hd : ∀ c, o.op ≠ .defer c) (hk : ∀ a w, K a w → K' a w) (h : o.wp P a w K Q) : o.wpIn (Fence.wide.inRound l) n P a w K' Q := by
  unfold Oper.wpIn
  refine ⟨fun _ _ => trivial, ?_⟩
  rw [Oper.semAt_eq _ _ _ hd]
  unfold Oper.wp at h
  generalize (execOp a.eval o).run P w = r at h ⊢
  cases r with
  | ok x w' =>
    cases x with
    | value v => exact hk _ _ h
    | skip => exact hk _ _ h
    | defer d => exact hk _ _ h
    | enter f args =>
      refine ⟨fun e => by simp [Fence.wide] at e, (CallsIn.inRound l (callsIn_wide.2 h)).mono ?_⟩
      intro e w'' he
      cases e with
      | returned v => exact hk _ _ he
      | panicked c => exact he
      | outgrown => exact he
    | row r args =>
      refine ⟨fun e => by simp [Fence.wide] at e, fun c cs _ => ?_⟩
      obtain ⟨v, w2, h1, h2⟩ := h c cs
      exact ⟨v, w2, hk _ _ h1, stepsIn_wide.2 h2⟩
    | _ => exact h.elim
  | halt x w' =>
    cases x with
    | panic v => exact h
    | _ => exact h.elim
theorem anyIn_of {md : Region.Mode} {l n : Nat} (hd : ∀ (i : Nat) (o : Oper), ops[i]? = some o → ∀ c, o.op ≠ .defer c) (hL : ∀ a w, ¬ Q .outgrown a w) : ∀ (fuel : Nat) (listed : Array Bool) (a : Act) (w : World), wpAny P md ops (NoPanic Q) fuel listed a w → wpAnyIn (Fence.wide.inRound l) n P md ops (NoPanic Q) fuel listed a w
  | 0, _, _, _, h => h
  | fuel + 1, listed, a, w, h => by
    refine ⟨h.1, fun i hi => ?_⟩
    have hi' := h.2 i hi
    unfold wpOp at hi'
    unfold wpOpIn
    cases ho : ops[i]? with
    | none =>
      rw [ho] at hi'
      exact anyIn_of hd hL fuel _ a w hi'
    | some o =>
      rw [ho] at hi'
      simp only at hi' ⊢
      by_cases hw : Region.wanted o (yielded ops a.tmps) = true
      · rw [if_pos hw] at hi' ⊢
        rcases hi' with hi' | ⟨_, hO⟩
        · exact opIn_of (hd i o ho) (fun a w h => anyIn_of hd hL fuel _ a w h) hi'
        · obtain ⟨a', w', hq⟩ := hO
          exact (hL a' w' hq).elim
      · rw [if_neg hw] at hi' ⊢
        exact ⟨fun _ _ => trivial, anyIn_of hd hL fuel _ _ w hi'⟩
def noDefer (ops : Array Oper) : Bool := ops.toList.all fun o => match o.op with
  | .defer _ => false
  | _ => true
theorem noDefer_at (h : noDefer ops = true) : ∀ (i : Nat) (o : Oper), ops[i]? = some o → ∀ c, o.op ≠ .defer c := fun i o ho c hc => by
  have hm : o ∈ ops.toList := by
    rw [Array.mem_toList_iff]
    exact Array.mem_of_getElem? ho
  have := List.all_eq_true.1 h o hm
  rw [hc] at this
  simp at this
/-- The beginning of such a region in a round. -/
theorem wpIn_round_held {S : World → Prop} {l n id : Nat} {a : Act} {w : World} (hm : P.follows .mixedOrders = true) (hd : noDefer ops = true) (hL : ∀ a w, ¬ Q .outgrown a w) (hS : S w.drew)
    (h : S w.drew → wpAnyH P .any ops (NoPanic Q) S ops.size (Array.replicate ops.size false) a w.drew) : (Code.region id ops true).wpIn (Fence.wide.inRound l) n P Q a w :=
  wpIn_mono (wpIn_region_any hm (anyIn_of (noDefer_at hd) hL _ _ _ _ (wpAny_of_held _ _ _ _ (h hS)))) NoPanic.imp
end
end Go

namespace Go
theorem exec_copy {P : Program} {a : Act} {w w' : World} {o : Oper} {d s : Operand} {t t' ty : TypeId} {v u v' : Value} (ho : o.op = .call { callee := .builtin .copy, args := #[d, s], argTypes := #[t, t'] }) (hd : a.eval d = v) (hs : a.eval s = u) (ht : o.type = ty)
    (hr : (Builtin.copy_ #[t, t'] ty #[v, u]).run P w = .ok v' w') : (execOp a.eval o).run P w = .ok (.value v') w' := by
  unfold execOp
  simp only [ho, ht, resolve, invoke, builtin, Sem.run_bind, Sem.run_pure, Result.andThen_ok, List.map_toArray, List.map_cons, List.map_nil, hd, hs, hr]
end Go
namespace Go.Proofs.YtkmkmekhodcioaaGreatDoor
open Go.RowKit

set_option maxRecDepth 100000 in
set_option maxHeartbeats 4000000 in
theorem pmul64_257 (w : World) : Calls Tryz.prog 122 #[.int .u64 1, .int .u64 257] w fun e w' => e = .returned (.tuple #[.int .u64 0, .int .u64 257]) ∧ w' = w := by
  go_enter Tryz.func122, Tryz.ntmps122
  go_wp2
  go_ret2
  exact ⟨rfl, rfl⟩

set_option maxRecDepth 100000 in
set_option maxHeartbeats 4000000 in
theorem pmul_257 (w : World) : Calls Tryz.prog 102 #[.int .u64 1, .int .u64 257] w fun e w' => e = .returned (.tuple #[.int .u64 0, .int .u64 257]) ∧ w' = w := by
  go_enter Tryz.func102, Tryz.ntmps102
  go_wp2_with fail
  refine (pmul64_257 w).mono ?_
  rintro e w' ⟨rfl, hw⟩
  obtain rfl := hw.symm
  go_wp2
  go_ret2
  exact ⟨rfl, rfl⟩

set_option maxRecDepth 100000 in
set_option maxHeartbeats 4000000 in
theorem prep257_any (w : World) (ad : Addr) (h : Sl w (some ad) 1 1 [255]) :
    Calls Tryz.prog 67 #[.slice (some ad) 1 1, .int .i64 257] w fun e w' => ∃ ao n c, e = .returned (.slice ao n c) ∧ Sl w' ao n c (List.replicate 257 255) ∧ Below w.heap.size w w' := by
  obtain ⟨cs, hrunM, hle, _⟩ := Lib.run_makeNoZero (P := Tryz.prog) w #[3] 23 5 Tryz.underlying23 257 (by omega)
  have hcall : (callFunc 103 #[.int .i64 257]).run Tryz.prog w = .ok (.value (.slice (some ⟨w.heap.size, 0, none⟩) 257 cs.size)) ((w.alloc (.cells cs 5)).drewN 2) := by
    rw [run_callFunc_extern Tryz.func103 (by kernel_rfl) (by kernel_rfl) (by kernel_rfl) (e := Extern.BytealgMakeNoZero.makeNoZero #[3] #[23]) (by kernel_rfl)]
    have e257 : ((257 : Nat) : Int) = 257 := rfl
    rw [e257] at hrunM
    rw [hrunM]
    rfl
  clear hrunM
  have hle2 : (257 : Int) ≤ (cs.size : Int) := by omega
  go_enter Tryz.func67, Tryz.ntmps67
  go_wp2_with fail
  refine (pmul_257 w).mono ?_
  rintro e w' ⟨rfl, hw⟩
  obtain rfl := hw.symm
  have e0 : ((w.alloc (.cells cs 5)).drewN 2).heap[w.heap.size]? = some (.cells cs.toList.toArray 5 (0, 0)) := by simpa using heap_alloc_new w (.cells cs 5)
  have B0 : Below w.heap.size w ((w.alloc (.cells cs 5)).drewN 2) := belN ((Below.refl _ w).alloc (Nat.le_refl _) _) 2
  have c0 : ((w.alloc (.cells cs 5)).drewN 2).cell? (ad.add 0) = some (.int .u8 255) := by
    have := (h.below B0).cell ad rfl 0 (by omega)
    simpa using this
  obtain ⟨w3, hr, H3, B3⟩ : ∃ w3, (Builtin.copy_ #[23, 23] 3 #[.slice (some ⟨w.heap.size, 0, none⟩) 257 257, .slice (some ad) 1 1]).run Tryz.prog ((w.alloc (.cells cs 5)).drewN 2) = .ok (.int .i64 1) w3 ∧ Hid (w3.heap[w.heap.size]? = some (.cells (splice cs.toList 0 [Value.int .u8 255]).toArray 5 (0, 0))) ∧ Below w.heap.size w w3 := by
    have hrun := run_copy_row (P := Tryz.prog) ((w.alloc (.cells cs 5)).drewN 2) 23 23 3 5 w.heap.size 0 257 257 ad 1 1 cs.toList.toArray 5 [.int .u8 255] Tryz.underlying23 (by kernel_rfl) e0 rfl (fun j v hj => by
      cases j with
      | zero => simp at hj; subst hj; exact c0
      | succ j => simp at hj) (by simp; omega) (by intro v hv; rw [List.mem_singleton.1 hv]; rfl)
    exact ⟨_, hrun, (show _ = _ by simpa [splice] using setRow_heap _ w.heap.size _ _ 5 _ e0), below_setRow B0 (Nat.le_refl _) _⟩
  have L3 : (splice cs.toList 0 [Value.int .u8 255]).length = cs.size := by rw [length_splice _ _ _ (by simp; omega)]; simp
  have T3 : (splice cs.toList 0 [Value.int .u8 255]).take 1 = List.replicate 1 (.int .u8 255) := by simp [splice]
  obtain ⟨cur3, hcur⟩ : ∃ c, c = splice cs.toList 0 [Value.int .u8 255] := ⟨_, rfl⟩
  rw [← hcur] at H3 L3 T3
  have HT3 : Hid (cur3.take 1 = List.replicate 1 (.int .u8 255)) := T3
  clear hcur T3 c0 e0 B0
  obtain ⟨N, hN⟩ : ∃ N, N = w.heap.size := ⟨_, rfl⟩
  go_wp2_with fail
  clear hr hcall
  rw [← hN] at H3 B3 ⊢
  have HN : Hid (N = w.heap.size) := hN
  clear hN
  go_loopw [10, 11] (fun i _ wr => ∃ (j : Nat) (cur : List Value), 1 ≤ j ∧ j ≤ 257 ∧ i = .int .i64 j ∧ Hid (wr.heap[N]? = some (.cells cur.toArray 5 (0, 0))) ∧ 257 ≤ cur.length ∧ Hid (cur.take j = List.replicate j (.int .u8 255)) ∧ Below N w wr) (fun i _ _ => 257 - (intOf i).toNat)
  case atStart => exact ⟨1, cur3, by omega, by omega, rfl, H3, by omega, HT3, B3⟩
  case round =>
    clear H3 HT3 B3
    obtain ⟨j, cur, h1, h257, rfl, H, hl, T, B⟩ := hrel
    by_cases l : j < 257
    · have il : (j : Int) < 257 := by omega
      have il2 : (j : Int) ≤ 257 := by omega
      obtain ⟨m, hm⟩ : ∃ m, m = Nat.min j (257 - j) := ⟨_, rfl⟩
      have hm1 : 1 ≤ m ∧ m ≤ j ∧ j + m ≤ 257 := by rw [hm]; simp only [Nat.min_def]; split <;> omega
      have HH := H.out
      have HT := T.out
      have q : ∀ i, i < j → wr.drew.cell? ⟨N, i, none⟩ = some (.int .u8 255) := fun i hi => by
        have e : wr.drew.heap[N]? = some (.cells cur.toArray 5 (0, 0)) := HH
        rw [cell_of_row wr.drew N i _ _ _ e]
        have h2 : (cur.take j)[i]? = (List.replicate j (Value.int .u8 255))[i]? := by rw [HT]
        rw [List.getElem?_take_of_lt hi] at h2
        simpa [hi] using h2
      obtain ⟨w4, hr, H4, B4⟩ : ∃ w4, (Builtin.copy_ #[23, 23] 3 #[.slice (some ⟨N, j, none⟩) (257 - j) (257 - j), .slice (some ⟨N, 0, none⟩) j 257]).run Tryz.prog wr.drew = .ok (.int .i64 m) w4 ∧ Hid (w4.heap[N]? = some (.cells (splice cur j (List.replicate m (Value.int .u8 255))).toArray 5 (0, 0))) ∧ Below N w w4 := by
        have e : wr.drew.heap[N]? = some (.cells cur.toArray 5 (0, 0)) := HH
        have hrun := run_copy_row (P := Tryz.prog) wr.drew 23 23 3 5 N j (257 - j) (257 - j) ⟨N, 0, none⟩ j 257 cur.toArray 5 (List.replicate m (Value.int .u8 255)) Tryz.underlying23 (by kernel_rfl) e (by rw [List.length_replicate]; exact hm) (fun i v hi => by
          have hi2 : i < m := by
            have := (List.getElem?_eq_some_iff.1 hi).1
            simpa using this
          have hv : v = .int .u8 255 := by simpa [hi2] using hi.symm
          rw [hv, Addr.add_lit, Nat.zero_add]
          exact q i (by omega)) (by simp; omega) (by intro v hv; rw [List.eq_of_mem_replicate hv]; rfl)
        rw [List.length_replicate] at hrun
        exact ⟨_, hrun, (show _ = _ by simpa [splice] using setRow_heap _ N _ _ 5 _ e), below_setRow B.drew (Nat.le_refl _) _⟩
      have L4 : 257 ≤ (splice cur j (List.replicate m (Value.int .u8 255))).length := by rw [length_splice _ _ _ (by simp; omega)]; omega
      have T4 : Hid ((splice cur j (List.replicate m (Value.int .u8 255))).take (j + m) = List.replicate (j + m) (.int .u8 255)) := by
        show _ = _
        have hjl : (cur.take j).length = j := by rw [List.length_take]; omega
        unfold splice
        rw [HT, ← List.append_assoc, List.replicate_append_replicate, List.take_append_of_le_length (by simp), List.take_of_length_le (by simp)]
      obtain ⟨cur4, hc4⟩ : ∃ c, c = splice cur j (List.replicate m (Value.int .u8 255)) := ⟨_, rfl⟩
      rw [← hc4] at H4 L4 T4
      clear hc4 H T q HH HT hm
      have e1 : ((j : Int) + (m : Int)) ≤ 257 := by omega
      have e0 : (0 : Int) ≤ (j : Int) := by omega
      have z1 : ¬ 257 = j := by omega
      have z2 : ¬ j = 0 := by omega
      go_wp2_with fail
      refine wp_region_noPanic ?_
      refine wp_region_held_drew (S := fun _ => True) (by kernel_rfl) trivial (fun _ => ?_)
      refine hr_take 0 (some 67) (.int .i64 j) rfl rfl (by kernel_rfl) (by kernel_rfl) (by kernel_rfl) rfl (fun W _ => by go_simp) trivial ?_
      simp only [Act.put, List.setIfInBounds_toArray, List.set_cons_zero, List.set_cons_succ]
      refine hr_take 1 (some 68) (.slice (some ⟨N, 0, none⟩) 257 257) rfl rfl (by kernel_rfl) (by kernel_rfl) (by kernel_rfl) rfl (fun W _ => by go_simp) trivial ?_
      simp only [Act.put, List.setIfInBounds_toArray, List.set_cons_zero, List.set_cons_succ]
      refine hr_take 2 (some 69) (.int .i64 j) rfl rfl (by kernel_rfl) (by kernel_rfl) (by kernel_rfl) rfl (fun W _ => by go_simp) trivial ?_
      simp only [Act.put, List.setIfInBounds_toArray, List.set_cons_zero, List.set_cons_succ]
      refine hr_take 3 (some 70) (.slice (some ⟨N, j, none⟩) (257 - j) (257 - j)) rfl rfl (by kernel_rfl) (by kernel_rfl) (by kernel_rfl) rfl (fun W _ => by go_simp) trivial ?_
      simp only [Act.put, List.setIfInBounds_toArray, List.set_cons_zero, List.set_cons_succ]
      refine hr_take 4 (some 71) (.slice (some ⟨N, 0, none⟩) 257 257) rfl rfl (by kernel_rfl) (by kernel_rfl) (by kernel_rfl) rfl (fun W _ => by go_simp) trivial ?_
      simp only [Act.put, List.setIfInBounds_toArray, List.set_cons_zero, List.set_cons_succ]
      refine hr_take 5 (some 72) (.int .i64 j) rfl rfl (by kernel_rfl) (by kernel_rfl) (by kernel_rfl) rfl (fun W _ => by first | (go_simp; done) | (go_simp; omega)) trivial ?_
      simp only [Act.put, List.setIfInBounds_toArray, List.set_cons_zero, List.set_cons_succ]
      refine hr_take 6 (some 73) (.slice (some ⟨N, 0, none⟩) j 257) rfl rfl (by kernel_rfl) (by kernel_rfl) (by kernel_rfl) rfl (fun W _ => by go_simp) trivial ?_
      simp only [Act.put, List.setIfInBounds_toArray, List.set_cons_zero, List.set_cons_succ]
      refine hr_do 7 (some 74) (.int .i64 m) rfl rfl (by kernel_rfl) rfl (w' := w4) (exec_copy rfl rfl rfl rfl hr) trivial ?_
      simp only [Act.put, List.setIfInBounds_toArray, List.set_cons_zero, List.set_cons_succ]
      refine hr_take 8 (some 75) (.int .i64 ((j + m : Nat) : Int)) rfl rfl (by kernel_rfl) (by kernel_rfl) (by kernel_rfl) rfl (fun W _ => by (go_simp; rw [IntKind.wrap_i64]; omega)) trivial ?_
      simp only [Act.put, List.setIfInBounds_toArray, List.set_cons_zero, List.set_cons_succ]
      refine hr_take 9 (some 10) (.int .i64 ((j + m : Nat) : Int)) rfl rfl (by kernel_rfl) (by kernel_rfl) (by kernel_rfl) rfl (fun W _ => by go_simp) trivial ?_
      simp only [Act.put, List.setIfInBounds_toArray, List.set_cons_zero, List.set_cons_succ]
      refine wpAnyH_done (by kernel_rfl) ?_ _
      refine NoPanic.normal ?_
      go_wp2
      go_roundw
      case rel => exact ⟨j + m, cur4, by omega, by omega, rfl, H4, L4, T4, B4⟩
      case measure => simp [intOf]; omega
    · obtain rfl : j = 257 := by omega
      have S : Sl wr (some ⟨N, 0, none⟩) 257 257 (List.replicate 257 255) := by
        refine ⟨by simp, Nat.le_refl _, by decide, fun h => by simp at h, fun a ha i hi => ?_, fun x hx => by have := List.eq_of_mem_replicate hx; omega⟩
        obtain rfl := Option.some.inj ha
        rw [Addr.add_lit, Nat.zero_add, cell_of_row wr N i _ _ _ H.out]
        have h2 : (cur.take 257)[i]? = (List.replicate 257 (Value.int .u8 255))[i]? := by rw [T.out]
        have h3 : (List.replicate 257 (255 : Int)).getD i 0 = 255 := by rw [List.getD, List.getElem?_replicate, if_pos hi]; rfl
        rw [List.getElem?_take_of_lt hi, List.getElem?_replicate, if_pos hi] at h2
        rw [h3, ← h2]
        simp
      clear H T
      go_wp2
      go_ret
      exact ⟨_, _, _, rfl, S, by rw [← HN.out]; exact B⟩
end Go.Proofs.YtkmkmekhodcioaaGreatDoor

namespace Go.Proofs.YtkmkmekhodcioaaGreatDoor
open Go.RowKit

/-- A key stands below a longer run of 255s. -/
theorem cmpL_top : ∀ (k : List Int) (n : Nat), Byt k → k.length < n → cmpL k (List.replicate n 255) < 0
  | [], n, _, h => by
    cases n with
    | zero => simp at h
    | succ n => simp [List.replicate_succ, cmpL]
  | x :: k, n, hb, h => by
    cases n with
    | zero => simp at h
    | succ n =>
      have hx := hb x (List.mem_cons_self ..)
      have ih := cmpL_top k n (fun y hy => hb y (List.mem_cons_of_mem _ hy)) (by simpa using h)
      rw [List.replicate_succ]
      simp only [cmpL]
      by_cases e : x = 255
      · rw [if_pos e]
        exact ih
      · rw [if_neg e, if_pos (by omega)]
        omega
theorem btw_top {l : List It} (h : ∀ x ∈ l, Byt x.k ∧ x.k.length ≤ 256) : btw [] (List.replicate 257 255) l = l := by
  unfold btw ge
  have e : (l.filter fun x => decide (¬ cmpL x.k [] < 0)) = l := by
    refine List.filter_eq_self.2 fun x _ => decide_eq_true ?_
    cases x.k with
    | nil => simp [cmpL]
    | cons a b => simp [cmpL]
  rw [e]
  exact List.filter_eq_self.2 fun x hx => decide_eq_true (cmpL_top x.k 257 (h x hx).1 (by have := (h x hx).2; omega))

/-- All items are told, in new memory. -/
def AllPost (w : World) (l : List It) (e : Ending) (w' : World) : Prop := ∃ ao n cap ps, e = .returned (.slice ao n cap) ∧ IL w' ao n cap ps ∧ ps.map IP.it = l ∧ Below w.heap.size w w'

set_option maxHeartbeats 1000000 in
set_option maxRecDepth 100000 in
theorem itemsOf_any (w : World) (v : Value) (l : List It) (h : TT w v l) (hs : Srt l) (hl : l.length ≤ 50000) (hsz : ∀ x ∈ l, (Byt x.k ∧ x.k.length ≤ 256) ∧ x.v.length ≤ 1000000) :
    Calls Tryz.prog 38 #[v] w (AllPost w l) := by
  obtain ⟨W0, hW0⟩ : ∃ W, W = w.alloc (.cells #[.int .u8 255] 5) := ⟨_, rfl⟩
  have B0 : Below w.heap.size w W0 := by rw [hW0]; exact (Below.refl _ _).alloc (Nat.le_refl _) _
  have S0 : Sl W0 (some ⟨w.heap.size, 0, none⟩) 1 1 [255] := by rw [hW0]; exact Sl.one w 255 (by omega)
  have CR := prep257_any W0 ⟨w.heap.size, 0, none⟩ S0
  have h0 := h.below B0
  have HB : Hid (btw [] (List.replicate 257 255) l = l) := btw_top fun x hx => (hsz x hx).1
  have HSZ : Hid (∀ x ∈ l, x.k.length ≤ 1000000 ∧ x.v.length ≤ 1000000) := fun x hx => ⟨by have := (hsz x hx).1.2; omega, (hsz x hx).2⟩
  clear hsz h S0
  go_enter Tryz.func38, Tryz.ntmps38
  go_wp2_with fail
  rw [← hW0]
  clear hW0
  refine CR.mono ?_
  rintro e W1 ⟨ro, rn, rc, rfl, S1, C1⟩
  have h1 := h0.below C1
  have E1 := B0.trans (C1.mono B0.size)
  obtain ⟨top, htop⟩ : ∃ t, t = List.replicate 257 (255 : Int) := ⟨_, rfl⟩
  rw [← htop] at S1 HB
  have CI := titems_any W1 v l [] top none ro 0 0 rn rc 9223372036854775807 h1 hs (Sl.nothing W1) S1 hl HSZ.out
  clear htop CR h0 h1 S1 B0 C1
  go_wp2_with fail
  refine CI.mono ?_
  rintro e W2 ⟨ao, n, cap, ps, t, rfl, IL2, hm, -, C2⟩
  have E2 := E1.trans (C2.mono E1.size)
  have HM : Hid (ps.map IP.it = l) := by
    show _ = _
    rw [hm, HB.out, List.take_of_length_le (by omega)]
  clear CI hm E1 C2
  go_wp2
  go_ret
  exact ⟨_, _, _, ps, rfl, IL2, HM.out, E2⟩
end Go.Proofs.YtkmkmekhodcioaaGreatDoor

namespace Go.Proofs.YtkmkmekhodcioaaGreatDoor
open Go.RowKit Go.Shelf

attribute [local go_sem] Oper.semAt_some

/-- What Cut answers. -/
structure CutPost (w : World) (l : List It) (per : Int) (e : Ending) (w' : World) : Prop where
  bad : per < 1 ∨ 64 < per → e = .returned (.tuple #[.slice none 0 0, .int .i64 1])
  good : 1 ≤ per → per ≤ 64 → ∃ ao n cap qs, e = .returned (.tuple #[.slice ao n cap, .int .i64 0]) ∧ KL w' ao n cap qs ∧ qs.map Part.xs = (cuts per.toNat l).map putCk
  bel : Below w.heap.size w w'

set_option maxHeartbeats 1000000 in
set_option maxRecDepth 100000 in
theorem cut_bad (w : World) (v : Value) (l : List It) (per : Int) (hp : per < 1 ∨ 64 < per) : Calls Tryz.prog 15 #[v, .int .i64 per] w (CutPost w l per) := by
  rcases hp with hp | hp
  · go_enter Tryz.func15, Tryz.ntmps15
    go_wp2
    go_ret2
    exact ⟨fun _ => rfl, fun h => by omega, Below.refl _ _⟩
  · have hp1 : ¬ per < 1 := by omega
    go_enter Tryz.func15, Tryz.ntmps15
    go_wp2
    go_ret2
    exact ⟨fun _ => rfl, fun _ h => by omega, Below.refl _ _⟩

theorem heap_putObj_ne (W : World) {b k : Nat} (h : b ≠ k) (o : Obj) : (W.putObj b o).heap[k]? = W.heap[k]? := by
  simp [World.putObj, h]

set_option maxHeartbeats 4000000 in
set_option maxRecDepth 100000 in
theorem cut_in (w : World) (v : Value) (l : List It) (per : Nat) (hp0 : 0 < per) (hp1 : per ≤ 64) (h : TT w v l) (hs : Srt l) (hl : l.length ≤ 50000) (hsz : ∀ x ∈ l, (Byt x.k ∧ x.k.length ≤ 256) ∧ Byt x.v ∧ x.v.length ≤ 1000000) :
    CallsIn Fence.wide 3 Tryz.prog 15 #[v, .int .i64 per] w (CutPost w l per) := by
  have hpa : ¬ (per : Int) < 1 := by omega
  have hpb : ¬ (64 : Int) < (per : Int) := by omega
  obtain ⟨w0, hw0⟩ : ∃ W, W = w.alloc (.cells #[.slice none 0 0] 22) := ⟨_, rfl⟩
  have B0 : Below w.heap.size w w0 := by rw [hw0]; exact (Below.refl _ _).alloc (Nat.le_refl _) _
  have A0 : w0.heap[w.heap.size]? = some (.cells #[.slice none 0 0] 22) := by rw [hw0]; exact heap_alloc_new w _
  have CI := itemsOf_any w0 v l (h.below B0) hs hl (fun x hx => ⟨(hsz x hx).1, (hsz x hx).2.2⟩)
  have HSZ : Hid (∀ x ∈ l, (Byt x.k ∧ x.k.length ≤ 256) ∧ Byt x.v ∧ x.v.length ≤ 1000000) := hsz
  clear h hs hsz
  refine callsIn_of_wp_marks Tryz.func15 rfl trivial ?_ rfl
  simp only [Tryz.ntmps15, List.size_toArray, List.length_cons, List.length_nil, Nat.reduceAdd, Nat.reduceSub, Array.replicate_succ, Array.replicate_zero, List.push_toArray, List.append_toArray, List.nil_append, List.cons_append]
  gi_wp2_with fail
  rw [← hw0]
  refine ⟨trivial, (callsIn_wide.2 CI).mono ?_⟩
  rintro e w1 ⟨ao, m, cap, its, rfl, hIL, hits, B1⟩
  clear CI hw0
  have A1 : w1.heap[w.heap.size]? = some (.cells #[.slice none 0 0] 22) := (B1.block _ (Array.getElem?_eq_some_iff.1 A0).1).trans A0
  have hBlt : w.heap.size < w1.heap.size := (Array.getElem?_eq_some_iff.1 A1).1
  have E1 : Below w.heap.size w w1 := B0.trans (B1.mono B0.size)
  have hil1 := Nat.le_of_eq hIL.len
  have hil2 := Nat.le_of_eq hIL.len.symm
  have hml : m ≤ 50000 := by
    have := congrArg List.length hits
    rw [List.length_map] at this
    omega
  have HIT : Hid (its.map IP.it = l) := hits
  have HQ : Hid (∀ q ∈ its, (q.k.n ≤ 256 ∧ Byt q.k.xs) ∧ q.v.n ≤ 1000000 ∧ Byt q.v.xs) := fun q hq => by
    have hx := HSZ.out q.it (by rw [← hits]; exact List.mem_map.2 ⟨q, hq, rfl⟩)
    have h1 := (hIL.sl q hq).1.len
    have h2 := (hIL.sl q hq).2.len
    exact ⟨⟨by have : q.k.xs.length ≤ 256 := hx.1.2; omega, hx.1.1⟩, by have : q.v.xs.length ≤ 1000000 := hx.2.2; omega, hx.2.1⟩
  clear hits HSZ B0 B1 A0
  gi_wp2_with fail
  refine ⟨trivial, (chunk_in Fence.wide 2 trivial rfl ao m cap per hp0 w1).mono ?_⟩
  rintro e w2 ⟨rfl, hw2⟩
  have bA : Below w1.heap.size w1 w2 := by rw [hw2]; exact ((Below.refl _ w1).alloc (Nat.le_refl _) _).alloc (by simp) _
  have hsz2 : w2.heap.size = w1.heap.size + 2 := by rw [hw2]; simp
  have cS : w2.cell? ⟨w1.heap.size, 0, none⟩ = some (.slice ao m cap) := by
    rw [hw2, World.cell?_alloc_lt _ _ _ (by simp)]
    exact cell_of_row _ _ 0 _ _ _ (heap_alloc_new w1 _)
  have cN : w2.cell? ⟨w1.heap.size + 1, 0, none⟩ = some (.int .i64 per) := by
    have := heap_alloc_new (w1.alloc (.cells #[.slice ao m cap] 30)) (.cells #[.int .i64 per] 3)
    rw [World.size_alloc, ← hw2] at this
    exact cell_of_row _ _ 0 _ _ _ this
  have A2 : w2.heap[w.heap.size]? = some (.cells #[.slice none 0 0] 22) := (bA.block _ hBlt).trans A1
  have IL2 := hIL.below bA
  have E2 := E1.trans (bA.mono E1.size)
  have hI : ∀ x, ILb ao its x → x < w2.heap.size ∧ x ≠ w.heap.size := fun x hx => ⟨IL2.blkLt hx, IL2.notBox A2 hx⟩
  clear hIL A1 E1 bA hw2
  gi_wp2_with fail
  refine wpIn_rangeFunc_ownG rfl (by decide) (gf := 66) (lb := #[.pointer (some ⟨w1.heap.size, 0, none⟩), .pointer (some ⟨w1.heap.size + 1, 0, none⟩)]) rfl trivial (enters_of Tryz.func66 (by kernel_rfl) rfl)
    (chunk_stops Fence.wide 2 trivial rfl (by decide) w1.heap.size (w1.heap.size + 1) ao m cap per hp0 hp1 (by omega) IL2.le w2 cS cN) KpTwo.trans (fun W b o o' hb _ _ _ => ⟨heap_putObj_ne W (by omega) o', heap_putObj_ne W (by omega) o'⟩) (Below.refl _ _) (fun _ => rfl)
    (fun (pre : List (Pr m)) W => ∃ v qs, CtI w w2 w.heap.size ao its (pre.map fun x : Pr m => (l.drop x.val.1).take x.val.2) W v qs)
    (fun _ _ _ => False)
    (fun pre W W' row ⟨v, qs, h⟩ hg hr => ⟨v, qs, h.walk hg hr (fun x hx => (hI x hx).1) (by omega)⟩)
    (fun _ _ _ _ _ hs _ _ => hs)
    ⟨.slice none 0 0, [], A2, ⟨rfl, .inl ⟨rfl, rfl⟩⟩, rfl, fun _ h => by simp at h, fun _ _ => rfl, E2, Nat.le_refl _⟩
    (fun (x : Pr m) => { tmps := #[v, .int .i64 per, undef, undef, .slice none 0 0, .int .i64 0, .pointer (some ⟨w.heap.size, 0, none⟩), .slice (sA ao x.val.1) x.val.2 x.val.2, .int .i64 per, .bool false, .bool false, .int .i64 per, .bool false, .bool false, v, .slice ao m cap, .int .i64 per, .func (.func 66) #[] #[.pointer (some ⟨w1.heap.size, 0, none⟩), .pointer (some ⟨w1.heap.size + 1, 0, none⟩)], .slice (sA ao x.val.1) x.val.2 x.val.2, undef, undef, undef, undef, undef, undef], defers := [] }) ?assign ?body ?done ?stop
  case assign =>
    intro l x W K hK
    unfold encP
    gi_wp2
    exact hK
  case body =>
    rintro r pre x W ⟨u, qs, hC⟩ hlt
    have hx := x.property
    have HX : Hid (x.val.1 + x.val.2 ≤ m ∧ 0 < x.val.2) := hx
    obtain ⟨i, hi⟩ : ∃ i, i = x.val.1 := ⟨_, rfl⟩
    obtain ⟨k, hk⟩ : ∃ k, k = x.val.2 := ⟨_, rfl⟩
    rw [← hi, ← hk] at hx ⊢
    have HIK : Hid (i = x.val.1 ∧ k = x.val.2) := ⟨hi, hk⟩
    have ILW : IL W ao m cap its := IL2.keptB hC.kp
    have ILp := ILW.part (i := i) (m := k) hx.1 hx.2
    have CF : ∀ V, Below W.heap.size W V → _ := fun V hV => ckform_any V (sA ao i) k k _ (ILp.below hV) (by omega) (fun q hq => by
      have := HQ.out q (List.mem_of_mem_drop (List.mem_of_mem_take hq))
      exact ⟨by omega, this.2.1⟩)
    have hby : Byt (putCk (((its.drop i).take k).map IP.it)) := formTk_byt _ (by rw [List.length_map, List.length_take]; omega) _ fun y hy => by
      obtain ⟨q, hq, rfl⟩ := List.mem_map.1 hy
      have hq' := List.mem_of_mem_drop (List.mem_of_mem_take hq)
      have h1 := HQ.out q hq'
      have h2 := (IL2.sl q hq').1.len
      have h3 := (IL2.sl q hq').2.len
      exact ⟨⟨by show q.k.xs.length ≤ _; omega, h1.1.2⟩, by show q.v.xs.length ≤ _; omega, h1.2.2⟩
    have hql : qs.length ≤ 1000000 := by
      have := congrArg List.length hC.xs
      simp only [List.length_map] at this
      omega
    have HPX : Hid (((its.drop i).take k).map IP.it = (l.drop x.val.1).take x.val.2) := by
      show _ = _
      rw [List.map_take, List.map_drop, HIT.out, HIK.out.1, HIK.out.2]
    obtain ⟨P, hP⟩ : ∃ P, P = putCk (((its.drop i).take k).map IP.it) := ⟨_, rfl⟩
    have HP : Hid (P = putCk (((its.drop i).take k).map IP.it)) := hP
    rw [← hP] at CF hby
    obtain ⟨pl, hpl⟩ : ∃ n, n = P.length := ⟨_, rfl⟩
    rw [← hpl] at CF
    have hbx : W.cell? ⟨w.heap.size, 0, none⟩ = some u := cell_of_row _ _ 0 _ _ _ hC.bx
    have HC : Hid (CtI w w2 w.heap.size ao its (pre.map fun x : Pr m => (l.drop x.val.1).take x.val.2) W u qs) := hC
    clear hi hk hC ILW ILp hP hpl
    have E0 : Below W.heap.size W W.drew := (Below.refl _ _).drew
    gi_wp2_with fail
    refine wpIn_round_held (S := fun _ => True) (by kernel_rfl) (by kernel_rfl) (fun _ _ h => h) trivial (fun _ => ?_)
    obtain ⟨v0, hv0⟩ : ∃ v, v = W.drew := ⟨_, rfl⟩
    rw [← hv0] at E0 ⊢
    clear hv0
    refine hr_take_w 1 (some 20) (.slice (sA ao i) k k) rfl rfl (by kernel_rfl) (by kernel_rfl) (by kernel_rfl) rfl (fun W hW => by go_simp) trivial ?_
    simp only [Act.put, List.setIfInBounds_toArray, List.set_cons_zero, List.set_cons_succ]
    refine wpAnyH_effto 2 (fun zi zv zw => (zi = 0 → zv = u) ∧ (zi = 2 → ∃ ro rc, zv = .slice ro pl rc ∧ SlT zw ⟨ro, pl, rc, P⟩) ∧ (zi = 3 → ∃ ro rc g1, zv = .slice (some ⟨g1, 0, none⟩) 1 1 ∧ zw.heap[g1]? = some (.cells #[.slice ro pl rc] 23) ∧ SlT zw ⟨ro, pl, rc, P⟩)) [(0, 19), (2, 21), (3, 22)] 25 (by kernel_rfl) (by decide) (by decide) rfl ?_ (fun _ _ => trivial) ?_ ?_
    · intro zi v w w' h hb
      refine ⟨fun e => ?_, fun e => ?_, fun e => ?_⟩
      · have h := h.1 e
        exact h
      · have h := h.2.1 e
        obtain ⟨ro, rc, h1, h2⟩ := h
        exact ⟨ro, rc, h1, h2.kp (KpB.below hb)⟩
      · have h := h.2.2 e
        obtain ⟨ro, rc, g1, h1, h2, h3⟩ := h
        exact ⟨ro, rc, g1, h1, (hb.block g1 (Array.getElem?_eq_some_iff.1 h2).1).trans h2, h3.kp (KpB.below hb)⟩
    · intro zp zhi o a zw ho hs hb hdep
      have EB := E0.trans (hb.mono E0.size)
      simp only [List.mem_cons, List.not_mem_nil, or_false] at zhi
      rcases zhi with rfl | rfl | rfl
      · obtain rfl : _ = o := Option.some.inj (show some _ = some o from ho)
        have t6 : a.tmps[6]? = some (.pointer (some ⟨w.heap.size, 0, none⟩)) := hs.get 6 (by kernel_rfl) rfl
        have c0 : zw.cell? ⟨w.heap.size, 0, none⟩ = some u := (EB.cell (World.block_lt_of_cell? _ _ hbx)).trans hbx
        exact .inl ⟨u, zw, by go_simp, ⟨fun _ => rfl, fun e => absurd e (by decide), fun e => absurd e (by decide)⟩, Below.refl _ _⟩
      · obtain rfl : _ = o := Option.some.inj (show some _ = some o from ho)
        have t20 : a.tmps[20]? = some (.slice (sA ao i) k k) := hs.get 20 (by kernel_rfl) rfl
        refine .inr ⟨39, #[.slice (sA ao i) k k], by go_simp, (CF zw EB).mono ?_⟩
        rintro e w' ⟨z, rfl, own1, C⟩
        obtain ⟨ro, rc, rfl, S1⟩ := SlT.own own1 hby
        exact ⟨_, rfl, ⟨fun e => absurd e (by decide), fun _ => ⟨ro, rc, rfl, S1⟩, fun e => absurd e (by decide)⟩, C⟩
      · obtain rfl : _ = o := Option.some.inj (show some _ = some o from ho)
        obtain ⟨x21, t21, f21⟩ := (hdep 2 (by kernel_rfl)).at 21 (by kernel_rfl)
        replace f21 := f21.2.1 rfl
        obtain ⟨ro, rc, rfl, S1⟩ := f21
        have CA : Below zw.heap.size zw (zw.alloc (.cells #[.slice ro pl rc] 23)) := (Below.refl _ _).alloc (Nat.le_refl _) _
        exact .inl ⟨_, _, by go_simp, ⟨fun e => absurd e (by decide), fun e => absurd e (by decide), fun _ => ⟨ro, rc, _, rfl, heap_alloc_new zw _, S1.kp (KpB.below CA)⟩⟩, CA⟩
    intro zf v1 hb hh
    have E1 := E0.trans (hb.mono E0.size)
    obtain e0 := (hh (0, 19) (by simp)).1 rfl
    obtain ⟨ro, rc, g1, e3, G1, S1⟩ := (hh (3, 22) (by simp)).2.2 rfl
    clear hh hb
    simp only [putL, List.foldl_cons, List.foldl_nil, e0, e3]
    clear e0 e3
    simp only [Act.put, List.setIfInBounds_toArray, List.set_cons_zero, List.set_cons_succ]
    obtain ⟨v', W3, ha, ⟨u3, hc3⟩, hf3, hC3, hK3, hF3⟩ := HC.out.step (x := (l.drop x.val.1).take x.val.2) (q := ⟨ro, pl, rc, P⟩) hI (Nat.le_refl _) (by omega) E1 S1 (by rw [← HPX.out]; exact HP.out) G1 hql 22 1
    obtain ⟨go, gc, rfl⟩ := row_is hC3.own
    obtain ⟨gn, hgn⟩ : ∃ n, n = (qs ++ [(⟨ro, pl, rc, P⟩ : Part)]).length := ⟨_, rfl⟩
    rw [← hgn] at ha hC3 hK3 hF3
    clear hgn
    refine hr_ex 4 (some 23) rfl rfl (by kernel_rfl) rfl (R := fun v w' => .slice go gn gc = v ∧ W3 = w') ⟨_, W3, by simp [execOp, Act.eval, resolve, invoke, builtin, ha], rfl, rfl⟩ ?_
    rintro v w' ⟨rfl, rfl⟩
    refine ⟨trivial, ?_⟩
    simp only [Act.put, List.setIfInBounds_toArray, List.set_cons_zero, List.set_cons_succ]
    refine hr_skip 5 none (w' := W3.setCell ⟨w.heap.size, 0, none⟩ (.slice go gn gc)) rfl rfl (by kernel_rfl) rfl (by go_simp) trivial ?_
    simp only [Act.put]
    refine wpAnyH_done (by kernel_rfl) ?_ _
    refine NoPanic.normal ?_
    refine ⟨hK3.from _, ⟨hF3 _ (by omega) (by omega), hF3 _ (by omega) (by omega)⟩, .slice go gn gc, qs ++ [⟨ro, pl, rc, P⟩], ?_⟩
    rw [List.map_append, List.map_singleton]
    exact hC3
  case done =>
    rintro D ys W hD hys ⟨u, qs, hC⟩ hK
    obtain ⟨qo, qc, rfl⟩ := row_is hC.own
    have hbx : W.cell? ⟨w.heap.size, 0, none⟩ = some (.slice qo qs.length qc) := cell_of_row _ _ 0 _ _ _ hC.bx
    have HX : Hid (qs.map Part.xs = (cuts per l).map putCk) := by
      show _ = _
      have hml2 : l.length = m := by rw [← HIT.out, List.length_map]; omega
      have e := sts_cuts hp0 l l.length 0 (by omega)
      rw [hml2, ← hys, List.map_map, List.drop_zero] at e
      rw [hC.xs, ← e]
      rfl
    have hC2 := hC.walk (grownBy_putObj' W D (.deferred none)) (fun r e => by cases e; exact ⟨hD, _, hK, rfl⟩) (fun x hx => (hI x hx).1) (by omega)
    have HK : Hid (KL (W.putObj D (.deferred none)) qo qs.length qc qs) := by
      obtain ⟨qo', qc', e, V, -⟩ := VL.own hC2.own
      simp only [Value.slice.injEq, true_and] at e
      rw [e.1, e.2]
      exact ⟨V, fun q hq => (hC2.sl q hq).1⟩
    have hB := hC2.bel
    obtain ⟨qn, hqn⟩ : ∃ n, n = qs.length := ⟨_, rfl⟩
    rw [← hqn] at hbx HK
    clear hys hqn hC hC2
    gi_wp2
    refine ⟨by simp, .inl ⟨_, _, rfl, run_takeDeferred hK, ?_⟩⟩
    refine ⟨_, results_tmp2 rfl _ _ _, ?_⟩
    exact ⟨fun h => by omega, fun _ _ => ⟨qo, qn, qc, qs, rfl, HK.out, by rw [Int.toNat_natCast]; exact HX.out⟩, hB⟩
  case stop =>
    rintro D c pre W _ _ h _
    exact h.elim

/-- Cut of whatever tree, by whatever number. -/
theorem cut_any (w : World) (v : Value) (l : List It) (per : Int) (h : TT w v l) (hs : Srt l) (hl : l.length ≤ 50000) (hsz : ∀ x ∈ l, (Byt x.k ∧ x.k.length ≤ 256) ∧ Byt x.v ∧ x.v.length ≤ 1000000) :
    Calls Tryz.prog 15 #[v, .int .i64 per] w (CutPost w l per) := by
  by_cases c : per < 1 ∨ 64 < per
  · exact cut_bad w v l per c
  · obtain ⟨k, rfl⟩ := Int.eq_ofNat_of_zero_le (show 0 ≤ per by omega)
    exact (callsIn_wide (n := 3)).1 (cut_in w v l k (by omega) (by omega) h hs hl hsz)
end Go.Proofs.YtkmkmekhodcioaaGreatDoor

namespace Go.Proofs.YtkmkmekhodcioaaGreatDoor
open Go.RowKit

/-- Items that a tree may have. -/
structure okL (l : List It) : Prop where
  srt : Srt l
  all : ∀ x ∈ l, okI x ∧ x.k ≠ []
theorem cutF_all {per : Nat} (hp : 0 < per) (hq : per ≤ 64) : ∀ (f : Nat) (l : List It), l.length ≤ f → okL l → ∀ c ∈ cutF f per l, okCk c ∧ kindCk c = 0
  | 0, l, _, _ => by simp [cutF]
  | f + 1, l, hf, h => by
    cases l with
    | nil => simp [cutF]
    | cons x l =>
      have h1 : ((x :: l).drop per).length ≤ f := by rw [List.length_drop]; simp only [List.length_cons] at hf ⊢; omega
      have e : x :: l = (x :: l).take per ++ (x :: l).drop per := (List.take_append_drop per (x :: l)).symm
      have hs := h.srt
      rw [e] at hs
      intro c hc
      have hc : c ∈ (x :: l).take per :: cutF f per ((x :: l).drop per) := hc
      rcases List.mem_cons.1 hc with rfl | hc
      · refine ⟨⟨by rw [List.length_take]; omega, fun y hy => (h.all y (List.mem_of_mem_take hy)).1⟩, kindCk_of ?_ hs.app.1 fun y hy => (h.all y (List.mem_of_mem_take hy)).2⟩
        intro hn
        have := congrArg List.length hn
        rw [List.length_take] at this
        simp only [List.length_cons, List.length_nil] at this
        omega
      · exact cutF_all hp hq f _ h1 ⟨hs.app.2.1, fun y hy => h.all y (List.mem_of_mem_drop hy)⟩ c hc
theorem cuts_all {per : Nat} (hp : 0 < per) (hq : per ≤ 64) {l : List It} (h : okL l) : ∀ c ∈ cuts per l, okCk c ∧ kindCk c = 0 := cutF_all hp hq l.length l (Nat.le_refl _) h
theorem layR_put : ∀ (cs : List (List It)), (∀ c ∈ cs, okCk c ∧ kindCk c = 0) → layR (cs.map putCk) = .inr cs
  | [], _ => rfl
  | c :: cs, h => by
    have h1 := h c (List.mem_cons_self ..)
    rw [List.map_cons, layR, rdCk_put h1.1 h1.2, layR_put cs (fun x hx => h x (List.mem_cons_of_mem _ hx))]
theorem joins_of {a l : List It} (h : Srt (a ++ l)) : joins a l = true := by
  unfold joins
  cases ha : a.getLast? with
  | none => rfl
  | some x =>
    cases l with
    | nil => rfl
    | cons y l => exact decide_eq_true (h.app.2.2 x (List.mem_of_getLast? ha) y (List.mem_cons_self ..))
theorem jn_of : ∀ (ls : List (List It)) (a : List It), Srt (a ++ ls.flatten) → jn a ls = true
  | [], _, _ => rfl
  | l :: ls, a, h => by
    rw [List.flatten_cons, ← List.append_assoc] at h
    rw [jn, joins_of h.app.1, jn_of ls (a ++ l) h]
    rfl
/-- What was cut is laid as it was. -/
theorem layC_cuts {per : Nat} (hp : 0 < per) (hq : per ≤ 64) {l : List It} (h : okL l) : layC ((cuts per l).map putCk) = .inr l := by
  unfold layC
  rw [layR_put _ (cuts_all hp hq h)]
  have e : (cuts per l).flatten = l := cuts_flat per hp l.length l (Nat.le_refl _)
  simp only
  rw [jn_of _ _ (by rw [List.nil_append, e]; exact h.srt), e]
  rfl
end Go.Proofs.YtkmkmekhodcioaaGreatDoor

namespace Go.Proofs.YtkmkmekhodcioaaGreatDoor
open Go.RowKit

def abc : List It := [⟨[97], []⟩, ⟨[98], []⟩, ⟨[99], []⟩]
theorem byt_one (c : Int) (h : 0 ≤ c ∧ c ≤ 255) : Byt [c] := by
  intro x hx
  rw [List.mem_singleton.1 hx]
  exact h
theorem abc_ok : okL abc := by
  refine ⟨?_, fun x hx => ?_⟩
  · refine (rises_srt _).1 ?_
    decide
  · unfold abc at hx
    simp only [List.mem_cons, List.not_mem_nil, or_false] at hx
    rcases hx with rfl | rfl | rfl
    · exact ⟨⟨⟨by simp, byt_one _ (by omega)⟩, by simp, fun _ h => by simp at h⟩, by simp⟩
    · exact ⟨⟨⟨by simp, byt_one _ (by omega)⟩, by simp, fun _ h => by simp at h⟩, by simp⟩
    · exact ⟨⟨⟨by simp, byt_one _ (by omega)⟩, by simp, fun _ h => by simp at h⟩, by simp⟩
def partOf (b : Nat) (c : Int) : Part := ⟨some ⟨b, 0, none⟩, 1, 1, [c]⟩
def ipOf (b : Nat) (c : Int) : IP := ⟨partOf b c, ⟨none, 0, 0, []⟩⟩
theorem KL.short {w : World} {ao : Option Addr} {n cap : Nat} {qs : List Part} (h : KL w ao n cap qs) {M : Nat} (hx : ∀ b ∈ qs.map Part.xs, b.length ≤ M) : ∀ q ∈ qs, q.n ≤ M := fun q hq => by
  have := hx q.xs (List.mem_map.2 ⟨q, hq, rfl⟩)
  rw [← (h.sl q hq).len]
  exact this

set_option maxHeartbeats 8000000 in
set_option maxRecDepth 100000 in
theorem alive9 (w : World) (hT : Tabs w) : Calls Tryz.prog 5 #[] w fun e w' => e = .returned (.bool true) ∧ Below w.heap.size w w' := by
  have h2 := hT.two
  have kc := fun (w : World) (C : Array Value) (n c g : Nat) (hg : g = w.heap.size) => Joins.run_convert_bytes_const_at (P := Tryz.prog) w 23 5 C n c g hg Tryz.underlying23 Tryz.underlying5
  obtain ⟨W1, hW1⟩ : ∃ W, W = w.alloc (.cells #[.int .u8 97] 5 (1, 2)) := ⟨_, rfl⟩
  obtain ⟨W2, hW2⟩ : ∃ W, W = W1.alloc (.cells #[.int .u8 98] 5 (1, 2)) := ⟨_, rfl⟩
  obtain ⟨W3, hW3⟩ : ∃ W, W = W2.alloc (.cells #[.int .u8 99] 5 (1, 2)) := ⟨_, rfl⟩
  have z1 : W1.heap.size = w.heap.size + 1 := by rw [hW1]; simp
  have z2 : W2.heap.size = w.heap.size + 2 := by rw [hW2]; simp [z1]
  have z3 : W3.heap.size = w.heap.size + 3 := by rw [hW3]; simp [z2]
  have k1 := kc w #[.int .u8 97] 1 1 w.heap.size rfl
  have k2 := kc W1 #[.int .u8 98] 1 1 (w.heap.size + 1) z1.symm
  have k3 := kc W2 #[.int .u8 99] 1 1 (w.heap.size + 2) z2.symm
  obtain ⟨W4, hW4⟩ : ∃ W, W = W3.alloc (.cells #[.slice (some ⟨w.heap.size, 0, none⟩) 1 1, .slice none 0 0, .slice (some ⟨w.heap.size + 1, 0, none⟩) 1 1, .slice none 0 0, .slice (some ⟨w.heap.size + 1 + 1, 0, none⟩) 1 1, .slice none 0 0] 43) := ⟨_, rfl⟩
  have B1 : Below w.heap.size w W1 := by rw [hW1]; exact (Below.refl _ _).alloc (Nat.le_refl _) _
  have B2 : Below W1.heap.size W1 W2 := by rw [hW2]; exact (Below.refl _ _).alloc (Nat.le_refl _) _
  have B3 : Below W2.heap.size W2 W3 := by rw [hW3]; exact (Below.refl _ _).alloc (Nat.le_refl _) _
  have B4 : Below W3.heap.size W3 W4 := by rw [hW4]; exact (Below.refl _ _).alloc (Nat.le_refl _) _
  have S1 : Sl W1 (some ⟨w.heap.size, 0, none⟩) 1 1 [97] := by rw [hW1]; exact Sl.const w [97] (1, 2) (byt_one _ (by omega)) (by simp [maxLen])
  have S2 : Sl W2 (some ⟨w.heap.size + 1, 0, none⟩) 1 1 [98] := by rw [hW2, ← z1]; exact Sl.const W1 [98] (1, 2) (byt_one _ (by omega)) (by simp [maxLen])
  have S3 : Sl W3 (some ⟨w.heap.size + 2, 0, none⟩) 1 1 [99] := by rw [hW3, ← z2]; exact Sl.const W2 [99] (1, 2) (byt_one _ (by omega)) (by simp [maxLen])
  have G4 : W4.heap[w.heap.size + 3]? = some (.cells #[.slice (some ⟨w.heap.size, 0, none⟩) 1 1, .slice none 0 0, .slice (some ⟨w.heap.size + 1, 0, none⟩) 1 1, .slice none 0 0, .slice (some ⟨w.heap.size + 1 + 1, 0, none⟩) 1 1, .slice none 0 0] 43) := by rw [hW4, ← z3]; exact heap_alloc_new W3 _
  have I4 : IL W4 (some ⟨w.heap.size + 3, 0, none⟩) 3 3 [ipOf w.heap.size 97, ipOf (w.heap.size + 1) 98, ipOf (w.heap.size + 2) 99] := by
    refine ⟨rfl, Nat.le_refl _, by simp [maxLen], fun h => by simp at h, fun a ha i hi => ?_, fun q hq => ?_⟩
    · obtain rfl := Option.some.inj ha
      simp only [List.length_cons, List.length_nil] at hi
      rw [Addr.add_lit, Addr.add_lit, Nat.zero_add, Nat.zero_add, cell_of_row _ _ (i * 2) _ _ _ G4, cell_of_row _ _ (i * 2 + 1) _ _ _ G4]
      obtain rfl | rfl | rfl : i = 0 ∨ i = 1 ∨ i = 2 := by omega
      · exact ⟨rfl, rfl⟩
      · exact ⟨rfl, rfl⟩
      · exact ⟨rfl, rfl⟩
    · simp only [List.mem_cons, List.not_mem_nil, or_false] at hq
      rcases hq with rfl | rfl | rfl
      · exact ⟨((S1.below B2).below B3).below B4, Sl.nothing _⟩
      · exact ⟨(S2.below B3).below B4, Sl.nothing _⟩
      · exact ⟨S3.below B4, Sl.nothing _⟩
  have E4 : Below w.heap.size w W4 := B1.trans ((B2.mono B1.size).trans ((B3.mono (by omega)).trans (B4.mono (by omega))))
  have CM := tmake_any W4 (some ⟨w.heap.size + 3, 0, none⟩) 3 3 _ (hT.below E4 h2) I4 (by omega) (fun q hq => by
    simp only [List.mem_cons, List.not_mem_nil, or_false] at hq
    rcases hq with rfl | rfl | rfl <;> simp [ipOf, partOf])
  clear I4 G4 S1 S2 S3 B1 B2 B3 B4 z2 z3
  go_enter Tryz.func5, Tryz.ntmps5
  go_wp2_with fail
  rw [← hW1, ← hW2, ← hW3, ← hW4]
  clear hW1 hW2 hW3 hW4 k1 k2 k3 kc z1
  refine CM.mono ?_
  rintro e w1 ⟨u, kd, rfl, C1, hcase⟩
  have E1 := E4.trans (C1.mono E4.size)
  clear CM C1 E4
  obtain ⟨rfl, TT1⟩ : kd = 0 ∧ TT w1 (.pointer u) abc := by
    rcases hcase with ⟨rfl, -, l', hp, hs', tt⟩ | ⟨-, -, hbad⟩
    · refine ⟨rfl, ?_⟩
      rw [← hs'.perm abc_ok.srt hp]
      exact tt
    · exact absurd abc_ok.srt.nodup (hbad rfl)
  clear hcase
  have CC := cut_any w1 (.pointer u) abc 2 TT1 abc_ok.srt (by decide) (fun x hx => by have h := (abc_ok.all x hx).1; exact ⟨⟨h.k.2, h.k.1⟩, h.v.2, by have := h.v.1; omega⟩)
  go_wp2_with fail
  refine CC.mono ?_
  rintro e w2 P2
  obtain ⟨ao, n, cap, qs, rfl, K2, hqs⟩ := P2.good (by decide) (by decide)
  have C2 := P2.bel
  have E2 := E1.trans (C2.mono E1.size)
  have hqs : qs.map Part.xs = (cuts 2 abc).map putCk := hqs
  obtain rfl : n = 2 := by
    rw [← K2.len, ← List.length_map (f := Part.xs), hqs]
    rfl
  have CL := lay_any w2 ao 2 cap qs (hT.below E2 h2) K2 (by omega) (K2.short (M := 1000000) (by
    rw [hqs]
    decide))
  rw [hqs, layC_cuts (by decide) (by decide) abc_ok] at CL
  clear P2 CC K2 hqs C2 E1 TT1
  go_wp2_with fail
  refine CL.mono ?_
  rintro e w3 P3
  obtain ⟨v, rfl, TT3, -, -⟩ := P3.good abc rfl
  have C3 := P3.bel
  have E3 := E2.trans (C3.mono E2.size)
  have CN := len_any w3 v abc TT3 abc_ok.srt (by decide)
  have hl3 : (((abc.length : Nat) : Int) == 3) = true := rfl
  clear P3 CL C3 E2 TT3
  go_wp2_with fail
  refine CN.mono ?_
  rintro e w4 ⟨rfl, C4⟩
  have E5 := E3.trans (C4.mono E3.size)
  go_wp2
  go_ret
  exact ⟨rfl, E5⟩
end Go.Proofs.YtkmkmekhodcioaaGreatDoor

namespace Go.Proofs.YtkmkmekhodcioaaGreatDoor
open Go.RowKit

theorem KL.nothing9 (w : World) : KL w none 0 0 [] := ⟨VL.nothing w, fun _ h => by simp at h⟩
theorem KL.make9 {w : World} {a : Addr} {n cap : Nat} (hl : n ≤ cap) (hm : cap ≤ maxLen) (h : ∀ i, i < n → ∃ q : Part, w.cell? (a.add i) = some q.val ∧ Sl w q.ao q.n q.cap q.xs) : ∃ ps, KL w (some a) n cap ps := by
  obtain ⟨ps, hp⟩ := PL.make hl hm h
  refine ⟨ps, ⟨by simpa using hp.len, hp.le, hp.mx, fun e => by simp at e, fun b hb i hi => ?_⟩, hp.sl⟩
  have := hp.cell b hb i (by simpa using hi)
  simpa using this
theorem KL.short9 {w : World} {ao : Option Addr} {n cap : Nat} {ps : List Part} (h : KL w ao n cap ps) : ∀ q ∈ ps, q.n ≤ 9223372036854775807 := fun q hq => by
  have h1 := (h.sl q hq).le
  have h2 := (h.sl q hq).mx
  unfold maxLen at h2
  omega
theorem same9 {w : World} {ao bo : Option Addr} {n c m d : Nat} {xs ys : List Int} (h1 : Sl w ao n c xs) (h2 : Sl w bo m d ys) (b : Bool) (hb : b = true ↔ xs = ys) : Calls Tryz.prog 12 #[.slice ao n c, .slice bo m d] w fun e w' => e = .returned (.bool b) ∧ Below w.heap.size w w' := by
  have := same_any w ao bo n c m d _ _ h1 h2
  have e : decide (xs = ys) = b := by
    cases b with
    | true => exact decide_eq_true (hb.1 rfl)
    | false => exact decide_eq_false fun e => by have := hb.2 e; cases this
  rw [e] at this
  refine this.mono ?_
  rintro e w' ⟨rfl, q, rfl⟩
  exact ⟨rfl, below_drewN _ _ _⟩

set_option maxHeartbeats 8000000 in
set_option maxRecDepth 100000 in
/-- What follows the hash, the root being whatever it is. -/
theorem chunkLays_any (W : World) (a0 a1 : Option Addr) (n0 c0 n1 c1 : Nat) (ps : List Part) (root : List Int) (own : Bool) (h0 : KL W a0 n0 c0 ps) (s1 : Sl W a1 n1 c1 root) (hq3 : ∀ q ∈ ps, q.n ≤ 9223372036854775807) (hT : Tabs W) :
    Calls Tryz.prog 3 #[.slice a0 n0 c0, .slice a1 n1 c1, .bool own] W fun e w' => e = .returned (.bool true) ∧ Below W.heap.size W w' := by
  have t2 := hT.two
  have CL := light9_any W a0 n0 c0 ps h0 hq3
  have AL := alive9 W hT
  obtain ⟨lb, hlb⟩ : ∃ b, b = lig9 ps := ⟨_, rfl⟩
  have HLB : Hid (lb = lig9 ps) := hlb
  rw [← hlb] at CL
  have HT : Hid (Tabs W) := hT
  clear hlb hT hq3
  go_enter Tryz.func3, Tryz.ntmps3
  go_wp2_with fail
  refine CL.mono ?_
  rintro e w' ⟨rfl, hw⟩
  obtain rfl := hw.symm
  clear CL
  cases lb with
  | false =>
    go_wp2_with fail
    refine AL.mono ?_
    rintro e w2 ⟨rfl, B⟩
    go_wp2
    go_ret
    exact ⟨rfl, B⟩
  | true =>
  by_cases q1 : (n1 : Int) > 100
  · go_wp2_with fail
    refine AL.mono ?_
    rintro e w2 ⟨rfl, B⟩
    go_wp2
    go_ret
    exact ⟨rfl, B⟩
  clear AL
  have hlig : ps.length ≤ 40 ∧ ∀ q ∈ ps, q.n ≤ 3000 := by
    have h := HLB.out.symm
    unfold lig9 at h
    simp only [Bool.and_eq_true, decide_eq_true_eq, List.all_eq_true] at h
    exact h
  have hn0 : n0 ≤ 40 := by have := hlig.1; have := h0.len; omega
  have HLG : Hid (∀ q ∈ ps, q.n ≤ 3000) := hlig.2
  have HBY : Hid (∀ b ∈ ps.map Part.xs, Byt b) := fun b hb => by
    obtain ⟨q, hq, rfl⟩ := List.mem_map.1 hb
    exact (h0.sl q hq).byte
  clear hlig
  have CY := lay_any W a0 n0 c0 ps HT.out h0 (by omega) (fun q hq => by have := HLG.out q hq; omega)
  have CZ : ∀ V, Below W.heap.size W V → Calls Tryz.prog 7 #[.slice a0 n0 c0] V (RLyPost V (layC (ps.map Part.xs))) := fun V hV => rlay_any V a0 n0 c0 ps (h0.below hV) (by omega) (fun q hq => by have := HLG.out q hq; omega)
  have CK : ∀ V (ra : Option Addr) (rn rc : Nat) (rt : List Int), Below W.heap.size W V → Sl V ra rn rc rt → Calls Tryz.prog 10 #[.slice ra rn rc, .slice a0 n0 c0] V (ChkPost V rt (layC (ps.map Part.xs))) := fun V ra rn rc rt hV hs => check_any V ra rn rc rt a0 n0 c0 ps (HT.out.below hV t2) (h0.below hV) hs (by omega) (fun q hq => by have := HLG.out q hq; omega)
  obtain ⟨t, ht⟩ : ∃ t, t = layC (ps.map Part.xs) := ⟨_, rfl⟩
  rw [← ht] at CY CZ CK
  clear ht
  go_wp2_with fail
  refine CY.mono ?_
  intro e w1 P1
  have B1 := P1.bel
  cases t with
  | inl k =>
    obtain ⟨rfl, hk⟩ := P1.bad k rfl
    have hkb : (k != 0) = true := by simp [hk]
    have hkk : (k == k) = true := by simp
    clear P1 CY hk
    go_wp2_with fail
    refine (CZ w1 B1).mono ?_
    intro e w2 P2
    obtain ⟨rfl, -⟩ := P2.bad k rfl
    have C2 := P2.bel
    have B2 := B1.trans (C2.mono B1.size)
    clear P2 CZ
    have CS := rshape_fuel w2 0 w2 none 0 0 [] (IL.nothing w2) (fun _ h => by simp at h) (Below.refl _ _) (by omega) (Nat.le_refl _)
    go_wp2_with fail
    refine CS.mono ?_
    rintro e w3 ⟨v, rfl, HO, C3⟩
    have B3 := B2.trans (C3.mono B2.size)
    have CH := rhash_fuel 0 w3 (.pointer v) [] HO.now ⟨by simp, fun _ h => by simp at h⟩ (Nat.le_refl _)
    clear CS HO
    go_wp2_with fail
    refine CH.mono ?_
    rintro e w4 ⟨ro, rc, rfl, S4, C4⟩
    have B4 := B3.trans (C4.mono B3.size)
    clear CH
    cases own with
    | true =>
      go_wp2_with fail
      refine (CK w4 ro 32 rc (hashI []) B4 S4.1).mono ?_
      intro e w5 P5
      obtain rfl := P5.bad k rfl
      have B5 := B4.trans (P5.bel.mono B4.size)
      clear P5 CK
      have CN := len_any w5 (.pointer none) [] (TT.nil _) List.Pairwise.nil (by simp)
      go_wp2_with fail
      refine CN.mono ?_
      rintro e w6 ⟨rfl, C6⟩
      have B6 := B5.trans (C6.mono B5.size)
      have CN2 := len_any w6 (.pointer none) [] (TT.nil _) List.Pairwise.nil (by simp)
      clear CN
      go_wp2_with fail
      refine CN2.mono ?_
      rintro e w7 ⟨rfl, C7⟩
      have B7 := B6.trans (C7.mono B6.size)
      have AL := alive9 w7 (HT.out.below B7 t2)
      clear CN2
      go_wp2_with fail
      refine AL.mono ?_
      rintro e w8 ⟨rfl, C8⟩
      have B8 := B7.trans (C8.mono B7.size)
      go_wp2
      go_ret
      exact ⟨rfl, B8⟩
    | false =>
      go_wp2_with fail
      refine (CK w4 a1 n1 c1 root B4 (s1.below B4)).mono ?_
      intro e w5 P5
      obtain rfl := P5.bad k rfl
      have B5 := B4.trans (P5.bel.mono B4.size)
      clear P5 CK
      have CN := len_any w5 (.pointer none) [] (TT.nil _) List.Pairwise.nil (by simp)
      go_wp2_with fail
      refine CN.mono ?_
      rintro e w6 ⟨rfl, C6⟩
      have B6 := B5.trans (C6.mono B5.size)
      have CN2 := len_any w6 (.pointer none) [] (TT.nil _) List.Pairwise.nil (by simp)
      clear CN
      go_wp2_with fail
      refine CN2.mono ?_
      rintro e w7 ⟨rfl, C7⟩
      have B7 := B6.trans (C7.mono B6.size)
      have AL := alive9 w7 (HT.out.below B7 t2)
      clear CN2
      go_wp2_with fail
      refine AL.mono ?_
      rintro e w8 ⟨rfl, C8⟩
      have B8 := B7.trans (C8.mono B7.size)
      go_wp2
      go_ret
      exact ⟨rfl, B8⟩
  | inr l =>
    obtain ⟨v, rfl, TT1, hs, hx⟩ := P1.good l rfl
    obtain ⟨po, rfl⟩ := TT1.ptr
    have HS : Hid (Srt l) := hs
    have HX : Hid (∀ x ∈ l, okI x ∧ x.k ≠ []) := hx
    clear P1 CY hs hx
    go_wp2_with fail
    refine (CZ w1 B1).mono ?_
    intro e w2 P2
    obtain ⟨lo, ln, lc, js, rfl, IL2, hjs, hok⟩ := P2.good l rfl
    have C2 := P2.bel
    have B2 := B1.trans (C2.mono B1.size)
    have hjl : l.length = ln := by rw [← hjs, List.length_map]; exact IL2.len
    clear P2 CZ
    by_cases q2 : (ln : Int) > 60
    · have AL := alive9 w2 (HT.out.below B2 t2)
      clear hjs hok hjl
      go_wp2_with fail
      refine AL.mono ?_
      rintro e w8 ⟨rfl, C8⟩
      have B8 := B2.trans (C8.mono B2.size)
      go_wp2
      go_ret
      exact ⟨rfl, B8⟩
    have hsz : ∀ q ∈ js, q.ok w2 ∧ q.k.n ≤ 50000 := fun q hq => by
      refine ⟨IL2.sl q hq, ?_⟩
      have h1 := (HX.out q.it (by rw [← hjs]; exact List.mem_map.2 ⟨q, hq, rfl⟩)).1.k.1
      have h2 := (IL2.sl q hq).1.len
      have h3 : q.k.xs.length ≤ 256 := h1
      omega
    have HLN : Hid (l.length = ln) := hjl
    have hz9 : Sz9 l := ⟨by omega, fun x hx => by
      have := (HX.out x hx).1
      have h1 := this.k.1
      have h2 := this.v.1
      omega⟩
    have HZ9 : Hid (Sz9 l) := hz9
    have HZS : Hid (Szs l) := ⟨by have := hz9.1; omega, fun x hx => by have := hz9.2 x hx; have := (HX.out x hx).1.k.1; omega⟩
    have CS := rshape_fuel w2 ln w2 lo ln lc js IL2 hsz (Below.refl _ _) (by omega) (Nat.le_refl _)
    rw [hjs] at CS
    clear hsz hz9 hjs hok hjl IL2
    go_wp2_with fail
    refine CS.mono ?_
    rintro e w3 ⟨v, rfl, HO, C3⟩
    have B3 := B2.trans (C3.mono B2.size)
    have CH := rhash_fuel l.length w3 (.pointer v) l HO.now HZ9.out (Nat.le_refl _)
    clear CS HO
    go_wp2_with fail
    refine CH.mono ?_
    rintro e w4 ⟨ro, rc, rfl, S4, C4⟩
    have B4 := B3.trans (C4.mono B3.size)
    have TT4 : TT w4 (.pointer po) l := ((TT1.below C2).below C3).below C4
    have hl50 : l.length ≤ 50000 := by have := HZ9.out.1; omega
    clear CH TT1
    cases own with
    | true =>
      go_wp2_with fail
      refine (CK w4 ro 32 rc (hashI l) B4 S4.1).mono ?_
      intro e w5 P5
      obtain ⟨pu, rfl, TU5⟩ := P5.good l rfl rfl
      have C5 := P5.bel
      have B5 := B4.trans (C5.mono B4.size)
      have S5 := S4.1.below C5
      have TT5 := TT4.below C5
      clear P5 CK TT4
      have CN := len_any w5 (.pointer po) l TT5 HS.out hl50
      rw [HLN.out] at CN
      go_wp2_with fail
      refine CN.mono ?_
      rintro e w6 ⟨rfl, C6⟩
      have B6 := B5.trans (C6.mono B5.size)
      have CR := root_any w6 (.pointer po) l (TT5.below C6) (HT.out.below B6 t2) HZS.out
      clear CN
      go_wp2_with fail
      refine CR.mono ?_
      rintro e w7 ⟨r7, rc7, rfl, S7, C7⟩
      have B7 := B6.trans (C7.mono B6.size)
      have E7 : Below w5.heap.size w5 w7 := C6.trans (C7.mono C6.size)
      have S57 := S5.below E7
      have CE := same9 S7.1 S57 true (by simp)
      clear CR
      go_wp2_with fail
      refine CE.mono ?_
      rintro e w8 ⟨rfl, C8⟩
      have B8 := B7.trans (C8.mono B7.size)
      have S58 := S57.below C8
      have CE2 := same9 S58 S58 true (by simp)
      clear CE S7 S5 S57
      go_wp2_with fail
      refine CE2.mono ?_
      rintro e w9 ⟨rfl, C9⟩
      have B9 := B8.trans (C9.mono B8.size)
      clear CE2
      have E9 : Below w5.heap.size w5 w9 := E7.trans ((C8.mono E7.size).trans (C9.mono (by have := E7.size; have := C8.size; omega)))
      have CR2 := root_any w9 (.pointer pu) l (TU5.below E9) (HT.out.below B9 t2) HZS.out
      go_wp2_with fail
      refine CR2.mono ?_
      rintro e w10 ⟨r10, rc10, rfl, S10, C10⟩
      have B10 := B9.trans (C10.mono B9.size)
      have CE3 := same9 S10.1 ((S58.below C9).below C10) true (by simp)
      clear CR2
      go_wp2_with fail
      refine CE3.mono ?_
      rintro e w11 ⟨rfl, C11⟩
      have B11 := B10.trans (C11.mono B10.size)
      have AL := alive9 w11 (HT.out.below B11 t2)
      clear CE3
      go_wp2_with fail
      refine AL.mono ?_
      rintro e w12 ⟨rfl, C12⟩
      have B12 := B11.trans (C12.mono B11.size)
      go_wp2
      go_ret
      exact ⟨rfl, B12⟩
    | false =>
      by_cases he : hashI l = root
      · go_wp2_with fail
        refine (CK w4 a1 n1 c1 root B4 (s1.below B4)).mono ?_
        intro e w5 P5
        obtain ⟨pu, rfl, TU5⟩ := P5.good l rfl he
        have C5 := P5.bel
        have B5 := B4.trans (C5.mono B4.size)
        have S5 := S4.1.below C5
        have TT5 := TT4.below C5
        clear P5 CK TT4
        have CN := len_any w5 (.pointer po) l TT5 HS.out hl50
        rw [HLN.out] at CN
        go_wp2_with fail
        refine CN.mono ?_
        rintro e w6 ⟨rfl, C6⟩
        have B6 := B5.trans (C6.mono B5.size)
        have CR := root_any w6 (.pointer po) l (TT5.below C6) (HT.out.below B6 t2) HZS.out
        clear CN
        go_wp2_with fail
        refine CR.mono ?_
        rintro e w7 ⟨r7, rc7, rfl, S7, C7⟩
        have B7 := B6.trans (C7.mono B6.size)
        have E7 : Below w5.heap.size w5 w7 := C6.trans (C7.mono C6.size)
        have S57 := S5.below E7
        have CE := same9 S7.1 S57 true (by simp)
        clear CR
        go_wp2_with fail
        refine CE.mono ?_
        rintro e w8 ⟨rfl, C8⟩
        have B8 := B7.trans (C8.mono B7.size)
        have S58 := S57.below C8
        have CE2 := same9 (s1.below B8) S58 true (by simp [he])
        clear CE S7 S5 S57
        go_wp2_with fail
        refine CE2.mono ?_
        rintro e w9 ⟨rfl, C9⟩
        have B9 := B8.trans (C9.mono B8.size)
        clear CE2
        have E9 : Below w5.heap.size w5 w9 := E7.trans ((C8.mono E7.size).trans (C9.mono (by have := E7.size; have := C8.size; omega)))
        have CR2 := root_any w9 (.pointer pu) l (TU5.below E9) (HT.out.below B9 t2) HZS.out
        go_wp2_with fail
        refine CR2.mono ?_
        rintro e w10 ⟨r10, rc10, rfl, S10, C10⟩
        have B10 := B9.trans (C10.mono B9.size)
        have CE3 := same9 S10.1 ((S58.below C9).below C10) true (by simp)
        clear CR2
        go_wp2_with fail
        refine CE3.mono ?_
        rintro e w11 ⟨rfl, C11⟩
        have B11 := B10.trans (C11.mono B10.size)
        have AL := alive9 w11 (HT.out.below B11 t2)
        clear CE3
        go_wp2_with fail
        refine AL.mono ?_
        rintro e w12 ⟨rfl, C12⟩
        have B12 := B11.trans (C12.mono B11.size)
        go_wp2
        go_ret
        exact ⟨rfl, B12⟩
      · go_wp2_with fail
        refine (CK w4 a1 n1 c1 root B4 (s1.below B4)).mono ?_
        intro e w5 P5
        obtain rfl := P5.off l rfl he
        have C5 := P5.bel
        have B5 := B4.trans (C5.mono B4.size)
        have S5 := S4.1.below C5
        have TT5 := TT4.below C5
        clear P5 CK TT4
        have CN := len_any w5 (.pointer po) l TT5 HS.out hl50
        rw [HLN.out] at CN
        go_wp2_with fail
        refine CN.mono ?_
        rintro e w6 ⟨rfl, C6⟩
        have B6 := B5.trans (C6.mono B5.size)
        have CR := root_any w6 (.pointer po) l (TT5.below C6) (HT.out.below B6 t2) HZS.out
        clear CN
        go_wp2_with fail
        refine CR.mono ?_
        rintro e w7 ⟨r7, rc7, rfl, S7, C7⟩
        have B7 := B6.trans (C7.mono B6.size)
        have E7 : Below w5.heap.size w5 w7 := C6.trans (C7.mono C6.size)
        have S57 := S5.below E7
        have CE := same9 S7.1 S57 true (by simp)
        clear CR
        go_wp2_with fail
        refine CE.mono ?_
        rintro e w8 ⟨rfl, C8⟩
        have B8 := B7.trans (C8.mono B7.size)
        have S58 := S57.below C8
        have CE2 := same9 (s1.below B8) S58 false ⟨fun h => by simp at h, fun h => absurd h.symm he⟩
        clear CE S7 S5 S57
        go_wp2_with fail
        refine CE2.mono ?_
        rintro e w9 ⟨rfl, C9⟩
        have B9 := B8.trans (C9.mono B8.size)
        clear CE2
        have CN2 := len_any w9 (.pointer none) [] (TT.nil _) List.Pairwise.nil (by simp)
        go_wp2_with fail
        refine CN2.mono ?_
        rintro e w10 ⟨rfl, C10⟩
        have B10 := B9.trans (C10.mono B9.size)
        have AL := alive9 w10 (HT.out.below B10 t2)
        clear CN2
        go_wp2_with fail
        refine AL.mono ?_
        rintro e w11 ⟨rfl, C11⟩
        have B11 := B10.trans (C11.mono B10.size)
        go_wp2
        go_ret
        exact ⟨rfl, B11⟩
end Go.Proofs.YtkmkmekhodcioaaGreatDoor

namespace Go.Proofs.YtkmkmekhodcioaaGreatDoor
open Go.RowKit

abbrev laidL : List (String × DataW Unit) := [("unicode/utf8.acceptRanges", Rows.laid_unicode_utf8_acceptRanges), ("bulwark/digest.firstWords", Rows.laid_bulwark_digest_firstWords), ("bulwark/digest.roundWords", Rows.laid_bulwark_digest_roundWords), ("unicode/utf8.first", Rows.laid_unicode_utf8_first)]

theorem gFirst : Tryz.prog.globalNamed "bulwark/digest.firstWords" = some 2 := by kernel_rfl
theorem gRound : Tryz.prog.globalNamed "bulwark/digest.roundWords" = some 1 := by kernel_rfl
theorem tFirst : (Tryz.prog.globals[2]?).map (·.type) = some 148 := by kernel_rfl
theorem tRound : (Tryz.prog.globals[1]?).map (·.type) = some 165 := by kernel_rfl
theorem laidL_plain : (laidL.all fun x => x.2.handleName?.isNone) = true := by kernel_rfl

/-- A world in which the four read so. -/
theorem all_met (os : Os) (args : Array Value) : laidMetH Tryz.prog laidL ((World.laidAll Tryz.prog os laidL).forCall (fun _ _ => 0) ⟨#[], args, []⟩).memory := by
  rw [MakeChecks.laidMetH_plain _ _ _ laidL_plain]
  exact laidMet_laidAll _ (by kernel_rfl) (by kernel_rfl)

/-- An array of words that reads as some numbers has them in its cells. -/
theorem words_of {H : Type} {enc : TypeId × Value → H} {w : World} {base : Nat} {sp : Nat → Bool} {held : Bool} {fuel n : Nat} {t : TypeId} {cs : List Value} {zs : List Int} {p : List MemPlace}
    (ht : Tryz.prog.underlying t = some (.array n 89)) (h : DataW.trod enc Tryz.prog w base sp held fuel t cs = some (.agg (zs.map fun z => .lit (.int .u32 z)), p)) (hz : zs.length = n) :
    ∀ (j : Nat) (v : Value), (wv zs)[j]? = some v → cs[j]? = some v := by
  intro j v hv
  have hj : j < zs.length := by have := (List.getElem?_eq_some_iff.1 hv).1; rwa [wv_length] at this
  rw [wv_get zs j hj] at hv
  obtain rfl := Option.some.inj hv
  obtain ⟨f', d, q, hd, he⟩ := Lib.array_elem ht h j (by omega)
  have c1 : Tryz.prog.cellsOf 89 = 1 := by kernel_rfl
  rw [c1, Nat.mul_one] at he
  obtain ⟨k, e1, e2, _⟩ := DataW.trod_int Tryz.underlying89 he
  simp only [Prod.mk.injEq] at e2
  rw [e2.1] at hd
  simp only [List.getElem?_map, List.getElem?_eq_getElem hj, Option.map_some, Option.some.injEq, DataW.lit.injEq, Lit.int.injEq, true_and] at hd
  have : (cs.drop j)[0]? = some (.int .u32 k) := by
    have := congrArg (fun l : List Value => l[0]?) e1
    simpa [List.getElem?_take] using this
  rw [List.getElem?_drop, Nat.add_zero] at this
  rw [this, ← hd]
  simp [List.getD, hj]

/-- WHAT THE CONDITION GIVES THE WALKS. -/
theorem tabs_of {W : World} (h : laidMetH Tryz.prog laidL W) : Tabs W := by
  rw [MakeChecks.laidMetH_plain _ _ _ laidL_plain] at h
  obtain ⟨ps, ⟨gx, tx, csx, fx, px, qx, _, _, _, _, ⟨g0, t0, cs0, f0, p0, q0, hg0, ht0, hv0, hd0, ⟨g1, t1, cs1, f1, p1, q1, hg1, ht1, hv1, hd1, _, _⟩, _⟩, _⟩, _, _⟩ := h
  obtain rfl := Option.some.inj (gFirst.symm.trans hg0)
  obtain rfl := Option.some.inj (gRound.symm.trans hg1)
  obtain rfl := Option.some.inj (tFirst.symm.trans ht0)
  obtain rfl := Option.some.inj (tRound.symm.trans ht1)
  have hA := words_of (zs := H0) Tryz.underlying148 hd0 rfl
  have hB := words_of (zs := K0) Tryz.underlying165 hd1 rfl
  have cA : ∀ j v, (wv H0)[j]? = some v → W.cell? ⟨2, j, none⟩ = some v := fun j v hv => by
    rw [World.var?_cell hg0 hv0 j]
    simpa using hA j v hv
  refine ⟨cA, fun j v hv => ?_, ?_⟩
  · rw [World.var?_cell hg1 hv1 j]
    simpa using hB j v hv
  · have := block_lt_of_cell (cA 0 _ rfl)
    exact this

end Go.Proofs.YtkmkmekhodcioaaGreatDoor

namespace Go.Proofs.YtkmkmekhodcioaaGreatDoor
open Go.RowKit

/-- A slice of bytes that came in, as the frame of a proof tells it. -/
theorem Sl.row {w : World} {a : Option Addr} {n cap : Nat} {zs : List Int} (h : (a = none ∧ n = 0 ∧ cap = 0 ∧ zs = []) ∨
    ∃ x, a = some x ∧ n ≤ cap ∧ cap ≤ maxLen ∧ zs.length = cap ∧ (∀ i, i < zs.length → w.cell? (x.add i) = some (.int .u8 (zs.getD i 0))) ∧ ∀ z ∈ zs, (Lit.int .u8 z).wf = true) : Sl w a n cap (zs.take n) := by
  rcases h with ⟨rfl, rfl, rfl, rfl⟩ | ⟨x, rfl, hl, hm, hz, hc, hw⟩
  · exact Sl.nothing w
  · refine ⟨by simp; omega, hl, hm, fun h => by simp at h, fun b hb i hi => ?_, fun z hz => ?_⟩
    · obtain rfl := Option.some.inj hb
      rw [hc i (by omega)]
      simp [List.getD, hi]
    · have := hw z (List.mem_of_mem_take hz)
      simp [Lit.wf, IntKind.min, IntKind.max, IntKind.signed, IntKind.bits] at this
      omega
end Go.Proofs.YtkmkmekhodcioaaGreatDoor

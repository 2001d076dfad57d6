/-
  bytes.Repeat of one byte 255, 33 times.
-/
import Derived.Test.YtepkjnklapamjaaCName
import Derived.Laws.CopyOwn
import Derived.Lib.MakeNoZero
import Derived.Test.YtepkjnklapamjaaHRegA
import Derived.WalkLawsBesides
namespace Go
theorem exec_copy {P : Program} {a : Act} {w w' : World} {o : Oper} {d s : Operand} {t t' ty : TypeId} {v u v' : Value} (ho : o.op = .call { callee := .builtin .copy, args := #[d, s], argTypes := #[t, t'] }) (hd : a.eval d = v) (hs : a.eval s = u) (ht : o.type = ty)
    (hr : (Builtin.copy_ #[t, t'] ty #[v, u]).run P w = .ok v' w') : (execOp a.eval o).run P w = .ok (.value v') w' := by
  unfold execOp
  simp only [ho, ht, resolve, invoke, builtin, Sem.run_bind, Sem.run_pure, Result.andThen_ok, List.map_toArray, List.map_cons, List.map_nil, hd, hs, hr]
end Go
namespace Go.Proofs.Ytepkjnklapamjaa
open Go.RowKit

set_option maxRecDepth 100000 in
set_option maxHeartbeats 4000000 in
theorem pmul64_one (w : World) : Calls Try.prog 38 #[.int .u64 1, .int .u64 33] w fun e w' => e = .returned (.tuple #[.int .u64 0, .int .u64 33]) ∧ w' = w := by
  go_enter Try.func38, Try.ntmps38
  go_wp2
  go_ret2
  exact ⟨rfl, rfl⟩

set_option maxRecDepth 100000 in
set_option maxHeartbeats 4000000 in
theorem pmul_one (w : World) : Calls Try.prog 35 #[.int .u64 1, .int .u64 33] w fun e w' => e = .returned (.tuple #[.int .u64 0, .int .u64 33]) ∧ w' = w := by
  go_enter Try.func35, Try.ntmps35
  go_wp2_with fail
  refine (pmul64_one w).mono ?_
  rintro e w' ⟨rfl, hw⟩
  obtain rfl := hw.symm
  go_wp2
  go_ret2
  exact ⟨rfl, rfl⟩

set_option maxRecDepth 100000 in
set_option maxHeartbeats 4000000 in
theorem prep_any (w : World) (ad : Addr) (h : Sl w (some ad) 1 1 [255]) :
    Calls Try.prog 32 #[.slice (some ad) 1 1, .int .i64 33] w fun e w' => ∃ ao n c, e = .returned (.slice ao n c) ∧ Sl w' ao n c (List.replicate 33 255) ∧ Below w.heap.size w w' := by
  obtain ⟨cs, hrunM, hle, _⟩ := Lib.run_makeNoZero (P := Try.prog) w #[3] 27 5 Try.underlying27 33 (by omega)
  have hcall : (callFunc 36 #[.int .i64 33]).run Try.prog w = .ok (.value (.slice (some ⟨w.heap.size, 0, none⟩) 33 cs.size)) ((w.alloc (.cells cs 5)).drewN 2) := by
    rw [run_callFunc_extern Try.func36 (by kernel_rfl) (by kernel_rfl) (by kernel_rfl) (e := Extern.BytealgMakeNoZero.makeNoZero #[3] #[27]) (by kernel_rfl)]
    have e33 : ((33 : Nat) : Int) = 33 := rfl
    rw [e33] at hrunM
    rw [hrunM]
    rfl
  clear hrunM
  have hle2 : (33 : Int) ≤ (cs.size : Int) := by omega
  go_enter Try.func32, Try.ntmps32
  go_wp2_with fail
  refine (pmul_one w).mono ?_
  rintro e w' ⟨rfl, hw⟩
  obtain rfl := hw.symm
  have e0 : ((w.alloc (.cells cs 5)).drewN 2).heap[w.heap.size]? = some (.cells cs.toList.toArray 5 (0, 0)) := by simpa using heap_alloc_new w (.cells cs 5)
  have B0 : Below w.heap.size w ((w.alloc (.cells cs 5)).drewN 2) := belN ((Below.refl _ w).alloc (Nat.le_refl _) _) 2
  have c0 : ((w.alloc (.cells cs 5)).drewN 2).cell? (ad.add 0) = some (.int .u8 255) := by
    have := (h.below B0).cell ad rfl 0 (by omega)
    simpa using this
  obtain ⟨w3, hr, H3, B3⟩ : ∃ w3, (Builtin.copy_ #[27, 27] 3 #[.slice (some ⟨w.heap.size, 0, none⟩) 33 33, .slice (some ad) 1 1]).run Try.prog ((w.alloc (.cells cs 5)).drewN 2) = .ok (.int .i64 1) w3 ∧ Hid (w3.heap[w.heap.size]? = some (.cells (splice cs.toList 0 [Value.int .u8 255]).toArray 5 (0, 0))) ∧ Below w.heap.size w w3 := by
    have hrun := run_copy_row (P := Try.prog) ((w.alloc (.cells cs 5)).drewN 2) 27 27 3 5 w.heap.size 0 33 33 ad 1 1 cs.toList.toArray 5 [.int .u8 255] Try.underlying27 (by kernel_rfl) e0 rfl (fun j v hj => by
      cases j with
      | zero => simp at hj; subst hj; exact c0
      | succ j => simp at hj) (by simp; omega) (by intro v hv; rw [List.mem_singleton.1 hv]; rfl)
    exact ⟨_, hrun, (show _ = _ by simpa [splice] using setRow_heap _ w.heap.size _ _ 5 _ e0), below_setRow B0 (Nat.le_refl _) _⟩
  have L3 : (splice cs.toList 0 [Value.int .u8 255]).length = cs.size := by rw [length_splice _ _ _ (by simp; omega)]; simp
  have T3 : (splice cs.toList 0 [Value.int .u8 255]).take 1 = List.replicate 1 (.int .u8 255) := by simp [splice]
  obtain ⟨cur3, hcur⟩ : ∃ c, c = splice cs.toList 0 [Value.int .u8 255] := ⟨_, rfl⟩
  rw [← hcur] at H3 L3 T3
  have HT3 : Hid (cur3.take 1 = List.replicate 1 (.int .u8 255)) := T3
  clear hcur T3 c0 e0 B0
  obtain ⟨N, hN⟩ : ∃ N, N = w.heap.size := ⟨_, rfl⟩
  go_wp2_with fail
  clear hr hcall
  rw [← hN] at H3 B3 ⊢
  have HN : Hid (N = w.heap.size) := hN
  clear hN
  go_loopw [10, 11] (fun i _ wr => ∃ (j : Nat) (cur : List Value), 1 ≤ j ∧ j ≤ 33 ∧ i = .int .i64 j ∧ Hid (wr.heap[N]? = some (.cells cur.toArray 5 (0, 0))) ∧ 33 ≤ cur.length ∧ Hid (cur.take j = List.replicate j (.int .u8 255)) ∧ Below N w wr) (fun i _ _ => 33 - (intOf i).toNat)
  case atStart => exact ⟨1, cur3, by omega, by omega, rfl, H3, by omega, HT3, B3⟩
  case round =>
    clear H3 HT3 B3
    obtain ⟨j, cur, h1, h33, rfl, H, hl, T, B⟩ := hrel
    by_cases l : j < 33
    · have il : (j : Int) < 33 := by omega
      have il2 : (j : Int) ≤ 33 := by omega
      obtain ⟨m, hm⟩ : ∃ m, m = Nat.min j (33 - j) := ⟨_, rfl⟩
      have hm1 : 1 ≤ m ∧ m ≤ j ∧ j + m ≤ 33 := by rw [hm]; simp only [Nat.min_def]; split <;> omega
      have HH := H.out
      have HT := T.out
      have q : ∀ i, i < j → wr.drew.cell? ⟨N, i, none⟩ = some (.int .u8 255) := fun i hi => by
        have e : wr.drew.heap[N]? = some (.cells cur.toArray 5 (0, 0)) := HH
        rw [cell_of_row wr.drew N i _ _ _ e]
        have h2 : (cur.take j)[i]? = (List.replicate j (Value.int .u8 255))[i]? := by rw [HT]
        rw [List.getElem?_take_of_lt hi] at h2
        simpa [hi] using h2
      obtain ⟨w4, hr, H4, B4⟩ : ∃ w4, (Builtin.copy_ #[27, 27] 3 #[.slice (some ⟨N, j, none⟩) (33 - j) (33 - j), .slice (some ⟨N, 0, none⟩) j 33]).run Try.prog wr.drew = .ok (.int .i64 m) w4 ∧ Hid (w4.heap[N]? = some (.cells (splice cur j (List.replicate m (Value.int .u8 255))).toArray 5 (0, 0))) ∧ Below N w w4 := by
        have e : wr.drew.heap[N]? = some (.cells cur.toArray 5 (0, 0)) := HH
        have hrun := run_copy_row (P := Try.prog) wr.drew 27 27 3 5 N j (33 - j) (33 - j) ⟨N, 0, none⟩ j 33 cur.toArray 5 (List.replicate m (Value.int .u8 255)) Try.underlying27 (by kernel_rfl) e (by rw [List.length_replicate]; exact hm) (fun i v hi => by
          have hi2 : i < m := by
            have := (List.getElem?_eq_some_iff.1 hi).1
            simpa using this
          have hv : v = .int .u8 255 := by simpa [hi2] using hi.symm
          rw [hv, Addr.add_lit, Nat.zero_add]
          exact q i (by omega)) (by simp; omega) (by intro v hv; rw [List.eq_of_mem_replicate hv]; rfl)
        rw [List.length_replicate] at hrun
        exact ⟨_, hrun, (show _ = _ by simpa [splice] using setRow_heap _ N _ _ 5 _ e), below_setRow B.drew (Nat.le_refl _) _⟩
      have L4 : 33 ≤ (splice cur j (List.replicate m (Value.int .u8 255))).length := by rw [length_splice _ _ _ (by simp; omega)]; omega
      have T4 : Hid ((splice cur j (List.replicate m (Value.int .u8 255))).take (j + m) = List.replicate (j + m) (.int .u8 255)) := by
        show _ = _
        have hjl : (cur.take j).length = j := by rw [List.length_take]; omega
        unfold splice
        rw [HT, ← List.append_assoc, List.replicate_append_replicate, List.take_append_of_le_length (by simp), List.take_of_length_le (by simp)]
      obtain ⟨cur4, hc4⟩ : ∃ c, c = splice cur j (List.replicate m (Value.int .u8 255)) := ⟨_, rfl⟩
      rw [← hc4] at H4 L4 T4
      clear hc4 H T q HH HT hm
      have e1 : ((j : Int) + (m : Int)) ≤ 33 := by omega
      have e0 : (0 : Int) ≤ (j : Int) := by omega
      have z1 : ¬ 33 = j := by omega
      have z2 : ¬ j = 0 := by omega
      go_wp2_with fail
      refine wp_region_noPanic ?_
      refine wp_region_held_drew (S := fun _ => True) (by kernel_rfl) trivial (fun _ => ?_)
      refine hr_take 0 (some 67) (.int .i64 j) rfl rfl (by kernel_rfl) (by kernel_rfl) (by kernel_rfl) rfl (fun W _ => by go_simp) trivial ?_
      simp only [Act.put, List.setIfInBounds_toArray, List.set_cons_zero, List.set_cons_succ]
      refine hr_take 1 (some 68) (.slice (some ⟨N, 0, none⟩) 33 33) rfl rfl (by kernel_rfl) (by kernel_rfl) (by kernel_rfl) rfl (fun W _ => by go_simp) trivial ?_
      simp only [Act.put, List.setIfInBounds_toArray, List.set_cons_zero, List.set_cons_succ]
      refine hr_take 2 (some 69) (.int .i64 j) rfl rfl (by kernel_rfl) (by kernel_rfl) (by kernel_rfl) rfl (fun W _ => by go_simp) trivial ?_
      simp only [Act.put, List.setIfInBounds_toArray, List.set_cons_zero, List.set_cons_succ]
      refine hr_take 3 (some 70) (.slice (some ⟨N, j, none⟩) (33 - j) (33 - j)) rfl rfl (by kernel_rfl) (by kernel_rfl) (by kernel_rfl) rfl (fun W _ => by go_simp) trivial ?_
      simp only [Act.put, List.setIfInBounds_toArray, List.set_cons_zero, List.set_cons_succ]
      refine hr_take 4 (some 71) (.slice (some ⟨N, 0, none⟩) 33 33) rfl rfl (by kernel_rfl) (by kernel_rfl) (by kernel_rfl) rfl (fun W _ => by go_simp) trivial ?_
      simp only [Act.put, List.setIfInBounds_toArray, List.set_cons_zero, List.set_cons_succ]
      refine hr_take 5 (some 72) (.int .i64 j) rfl rfl (by kernel_rfl) (by kernel_rfl) (by kernel_rfl) rfl (fun W _ => by go_simp) trivial ?_
      simp only [Act.put, List.setIfInBounds_toArray, List.set_cons_zero, List.set_cons_succ]
      refine hr_take 6 (some 73) (.slice (some ⟨N, 0, none⟩) j 33) rfl rfl (by kernel_rfl) (by kernel_rfl) (by kernel_rfl) rfl (fun W _ => by go_simp) trivial ?_
      simp only [Act.put, List.setIfInBounds_toArray, List.set_cons_zero, List.set_cons_succ]
      refine hr_do 7 (some 74) (.int .i64 m) rfl rfl (by kernel_rfl) rfl (w' := w4) (exec_copy rfl rfl rfl rfl hr) trivial ?_
      simp only [Act.put, List.setIfInBounds_toArray, List.set_cons_zero, List.set_cons_succ]
      refine hr_take 8 (some 75) (.int .i64 ((j + m : Nat) : Int)) rfl rfl (by kernel_rfl) (by kernel_rfl) (by kernel_rfl) rfl (fun W _ => by (go_simp; rw [IntKind.wrap_i64]; omega)) trivial ?_
      simp only [Act.put, List.setIfInBounds_toArray, List.set_cons_zero, List.set_cons_succ]
      refine hr_take 9 (some 10) (.int .i64 ((j + m : Nat) : Int)) rfl rfl (by kernel_rfl) (by kernel_rfl) (by kernel_rfl) rfl (fun W _ => by go_simp) trivial ?_
      simp only [Act.put, List.setIfInBounds_toArray, List.set_cons_zero, List.set_cons_succ]
      refine wpAnyH_done (by kernel_rfl) ?_ _
      refine NoPanic.normal ?_
      go_wp2
      go_roundw
      case rel => exact ⟨j + m, cur4, by omega, by omega, rfl, H4, L4, T4, B4⟩
      case measure => simp [intOf]; omega
    · obtain rfl : j = 33 := by omega
      have S : Sl wr (some ⟨N, 0, none⟩) 33 33 (List.replicate 33 255) := by
        refine ⟨by simp, Nat.le_refl _, by decide, fun h => by simp at h, fun a ha i hi => ?_, fun x hx => by have := List.eq_of_mem_replicate hx; omega⟩
        obtain rfl := Option.some.inj ha
        rw [Addr.add_lit, Nat.zero_add, cell_of_row wr N i _ _ _ H.out]
        have h2 : (cur.take 33)[i]? = (List.replicate 33 (Value.int .u8 255))[i]? := by rw [T.out]
        have h3 : (List.replicate 33 (255 : Int)).getD i 0 = 255 := by rw [List.getD, List.getElem?_replicate, if_pos hi]; rfl
        rw [List.getElem?_take_of_lt hi, List.getElem?_replicate, if_pos hi] at h2
        rw [h3, ← h2]
        simp
      clear H T
      go_wp2
      go_ret
      exact ⟨_, _, _, rfl, S, by rw [← HN.out]; exact B⟩
end Go.Proofs.Ytepkjnklapamjaa

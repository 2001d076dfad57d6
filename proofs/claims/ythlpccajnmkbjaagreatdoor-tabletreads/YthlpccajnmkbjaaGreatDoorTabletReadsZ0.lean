/-
  Texts in one: TbParts, TbNewest, TbQuiet, LHas10, SameT.
-/
import Derived.Test.YthlpccajnmkbjaaGreatDoorY53
import Derived.Test.YthlpccajnmkbjaaGreatDoorY25
import Derived.Test.YthlpccajnmkbjaaGreatDoorY8
import Derived.Test.YthlpccajnmkbjaaGreatDoorY9
namespace Go.Proofs.YthlpccajnmkbjaaGreatDoor
open Go.RowKit

theorem OW.parts3 {w : World} {x : OD 3} (h : OW w 3 x) : ∃ pl : List OA, OWL w 0 (topD 3 x).so (topD 3 x).sn (topD 3 x).sc pl := ⟨_, (OW.subs (d := 2) h).flat⟩
theorem apply_leaf {ds : List CV} {o : OA} {pl : List OA} (hl : leaf o.s o.sn = true) (hn : pl.length = o.sn) (k6 : o.kind ≠ 6) (k8 : o.kind ≠ 8) : mApply ⟨#[]⟩ ⟨#[]⟩ ds o pl = (keepM ds (mStep ds o), (mStep ds o).2) := by
  unfold mApply
  rw [right_not6 k6, List.length_map, hn, hl, if_neg (by simp)]
  unfold isOut
  rw [if_neg k8, inRows_all, if_neg (by simp)]
  unfold mDo
  rw [if_neg k6]
theorem apply_batch {cs : List CV} {o : OA} {pl : List OA} (hr : rightO o.s (pl.map sn0) = true) (hk : o.kind = 6) : mApply ⟨#[]⟩ ⟨#[]⟩ cs o pl = (if (mAll mStep pl cs).2 = 0 then (mAll mStep pl cs).1 else cs, ⟨(mAll mStep pl cs).2, [], false⟩) := by
  unfold mApply
  rw [hr, if_neg (by simp)]
  unfold isOut
  rw [if_neg (show ¬ o.kind = 8 by omega), inRows_all, if_neg (by simp)]
  unfold mDo keepM
  rw [if_pos hk]
theorem apply_wrong {cs : List CV} {o : OA} {pl : List OA} (hr : rightO o.s (pl.map sn0) = false) : mApply ⟨#[]⟩ ⟨#[]⟩ cs o pl = (cs, ⟨6, [], false⟩) := by
  unfold mApply
  rw [if_pos hr]
/-- A result in a block of its own stands while another block is written. -/
theorem RC.wr {V V' : World} {p q : Nat} {e : Int} {ao : Option Addr} {n cap : Nat} {m : Bool} (h : RC V p e ao n cap m) (k : Wr q V V') (hne : p ≠ q) : RC V' p e ao n cap m := (k.block p h.lt hne).trans h
theorem OC.wr {V V' : World} {p q : Nat} {o : OA} (h : OC V p o) (k : Wr q V V') (hne : p ≠ q) : OC V' p o := (k.block p h.lt hne).trans h
end Go.Proofs.YthlpccajnmkbjaaGreatDoor

namespace Go.Proofs.YthlpccajnmkbjaaGreatDoor
open Go.RowKit

/-- In a column nothing stands ahead of the greatest time. -/
theorem col_max {cs : List CV} {c : CV} {k : KA} (hg : CGood cs) (ht : c.time = 18446744073709551615) (hk : c.col k = true) : colC k (cIns cs c) = c :: colC k (cHi c.kv cs) := by
  have h0 : colC k (cLo c.kv cs) = [] := List.filter_eq_nil_iff.2 fun x hx hxk => by
    obtain ⟨hx1, hx2⟩ := List.mem_filter.1 hx
    have hx2 := of_decide_eq_true hx2
    obtain ⟨a1, a2, a3⟩ := of_decide_eq_true hxk
    obtain ⟨b1, b2, b3⟩ := of_decide_eq_true hk
    have hxt := (hg x hx1).time
    rw [keyL_cmp _ _ (CV.kvByt hxt) (CV.kvByt (show c.time < 18446744073709551616 by omega)), cmpK_col x.kv c.kv ⟨by show sb x.row = sb c.row; rw [a1, b1], by show sb x.fam = sb c.fam; rw [a2, b2], by show sb x.qual = sb c.qual; rw [a3, b3]⟩] at hx2
    have hx2 : cmpT x.time c.time < 0 := hx2
    unfold cmpT at hx2
    split at hx2
    · omega
    · split at hx2
      · omega
      · omega
  unfold cIns
  unfold colC at h0 ⊢
  rw [List.filter_append, h0, List.filter_cons_of_pos (p := fun c : CV => c.col k) hk, List.nil_append]
theorem mem_cHi {cs : List CV} {k : KV} {x : CV} (h : x ∈ cHi k cs) : x ∈ cs ∧ cmpL (keyL k) (keyL x.kv) < 0 := by
  obtain ⟨h1, h2⟩ := List.mem_filter.1 h
  exact ⟨h1, of_decide_eq_true h2⟩
/-- A put at the greatest time, where there is room. -/
theorem put_max {cs : List CV} {c : CV} (hg : CGood cs) (ht : c.time = 18446744073709551615) (h : (mPut cs c).2 ≠ 9) :
    (mPut cs c).2 = 0 ∧ c ∈ (mPut cs c).1 ∧ ∀ k : KA, c.col k = true → ∃ rest, colC k (mPut cs c).1 = c :: rest := by
  have hcm : c ∈ cIns cs c := List.mem_append_right _ (List.mem_cons_self ..)
  have hky : c.col c.ky = true := decide_eq_true ⟨rfl, rfl, rfl⟩
  have hcol : ∀ k : KA, c.col k = true → colC k (cIns cs c) = c :: colC k (cHi c.kv cs) := fun k hk => col_max hg ht hk
  unfold mPut at h ⊢
  split
  · rename_i h1
    rw [if_pos h1] at h
    exact absurd rfl h
  · split
    · exact ⟨rfl, hcm, fun k hk => ⟨_, hcol k hk⟩⟩
    · rename_i x hx
      split
      · rename_i h4
        rw [hcol _ hky] at hx h4
        have hx2 : x ∈ cHi c.kv cs := by
          cases hr : colC c.ky (cHi c.kv cs) with
          | nil => rw [hr] at h4; simp at h4
          | cons y ys =>
            rw [hr, List.getLast?_cons_cons] at hx
            have hm : x ∈ colC c.ky (cHi c.kv cs) := by rw [hr]; exact List.mem_of_getLast? hx
            exact (List.mem_filter.1 hm).1
        have hlt := (mem_cHi hx2).2
        refine ⟨rfl, List.mem_append_left _ (List.mem_filter.2 ⟨hcm, decide_eq_true hlt⟩), fun k hk => ?_⟩
        refine ⟨(colC k (cHi c.kv cs)).filter (fun y => decide (cmpL (keyL y.kv) (keyL x.kv) < 0)) ++ colC k (cHi x.kv (cIns cs c)), ?_⟩
        show (cLo x.kv (cIns cs c) ++ cHi x.kv (cIns cs c)).filter _ = _
        rw [List.filter_append]
        have e1 : (cLo x.kv (cIns cs c)).filter (fun c => c.col k) = c :: (colC k (cHi c.kv cs)).filter (fun y => decide (cmpL (keyL y.kv) (keyL x.kv) < 0)) := by
          have e2 : (cLo x.kv (cIns cs c)).filter (fun c => c.col k) = (colC k (cIns cs c)).filter (fun y => decide (cmpL (keyL y.kv) (keyL x.kv) < 0)) := by
            unfold cLo colC
            rw [List.filter_filter, List.filter_filter]
            exact List.filter_congr fun y _ => Bool.and_comm ..
          rw [e2, hcol k hk, List.filter_cons_of_pos (p := fun y : CV => decide (cmpL (keyL y.kv) (keyL x.kv) < 0)) (decide_eq_true hlt)]
        rw [e1]
        rfl
      · exact ⟨rfl, hcm, fun k hk => ⟨_, hcol k hk⟩⟩
theorem get_newest {cs : List CV} {c : CV} {k : KA} {rest : List CV} (h : colC k cs = c :: rest) (hg : c.gone = false) : mGet cs k = ⟨0, [c], false⟩ := by
  unfold mGet
  rw [h]
  show (if c.gone = true then _ else _) = _
  rw [hg]
  rfl
theorem get_gone {cs : List CV} {c : CV} {k : KA} {rest : List CV} (h : colC k cs = c :: rest) (hg : c.gone = true) : mGet cs k = ⟨7, [], false⟩ := by
  unfold mGet
  rw [h]
  show (if c.gone = true then _ else _) = _
  rw [if_pos hg]
/-- A cell that is there is marked. -/
theorem gone_there {cs : List CV} {c : CV} {k : KA} {rest : List CV} (h : colC k cs = c :: rest) (hg : c.gone = false) (he : eqK k c = true) : mGone cs k = (cIns cs k.mark.c, 0) := by
  unfold mGone
  rw [h, List.filter_cons_of_pos (by rw [hg]; rfl), List.any_cons, he, Bool.true_or, if_pos rfl]
/-- A mark is none. -/
theorem gone_again {cs : List CV} {k : KA} (hg : CGood cs) (ht : k.time = 18446744073709551615) : mGone (cIns cs k.mark.c) k = (cIns cs k.mark.c, 7) ∧ ∀ j : KA, k.mark.c.col j = true → ∃ rest, colC j (cIns cs k.mark.c) = k.mark.c :: rest := by
  have hky : k.mark.c.col k = true := decide_eq_true ⟨rfl, rfl, rfl⟩
  refine ⟨?_, fun j hj => ⟨_, col_max hg ht hj⟩⟩
  unfold mGone
  rw [col_max hg ht hky, List.filter_cons_of_neg (by show ¬ (!true) = true; decide), if_neg]
  intro h
  obtain ⟨x, hx, hxe⟩ := List.any_eq_true.1 h
  have hx := (List.mem_filter.1 hx).1
  have hx := (List.mem_filter.1 hx).1
  obtain ⟨e1, e2, e3, e4⟩ := of_decide_eq_true hxe
  have hlt := (mem_cHi hx).2
  rw [show x.kv = k.mark.c.kv from by show KV.mk _ _ _ _ = KV.mk _ _ _ _; rw [e1, e2, e3, e4]; rfl] at hlt
  exact cmpL_irr _ hlt
/-- A scan of one row tells what the row has. -/
theorem below_nought (r : ByteArray) : inRows r (r ++ ⟨#[0]⟩) r = true := by
  refine decide_eq_true ⟨cmpL_irr _, .inr ?_⟩
  have h : sb (r ++ ⟨#[0]⟩) = sb r ++ [0] := by
    unfold sb
    rw [ByteArray.data_append, Array.toList_append, List.map_append]
    rfl
  rw [h]
  generalize sb r = l
  induction l with
  | nil => decide
  | cons a l ih =>
    show cmpL (a :: l) (a :: (l ++ [0])) < 0
    unfold cmpL
    simpa using ih
theorem scan_has {cs : List CV} {c : CV} (hm : c ∈ cs) (hg : c.gone = false) (h : (mScan cs c.row (c.row ++ ⟨#[0]⟩)).more = false) : c ∈ (mScan cs c.row (c.row ++ ⟨#[0]⟩)).cells := by
  have hl := of_decide_eq_false (show decide (16 < _) = false from h)
  show c ∈ List.take 16 _
  rw [List.take_of_length_le (by omega)]
  exact List.mem_filter.2 ⟨hm, by rw [below_nought, hg]; rfl⟩
end Go.Proofs.YthlpccajnmkbjaaGreatDoor

namespace Go.Proofs.YthlpccajnmkbjaaGreatDoor
open Go.RowKit

theorem keepM_bad {cs : List CV} {x : List CV × RV} (h : x.2.e ≠ 0) : keepM cs x = cs := if_neg h
theorem mApply_quiet {f t : ByteArray} {cs : List CV} {o : OA} {l : List OA} (h : (mApply f t cs o l).2.e ≠ 0 ∨ o.kind = 7 ∨ o.kind = 8) : (mApply f t cs o l).1 = cs := by
  unfold mApply at h ⊢
  split
  · rfl
  rename_i h1
  rw [if_neg h1] at h
  split
  · rfl
  rename_i h2
  rw [if_neg h2] at h
  rcases h with h | h
  · exact keepM_bad h
  · show keepM cs (mDo cs o l) = cs
    have : (mDo cs o l).1 = cs := by
      unfold mDo mStep
      rw [if_neg (show ¬ o.kind = 6 by omega), if_neg (show ¬ o.kind = 1 by omega), if_neg (show ¬ o.kind = 2 by omega), if_neg (show ¬ o.kind = 3 by omega), if_neg (show ¬ o.kind = 4 by omega), if_neg (show ¬ o.kind = 5 by omega)]
      split <;> rfl
    unfold keepM
    split
    · exact this
    · rfl
theorem mStep_few (cs : List CV) (o : OA) : (mStep cs o).2.cells.length ≤ 16 := by
  unfold mStep
  by_cases k1 : o.kind = 1
  · rw [if_pos k1]; exact Nat.zero_le _
  rw [if_neg k1]
  by_cases k2 : o.kind = 2
  · rw [if_pos k2]; exact Nat.zero_le _
  rw [if_neg k2]
  by_cases k3 : o.kind = 3
  · rw [if_pos k3]; exact Nat.zero_le _
  rw [if_neg k3]
  by_cases k4 : o.kind = 4
  · rw [if_pos k4]; exact Nat.zero_le _
  rw [if_neg k4]
  by_cases k5 : o.kind = 5
  · rw [if_pos k5]; exact Nat.zero_le _
  rw [if_neg k5]
  by_cases k7 : o.kind = 7
  · rw [if_pos k7]
    show (mGet cs o.key).cells.length ≤ 16
    unfold mGet
    split
    · exact Nat.zero_le _
    · split
      · exact Nat.zero_le _
      · show 1 ≤ 16; omega
  rw [if_neg k7]
  exact List.length_take_le 16 _
theorem mApply_few (f t : ByteArray) (cs : List CV) (o : OA) (l : List OA) : (mApply f t cs o l).2.cells.length ≤ 16 := by
  unfold mApply
  split
  · exact Nat.zero_le _
  split
  · exact Nat.zero_le _
  show (mDo cs o l).2.cells.length ≤ 16
  unfold mDo
  split
  · exact Nat.zero_le _
  · exact mStep_few cs o
end Go.Proofs.YthlpccajnmkbjaaGreatDoor

namespace Go.Proofs.YthlpccajnmkbjaaGreatDoor
open Go.RowKit

set_option maxHeartbeats 8000000 in
set_option maxRecDepth 100000 in
theorem lhas_any (w : World) (ao : Option Addr) (n cap : Nat) (l : List CA) (k : KA) (L : CL w ao n cap l) (hn : n ≤ 1000) (hany : (l.map CA.c).any (eqK k) = true) :
    Calls Tryz.prog 37 #[.slice ao n cap, k.val] w fun e w' => e = .returned (.bool true) ∧ Below w.heap.size w w' := by
  have hl1 := Nat.le_of_eq L.len
  have hl2 := Nat.le_of_eq L.len.symm
  have HY : Hid ((l.map CA.c).any (eqK k) = true) := hany
  obtain ⟨W1, hW1⟩ : ∃ V, V = w.alloc (.cells #[.string k.row, .string k.fam, .string k.qual, .int .u64 k.time] 39) := ⟨_, rfl⟩
  have C1 : Below w.heap.size w W1 := by rw [hW1]; exact (Below.refl _ _).alloc (Nat.le_refl _) _
  have K1 : Arr W1 w.heap.size 39 [.string k.row, .string k.fam, .string k.qual, .int .u64 k.time] := by rw [hW1]; exact heap_alloc_new w _
  clear hany
  unfold KA.val
  go_enter Tryz.func37, Tryz.ntmps37
  go_wp2
  rw [← hW1]
  clear hW1
  have L1 := L.below C1
  go_loopw [5] (fun i wr => ∃ j : Nat, j ≤ n ∧ i = .int .i64 j ∧ Below W1.heap.size W1 wr ∧ Hid (((l.take j).map CA.c).any (eqK k) = false)) (fun i _ => n - (intOf i).toNat)
  case atStart => exact ⟨0, Nat.zero_le _, rfl, Below.refl _ _, rfl⟩
  case round =>
    obtain ⟨j, hj, rfl, B1, HA⟩ := hrel
    have hjn : j < n := by
      rcases Nat.lt_or_ge j n with h | h
      · exact h
      · have h1 := HA.out
        rw [List.take_of_length_le (by omega), HY.out] at h1
        simp at h1
    have hjl : j < l.length := by omega
    have hji : (j : Int) < (n : Int) := by omega
    obtain ⟨b, off, ea, hc⟩ := L1.at (by omega)
    have X := (hc j hjl).below B1
    have K2 := arr_below K1 B1
    have k0 : wr.cell? ⟨w.heap.size, 0, none⟩ = some (.string k.row) := K2.cell 0
    have k1 : wr.cell? ⟨w.heap.size, 1, none⟩ = some (.string k.fam) := K2.cell 1
    have k2 : wr.cell? ⟨w.heap.size, 2, none⟩ = some (.string k.qual) := K2.cell 2
    have k3 : wr.cell? ⟨w.heap.size, 3, none⟩ = some (.int .u64 k.time) := K2.cell 3
    subst ea
    obtain ⟨c, hce⟩ : ∃ c, c = l[j] := ⟨_, rfl⟩
    clear K2 L L1
    by_cases e1 : l[j].row = k.row
    · have t1 : (l[j].row.toList == k.row.toList) = true := by rw [e1]; simp
      rw [← hce] at t1
      by_cases e2 : l[j].fam = k.fam
      · have t2 : (l[j].fam.toList == k.fam.toList) = true := by rw [e2]; simp
        rw [← hce] at t2
        by_cases e3 : l[j].qual = k.qual
        · have t3 : (l[j].qual.toList == k.qual.toList) = true := by rw [e3]; simp
          rw [← hce] at t3
          by_cases e4 : l[j].time = k.time
          · have t4 : ((l[j].time : Int) == (k.time : Int)) = true := by simp [e4]
            rw [← hce] at t4 X
            clear hce hc HA e1 e2 e3 e4 HY
            obtain ⟨x0, x1, x2, x3, x4, x5⟩ := X
            go_wp2
            go_region
            go_wp2
            go_ret
            exact ⟨rfl, C1.trans (B1.drew.mono C1.size)⟩
          · have t4 : ((l[j].time : Int) == (k.time : Int)) = false := by simp; omega
            rw [← hce] at t4
            have HN : Hid (((l.take (j + 1)).map CA.c).any (eqK k) = false) := by
              show _ = _
              rw [List.take_succ_eq_append_getElem hjl, List.map_append, List.any_append, HA.out]
              show (false || ([l[j].c].any (eqK k))) = false
              rw [List.any_cons, List.any_nil, Bool.or_false, Bool.false_or]
              exact decide_eq_false fun h => e4 h.2.2.2
            rw [← hce] at X
            clear hce hc HA e1 e2 e3 e4
            obtain ⟨x0, x1, x2, x3, x4, x5⟩ := X
            go_wp2
            go_region
            go_wp2
            go_roundw
            case rel => exact ⟨j + 1, by omega, by go_num, B1.drew, HN⟩
            case measure => simp [intOf]; omega

        · have t3 := toL_ne e3
          rw [← hce] at t3
          have HN : Hid (((l.take (j + 1)).map CA.c).any (eqK k) = false) := by
            show _ = _
            rw [List.take_succ_eq_append_getElem hjl, List.map_append, List.any_append, HA.out]
            show (false || ([l[j].c].any (eqK k))) = false
            rw [List.any_cons, List.any_nil, Bool.or_false, Bool.false_or]
            exact decide_eq_false fun h => e3 h.2.2.1
          rw [← hce] at X
          clear hce hc HA e1 e2 e3
          obtain ⟨x0, x1, x2, x3, x4, x5⟩ := X
          go_wp2
          go_region
          go_wp2
          go_roundw
          case rel => exact ⟨j + 1, by omega, by go_num, B1.drew, HN⟩
          case measure => simp [intOf]; omega

      · have t2 := toL_ne e2
        rw [← hce] at t2
        have HN : Hid (((l.take (j + 1)).map CA.c).any (eqK k) = false) := by
          show _ = _
          rw [List.take_succ_eq_append_getElem hjl, List.map_append, List.any_append, HA.out]
          show (false || ([l[j].c].any (eqK k))) = false
          rw [List.any_cons, List.any_nil, Bool.or_false, Bool.false_or]
          exact decide_eq_false fun h => e2 h.2.1
        rw [← hce] at X
        clear hce hc HA e1 e2
        obtain ⟨x0, x1, x2, x3, x4, x5⟩ := X
        go_wp2
        go_region
        go_wp2
        go_roundw
        case rel => exact ⟨j + 1, by omega, by go_num, B1.drew, HN⟩
        case measure => simp [intOf]; omega

    · have t1 := toL_ne e1
      rw [← hce] at t1
      have HN : Hid (((l.take (j + 1)).map CA.c).any (eqK k) = false) := by
        show _ = _
        rw [List.take_succ_eq_append_getElem hjl, List.map_append, List.any_append, HA.out]
        show (false || ([l[j].c].any (eqK k))) = false
        rw [List.any_cons, List.any_nil, Bool.or_false, Bool.false_or]
        exact decide_eq_false fun h => e1 h.1
      rw [← hce] at X
      clear hce hc HA e1
      obtain ⟨x0, x1, x2, x3, x4, x5⟩ := X
      go_wp2
      go_region
      go_wp2
      go_roundw
      case rel => exact ⟨j + 1, by omega, by go_num, B1.drew, HN⟩
      case measure => simp [intOf]; omega

end Go.Proofs.YthlpccajnmkbjaaGreatDoor

namespace Go.Proofs.YthlpccajnmkbjaaGreatDoor
open Go.RowKit

theorem same_true (w : World) (ao bo : Option Addr) (n cap m cap2 : Nat) (xs : List Int) (h : Sl w ao n cap xs) (h2 : Sl w bo m cap2 xs) :
    Calls Tryz.prog 19 #[.slice ao n cap, .slice bo m cap2] w fun e w' => e = .returned (.bool true) ∧ Below w.heap.size w w' := by
  refine (same_any w ao bo n cap m cap2 xs xs h h2).mono ?_
  rintro e w' ⟨rfl, q, rfl⟩
  exact ⟨by simp, ⟨rfl, rfl, rfl, Nat.le_refl _, fun _ _ => rfl⟩⟩
end Go.Proofs.YthlpccajnmkbjaaGreatDoor

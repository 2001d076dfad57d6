/-
  Texts in one: TbLim, TbNewAll, TbRoot, CText, CCmp, CCol, HRegO, SameT.
-/
import Derived.Test.YthlpccajnmkbjaaGreatDoorTabletKeepsZ0
import Derived.Test.YthlpccajnmkbjaaGreatDoorY35
import Derived.Test.YthlpccajnmkbjaaGreatDoorY22
import Derived.Test.YthlpccajnmkbjaaGreatDoorY41
import Derived.Test.YthlpccajnmkbjaaGreatDoorY14
import Derived.Test.YthlpccajnmkbjaaGreatDoorY34
import Derived.Test.YthlpccajnmkbjaaGreatDoorY1
import Derived.Test.YthlpccajnmkbjaaGreatDoorY5
import Derived.Test.YthlpccajnmkbjaaGreatDoorY4
import Derived.Test.YthlpccajnmkbjaaGreatDoorY9
namespace Go.Proofs.YthlpccajnmkbjaaGreatDoor
open Go.RowKit

def cnt (q : CV → Bool) (L : List CV) : Nat := (L.filter q).length
theorem cnt_append (q : CV → Bool) (A B : List CV) : cnt q (A ++ B) = cnt q A + cnt q B := by
  unfold cnt
  rw [List.filter_append, List.length_append]
theorem cnt_cons (q : CV → Bool) (a : CV) (B : List CV) : cnt q (a :: B) = (if q a then 1 else 0) + cnt q B := by
  unfold cnt
  rw [List.filter_cons]
  split
  · rw [List.length_cons]; omega
  · omega
/-- Those below a key, above it, and at it. -/
theorem cnt_parts (q : CV → Bool) (k : KV) : ∀ L : List CV, cnt q (cLo k L) + cnt q (cHi k L) + cnt (fun x => q x && decide (keyL x.kv = keyL k)) L = cnt q L
  | [] => rfl
  | a :: L => by
    have ih := cnt_parts q k L
    rw [cnt_cons, cnt_cons]
    unfold cLo cHi at ih ⊢
    rw [List.filter_cons, List.filter_cons]
    rcases cmpL_total (keyL a.kv) (keyL k) with h | h | h
    · have hne : keyL a.kv ≠ keyL k := fun e => by rw [e] at h; exact cmpL_irr _ h
      rw [decide_eq_true h, decide_eq_false (cmpL_asym h), decide_eq_false hne, Bool.and_false]
      simp only [if_true, Bool.false_eq_true, if_false]
      rw [cnt_cons]
      omega
    · rw [h, decide_eq_false (cmpL_irr _), decide_eq_true rfl, Bool.and_true]
      simp only [Bool.false_eq_true, if_false]
      omega
    · have hne : keyL a.kv ≠ keyL k := fun e => by rw [e] at h; exact cmpL_irr _ h
      rw [decide_eq_true h, decide_eq_false (cmpL_asym h), decide_eq_false hne, Bool.and_false]
      simp only [if_true, Bool.false_eq_true, if_false]
      rw [cnt_cons]
      omega
theorem cnt_pos {q : CV → Bool} {L : List CV} {x : CV} (hx : x ∈ L) (hq : q x = true) : 1 ≤ cnt q L := List.length_pos_of_mem (List.mem_filter.2 ⟨hx, hq⟩)
theorem cnt_ins (q : CV → Bool) (L : List CV) (c : CV) : cnt q (cIns L c) + cnt (fun x => q x && decide (keyL x.kv = keyL c.kv)) L = cnt q L + (if q c then 1 else 0) := by
  have := cnt_parts q c.kv L
  unfold cIns
  rw [cnt_append, cnt_cons]
  omega
theorem cnt_del (q : CV → Bool) (L : List CV) (k : KV) : cnt q (cDel L k) + cnt (fun x => q x && decide (keyL x.kv = keyL k)) L = cnt q L := by
  have := cnt_parts q k L
  unfold cDel
  rw [cnt_append]
  omega
theorem cnt_all (L : List CV) : cnt (fun _ => true) L = L.length := by
  unfold cnt
  rw [List.filter_eq_self.2 (fun _ _ => rfl)]
/-- The limits. -/
structure Lim (cs : List CV) : Prop where
  len : cs.length ≤ 32
  col : ∀ k : KA, (colC k cs).length ≤ 4
theorem Lim.nil : Lim [] := ⟨Nat.zero_le _, fun _ => Nat.zero_le _⟩
theorem colC_cnt (k : KA) (cs : List CV) : (colC k cs).length = cnt (fun c => c.col k) cs := rfl
theorem Lim.del {cs : List CV} (h : Lim cs) (k : KV) : Lim (cDel cs k) := by
  refine ⟨Nat.le_trans (cDel_len cs k) h.len, fun j => ?_⟩
  have h1 := cnt_del (fun c => c.col j) cs k
  have h2 := h.col j
  rw [colC_cnt] at h2 ⊢
  omega
theorem Lim.take {cs : List CV} (h : Lim cs) : ∀ l : List CV, Lim (mTake cs l)
  | [] => h
  | c :: l => by
    show Lim (mTake (cDel cs c.kv) l)
    exact Lim.take (h.del _) l
/-- A cell of the same key is there: it is replaced. -/
theorem Lim.again {cs : List CV} (h : Lim cs) {c x : CV} (hx : x ∈ cs) (hk : x.kv = c.kv) : Lim (cIns cs c) := by
  have he : keyL x.kv = keyL c.kv := by rw [hk]
  obtain ⟨e1, e2, e3, -⟩ := CV.kv_eq hk
  constructor
  · have h1 := cnt_ins (fun _ => true) cs c
    have h2 := cnt_pos (q := fun x => true && decide (keyL x.kv = keyL c.kv)) hx (by rw [decide_eq_true he]; rfl)
    rw [cnt_all, cnt_all] at h1
    have := h.len
    simp only [if_true] at h1
    omega
  · intro j
    have h1 := cnt_ins (fun c => c.col j) cs c
    have h3 := h.col j
    rw [colC_cnt] at h3 ⊢
    cases hc : c.col j with
    | false =>
      simp only [hc, Bool.false_eq_true, if_false] at h1
      omega
    | true =>
      have hxc : x.col j = true := by
        obtain ⟨b1, b2, b3⟩ := of_decide_eq_true hc
        exact decide_eq_true ⟨by rw [e1]; exact b1, by rw [e2]; exact b2, by rw [e3]; exact b3⟩
      have h2 := cnt_pos (q := fun x => x.col j && decide (keyL x.kv = keyL c.kv)) hx (by rw [hxc, decide_eq_true he]; rfl)
      simp only [hc, if_true] at h1
      omega
theorem eqK_kv {c x : CV} (h : eqK c.ky x = true) : x.kv = c.kv := by
  obtain ⟨e1, e2, e3, e4⟩ := of_decide_eq_true h
  show KV.mk _ _ _ _ = KV.mk _ _ _ _
  rw [e1, e2, e3, e4]
  rfl
theorem col_same {c : CV} {j : KA} (h : c.col j = true) (cs : List CV) : colC j cs = colC c.ky cs := by
  obtain ⟨b1, b2, b3⟩ := of_decide_eq_true h
  refine List.filter_congr fun x _ => ?_
  unfold CV.col
  rw [Bool.eq_iff_iff, decide_eq_true_eq, decide_eq_true_eq, ← b1, ← b2, ← b3]
  exact Iff.rfl
theorem Lim.put {cs : List CV} (h : Lim cs) (c : CV) : Lim (mPut cs c).1 := by
  by_cases hh : (colC c.ky cs).any (eqK c.ky) = true
  · obtain ⟨x, hx, hxe⟩ := List.any_eq_true.1 hh
    have hl := h.again (List.mem_filter.1 hx).1 (eqK_kv hxe)
    rcases mPut_or cs c with e | e | ⟨k, e⟩ <;> rw [e]
    · exact h
    · exact hl
    · exact hl.del k
  have hh : (colC c.ky cs).any (eqK c.ky) = false := by simpa using hh
  have hky : c.col c.ky = true := decide_eq_true ⟨rfl, rfl, rfl⟩
  have hlen := cIns_len cs c
  have hcnt := cnt_ins (fun x => x.col c.ky) cs c
  have h0 := h.col c.ky
  unfold mPut
  split
  · exact h
  rename_i hf
  have hroom : 4 ≤ (colC c.ky cs).length ∨ cs.length < 32 := by
    rcases Nat.lt_or_ge (colC c.ky cs).length 4 with g | g
    · rcases Nat.lt_or_ge cs.length 32 with g2 | g2
      · exact .inr g2
      · exact absurd ⟨hh, g, g2⟩ hf
    · exact .inl g
  have hother : ∀ j, c.col j = false → (colC j (cIns cs c)).length ≤ 4 := fun j hj => by
    have h1 := cnt_ins (fun c => c.col j) cs c
    have h3 := h.col j
    rw [colC_cnt] at h3 ⊢
    simp only [hj, Bool.false_eq_true, if_false] at h1
    omega
  have hnone : cnt (fun x => x.col c.ky && decide (keyL x.kv = keyL c.kv)) cs = 0 ∨ True := .inr trivial
  simp only [hky, if_true] at hcnt
  rw [colC_cnt] at h0 hroom
  split
  · rename_i hx
    exfalso
    have hm : c ∈ colC c.ky (cIns cs c) := List.mem_filter.2 ⟨List.mem_append_right _ (List.mem_cons_self ..), hky⟩
    rw [List.getLast?_eq_none_iff] at hx
    rw [hx] at hm
    simp at hm
  · rename_i x hx
    have hxm := List.mem_of_getLast? hx
    obtain ⟨hx1, hx2⟩ := List.mem_filter.1 hxm
    split
    · rename_i h5
      have d1 := cnt_del (fun _ => true) (cIns cs c) x.kv
      have d2 := cnt_pos (q := fun y => true && decide (keyL y.kv = keyL x.kv)) hx1 (by rw [decide_eq_true rfl]; rfl)
      rw [cnt_all, cnt_all] at d1
      constructor
      · have := h.len
        show (cDel (cIns cs c) x.kv).length ≤ 32
        omega
      · intro j
        have d3 := cnt_del (fun y => y.col j) (cIns cs c) x.kv
        show (colC j (cDel (cIns cs c) x.kv)).length ≤ 4
        cases hj : c.col j with
        | false =>
          have := hother j hj
          rw [colC_cnt] at this ⊢
          omega
        | true =>
          have hxj : x.col j = true := by
            have := col_same hj [x]
            have h6 : x ∈ colC c.ky [x] := List.mem_filter.2 ⟨List.mem_singleton.2 rfl, hx2⟩
            rw [← this] at h6
            exact (List.mem_filter.1 h6).2
          have d4 := cnt_pos (q := fun y => y.col j && decide (keyL y.kv = keyL x.kv)) hx1 (by rw [hxj, decide_eq_true rfl]; rfl)
          have e1 : cnt (fun y => y.col j) (cIns cs c) = cnt (fun y => y.col c.ky) (cIns cs c) := congrArg List.length (col_same hj (cIns cs c))
          rw [colC_cnt]
          omega
    · rename_i h5
      rw [colC_cnt] at h5
      constructor
      · show (cIns cs c).length ≤ 32
        rcases hroom with g | g
        · -- the column is full, and the key is there then
          have hpos : 1 ≤ cnt (fun y => y.col c.ky && decide (keyL y.kv = keyL c.kv)) cs := by omega
          obtain ⟨y, hy⟩ := List.exists_mem_of_length_pos (show 0 < (cs.filter (fun y => y.col c.ky && decide (keyL y.kv = keyL c.kv))).length from hpos)
          obtain ⟨hy1, hy2⟩ := List.mem_filter.1 hy
          have e1 := of_decide_eq_true (Bool.and_eq_true_iff.1 hy2).2
          have f1 := cnt_ins (fun _ => true) cs c
          have f2 := cnt_pos (q := fun y => true && decide (keyL y.kv = keyL c.kv)) hy1 (by rw [decide_eq_true e1]; rfl)
          rw [cnt_all, cnt_all] at f1
          simp only [if_true] at f1
          have := h.len
          omega
        · omega
      · intro j
        cases hj : c.col j with
        | false => exact hother j hj
        | true =>
          show (colC j (cIns cs c)).length ≤ 4
          rw [col_same hj, colC_cnt]
          omega
theorem Lim.step {cs : List CV} (h : Lim cs) (o : OA) : Lim (mStep cs o).1 := by
  unfold mStep
  by_cases k1 : o.kind = 1
  · rw [if_pos k1]; exact h.put _
  rw [if_neg k1]
  by_cases k2 : o.kind = 2
  · rw [if_pos k2]
    show Lim (mGone cs o.key).1
    unfold mGone
    split
    · rename_i hg
      obtain ⟨x, hx, hxe⟩ := List.any_eq_true.1 hg
      exact h.again (List.mem_filter.1 (List.mem_filter.1 hx).1).1 (show x.kv = o.key.mark.c.kv from eqK_kv (c := o.key.mark.c) hxe)
    · exact h
  rw [if_neg k2]
  have hd : ∀ l, Lim (mDelC cs l).1 := fun l => by
    unfold mDelC
    split
    · exact h
    · exact h.take l
  by_cases k3 : o.kind = 3
  · rw [if_pos k3]; exact hd _
  rw [if_neg k3]
  by_cases k4 : o.kind = 4
  · rw [if_pos k4]; exact hd _
  rw [if_neg k4]
  by_cases k5 : o.kind = 5
  · rw [if_pos k5]
    show Lim (mChk cs o).1
    unfold mChk
    split
    · exact h.put _
    · exact h
  rw [if_neg k5]
  by_cases k7 : o.kind = 7
  · rw [if_pos k7]; exact h
  rw [if_neg k7]; exact h
theorem Lim.all : ∀ (l : List OA) {cs : List CV}, Lim cs → Lim (mAll mStep l cs).1
  | [], _, h => h
  | o :: l, cs, h => by
    unfold mAll
    split
    · exact Lim.all l (h.step o)
    · exact h.step o
theorem Lim.apply {f t : ByteArray} {cs : List CV} (h : Lim cs) (o : OA) (l : List OA) : Lim (mApply f t cs o l).1 := by
  unfold mApply
  split
  · exact h
  split
  · exact h
  show Lim (keepM cs (mDo cs o l))
  unfold keepM
  split
  · unfold mDo
    split
    · exact Lim.all l h
    · exact h.step o
  · exact h
/-! ## A tablet of its own cells -/
theorem lay_last {ds : List CV} {c : CV} (h : ∀ x ∈ ds, cmpL (keyL x.kv) (keyL c.kv) < 0) : cIns ds c = ds ++ [c] := by
  unfold cIns cLo cHi
  rw [List.filter_eq_self.2 (fun x hx => decide_eq_true (h x hx)), List.filter_eq_nil_iff.2 (fun x hx => by simpa using cmpL_asym (h x hx))]
theorem layAll_srt : ∀ (cs ds : List CV), CSrt (ds ++ cs) → layAll ds cs = ds ++ cs
  | [], ds, _ => (List.append_nil ds).symm
  | c :: cs, ds, h => by
    have h1 : ∀ x ∈ ds, cmpL (keyL x.kv) (keyL c.kv) < 0 := fun x hx => by
      unfold CSrt Srt at h
      rw [List.map_append, List.pairwise_append] at h
      exact h.2.2 (itm x) (List.mem_map.2 ⟨x, hx, rfl⟩) (itm c) (List.mem_map.2 ⟨c, List.mem_cons_self .., rfl⟩)
    show layAll (cIns ds c) cs = _
    rw [lay_last h1, layAll_srt cs (ds ++ [c]) (by rw [List.append_assoc]; exact h), List.append_assoc]
    rfl
theorem mostR_le' : ∀ (ks : List KA) (b : Nat), (∀ k, cntK k ks ≤ b) → mostR ks ≤ b
  | [], _, _ => Nat.zero_le _
  | k :: ks, b, h => by
    have h1 : cntK k ks + 1 ≤ b := by
      have := h k
      unfold cntK at this ⊢
      rw [List.filter_cons, (keq_iff k k).2 rfl] at this
      simpa using this
    have h2 := mostR_le' ks b (fun j => by
      have := h j
      unfold cntK at this ⊢
      rw [List.filter_cons] at this
      split at this
      · rw [List.length_cons] at this; omega
      · exact this)
    unfold mostR
    omega
theorem mostK_le' (ks : List KA) (b : Nat) (h : ∀ k, cntK k ks ≤ b) : mostK ks ≤ b := mostR_le' _ b (fun k => by rw [cntK_reverse]; exact h k)
theorem cnt_map (g : CV → KA) (k : KA) (cs : List CV) : cntK k (cs.map g) = cnt (fun c => keq k (g c)) cs := by
  unfold cntK cnt
  rw [List.filter_map, List.length_map]
  rfl
theorem srt_one {cs : List CV} (h : CSrt cs) (k : KA) : cntK k (cs.map CV.ky) ≤ 1 := by
  rw [cnt_map]
  have hp : (cs.filter fun c => keq k c.ky).Pairwise (fun a b => cmpL (keyL a.kv) (keyL b.kv) < 0) := by
    have h1 : cs.Pairwise (fun a b => cmpL (keyL a.kv) (keyL b.kv) < 0) := by
      unfold CSrt Srt at h
      rw [List.pairwise_map] at h
      exact h
    exact h1.filter _
  have hall : ∀ x ∈ cs.filter (fun c => keq k c.ky), x.ky = k := fun x hx => ((keq_iff k x.ky).1 (List.mem_filter.1 hx).2).symm
  unfold cnt
  generalize cs.filter (fun c => keq k c.ky) = l at hp hall
  match l, hp, hall with
  | [], _, _ => exact Nat.zero_le _
  | [_], _, _ => exact Nat.le_refl _
  | a :: b :: l, hp, hall =>
    exfalso
    have h1 := (List.pairwise_cons.1 hp).1 b (List.mem_cons_self ..)
    have h2 := hall a (List.mem_cons_self ..)
    have h3 := hall b (List.mem_cons_of_mem _ (List.mem_cons_self ..))
    have h4 : a.kv = b.kv := by
      have h5 : a.ky = b.ky := h2.trans h3.symm
      simp only [CV.ky, KA.mk.injEq] at h5
      show KV.mk _ _ _ _ = KV.mk _ _ _ _
      rw [h5.1, h5.2.1, h5.2.2.1, h5.2.2.2]
    rw [h4] at h1
    exact cmpL_irr _ h1
theorem col_few {cs : List CV} (h : Lim cs) (k : KA) : cntK k (cs.map fun c => c.ky.colK) ≤ 4 := by
  rw [cnt_map]
  refine Nat.le_trans ?_ (h.col k)
  rw [colC_cnt]
  unfold cnt
  rw [← List.countP_eq_length_filter, ← List.countP_eq_length_filter]
  refine List.countP_mono_left fun c _ hc => ?_
  obtain ⟨e1, e2, e3, -⟩ := of_decide_eq_true hc
  exact decide_eq_true ⟨e1.symm, e2.symm, e3.symm⟩
/-- Nothing stands against a tablet's own cells. -/
theorem judge_own {f t : ByteArray} {n : Nat} {cs : List CV} (h : Stand f t n cs) (hl : Lim cs) : judgeK f t cs = 0 := by
  unfold judgeK
  have h1 : cs.any notR = false := List.any_eq_false.2 fun c hc => by
    have := (h.good c hc).right
    have h2 : c.ky.isRight = true := by
      rw [KA.isRight_kv]
      exact decide_eq_true this
    unfold notR
    rw [h2]
    simp
  have h2 : cs.any (fun c => !(inRows f t c.row)) = false := List.any_eq_false.2 fun c hc => by rw [h.rows c hc]; simp
  have h3 : cs.any wrongV = false := List.any_eq_false.2 fun c hc => by
    have g := h.good c hc
    have g1 := g.val
    unfold wrongV
    rw [decide_eq_false (by omega)]
    cases hg : c.gone with
    | false => simp
    | true => rw [g.gone hg]; simp
  have h4 := mostK_le' _ 1 (srt_one h.srt)
  have h5 := mostK_le' _ 4 (col_few hl)
  have h6 := hl.len
  rw [h1, h2, h3, decide_eq_false (by omega), if_neg (by simp), if_neg (by simp), if_neg (by simp), if_neg (by omega), if_neg (by omega)]
end Go.Proofs.YthlpccajnmkbjaaGreatDoor

namespace Go.Proofs.YthlpccajnmkbjaaGreatDoor
open Go.RowKit

set_option maxHeartbeats 1000000 in
theorem tnew_all (w : World) (f t : ByteArray) : Calls Tryz.prog 11 #[.string f, .string t] w (NewPost w f t) := by
  have X := TB.new w f t
  have B : Below w.heap.size w (w.alloc (.cells #[.string f, .string t, .pointer none] 79)) := (Below.refl _ _).alloc (Nat.le_refl _) _
  by_cases g1 : f.size ≤ 32
  case neg =>
    have i1 : (32 : Int) < (f.size : Int) := by omega
    have HV : Hid (newK f t = 1) := by show _ = _; unfold newK; rw [if_neg (fun h => g1 h.1)]
    go_enter Tryz.func11, Tryz.ntmps11
    go_wp2
    go_ret2
    exact .inr ⟨HV.out, rfl, rfl⟩
  have i1 : (f.size : Int) ≤ 32 := by omega
  by_cases g2 : t.size ≤ 32
  case neg =>
    have i2 : (32 : Int) < (t.size : Int) := by omega
    have HV : Hid (newK f t = 1) := by show _ = _; unfold newK; rw [if_neg (fun h => g2 h.2.1)]
    go_enter Tryz.func11, Tryz.ntmps11
    go_wp2
    go_ret2
    exact .inr ⟨HV.out, rfl, rfl⟩
  have i2 : (t.size : Int) ≤ 32 := by omega
  by_cases hz : t.size = 0
  · have HV : Hid (newK f t = 0) := newOk f t ⟨g1, g2, .inl hz⟩
    have e0 : (t.toList == (ByteArray.mk #[]).toList) = true := by rw [empty_of hz]; simp
    have ee : t.toList.isEmpty = true := by rw [toE]; exact decide_eq_true hz
    clear hz
    go_enter Tryz.func11, Tryz.ntmps11
    go_wp2
    go_ret2
    exact .inl ⟨HV.out, rfl, X, B⟩
  have e0 : (t.toList == (ByteArray.mk #[]).toList) = false := toL_ne (fun h => hz (by rw [h]; rfl))
  have e1' : (t.toList == []) = false := by rw [← e0]; congr 1; simp
  have ee : t.toList.isEmpty = false := by rw [toE]; exact decide_eq_false hz
  by_cases e2 : cmpL (sb f) (sb t) < 0
  · have HV : Hid (newK f t = 0) := newOk f t ⟨g1, g2, .inr e2⟩
    have l2 : Op.bytesLess t.toList f.toList = false := by rw [less_sb]; exact decide_eq_false (cmpL_asym e2)
    have l3 : (t.toList == f.toList) = false := toL_ne fun h => by rw [h] at e2; exact cmpL_irr _ e2
    have l4 : Op.bytesLess f.toList t.toList = true := by rw [less_sb]; exact decide_eq_true e2
    clear e2 hz
    go_enter Tryz.func11, Tryz.ntmps11
    go_wp2
    go_ret2
    exact .inl ⟨HV.out, rfl, X, B⟩
  · have l4 : Op.bytesLess f.toList t.toList = false := by rw [less_sb]; exact decide_eq_false e2
    have l5 : (Op.bytesLess t.toList f.toList || t.toList == f.toList) = true := by
      rw [less_sb]
      rcases cmpL_total (sb t) (sb f) with h | h | h
      · rw [decide_eq_true h]; rfl
      · rw [sb_inj h]; simp
      · exact absurd h e2
    have HV : Hid (newK f t = 1) := by show _ = _; unfold newK; rw [if_neg (fun h => h.2.2.elim hz e2)]
    go_enter Tryz.func11, Tryz.ntmps11
    go_wp2
    go_ret2
    exact .inr ⟨HV.out, rfl, rfl⟩
end Go.Proofs.YthlpccajnmkbjaaGreatDoor

namespace Go.Proofs.YthlpccajnmkbjaaGreatDoor
open Go.RowKit

def wdTab : ByteArray := { data := #[116, 97, 98, 108, 101, 116] }
/-- A tablet's root. -/
def rootT (f t : ByteArray) (cs : List CV) : List Int := sumL (formL (sb wdTab) [sb f, sb t, hashI (cs.map itm)])
theorem CGood.szs {cs : List CV} (h : CGood cs) (hn : cs.length ≤ 1000) : Szs (cs.map itm) := by
  refine ⟨by rw [List.length_map]; omega, fun x hx => ?_⟩
  obtain ⟨c, hc, rfl⟩ := List.mem_map.1 hx
  have h1 := keyL_le (h c hc).right
  have h2 := itV_len c
  have h3 := (h c hc).val
  exact ⟨Nat.le_trans h1 (by omega), by show (itV c).length ≤ 1000000; omega⟩

set_option maxHeartbeats 4000000 in
set_option maxRecDepth 100000 in
theorem troot_any (w : World) (p : Nat) (f t : ByteArray) (cs : List CV) (hTb : Tabs w) (hT : TB w p f t cs) (hg : CGood cs) (hn : cs.length ≤ 1000) (hf : f.size ≤ 32) (ht : t.size ≤ 32) :
    Calls Tryz.prog 20 #[.pointer (some ⟨p, 0, none⟩)] w fun e w' => ∃ ao cap, e = .returned (.slice ao 32 cap) ∧ Sl w' ao 32 cap (rootT f t cs) ∧ Below w.heap.size w w' := by
  have t2 := hTb.two
  obtain ⟨u, A0, T0⟩ := hT
  have c0 : w.cell? ⟨p, 0, none⟩ = some (.string f) := Arr.cell A0 0
  have c1 : w.cell? ⟨p, 1, none⟩ = some (.string t) := Arr.cell A0 1
  have c2 : w.cell? ⟨p, 2, none⟩ = some (.pointer u) := Arr.cell A0 2
  have CR : Hid (∀ V, Below w.heap.size w V → Calls Tryz.prog 23 #[.pointer u] V fun e w' => ∃ ro rc, e = .returned (.slice ro 32 rc) ∧ Sl w' ro 32 rc (hashI (cs.map itm)) ∧ Below V.heap.size V w') := fun V hV => by
    refine (root_any V (.pointer u) (cs.map itm) (T0.below hV) (hTb.below hV t2) (hg.szs hn)).mono ?_
    rintro e w' ⟨ao, cap, rfl, S, B⟩
    exact ⟨ao, cap, rfl, S.1, B⟩
  have CO : Hid (∀ V, Below w.heap.size w V → ∀ (a : Option Addr) (g1 k1 g2 k2 : Nat) (ro : Option Addr) (rc : Nat), PL V a 3 3 [⟨some ⟨g1, 0, none⟩, f.size, k1, sb f⟩, ⟨some ⟨g2, 0, none⟩, t.size, k2, sb t⟩, ⟨ro, 32, rc, hashI (cs.map itm)⟩] → Calls Tryz.prog 51 #[.string { data := #[116, 97, 98, 108, 101, 116] }, .slice a 3 3] V fun e w' => ∃ so sc, e = .returned (.slice so 32 sc) ∧ Sl w' so 32 sc (rootT f t cs) ∧ Below V.heap.size V w') := fun V hV a g1 k1 g2 k2 ro rc P3 => by
    refine (of_any V wdTab a 3 3 _ P3 (hTb.below hV t2) (by decide) (by omega) (fun q hq => by
      simp only [List.mem_cons, List.not_mem_nil, or_false] at hq
      rcases hq with rfl | rfl | rfl <;> simp only <;> omega)).mono ?_
    rintro e w' ⟨v, rfl, own, B⟩
    obtain ⟨so, sc, rfl, S, -⟩ := Sl.own own (sumL_byte _)
    exact ⟨so, sc, rfl, S, B⟩
  clear A0 T0 hg hTb
  go_enter Tryz.func20, Tryz.ntmps20
  go_wp2
  have zHS : Hid (∀ V, Below w.heap.size w V → V.cell? ⟨p, 0, none⟩ = some (.string f) ∧ V.cell? ⟨p, 1, none⟩ = some (.string t) ∧ V.cell? ⟨p, 2, none⟩ = some (.pointer u)) := fun V hV => ⟨(hV.cell (World.block_lt_of_cell? _ _ c0)).trans c0, (hV.cell (World.block_lt_of_cell? _ _ c1)).trans c1, (hV.cell (World.block_lt_of_cell? _ _ c2)).trans c2⟩
  have zE0 : Below w.heap.size w w.drew := (Below.refl _ _).drew
  refine wp_region_noPanic ?_
  refine wp_region_held_drew (S := fun V => V.cell? ⟨p, 0, none⟩ = some (.string f) ∧ V.cell? ⟨p, 1, none⟩ = some (.string t) ∧ V.cell? ⟨p, 2, none⟩ = some (.pointer u)) (by kernel_rfl) (zHS.out _ zE0) (fun zH0 => ?_)
  obtain ⟨zv0, hv0⟩ : ∃ v, v = w.drew := ⟨_, rfl⟩
  rw [← hv0] at zH0 zE0 ⊢
  clear hv0
  refine hr_take_w 0 (some 5) (.pointer (some ⟨p, 0, none⟩)) rfl rfl (by kernel_rfl) (by kernel_rfl) (by kernel_rfl) rfl (fun W hW => by obtain ⟨h0, h1, h2⟩ := hW; go_simp) zH0 ?_
  simp only [Act.put, List.setIfInBounds_toArray, List.set_cons_zero, List.set_cons_succ]
  refine hr_take_w 1 (some 6) (.pointer (some ⟨p, 0, none⟩)) rfl rfl (by kernel_rfl) (by kernel_rfl) (by kernel_rfl) rfl (fun W hW => by obtain ⟨h0, h1, h2⟩ := hW; go_simp) zH0 ?_
  simp only [Act.put, List.setIfInBounds_toArray, List.set_cons_zero, List.set_cons_succ]
  refine hr_take_w 2 (some 7) (.pointer (some ⟨p, 0, none⟩)) rfl rfl (by kernel_rfl) (by kernel_rfl) (by kernel_rfl) rfl (fun W hW => by obtain ⟨h0, h1, h2⟩ := hW; go_simp) zH0 ?_
  simp only [Act.put, List.setIfInBounds_toArray, List.set_cons_zero, List.set_cons_succ]
  refine hr_take_w 3 (some 8) (.string f) rfl rfl (by kernel_rfl) (by kernel_rfl) (by kernel_rfl) rfl (fun W hW => by obtain ⟨h0, h1, h2⟩ := hW; go_simp) zH0 ?_
  simp only [Act.put, List.setIfInBounds_toArray, List.set_cons_zero, List.set_cons_succ]
  refine hr_take_w 5 (some 10) (.pointer (some ⟨p, 0, none⟩)) rfl rfl (by kernel_rfl) (by kernel_rfl) (by kernel_rfl) rfl (fun W hW => by obtain ⟨h0, h1, h2⟩ := hW; go_simp) zH0 ?_
  simp only [Act.put, List.setIfInBounds_toArray, List.set_cons_zero, List.set_cons_succ]
  refine hr_take_w 6 (some 11) (.pointer (some ⟨p, 0, none⟩)) rfl rfl (by kernel_rfl) (by kernel_rfl) (by kernel_rfl) rfl (fun W hW => by obtain ⟨h0, h1, h2⟩ := hW; go_simp) zH0 ?_
  simp only [Act.put, List.setIfInBounds_toArray, List.set_cons_zero, List.set_cons_succ]
  refine hr_take_w 7 (some 12) (.pointer (some ⟨p, 1, none⟩)) rfl rfl (by kernel_rfl) (by kernel_rfl) (by kernel_rfl) rfl (fun W hW => by obtain ⟨h0, h1, h2⟩ := hW; go_simp) zH0 ?_
  simp only [Act.put, List.setIfInBounds_toArray, List.set_cons_zero, List.set_cons_succ]
  refine hr_take_w 8 (some 13) (.string t) rfl rfl (by kernel_rfl) (by kernel_rfl) (by kernel_rfl) rfl (fun W hW => by obtain ⟨h0, h1, h2⟩ := hW; go_simp) zH0 ?_
  simp only [Act.put, List.setIfInBounds_toArray, List.set_cons_zero, List.set_cons_succ]
  refine hr_take_w 10 (some 15) (.pointer (some ⟨p, 0, none⟩)) rfl rfl (by kernel_rfl) (by kernel_rfl) (by kernel_rfl) rfl (fun W hW => by obtain ⟨h0, h1, h2⟩ := hW; go_simp) zH0 ?_
  simp only [Act.put, List.setIfInBounds_toArray, List.set_cons_zero, List.set_cons_succ]
  refine hr_take_w 11 (some 16) (.pointer (some ⟨p, 0, none⟩)) rfl rfl (by kernel_rfl) (by kernel_rfl) (by kernel_rfl) rfl (fun W hW => by obtain ⟨h0, h1, h2⟩ := hW; go_simp) zH0 ?_
  simp only [Act.put, List.setIfInBounds_toArray, List.set_cons_zero, List.set_cons_succ]
  refine hr_take_w 12 (some 17) (.pointer (some ⟨p, 2, none⟩)) rfl rfl (by kernel_rfl) (by kernel_rfl) (by kernel_rfl) rfl (fun W hW => by obtain ⟨h0, h1, h2⟩ := hW; go_simp) zH0 ?_
  simp only [Act.put, List.setIfInBounds_toArray, List.set_cons_zero, List.set_cons_succ]
  refine hr_take_w 13 (some 18) (.pointer u) rfl rfl (by kernel_rfl) (by kernel_rfl) (by kernel_rfl) rfl (fun W hW => by obtain ⟨h0, h1, h2⟩ := hW; go_simp) zH0 ?_
  simp only [Act.put, List.setIfInBounds_toArray, List.set_cons_zero, List.set_cons_succ]
  refine wpAnyH_effto 3 (fun zi zv zw => (zi = 4 → ∃ g c, zv = .slice (some ⟨g, 0, none⟩) f.size c ∧ Sl zw (some ⟨g, 0, none⟩) f.size c (sb f)) ∧ (zi = 9 → ∃ g c, zv = .slice (some ⟨g, 0, none⟩) t.size c ∧ Sl zw (some ⟨g, 0, none⟩) t.size c (sb t)) ∧ (zi = 14 → ∃ ro rc, zv = .slice ro 32 rc ∧ Sl zw ro 32 rc (hashI (cs.map itm)))) [(4, 9), (9, 14), (14, 19)] 22 (by kernel_rfl) (by decide) (by decide) rfl ?_ (fun W hW => zHS.out W (zE0.trans (hW.mono zE0.size))) ?_ ?_
  · intro zi v w w' h hb
    refine ⟨fun e => ?_, fun e => ?_, fun e => ?_⟩
    · have h := h.1 e
      obtain ⟨g, c, h1, h2⟩ := h
      exact ⟨g, c, h1, h2.below hb⟩
    · have h := h.2.1 e
      obtain ⟨g, c, h1, h2⟩ := h
      exact ⟨g, c, h1, h2.below hb⟩
    · have h := h.2.2 e
      obtain ⟨ro, rc, h1, h2⟩ := h
      exact ⟨ro, rc, h1, h2.below hb⟩
  · intro zp zhi o a w ho hs hb hdep
    have zEB := zE0.trans (hb.mono zE0.size)
    simp only [List.mem_cons, List.not_mem_nil, or_false] at zhi
    rcases zhi with rfl | rfl | rfl
    · obtain rfl : _ = o := Option.some.inj (show some _ = some o from ho)
      have t8 : a.tmps[8]? = some (.string f) := hs.get 8 (by kernel_rfl) rfl
      have hr := Lib.run_convert_string_bytes (P := Tryz.prog) w 9 40 5 f Tryz.underlying9 Tryz.underlying40 Tryz.underlying5
      exact .inl ⟨_, _, by go_simp, ⟨fun _ => ⟨_, _, rfl, bytesWorld_sl w f (by omega)⟩, fun e => absurd e (by decide), fun e => absurd e (by decide)⟩, bytesWorld_below w f⟩
    · obtain rfl : _ = o := Option.some.inj (show some _ = some o from ho)
      have t13 : a.tmps[13]? = some (.string t) := hs.get 13 (by kernel_rfl) rfl
      have hr := Lib.run_convert_string_bytes (P := Tryz.prog) w 9 40 5 t Tryz.underlying9 Tryz.underlying40 Tryz.underlying5
      exact .inl ⟨_, _, by go_simp, ⟨fun e => absurd e (by decide), fun _ => ⟨_, _, rfl, bytesWorld_sl w t (by omega)⟩, fun e => absurd e (by decide)⟩, bytesWorld_below w t⟩
    · obtain rfl : _ = o := Option.some.inj (show some _ = some o from ho)
      have t18 : a.tmps[18]? = some (.pointer u) := hs.get 18 (by kernel_rfl) rfl
      refine .inr ⟨23, #[.pointer u], by go_simp, (CR.out w zEB).mono ?_⟩
      rintro e w' ⟨ro, rc, rfl, S1, C⟩
      exact ⟨_, rfl, ⟨fun e => absurd e (by decide), fun e => absurd e (by decide), fun _ => ⟨ro, rc, rfl, S1⟩⟩, C⟩
  intro zf zv1 hb hh
  have zE1 := zE0.trans (hb.mono zE0.size)
  obtain ⟨g1, k1, e4, S1⟩ := (hh (4, 9) (by simp)).1 rfl
  obtain ⟨g2, k2, e9, S2⟩ := (hh (9, 14) (by simp)).2.1 rfl
  obtain ⟨ro, rc, e14, S3⟩ := (hh (14, 19) (by simp)).2.2 rfl
  clear hh hb
  simp only [putL, List.foldl_cons, List.foldl_nil, e4, e9, e14]
  clear e4 e9 e14
  simp only [Act.put, List.setIfInBounds_toArray, List.set_cons_zero, List.set_cons_succ]
  refine hr_ex 15 (some 20) rfl rfl (by kernel_rfl) rfl (R := fun v w' => ∃ g, v = .slice (some ⟨g, 0, none⟩) 3 3 ∧ VL w' (some ⟨g, 0, none⟩) 3 3 [.slice (some ⟨g1, 0, none⟩) f.size k1, .slice (some ⟨g2, 0, none⟩) t.size k2, .slice ro 32 rc] ∧ Below zv1.heap.size zv1 w') (⟨_, _, by go_simp, _, rfl, VL.new zv1 [.slice (some ⟨g1, 0, none⟩) f.size k1, .slice (some ⟨g2, 0, none⟩) t.size k2, .slice ro 32 rc] 40 (by simp [maxLen]), (Below.refl _ _).alloc (Nat.le_refl _) _⟩) ?_
  rintro v zv2 ⟨zg1, rfl, zG1, zC1⟩
  have zE2 := zE1.trans (zC1.mono zE1.size)
  have zH2 := zHS.out zv2 zE2
  have S1 := S1.below zC1
  have S2 := S2.below zC1
  have S3 := S3.below zC1
  refine ⟨zH2, ?_⟩
  simp only [Act.put, List.setIfInBounds_toArray, List.set_cons_zero, List.set_cons_succ]
  have P3 : PL zv2 (some ⟨zg1, 0, none⟩) 3 3 [⟨some ⟨g1, 0, none⟩, f.size, k1, sb f⟩, ⟨some ⟨g2, 0, none⟩, t.size, k2, sb t⟩, ⟨ro, 32, rc, hashI (cs.map itm)⟩] := ⟨rfl, Nat.le_refl _, by decide, fun h => by simp at h, fun a ha i hi => match i, hi with | 0, _ => zG1.cell a ha 0 (by simp) | 1, _ => zG1.cell a ha 1 (by simp) | 2, _ => zG1.cell a ha 2 (by simp) | n + 3, h => absurd h (by simp), fun q hq => by
    simp only [List.mem_cons, List.not_mem_nil, or_false] at hq
    rcases hq with rfl | rfl | rfl
    · exact S1
    · exact S2
    · exact S3⟩
  refine hr_call_w 16 (some 21) 51 #[.string { data := #[116, 97, 98, 108, 101, 116] }, .slice (some ⟨zg1, 0, none⟩) 3 3] rfl rfl (by kernel_rfl) rfl (by go_simp) (fun v w' => ∃ dq dc, v = .slice dq 32 dc ∧ Sl w' dq 32 dc (rootT f t cs) ∧ Below zv2.heap.size zv2 w') ((CO.out zv2 zE2 _ _ _ _ _ _ _ P3).mono (by
    rintro e w' ⟨dq, dc, rfl, F, C⟩
    exact ⟨_, rfl, dq, dc, rfl, F, C⟩)) ?_
  rintro v zv3 ⟨dq, dc, rfl, zF2, zC2⟩
  have zE3 := zE2.trans (zC2.mono zE2.size)
  have zH3 := zHS.out zv3 zE3
  refine ⟨zH3, ?_⟩
  simp only [Act.put, List.setIfInBounds_toArray, List.set_cons_zero, List.set_cons_succ]
  refine hr_take_w 17 (some 2) (.slice dq 32 dc) rfl rfl (by kernel_rfl) (by kernel_rfl) (by kernel_rfl) rfl (fun W hW => by obtain ⟨h0, h1, h2⟩ := hW; go_simp) zH3 ?_
  simp only [Act.put, List.setIfInBounds_toArray, List.set_cons_zero, List.set_cons_succ]
  refine wpAnyH_done (by kernel_rfl) ?_ _
  refine NoPanic.normal ?_
  go_wp2
  go_ret
  exact ⟨dq, dc, rfl, zF2, zE3⟩
end Go.Proofs.YthlpccajnmkbjaaGreatDoor

namespace Go.Proofs.YthlpccajnmkbjaaGreatDoor
open Go.RowKit

set_option maxRecDepth 100000 in
set_option maxHeartbeats 2000000 in
theorem text_any (w : World) (s t : ByteArray) (hs : s.size ≤ maxLen) (ht : t.size ≤ maxLen) :
    Calls Tryz.prog 39 #[.string s, .string t] w fun e w' => e = .returned (.int .i64 (cmpL (sb s) (sb t))) ∧ Below w.heap.size w w' := by
  simp only [maxLen] at hs ht
  go_enter Tryz.func39, Tryz.ntmps39
  go_wp2_with fail
  go_loopw [5] (fun i wr => ∃ k : Nat, k ≤ s.size ∧ k ≤ t.size ∧ i = .int .i64 k ∧ Below w.heap.size w wr ∧ cmpL (sb s) (sb t) = cmpL ((sb s).drop k) ((sb t).drop k)) (fun i _ => s.size - (intOf i).toNat)
  case atStart => exact ⟨0, by omega, by omega, rfl, Below.refl _ _, rfl⟩
  case round =>
    obtain ⟨k, h1, h2, rfl, B, hc⟩ := hrel
    by_cases l1 : k < s.size
    · have i1 : (k : Int) < (s.size : Int) := by omega
      by_cases l2 : k < t.size
      · have i2 : (k : Int) < (t.size : Int) := by omega
        rw [sb_at s k l1, sb_at t k l2] at hc
        obtain ⟨x, hx⟩ : ∃ x : Nat, x = s[k].toNat := ⟨_, rfl⟩
        obtain ⟨y, hy⟩ : ∃ y : Nat, y = t[k].toNat := ⟨_, rfl⟩
        rw [← hx, ← hy] at hc
        have r1 : ∀ W : World, (Instr.index 9 (.string s) (.int .i64 k)).run Tryz.prog W = .ok (.int .u8 x) W := fun W => by
          rw [run_index_string W _ s _ _ Tryz.underlying9, dif_pos ⟨by omega, i1⟩, hx]
          rfl
        have r2 : ∀ W : World, (Instr.index 9 (.string t) (.int .i64 k)).run Tryz.prog W = .ok (.int .u8 y) W := fun W => by
          rw [run_index_string W _ t _ _ Tryz.underlying9, dif_pos ⟨by omega, i2⟩, hy]
          rfl
        clear hx hy
        by_cases e : x = y
        · subst e
          have hc' : Hid (cmpL (sb s) (sb t) = cmpL ((sb s).drop (k + 1)) ((sb t).drop (k + 1))) := by
            show _ = _
            rw [hc]
            rw [cmpL_cons, if_pos rfl]
          clear hc
          go_wp2_with fail
          go_quiet (fail)
          rename Nat => q
          go_wp2
          go_roundw
          case rel => exact ⟨k + 1, by omega, by omega, by go_num, belN B q, hc'.out⟩
          case measure => simp [intOf]; omega
        · have ne : ((x : Int) == (y : Int)) = false := by simp; omega
          have nn : ((x : Int) != (y : Int)) = true := by simp; omega
          by_cases l : x < y
          · have li : (x : Int) < (y : Int) := by omega
            have hc' : Hid (cmpL (sb s) (sb t) = -1) := by
              show _ = _
              rw [hc, cmpL_cons, if_neg (by omega), if_pos li]
            clear hc
            go_wp2_with fail
            go_quiet (fail)
            rename Nat => q
            go_wp2_with fail
            go_quiet (fail)
            rename Nat => q2
            go_wp2
            go_ret
            exact ⟨by rw [hc'.out] <;> rfl, belN (belN B q) q2⟩
          · have li : ¬ (x : Int) < (y : Int) := by omega
            have hc' : Hid (cmpL (sb s) (sb t) = 1) := by
              show _ = _
              rw [hc, cmpL_cons, if_neg (by omega), if_neg li]
            clear hc
            go_wp2_with fail
            go_quiet (fail)
            rename Nat => q
            go_wp2_with fail
            go_quiet (fail)
            rename Nat => q2
            go_wp2
            go_ret
            exact ⟨by rw [hc'.out] <;> rfl, belN (belN B q) q2⟩
      · have i2 : (t.size : Int) ≤ (k : Int) := by omega
        rw [sb_at s k l1, sb_end t k (by omega)] at hc
        have hc' : Hid (cmpL (sb s) (sb t) = 1) := hc
        clear hc
        have f1 : ((s.size : Int) == (t.size : Int)) = false := by simp; omega
        have f2 : ¬ (s.size : Int) < (t.size : Int) := by omega
        go_wp2
        go_ret
        exact ⟨by rw [hc'.out] <;> rfl, B⟩
    · have i1 : (s.size : Int) ≤ (k : Int) := by omega
      rw [sb_end s k (by omega)] at hc
      by_cases l2 : k < t.size
      · rw [sb_at t k l2] at hc
        have hc' : Hid (cmpL (sb s) (sb t) = -1) := hc
        clear hc
        have f1 : ((s.size : Int) == (t.size : Int)) = false := by simp; omega
        have f2 : (s.size : Int) < (t.size : Int) := by omega
        go_wp2
        go_ret
        exact ⟨by rw [hc'.out] <;> rfl, B⟩
      · rw [sb_end t k (by omega)] at hc
        have hc' : Hid (cmpL (sb s) (sb t) = 0) := hc
        clear hc
        have f1 : ((s.size : Int) == (t.size : Int)) = true := by simp; omega
        go_wp2
        go_ret
        exact ⟨by rw [hc'.out] <;> rfl, B⟩
end Go.Proofs.YthlpccajnmkbjaaGreatDoor

namespace Go.Proofs.YthlpccajnmkbjaaGreatDoor
open Go.RowKit

set_option maxRecDepth 100000 in
set_option maxHeartbeats 2000000 in
theorem rcmp_any (w : World) (a b : KA) (ha : a.ok) (hb : b.ok) :
    Calls Tryz.prog 33 #[a.val, b.val] w fun e w' => e = .returned (.int .i64 (cmpK a.kv b.kv)) ∧ Below w.heap.size w w' := by
  unfold KA.val
  have B2' : Below w.heap.size w ((w.alloc (Obj.cells #[.string a.row, .string a.fam, .string a.qual, .int .u64 a.time] 39)).alloc (Obj.cells #[.string b.row, .string b.fam, .string b.qual, .int .u64 b.time] 39)) := ((Below.refl _ w).alloc (Nat.le_refl _) _).alloc (by simp) _
  have h0 : w.heap.size < (w.alloc (Obj.cells #[.string a.row, .string a.fam, .string a.qual, .int .u64 a.time] 39)).heap.size := by simp
  have h1 : w.heap.size + 1 = (w.alloc (Obj.cells #[.string a.row, .string a.fam, .string a.qual, .int .u64 a.time] 39)).heap.size := by simp
  have HA' : ∀ i, i < 4 → ((w.alloc (Obj.cells #[.string a.row, .string a.fam, .string a.qual, .int .u64 a.time] 39)).alloc (Obj.cells #[.string b.row, .string b.fam, .string b.qual, .int .u64 b.time] 39)).cell? ⟨w.heap.size, i, none⟩ = #[Value.string a.row, .string a.fam, .string a.qual, .int .u64 a.time][i]? ∧ ((w.alloc (Obj.cells #[.string a.row, .string a.fam, .string a.qual, .int .u64 a.time] 39)).alloc (Obj.cells #[.string b.row, .string b.fam, .string b.qual, .int .u64 b.time] 39)).cell? ⟨w.heap.size + 1, i, none⟩ = #[Value.string b.row, .string b.fam, .string b.qual, .int .u64 b.time][i]? := fun i hi => by
    constructor
    · rw [World.cell?_alloc_past _ _ _ h0, World.cell?_alloc_at _ _ _ _ rfl]
    · rw [World.cell?_alloc_at _ _ _ _ h1]
  clear h0 h1
  go_enter Tryz.func33, Tryz.ntmps33
  go_wp2_with fail
  obtain ⟨w2, hw2⟩ : ∃ W, W = ((w.alloc (Obj.cells #[.string a.row, .string a.fam, .string a.qual, .int .u64 a.time] 39)).alloc (Obj.cells #[.string b.row, .string b.fam, .string b.qual, .int .u64 b.time] 39)) := ⟨_, rfl⟩
  rw [← hw2] at B2' HA' ⊢
  have B2 : Below w.heap.size w w2 := B2'
  have HA : Hid (∀ V, Below w2.heap.size w2 V → ∀ i, i < 4 → V.cell? ⟨w.heap.size, i, none⟩ = #[Value.string a.row, .string a.fam, .string a.qual, .int .u64 a.time][i]? ∧ V.cell? ⟨w.heap.size + 1, i, none⟩ = #[Value.string b.row, .string b.fam, .string b.qual, .int .u64 b.time][i]?) := by
    have hz : w2.heap.size = w.heap.size + 2 := by rw [hw2]; simp
    intro V hV i hi
    rw [hV.cell (by show w.heap.size < _; omega), hV.cell (by show w.heap.size + 1 < _; omega)]
    exact HA' i hi
  clear hw2 B2' HA'
  refine (text_any w2 a.row b.row ha.row hb.row).mono ?_
  rintro e w3 ⟨rfl, C3⟩
  have E3 := C3
  have B3 : Below w.heap.size w w3 := B2.trans (E3.mono B2.size)
  obtain ⟨c3, hc3⟩ : ∃ c, c = cmpL (sb a.row) (sb b.row) := ⟨_, rfl⟩
  rw [← hc3]
  have HC3 : Hid (c3 = cmpL (sb a.row) (sb b.row)) := hc3
  clear hc3
  by_cases e3 : c3 = 0
  · subst e3
    obtain ⟨k3, l3⟩ := HA.out w3 E3 1 (by omega)
    simp at k3 l3
    go_wp2_with fail
    refine (text_any w3 a.fam b.fam ha.fam hb.fam).mono ?_
    rintro e w4 ⟨rfl, C4⟩
    have E4 := E3.trans (C4.mono E3.size)
    have B4 : Below w.heap.size w w4 := B2.trans (E4.mono B2.size)
    obtain ⟨c4, hc4⟩ : ∃ c, c = cmpL (sb a.fam) (sb b.fam) := ⟨_, rfl⟩
    rw [← hc4]
    have HC4 : Hid (c4 = cmpL (sb a.fam) (sb b.fam)) := hc4
    clear hc4
    by_cases e4 : c4 = 0
    · subst e4
      clear k3 l3
      obtain ⟨k4, l4⟩ := HA.out w4 E4 2 (by omega)
      simp at k4 l4
      go_wp2_with fail
      refine (text_any w4 a.qual b.qual ha.qual hb.qual).mono ?_
      rintro e w5 ⟨rfl, C5⟩
      have E5 := E4.trans (C5.mono E4.size)
      have B5 : Below w.heap.size w w5 := B2.trans (E5.mono B2.size)
      obtain ⟨c5, hc5⟩ : ∃ c, c = cmpL (sb a.qual) (sb b.qual) := ⟨_, rfl⟩
      rw [← hc5]
      have HC5 : Hid (c5 = cmpL (sb a.qual) (sb b.qual)) := hc5
      clear hc5
      by_cases e5 : c5 = 0
      · subst e5
        clear k4 l4
        obtain ⟨k5, l5⟩ := HA.out w5 E5 3 (by omega)
        simp at k5 l5
        by_cases et : a.time = b.time
        · have f1 : ((a.time : Int) == (b.time : Int)) = true := by simp; omega
          have hv : Hid (cmpK a.kv b.kv = 0) := by
            show _ = _
            simp only [cmpK, KA.kv, if_true, ← HC3.out, ← HC4.out, ← HC5.out, cmpT]; exact if_pos et
          go_wp2
          go_ret
          exact ⟨by rw [hv.out] <;> rfl, B5⟩
        · have f1 : ((a.time : Int) == (b.time : Int)) = false := by simp; omega
          by_cases lt : b.time < a.time
          · have f2 : (b.time : Int) < (a.time : Int) := by omega
            have hv : Hid (cmpK a.kv b.kv = -1) := by
              show _ = _
              simp only [cmpK, KA.kv, if_true, ← HC3.out, ← HC4.out, ← HC5.out, cmpT]; exact (if_neg et).trans (if_pos lt)
            go_wp2
            go_ret
            exact ⟨by rw [hv.out] <;> rfl, B5⟩
          · have f2 : (a.time : Int) ≤ (b.time : Int) := by omega
            have hv : Hid (cmpK a.kv b.kv = 1) := by
              show _ = _
              simp only [cmpK, KA.kv, if_true, ← HC3.out, ← HC4.out, ← HC5.out, cmpT]; exact (if_neg et).trans (if_neg lt)
            go_wp2
            go_ret
            exact ⟨by rw [hv.out] <;> rfl, B5⟩
      · have f5 : (c5 == 0) = false := by simp; omega
        have hv : Hid (cmpK a.kv b.kv = c5) := by
          show _ = _
          simp only [cmpK, KA.kv, if_true, ← HC3.out, ← HC4.out, ← HC5.out]; exact if_neg e5
        go_wp2
        go_ret
        exact ⟨by rw [hv.out] <;> rfl, B5⟩
    · have f4 : (c4 == 0) = false := by simp; omega
      have hv : Hid (cmpK a.kv b.kv = c4) := by
        show _ = _
        simp only [cmpK, KA.kv, if_true, ← HC3.out, ← HC4.out]; exact if_neg e4
      go_wp2
      go_ret
      exact ⟨by rw [hv.out] <;> rfl, B4⟩
  · have f3 : (c3 == 0) = false := by simp; omega
    have hv : Hid (cmpK a.kv b.kv = c3) := by
      show _ = _
      simp only [cmpK, KA.kv, ← HC3.out]; exact if_neg e3
    go_wp2
    go_ret
    exact ⟨by rw [hv.out] <;> rfl, B3⟩
end Go.Proofs.YthlpccajnmkbjaaGreatDoor

namespace Go.Proofs.YthlpccajnmkbjaaGreatDoor
open Go.RowKit

set_option maxRecDepth 100000 in
set_option maxHeartbeats 2000000 in
theorem rcolumn_any (w : World) (a b : KA) :
    Calls Tryz.prog 34 #[a.val, b.val] w fun e w' => e = .returned (.bool (a.col b)) ∧ Below w.heap.size w w' := by
  have B : Below w.heap.size w ((w.alloc (Obj.cells #[.string a.row, .string a.fam, .string a.qual, .int .u64 a.time] 39)).alloc (Obj.cells #[.string b.row, .string b.fam, .string b.qual, .int .u64 b.time] 39)) := ((Below.refl _ w).alloc (Nat.le_refl _) _).alloc (by simp) _
  unfold KA.val
  by_cases e1 : a.row = b.row
  · have t1 : (a.row.toList == b.row.toList) = true := by rw [e1]; simp
    by_cases e2 : a.fam = b.fam
    · have t2 : (a.fam.toList == b.fam.toList) = true := by rw [e2]; simp
      by_cases e3 : a.qual = b.qual
      · have t3 : (a.qual.toList == b.qual.toList) = true := by rw [e3]; simp
        have hv : Hid (a.col b = true) := decide_eq_true ⟨e1, e2, e3⟩
        clear e1 e2 e3
        go_enter Tryz.func34, Tryz.ntmps34
        go_wp2
        go_ret
        exact ⟨by rw [hv.out] <;> rfl, B⟩
      · have t3 := toL_ne e3
        have hv : Hid (a.col b = false) := decide_eq_false fun h => e3 h.2.2
        clear e1 e2 e3
        go_enter Tryz.func34, Tryz.ntmps34
        go_wp2
        go_ret
        exact ⟨by rw [hv.out] <;> rfl, B⟩
    · have t2 := toL_ne e2
      have hv : Hid (a.col b = false) := decide_eq_false fun h => e2 h.2.1
      clear e1 e2
      go_enter Tryz.func34, Tryz.ntmps34
      go_wp2
      go_ret
      exact ⟨by rw [hv.out] <;> rfl, B⟩
  · have t1 := toL_ne e1
    have hv : Hid (a.col b = false) := decide_eq_false fun h => e1 h.1
    clear e1
    go_enter Tryz.func34, Tryz.ntmps34
    go_wp2
    go_ret
    exact ⟨by rw [hv.out] <;> rfl, B⟩
end Go.Proofs.YthlpccajnmkbjaaGreatDoor

namespace Go.Proofs.YthlpccajnmkbjaaGreatDoor
open Go.RowKit

section
variable {P : Program} {ops : Array Oper} {Q : Exit → Act → World → Prop} {S : World → Prop} {fuel : Nat} {listed : Array Bool} {a : Act} {w : World}
theorem hr_opt (b : Bool) (i : Nat) (d : Option Tmp) (v : Value) {oi : Oper} (hi : ops[i]? = some oi) (hd : oi.dst = d) (hs : Region.noSelect ops = true) (hf : Region.free .any ops listed i = true) (hr : (Region.ready .any ops listed).contains i = true)
    (hw : Region.wanted oi (yielded ops a.tmps) = b) (hrun : b = true → ∀ W, S W → (execOp a.eval oi).run P W = .ok (.value v) W) (hS : S w) (h : wpAnyH P .any ops (NoPanic Q) S fuel (listed.setIfInBounds i true) (a.put d (cond b v undef)) w) : wpAnyH P .any ops (NoPanic Q) S (fuel + 1) listed a w := by
  cases b with
  | true => exact hr_take_w i d v hi hd hs hf hr hw (hrun rfl) hS h
  | false => exact hr_none i d hi hd hs hf hr hw hS h
end
end Go.Proofs.YthlpccajnmkbjaaGreatDoor

namespace Go.Proofs.YthlpccajnmkbjaaGreatDoor
open Go.RowKit

theorem same_true (w : World) (ao bo : Option Addr) (n cap m cap2 : Nat) (xs : List Int) (h : Sl w ao n cap xs) (h2 : Sl w bo m cap2 xs) :
    Calls Tryz.prog 19 #[.slice ao n cap, .slice bo m cap2] w fun e w' => e = .returned (.bool true) ∧ Below w.heap.size w w' := by
  refine (same_any w ao bo n cap m cap2 xs xs h h2).mono ?_
  rintro e w' ⟨rfl, q, rfl⟩
  exact ⟨by simp, ⟨rfl, rfl, rfl, Nat.le_refl _, fun _ _ => rfl⟩⟩
end Go.Proofs.YthlpccajnmkbjaaGreatDoor

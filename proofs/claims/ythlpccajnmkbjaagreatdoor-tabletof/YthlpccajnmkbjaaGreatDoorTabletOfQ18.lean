/-
  Texts in one: TbOf, TbCnt, RbOfM, CText, RbSmall, TbTake, TbScan, RbMem, RbKey, RbMath, CCmp.
-/
import Derived.Test.YthlpccajnmkbjaaGreatDoorTabletOfQFL
import Derived.Test.YthlpccajnmkbjaaGreatDoorTabletOfQ17
import Derived.Test.YthlpccajnmkbjaaGreatDoorTabletOfQ16
import Derived.Test.YthlpccajnmkbjaaGreatDoorTabletOfQ0
import Derived.Test.YthlpccajnmkbjaaGreatDoorTabletOfQ12
import Derived.Test.YthlpccajnmkbjaaGreatDoorTabletOfQ3
import Derived.Test.YthlpccajnmkbjaaGreatDoorTabletOfQ11
import Derived.Test.YthlpccajnmkbjaaGreatDoorTabletOfQ2
import Derived.Test.YthlpccajnmkbjaaGreatDoorTabletOfQ6
import Derived.Test.YthlpccajnmkbjaaGreatDoorTabletOfQ4
namespace Go.Proofs.YthlpccajnmkbjaaGreatDoor
open Go.RowKit
def layAll (ds : List CV) : List CV → List CV
  | [] => ds
  | c :: cs => layAll (cIns ds c) cs
theorem layAll_snoc (cs : List CV) (ds : List CV) (c : CV) : layAll ds (cs ++ [c]) = cIns (layAll ds cs) c := by
  induction cs generalizing ds with
  | nil => rfl
  | cons x cs ih => exact ih _
theorem Stand.layAll {f t : ByteArray} : ∀ (cs : List CV) {n : Nat} {ds : List CV}, Stand f t n ds → (∀ c ∈ cs, c.good ∧ inRows f t c.row = true) → Stand f t (n + cs.length) (layAll ds cs)
  | [], _, _, h, _ => h
  | c :: cs, n, _, h, hc => by
    obtain ⟨h1, h2⟩ := hc c (List.mem_cons_self ..)
    have := Stand.layAll cs (h.lay h1 h2) (fun x hx => hc x (List.mem_cons_of_mem _ hx))
    rw [List.length_cons]
    exact this.mono (by omega)
def ofK (f t : ByteArray) (cs : List CV) : Int := if newK f t = 0 then judgeK f t cs else 1
theorem judgeK_ok {f t : ByteArray} {cs : List CV} (h : judgeK f t cs = 0) : (∀ c ∈ cs, notR c = false ∧ inRows f t c.row = true ∧ wrongV c = false) ∧ mostK (cs.map CV.ky) ≤ 1 ∧ mostK (cs.map fun c => c.ky.colK) ≤ 4 ∧ cs.length ≤ 32 := by
  unfold judgeK at h
  split at h
  · simp at h
  rename_i h1
  split at h
  · simp at h
  rename_i h2
  split at h
  · simp at h
  rename_i h3
  split at h
  · simp at h
  rename_i h4
  split at h
  · simp at h
  rename_i h5
  rw [Bool.or_eq_true, not_or] at h3
  obtain ⟨h3, h6⟩ := h3
  have h6 : ¬ 1 < mostK (cs.map CV.ky) := fun e => h6 (decide_eq_true e)
  refine ⟨fun c hc => ⟨?_, ?_, ?_⟩, by omega, by omega, by omega⟩
  · cases e : notR c with
    | false => rfl
    | true => exact absurd (List.any_eq_true.2 ⟨c, hc, e⟩) h1
  · cases e : inRows f t c.row with
    | true => rfl
    | false => exact absurd (List.any_eq_true.2 ⟨c, hc, by rw [e]; rfl⟩) h2
  · cases e : wrongV c with
    | false => rfl
    | true => exact absurd (List.any_eq_true.2 ⟨c, hc, e⟩) h3
theorem good_of {c : CV} (h1 : notR c = false) (h2 : wrongV c = false) (ht : c.time < 18446744073709551616) (hb : Byt c.value) : c.good := by
  unfold notR at h1
  have h1 : c.ky.isRight = true := by simpa using h1
  have h1 := of_decide_eq_true h1
  unfold wrongV at h2
  obtain ⟨h3, h4⟩ := Bool.or_eq_false_iff.1 h2
  have h3 := of_decide_eq_false h3
  refine ⟨?_, ht, by omega, hb, fun hg => ?_⟩
  · show 1 ≤ (sb c.row).length ∧ (sb c.row).length ≤ 32 ∧ 1 ≤ (sb c.fam).length ∧ (sb c.fam).length ≤ 32 ∧ (sb c.qual).length ≤ 32
    rw [sb_len, sb_len, sb_len]
    exact h1
  · rw [hg, Bool.true_and] at h4
    have := of_decide_eq_false h4
    exact List.eq_nil_of_length_eq_zero (by omega)
def OfPost (w : World) (f t : ByteArray) (cs : List CV) (e : Ending) (w' : World) : Prop :=
  (ofK f t cs = 0 ∧ ∃ p, w.heap.size ≤ p ∧ e = .returned (.tuple #[.pointer (some ⟨p, 0, none⟩), .int .i64 0]) ∧ TB w' p f t (layAll [] cs) ∧ Below w.heap.size w w') ∨ (ofK f t cs ≠ 0 ∧ e = .returned (.tuple #[.pointer none, .int .i64 (ofK f t cs)]) ∧ Below w.heap.size w w')
set_option maxHeartbeats 4000000 in
set_option maxRecDepth 100000 in
theorem of_any10 (w : World) (f t : ByteArray) (ao : Option Addr) (n cap : Nat) (l : List CA) (hTb : Tabs w) (hf : f.size ≤ 1000000) (ht : t.size ≤ 1000000) (L : CL w ao n cap l) (hn : n ≤ 800) :
    Calls Tryz.prog 28 #[.string f, .string t, .slice ao n cap] w (OfPost w f t (l.map CA.c)) := by
  have t2 := hTb.two
  have HTb : Hid (Tabs w) := hTb
  have hl1 := Nat.le_of_eq L.len
  have hl2 := Nat.le_of_eq L.len.symm
  have CN := tnew_any w f t hf ht
  obtain ⟨cs, hcs⟩ : ∃ cs, cs = l.map CA.c := ⟨_, rfl⟩
  have HCS : Hid (cs = l.map CA.c) := hcs
  rw [← hcs]
  clear hTb hcs
  go_enter Tryz.func28, Tryz.ntmps28
  go_wp2_with fail
  refine CN.mono ?_
  rintro e w1 (⟨hk0, rfl, X1, C1⟩ | ⟨hk1, rfl, hw⟩)
  case inr =>
    obtain rfl := hw.symm
    clear CN
    have hz : ofK f t cs = 1 := by unfold ofK; rw [hk1]; rfl
    go_wp2
    go_ret2
    exact .inr ⟨by rw [hz]; decide, by rw [hz] <;> rfl, Below.refl _ _⟩
  clear CN
  have hof : ofK f t cs = judgeK f t cs := by unfold ofK; rw [if_pos hk0]
  obtain ⟨u, A1, T1⟩ := X1
  have X1 : TB w1 w.heap.size f t [] := ⟨u, A1, T1⟩
  have CJ := judge_any10 w1 w.heap.size f t u ao n cap l A1 (L.below C1) (by omega)
  rw [← HCS.out] at CJ
  obtain ⟨jk, hjk⟩ : ∃ k, k = judgeK f t cs := ⟨_, rfl⟩
  rw [← hjk] at CJ hof
  have HJK : Hid (jk = judgeK f t cs) := hjk
  have HOF : Hid (ofK f t cs = jk) := hof
  clear hof hjk A1 T1
  go_wp2_with fail
  refine CJ.mono ?_
  rintro e w2 ⟨rfl, C2⟩
  have B2 := C1.trans (C2.mono C1.size)
  have X2 := X1.below C2
  clear CJ X1
  by_cases hj : jk = 0
  case neg =>
    have z0 : (jk != 0) = true := by simp [hj]
    go_wp2
    go_ret2
    exact .inr ⟨by rw [HOF.out]; exact hj, by rw [HOF.out] <;> rfl, B2⟩
  have z0 : (jk != 0) = false := by simp [hj]
  obtain ⟨hall, -, -, hlen⟩ := judgeK_ok (HJK.out.symm.trans hj)
  have HG : Hid (∀ c ∈ cs, c.good ∧ inRows f t c.row = true) := fun c hc => by
    obtain ⟨a1, a2, a3⟩ := hall c hc
    have hc' : c ∈ l.map CA.c := by rw [← HCS.out]; exact hc
    obtain ⟨x, hx, rfl⟩ := List.mem_map.1 hc'
    have hok := L.ok x hx
    exact ⟨good_of a1 a3 hok.time hok.va.byte, a2⟩
  have HZ : Hid (ofK f t cs = 0) := HOF.out.trans hj
  clear hall HOF HJK hj hk0
  go_wp2
  go_loopw [30] (fun i wr => ∃ j : Nat, j ≤ n ∧ i = .int .i64 j ∧ TB wr w.heap.size f t (layAll [] (cs.take j)) ∧ Below w.heap.size w wr) (fun i _ => n - (intOf i).toNat)
  case atStart => exact ⟨0, Nat.zero_le _, rfl, X2, B2⟩
  case round =>
    obtain ⟨j, hj, rfl, Xr, Br⟩ := hrel
    by_cases hlt : j < n
    · have hji : (j : Int) < (n : Int) := by omega
      have hjl : j < l.length := by omega
      obtain ⟨b, off, ea, hc⟩ := L.at (by omega)
      have X := (hc j hjl).below Br
      have hjc : j < cs.length := by rw [HCS.out, List.length_map]; exact hjl
      have hcj : cs[j] = l[j].c := by
        have := HCS.out
        subst this
        exact List.getElem_map ..
      have HT : Hid (layAll [] (cs.take (j + 1)) = cIns (layAll [] (cs.take j)) l[j].c) := by
        show _ = _
        rw [List.take_succ_eq_append_getElem hjc, layAll_snoc, hcj]
      have HS : Stand f t (cs.take j).length (layAll [] (cs.take j)) := by
        have := (Stand.nil f t).layAll (cs.take j) (fun c hc => HG.out c (List.mem_of_mem_take hc))
        rw [Nat.zero_add] at this
        exact this
      have hgd := (HG.out _ (List.getElem_mem hjc)).1
      rw [hcj] at hgd
      have hok := (L.ok _ (List.getElem_mem hjl)).below Br
      obtain ⟨W1, hW1⟩ : ∃ V, V = wr.alloc (.cells #[.string l[j].row, .string l[j].fam, .string l[j].qual, .int .u64 l[j].time, .slice l[j].va.ao l[j].va.n l[j].va.cap, .bool l[j].gone] 69) := ⟨_, rfl⟩
      have D1 : Below wr.heap.size wr W1 := by rw [hW1]; exact (Below.refl _ _).alloc (Nat.le_refl _) _
      have BW := Br.trans (D1.mono Br.size)
      have hvn : l[j].va.n ≤ 100000 := by
        have h1 := hok.va.len
        have h2 : l[j].va.xs.length ≤ 256 := hgd.val
        omega
      have CY := lay_any W1 w.heap.size f t (layAll [] (cs.take j)) l[j] (HTb.out.below BW t2) (Xr.below D1) HS.srt (by have := HS.len; rw [List.length_take] at this; omega) (hok.below D1) hgd hvn
      rw [← HT.out] at CY
      obtain ⟨c, hce⟩ : ∃ c, c = l[j] := ⟨_, rfl⟩
      rw [← hce] at X CY hW1
      obtain ⟨x0, x1, x2, x3, x4, x5⟩ := X
      subst ea
      unfold CA.val at CY
      clear hc hok hcj hce HS hgd HT hvn
      go_wp2_with fail
      rw [← hW1]
      clear hW1
      refine CY.mono ?_
      rintro e w5 ⟨rfl, X5, K5⟩
      have B5 := Wr.below BW K5 BW.size (Nat.le_refl _)
      clear CY x0 x1 x2 x3 x4 x5
      go_wp2
      go_roundw
      case rel => exact ⟨j + 1, by omega, by go_num, X5, B5⟩
      case measure => simp [intOf]; omega
    · have hge : ¬ (j : Int) < (n : Int) := by omega
      have HT : Hid (cs.take j = cs) := List.take_of_length_le (by rw [HCS.out, List.length_map]; omega)
      rw [HT.out] at Xr
      go_wp2
      go_ret2
      exact .inl ⟨HZ.out, w.heap.size, Nat.le_refl _, rfl, Xr, Br⟩
open Go.RowKit
def cnt (q : CV → Bool) (L : List CV) : Nat := (L.filter q).length
theorem cnt_append (q : CV → Bool) (A B : List CV) : cnt q (A ++ B) = cnt q A + cnt q B := by
  unfold cnt
  rw [List.filter_append, List.length_append]
theorem cnt_cons (q : CV → Bool) (a : CV) (B : List CV) : cnt q (a :: B) = (if q a then 1 else 0) + cnt q B := by
  unfold cnt
  rw [List.filter_cons]
  split
  · rw [List.length_cons]; omega
  · omega
theorem cnt_parts (q : CV → Bool) (k : KV) : ∀ L : List CV, cnt q (cLo k L) + cnt q (cHi k L) + cnt (fun x => q x && decide (keyL x.kv = keyL k)) L = cnt q L
  | [] => rfl
  | a :: L => by
    have ih := cnt_parts q k L
    rw [cnt_cons, cnt_cons]
    unfold cLo cHi at ih ⊢
    rw [List.filter_cons, List.filter_cons]
    rcases cmpL_total (keyL a.kv) (keyL k) with h | h | h
    · have hne : keyL a.kv ≠ keyL k := fun e => by rw [e] at h; exact cmpL_irr _ h
      rw [decide_eq_true h, decide_eq_false (cmpL_asym h), decide_eq_false hne, Bool.and_false]
      simp only [if_true, Bool.false_eq_true, if_false]
      rw [cnt_cons]
      omega
    · rw [h, decide_eq_false (cmpL_irr _), decide_eq_true rfl, Bool.and_true]
      simp only [Bool.false_eq_true, if_false]
      omega
    · have hne : keyL a.kv ≠ keyL k := fun e => by rw [e] at h; exact cmpL_irr _ h
      rw [decide_eq_true h, decide_eq_false (cmpL_asym h), decide_eq_false hne, Bool.and_false]
      simp only [if_true, Bool.false_eq_true, if_false]
      rw [cnt_cons]
      omega
theorem cnt_pos {q : CV → Bool} {L : List CV} {x : CV} (hx : x ∈ L) (hq : q x = true) : 1 ≤ cnt q L := List.length_pos_of_mem (List.mem_filter.2 ⟨hx, hq⟩)
theorem cnt_ins (q : CV → Bool) (L : List CV) (c : CV) : cnt q (cIns L c) + cnt (fun x => q x && decide (keyL x.kv = keyL c.kv)) L = cnt q L + (if q c then 1 else 0) := by
  have := cnt_parts q c.kv L
  unfold cIns
  rw [cnt_append, cnt_cons]
  omega
theorem cnt_all (L : List CV) : cnt (fun _ => true) L = L.length := by
  unfold cnt
  rw [List.filter_eq_self.2 (fun _ _ => rfl)]
theorem colC_cnt (k : KA) (cs : List CV) : (colC k cs).length = cnt (fun c => c.col k) cs := rfl
theorem mostR_le' : ∀ (ks : List KA) (b : Nat), (∀ k, cntK k ks ≤ b) → mostR ks ≤ b
  | [], _, _ => Nat.zero_le _
  | k :: ks, b, h => by
    have h1 : cntK k ks + 1 ≤ b := by
      have := h k
      unfold cntK at this ⊢
      rw [List.filter_cons, (keq_iff k k).2 rfl] at this
      simpa using this
    have h2 := mostR_le' ks b (fun j => by
      have := h j
      unfold cntK at this ⊢
      rw [List.filter_cons] at this
      split at this
      · rw [List.length_cons] at this; omega
      · exact this)
    unfold mostR
    omega
theorem mostK_le' (ks : List KA) (b : Nat) (h : ∀ k, cntK k ks ≤ b) : mostK ks ≤ b := mostR_le' _ b (fun k => by rw [cntK_reverse]; exact h k)
theorem cnt_map (g : CV → KA) (k : KA) (cs : List CV) : cntK k (cs.map g) = cnt (fun c => keq k (g c)) cs := by
  unfold cntK cnt
  rw [List.filter_map, List.length_map]
  rfl
open Go.RowKit
theorem mostR_ge : ∀ (ks : List KA) (k : KA), cntK k ks ≤ mostR ks
  | [], _ => Nat.zero_le _
  | a :: ks, k => by
    have ih := mostR_ge ks k
    unfold mostR
    unfold cntK at ih ⊢
    rw [List.filter_cons]
    by_cases h : keq k a = true
    · obtain rfl := (keq_iff k a).1 h
      rw [if_pos h, List.length_cons]
      exact Nat.le_max_right _ _
    · rw [if_neg h]
      exact Nat.le_trans ih (Nat.le_max_left _ _)
theorem mostK_iff (ks : List KA) (b : Nat) : b < mostK ks ↔ ∃ k, b < cntK k ks := by
  constructor
  · intro h
    by_cases h2 : ∃ k, b < cntK k ks
    · exact h2
    · have := mostK_le' ks b (fun k => Nat.le_of_not_lt fun h3 => h2 ⟨k, h3⟩)
      omega
  · rintro ⟨k, h⟩
    have := mostR_ge ks.reverse k
    rw [cntK_reverse] at this
    exact Nat.lt_of_lt_of_le h this
theorem cntK_pos {k : KA} {ks : List KA} (h : 0 < cntK k ks) : k ∈ ks := by
  unfold cntK at h
  obtain ⟨x, hx⟩ := List.exists_mem_of_length_pos h
  obtain ⟨h1, h2⟩ := List.mem_filter.1 hx
  rw [(keq_iff k x).1 h2]
  exact h1
theorem cntK_mem {k : KA} {ks : List KA} (h : k ∈ ks) : 0 < cntK k ks := List.length_pos_of_mem (List.mem_filter.2 ⟨h, (keq_iff k k).2 rfl⟩)
theorem cntK_two : ∀ ks : List KA, (∀ k, cntK k ks ≤ 1) ↔ ks.Pairwise (fun a b => a ≠ b)
  | [] => ⟨fun _ => List.Pairwise.nil, fun _ _ => Nat.zero_le _⟩
  | a :: ks => by
    have ih := cntK_two ks
    have hc : ∀ k, cntK k (a :: ks) = (if keq k a = true then 1 else 0) + cntK k ks := fun k => by
      unfold cntK
      rw [List.filter_cons]
      split
      · rw [List.length_cons]; omega
      · omega
    rw [List.pairwise_cons]
    constructor
    · intro h
      refine ⟨fun b hb e => ?_, ih.1 fun k => ?_⟩
      · subst e
        have h1 := h a
        rw [hc, if_pos ((keq_iff a a).2 rfl)] at h1
        have := cntK_mem hb
        omega
      · have h1 := h k
        rw [hc] at h1
        omega
    · rintro ⟨h1, h2⟩ k
      rw [hc]
      by_cases e : keq k a = true
      · obtain rfl := (keq_iff k a).1 e
        rw [if_pos e]
        by_cases hz : 0 < cntK k ks
        · exact absurd rfl (h1 k (cntK_pos hz))
        · omega
      · rw [if_neg e]
        have := ih.2 h2 k
        omega
theorem layAll_len : ∀ (cs ds : List CV), (layAll ds cs).length ≤ ds.length + cs.length
  | [], _ => Nat.le_refl _
  | c :: cs, ds => by
    have h1 := layAll_len cs (cIns ds c)
    have h2 := cIns_len ds c
    show (layAll (cIns ds c) cs).length ≤ _
    rw [List.length_cons]
    omega
theorem cIns_full (ds : List CV) (c : CV) : (cIns ds c).length = ds.length + 1 ↔ ∀ x ∈ ds, keyL x.kv ≠ keyL c.kv := by
  have h := cnt_ins (fun _ => true) ds c
  rw [cnt_all, cnt_all] at h
  simp only [if_true] at h
  constructor
  · intro e x hx hk
    have := cnt_pos (q := fun x => true && decide (keyL x.kv = keyL c.kv)) hx (by rw [decide_eq_true hk]; rfl)
    omega
  · intro hx
    have : cnt (fun x => true && decide (keyL x.kv = keyL c.kv)) ds = 0 := by
      unfold cnt
      rw [List.filter_eq_nil_iff.2 (fun x h => by simpa using hx x h)]
      rfl
    omega
theorem mem_cIns_iff {ds : List CV} {c : CV} (h : ∀ x ∈ ds, keyL x.kv ≠ keyL c.kv) (x : CV) : x ∈ cIns ds c ↔ x = c ∨ x ∈ ds := by
  refine ⟨mem_cIns, fun hx => ?_⟩
  unfold cIns cLo cHi
  rcases hx with rfl | hx
  · exact List.mem_append_right _ (List.mem_cons_self ..)
  · rcases cmpL_total (keyL x.kv) (keyL c.kv) with g | g | g
    · exact List.mem_append_left _ (List.mem_filter.2 ⟨hx, decide_eq_true g⟩)
    · exact absurd g (h x hx)
    · exact List.mem_append_right _ (List.mem_cons_of_mem _ (List.mem_filter.2 ⟨hx, decide_eq_true g⟩))
theorem layAll_full : ∀ (cs ds : List CV), (layAll ds cs).length = ds.length + cs.length ↔ (∀ c ∈ cs, ∀ x ∈ ds, keyL x.kv ≠ keyL c.kv) ∧ cs.Pairwise (fun a b => keyL a.kv ≠ keyL b.kv)
  | [], ds => ⟨fun _ => ⟨fun _ h => by simp at h, List.Pairwise.nil⟩, fun _ => rfl⟩
  | c :: cs, ds => by
    have h1 := layAll_len cs (cIns ds c)
    have h2 := cIns_len ds c
    have hf := cIns_full ds c
    have ih := layAll_full cs (cIns ds c)
    show (layAll (cIns ds c) cs).length = _ ↔ _
    rw [List.length_cons, List.pairwise_cons]
    constructor
    · intro h
      have e1 : (cIns ds c).length = ds.length + 1 := by omega
      have g1 := hf.1 e1
      obtain ⟨g2, g3⟩ := ih.1 (by omega)
      refine ⟨fun d hd x hx => ?_, fun d hd => ?_, g3⟩
      · rcases List.mem_cons.1 hd with rfl | hd
        · exact g1 x hx
        · exact g2 d hd x ((mem_cIns_iff g1 x).2 (.inr hx))
      · exact g2 d hd c ((mem_cIns_iff g1 c).2 (.inl rfl))
    · rintro ⟨g1, g2, g3⟩
      have g4 := g1 c (List.mem_cons_self ..)
      have e1 := hf.2 g4
      have e2 := ih.2 ⟨fun d hd x hx => by
        rcases (mem_cIns_iff g4 x).1 hx with rfl | hx
        · exact g2 d hd
        · exact g1 d (List.mem_cons_of_mem _ hd) x hx, g3⟩
      omega
theorem ky_kv {a b : CV} (h : a.kv = b.kv) : a.ky = b.ky := by
  obtain ⟨h1, h2, h3, h4⟩ := CV.kv_eq h
  show KA.mk _ _ _ _ = KA.mk _ _ _ _
  rw [h1, h2, h3, h4]
theorem kv_ky {a b : CV} (h : a.ky = b.ky) : a.kv = b.kv := by
  simp only [CV.ky, KA.mk.injEq] at h
  show KV.mk _ _ _ _ = KV.mk _ _ _ _
  rw [h.1, h.2.1, h.2.2.1, h.2.2.2]
theorem dup_iff {cs : List CV} (ht : ∀ c ∈ cs, c.time < 18446744073709551616) : (layAll [] cs).length ≠ cs.length ↔ 1 < mostK (cs.map CV.ky) := by
  have h1 := layAll_full cs []
  rw [List.length_nil, Nat.zero_add] at h1
  have h2 := cntK_two (cs.map CV.ky)
  rw [List.pairwise_map] at h2
  have h3 : cs.Pairwise (fun a b => keyL a.kv ≠ keyL b.kv) ↔ cs.Pairwise (fun a b => a.ky ≠ b.ky) :=
    ⟨fun h => h.imp_of_mem fun ha hb hk e => hk (by rw [kv_ky e]), fun h => h.imp_of_mem fun ha hb hk e => hk (ky_kv (keyL_inj (CV.kvByt (ht _ ha)) (CV.kvByt (ht _ hb)) e))⟩
  rw [mostK_iff]
  constructor
  · intro h
    by_cases g : ∃ k, 1 < cntK k (cs.map CV.ky)
    · exact g
    · refine absurd (h1.2 ⟨fun _ _ _ h => by simp at h, h3.2 (h2.1 fun k => ?_)⟩) h
      exact Nat.le_of_not_lt fun g2 => g ⟨k, g2⟩
  · rintro ⟨k, hk⟩ h
    have := h2.2 (h3.1 (h1.1 h).2) k
    omega
theorem col_cntK (k : KA) (cs : List CV) : (colC k cs).length = cntK k.colK (cs.map fun c => c.ky.colK) := by
  rw [cnt_map, colC_cnt]
  unfold cnt
  congr 1
  refine List.filter_congr fun c _ => ?_
  unfold CV.col keq
  rw [Bool.eq_iff_iff, decide_eq_true_eq, decide_eq_true_eq]
  exact ⟨fun ⟨a, b, c⟩ => ⟨a.symm, b.symm, c.symm, rfl⟩, fun ⟨a, b, c, _⟩ => ⟨a.symm, b.symm, c.symm⟩⟩
theorem many_iff (cs : List CV) : (∃ c ∈ cs, 4 < (colC c.ky cs).length) ↔ 4 < mostK (cs.map fun c => c.ky.colK) := by
  rw [mostK_iff]
  constructor
  · rintro ⟨c, hc, h⟩
    exact ⟨c.ky.colK, by rw [← col_cntK]; exact h⟩
  · rintro ⟨k, h⟩
    have hm := cntK_pos (Nat.lt_of_le_of_lt (Nat.zero_le 4) h)
    obtain ⟨c, hc, rfl⟩ := List.mem_map.1 hm
    exact ⟨c, hc, by rw [col_cntK]; exact h⟩
section
variable {f t : ByteArray} {cs : List CV}
theorem any_no {q : CV → Bool} (h : ∀ c ∈ cs, q c = false) : cs.any q = false := List.any_eq_false.2 fun c hc => by rw [h c hc]; simp
theorem any_yes {q : CV → Bool} {c : CV} (hc : c ∈ cs) (h : q c = true) : cs.any q = true := List.any_eq_true.2 ⟨c, hc, h⟩
theorem ofK_1 (h : newK f t ≠ 0) : ofK f t cs = 1 := by unfold ofK; rw [if_neg h]
theorem ofK_5 (h : newK f t = 0) {c : CV} (hc : c ∈ cs) (h1 : notR c = true) : ofK f t cs = 5 := by
  unfold ofK judgeK
  rw [if_pos h, any_yes hc h1, if_pos rfl]
theorem ofK_8 (h : newK f t = 0) (g1 : ∀ c ∈ cs, notR c = false) {c : CV} (hc : c ∈ cs) (h1 : inRows f t c.row = false) : ofK f t cs = 8 := by
  unfold ofK judgeK
  rw [if_pos h, any_no g1, if_neg (by simp), any_yes (q := fun c => !(inRows f t c.row)) hc (by rw [h1]; rfl), if_pos rfl]
theorem ofK_w (h : newK f t = 0) (g1 : ∀ c ∈ cs, notR c = false) (g2 : ∀ c ∈ cs, inRows f t c.row = true) (h1 : (∃ c ∈ cs, wrongV c = true) ∨ 1 < mostK (cs.map CV.ky)) : ofK f t cs = 1 := by
  unfold ofK judgeK
  rw [if_pos h, any_no g1, if_neg (by simp), any_no (q := fun c => !(inRows f t c.row)) (fun c hc => by rw [g2 c hc]; rfl), if_neg (by simp), if_pos]
  rcases h1 with ⟨c, hc, h1⟩ | h1
  · rw [any_yes hc h1]; rfl
  · rw [decide_eq_true h1, Bool.or_true]
theorem ofK_4 (h : newK f t = 0) (g1 : ∀ c ∈ cs, notR c = false) (g2 : ∀ c ∈ cs, inRows f t c.row = true) (g3 : ∀ c ∈ cs, wrongV c = false) (g4 : ¬ 1 < mostK (cs.map CV.ky)) (h1 : 4 < mostK (cs.map fun c => c.ky.colK)) : ofK f t cs = 4 := by
  unfold ofK judgeK
  rw [if_pos h, any_no g1, if_neg (by simp), any_no (q := fun c => !(inRows f t c.row)) (fun c hc => by rw [g2 c hc]; rfl), if_neg (by simp), any_no g3, decide_eq_false g4, if_neg (by simp), if_pos h1]
theorem ofK_9 (h : newK f t = 0) (g1 : ∀ c ∈ cs, notR c = false) (g2 : ∀ c ∈ cs, inRows f t c.row = true) (g3 : ∀ c ∈ cs, wrongV c = false) (g4 : ¬ 1 < mostK (cs.map CV.ky)) (g5 : ¬ 4 < mostK (cs.map fun c => c.ky.colK)) : ofK f t cs = if 32 < cs.length then 9 else 0 := by
  unfold ofK judgeK
  rw [if_pos h, any_no g1, if_neg (by simp), any_no (q := fun c => !(inRows f t c.row)) (fun c hc => by rw [g2 c hc]; rfl), if_neg (by simp), any_no g3, decide_eq_false g4, if_neg (by simp), if_neg g5]
end
open Go.RowKit
set_option maxRecDepth 100000 in
set_option maxHeartbeats 2000000 in
theorem text_any (w : World) (s t : ByteArray) (hs : s.size ≤ maxLen) (ht : t.size ≤ maxLen) :
    Calls Tryz.prog 39 #[.string s, .string t] w fun e w' => e = .returned (.int .i64 (cmpL (sb s) (sb t))) ∧ Below w.heap.size w w' := by
  simp only [maxLen] at hs ht
  go_enter Tryz.func39, Tryz.ntmps39
  go_wp2_with fail
  go_loopw [5] (fun i wr => ∃ k : Nat, k ≤ s.size ∧ k ≤ t.size ∧ i = .int .i64 k ∧ Below w.heap.size w wr ∧ cmpL (sb s) (sb t) = cmpL ((sb s).drop k) ((sb t).drop k)) (fun i _ => s.size - (intOf i).toNat)
  case atStart => exact ⟨0, by omega, by omega, rfl, Below.refl _ _, rfl⟩
  case round =>
    obtain ⟨k, h1, h2, rfl, B, hc⟩ := hrel
    by_cases l1 : k < s.size
    · have i1 : (k : Int) < (s.size : Int) := by omega
      by_cases l2 : k < t.size
      · have i2 : (k : Int) < (t.size : Int) := by omega
        rw [sb_at s k l1, sb_at t k l2] at hc
        obtain ⟨x, hx⟩ : ∃ x : Nat, x = s[k].toNat := ⟨_, rfl⟩
        obtain ⟨y, hy⟩ : ∃ y : Nat, y = t[k].toNat := ⟨_, rfl⟩
        rw [← hx, ← hy] at hc
        have r1 : ∀ W : World, (Instr.index 9 (.string s) (.int .i64 k)).run Tryz.prog W = .ok (.int .u8 x) W := fun W => by
          rw [run_index_string W _ s _ _ Tryz.underlying9, dif_pos ⟨by omega, i1⟩, hx]
          rfl
        have r2 : ∀ W : World, (Instr.index 9 (.string t) (.int .i64 k)).run Tryz.prog W = .ok (.int .u8 y) W := fun W => by
          rw [run_index_string W _ t _ _ Tryz.underlying9, dif_pos ⟨by omega, i2⟩, hy]
          rfl
        clear hx hy
        by_cases e : x = y
        · subst e
          have hc' : Hid (cmpL (sb s) (sb t) = cmpL ((sb s).drop (k + 1)) ((sb t).drop (k + 1))) := by
            show _ = _
            rw [hc]
            rw [cmpL_cons, if_pos rfl]
          clear hc
          go_wp2_with fail
          go_quiet (fail)
          rename Nat => q
          go_wp2
          go_roundw
          case rel => exact ⟨k + 1, by omega, by omega, by go_num, belN B q, hc'.out⟩
          case measure => simp [intOf]; omega
        · have ne : ((x : Int) == (y : Int)) = false := by simp; omega
          have nn : ((x : Int) != (y : Int)) = true := by simp; omega
          by_cases l : x < y
          · have li : (x : Int) < (y : Int) := by omega
            have hc' : Hid (cmpL (sb s) (sb t) = -1) := by
              show _ = _
              rw [hc, cmpL_cons, if_neg (by omega), if_pos li]
            clear hc
            go_wp2_with fail
            go_quiet (fail)
            rename Nat => q
            go_wp2_with fail
            go_quiet (fail)
            rename Nat => q2
            go_wp2
            go_ret
            exact ⟨by rw [hc'.out] <;> rfl, belN (belN B q) q2⟩
          · have li : ¬ (x : Int) < (y : Int) := by omega
            have hc' : Hid (cmpL (sb s) (sb t) = 1) := by
              show _ = _
              rw [hc, cmpL_cons, if_neg (by omega), if_neg li]
            clear hc
            go_wp2_with fail
            go_quiet (fail)
            rename Nat => q
            go_wp2_with fail
            go_quiet (fail)
            rename Nat => q2
            go_wp2
            go_ret
            exact ⟨by rw [hc'.out] <;> rfl, belN (belN B q) q2⟩
      · have i2 : (t.size : Int) ≤ (k : Int) := by omega
        rw [sb_at s k l1, sb_end t k (by omega)] at hc
        have hc' : Hid (cmpL (sb s) (sb t) = 1) := hc
        clear hc
        have f1 : ((s.size : Int) == (t.size : Int)) = false := by simp; omega
        have f2 : ¬ (s.size : Int) < (t.size : Int) := by omega
        go_wp2
        go_ret
        exact ⟨by rw [hc'.out] <;> rfl, B⟩
    · have i1 : (s.size : Int) ≤ (k : Int) := by omega
      rw [sb_end s k (by omega)] at hc
      by_cases l2 : k < t.size
      · rw [sb_at t k l2] at hc
        have hc' : Hid (cmpL (sb s) (sb t) = -1) := hc
        clear hc
        have f1 : ((s.size : Int) == (t.size : Int)) = false := by simp; omega
        have f2 : (s.size : Int) < (t.size : Int) := by omega
        go_wp2
        go_ret
        exact ⟨by rw [hc'.out] <;> rfl, B⟩
      · rw [sb_end t k (by omega)] at hc
        have hc' : Hid (cmpL (sb s) (sb t) = 0) := hc
        clear hc
        have f1 : ((s.size : Int) == (t.size : Int)) = true := by simp; omega
        go_wp2
        go_ret
        exact ⟨by rw [hc'.out] <;> rfl, B⟩
open Go.RowKit
theorem empty_facts (t : ByteArray) (b : Bool) (h : b = decide (t.size ≠ 0)) : (t.toList == (ByteArray.mk #[]).toList) = !b ∧ t.toList.isEmpty = !b ∧ (t.toList == []) = !b := by
  have te0 : (t.toList == (ByteArray.mk #[]).toList) = !b := by
    rw [h]
    by_cases hz : t.size = 0
    · rw [empty_of hz]; simp; rfl
    · rw [toL_ne (fun h => hz (by rw [h]; rfl))]; simp [hz]
  refine ⟨te0, by rw [toE, h]; simp, ?_⟩
  rw [← te0]
  congr 1
  simp
set_option maxHeartbeats 1000000 in
theorem rright10_any (w : World) (f t : ByteArray) (hf : f.size ≤ maxLen) (ht : t.size ≤ maxLen) :
    Calls Tryz.prog 12 #[.string f, .string t] w fun e w' => e = .returned (.bool (decide (newK f t = 0))) ∧ Below w.heap.size w w' := by
  obtain ⟨b, hb⟩ : ∃ b, b = decide (newK f t = 0) := ⟨_, rfl⟩
  rw [← hb]
  have HB : Hid (b = decide (f.size ≤ 32 ∧ t.size ≤ 32 ∧ (t.size = 0 ∨ cmpL (sb f) (sb t) < 0))) := by
    show b = _
    rw [hb]
    unfold newK
    by_cases h : f.size ≤ 32 ∧ t.size ≤ 32 ∧ (t.size = 0 ∨ cmpL (sb f) (sb t) < 0)
    · rw [if_pos h, decide_eq_true h]; rfl
    · rw [if_neg h, decide_eq_false h]; rfl
  clear hb
  have CT := text_any w f t hf ht
  obtain ⟨c, hc⟩ : ∃ c, c = cmpL (sb f) (sb t) := ⟨_, rfl⟩
  rw [← hc] at CT HB
  clear hc
  by_cases g1 : f.size ≤ 32
  case neg =>
    have i1 : ¬ (f.size : Int) ≤ 32 := by omega
    obtain rfl : b = false := HB.out.trans (decide_eq_false fun h => g1 h.1)
    clear CT
    go_enter Tryz.func12, Tryz.ntmps12
    go_wp2
    go_ret
    exact ⟨rfl, Below.refl _ _⟩
  have i1 : (f.size : Int) ≤ 32 := by omega
  by_cases g2 : t.size ≤ 32
  case neg =>
    have i2 : ¬ (t.size : Int) ≤ 32 := by omega
    obtain rfl : b = false := HB.out.trans (decide_eq_false fun h => g2 h.2.1)
    clear CT
    go_enter Tryz.func12, Tryz.ntmps12
    go_wp2
    go_ret
    exact ⟨rfl, Below.refl _ _⟩
  have i2 : (t.size : Int) ≤ 32 := by omega
  obtain ⟨tb, htb⟩ : ∃ b, b = decide (t.size ≠ 0) := ⟨_, rfl⟩
  obtain ⟨te0, te1, te2⟩ := empty_facts t tb htb
  cases tb with
  | false =>
    have hz : t.size = 0 := by
      have := of_decide_eq_false htb.symm
      omega
    obtain rfl : b = true := HB.out.trans (decide_eq_true ⟨g1, g2, .inl hz⟩)
    clear CT htb
    go_enter Tryz.func12, Tryz.ntmps12
    go_wp2
    go_ret
    exact ⟨rfl, Below.refl _ _⟩
  | true =>
    have hz : t.size ≠ 0 := of_decide_eq_true htb.symm
    clear htb
    by_cases g3 : c < 0
    · obtain rfl : b = true := HB.out.trans (decide_eq_true ⟨g1, g2, .inr g3⟩)
      clear HB
      go_enter Tryz.func12, Tryz.ntmps12
      go_wp2_with fail
      refine CT.mono ?_
      rintro e w2 ⟨rfl, C2⟩
      clear CT
      go_wp2
      go_ret
      exact ⟨rfl, C2⟩
    · obtain rfl : b = false := HB.out.trans (decide_eq_false fun h => h.2.2.elim hz g3)
      have dg : Hid (decide (c < 0) = false) := decide_eq_false g3
      clear HB g3
      go_enter Tryz.func12, Tryz.ntmps12
      go_wp2_with fail
      refine CT.mono ?_
      rintro e w2 ⟨rfl, C2⟩
      clear CT
      go_wp2
      go_ret
      rw [dg.out]
      exact ⟨rfl, C2⟩
set_option maxHeartbeats 1000000 in
theorem rinside10_any (w : World) (f t r : ByteArray) (ao : Option Addr) (n cap : Nat) (hf : f.size ≤ maxLen) (ht : t.size ≤ maxLen) (hr : r.size ≤ maxLen) :
    Calls Tryz.prog 61 #[.agg #[.string f, .string t, .slice ao n cap], .string r] w fun e w' => e = .returned (.bool (inRows f t r)) ∧ Below w.heap.size w w' := by
  obtain ⟨b, hb⟩ : ∃ b, b = inRows f t r := ⟨_, rfl⟩
  rw [← hb]
  have HB : Hid (b = decide (0 ≤ cmpL (sb r) (sb f) ∧ (t.size = 0 ∨ cmpL (sb r) (sb t) < 0))) := by
    show b = _
    rw [hb]
    unfold inRows
    simp only [Int.not_lt]
  clear hb
  obtain ⟨W1, hW1⟩ : ∃ V, V = w.alloc (.cells #[.string f, .string t, .slice ao n cap] 32) := ⟨_, rfl⟩
  have C1 : Below w.heap.size w W1 := by rw [hW1]; exact (Below.refl _ _).alloc (Nat.le_refl _) _
  have A1 : Arr W1 w.heap.size 32 [.string f, .string t, .slice ao n cap] := by rw [hW1]; exact heap_alloc_new w _
  have CT := text_any W1 r f hr hf
  have CU := fun V => text_any V r t hr ht
  obtain ⟨c, hc⟩ : ∃ c, c = cmpL (sb r) (sb f) := ⟨_, rfl⟩
  obtain ⟨d, hd⟩ : ∃ c, c = cmpL (sb r) (sb t) := ⟨_, rfl⟩
  rw [← hc] at CT HB
  rw [← hd] at CU HB
  clear hc hd
  obtain ⟨tb, htb⟩ : ∃ b, b = decide (t.size ≠ 0) := ⟨_, rfl⟩
  obtain ⟨te0, te1, te2⟩ := empty_facts t tb htb
  go_enter Tryz.func61, Tryz.ntmps61
  go_wp2_with fail
  rw [← hW1]
  clear hW1
  refine CT.mono ?_
  rintro e w2 ⟨rfl, C2⟩
  have A2 := arr_below A1 C2
  have c1 : w2.cell? ⟨w.heap.size, 1, none⟩ = some (.string t) := A2.cell 1
  have B2 := C1.trans (C2.mono C1.size)
  clear CT A1 A2
  by_cases g1 : c < 0
  · have i1 : ¬ (0 : Int) ≤ c := by omega
    obtain rfl : b = false := HB.out.trans (decide_eq_false fun h => i1 h.1)
    clear CU HB
    go_wp2
    go_ret
    exact ⟨rfl, B2⟩
  have i1 : (0 : Int) ≤ c := by omega
  cases tb with
  | false =>
    have hz : t.size = 0 := by
      have := of_decide_eq_false htb.symm
      omega
    obtain rfl : b = true := HB.out.trans (decide_eq_true ⟨i1, .inl hz⟩)
    clear CU htb HB
    go_wp2
    go_ret
    exact ⟨rfl, B2⟩
  | true =>
    have hz : t.size ≠ 0 := of_decide_eq_true htb.symm
    clear htb
    have CU := CU w2
    by_cases g3 : d < 0
    · obtain rfl : b = true := HB.out.trans (decide_eq_true ⟨i1, .inr g3⟩)
      clear HB
      go_wp2_with fail
      refine CU.mono ?_
      rintro e w3 ⟨rfl, C3⟩
      clear CU
      go_wp2
      go_ret
      exact ⟨rfl, B2.trans (C3.mono B2.size)⟩
    · obtain rfl : b = false := HB.out.trans (decide_eq_false fun h => h.2.elim hz g3)
      have dg : Hid (decide (d < 0) = false) := decide_eq_false g3
      clear HB g3
      go_wp2_with fail
      refine CU.mono ?_
      rintro e w3 ⟨rfl, C3⟩
      clear CU
      go_wp2
      go_ret
      rw [dg.out]
      exact ⟨rfl, B2.trans (C3.mono B2.size)⟩
open Go.RowKit
set_option maxHeartbeats 400000 in
theorem all_tells (w : World) : Tells w 50 #[] fun _ => true := fun W c hb _ => by
  show Calls Tryz.prog 50 #[.agg #[.string c.row, .string c.fam, .string c.qual, .int .u64 c.time, .slice c.va.ao c.va.n c.va.cap, .bool c.gone]] W _
  have C1 : Below W.heap.size W (W.alloc (.cells #[.string c.row, .string c.fam, .string c.qual, .int .u64 c.time, .slice c.va.ao c.va.n c.va.cap, .bool c.gone] 69)) := (Below.refl _ _).alloc (Nat.le_refl _) _
  go_enter Tryz.func50, Tryz.ntmps50
  go_wp2
  go_ret
  exact ⟨rfl, C1⟩
open Go.RowKit
theorem size6 (w : World) : (sizeOf 69).run Tryz.prog w = .ok 6 w := by
  have hI := cellInfo
  cases hi : Tryz.prog.info? 69 with
  | none => rw [hi] at hI; simp at hI
  | some i =>
    rw [hi] at hI
    simp only [Option.map_some, Option.some.injEq, Prod.mk.injEq] at hI
    simp [sizeOf, typeInfo, hi, hI.2.1]
theorem run_uptoC {W : World} {ao : Option Addr} {n cap i : Nat} (h2 : i ≤ cap) :
    (Instr.sliceAt 30 (.slice ao n cap) none (some (.int .i64 (i : Nat))) none).run Tryz.prog W = .ok (.slice ao i cap) W := by
  have ht := Tryz.underlying30
  have he : Tryz.prog.elem 30 = 69 := by simp [Program.elem, ht]
  rw [run_sliceAt_slice W 30 _ _ _ _ (by rw [he]; exact ht), run_slice_h W 30 ao n cap (by rw [he]; exact ht) .i64 i (by omega) (by omega), he, size6]
  simp only [Result.andThen_ok, sliced, Int.toNat_natCast, Nat.zero_mul, Nat.sub_zero]
  cases ao with
  | none => simp
  | some a => simp [Addr.add_nought]
theorem CL.front {w : World} {ao : Option Addr} {n cap : Nat} {l : List CA} (h : CL w ao n cap l) (i : Nat) (hi : i ≤ n) : CL w ao i cap (l.take i) := by
  have h1 := h.len
  refine ⟨by simp; omega, Nat.le_trans hi h.le, h.mx, fun hn => ?_, fun a ha j hj k v hv => ?_, fun c hc => h.ok c (List.mem_of_mem_take hc)⟩
  · have := h.nil hn
    omega
  · simp only [List.length_take] at hj
    rw [List.getElem_take] at hv
    exact h.cell a ha j (by omega) k v hv
set_option maxHeartbeats 1000000 in
set_option maxRecDepth 100000 in
theorem cells_st (w : World) (p : Nat) (f t : ByteArray) (cs : List CV) (hT : TB w p f t cs) (hs : CSrt cs) (hg : CGood cs) (hf : f.size ≤ 32) (ht : t.size ≤ 32) (hr : ∀ c ∈ cs, inRows f t c.row = true) (hn : cs.length ≤ 1000) :
    Calls Tryz.prog 17 #[.pointer (some ⟨p, 0, none⟩)] w (AmPost w cs) := by
  have hcs : (cs.filter fun c => inRows f t c.row && true) = cs := List.filter_eq_self.2 fun c hc => by
    rw [Bool.and_true]
    exact hr c hc
  have HA : Hid (∀ V, Below w.heap.size w V → Calls Tryz.prog 49 #[.pointer (some ⟨p, 0, none⟩), .string f, .string t, .func (.func 50) #[] #[]] V fun e w' => ∃ ao n cap l, e = .returned (.slice ao n cap) ∧ (CL w' ao n cap l ∧ (∀ c ∈ l, SlT w' ⟨c.va.ao, c.va.n, c.va.cap, c.va.xs⟩) ∧ l.map CA.c = cs) ∧ Below V.heap.size V w') := fun V hV => by
    have := among_any V p f t cs f t 50 #[] (fun _ => true) (enters_of Tryz.func50 (by kernel_rfl) rfl) (hT.below hV) hs hg hf ht (by omega) (all_tells V)
    rw [hcs] at this
    refine this.mono ?_
    rintro e w2 ⟨ao, n, cap, l, rfl, h1, h2, h3, C2⟩
    exact ⟨ao, n, cap, l, rfl, ⟨h1, h2, h3⟩, C2⟩
  obtain ⟨u, A0, -⟩ := hT
  have c0 : w.cell? ⟨p, 0, none⟩ = some (.string f) := Arr.cell A0 0
  have c1 : w.cell? ⟨p, 1, none⟩ = some (.string t) := Arr.cell A0 1
  clear hcs A0 hs hg hr
  go_enter Tryz.func17, Tryz.ntmps17
  go_wp2
  have zHS : Hid (∀ V, Below w.heap.size w V → V.cell? ⟨p, 0, none⟩ = some (.string f) ∧ V.cell? ⟨p, 1, none⟩ = some (.string t)) := fun V hV => ⟨(hV.cell (World.block_lt_of_cell? _ _ c0)).trans c0, (hV.cell (World.block_lt_of_cell? _ _ c1)).trans c1⟩
  have zE0 : Below w.heap.size w w.drew := (Below.refl _ _).drew
  refine wp_region_noPanic ?_
  refine wp_region_held_drew (S := fun V => V.cell? ⟨p, 0, none⟩ = some (.string f) ∧ V.cell? ⟨p, 1, none⟩ = some (.string t)) (by kernel_rfl) (zHS.out _ zE0) (fun zH0 => ?_)
  obtain ⟨zv0, hv0⟩ : ∃ v, v = w.drew := ⟨_, rfl⟩
  rw [← hv0] at zH0 zE0 ⊢
  clear hv0
  refine hr_take_w 0 (some 5) (.pointer (some ⟨p, 0, none⟩)) rfl rfl (by kernel_rfl) (by kernel_rfl) (by kernel_rfl) rfl (fun W hW => by obtain ⟨h0, h1⟩ := hW; go_simp) zH0 ?_
  simp only [FL]
  refine hr_take_w 1 (some 6) (.pointer (some ⟨p, 0, none⟩)) rfl rfl (by kernel_rfl) (by kernel_rfl) (by kernel_rfl) rfl (fun W hW => by obtain ⟨h0, h1⟩ := hW; go_simp) zH0 ?_
  simp only [FL]
  refine hr_take_w 2 (some 7) (.pointer (some ⟨p, 0, none⟩)) rfl rfl (by kernel_rfl) (by kernel_rfl) (by kernel_rfl) rfl (fun W hW => by obtain ⟨h0, h1⟩ := hW; go_simp) zH0 ?_
  simp only [FL]
  refine hr_take_w 3 (some 8) (.pointer (some ⟨p, 0, none⟩)) rfl rfl (by kernel_rfl) (by kernel_rfl) (by kernel_rfl) rfl (fun W hW => by obtain ⟨h0, h1⟩ := hW; go_simp) zH0 ?_
  simp only [FL]
  refine hr_take_w 4 (some 9) (.string f) rfl rfl (by kernel_rfl) (by kernel_rfl) (by kernel_rfl) rfl (fun W hW => by obtain ⟨h0, h1⟩ := hW; go_simp) zH0 ?_
  simp only [FL]
  refine hr_take_w 5 (some 10) (.pointer (some ⟨p, 0, none⟩)) rfl rfl (by kernel_rfl) (by kernel_rfl) (by kernel_rfl) rfl (fun W hW => by obtain ⟨h0, h1⟩ := hW; go_simp) zH0 ?_
  simp only [FL]
  refine hr_take_w 6 (some 11) (.pointer (some ⟨p, 0, none⟩)) rfl rfl (by kernel_rfl) (by kernel_rfl) (by kernel_rfl) rfl (fun W hW => by obtain ⟨h0, h1⟩ := hW; go_simp) zH0 ?_
  simp only [FL]
  refine hr_take_w 7 (some 12) (.pointer (some ⟨p, 1, none⟩)) rfl rfl (by kernel_rfl) (by kernel_rfl) (by kernel_rfl) rfl (fun W hW => by obtain ⟨h0, h1⟩ := hW; go_simp) zH0 ?_
  simp only [FL]
  refine hr_take_w 8 (some 13) (.string t) rfl rfl (by kernel_rfl) (by kernel_rfl) (by kernel_rfl) rfl (fun W hW => by obtain ⟨h0, h1⟩ := hW; go_simp) zH0 ?_
  simp only [FL]
  refine hr_call_w 9 (some 14) 49 #[.pointer (some ⟨p, 0, none⟩), .string f, .string t, .func (.func 50) #[] #[]] rfl rfl (by kernel_rfl) rfl (by go_simp) (fun v w' => ∃ ao n cap l, v = .slice ao n cap ∧ (CL w' ao n cap l ∧ (∀ c ∈ l, SlT w' ⟨c.va.ao, c.va.n, c.va.cap, c.va.xs⟩) ∧ l.map CA.c = cs) ∧ Below zv0.heap.size zv0 w') ((HA.out zv0 zE0).mono (by
    rintro e w' ⟨ao, n, cap, l, rfl, F, C⟩
    exact ⟨_, rfl, ao, n, cap, l, rfl, F, C⟩)) ?_
  rintro v zv1 ⟨ao, n, cap, l, rfl, zF0, zC0⟩
  have zE1 := zE0.trans (zC0.mono zE0.size)
  have zH1 := zHS.out zv1 zE1
  refine ⟨zH1, ?_⟩
  simp only [FL]
  refine hr_take_w 10 (some 2) (.slice ao n cap) rfl rfl (by kernel_rfl) (by kernel_rfl) (by kernel_rfl) rfl (fun W hW => by obtain ⟨h0, h1⟩ := hW; go_simp) zH1 ?_
  simp only [FL]
  refine wpAnyH_done (by kernel_rfl) ?_ _
  refine NoPanic.normal ?_
  go_wp2
  go_ret
  exact ⟨ao, n, cap, l, rfl, zF0.1, zF0.2.1, zF0.2.2, zE1⟩
open Go.RowKit
structure CNew (w0 W : World) (base : Nat) (v : Value) (l : List CA) : Prop where
  row : W.ownsRow base 69 6 v l.length (cellsC l)
  ok : ∀ c ∈ l, c.ok w0
theorem CNew.nil (w0 W : World) (base : Nat) : CNew w0 W base (.slice none 0 0) [] := ⟨World.ownsRow_nil _ _ _ _, fun _ h => by simp at h⟩
theorem CNew.below {w0 W W' : World} {base : Nat} {v : Value} {l : List CA} (h : CNew w0 W base v l) (hb : Below W.heap.size W W') : CNew w0 W' base v l := ⟨own_below h.row hb, h.ok⟩
theorem CNew.cl {w0 W : World} {base : Nat} {v : Value} {l : List CA} (h : CNew w0 W base v l) (hb : Below w0.heap.size w0 W) : ∃ ao cap, v = .slice ao l.length cap ∧ CL W ao l.length cap l := CL.own h.row (fun c hc => (h.ok c hc).below hb)
theorem CNew.slice {w0 W : World} {base : Nat} {v : Value} {l : List CA} (h : CNew w0 W base v l) : ∃ ao n cap, v = .slice ao n cap := by
  rcases h.row.2 with ⟨rfl, e⟩ | ⟨g, cap, cur, rfl, _⟩
  · exact ⟨none, 0, 0, rfl⟩
  · exact ⟨_, _, cap, rfl⟩
theorem cellsC_app (l m : List CA) : cellsC (l ++ m) = cellsC l ++ cellsC m := by simp [cellsC]
theorem cellsC_one (l : List CA) : ∀ u ∈ cellsC l, u.oneCell' = true := by
  intro u hu
  unfold cellsC at hu
  obtain ⟨cs, h1, h2⟩ := List.mem_flatten.1 hu
  obtain ⟨c, -, rfl⟩ := List.mem_map.1 h1
  exact c_one c u h2
theorem wpList_appN {w0 w : World} {ops : Array Oper} {rest : List Oper} {o : Oper} {a : Act} {Q : Exit → Act → World → Prop} (hgd : o.guard = none) (s x : Operand)
    (ho : o.op = .call { callee := .builtin .append, args := #[s, x], argTypes := #[30, 30] })
    (base : Nat) (v : Value) (l : List CA) (hs : a.eval s = v) (hown : CNew w0 w base v l)
    (g cp : Nat) (c : CA) (hx : a.eval x = .slice (some ⟨g, 0, none⟩) 1 cp) (hc : w.heap[g]? = some (.cells #[.string c.row, .string c.fam, .string c.qual, .int .u64 c.time, .slice c.va.ao c.va.n c.va.cap, .bool c.gone] 69)) (hok : c.ok w0) (hn : l.length ≤ 1000000) (hbase : base ≤ w.heap.size)
    (h : ∀ v' w', CNew w0 w' base v' (l ++ [c]) → Below base w w' → wpList Tryz.prog ops Q rest (a.put o.dst v') w') : wpList Tryz.prog ops Q (o :: rest) a w := by
  obtain ⟨i0, hi, hz0, hz1, hz2⟩ := info_parts cellInfo
  refine wpList_append_own w hgd s x 30 ho base 69 i0 _ 6 88 Tryz.underlying30 hi hz0 hz1 hz2 rfl (by decide) v l.length (cellsC l) hs hown.row ⟨g, 0, none⟩ 1 cp c.cells hx rfl
    (fun j u hu => by
      rw [Addr.add_lit, Nat.zero_add, cell_of_row w g j _ _ _ hc]
      simpa [CA.cells] using hu) (c_one c) (by unfold maxLen; omega) (by omega) hbase ?_
  intro v' w' h1 h2 _
  have e : cellsC (l ++ [c]) = cellsC l ++ c.cells := by simp [cellsC]
  rw [← e] at h1
  refine h v' w' ⟨by rw [List.length_append]; exact h1, fun d hd => ?_⟩ ((Below.refl _ w).grown h2 hbase (fun k hk => (hown.row.lt k hk).1))
  rcases List.mem_append.1 hd with hd | hd
  · exact hown.ok d hd
  · rw [List.mem_singleton.1 hd]; exact hok
theorem run_appCs {w : World} {base : Nat} {v : Value} {ps qs : List CA} (ty : TypeId) (h : w.ownsRow base 69 6 v ps.length (cellsC ps)) (hb : base ≤ w.heap.size) {bo : Option Addr} {m c : Nat} (hx : CL w bo m c qs) (hn : ps.length + m ≤ 1000000) :
    ∃ v' w', (Builtin.append_ #[30, 30] ty #[v, .slice bo m c]).run Tryz.prog w = .ok v' w' ∧ w'.ownsRow base 69 6 v' (ps ++ qs).length (cellsC (ps ++ qs)) ∧ Below base w w' := by
  obtain ⟨i0, hi, hz0, hz1, hz2⟩ := info_parts cellInfo
  have hlen := hx.len
  by_cases hm : m = 0
  · subst hm
    obtain rfl : qs = [] := List.eq_nil_of_length_eq_zero hlen
    have hv : ∃ ao cap, v = .slice ao ps.length cap ∧ ps.length ≤ cap := by
      rcases h.2 with ⟨rfl, e⟩ | ⟨g, cap, cur, rfl, hg, hh, hle, _⟩
      · rw [e]
        exact ⟨none, 0, rfl, Nat.le_refl _⟩
      · exact ⟨_, cap, rfl, hle⟩
    obtain ⟨ao, cap, rfl, hle⟩ := hv
    refine ⟨_, w, run_append_nothing w 30 30 ty 69 i0 Tryz.underlying30 hi ao ps.length cap hle _ (src_none Tryz.underlying30), ?_, Below.refl _ _⟩
    simpa using h
  · obtain ⟨ad, rfl⟩ : ∃ ad, bo = some ad := by
      cases bo with
      | none => have := (hx.nil rfl).1; omega
      | some ad => exact ⟨ad, rfl⟩
    obtain ⟨v', w', h1, h2, h3, -⟩ := run_append_own (P := Tryz.prog) w base 30 ty 69 i0 _ 6 88 Tryz.underlying30 hi hz0 hz1 hz2 rfl (by decide) v ps.length (cellsC ps) h ad m c (cellsC qs) (by unfold cellsC; rw [flat_len CA.cells 6 (fun _ => rfl), hlen])
      (fun j u hu => by
        have hj := (List.getElem?_eq_some_iff.1 hu).1
        unfold cellsC at hj
        rw [flat_len CA.cells 6 (fun _ => rfl)] at hj
        have hq : j / 6 < qs.length := by omega
        have ej : j / 6 * 6 + j % 6 = j := by omega
        have hg := flat_get CA.cells 6 (fun _ => rfl) qs (j / 6) (j % 6) hq (by omega)
        rw [ej] at hg
        have := hx.cell ad rfl (j / 6) hq (j % 6) u (hg.symm.trans hu)
        rw [ej] at this
        exact this) (cellsC_one qs) (by unfold maxLen; omega) (by omega) hb
    refine ⟨v', w', h1, ?_, (Below.refl _ w).grown h3 hb (fun k hk => (h.lt k hk).1)⟩
    rw [cellsC_app, List.length_append, hlen]
    exact h2
theorem own_slice3 {W : World} {base n : Nat} {e : TypeId} {size : Nat} {v : Value} {xs : List Value} (h : W.ownsRow base e size v n xs) : ∃ ao m cap, v = .slice ao m cap := by
  rcases h.2 with ⟨rfl, rfl⟩ | ⟨g, cap, cur, rfl, _⟩
  · exact ⟨none, 0, 0, rfl⟩
  · exact ⟨_, _, cap, rfl⟩
theorem run_appC0 {w : World} {base g : Nat} {qs : List CA} (ty : TypeId) (hb : base ≤ g) (hg : Arr w g 69 []) {bo : Option Addr} {m c : Nat} (hx : CL w bo m c qs) (hn : m ≤ 1000000) (hbase : base ≤ w.heap.size) :
    ∃ v' w', (Builtin.append_ #[30, 30] ty #[.slice (some ⟨g, 0, none⟩) 0 0, .slice bo m c]).run Tryz.prog w = .ok v' w' ∧ w'.ownsRow base 69 6 v' qs.length (cellsC qs) ∧ Below w.heap.size w w' := by
  have hlen := hx.len
  have O : w.ownsRow base 69 6 (.slice (some ⟨g, 0, none⟩) 0 0) ([] : List CA).length (cellsC []) := ⟨rfl, .inr ⟨g, 0, #[], rfl, hb, hg, Nat.le_refl _, Nat.zero_le _, rfl, rfl⟩⟩
  obtain ⟨i0, hi, hz0, hz1, hz2⟩ := info_parts cellInfo
  by_cases hm : m = 0
  · subst hm
    obtain rfl : qs = [] := List.eq_nil_of_length_eq_zero hlen
    exact ⟨_, w, run_append_nothing w 30 30 ty 69 i0 Tryz.underlying30 hi _ 0 0 (Nat.le_refl _) _ (src_none Tryz.underlying30), O, Below.refl _ _⟩
  · obtain ⟨ad, rfl⟩ : ∃ ad, bo = some ad := by
      cases bo with
      | none => have := (hx.nil rfl).1; omega
      | some ad => exact ⟨ad, rfl⟩
    obtain ⟨v', w', hr, h1, -⟩ := run_appCs (ps := []) ty O hbase hx (by simp; omega)
    have hr2 := run_append_grow (P := Tryz.prog) w 30 ty 69 i0 _ Tryz.underlying30 hi hz0 ⟨g, 0, none⟩ 0 0 [] (by simp) (fun j v h => by simp at h) ad m c (cellsC qs) (by unfold cellsC; rw [flat_len CA.cells 6 (fun _ => rfl), hlen, hz1])
      (fun j u hu => by
        have hj := (List.getElem?_eq_some_iff.1 hu).1
        unfold cellsC at hj
        rw [flat_len CA.cells 6 (fun _ => rfl)] at hj
        have hq : j / 6 < qs.length := by omega
        have ej : j / 6 * 6 + j % 6 = j := by omega
        have hg := flat_get CA.cells 6 (fun _ => rfl) qs (j / 6) (j % 6) hq (by omega)
        rw [ej] at hg
        have := hx.cell ad rfl (j / 6) hq (j % 6) u (hg.symm.trans hu)
        rw [ej] at this
        exact this) (by omega) (by omega) (by
        rw [hz2]
        exact growslice_fits (by omega) (by omega))
    rw [hr] at hr2
    simp only [Result.ok.injEq] at hr2
    obtain ⟨rfl, rfl⟩ := hr2
    refine ⟨_, _, hr, h1, ?_⟩
    exact (Below.refl _ w).drew.alloc (by simp) _
theorem run_appN {w0 w : World} {base : Nat} {v : Value} {l : List CA} (ty : TypeId) (hown : CNew w0 w base v l) {g cp : Nat} {c : CA} (hc : Arr w g 69 [.string c.row, .string c.fam, .string c.qual, .int .u64 c.time, .slice c.va.ao c.va.n c.va.cap, .bool c.gone]) (hok : c.ok w0) (hn : l.length ≤ 1000000) (hbase : base ≤ w.heap.size) :
    ∃ v' w', (Builtin.append_ #[30, 30] ty #[v, .slice (some ⟨g, 0, none⟩) 1 cp]).run Tryz.prog w = .ok v' w' ∧ CNew w0 w' base v' (l ++ [c]) ∧ Below base w w' := by
  obtain ⟨i0, hi, hz0, hz1, hz2⟩ := info_parts cellInfo
  obtain ⟨v', w', h1, h2, h3, -⟩ := run_append_own (P := Tryz.prog) w base 30 ty 69 i0 _ 6 88 Tryz.underlying30 hi hz0 hz1 hz2 rfl (by decide) v l.length (cellsC l) hown.row ⟨g, 0, none⟩ 1 cp c.cells rfl
    (fun j u hu => by
      rw [Addr.add_lit, Nat.zero_add, Arr.cell hc]
      simpa [CA.cells] using hu) (c_one c) (by unfold maxLen; omega) (by omega) hbase
  refine ⟨v', w', h1, ⟨?_, fun d hd => ?_⟩, (Below.refl _ w).grown h3 hbase (fun k hk => (hown.row.lt k hk).1)⟩
  · have e : cellsC (l ++ [c]) = cellsC l ++ c.cells := by simp [cellsC]
    rw [e, List.length_append]
    exact h2
  · rcases List.mem_append.1 hd with hd | hd
    · exact hown.ok d hd
    · rw [List.mem_singleton.1 hd]; exact hok
theorem run_appNs {w0 w : World} {base : Nat} {v : Value} {l qs : List CA} (ty : TypeId) (hown : CNew w0 w base v l) {bo : Option Addr} {m c : Nat} (hx : CL w bo m c qs) (hok : ∀ c ∈ qs, c.ok w0) (hn : l.length + m ≤ 1000000) (hbase : base ≤ w.heap.size) :
    ∃ v' w', (Builtin.append_ #[30, 30] ty #[v, .slice bo m c]).run Tryz.prog w = .ok v' w' ∧ CNew w0 w' base v' (l ++ qs) ∧ Below base w w' := by
  obtain ⟨v', w', hr, h1, h2⟩ := run_appCs (w := w) ty hown.row hbase hx hn
  refine ⟨v', w', hr, ⟨h1, fun d hd => ?_⟩, h2⟩
  rcases List.mem_append.1 hd with hd | hd
  · exact hown.ok d hd
  · exact hok d hd
def bk6 (ao : Option Addr) (cap j : Nat) : Option Addr := if cap = j then ao else ao.map (·.add (j * 6))
theorem run_backC {W : World} {ao : Option Addr} {n cap j : Nat} (h1 : j ≤ n) :
    (Instr.sliceAt 30 (.slice ao n cap) (some (.int .i64 (j : Nat))) none none).run Tryz.prog W = .ok (.slice (bk6 ao cap j) (n - j) (cap - j)) W := by
  have ht := Tryz.underlying30
  have he : Tryz.prog.elem 30 = 69 := by simp [Program.elem, ht]
  rw [run_sliceAt_slice W 30 _ _ _ _ (by rw [he]; exact ht), run_slice_l W 30 ao n cap (by rw [he]; exact ht) .i64 j (by omega) (by omega), he, size6]
  simp only [Result.andThen_ok, sliced, Int.toNat_natCast, bk6]
theorem CL.from {w : World} {ao : Option Addr} {n cap : Nat} {l : List CA} (h : CL w ao n cap l) (j : Nat) (hj : j ≤ n) : CL w (bk6 ao cap j) (n - j) (cap - j) (l.drop j) := by
  have h1 := h.len
  have h2 := h.mx
  have h3 := h.le
  refine ⟨by simp; omega, by omega, by omega, fun hn => ?_, fun b hb i hi k v hv => ?_, fun q hq => h.ok q (List.mem_of_mem_drop hq)⟩
  · unfold bk6 at hn
    by_cases hc : cap = j
    · omega
    · rw [if_neg hc] at hn
      have := h.nil (by simpa using hn)
      omega
  · simp only [List.length_drop] at hi
    have hc : cap ≠ j := by omega
    unfold bk6 at hb
    rw [if_neg hc] at hb
    cases ao with
    | none => simp at hb
    | some a =>
      have hb' : a.add (j * 6) = b := by simpa using hb
      rw [List.getElem_drop] at hv
      have := h.cell a rfl (j + i) (by omega) k v hv
      rw [← hb', Addr.add_add]
      have e : j * 6 + (i * 6 + k) = (j + i) * 6 + k := by omega
      rw [e]
      exact this
theorem bk6_some {b off cap k : Nat} (hk : k < cap) : bk6 (some ⟨b, off, none⟩) cap k = some ⟨b, off + k * 6, none⟩ := by
  unfold bk6
  rw [if_neg (by omega)]
  simp only [Option.map_some, Addr.add_lit]
def LsPost (w : World) (cs : List CV) (e : Ending) (w' : World) : Prop := ∃ ao n cap l, e = .returned (.slice ao n cap) ∧ CL w' ao n cap l ∧ l.map CA.c = cs ∧ Below w.heap.size w w'
open Go.RowKit
def keyB (a b : KA) : Bool := decide (a.row = b.row ∧ a.fam = b.fam ∧ a.qual = b.qual ∧ a.time = b.time)
theorem toL_iff (a b : ByteArray) : a.toList = b.toList ↔ a = b := by
  constructor
  · intro h
    by_cases e : a = b
    · exact e
    · have := toL_ne e
      rw [h] at this
      simp at this
  · intro h; rw [h]
theorem key_ifs (a b : KA) (x y : Bool) (W : World) : (if a.row.toList = b.row.toList then if a.fam.toList = b.fam.toList then if a.qual.toList = b.qual.toList then if (a.time : Int) = (b.time : Int) then Result.ok (Next.value (Value.bool x)) W else Result.ok (Next.value (Value.bool y)) W else Result.ok (Next.value (Value.bool y)) W else Result.ok (Next.value (Value.bool y)) W else Result.ok (Next.value (Value.bool y)) W) = Result.ok (Next.value (Value.bool (if keyB a b = true then x else y))) W := by
  by_cases e1 : a.row = b.row
  · by_cases e2 : a.fam = b.fam
    · by_cases e3 : a.qual = b.qual
      · by_cases e4 : a.time = b.time
        · have hv : keyB a b = true := decide_eq_true ⟨e1, e2, e3, e4⟩
          rw [hv, if_pos ((toL_iff _ _).2 e1), if_pos ((toL_iff _ _).2 e2), if_pos ((toL_iff _ _).2 e3), if_pos (by omega)]
          rfl
        · have hv : keyB a b = false := decide_eq_false fun h => e4 h.2.2.2
          rw [hv, if_pos ((toL_iff _ _).2 e1), if_pos ((toL_iff _ _).2 e2), if_pos ((toL_iff _ _).2 e3), if_neg (by omega)]
          rfl
      · have hv : keyB a b = false := decide_eq_false fun h => e3 h.2.2.1
        rw [hv, if_pos ((toL_iff _ _).2 e1), if_pos ((toL_iff _ _).2 e2), if_neg (fun h => e3 ((toL_iff _ _).1 h))]
        rfl
    · have hv : keyB a b = false := decide_eq_false fun h => e2 h.2.1
      rw [hv, if_pos ((toL_iff _ _).2 e1), if_neg (fun h => e2 ((toL_iff _ _).1 h))]
      rfl
  · have hv : keyB a b = false := decide_eq_false fun h => e1 h.1
    rw [hv, if_neg (fun h => e1 ((toL_iff _ _).1 h))]
    rfl
theorem if_yes (b : Bool) : (if b = true then true else false) = b := by cases b <;> rfl
open Go.RowKit
theorem CSrt.pw {l : List CV} (h : CSrt l) : l.Pairwise (fun a b => cmpL (keyL a.kv) (keyL b.kv) < 0) := by
  unfold CSrt Srt at h
  rw [List.pairwise_map] at h
  exact h
theorem CSrt.sub {l m : List CV} (h : CSrt l) (hm : m.Sublist l) : CSrt m := by
  unfold CSrt Srt at h ⊢
  exact h.sublist (hm.map itm)
theorem ccut_parts {l : List CV} {k : Nat} {q : KV} (h1 : ∀ x ∈ l.take k, cmpL (keyL x.kv) (keyL q) < 0) (h2 : ∀ x ∈ l.drop k, ¬ cmpL (keyL x.kv) (keyL q) < 0) : cLo q l = l.take k ∧ cHi q l = (l.drop k).filter fun x => decide (cmpL (keyL q) (keyL x.kv) < 0) := by
  have e : l = l.take k ++ l.drop k := (List.take_append_drop k l).symm
  constructor
  · unfold cLo
    conv => lhs; rw [e]
    rw [List.filter_append, List.filter_eq_self.2 fun x hx => decide_eq_true (h1 x hx), List.filter_eq_nil_iff.2 fun x hx => by simpa using h2 x hx, List.append_nil]
  · unfold cHi
    conv => lhs; rw [e]
    rw [List.filter_append, List.filter_eq_nil_iff.2 fun x hx => by simpa using cmpL_asym (h1 x hx), List.nil_append]
theorem ccut_drop {l : List CV} (hs : CSrt l) {k : Nat} {q : KV} (hk : ∀ x r, l.drop k = x :: r → ¬ cmpL (keyL x.kv) (keyL q) < 0) : ∀ x ∈ l.drop k, ¬ cmpL (keyL x.kv) (keyL q) < 0 := by
  intro x hx
  cases hd : l.drop k with
  | nil => rw [hd] at hx; simp at hx
  | cons y r =>
    rw [hd] at hx
    have hy := hk y r hd
    have hsd : CSrt (y :: r) := by rw [← hd]; exact hs.sub (List.drop_sublist k l)
    rcases List.mem_cons.1 hx with rfl | hx
    · exact hy
    · intro hlt
      exact hy (cmpL_lt_trans _ _ _ ((List.pairwise_cons.1 hsd.pw).1 x hx) hlt)
theorem cput_same {l : List CV} (hs : CSrt l) {k : Nat} {c y : CV} {r : List CV} (h1 : ∀ z ∈ l.take k, cmpL (keyL z.kv) (keyL c.kv) < 0) (hd : l.drop k = y :: r) (hy : keyL y.kv = keyL c.kv) : l.take k ++ c :: r = cIns l c := by
  have hsd : CSrt (y :: r) := by rw [← hd]; exact hs.sub (List.drop_sublist k l)
  obtain ⟨e1, e2⟩ := ccut_parts h1 (ccut_drop hs fun z q hz => by rw [hd] at hz; obtain ⟨rfl, -⟩ := List.cons.inj hz; rw [hy]; exact cmpL_irr _)
  unfold cIns
  rw [e1, e2, hd, List.filter_cons, if_neg (by rw [hy]; simpa using cmpL_irr (keyL c.kv)), List.filter_eq_self.2 fun z hz => decide_eq_true (by rw [← hy]; exact (List.pairwise_cons.1 hsd.pw).1 z hz)]
theorem cput_new {l : List CV} (hs : CSrt l) {k : Nat} {c : CV} (h1 : ∀ z ∈ l.take k, cmpL (keyL z.kv) (keyL c.kv) < 0) (hd : ∀ y r, l.drop k = y :: r → ¬ cmpL (keyL y.kv) (keyL c.kv) < 0 ∧ keyL y.kv ≠ keyL c.kv) : l.take k ++ c :: l.drop k = cIns l c := by
  have h2 := ccut_drop hs fun z q hz => (hd z q hz).1
  obtain ⟨e1, e2⟩ := ccut_parts h1 h2
  unfold cIns
  rw [e1, e2, List.filter_eq_self.2 fun z hz => decide_eq_true ?_]
  cases he : l.drop k with
  | nil => rw [he] at hz; simp at hz
  | cons y r =>
    have hsd : CSrt (y :: r) := by rw [← he]; exact hs.sub (List.drop_sublist k l)
    obtain ⟨g1, g2⟩ := hd y r he
    have gy : cmpL (keyL c.kv) (keyL y.kv) < 0 := by
      rcases cmpL_total (keyL c.kv) (keyL y.kv) with h | h | h
      · exact h
      · exact absurd h.symm g2
      · exact absurd h g1
    rw [he] at hz
    rcases List.mem_cons.1 hz with rfl | hz
    · exact gy
    · exact cmpL_lt_trans _ _ _ gy ((List.pairwise_cons.1 hsd.pw).1 z hz)
open Go.RowKit
set_option maxRecDepth 100000 in
set_option maxHeartbeats 2000000 in
theorem rcmp_any (w : World) (a b : KA) (ha : a.ok) (hb : b.ok) :
    Calls Tryz.prog 33 #[a.val, b.val] w fun e w' => e = .returned (.int .i64 (cmpK a.kv b.kv)) ∧ Below w.heap.size w w' := by
  unfold KA.val
  have B2' : Below w.heap.size w ((w.alloc (Obj.cells #[.string a.row, .string a.fam, .string a.qual, .int .u64 a.time] 39)).alloc (Obj.cells #[.string b.row, .string b.fam, .string b.qual, .int .u64 b.time] 39)) := ((Below.refl _ w).alloc (Nat.le_refl _) _).alloc (by simp) _
  have h0 : w.heap.size < (w.alloc (Obj.cells #[.string a.row, .string a.fam, .string a.qual, .int .u64 a.time] 39)).heap.size := by simp
  have h1 : w.heap.size + 1 = (w.alloc (Obj.cells #[.string a.row, .string a.fam, .string a.qual, .int .u64 a.time] 39)).heap.size := by simp
  have HA' : ∀ i, i < 4 → ((w.alloc (Obj.cells #[.string a.row, .string a.fam, .string a.qual, .int .u64 a.time] 39)).alloc (Obj.cells #[.string b.row, .string b.fam, .string b.qual, .int .u64 b.time] 39)).cell? ⟨w.heap.size, i, none⟩ = #[Value.string a.row, .string a.fam, .string a.qual, .int .u64 a.time][i]? ∧ ((w.alloc (Obj.cells #[.string a.row, .string a.fam, .string a.qual, .int .u64 a.time] 39)).alloc (Obj.cells #[.string b.row, .string b.fam, .string b.qual, .int .u64 b.time] 39)).cell? ⟨w.heap.size + 1, i, none⟩ = #[Value.string b.row, .string b.fam, .string b.qual, .int .u64 b.time][i]? := fun i hi => by
    constructor
    · rw [World.cell?_alloc_past _ _ _ h0, World.cell?_alloc_at _ _ _ _ rfl]
    · rw [World.cell?_alloc_at _ _ _ _ h1]
  clear h0 h1
  go_enter Tryz.func33, Tryz.ntmps33
  go_wp2_with fail
  obtain ⟨w2, hw2⟩ : ∃ W, W = ((w.alloc (Obj.cells #[.string a.row, .string a.fam, .string a.qual, .int .u64 a.time] 39)).alloc (Obj.cells #[.string b.row, .string b.fam, .string b.qual, .int .u64 b.time] 39)) := ⟨_, rfl⟩
  rw [← hw2] at B2' HA' ⊢
  have B2 : Below w.heap.size w w2 := B2'
  have HA : Hid (∀ V, Below w2.heap.size w2 V → ∀ i, i < 4 → V.cell? ⟨w.heap.size, i, none⟩ = #[Value.string a.row, .string a.fam, .string a.qual, .int .u64 a.time][i]? ∧ V.cell? ⟨w.heap.size + 1, i, none⟩ = #[Value.string b.row, .string b.fam, .string b.qual, .int .u64 b.time][i]?) := by
    have hz : w2.heap.size = w.heap.size + 2 := by rw [hw2]; simp
    intro V hV i hi
    rw [hV.cell (by show w.heap.size < _; omega), hV.cell (by show w.heap.size + 1 < _; omega)]
    exact HA' i hi
  clear hw2 B2' HA'
  refine (text_any w2 a.row b.row ha.row hb.row).mono ?_
  rintro e w3 ⟨rfl, C3⟩
  have E3 := C3
  have B3 : Below w.heap.size w w3 := B2.trans (E3.mono B2.size)
  obtain ⟨c3, hc3⟩ : ∃ c, c = cmpL (sb a.row) (sb b.row) := ⟨_, rfl⟩
  rw [← hc3]
  have HC3 : Hid (c3 = cmpL (sb a.row) (sb b.row)) := hc3
  clear hc3
  by_cases e3 : c3 = 0
  · subst e3
    obtain ⟨k3, l3⟩ := HA.out w3 E3 1 (by omega)
    simp at k3 l3
    go_wp2_with fail
    refine (text_any w3 a.fam b.fam ha.fam hb.fam).mono ?_
    rintro e w4 ⟨rfl, C4⟩
    have E4 := E3.trans (C4.mono E3.size)
    have B4 : Below w.heap.size w w4 := B2.trans (E4.mono B2.size)
    obtain ⟨c4, hc4⟩ : ∃ c, c = cmpL (sb a.fam) (sb b.fam) := ⟨_, rfl⟩
    rw [← hc4]
    have HC4 : Hid (c4 = cmpL (sb a.fam) (sb b.fam)) := hc4
    clear hc4
    by_cases e4 : c4 = 0
    · subst e4
      clear k3 l3
      obtain ⟨k4, l4⟩ := HA.out w4 E4 2 (by omega)
      simp at k4 l4
      go_wp2_with fail
      refine (text_any w4 a.qual b.qual ha.qual hb.qual).mono ?_
      rintro e w5 ⟨rfl, C5⟩
      have E5 := E4.trans (C5.mono E4.size)
      have B5 : Below w.heap.size w w5 := B2.trans (E5.mono B2.size)
      obtain ⟨c5, hc5⟩ : ∃ c, c = cmpL (sb a.qual) (sb b.qual) := ⟨_, rfl⟩
      rw [← hc5]
      have HC5 : Hid (c5 = cmpL (sb a.qual) (sb b.qual)) := hc5
      clear hc5
      by_cases e5 : c5 = 0
      · subst e5
        clear k4 l4
        obtain ⟨k5, l5⟩ := HA.out w5 E5 3 (by omega)
        simp at k5 l5
        by_cases et : a.time = b.time
        · have f1 : ((a.time : Int) == (b.time : Int)) = true := by simp; omega
          have hv : Hid (cmpK a.kv b.kv = 0) := by
            show _ = _
            simp only [cmpK, KA.kv, if_true, ← HC3.out, ← HC4.out, ← HC5.out, cmpT]; exact if_pos et
          go_wp2
          go_ret
          exact ⟨by rw [hv.out] <;> rfl, B5⟩
        · have f1 : ((a.time : Int) == (b.time : Int)) = false := by simp; omega
          by_cases lt : b.time < a.time
          · have f2 : (b.time : Int) < (a.time : Int) := by omega
            have hv : Hid (cmpK a.kv b.kv = -1) := by
              show _ = _
              simp only [cmpK, KA.kv, if_true, ← HC3.out, ← HC4.out, ← HC5.out, cmpT]; exact (if_neg et).trans (if_pos lt)
            go_wp2
            go_ret
            exact ⟨by rw [hv.out] <;> rfl, B5⟩
          · have f2 : (a.time : Int) ≤ (b.time : Int) := by omega
            have hv : Hid (cmpK a.kv b.kv = 1) := by
              show _ = _
              simp only [cmpK, KA.kv, if_true, ← HC3.out, ← HC4.out, ← HC5.out, cmpT]; exact (if_neg et).trans (if_neg lt)
            go_wp2
            go_ret
            exact ⟨by rw [hv.out] <;> rfl, B5⟩
      · have f5 : (c5 == 0) = false := by simp; omega
        have hv : Hid (cmpK a.kv b.kv = c5) := by
          show _ = _
          simp only [cmpK, KA.kv, if_true, ← HC3.out, ← HC4.out, ← HC5.out]; exact if_neg e5
        go_wp2
        go_ret
        exact ⟨by rw [hv.out] <;> rfl, B5⟩
    · have f4 : (c4 == 0) = false := by simp; omega
      have hv : Hid (cmpK a.kv b.kv = c4) := by
        show _ = _
        simp only [cmpK, KA.kv, if_true, ← HC3.out, ← HC4.out]; exact if_neg e4
      go_wp2
      go_ret
      exact ⟨by rw [hv.out] <;> rfl, B4⟩
  · have f3 : (c3 == 0) = false := by simp; omega
    have hv : Hid (cmpK a.kv b.kv = c3) := by
      show _ = _
      simp only [cmpK, KA.kv, ← HC3.out]; exact if_neg e3
    go_wp2
    go_ret
    exact ⟨by rw [hv.out] <;> rfl, B3⟩
end Go.Proofs.YthlpccajnmkbjaaGreatDoor

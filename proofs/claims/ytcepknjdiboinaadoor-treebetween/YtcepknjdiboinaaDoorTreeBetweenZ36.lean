/-
  The law TreeBetween.
-/
import Derived.Test.YtcepknjdiboinaaDoorTreeBetweenZ29
import Derived.Test.YtcepknjdiboinaaDoorTreeBetweenZ31
import Derived.Test.YtcepknjdiboinaaDoorTreeBetweenZ32
import Derived.Test.YtcepknjdiboinaaDoorTreeBetweenZ35
namespace Go.Proofs.YtcepknjdiboinaaDoor
open Go.RowKit

theorem btw_all {a b : List Int} {l : List It} (h : ∀ x ∈ l, ¬ cmpL x.k a < 0 ∧ cmpL x.k b < 0) : btw a b l = l := by
  unfold btw ge
  rw [List.filter_filter]
  exact List.filter_eq_self.2 fun x hx => by simp [(h x hx).1, (h x hx).2]
theorem btw_mem {a b : List Int} {l : List It} {x : It} : x ∈ btw a b l ↔ x ∈ l ∧ ¬ cmpL x.k a < 0 ∧ cmpL x.k b < 0 := by
  unfold btw ge
  rw [List.mem_filter, List.mem_filter]
  simp [and_assoc]
theorem btw_len (a b : List Int) (l : List It) : (btw a b l).length ≤ l.length := by
  unfold btw ge
  exact Nat.le_trans (List.length_filter_le _ _) (List.length_filter_le _ _)
theorem btw_cons (a b : List Int) (x : It) (l : List It) : btw a b (x :: l) = if ¬ cmpL x.k a < 0 ∧ cmpL x.k b < 0 then x :: btw a b l else btw a b l := by
  unfold btw ge
  by_cases h1 : cmpL x.k a < 0
  · rw [List.filter_cons_of_neg (by simpa using h1), if_neg (fun h => h.1 h1)]
  · rw [List.filter_cons_of_pos (by simpa using h1)]
    by_cases h2 : cmpL x.k b < 0
    · rw [List.filter_cons_of_pos (by simpa using h2), if_pos ⟨h1, h2⟩]
    · rw [List.filter_cons_of_neg (by simpa using h2), if_neg (fun h => h2 h.2)]
def Nlt (a b : List Int) : Prop := ¬ cmpL a b < 0
/-- A stretch that is cut in two. -/
theorem btw_cut {a m b : List Int} : ∀ {l : List It}, Srt l → ¬ cmpL m a < 0 → ¬ cmpL b m < 0 → btw a m l ++ btw m b l = btw a b l
  | [], _, _, _ => rfl
  | x :: l, hs, h1, h2 => by
    obtain ⟨hx, hl⟩ := hs.cons
    have ih := btw_cut hl h1 h2
    rw [btw_cons, btw_cons, btw_cons]
    by_cases c1 : cmpL x.k a < 0
    · have c2 : cmpL x.k m < 0 := by
        rcases cmpL_total m a with h | h | h
        · exact absurd h h1
        · rw [h]; exact c1
        · exact cmpL_lt_trans _ _ _ c1 h
      rw [if_neg (fun h => h.1 c1), if_neg (fun h => h.1 c2), if_neg (fun h => h.1 c1)]
      exact ih
    · by_cases c2 : cmpL x.k m < 0
      · have c3 : cmpL x.k b < 0 := by
          rcases cmpL_total b m with h | h | h
          · exact absurd h h2
          · rw [h]; exact c2
          · exact cmpL_lt_trans _ _ _ c2 h
        rw [if_pos ⟨c1, c2⟩, if_neg (fun h => h.1 c2), if_pos ⟨c1, c3⟩, List.cons_append, ih]
      · have hn : btw a m l = [] := by
          refine List.eq_nil_iff_forall_not_mem.2 fun y hy => ?_
          obtain ⟨hyl, -, hy2⟩ := btw_mem.1 hy
          exact c2 (cmpL_lt_trans _ _ _ (hx y hyl) hy2)
        rw [if_neg (fun h => c2 h.2), hn, List.nil_append]
        by_cases c3 : cmpL x.k b < 0
        · rw [if_pos ⟨c2, c3⟩, if_pos ⟨c1, c3⟩]
          rw [hn, List.nil_append] at ih
          rw [ih]
        · rw [if_neg (fun h => c3 h.2), if_neg (fun h => c3 h.2)]
          rw [hn, List.nil_append] at ih
          exact ih
theorem itP_eq (a : List IP) : a.map itP = (a.map IP.it).map fun x => (x.k, x.v) := by
  rw [List.map_map]
  rfl
theorem smI_of {a b : List IP} (h : a.map IP.it = b.map IP.it) : smI a b = true := by
  unfold smI
  rw [itP_eq, itP_eq, h]
  simp
/-- append of items, under a guard. -/
theorem wpList_appIs_w {w : World} {ops : Array Oper} {rest : List Oper} {o : Oper} {a : Act} {Q : Exit → Act → World → Prop} (hw : Region.wanted o (yielded ops a.tmps) = true) (s x : Operand)
    (ho : o.op = .call { callee := .builtin .append, args := #[s, x], argTypes := #[26, 26] })
    (base : Nat) (v : Value) (ps : List IP) (hs : a.eval s = v) (hown : w.ownsRow base 43 2 v ps.length (flatI ps))
    (bo : Option Addr) (m c : Nat) (qs : List IP) (hx : a.eval x = .slice bo m c) (hil : IL w bo m c qs) (hn : ps.length + m ≤ 1000000) (hbase : base ≤ w.heap.size)
    (h : ∀ v' w', w'.ownsRow base 43 2 v' (ps ++ qs).length (flatI (ps ++ qs)) → Below base w w' → wpList Tryd.prog ops Q rest (a.put o.dst v') w') : wpList Tryd.prog ops Q (o :: rest) a w := by
  obtain ⟨v', w', hr, h1, h2⟩ := run_appI (w := w) o.type hown hbase hil hn
  refine wpList_step fun _ hK => ?_
  simp only [hw, if_true]
  unfold Oper.wp execOp
  simp only [ho, resolve, invoke, builtin, Sem.run_bind, Sem.run_pure, Result.andThen_ok, List.map_toArray, List.map_cons, List.map_nil, hs, hx, hr, Oper.upon]
  exact hK _ _ (h v' w' h1 h2)
theorem take_most {α : Type} (l : List α) (m : Int) : l.take m.toNat = l.take (max 0 (min m l.length)).toNat := by
  by_cases h : m ≤ l.length
  · rw [show min m (l.length : Int) = m by omega, show (max 0 m).toNat = m.toNat by omega]
  · rw [List.take_of_length_le (by omega), List.take_of_length_le (by omega)]

/-- A stop of the walk. -/
def StopP (p : Prop) : Prop := p
theorem StopD {p : Prop} (h : StopP p) : p := h

set_option maxHeartbeats 8000000 in
set_option maxRecDepth 100000 in
theorem treeBetween_any (W : World) (a0 a1 a2 a3 : Option Addr) (n0 c0 n1 c1 n2 c2 n3 c3 : Nat) (m : Int) (its : List IP) (x1 x2 x3 : List Int) (hT : Tabs W) (h0 : IL W a0 n0 c0 its) (s1 : Sl W a1 n1 c1 x1) (s2 : Sl W a2 n2 c2 x2) (s3 : Sl W a3 n3 c3 x3) (hm1 : -9223372036854775808 ≤ m) (hm2 : m ≤ 9223372036854775807) :
    Calls Tryd.prog 7 #[.slice a0 n0 c0, .slice a1 n1 c1, .slice a2 n2 c2, .slice a3 n3 c3, .int .i64 m] W fun e W' => e = .returned (.bool true) ∧ Below W.heap.size W W' := by
  have t2 := hT.two
  have CL := light7_any W a0 n0 c0 its 25 h0
  obtain ⟨lb, hlb⟩ : ∃ b, b = ligB its 25 := ⟨_, rfl⟩
  rw [← hlb] at CL
  have HLB : Hid (lb = ligB its 25) := hlb
  clear hlb
  have hmx1 := s1.mx
  have hle1 := s1.le
  have hmx2 := s2.mx
  have hle2 := s2.le
  have hmx3 := s3.mx
  have hle3 := s3.le
  unfold maxLen at hmx1 hmx2 hmx3
  have AL := alive7 W hT
  go_enter Tryd.func7, Tryd.ntmps7
  go_wp2_with fail
  refine CL.mono ?_
  rintro e w1 ⟨rfl, hw⟩
  obtain rfl := hw.symm
  clear CL
  cases lb with
  | false =>
    go_wp2_with fail
    refine AL.mono ?_
    rintro e w2 ⟨rfl, B⟩
    go_wp2
    go_ret
    exact ⟨rfl, B⟩
  | true =>
    by_cases hn1 : (200 : Int) < (n1 : Int)
    · go_wp2_with fail
      refine AL.mono ?_
      rintro e w2 ⟨rfl, B⟩
      go_wp2
      go_ret
      exact ⟨rfl, B⟩
    by_cases hn2 : (200 : Int) < (n2 : Int)
    · go_wp2_with fail
      refine AL.mono ?_
      rintro e w2 ⟨rfl, B⟩
      go_wp2
      go_ret
      exact ⟨rfl, B⟩
    by_cases hn3 : (200 : Int) < (n3 : Int)
    · go_wp2_with fail
      refine AL.mono ?_
      rintro e w2 ⟨rfl, B⟩
      go_wp2
      go_ret
      exact ⟨rfl, B⟩
    clear AL
    have hlig : its.length ≤ 25 ∧ ∀ q ∈ its, q.k.n ≤ 300 ∧ q.v.n ≤ 1100 := by
      have h := HLB.out.symm
      unfold ligB ligQ at h
      simp only [Bool.and_eq_true, decide_eq_true_eq, List.all_eq_true] at h
      exact ⟨by omega, h.2⟩
    have hlen := h0.len
    have hn0 : n0 ≤ 25 := by have := hlig.1; omega
    have HLG : Hid (∀ q ∈ its, q.k.n ≤ 300 ∧ q.v.n ≤ 1100) := hlig.2
    have HLN : Hid (its.length = n0) := hlen
    clear hlig hlen
    have CM := tmake_any W a0 n0 c0 its hT h0 (by omega) (fun q hq => by have := HLG.out q hq; omega)
    go_wp2_with fail
    refine CM.mono ?_
    rintro e w1 ⟨u, kd, rfl, B1, hp⟩
    clear CM
    have AL := alive7 w1 (hT.below B1 t2)
    rcases hp with ⟨rfl, -, l, hperm, hsrt, TT1⟩ | ⟨hkd, -, -⟩
    · have k1 := conv_str (s1.below B1)
      have k2 := conv_str (s2.below B1)
      have k3 := conv_str (s3.below B1)
      have q21 := gtr_str s1.byte s2.byte 9 w1
      have q32 := gtr_str s2.byte s3.byte 9 w1
      obtain ⟨str1, e1⟩ : ∃ s, s = strOfNums x1 := ⟨_, rfl⟩
      obtain ⟨str2, e2⟩ : ∃ s, s = strOfNums x2 := ⟨_, rfl⟩
      obtain ⟨str3, e3⟩ : ∃ s, s = strOfNums x3 := ⟨_, rfl⟩
      rw [← e1] at k1 q21
      rw [← e2] at k2 q21 q32
      rw [← e3] at k3 q32
      clear e1 e2 e3
      have HS : Hid (Srt l) := hsrt
      have HPM : Hid (l.Perm (its.map IP.it)) := hperm
      clear hsrt hperm
      by_cases o1 : cmpL x2 x1 < 0
      · rw [decide_eq_true o1] at q21
        clear q32 o1
        go_wp2_with fail
        refine AL.mono ?_
        rintro e w2 ⟨rfl, B⟩
        go_wp2
        go_ret
        exact ⟨rfl, B1.trans (B.mono B1.size)⟩
      rw [decide_eq_false o1] at q21
      by_cases o2 : cmpL x3 x2 < 0
      · rw [decide_eq_true o2] at q32
        clear o1 o2
        go_wp2_with fail
        refine AL.mono ?_
        rintro e w2 ⟨rfl, B⟩
        go_wp2
        go_ret
        exact ⟨rfl, B1.trans (B.mono B1.size)⟩
      rw [decide_eq_false o2] at q32
      clear AL
      have HO1 : Hid (Nlt x2 x1) := o1
      have HO2 : Hid (Nlt x3 x2) := o2
      clear o1 o2
      have hll : l.length = n0 := by rw [HPM.out.length_eq, List.length_map]; exact HLN.out
      have HLL : Hid (l.length = n0) := hll
      have hl25 : l.length ≤ 50000 := by omega
      have hsz : ∀ x ∈ l, x.k.length ≤ 1000000 ∧ x.v.length ≤ 1000000 := fun x hx => by
        obtain ⟨q, hq, rfl⟩ := List.mem_map.1 (HPM.out.mem_iff.1 hx)
        have h1 := HLG.out q hq
        have h2 := (h0.sl q hq).1.len
        have h3 := (h0.sl q hq).2.len
        unfold IP.it
        simp only
        omega
      have HSZ : Hid (∀ x ∈ l, x.k.length ≤ 1000000 ∧ x.v.length ≤ 1000000) := hsz
      clear hsz hll
      have CI := titems_any w1 (.pointer u) l x1 x2 a1 a2 n1 c1 n2 c2 n0 TT1 HS.out (s1.below B1) (s2.below B1) hl25 HSZ.out
      go_wp2_with fail
      refine CI.mono ?_
      rintro e w2 ⟨ao, na, ca, psa, ta, rfl, IA, ea, -, C2⟩
      clear CI k1 k2 k3 q21 q32
      have B2 := B1.trans (C2.mono B1.size)
      replace TT1 := TT1.below C2
      have EA : Hid (psa.map IP.it = btw x1 x2 l) := by
        show _ = _
        rw [ea, List.take_of_length_le (by have := btw_len x1 x2 l; have := HLL.out; omega)]
      clear ea C2
      have CI := titems_any w2 (.pointer u) l x2 x3 a2 a3 n2 c2 n3 c3 n0 TT1 HS.out (s2.below B2) (s3.below B2) hl25 HSZ.out
      go_wp2_with fail
      refine CI.mono ?_
      rintro e w3 ⟨bo, nb, cb, psb, tb, rfl, IB, eb, -, C3⟩
      clear CI
      have B3 := B2.trans (C3.mono B2.size)
      replace TT1 := TT1.below C3
      replace IA := IA.below C3
      have EB : Hid (psb.map IP.it = btw x2 x3 l) := by
        show _ = _
        rw [eb, List.take_of_length_le (by have := btw_len x2 x3 l; have := HLL.out; omega)]
      clear eb C3
      have CI := titems_any w3 (.pointer u) l x1 x3 a1 a3 n1 c1 n3 c3 n0 TT1 HS.out (s1.below B3) (s3.below B3) hl25 HSZ.out
      go_wp2_with fail
      refine CI.mono ?_
      rintro e w4 ⟨co, nc, cc, psc, tc, rfl, IC, ec, et, C4⟩
      clear CI
      have B4 := B3.trans (C4.mono B3.size)
      replace TT1 := TT1.below C4
      replace IA := IA.below C4
      replace IB := IB.below C4
      have EC : Hid (psc.map IP.it = btw x1 x3 l) := by
        show _ = _
        rw [ec, List.take_of_length_le (by have := btw_len x1 x3 l; have := HLL.out; omega)]
      obtain rfl : tc = false := by
        rw [et]
        simp only [Int.toNat_natCast, decide_eq_false_iff_not]
        have := btw_len x1 x3 l
        have := HLL.out
        omega
      clear ec et C4
      have la := IA.len
      have lb := IB.len
      have lc := IC.len
      have HLC : Hid (psc.length = nc) := lc
      have hna : na ≤ 50000 := by rw [← la, ← List.length_map (f := IP.it), EA.out]; have := btw_len x1 x2 l; omega
      have hnb : nb ≤ 50000 := by rw [← lb, ← List.length_map (f := IP.it), EB.out]; have := btw_len x2 x3 l; omega
      have hnc : nc ≤ 50000 := by rw [← lc, ← List.length_map (f := IP.it), EC.out]; have := btw_len x1 x3 l; omega
      have HNC : Hid (nc = (btw x1 x3 l).length) := by show _ = _; rw [← lc, ← List.length_map (f := IP.it), EC.out]
      have hla1 := Nat.le_of_eq la
      have hlb1 := Nat.le_of_eq lb
      clear la lb lc
      have D5 : Below w4.heap.size w4 (w4.alloc (.cells #[] 43)) := (Below.refl _ _).alloc (Nat.le_refl _) _
      have own5 : (w4.alloc (.cells #[] 43)).ownsRow w4.heap.size 43 2 (.slice (some ⟨w4.heap.size, 0, none⟩) 0 0) ([] : List IP).length (flatI []) := World.ownsRow_made w4 #[] 0 (Nat.le_refl _) (Nat.zero_le _) rfl
      have IA5 := IA.below D5
      have hnil : ([] : List IP).length + na ≤ 1000000 := by simp; omega
      have hsm : smI (psa ++ psb) psc = true := smI_of (by rw [List.map_append, EA.out, EB.out, EC.out]; exact btw_cut HS.out HO1.out HO2.out)
      have HSM : Hid (smI (psa ++ psb) psc = true) := hsm
      clear hsm
      go_wp2_with (at_builtin; refine @StopD _ ?_)
      unfold StopP
      refine wpList_appIs_w rfl (.tmp 92) (.tmp 93) rfl w4.heap.size _ [] rfl own5 ao na ca psa rfl IA5 hnil D5.size ?_
      intro v6 w6 own6 D6
      rw [List.nil_append] at own6
      have C6 := D5.trans D6
      have IB6 := IB.below C6
      go_wp2_with (at_builtin; refine @StopD _ ?_)
      unfold StopP
      refine wpList_appIs_w rfl (.tmp 94) (.tmp 95) rfl w4.heap.size _ psa rfl own6 bo nb cb psb rfl IB6 (by omega) C6.size ?_
      intro v7 w7 own7 D7
      have C7 := C6.trans D7
      obtain ⟨o7, c7, rfl, I7⟩ := own_items own7 (fun q hq => (List.mem_append.1 hq).elim (fun hq => (IA.sl q hq).below C7) (fun hq => (IB.sl q hq).below C7))
      generalize (psa ++ psb).length = n7 at I7 ⊢
      have CS := rsame7_any w7 o7 co n7 c7 nc cc _ psc I7 (IC.below C7)
      rw [HSM.out] at CS
      clear own5 own6 own7 I7 hla1 hlb1 hna hnb hnil D5 D6 D7 C6 IA5 IB6 HSM
      go_wp2_with fail
      refine CS.mono ?_
      rintro e w8 ⟨rfl, C8⟩
      clear CS
      have B7 := B4.trans (C7.mono B4.size)
      have B8 := B7.trans (C8.mono B7.size)
      replace TT1 := (TT1.below C7).below C8
      replace IC := (IC.below C7).below C8
      clear C7 C8 IA IB
      have CI := titems_any w8 (.pointer u) l x1 x3 a1 a3 n1 c1 n3 c3 m TT1 HS.out (s1.below B8) (s3.below B8) hl25 HSZ.out
      go_wp2_with fail
      refine CI.mono ?_
      rintro e w9 ⟨do9, nd, cd, psd, td, rfl, ID, ed, et, C9⟩
      clear CI
      have B9 := B8.trans (C9.mono B8.size)
      replace IC := IC.below C9
      obtain ⟨kk, hkk⟩ : ∃ kk : Nat, max 0 (min m (nc : Int)) = (kk : Int) := ⟨(max 0 (min m (nc : Int))).toNat, by omega⟩
      have hknc : kk ≤ nc := by omega
      have hicl := IC.le
      have hup := run_upto2 (W := w9) (ao := co) (n := nc) (cap := cc) (i := kk) (by omega)
      have CS := rsame7_any w9 do9 co nd cd kk cc psd (psc.take kk) ID (IC.front kk hknc)
      have hsm : smI psd (psc.take kk) = true := smI_of (by
        rw [List.map_take, EC.out, ed, take_most, ← HNC.out, hkk]
        rfl)
      rw [hsm] at CS
      have hres : td = decide (kk < nc) := by
        rw [et, ← HNC.out]
        by_cases hh : m.toNat < nc
        · rw [decide_eq_true hh, decide_eq_true (by omega)]
        · rw [decide_eq_false hh, decide_eq_false (by omega)]
      have HRES : Hid (td = decide (kk < nc)) := hres
      clear hsm ed et hres C9
      go_wp2_with fail
      refine CS.mono ?_
      rintro e w10 ⟨rfl, C10⟩
      clear CS hup hkk
      have B10 := B9.trans (C10.mono B9.size)
      have AL := alive7 w10 (hT.below B10 t2)
      by_cases hkn : kk < nc
      · obtain rfl : td = true := by rw [HRES.out]; simpa using hkn
        have hki : (kk : Int) < (nc : Int) := by omega
        go_wp2_with fail
        refine AL.mono ?_
        rintro e w11 ⟨rfl, C11⟩
        go_wp2
        go_ret
        exact ⟨rfl, B10.trans (C11.mono B10.size)⟩
      · obtain rfl : td = false := by rw [HRES.out]; simpa using hkn
        have hki : ¬ (kk : Int) < (nc : Int) := by omega
        go_wp2_with fail
        refine AL.mono ?_
        rintro e w11 ⟨rfl, C11⟩
        go_wp2
        go_ret
        exact ⟨rfl, B10.trans (C11.mono B10.size)⟩
    · have hkb : (kd != 0) = true := by simpa using hkd
      clear hkd
      go_wp2_with fail
      refine AL.mono ?_
      rintro e w2 ⟨rfl, B⟩
      go_wp2
      go_ret
      exact ⟨rfl, B1.trans (B.mono B1.size)⟩
end Go.Proofs.YtcepknjdiboinaaDoor

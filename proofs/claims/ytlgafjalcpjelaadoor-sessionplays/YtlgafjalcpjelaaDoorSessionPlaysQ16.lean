/-
  Texts in one: SeFind, RRise, SeRef1.
-/
import Derived.Test.YtlgafjalcpjelaaDoorSessionPlaysQ11
import Derived.Deep.QuietTactic
import Derived.BigQuiet
import Derived.Test.YtlgafjalcpjelaaDoorSessionPlaysQ14
import Derived.Test.YtlgafjalcpjelaaDoorSessionPlaysQ15
namespace Go.Proofs.YtlgafjalcpjelaaDoor
open Go.RowKit
def fnd (l : List EN) (c : Nat) : Option Nat := l.findIdx? fun e => decide (e.cl = c)
theorem fnd_some {l : List EN} {c k : Nat} (h : fnd l c = some k) : ∃ hk : k < l.length, (l[k]).cl = c := by
  unfold fnd at h
  obtain ⟨hk, h1, _⟩ := List.findIdx?_eq_some_iff_getElem.1 h
  exact ⟨hk, by simpa using h1⟩
def FxPost (l : List EN) (c : Nat) (r : Int) : Prop := (r = -1 ∧ fnd l c = none) ∨ ∃ k : Nat, r = k ∧ fnd l c = some k
theorem find1_tells (W : World) (cb : Nat) (c : Nat) (e : EN) (h : W.cell? ⟨cb, 0, none⟩ = some (.int .u64 c)) :
    Calls Tryd.prog 40 #[.agg #[.int .u64 e.cl, .int .u64 e.st, .string e.an], .pointer (some ⟨cb, 0, none⟩)] W fun x W' => x = .returned (.bool (decide (e.cl = c))) ∧ Below W.heap.size W W' := by
  have hlt : cb < W.heap.size := World.block_lt_of_cell? _ _ h
  have h1 : (W.alloc (.cells #[.int .u64 e.cl, .int .u64 e.st, .string e.an] 61)).cell? ⟨cb, 0, none⟩ = some (.int .u64 c) := (((Below.refl _ W).alloc (Nat.le_refl _) _).cell (p := ⟨cb, 0, none⟩) hlt).trans h
  by_cases q : e.cl = c
  · have i1 : ((e.cl : Int) == (c : Int)) = true := by simp; omega
    have hv : Hid (decide (e.cl = c) = true) := decide_eq_true q
    clear q
    go_enter Tryd.func40, Tryd.ntmps40
    go_wp2
    go_ret
    exact ⟨by rw [hv.out] <;> rfl, (Below.refl _ _).alloc (Nat.le_refl _) _⟩
  · have i1 : ((e.cl : Int) == (c : Int)) = false := by simp; omega
    have hv : Hid (decide (e.cl = c) = false) := decide_eq_false q
    clear q
    go_enter Tryd.func40, Tryd.ntmps40
    go_wp2
    go_ret
    exact ⟨by rw [hv.out] <;> rfl, (Below.refl _ _).alloc (Nat.le_refl _) _⟩
theorem fnd_take {l : List EN} {c k : Nat} (hk : k < l.length) (h : (l.take k).any (fun e => decide (e.cl = c)) = false) (hc : l[k].cl = c) : fnd l c = some k := by
  unfold fnd
  refine List.findIdx?_eq_some_iff_getElem.2 ⟨hk, by simpa using hc, fun j hj => ?_⟩
  have := List.any_eq_false.1 h l[j] (List.mem_iff_getElem.2 ⟨j, by rw [List.length_take]; omega, by rw [List.getElem_take]⟩)
  simpa using this
theorem fnd_none {l : List EN} {c : Nat} (h : l.any (fun e => decide (e.cl = c)) = false) : fnd l c = none := by
  unfold fnd
  refine List.findIdx?_eq_none_iff.2 fun x hx => ?_
  have := List.any_eq_false.1 h x hx
  simpa using this
set_option maxHeartbeats 2000000 in
set_option maxRecDepth 100000 in
theorem eindex_any (w : World) (g cap cb c : Nat) (l : List EN) (h : ER w g cap l) (hn : l.length ≤ 8) (hcb : w.cell? ⟨cb, 0, none⟩ = some (.int .u64 c)) :
    Calls Tryd.prog 39 #[.slice (some ⟨g, 0, none⟩) l.length cap, .func (.func 40) #[] #[.pointer (some ⟨cb, 0, none⟩)]] w fun e w' => ∃ r, e = .returned (.int .i64 r) ∧ FxPost l c r ∧ Below w.heap.size w w' := by
  have hni : (l.length : Int) ≤ 8 := by omega
  have hcl : cb < w.heap.size := World.block_lt_of_cell? _ _ hcb
  go_enter Tryd.func39, Tryd.ntmps39
  go_wp2
  go_loopw [8] (fun i wr => ∃ k : Nat, k ≤ l.length ∧ i = .int .i64 k ∧ Hid ((l.take k).any (fun e => decide (e.cl = c)) = false) ∧ Below w.heap.size w wr) (fun i _ => l.length - (intOf i).toNat)
  case atStart => exact ⟨0, Nat.zero_le _, rfl, rfl, Below.refl _ _⟩
  case round =>
    obtain ⟨k, hk, rfl, HA, B0⟩ := hrel
    by_cases hlt : k < l.length
    · have hki : (k : Int) < (l.length : Int) := by omega
      have R := h.keep (B0.block g h.lt)
      have q0 := R.cell k hlt 0 _ rfl
      have q1 := R.cell k hlt 1 _ rfl
      have q2 := R.cell k hlt 2 _ rfl
      have CH := find1_tells wr cb c l[k] ((B0.cell (p := ⟨cb, 0, none⟩) hcl).trans hcb)
      have HTK : Hid ((l.take (k + 1)).any (fun e => decide (e.cl = c)) = decide (l[k].cl = c)) := by
        show _ = _
        rw [List.take_succ_eq_append_getElem hlt, List.any_append, HA.out]
        simp
      have HFK : Hid (l[k].cl = c → fnd l c = some k) := fun e => fnd_take hlt HA.out e
      obtain ⟨e, hce⟩ : ∃ e, e = l[k] := ⟨_, rfl⟩
      rw [← hce] at q0 q1 q2 CH HTK HFK
      clear hce R
      simp only [Nat.add_zero] at q0
      go_wp2_with fail
      refine CH.mono ?_
      rintro x w2 ⟨rfl, C2⟩
      have B2 := B0.trans (C2.mono B0.size)
      clear CH q0 q1 q2
      by_cases hp : e.cl = c
      · rw [decide_eq_true hp]
        have HA2 : Hid (fnd l c = some k) := HFK.out hp
        clear hp HFK HTK
        go_wp2
        go_ret
        exact ⟨(k : Int), rfl, .inr ⟨k, rfl, HA2.out⟩, B2⟩
      · rw [decide_eq_false hp]
        have HA2 : Hid ((l.take (k + 1)).any (fun e => decide (e.cl = c)) = false) := by show _ = _; rw [HTK.out, decide_eq_false hp]
        clear hp HFK HTK
        go_wp2
        go_roundw
        case rel => exact ⟨k + 1, by omega, by go_num, HA2, B2⟩
        case measure => simp [intOf]; omega
    · have hge : ¬ (k : Int) < (l.length : Int) := by omega
      have HA2 : Hid (fnd l c = none) := by
        show _ = _
        refine fnd_none ?_
        rw [← HA.out, List.take_of_length_le (by omega)]
      go_wp2
      go_ret
      exact ⟨-1, rfl, .inl ⟨rfl, HA2.out⟩, B0⟩
theorem find_any (w : World) (p g c : Nat) (l : List EN) (h : TS w p g l) :
    Calls Tryd.prog 28 #[.pointer (some ⟨p, 0, none⟩), .int .u64 c] w fun e w' => ∃ r, e = .returned (.int .i64 r) ∧ FxPost l c r ∧ Below w.heap.size w w' := by
  have B : Below w.heap.size w (w.alloc (.cells #[.int .u64 c] 34)) := (Below.refl _ w).alloc (Nat.le_refl _) _
  have h1 := h.below B
  obtain ⟨cap, t0, R, _⟩ := h1.tab
  have hcb : (w.alloc (.cells #[.int .u64 c] 34)).cell? ⟨w.heap.size, 0, none⟩ = some (.int .u64 c) := cell_one_new _ _ _ 0 _ (by simp)
  have CI := eindex_any _ g cap w.heap.size c l R h.n8 hcb
  clear R h h1
  go_enter Tryd.func28, Tryd.ntmps28
  go_wp2_with fail
  refine CI.mono ?_
  rintro e w2 ⟨r, rfl, hr, C2⟩
  have B2 := B.trans (C2.mono B.size)
  clear CI t0 hcb
  go_wp2
  go_ret
  exact ⟨r, rfl, hr, B2⟩
open Go.RowKit
set_option maxRecDepth 100000 in
set_option maxHeartbeats 1000000 in
theorem rrise_any (w : World) (ao : Option Addr) (n cap : Nat) (ns : List Nat) (h : NL w ao n cap ns) (hn : n ≤ 1000000) :
    Calls Tryd.prog 25 #[.slice ao n cap] w fun e w' => e = .returned (.bool (riseF 0 ns)) ∧ ∃ q, w' = w.drewN q := by
  have hl := h.len
  have hni : (n : Int) ≤ 1000000 := by omega
  go_enter Tryd.func25, Tryd.ntmps25
  go_wp2
  go_loopw [3] (fun i wr => ∃ (k l q : Nat), k ≤ n ∧ i = .int .i64 k ∧ wr = w.drewN q ∧ riseF 0 ns = riseF l (ns.drop k) ∧ (k = 0 → l = 0) ∧ (0 < k → ns.getD (k - 1) 0 = l)) (fun i _ => n - (intOf i).toNat)
  case atStart => exact ⟨0, 0, 0, Nat.zero_le _, rfl, rfl, rfl, fun _ => rfl, fun h => by omega⟩
  case round =>
    obtain ⟨k, l, q, hk, rfl, rfl, hr, hl0, hl1⟩ := hrel
    have HR : Hid (riseF 0 ns = riseF l (ns.drop k)) := hr
    clear hr
    by_cases hlt : k < n
    · have hki : (k : Int) < (n : Int) := by omega
      have hkl : k < ns.length := by omega
      obtain ⟨b, off, rfl, hc⟩ := h.at (by omega)
      have c1 : w.cell? ⟨b, off + k, none⟩ = some (.int .u64 (ns.getD k 0)) := hc k hlt
      have HD : Hid (ns.drop k = ns[k] :: ns.drop (k + 1)) := List.drop_eq_getElem_cons hkl
      have e0 : ns.getD k 0 = ns[k] := by simp [List.getD, hkl]
      have HG : Hid (ns.getD k 0 = ns[k]) := e0
      rw [e0] at c1
      obtain ⟨x, hx⟩ : ∃ x, x = ns[k] := ⟨_, rfl⟩
      rw [← hx] at c1 HD HG
      clear hx e0
      have HF : Hid (riseF 0 ns = (decide (l < x) && riseF x (ns.drop (k + 1)))) := by
        show _ = _
        rw [HR.out, HD.out]
        rfl
      by_cases hx0 : x = 0
      · have d0 : ((x : Int) == 0) = true := by simp; omega
        have HX : Hid (x = 0) := hx0
        clear hx0 hl0 hl1 hc
        go_wp2
        go_quiet (fail)
        go_wp2
        go_ret
        have : riseF 0 ns = false := by rw [HF.out, HX.out]; simp
        rw [this, World.drewN_drewN]
        exact ⟨rfl, _, rfl⟩
      · have d0 : ((x : Int) == 0) = false := by simp; omega
        by_cases hk0 : k = 0
        · have dk : decide (0 < k) = false := by simp; omega
          have HL : Hid (l = 0) := hl0 hk0
          have HK : Hid (k = 0) := hk0
          clear hl0 hl1 hc hk0
          go_wp2
          go_quiet (fail)
          go_wp2
          go_roundw
          case rel =>
            refine ⟨k + 1, x, _, by omega, by go_num, rfl, ?_, fun h => by omega, fun _ => ?_⟩
            · rw [HF.out, HL.out, show decide (0 < x) = true from decide_eq_true (by omega)]
              rfl
            · rw [Nat.add_sub_cancel]
              exact HG.out
          case measure => simp [intOf]; omega
        · have dk : decide (0 < k) = true := by simp; omega
          have hkp : (0 : Int) < (k : Int) := by omega
          have c2 : w.cell? ⟨b, off + (k - 1), none⟩ = some (.int .u64 (ns.getD (k - 1) 0)) := hc (k - 1) (by omega)
          rw [hl1 (by omega)] at c2
          have t1 : ((k : Int) - 1).toNat = k - 1 := by omega
          have t2 : 0 ≤ (k : Int) - 1 := by omega
          have t3 : (k : Int) - 1 < (n : Int) := by omega
          clear hl0 hl1 hc
          by_cases hxl : x ≤ l
          · have dl : decide ((x : Int) ≤ (l : Int)) = true := by simp; omega
            have dl3 : decide (x ≤ l) = true := by simp; omega
            have dl2 : (x : Int) ≤ (l : Int) := by omega
            go_wp2
            go_quiet (fail)
            go_wp2
            go_ret
            have : riseF 0 ns = false := by rw [HF.out, show decide (l < x) = false from decide_eq_false (by omega)]; rfl
            rw [this, World.drewN_drewN]
            exact ⟨rfl, _, rfl⟩
          · have dl : decide ((x : Int) ≤ (l : Int)) = false := by simp; omega
            have dl3 : decide (x ≤ l) = false := by simp; omega
            have dl2 : (l : Int) < (x : Int) := by omega
            go_wp2
            go_quiet (fail)
            go_wp2
            go_roundw
            case rel =>
              refine ⟨k + 1, x, _, by omega, by go_num, rfl, ?_, fun h => by omega, fun _ => ?_⟩
              · rw [HF.out, show decide (l < x) = true from decide_eq_true (by omega)]
                rfl
              · rw [Nat.add_sub_cancel]
                exact HG.out
            case measure => simp [intOf]; omega
    · have hge : (n : Int) ≤ (k : Int) := by omega
      go_wp2
      go_ret
      have : riseF 0 ns = true := by
        rw [HR.out, List.drop_of_length_le (by omega)]
        rfl
      rw [this]
      exact ⟨rfl, _, rfl⟩
open Go.RowKit
theorem rright12 (w : World) (ao : Option Addr) (n cap : Nat) (ns : List Nat) (h : NL w ao n cap ns) (hn : n ≤ 1000) :
    Calls Tryd.prog 7 #[.slice ao n cap] w fun e w' => e = .returned (.bool (jdg ns == 0)) ∧ Below w.heap.size w w' := by
  have hl := h.len
  have hni : (n : Int) ≤ 1000 := by omega
  by_cases h0 : n = 0
  · have hv : Hid ((jdg ns == 0) = false) := by
      show _ = _
      unfold jdg
      rw [if_neg (by omega)]
      rfl
    subst h0
    go_enter Tryd.func7, Tryd.ntmps7
    go_wp2
    go_ret
    exact ⟨by rw [hv.out] <;> rfl, Below.refl _ _⟩
  have i0 : (1 : Int) ≤ (n : Int) := by omega
  by_cases h8 : 8 < n
  · have hv : Hid ((jdg ns == 0) = false) := by
      show _ = _
      unfold jdg
      rw [if_neg (by omega)]
      rfl
    have i1 : decide ((n : Int) ≤ 8) = false := by simp; omega
    go_enter Tryd.func7, Tryd.ntmps7
    go_wp2
    go_ret
    exact ⟨by rw [hv.out] <;> rfl, Below.refl _ _⟩
  have i1 : (n : Int) ≤ 8 := by omega
  have hv : Hid ((jdg ns == 0) = riseF 0 ns) := by
    show _ = _
    unfold jdg
    cases q : riseF 0 ns with
    | true => rw [if_pos ⟨by omega, by omega, rfl⟩]; rfl
    | false => rw [if_neg (fun c => by cases c.2.2)]; rfl
  have CR := rrise_any w ao n cap ns h (by omega)
  go_enter Tryd.func7, Tryd.ntmps7
  go_wp2_with fail
  refine CR.mono ?_
  rintro x w1 ⟨rfl, q, hq⟩
  have C : Below w.heap.size w w1 := by rw [hq]; exact belN (Below.refl _ _) q
  clear CR hq
  go_wp2
  go_ret
  exact ⟨by rw [hv.out] <;> rfl, C⟩
theorem wpList_runB {w w' : World} {ops : Array Oper} {rest : List Oper} {o : Oper} {a : Act} {Q : Exit → Act → World → Prop} (hgd : o.guard = none) (s x : Operand) (t : TypeId) (ho : o.op = .call { callee := .builtin .append, args := #[s, x], argTypes := #[t, t] }) {v u v' : Value} (hs : a.eval s = v) (hx : a.eval x = u)
    (hr : (Builtin.append_ #[t, t] o.type #[v, u]).run Tryd.prog w = .ok v' w') (h : wpList Tryd.prog ops Q rest (a.put o.dst v') w') : wpList Tryd.prog ops Q (o :: rest) a w := by
  refine wpList_plain hgd fun _ hK => ?_
  unfold Oper.wp execOp
  simp only [ho, resolve, invoke, builtin, Sem.run_bind, Sem.run_pure, Result.andThen_ok, List.map_toArray, List.map_cons, List.map_nil, hs, hx, hr, Oper.upon]
  exact hK _ _ h
def newY (c : Nat) : LA := ⟨c, 0, 0, none, 0, 0, [], false⟩
theorem newY_ok (w : World) {c : Nat} (h : c < 18446744073709551616) : (newY c).ok w := ⟨h, by show 0 < _; decide, CL.nothing w⟩
theorem newY_blk {c x : Nat} (h : (newY c).blk x) : False := by
  rcases h with ⟨a, ha, _⟩ | ⟨d, hd, _⟩
  · cases ha
  · cases hd
set_option maxRecDepth 100000 in
set_option maxHeartbeats 4000000 in
theorem rnew12 (w : World) (ao : Option Addr) (n cap : Nat) (ns : List Nat) (h : NL w ao n cap ns) (hn : n ≤ 100) :
    Calls Tryd.prog 8 #[.slice ao n cap] w fun e w' => ∃ (ro : Option Addr) (rc : Nat), e = .returned (.slice ro n rc) ∧ LL12 w' ro n rc (ns.map newY) ∧ Below w.heap.size w w' ∧ ∀ z, LLb ro n (ns.map newY) z → w.heap.size ≤ z := by
  have hl := h.len
  have hni : (n : Int) ≤ 100 := by omega
  go_enter Tryd.func8, Tryd.ntmps8
  go_wp2_with fail
  go_loopw [3, 4] (fun v i wr => ∃ (k : Nat), k ≤ n ∧ i = .int .i64 k ∧ AllI 39 wr w.heap.size v ((ns.take k).map newY) ∧ Below w.heap.size w wr) (fun _ i _ => n - (intOf i).toNat)
  case atStart => exact ⟨0, Nat.zero_le _, rfl, AllI.nil _ _ _, Below.refl _ _⟩
  case round =>
    obtain ⟨k, hk, rfl, N, B⟩ := hrel
    obtain ⟨vo, vn, vc, rfl⟩ := N.slice
    by_cases hlt : k < n
    · have hki : (k : Int) < (n : Int) := by omega
      have hkl : k < ns.length := by omega
      obtain ⟨b, off, rfl, hc⟩ := (h.below B).at (by omega)
      have c1 := hc k hlt
      have e3 : ns.getD k 0 = ns[k] := by simp [List.getD, hkl]
      rw [e3] at c1
      have hx64 := h.rng ns[k] (List.getElem_mem hkl)
      have HT : Hid ((ns.take (k + 1)).map newY = (ns.take k).map newY ++ [newY ns[k]]) := by
        show _ = _
        rw [List.take_add_one, List.getElem?_eq_getElem hkl, List.map_append]
        rfl
      have hyl : ((ns.take k).map newY).length ≤ 100 := by rw [List.length_map, List.length_take]; omega
      obtain ⟨x, hx⟩ : ∃ x, x = ns[k] := ⟨_, rfl⟩
      rw [← hx] at c1 hx64 HT
      clear hx hc e3
      have C1 : Below wr.heap.size wr (wr.alloc (.cells #[.int .u64 x, .int .u64 0, .int .i64 0, .slice none 0 0, .bool false] 39)) := (Below.refl _ _).alloc (Nat.le_refl _) _
      have G1 : (wr.alloc (.cells #[.int .u64 x, .int .u64 0, .int .i64 0, .slice none 0 0, .bool false] 39)).heap[wr.heap.size]? = some (.cells #[.int .u64 x, .int .u64 0, .int .i64 0, .slice none 0 0, .bool false] 39) := heap_alloc_new _ _
      have hsb := B.size
      obtain ⟨v', W1, ha, N2, B2, ao2, n2, c2, rfl⟩ := (N.below C1).app lty2 23 (cp := 1) (y := newY x) G1 (newY_ok _ hx64) (fun z hz => (newY_blk hz).elim) (by omega) (by simp; omega)
      have B3 := (B.trans (C1.mono B.size)).trans B2
      clear G1 C1 B2 N B
      go_wp2_with (at_builtin; refine wpList_runB rfl _ _ 23 rfl rfl rfl ha ?_)
      go_roundw
      case rel => exact ⟨k + 1, by omega, by go_num, by rw [HT.out]; exact N2, B3⟩
      case measure => simp [intOf]; omega
    · have hge : (n : Int) ≤ (k : Int) := by omega
      rw [List.take_of_length_le (by omega)] at N
      obtain ⟨ao2, cap2, hs, LL, hlow⟩ := N.ll
      have hlen : (ns.map newY).length = n := by rw [List.length_map]; exact hl
      rw [hlen] at LL hs hlow
      have HLW : Hid (∀ z, sblk ao2 n z → w.heap.size ≤ z) := hlow
      clear hlow
      simp only [Value.slice.injEq] at hs
      obtain ⟨rfl, rfl, rfl⟩ := hs
      clear N
      go_wp2
      go_ret
      exact ⟨_, _, rfl, LL, B, fun z hz => by
        rcases hz with hz | ⟨y, hy, hz⟩
        · exact HLW.out z hz
        · obtain ⟨c, _, rfl⟩ := List.mem_map.1 hy
          exact (newY_blk hz).elim⟩
set_option maxRecDepth 100000 in
set_option maxHeartbeats 4000000 in
theorem rfind12 (w : World) (ao : Option Addr) (n cap c : Nat) (ys : List LA) (l : List EN) (h : LL12 w ao n cap ys) (he : ys.map LA.en = l) (hn : n ≤ 100) :
    Calls Tryd.prog 26 #[.slice ao n cap, .int .u64 c] w fun e w' => ∃ r, e = .returned (.int .i64 r) ∧ FxPost l c r ∧ w' = w := by
  have hl := h.len
  have hni : (n : Int) ≤ 100 := by omega
  have HE : Hid (ys.map LA.en = l) := he
  have hll : l.length = n := by rw [← he, List.length_map]; exact hl
  clear he
  go_enter Tryd.func26, Tryd.ntmps26
  go_wp2_with fail
  go_loopw [5] (fun i wr => ∃ k : Nat, k ≤ n ∧ i = .int .i64 k ∧ Hid ((l.take k).any (fun e => decide (e.cl = c)) = false) ∧ w = wr) (fun i _ => n - (intOf i).toNat)
  case atStart => exact ⟨0, Nat.zero_le _, rfl, rfl, rfl⟩
  case round =>
    obtain ⟨k, hk, rfl, HA, rfl⟩ := hrel
    by_cases hlt : k < n
    · have hki : (k : Int) < (n : Int) := by omega
      have k1 : k < ys.length := by omega
      have k2 : k < l.length := by omega
      obtain ⟨b, off, rfl, hc⟩ := h.at (by omega)
      have c0 := (hc k k1).c0
      have hcl : ys[k].cl = l[k].cl := by
        have : (ys[k]).en = l[k] := by
          have := HE.out
          subst this
          simp
        exact congrArg EN.cl this
      rw [hcl] at c0
      have HTK : Hid ((l.take (k + 1)).any (fun e => decide (e.cl = c)) = decide (l[k].cl = c)) := by
        show _ = _
        rw [List.take_succ_eq_append_getElem k2, List.any_append, HA.out]
        simp
      have HFK : Hid (l[k].cl = c → fnd l c = some k) := fun e => fnd_take k2 HA.out e
      obtain ⟨q, hq⟩ : ∃ q, q = l[k].cl := ⟨_, rfl⟩
      rw [← hq] at c0 HTK HFK
      clear hq hcl hc
      by_cases hp : q = c
      · have i1 : ((q : Int) == (c : Int)) = true := by simp; omega
        have HA2 : Hid (fnd l c = some k) := HFK.out hp
        clear hp HFK HTK
        go_wp2
        go_ret
        exact ⟨(k : Int), rfl, .inr ⟨k, rfl, HA2.out⟩, rfl⟩
      · have i1 : ((q : Int) == (c : Int)) = false := by simp; omega
        have HA2 : Hid ((l.take (k + 1)).any (fun e => decide (e.cl = c)) = false) := by show _ = _; rw [HTK.out, decide_eq_false hp]
        clear hp HFK HTK
        go_wp2
        go_roundw
        case rel => exact ⟨k + 1, by omega, by go_num, HA2, trivial⟩
        case measure => simp [intOf]; omega
    · have hge : (n : Int) ≤ (k : Int) := by omega
      have HA2 : Hid (fnd l c = none) := by
        show _ = _
        refine fnd_none ?_
        rw [← HA.out, List.take_of_length_le (by omega)]
      go_wp2
      go_ret
      exact ⟨-1, rfl, .inl ⟨rfl, HA2.out⟩, rfl⟩
end Go.Proofs.YtlgafjalcpjelaaDoor

/-
  SealTurned: a tag that is turned, cut off or longer.
-/
import Derived.Test.YtkncfjokkojfpaaDoorNilsS
namespace Go.Proofs.YtkncfjokkojfpaaDoor
open Go.RowKit

theorem x8_nat (a b : Nat) (ha : a < 256) (hb : b < 256) : x8 (a : Int) (b : Int) = ((a ^^^ b : Nat) : Int) := by
  have ha' : a % 2 ^ 8 = a := Nat.mod_eq_of_lt ha
  have hb' : b % 2 ^ 8 = b := Nat.mod_eq_of_lt hb
  have hx : a ^^^ b < 2 ^ 8 := Nat.xor_lt_two_pow ha hb
  simp only [x8, bits, BitVec.ofInt_natCast, BitVec.toNat_xor, BitVec.toNat_ofNat]
  show IntKind.u8.wrap ((a % 2 ^ 8 ^^^ b % 2 ^ 8 : Nat) : Int) = _
  rw [ha', hb']
  exact wraps_u8 _ (Int.natCast_nonneg _) (by exact_mod_cast hx)
theorem x8_same (x t : Int) (hx : 0 ≤ x ∧ x ≤ 255) (ht : 0 ≤ t ∧ t ≤ 255) : x8 x t = x ↔ t = 0 := by
  obtain ⟨a, rfl⟩ := Int.eq_ofNat_of_zero_le hx.1
  obtain ⟨b, rfl⟩ := Int.eq_ofNat_of_zero_le ht.1
  rw [x8_nat a b (by omega) (by omega)]
  constructor
  · intro h
    have h1 : a ^^^ b = a := by omega
    have h2 : a ^^^ (a ^^^ b) = 0 := by rw [h1, Nat.xor_self]
    rw [← Nat.xor_assoc, Nat.xor_self, Nat.zero_xor] at h2
    omega
  · intro h
    have h1 : b = 0 := by omega
    rw [h1, Nat.xor_zero]
/-- A byte turned. -/
theorem turned_iff (tg : List Int) (k : Nat) (t : Int) (hk : k < tg.length) (hb : Byt tg) (ht : 0 ≤ t ∧ t ≤ 255) : tg.set k (x8 (tg.getD k 0) t) = tg ↔ t = 0 := by
  have hx := hb.at k
  have e : tg.getD k 0 = tg[k] := by simp [List.getD, hk]
  rw [e]
  have hx' : 0 ≤ tg[k] ∧ tg[k] ≤ 255 := hb _ (List.getElem_mem hk)
  rw [← x8_same tg[k] t hx' ht]
  constructor
  · intro h
    have := congrArg (fun l : List Int => l[k]?) h
    simpa [hk] using this
  · intro h
    rw [h]
    simp

/-- append(out, x...) under a guard that says yes. -/
theorem wpList_app_w {w : World} {ops : Array Oper} {rest : List Oper} {o : Oper} {a : Act} {Q : Exit → Act → World → Prop} (hw : Region.wanted o (yielded ops a.tmps) = true) (s x : Operand)
    (ho : o.op = .call { callee := .builtin .append, args := #[s, x], argTypes := #[22, 22] })
    (base : Nat) (v : Value) (n : Nat) (xs : List Int) (hs : a.eval s = v) (hown : w.ownsRow base 5 1 v n (bv xs))
    (ad : Addr) (m c : Nat) (ys : List Int) (hx : a.eval x = .slice (some ad) m c) (hsl : Sl w (some ad) m c ys) (hb : n + m ≤ 140737488355328) (hbase : base ≤ w.heap.size)
    (h : ∀ v' w', w'.ownsRow base 5 1 v' (n + m) (bv (xs ++ ys)) → Below base w w' → wpList Tryd.prog ops Q rest (a.put o.dst v') w') : wpList Tryd.prog ops Q (o :: rest) a w := by
  obtain ⟨i0, hi, hz0, hz1, hz2⟩ := info_parts u8info
  refine wpList_step fun K hK => ?_
  simp only [hw, if_true]
  obtain ⟨v', w', hr, h1, h2, _⟩ := run_append_own (P := Tryd.prog) w base 22 o.type 5 i0 (.int .u8 0) 1 1 Tryd.underlying22 hi hz0 hz1 hz2 rfl (by decide) v n (bv xs) hown ad m c (bv ys) (by rw [bv_length, hsl.len, Nat.mul_one]) (hsl.cells ad rfl) (bv_one ys) (by unfold maxLen; omega) (by omega) hbase
  rw [← bv_append] at h1
  unfold Oper.wp execOp
  simp only [ho, resolve, invoke, builtin, Sem.run_bind, Sem.run_pure, Result.andThen_ok, List.map_toArray, List.map_cons, List.map_nil, hs, hx, hr]
  exact hK _ _ (h v' w' h1 ((Below.refl _ w).grown h2 hbase (fun k hk => (hown.lt k hk).1)))

theorem own_set {w : World} {base g n c : Nat} {xs : List Int} (h : w.ownsRow base 5 1 (.slice (some ⟨g, 0, none⟩) n c) n (bv xs)) (i : Nat) (x : Int) :
    (w.setCell ⟨g, i, none⟩ (.int .u8 x)).ownsRow base 5 1 (.slice (some ⟨g, 0, none⟩) n c) n (bv (xs.set i x)) := by
  have hl := h.1
  rw [bv_length] at hl
  refine ⟨by simp [bv]; omega, ?_⟩
  rcases h.2 with ⟨h0, _⟩ | ⟨g', cap, cur, hv, hg, hh, hle, hmx, hcs, htk⟩
  · simp at h0
  · simp only [Value.slice.injEq, Option.some.injEq, Addr.mk.injEq, and_true, true_and] at hv
    obtain ⟨rfl, rfl⟩ := hv
    refine .inr ⟨g, c, cur.setIfInBounds i (.int .u8 x), rfl, hg, heap_setCell_same w g i _ _ _ hh, hle, hmx, by simpa using hcs, ?_⟩
    simp only [Array.toList_setIfInBounds]
    rw [List.take_set, htk]
    simp [bv, List.map_set]

set_option maxRecDepth 100000 in
set_option maxHeartbeats 4000000 in
theorem sealTurned_any (w : World) (real : Bool) (bo : Option Addr) (bn bc : Nat) (body : List Int) (at_ turn : Int) (hB : Sl w bo bn bc body) (hat : (Lit.int .i64 at_).wf = true) (htu : (Lit.int .u8 turn).wf = true) (hT : Tabs w) :
    Calls Tryd.prog 7 #[.bool real, .slice bo bn bc, .int .i64 at_, .int .u8 turn] w fun e w' => e = .returned (.bool true) ∧ Below w.heap.size w w' := by
  have h2 := hT.two
  have hbl := hB.len
  have kc := fun (w : World) (C : Array Value) (n c : Nat) => Lib.run_convert_bytes_const (P := Tryd.prog) w 22 5 C n c Tryd.underlying22 Tryd.underlying5
  have ht255 : 0 ≤ turn ∧ turn ≤ 255 := by
    simp [Lit.wf, IntKind.min, IntKind.max, IntKind.signed, IntKind.bits] at htu
    omega
  by_cases h1 : 500 < bn
  · have d1 : (500 : Int) < (bn : Int) := by omega
    have d2 : decide ((500 : Int) < (bn : Int)) = true := by simp; omega
    go_enter Tryd.func7, Tryd.ntmps7
    go_wp2_with (go_at_call 9; refine (alive_any _ hT).mono ?_; rintro e w3 ⟨rfl, B3⟩)
    go_ret
    exact ⟨rfl, B3⟩
  have a1' : (bn : Int) ≤ 500 := by omega
  have a2' : decide ((500 : Int) < (bn : Int)) = false := by simp; omega
  by_cases h3 : at_ < 0
  · have d2 : decide (at_ < 0) = true := by simp; omega
    go_enter Tryd.func7, Tryd.ntmps7
    go_wp2_with (go_at_call 9; refine (alive_any _ hT).mono ?_; rintro e w3 ⟨rfl, B3⟩)
    go_ret
    exact ⟨rfl, B3⟩
  have b2' : decide (at_ < 0) = false := by simp; omega
  by_cases h4 : 31 < at_
  · have d2 : decide (31 < at_) = true := by simp; omega
    go_enter Tryd.func7, Tryd.ntmps7
    go_wp2_with (go_at_call 9; refine (alive_any _ hT).mono ?_; rintro e w3 ⟨rfl, B3⟩)
    go_ret
    exact ⟨rfl, B3⟩
  have c2' : decide (31 < at_) = false := by simp; omega
  obtain ⟨k, rfl⟩ := Int.eq_ofNat_of_zero_le (a := at_) (by omega)
  have hk : k < 32 := by omega
  have hki : (k : Int) < 32 := by omega
  clear h1 h3 h4
  go_enter Tryd.func7, Tryd.ntmps7
  go_wp2_with fail
  obtain ⟨W0, hW0⟩ : ∃ W, W = (w.alloc (.cells #[.int .u8 109] 5 (1, 2))).alloc (.cells #[.int .u64 1, .int .u64 2, .int .u64 3] 24) := ⟨_, rfl⟩
  have B0 : Below w.heap.size w W0 := by rw [hW0]; exact ((Below.refl _ w).alloc (Nat.le_refl _) _).alloc (by simp) _
  have M0 : Sl W0 (some ⟨w.heap.size, 0, none⟩) 1 1 [109] := by
    rw [hW0]
    exact (Sl.newF w [109] (by intro x hx; rw [List.mem_singleton.1 hx]; omega) (by decide) (1, 2)).below ((Below.refl _ _).alloc (Nat.le_refl _) _)
  have N0 : NL W0 (some ⟨w.heap.size + 1, 0, none⟩) 3 3 [1, 2, 3] := by
    rw [hW0]
    have := NL.new (w.alloc (.cells #[.int .u8 109] 5 (1, 2))) [1, 2, 3] 24 (by intro x hx; simp at hx; omega) (by decide)
    have s : (w.alloc (.cells #[.int .u8 109] 5 (1, 2))).heap.size = w.heap.size + 1 := by simp
    rw [s] at this
    exact this
  rw [← hW0]
  clear hW0
  have s0 := B0.size
  refine (new_good W0 real _ 1 1 [109] _ 3 3 [1, 2, 3] N0 M0 (by omega) (hT.below B0 h2) (by omega) (by omega) rfl).mono ?_
  rintro e w1 ⟨p, mk, ms, nk, KF, rfl, P1⟩
  have B1 : Below w.heap.size w w1 := B0.trans (P1.bel.mono s0)
  have s1 := B1.size
  have nms : w.heap.size ≤ ms := Nat.le_trans s0 P1.nm
  have K1 := P1.bk
  have N1 := P1.kn
  clear P1 N0 M0 B0
  go_wp2_with fail
  refine (tag_known w1 p mk ms real nk 0 KF _ [109] _ 2 bo bn bc body K1 N1 (hT.below B1 h2) (by omega) (by decide) (hB.below B1) (by omega) (by omega) (by omega)).mono ?_
  rintro e w2 ⟨g, ns', SF', rfl, P2⟩
  have B2 : Below w.heap.size w w2 := below_of B1 P2.grown nms
  have U2 := P2.su SU.none
  have K2 := P2.bk
  have N2 := N1.grown P2.grown K1.said.isMap
  have T2 := P2.sl
  have q1 : SF' (sv 2 (dgL real 2 body)) = some (.agg #[]) := P2.at_
  have HC : Hid (∀ tag, chB SF' real [109] (fun x => decide (x ∈ [1, 2, 3])) 2 body tag = decide (tag = tgL real [109] 2 body)) := by
    intro tag
    unfold chB saB
    rw [q1]
    simp
  clear P2 K1 N1 B1 q1
  have hgl := tgL_len real [109] 2 body
  have hgb := tgL_byte real [109] 2 body
  obtain ⟨tg, htg⟩ : ∃ tg, tg = tgL real [109] 2 body := ⟨_, rfl⟩
  rw [← htg] at hgl hgb T2 HC
  clear htg
  have s2 := B2.size
  go_wp2_with (at_builtin; refine wpList_app2 rfl (.tmp 53) (.tmp 54) rfl w2.heap.size w2.heap.size 0 0 [] rfl (World.ownsRow_lit w2 #[] 0 (Nat.le_refl _) (by decide) rfl) _ 32 32 tg rfl (T2.below ((Below.refl _ w2).alloc (Nat.le_refl _) _)) (by omega) (by simp) ?_; intro g3 c3 w3 own3 C3; have D3 : Below w2.heap.size w2 w3 := ((Below.refl _ w2).alloc (Nat.le_refl _) _).trans C3; clear C3; simp only [Nat.zero_add, List.nil_append] at own3 ⊢; have u3 := own3.cellAt k (by omega); rw [bv_get tg k (by omega)] at u3; have f3 := own3.frozenAt k)
  have hg3 := (own3.lt g3 rfl).1
  have own4 := own_set own3 k (x8 tg[k] turn)
  have D4 : Below w2.heap.size w2 (w3.setCell ⟨g3, k, none⟩ (.int .u8 (x8 tg[k] turn))) := D3.setCell hg3 _
  obtain ⟨w4, hw4⟩ : ∃ W, W = w3.setCell ⟨g3, k, none⟩ (.int .u8 (x8 tg[k] turn)) := ⟨_, rfl⟩
  rw [← hw4] at own4 D4
  have ew : w3.setCell ⟨g3, k, none⟩ (.int .u8 (bits BinOp.xor IntKind.u8 tg[k] turn)) = w4 := hw4.symm
  rw [ew]
  have HU := turned_iff tg k turn (by omega) hgb ht255
  have e0 : tg.getD k 0 = tg[k] := by simp [List.getD, show k < tg.length by omega]
  rw [e0] at HU
  obtain ⟨ut, hut⟩ : ∃ ut, ut = tg.set k (x8 tg[k] turn) := ⟨_, rfl⟩
  rw [← hut] at own4 HU
  have hub : Byt ut := by
    rw [hut]
    intro y hy
    rcases List.mem_or_eq_of_mem_set hy with h | h
    · exact hgb y h
    · rw [h]; exact x8_byte _ _
  have hul : ut.length = 32 := by rw [hut]; simpa using hgl
  clear hut hw4 ew e0 own3 D3 u3 f3
  obtain ⟨uo, uc, hve, S4, -⟩ := Sl.own own4 hub
  simp only [Value.slice.injEq, true_and] at hve
  obtain ⟨rfl, rfl⟩ := hve
  have B4 : Below w.heap.size w w4 := B2.trans (D4.mono s2)
  have s4 := B4.size
  obtain ⟨b, hb⟩ : ∃ b, b = decide (ut = tg) := ⟨_, rfl⟩
  have hbt : (turn == 0) = b := by
    rw [hb, Bool.eq_iff_iff]
    simp [HU]
  refine (check_any w4 p mk ms real nk ns' KF SF' [109] _ 2 bo bn bc body _ 32 c3 ut (K2.below D4) (N2.below D4) (hT.below B4 h2) (by omega) (hB.below B4) (by omega) S4 U2).mono ?_
  rintro e w5 ⟨rfl, E5⟩
  rw [HC.out, ← hb]
  have D5 := D4.trans (E5.mono (by have := D4.size; omega))
  have B5 : Below w.heap.size w w5 := B4.trans (E5.mono s4)
  have own5 := own4.kept (bel_grown E5 none) (by simp [Value.ownBlock])
  have K5 := K2.below D5
  have N5 := N2.below D5
  have T5 := T2.below D5
  have s5 := B5.size
  have HB2 : Hid (b = decide (ut = tg)) := hb
  clear hb HU S4 own4 D4 E5 B4
  have hle : (w2.heap.size : Nat) ≤ w5.heap.size := by have := own5.lt g3 rfl; omega
  cases b
  all_goals
    go_wp2_with fail
    refine (check_any w5 p mk ms real nk ns' KF SF' [109] _ 2 bo bn bc body _ k 32 (tg.take k) K5 N5 (hT.below B5 h2) (by omega) (hB.below B5) (by omega) (T5.take k (by omega)) U2).mono ?_
    rintro e w6 ⟨rfl, E6⟩
    rw [HC.out, show decide (tg.take k = tg) = false from decide_eq_false fun e => by have := congrArg List.length e; simp at this; omega]
    have B6 : Below w.heap.size w w6 := B5.trans (E6.mono s5)
    have own6 := own5.kept (bel_grown E6 none) (by simp [Value.ownBlock])
    have K6 := K5.below E6
    have N6 := N5.below E6
    have s6 := B6.size
    have t6 := E6.size
    go_wp2_with (refine wpList_app_w rfl (.tmp 84) (.tmp 85) rfl w2.heap.size _ 32 ut rfl (own6.alloc _) _ 1 1 [0] rfl (Sl.new w6 [0] (by intro x hx; rw [List.mem_singleton.1 hx]; omega) (by decide)) (by omega) (by simp; omega) ?_; intro v7 w7 own7 C7)
    have D6 := D5.trans (E6.mono hle)
    have D7 : Below w2.heap.size w2 w7 := (D6.alloc (by omega) _).trans C7
    have B7 : Below w.heap.size w w7 := B2.trans (D7.mono s2)
    have s7 := B7.size
    obtain ⟨vo, vc, rfl, S7, -⟩ := Sl.own own7 (hub.append (by intro x hx; rw [List.mem_singleton.1 hx]; omega))
    refine (check_any w7 p mk ms real nk ns' KF SF' [109] _ 2 bo bn bc body vo (32 + 1) vc (ut ++ [0]) (K2.below D7) (N2.below D7) (hT.below B7 h2) (by omega) (hB.below B7) (by omega) S7 U2).mono ?_
    rintro e w8 ⟨rfl, E8⟩
    rw [HC.out, show decide (ut ++ [0] = tg) = false from decide_eq_false fun e => by have := congrArg List.length e; simp at this; omega]
    have B8 : Below w.heap.size w w8 := B7.trans (E8.mono s7)
    have s8 := B8.size
    clear own7 C7 own6 K6 N6 E6 D6 D7 S7 E8
    go_wp2_with fail
    refine (alive_any _ (hT.below B8 h2)).mono ?_
    rintro e w9 ⟨rfl, B9⟩
    go_wp2
    go_ret
    exact ⟨rfl, B8.trans (B9.mono s8)⟩

end Go.Proofs.YtkncfjokkojfpaaDoor

/-
  Texts in one: CkLay, RDel7, RPut7.
-/
import Derived.Test.YtkmkmekhodcioaaGreatDoorChunkLaysZ15
import Derived.Test.YtkmkmekhodcioaaGreatDoorChunkLaysZ8
import Derived.Test.YtkmkmekhodcioaaGreatDoorChunkLaysZ19
import Derived.Test.YtkmkmekhodcioaaGreatDoorChunkLaysZ12
namespace Go.Proofs.YtkmkmekhodcioaaGreatDoor
open Go.RowKit

/-- What Lay answers. -/
structure LayPost (w : World) (t : Sum Int (List It)) (e : Ending) (w' : World) : Prop where
  bad : ∀ k, t = .inl k → e = .returned (.tuple #[.pointer none, .int .i64 k]) ∧ k ≠ 0
  good : ∀ l, t = .inr l → ∃ v, e = .returned (.tuple #[v, .int .i64 0]) ∧ TT w' v l ∧ Srt l ∧ (∀ x ∈ l, okI x ∧ x.k ≠ [])
  bel : Below w.heap.size w w'
theorem rdCk_good {b : List Int} {l : List It} (hb : Byt b) (h : rdCk b = .inr l) : okCk l ∧ l ≠ [] ∧ Srt l ∧ ∀ x ∈ l, x.k ≠ [] := by
  obtain ⟨-, h1, h2⟩ := rdCk_back hb h
  obtain ⟨h3, h4, h5⟩ := kindCk_ok h2
  exact ⟨h1, h3, h4, h5⟩
theorem layR_app : ∀ (bs : List (List Int)) (b : List Int) (ls : List (List It)), layR bs = .inr ls → layR (bs ++ [b]) = match rdCk b with
    | .inl k => .inl k
    | .inr l => .inr (ls ++ [l])
  | [], b, ls, h => by
    obtain rfl := Sum.inr.inj h
    simp only [List.nil_append, layR]
    cases rdCk b <;> rfl
  | a :: bs, b, ls, h => by
    simp only [List.cons_append, layR] at h ⊢
    cases ha : rdCk a with
    | inl k => rw [ha] at h; simp at h
    | inr l =>
      rw [ha] at h
      cases hr : layR bs with
      | inl k => rw [hr] at h; simp at h
      | inr ls' =>
        rw [hr] at h
        obtain rfl := Sum.inr.inj h
        rw [layR_app bs b ls' hr]
        cases rdCk b <;> rfl
theorem layR_bad : ∀ (bs : List (List Int)) (b : List Int) (cs : List (List Int)) (ls : List (List It)) (k : Int), layR bs = .inr ls → rdCk b = .inl k → layR (bs ++ b :: cs) = .inl k
  | [], b, cs, ls, k, _, hk => by
    simp only [List.nil_append, layR, hk]
  | a :: bs, b, cs, ls, k, h, hk => by
    simp only [List.cons_append, layR] at h ⊢
    cases ha : rdCk a with
    | inl k => rw [ha] at h; simp at h
    | inr l =>
      rw [ha] at h
      cases hr : layR bs with
      | inl k => rw [hr] at h; simp at h
      | inr ls' => rw [layR_bad bs b cs ls' k hr hk]
theorem jn_snoc : ∀ (ls : List (List It)) (a l : List It), jn a (ls ++ [l]) = (jn a ls && joins (a ++ ls.flatten) l)
  | [], a, l => by simp [jn]
  | x :: ls, a, l => by
    rw [List.cons_append, jn, jn, jn_snoc ls (a ++ x) l, List.flatten_cons, List.append_assoc, Bool.and_assoc]
theorem layR_all : ∀ (bs : List (List Int)) (ls : List (List It)), (∀ b ∈ bs, Byt b) → layR bs = .inr ls → ls.length = bs.length ∧ ∀ l ∈ ls, okCk l ∧ l ≠ [] ∧ Srt l ∧ ∀ x ∈ l, x.k ≠ []
  | [], ls, _, h => by
    obtain rfl := Sum.inr.inj h
    simp
  | b :: bs, ls, hb, h => by
    simp only [layR] at h
    cases ha : rdCk b with
    | inl k => rw [ha] at h; simp at h
    | inr l =>
      rw [ha] at h
      cases hr : layR bs with
      | inl k => rw [hr] at h; simp at h
      | inr ls' =>
        rw [hr] at h
        obtain rfl := Sum.inr.inj h
        obtain ⟨h1, h2⟩ := layR_all bs ls' (fun x hx => hb x (List.mem_cons_of_mem _ hx)) hr
        refine ⟨by simp [h1], fun x hx => ?_⟩
        rcases List.mem_cons.1 hx with rfl | hx
        · exact rdCk_good (hb b (List.mem_cons_self ..)) ha
        · exact h2 x hx
theorem flat_short : ∀ (ls : List (List It)), (∀ l ∈ ls, l.length ≤ 64) → ls.flatten.length ≤ ls.length * 64
  | [], _ => by simp
  | l :: ls, h => by
    have := flat_short ls (fun x hx => h x (List.mem_cons_of_mem _ hx))
    have := h l (List.mem_cons_self ..)
    rw [List.flatten_cons, List.length_append, List.length_cons]
    omega
theorem jL_ok : ∀ (its : List IP) (acc : Int), (∀ q ∈ its, 1 ≤ q.k.n ∧ q.k.n ≤ 256 ∧ q.v.n ≤ 1024) → jL its acc = acc
  | [], _, _ => rfl
  | q :: its, acc, h => by
    have hq := h q (List.mem_cons_self ..)
    have e : badK q.k.n = false := by simp [badK]; omega
    rw [jL, e, if_neg (by simp), if_neg (show ¬ 1024 < q.v.n by omega), jL_ok its acc (fun x hx => h x (List.mem_cons_of_mem _ hx))]
theorem Srt.nodup {l : List It} (h : Srt l) : (l.map It.k).Nodup := by
  rw [List.nodup_iff_pairwise_ne, List.pairwise_map]
  exact h.imp fun e => cmpL_lt_ne e

theorem IL.notBool {w : World} {a : Addr} {n cap : Nat} {its : List IP} (h : IL w (some a) n cap its) (hn : 0 < n) {R : Nat} {r : Bool} {t : TypeId} (hR : w.heap[R]? = some (.cells #[.bool r] t)) : a.block ≠ R := by
  rintro rfl
  obtain ⟨h1, -⟩ := h.cell a rfl 0 (by rw [h.len]; exact hn)
  obtain ⟨b, off, spot⟩ := a
  have hs : spot = none := by simpa [Addr.add] using World.cell?_spot h1
  subst hs
  simp only at hR
  rw [Addr.add_lit, cell_of_row w b (off + 0 * 2) _ _ _ hR] at h1
  cases off with
  | zero => simp [Part.val] at h1
  | succ o => simp at h1

set_option maxHeartbeats 8000000 in
set_option maxRecDepth 100000 in
theorem lay_any (w : World) (ao : Option Addr) (n cap : Nat) (ps : List Part) (hT : Tabs w) (h : KL w ao n cap ps) (hn : n ≤ 700) (hb : ∀ q ∈ ps, q.n ≤ 1000000) :
    Calls Tryz.prog 6 #[.slice ao n cap] w (LayPost w (layC (ps.map Part.xs))) := by
  have h2 := hT.two
  have hl1 := Nat.le_of_eq h.len
  have hl2 := Nat.le_of_eq h.len.symm
  have HB : Hid (∀ q ∈ ps, q.n ≤ 1000000) := hb
  have HBY : Hid (∀ b ∈ ps.map Part.xs, Byt b) := fun b hb => by
    obtain ⟨q, hq, rfl⟩ := List.mem_map.1 hb
    exact (h.sl q hq).byte
  obtain ⟨Wa, hWa⟩ : ∃ W, W = w.alloc (.cells #[.slice none 0 0] 30) := ⟨_, rfl⟩
  obtain ⟨Wb, hWb⟩ : ∃ W, W = Wa.alloc (.cells #[.bool true] 4) := ⟨_, rfl⟩
  have Ba : Below w.heap.size w Wa := by rw [hWa]; exact (Below.refl _ _).alloc (Nat.le_refl _) _
  have Bb : Below Wa.heap.size Wa Wb := by rw [hWb]; exact (Below.refl _ _).alloc (Nat.le_refl _) _
  have sa : Wa.heap.size = w.heap.size + 1 := by rw [hWa]; simp
  have sb : Wb.heap.size = w.heap.size + 2 := by rw [hWb]; simp [sa]
  have AA : Wa.heap[w.heap.size]? = some (.cells #[.slice none 0 0] 30) := by rw [hWa]; exact heap_alloc_new w _
  have AB : Wb.heap[w.heap.size + 1]? = some (.cells #[.bool true] 4) := by rw [hWb, ← sa]; exact heap_alloc_new Wa _
  have inv0 : LyI w w.heap.size (w.heap.size + 1) (w.heap.size + 2) Wb (.slice none 0 0) [] true := ⟨(Bb.block _ (by omega)).trans AA, AB, ⟨rfl, .inl ⟨rfl, rfl⟩⟩, fun _ h => by simp at h, fun _ h => by simp at h, Ba.trans (Bb.mono (by omega)), by omega⟩
  clear hb Ba Bb AA AB
  go_enter Tryz.func6, Tryz.ntmps6
  go_wp2_with fail
  rw [← hWa, ← hWb]
  obtain ⟨A, hA⟩ : ∃ A, A = w.heap.size := ⟨_, rfl⟩
  obtain ⟨R, hR⟩ : ∃ R, R = w.heap.size + 1 := ⟨_, rfl⟩
  rw [← hR, ← hA]
  rw [← hR, ← hA] at inv0
  have HAR : Hid (A = w.heap.size ∧ R = w.heap.size + 1) := ⟨hA, hR⟩
  obtain ⟨M, hM⟩ : ∃ M, M = A + 2 := ⟨_, rfl⟩
  rw [← hM] at inv0
  have HM : Hid (M = A + 2) := hM
  clear hA hR hWa hWb sa sb hM
  go_loopw [14] (fun i wr => ∃ (k : Nat) (v : Value) (its : List IP) (ls : List (List It)) (r : Bool), k ≤ n ∧ i = .int .i64 k ∧ Hid (layR ((ps.map Part.xs).take k) = .inr ls) ∧ LyI w A R M wr v its r ∧ Hid (its.map IP.it = ls.flatten ∧ r = jn [] ls)) (fun i _ => n - (intOf i).toNat)
  case atStart => exact ⟨0, _, [], [], true, Nat.zero_le _, rfl, rfl, inv0, rfl, rfl⟩
  case round =>
    clear inv0
    obtain ⟨k, v, its, ls, r, hkn, rfl, HL, inv, HJ⟩ := hrel
    have hB := inv.bel
    have hpos := inv.pos
    have HTL : Hid (its.length ≤ k * 64) := by
      show _ ≤ _
      obtain ⟨h3, h4⟩ := layR_all _ _ (fun b hb => HBY.out b (List.mem_of_mem_take hb)) HL.out
      have h5 := flat_short ls (fun l hl => (h4 l hl).1.len)
      have h6 := congrArg List.length HJ.out.1
      rw [List.length_map] at h6
      rw [List.length_take] at h3
      have : ls.length * 64 ≤ k * 64 := Nat.mul_le_mul_right _ (by omega)
      omega
    by_cases hlt : k < n
    · have hki : (k : Int) < (n : Int) := by omega
      have hkl : k < ps.length := by omega
      obtain ⟨b, off, rfl, hc⟩ := (h.below hB).vl.at (by omega)
      have c1 := hc k (by simpa using hkl)
      rw [List.getElem_map] at c1
      have S := (h.below hB).sl ps[k] (List.getElem_mem hkl)
      have hq := HB.out ps[k] (List.getElem_mem hkl)
      have HT : Hid ((ps.map Part.xs).take (k + 1) = (ps.map Part.xs).take k ++ [ps[k].xs] ∧ ps.map Part.xs = (ps.map Part.xs).take k ++ ps[k].xs :: (ps.map Part.xs).drop (k + 1)) := by
        have e : (ps.map Part.xs)[k]'(by simpa using hkl) = ps[k].xs := List.getElem_map ..
        refine ⟨by rw [List.take_succ_eq_append_getElem (by simpa using hkl), e], ?_⟩
        rw [← e, ← List.drop_eq_getElem_cons, List.take_append_drop]
      obtain ⟨q, hqe⟩ : ∃ q, q = ps[k] := ⟨_, rfl⟩
      rw [← hqe] at c1 S hq HT
      unfold Part.val at c1
      have CR := ckread_any wr q.ao q.n q.cap q.xs S (by omega)
      have HBQ : Hid (Byt q.xs) := S.byte
      clear hc hqe S
      cases hrd : rdCk q.xs with
      | inl z =>
        rw [hrd] at CR
        have HR : Hid (layC (ps.map Part.xs) = .inl z) := by
          show _ = _
          unfold layC
          rw [HT.out.2, layR_bad _ _ _ _ _ HL.out hrd]
        clear hrd
        go_wp2_with fail
        refine CR.mono ?_
        rintro e w1 P1
        obtain ⟨rfl, hz⟩ := P1.bad z rfl
        have B1 := hB.trans (P1.bel.mono hB.size)
        have hzb : (z != 0) = true := by simp [hz]
        have HZ : Hid (z ≠ 0) := hz
        clear P1 CR hz
        go_wp2
        go_ret2
        refine ⟨fun y hy => ?_, fun l hl => ?_, B1⟩
        · rw [HR.out] at hy
          obtain rfl := Sum.inl.inj hy
          exact ⟨rfl, HZ.out⟩
        · rw [HR.out] at hl
          cases hl
      | inr l =>
        rw [hrd] at CR
        have HRD : Hid (rdCk q.xs = .inr l) := hrd
        clear hrd
        go_wp2_with fail
        refine CR.mono ?_
        rintro e w1 P1
        obtain ⟨io, im, ic, js, rfl, IL1, hjs, hnew⟩ := P1.good l rfl
        have C1 := P1.bel
        obtain ⟨g1, g2, g3, g4⟩ := rdCk_good HBQ.out HRD.out
        have inv1 := inv.below C1
        have hil := IL1.len
        have hjl : js.length = l.length := by rw [← hjs, List.length_map]
        have him : 0 < im := by
          have := List.length_pos_iff.2 g2
          omega
        have him2 : im ≤ 64 := by have := g1.len; omega
        have hfar : ∀ y ∈ js, ∀ x, y.blk x → x ≠ A ∧ x ≠ R ∧ v.ownBlock ≠ some x := fun y hy x hx => by
          have h3 := hnew y hy x hx
          refine ⟨by omega, by omega, fun e => ?_⟩
          have := (inv.own.lt x e).2
          omega
        have hrow : ∀ a, io = some a → a.block ≠ R := fun a ha => by
          subst ha
          exact IL1.notBool him inv1.br
        have CG := gather_any w w1 A R M v its js r io im ic inv1 IL1 him (by have := HTL.out; omega) hfar hrow
        have HN : Hid (layR ((ps.map Part.xs).take (k + 1)) = .inr (ls ++ [l]) ∧ (its ++ js).map IP.it = (ls ++ [l]).flatten ∧ (r && joins (its.map IP.it) (js.map IP.it)) = jn [] (ls ++ [l])) := by
          refine ⟨?_, ?_, ?_⟩
          · rw [HT.out.1, layR_app _ _ _ HL.out, HRD.out]
          · rw [List.map_append, HJ.out.1, hjs, List.flatten_append, List.flatten_singleton]
          · rw [jn_snoc, List.nil_append, HJ.out.1, HJ.out.2, hjs]
        clear P1 CR IL1 inv1 inv hfar hrow hnew hjs hjl hil g1 g2 g3 g4 C1
        go_wp2_with fail
        refine CG.mono ?_
        rintro e w2 ⟨rfl, v2, K2⟩
        have HK2 : Hid (LyI w A R M w2 v2 (its ++ js) (r && joins (its.map IP.it) (js.map IP.it))) := K2
        clear CG K2
        go_wp2
        go_roundw
        case rel => exact ⟨k + 1, v2, its ++ js, ls ++ [l], _, by omega, by go_num, HN.out.1, HK2.out, HN.out.2.1, HN.out.2.2⟩
        case measure => simp [intOf]; omega
    · have hge : ¬ (k : Int) < (n : Int) := by omega
      have HLL : Hid (layR (ps.map Part.xs) = .inr ls) := by
        show _ = _
        have := HL.out
        rw [List.take_of_length_le (by rw [List.length_map]; omega)] at this
        exact this
      have HC : Hid (layC (ps.map Part.xs) = if r then .inr (its.map IP.it) else .inl 3) := by
        show _ = _
        unfold layC
        rw [HLL.out, HJ.out.1, HJ.out.2]
      have cr : wr.cell? ⟨R, 0, none⟩ = some (.bool r) := cell_of_row _ _ 0 _ _ _ inv.br
      cases r with
      | false =>
        clear inv HJ
        go_wp2
        go_ret2
        refine ⟨fun y hy => ?_, fun l hl => ?_, hB⟩
        · rw [HC.out] at hy
          obtain rfl := Sum.inl.inj hy
          exact ⟨rfl, by decide⟩
        · rw [HC.out] at hl
          cases hl
      | true =>
        obtain ⟨io, ic, rfl, IL1⟩ := inv.row
        have ca : wr.cell? ⟨A, 0, none⟩ = some (.slice io its.length ic) := cell_of_row _ _ 0 _ _ _ inv.ba
        obtain ⟨-, h4⟩ := layR_all _ _ HBY.out HLL.out
        have hsrt : Srt (its.map IP.it) := by
          rw [HJ.out.1]
          have := jn_srt ls [] List.Pairwise.nil (fun l hl => ⟨(h4 l hl).2.2.1, (h4 l hl).2.1⟩) HJ.out.2.symm
          simpa using this
        have hall : ∀ x ∈ its.map IP.it, okI x ∧ x.k ≠ [] := fun x hx => by
          rw [HJ.out.1] at hx
          obtain ⟨l, hl, hx⟩ := List.mem_flatten.1 hx
          exact ⟨(h4 l hl).1.all x hx, (h4 l hl).2.2.2 x hx⟩
        have hsz : ∀ q ∈ its, 1 ≤ q.k.n ∧ q.k.n ≤ 256 ∧ q.v.n ≤ 1024 := fun q hq => by
          have h5 := hall q.it (List.mem_map.2 ⟨q, hq, rfl⟩)
          have h6 := (IL1.sl q hq).1.len
          have h7 := (IL1.sl q hq).2.len
          have h8 : q.k.xs.length ≤ 256 := h5.1.k.1
          have h9 : q.v.xs.length ≤ 1024 := h5.1.v.1
          have h10 : q.k.xs ≠ [] := h5.2
          have := List.length_pos_iff.2 h10
          omega
        have CM := tmake_any wr io its.length ic its (hT.below hB h2) IL1 (by have := HTL.out; omega) (fun q hq => by have := hsz q hq; omega)
        have HJL : Hid (jL its 0 = 0) := jL_ok its 0 hsz
        have HS : Hid (Srt (its.map IP.it)) := hsrt
        have HA : Hid (∀ x ∈ its.map IP.it, okI x ∧ x.k ≠ []) := hall
        obtain ⟨il, hil⟩ : ∃ n, n = its.length := ⟨_, rfl⟩
        rw [← hil] at ca CM
        clear inv HJ IL1 h4 hsrt hall hsz hil HTL
        go_wp2_with fail
        refine CM.mono ?_
        rintro e w1 ⟨u, kd, rfl, C1, hcase⟩
        have B1 := hB.trans (C1.mono hB.size)
        rcases hcase with ⟨rfl, -, l', hp, hs', tt⟩ | ⟨-, -, hbad⟩
        · have HTT : Hid (TT w1 (.pointer u) (its.map IP.it)) := by
            show TT _ _ _
            rw [← hs'.perm HS.out hp]
            exact tt
          clear hp hs' tt CM
          go_wp2
          go_ret2
          refine ⟨fun y hy => ?_, fun l hl => ?_, B1⟩
          · rw [HC.out] at hy
            cases hy
          · rw [HC.out] at hl
            obtain rfl := Sum.inr.inj hl
            exact ⟨_, rfl, HTT.out, HS.out, HA.out⟩
        · exact absurd HS.out.nodup (hbad HJL.out)
end Go.Proofs.YtkmkmekhodcioaaGreatDoor

namespace Go.Proofs.YtkmkmekhodcioaaGreatDoor
open Go.RowKit

theorem own_slice {W : World} {base n : Nat} {e : TypeId} {size : Nat} {v : Value} {xs : List Value} (h : W.ownsRow base e size v n xs) : ∃ ao cap, v = .slice ao n cap := by
  rcases h.2 with ⟨rfl, rfl⟩ | ⟨g, cap, cur, rfl, _⟩
  · exact ⟨none, 0, rfl⟩
  · exact ⟨_, cap, rfl⟩
end Go.Proofs.YtkmkmekhodcioaaGreatDoor

namespace Go.Proofs.YtkmkmekhodcioaaGreatDoor
open Go.RowKit

/-- append of items to a row of the call's own. -/
theorem wpList_appIs {w : World} {ops : Array Oper} {rest : List Oper} {o : Oper} {a : Act} {Q : Exit → Act → World → Prop} (hgd : o.guard = none) (s x : Operand)
    (ho : o.op = .call { callee := .builtin .append, args := #[s, x], argTypes := #[30, 30] })
    (base : Nat) (v : Value) (ps : List IP) (hs : a.eval s = v) (hown : w.ownsRow base 43 2 v ps.length (flatI ps))
    (bo : Option Addr) (m c : Nat) (qs : List IP) (hx : a.eval x = .slice bo m c) (hil : IL w bo m c qs) (hn : ps.length + m ≤ 1000000) (hbase : base ≤ w.heap.size)
    (h : ∀ v' w', w'.ownsRow base 43 2 v' (ps ++ qs).length (flatI (ps ++ qs)) → Below base w w' → wpList Tryz.prog ops Q rest (a.put o.dst v') w') : wpList Tryz.prog ops Q (o :: rest) a w := by
  obtain ⟨v', w', hr, h1, h2⟩ := run_appI (w := w) o.type hown hbase hil hn
  refine wpList_plain hgd fun _ hK => ?_
  unfold Oper.wp execOp
  simp only [ho, resolve, invoke, builtin, Sem.run_bind, Sem.run_pure, Result.andThen_ok, List.map_toArray, List.map_cons, List.map_nil, hs, hx, hr, Oper.upon]
  exact hK _ _ (h v' w' h1 h2)

theorem put_parts {l : List It} {k : Nat} {key : List Int} (h1 : ∀ x ∈ l.take k, cmpL x.k key < 0) (h2 : ∀ x ∈ l.drop k, ¬ cmpL x.k key < 0) : lo key l = l.take k ∧ hi key l = (l.drop k).filter fun x => decide (cmpL key x.k < 0) := by
  have e : l = l.take k ++ l.drop k := (List.take_append_drop k l).symm
  constructor
  · unfold lo
    conv => lhs; rw [e]
    rw [List.filter_append, List.filter_eq_self.2 fun x hx => decide_eq_true (h1 x hx), List.filter_eq_nil_iff.2 fun x hx => by simpa using h2 x hx, List.append_nil]
  · unfold hi
    conv => lhs; rw [e]
    rw [List.filter_append, List.filter_eq_nil_iff.2 fun x hx => by simpa using cmpL_asym (h1 x hx), List.nil_append]
theorem put_drop {l : List It} (hs : Srt l) {k : Nat} {key : List Int} (hk : ∀ x r, l.drop k = x :: r → ¬ cmpL x.k key < 0) : ∀ x ∈ l.drop k, ¬ cmpL x.k key < 0 := by
  intro x hx
  cases hd : l.drop k with
  | nil => rw [hd] at hx; simp at hx
  | cons y r =>
    rw [hd] at hx
    have hy := hk y r hd
    have hsd : Srt (y :: r) := by rw [← hd]; exact List.Pairwise.sublist (List.drop_sublist k l) hs
    rcases List.mem_cons.1 hx with rfl | hx
    · exact hy
    · intro hlt
      exact hy (cmpL_lt_trans _ _ _ (hsd.cons.1 x hx) hlt)
/-- With the key's own item there. -/
theorem put_same {l : List It} (hs : Srt l) {k : Nat} {x y : It} {r : List It} (h1 : ∀ z ∈ l.take k, cmpL z.k x.k < 0) (hd : l.drop k = y :: r) (hy : y.k = x.k) : l.take k ++ x :: r = ins l x := by
  have hsd : Srt (y :: r) := by rw [← hd]; exact List.Pairwise.sublist (List.drop_sublist k l) hs
  obtain ⟨e1, e2⟩ := put_parts h1 (put_drop hs fun z q hz => by rw [hd] at hz; obtain ⟨rfl, -⟩ := List.cons.inj hz; rw [hy]; exact cmpL_irr _)
  unfold ins
  rw [e1, e2, hd, List.filter_cons, if_neg (by rw [hy]; simpa using cmpL_irr x.k), List.filter_eq_self.2 fun z hz => decide_eq_true (by rw [← hy]; exact hsd.cons.1 z hz)]
/-- Without. -/
theorem put_new {l : List It} (hs : Srt l) {k : Nat} {x : It} (h1 : ∀ z ∈ l.take k, cmpL z.k x.k < 0) (hd : ∀ y r, l.drop k = y :: r → ¬ cmpL y.k x.k < 0 ∧ y.k ≠ x.k) : l.take k ++ x :: l.drop k = ins l x := by
  have h2 := put_drop hs fun z q hz => (hd z q hz).1
  obtain ⟨e1, e2⟩ := put_parts h1 h2
  unfold ins
  rw [e1, e2, List.filter_eq_self.2 fun z hz => decide_eq_true ?_]
  cases he : l.drop k with
  | nil => rw [he] at hz; simp at hz
  | cons y r =>
    have hsd : Srt (y :: r) := by rw [← he]; exact List.Pairwise.sublist (List.drop_sublist k l) hs
    obtain ⟨g1, g2⟩ := hd y r he
    have gy : cmpL x.k y.k < 0 := by
      rcases cmpL_total x.k y.k with h | h | h
      · exact h
      · exact absurd h.symm g2
      · exact absurd h g1
    rw [he] at hz
    rcases List.mem_cons.1 hz with rfl | hz
    · exact gy
    · exact cmpL_lt_trans _ _ _ gy (hsd.cons.1 z hz)
end Go.Proofs.YtkmkmekhodcioaaGreatDoor

/-
  Texts in one: CkLay, CkBackM, SlConst, CkAlive, OneLaw9, Laid7, RowIn.
-/
import Derived.Test.YtiabdcejibeciaaDoorChunkOneZ15
import Derived.Test.YtiabdcejibeciaaDoorChunkOneZ16
import Derived.Test.YtiabdcejibeciaaDoorChunkOneZ19
import Derived.Test.YtiabdcejibeciaaDoorChunkOneZ0
import Derived.Lib.SlBytesConst
import Derived.Test.YtiabdcejibeciaaDoorChunkOneZ14
import Derived.Lib.SmallJoins
import Derived.Test.YtiabdcejibeciaaDoorChunkOneZ10
import Derived.Test.YtiabdcejibeciaaDoorRows
import Derived.ProofKit
import Derived.LaidMore
import Derived.Lay
import Derived.OpenShut
import Derived.Lib.LaidU8
import Derived.Stop.Joined
namespace Go.Proofs.YtiabdcejibeciaaDoor
open Go.RowKit

/-- What Lay answers. -/
structure LayPost (w : World) (t : Sum Int (List It)) (e : Ending) (w' : World) : Prop where
  bad : ∀ k, t = .inl k → e = .returned (.tuple #[.pointer none, .int .i64 k]) ∧ k ≠ 0
  good : ∀ l, t = .inr l → ∃ v, e = .returned (.tuple #[v, .int .i64 0]) ∧ TT w' v l ∧ Srt l ∧ (∀ x ∈ l, okI x ∧ x.k ≠ [])
  bel : Below w.heap.size w w'
theorem rdCk_good {b : List Int} {l : List It} (hb : Byt b) (h : rdCk b = .inr l) : okCk l ∧ l ≠ [] ∧ Srt l ∧ ∀ x ∈ l, x.k ≠ [] := by
  obtain ⟨-, h1, h2⟩ := rdCk_back hb h
  obtain ⟨h3, h4, h5⟩ := kindCk_ok h2
  exact ⟨h1, h3, h4, h5⟩
theorem layR_app : ∀ (bs : List (List Int)) (b : List Int) (ls : List (List It)), layR bs = .inr ls → layR (bs ++ [b]) = match rdCk b with
    | .inl k => .inl k
    | .inr l => .inr (ls ++ [l])
  | [], b, ls, h => by
    obtain rfl := Sum.inr.inj h
    simp only [List.nil_append, layR]
    cases rdCk b <;> rfl
  | a :: bs, b, ls, h => by
    simp only [List.cons_append, layR] at h ⊢
    cases ha : rdCk a with
    | inl k => rw [ha] at h; simp at h
    | inr l =>
      rw [ha] at h
      cases hr : layR bs with
      | inl k => rw [hr] at h; simp at h
      | inr ls' =>
        rw [hr] at h
        obtain rfl := Sum.inr.inj h
        rw [layR_app bs b ls' hr]
        cases rdCk b <;> rfl
theorem layR_bad : ∀ (bs : List (List Int)) (b : List Int) (cs : List (List Int)) (ls : List (List It)) (k : Int), layR bs = .inr ls → rdCk b = .inl k → layR (bs ++ b :: cs) = .inl k
  | [], b, cs, ls, k, _, hk => by
    simp only [List.nil_append, layR, hk]
  | a :: bs, b, cs, ls, k, h, hk => by
    simp only [List.cons_append, layR] at h ⊢
    cases ha : rdCk a with
    | inl k => rw [ha] at h; simp at h
    | inr l =>
      rw [ha] at h
      cases hr : layR bs with
      | inl k => rw [hr] at h; simp at h
      | inr ls' => rw [layR_bad bs b cs ls' k hr hk]
theorem jn_snoc : ∀ (ls : List (List It)) (a l : List It), jn a (ls ++ [l]) = (jn a ls && joins (a ++ ls.flatten) l)
  | [], a, l => by simp [jn]
  | x :: ls, a, l => by
    rw [List.cons_append, jn, jn, jn_snoc ls (a ++ x) l, List.flatten_cons, List.append_assoc, Bool.and_assoc]
theorem layR_all : ∀ (bs : List (List Int)) (ls : List (List It)), (∀ b ∈ bs, Byt b) → layR bs = .inr ls → ls.length = bs.length ∧ ∀ l ∈ ls, okCk l ∧ l ≠ [] ∧ Srt l ∧ ∀ x ∈ l, x.k ≠ []
  | [], ls, _, h => by
    obtain rfl := Sum.inr.inj h
    simp
  | b :: bs, ls, hb, h => by
    simp only [layR] at h
    cases ha : rdCk b with
    | inl k => rw [ha] at h; simp at h
    | inr l =>
      rw [ha] at h
      cases hr : layR bs with
      | inl k => rw [hr] at h; simp at h
      | inr ls' =>
        rw [hr] at h
        obtain rfl := Sum.inr.inj h
        obtain ⟨h1, h2⟩ := layR_all bs ls' (fun x hx => hb x (List.mem_cons_of_mem _ hx)) hr
        refine ⟨by simp [h1], fun x hx => ?_⟩
        rcases List.mem_cons.1 hx with rfl | hx
        · exact rdCk_good (hb b (List.mem_cons_self ..)) ha
        · exact h2 x hx
theorem flat_short : ∀ (ls : List (List It)), (∀ l ∈ ls, l.length ≤ 64) → ls.flatten.length ≤ ls.length * 64
  | [], _ => by simp
  | l :: ls, h => by
    have := flat_short ls (fun x hx => h x (List.mem_cons_of_mem _ hx))
    have := h l (List.mem_cons_self ..)
    rw [List.flatten_cons, List.length_append, List.length_cons]
    omega
theorem jL_ok : ∀ (its : List IP) (acc : Int), (∀ q ∈ its, 1 ≤ q.k.n ∧ q.k.n ≤ 256 ∧ q.v.n ≤ 1024) → jL its acc = acc
  | [], _, _ => rfl
  | q :: its, acc, h => by
    have hq := h q (List.mem_cons_self ..)
    have e : badK q.k.n = false := by simp [badK]; omega
    rw [jL, e, if_neg (by simp), if_neg (show ¬ 1024 < q.v.n by omega), jL_ok its acc (fun x hx => h x (List.mem_cons_of_mem _ hx))]
theorem Srt.nodup {l : List It} (h : Srt l) : (l.map It.k).Nodup := by
  rw [List.nodup_iff_pairwise_ne, List.pairwise_map]
  exact h.imp fun e => cmpL_lt_ne e

theorem IL.notBool {w : World} {a : Addr} {n cap : Nat} {its : List IP} (h : IL w (some a) n cap its) (hn : 0 < n) {R : Nat} {r : Bool} {t : TypeId} (hR : w.heap[R]? = some (.cells #[.bool r] t)) : a.block ≠ R := by
  rintro rfl
  obtain ⟨h1, -⟩ := h.cell a rfl 0 (by rw [h.len]; exact hn)
  obtain ⟨b, off, spot⟩ := a
  have hs : spot = none := by simpa [Addr.add] using World.cell?_spot h1
  subst hs
  simp only at hR
  rw [Addr.add_lit, cell_of_row w b (off + 0 * 2) _ _ _ hR] at h1
  cases off with
  | zero => simp [Part.val] at h1
  | succ o => simp at h1

set_option maxHeartbeats 8000000 in
set_option maxRecDepth 100000 in
theorem lay_any (w : World) (ao : Option Addr) (n cap : Nat) (ps : List Part) (hT : Tabs w) (h : KL w ao n cap ps) (hn : n ≤ 700) (hb : ∀ q ∈ ps, q.n ≤ 1000000) :
    Calls Tryd.prog 42 #[.slice ao n cap] w (LayPost w (layC (ps.map Part.xs))) := by
  have h2 := hT.two
  have hl1 := Nat.le_of_eq h.len
  have hl2 := Nat.le_of_eq h.len.symm
  have HB : Hid (∀ q ∈ ps, q.n ≤ 1000000) := hb
  have HBY : Hid (∀ b ∈ ps.map Part.xs, Byt b) := fun b hb => by
    obtain ⟨q, hq, rfl⟩ := List.mem_map.1 hb
    exact (h.sl q hq).byte
  obtain ⟨Wa, hWa⟩ : ∃ W, W = w.alloc (.cells #[.slice none 0 0] 22) := ⟨_, rfl⟩
  obtain ⟨Wb, hWb⟩ : ∃ W, W = Wa.alloc (.cells #[.bool true] 4) := ⟨_, rfl⟩
  have Ba : Below w.heap.size w Wa := by rw [hWa]; exact (Below.refl _ _).alloc (Nat.le_refl _) _
  have Bb : Below Wa.heap.size Wa Wb := by rw [hWb]; exact (Below.refl _ _).alloc (Nat.le_refl _) _
  have sa : Wa.heap.size = w.heap.size + 1 := by rw [hWa]; simp
  have sb : Wb.heap.size = w.heap.size + 2 := by rw [hWb]; simp [sa]
  have AA : Wa.heap[w.heap.size]? = some (.cells #[.slice none 0 0] 22) := by rw [hWa]; exact heap_alloc_new w _
  have AB : Wb.heap[w.heap.size + 1]? = some (.cells #[.bool true] 4) := by rw [hWb, ← sa]; exact heap_alloc_new Wa _
  have inv0 : LyI w w.heap.size (w.heap.size + 1) (w.heap.size + 2) Wb (.slice none 0 0) [] true := ⟨(Bb.block _ (by omega)).trans AA, AB, ⟨rfl, .inl ⟨rfl, rfl⟩⟩, fun _ h => by simp at h, fun _ h => by simp at h, Ba.trans (Bb.mono (by omega)), by omega⟩
  clear hb Ba Bb AA AB
  go_enter Tryd.func42, Tryd.ntmps42
  go_wp2_with fail
  rw [← hWa, ← hWb]
  obtain ⟨A, hA⟩ : ∃ A, A = w.heap.size := ⟨_, rfl⟩
  obtain ⟨R, hR⟩ : ∃ R, R = w.heap.size + 1 := ⟨_, rfl⟩
  rw [← hR, ← hA]
  rw [← hR, ← hA] at inv0
  have HAR : Hid (A = w.heap.size ∧ R = w.heap.size + 1) := ⟨hA, hR⟩
  obtain ⟨M, hM⟩ : ∃ M, M = A + 2 := ⟨_, rfl⟩
  rw [← hM] at inv0
  have HM : Hid (M = A + 2) := hM
  clear hA hR hWa hWb sa sb hM
  go_loopw [14] (fun i wr => ∃ (k : Nat) (v : Value) (its : List IP) (ls : List (List It)) (r : Bool), k ≤ n ∧ i = .int .i64 k ∧ Hid (layR ((ps.map Part.xs).take k) = .inr ls) ∧ LyI w A R M wr v its r ∧ Hid (its.map IP.it = ls.flatten ∧ r = jn [] ls)) (fun i _ => n - (intOf i).toNat)
  case atStart => exact ⟨0, _, [], [], true, Nat.zero_le _, rfl, rfl, inv0, rfl, rfl⟩
  case round =>
    clear inv0
    obtain ⟨k, v, its, ls, r, hkn, rfl, HL, inv, HJ⟩ := hrel
    have hB := inv.bel
    have hpos := inv.pos
    have HTL : Hid (its.length ≤ k * 64) := by
      show _ ≤ _
      obtain ⟨h3, h4⟩ := layR_all _ _ (fun b hb => HBY.out b (List.mem_of_mem_take hb)) HL.out
      have h5 := flat_short ls (fun l hl => (h4 l hl).1.len)
      have h6 := congrArg List.length HJ.out.1
      rw [List.length_map] at h6
      rw [List.length_take] at h3
      have : ls.length * 64 ≤ k * 64 := Nat.mul_le_mul_right _ (by omega)
      omega
    by_cases hlt : k < n
    · have hki : (k : Int) < (n : Int) := by omega
      have hkl : k < ps.length := by omega
      obtain ⟨b, off, rfl, hc⟩ := (h.below hB).vl.at (by omega)
      have c1 := hc k (by simpa using hkl)
      rw [List.getElem_map] at c1
      have S := (h.below hB).sl ps[k] (List.getElem_mem hkl)
      have hq := HB.out ps[k] (List.getElem_mem hkl)
      have HT : Hid ((ps.map Part.xs).take (k + 1) = (ps.map Part.xs).take k ++ [ps[k].xs] ∧ ps.map Part.xs = (ps.map Part.xs).take k ++ ps[k].xs :: (ps.map Part.xs).drop (k + 1)) := by
        have e : (ps.map Part.xs)[k]'(by simpa using hkl) = ps[k].xs := List.getElem_map ..
        refine ⟨by rw [List.take_succ_eq_append_getElem (by simpa using hkl), e], ?_⟩
        rw [← e, ← List.drop_eq_getElem_cons, List.take_append_drop]
      obtain ⟨q, hqe⟩ : ∃ q, q = ps[k] := ⟨_, rfl⟩
      rw [← hqe] at c1 S hq HT
      unfold Part.val at c1
      have CR := ckread_any wr q.ao q.n q.cap q.xs S (by omega)
      have HBQ : Hid (Byt q.xs) := S.byte
      clear hc hqe S
      cases hrd : rdCk q.xs with
      | inl z =>
        rw [hrd] at CR
        have HR : Hid (layC (ps.map Part.xs) = .inl z) := by
          show _ = _
          unfold layC
          rw [HT.out.2, layR_bad _ _ _ _ _ HL.out hrd]
        clear hrd
        go_wp2_with fail
        refine CR.mono ?_
        rintro e w1 P1
        obtain ⟨rfl, hz⟩ := P1.bad z rfl
        have B1 := hB.trans (P1.bel.mono hB.size)
        have hzb : (z != 0) = true := by simp [hz]
        have HZ : Hid (z ≠ 0) := hz
        clear P1 CR hz
        go_wp2
        go_ret2
        refine ⟨fun y hy => ?_, fun l hl => ?_, B1⟩
        · rw [HR.out] at hy
          obtain rfl := Sum.inl.inj hy
          exact ⟨rfl, HZ.out⟩
        · rw [HR.out] at hl
          cases hl
      | inr l =>
        rw [hrd] at CR
        have HRD : Hid (rdCk q.xs = .inr l) := hrd
        clear hrd
        go_wp2_with fail
        refine CR.mono ?_
        rintro e w1 P1
        obtain ⟨io, im, ic, js, rfl, IL1, hjs, hnew⟩ := P1.good l rfl
        have C1 := P1.bel
        obtain ⟨g1, g2, g3, g4⟩ := rdCk_good HBQ.out HRD.out
        have inv1 := inv.below C1
        have hil := IL1.len
        have hjl : js.length = l.length := by rw [← hjs, List.length_map]
        have him : 0 < im := by
          have := List.length_pos_iff.2 g2
          omega
        have him2 : im ≤ 64 := by have := g1.len; omega
        have hfar : ∀ y ∈ js, ∀ x, y.blk x → x ≠ A ∧ x ≠ R ∧ v.ownBlock ≠ some x := fun y hy x hx => by
          have h3 := hnew y hy x hx
          refine ⟨by omega, by omega, fun e => ?_⟩
          have := (inv.own.lt x e).2
          omega
        have hrow : ∀ a, io = some a → a.block ≠ R := fun a ha => by
          subst ha
          exact IL1.notBool him inv1.br
        have CG := gather_any w w1 A R M v its js r io im ic inv1 IL1 him (by have := HTL.out; omega) hfar hrow
        have HN : Hid (layR ((ps.map Part.xs).take (k + 1)) = .inr (ls ++ [l]) ∧ (its ++ js).map IP.it = (ls ++ [l]).flatten ∧ (r && joins (its.map IP.it) (js.map IP.it)) = jn [] (ls ++ [l])) := by
          refine ⟨?_, ?_, ?_⟩
          · rw [HT.out.1, layR_app _ _ _ HL.out, HRD.out]
          · rw [List.map_append, HJ.out.1, hjs, List.flatten_append, List.flatten_singleton]
          · rw [jn_snoc, List.nil_append, HJ.out.1, HJ.out.2, hjs]
        clear P1 CR IL1 inv1 inv hfar hrow hnew hjs hjl hil g1 g2 g3 g4 C1
        go_wp2_with fail
        refine CG.mono ?_
        rintro e w2 ⟨rfl, v2, K2⟩
        have HK2 : Hid (LyI w A R M w2 v2 (its ++ js) (r && joins (its.map IP.it) (js.map IP.it))) := K2
        clear CG K2
        go_wp2
        go_roundw
        case rel => exact ⟨k + 1, v2, its ++ js, ls ++ [l], _, by omega, by go_num, HN.out.1, HK2.out, HN.out.2.1, HN.out.2.2⟩
        case measure => simp [intOf]; omega
    · have hge : ¬ (k : Int) < (n : Int) := by omega
      have HLL : Hid (layR (ps.map Part.xs) = .inr ls) := by
        show _ = _
        have := HL.out
        rw [List.take_of_length_le (by rw [List.length_map]; omega)] at this
        exact this
      have HC : Hid (layC (ps.map Part.xs) = if r then .inr (its.map IP.it) else .inl 3) := by
        show _ = _
        unfold layC
        rw [HLL.out, HJ.out.1, HJ.out.2]
      have cr : wr.cell? ⟨R, 0, none⟩ = some (.bool r) := cell_of_row _ _ 0 _ _ _ inv.br
      cases r with
      | false =>
        clear inv HJ
        go_wp2
        go_ret2
        refine ⟨fun y hy => ?_, fun l hl => ?_, hB⟩
        · rw [HC.out] at hy
          obtain rfl := Sum.inl.inj hy
          exact ⟨rfl, by decide⟩
        · rw [HC.out] at hl
          cases hl
      | true =>
        obtain ⟨io, ic, rfl, IL1⟩ := inv.row
        have ca : wr.cell? ⟨A, 0, none⟩ = some (.slice io its.length ic) := cell_of_row _ _ 0 _ _ _ inv.ba
        obtain ⟨-, h4⟩ := layR_all _ _ HBY.out HLL.out
        have hsrt : Srt (its.map IP.it) := by
          rw [HJ.out.1]
          have := jn_srt ls [] List.Pairwise.nil (fun l hl => ⟨(h4 l hl).2.2.1, (h4 l hl).2.1⟩) HJ.out.2.symm
          simpa using this
        have hall : ∀ x ∈ its.map IP.it, okI x ∧ x.k ≠ [] := fun x hx => by
          rw [HJ.out.1] at hx
          obtain ⟨l, hl, hx⟩ := List.mem_flatten.1 hx
          exact ⟨(h4 l hl).1.all x hx, (h4 l hl).2.2.2 x hx⟩
        have hsz : ∀ q ∈ its, 1 ≤ q.k.n ∧ q.k.n ≤ 256 ∧ q.v.n ≤ 1024 := fun q hq => by
          have h5 := hall q.it (List.mem_map.2 ⟨q, hq, rfl⟩)
          have h6 := (IL1.sl q hq).1.len
          have h7 := (IL1.sl q hq).2.len
          have h8 : q.k.xs.length ≤ 256 := h5.1.k.1
          have h9 : q.v.xs.length ≤ 1024 := h5.1.v.1
          have h10 : q.k.xs ≠ [] := h5.2
          have := List.length_pos_iff.2 h10
          omega
        have CM := tmake_any wr io its.length ic its (hT.below hB h2) IL1 (by have := HTL.out; omega) (fun q hq => by have := hsz q hq; omega)
        have HJL : Hid (jL its 0 = 0) := jL_ok its 0 hsz
        have HS : Hid (Srt (its.map IP.it)) := hsrt
        have HA : Hid (∀ x ∈ its.map IP.it, okI x ∧ x.k ≠ []) := hall
        obtain ⟨il, hil⟩ : ∃ n, n = its.length := ⟨_, rfl⟩
        rw [← hil] at ca CM
        clear inv HJ IL1 h4 hsrt hall hsz hil HTL
        go_wp2_with fail
        refine CM.mono ?_
        rintro e w1 ⟨u, kd, rfl, C1, hcase⟩
        have B1 := hB.trans (C1.mono hB.size)
        rcases hcase with ⟨rfl, -, l', hp, hs', tt⟩ | ⟨-, -, hbad⟩
        · have HTT : Hid (TT w1 (.pointer u) (its.map IP.it)) := by
            show TT _ _ _
            rw [← hs'.perm HS.out hp]
            exact tt
          clear hp hs' tt CM
          go_wp2
          go_ret2
          refine ⟨fun y hy => ?_, fun l hl => ?_, B1⟩
          · rw [HC.out] at hy
            cases hy
          · rw [HC.out] at hl
            obtain rfl := Sum.inr.inj hl
            exact ⟨_, rfl, HTT.out, HS.out, HA.out⟩
        · exact absurd HS.out.nodup (hbad HJL.out)
end Go.Proofs.YtiabdcejibeciaaDoor

namespace Go.Proofs.YtiabdcejibeciaaDoor
open Go.RowKit

/-- Items that a tree may have. -/
structure okL (l : List It) : Prop where
  srt : Srt l
  all : ∀ x ∈ l, okI x ∧ x.k ≠ []
theorem cutF_all {per : Nat} (hp : 0 < per) (hq : per ≤ 64) : ∀ (f : Nat) (l : List It), l.length ≤ f → okL l → ∀ c ∈ cutF f per l, okCk c ∧ kindCk c = 0
  | 0, l, _, _ => by simp [cutF]
  | f + 1, l, hf, h => by
    cases l with
    | nil => simp [cutF]
    | cons x l =>
      have h1 : ((x :: l).drop per).length ≤ f := by rw [List.length_drop]; simp only [List.length_cons] at hf ⊢; omega
      have e : x :: l = (x :: l).take per ++ (x :: l).drop per := (List.take_append_drop per (x :: l)).symm
      have hs := h.srt
      rw [e] at hs
      intro c hc
      have hc : c ∈ (x :: l).take per :: cutF f per ((x :: l).drop per) := hc
      rcases List.mem_cons.1 hc with rfl | hc
      · refine ⟨⟨by rw [List.length_take]; omega, fun y hy => (h.all y (List.mem_of_mem_take hy)).1⟩, kindCk_of ?_ hs.app.1 fun y hy => (h.all y (List.mem_of_mem_take hy)).2⟩
        intro hn
        have := congrArg List.length hn
        rw [List.length_take] at this
        simp only [List.length_cons, List.length_nil] at this
        omega
      · exact cutF_all hp hq f _ h1 ⟨hs.app.2.1, fun y hy => h.all y (List.mem_of_mem_drop hy)⟩ c hc
theorem cuts_all {per : Nat} (hp : 0 < per) (hq : per ≤ 64) {l : List It} (h : okL l) : ∀ c ∈ cuts per l, okCk c ∧ kindCk c = 0 := cutF_all hp hq l.length l (Nat.le_refl _) h
theorem layR_put : ∀ (cs : List (List It)), (∀ c ∈ cs, okCk c ∧ kindCk c = 0) → layR (cs.map putCk) = .inr cs
  | [], _ => rfl
  | c :: cs, h => by
    have h1 := h c (List.mem_cons_self ..)
    rw [List.map_cons, layR, rdCk_put h1.1 h1.2, layR_put cs (fun x hx => h x (List.mem_cons_of_mem _ hx))]
theorem joins_of {a l : List It} (h : Srt (a ++ l)) : joins a l = true := by
  unfold joins
  cases ha : a.getLast? with
  | none => rfl
  | some x =>
    cases l with
    | nil => rfl
    | cons y l => exact decide_eq_true (h.app.2.2 x (List.mem_of_getLast? ha) y (List.mem_cons_self ..))
theorem jn_of : ∀ (ls : List (List It)) (a : List It), Srt (a ++ ls.flatten) → jn a ls = true
  | [], _, _ => rfl
  | l :: ls, a, h => by
    rw [List.flatten_cons, ← List.append_assoc] at h
    rw [jn, joins_of h.app.1, jn_of ls (a ++ l) h]
    rfl
/-- What was cut is laid as it was. -/
theorem layC_cuts {per : Nat} (hp : 0 < per) (hq : per ≤ 64) {l : List It} (h : okL l) : layC ((cuts per l).map putCk) = .inr l := by
  unfold layC
  rw [layR_put _ (cuts_all hp hq h)]
  have e : (cuts per l).flatten = l := cuts_flat per hp l.length l (Nat.le_refl _)
  simp only
  rw [jn_of _ _ (by rw [List.nil_append, e]; exact h.srt), e]
  rfl
end Go.Proofs.YtiabdcejibeciaaDoor

namespace Go.Proofs.YtiabdcejibeciaaDoor
open Go.RowKit

/-- Bytes that are written out, marked. -/
theorem Sl.const (w : World) (xs : List Int) (fr : Nat × Nat) (h : Byt xs) (hn : xs.length ≤ maxLen) : Sl (w.alloc (.cells (bv xs).toArray 5 fr)) (some ⟨w.heap.size, 0, none⟩) xs.length xs.length xs := by
  refine ⟨rfl, Nat.le_refl _, hn, fun h => by simp at h, fun a ha i hi => ?_, h⟩
  obtain rfl := Option.some.inj ha
  rw [Addr.add_lit, Nat.zero_add, cell_of_row _ w.heap.size i (bv xs).toArray 5 fr (heap_alloc_new w _)]
  simpa using bv_get xs i hi
end Go.Proofs.YtiabdcejibeciaaDoor

namespace Go.Proofs.YtiabdcejibeciaaDoor
open Go.RowKit

def abc : List It := [⟨[97], []⟩, ⟨[98], []⟩, ⟨[99], []⟩]
theorem byt_one (c : Int) (h : 0 ≤ c ∧ c ≤ 255) : Byt [c] := by
  intro x hx
  rw [List.mem_singleton.1 hx]
  exact h
theorem abc_ok : okL abc := by
  refine ⟨?_, fun x hx => ?_⟩
  · refine (rises_srt _).1 ?_
    decide
  · unfold abc at hx
    simp only [List.mem_cons, List.not_mem_nil, or_false] at hx
    rcases hx with rfl | rfl | rfl
    · exact ⟨⟨⟨by simp, byt_one _ (by omega)⟩, by simp, fun _ h => by simp at h⟩, by simp⟩
    · exact ⟨⟨⟨by simp, byt_one _ (by omega)⟩, by simp, fun _ h => by simp at h⟩, by simp⟩
    · exact ⟨⟨⟨by simp, byt_one _ (by omega)⟩, by simp, fun _ h => by simp at h⟩, by simp⟩
def partOf (b : Nat) (c : Int) : Part := ⟨some ⟨b, 0, none⟩, 1, 1, [c]⟩
def ipOf (b : Nat) (c : Int) : IP := ⟨partOf b c, ⟨none, 0, 0, []⟩⟩
theorem KL.short {w : World} {ao : Option Addr} {n cap : Nat} {qs : List Part} (h : KL w ao n cap qs) {M : Nat} (hx : ∀ b ∈ qs.map Part.xs, b.length ≤ M) : ∀ q ∈ qs, q.n ≤ M := fun q hq => by
  have := hx q.xs (List.mem_map.2 ⟨q, hq, rfl⟩)
  rw [← (h.sl q hq).len]
  exact this

set_option maxHeartbeats 8000000 in
set_option maxRecDepth 100000 in
theorem alive9 (w : World) (hT : Tabs w) : Calls Tryd.prog 20 #[] w fun e w' => e = .returned (.bool true) ∧ Below w.heap.size w w' := by
  have h2 := hT.two
  have kc := fun (w : World) (C : Array Value) (n c g : Nat) (hg : g = w.heap.size) => Joins.run_convert_bytes_const_at (P := Tryd.prog) w 26 5 C n c g hg Tryd.underlying26 Tryd.underlying5
  obtain ⟨W1, hW1⟩ : ∃ W, W = w.alloc (.cells #[.int .u8 97] 5 (1, 2)) := ⟨_, rfl⟩
  obtain ⟨W2, hW2⟩ : ∃ W, W = W1.alloc (.cells #[.int .u8 98] 5 (1, 2)) := ⟨_, rfl⟩
  obtain ⟨W3, hW3⟩ : ∃ W, W = W2.alloc (.cells #[.int .u8 99] 5 (1, 2)) := ⟨_, rfl⟩
  have z1 : W1.heap.size = w.heap.size + 1 := by rw [hW1]; simp
  have z2 : W2.heap.size = w.heap.size + 2 := by rw [hW2]; simp [z1]
  have z3 : W3.heap.size = w.heap.size + 3 := by rw [hW3]; simp [z2]
  have k1 := kc w #[.int .u8 97] 1 1 w.heap.size rfl
  have k2 := kc W1 #[.int .u8 98] 1 1 (w.heap.size + 1) z1.symm
  have k3 := kc W2 #[.int .u8 99] 1 1 (w.heap.size + 2) z2.symm
  obtain ⟨W4, hW4⟩ : ∃ W, W = W3.alloc (.cells #[.slice (some ⟨w.heap.size, 0, none⟩) 1 1, .slice none 0 0, .slice (some ⟨w.heap.size + 1, 0, none⟩) 1 1, .slice none 0 0, .slice (some ⟨w.heap.size + 1 + 1, 0, none⟩) 1 1, .slice none 0 0] 28) := ⟨_, rfl⟩
  have B1 : Below w.heap.size w W1 := by rw [hW1]; exact (Below.refl _ _).alloc (Nat.le_refl _) _
  have B2 : Below W1.heap.size W1 W2 := by rw [hW2]; exact (Below.refl _ _).alloc (Nat.le_refl _) _
  have B3 : Below W2.heap.size W2 W3 := by rw [hW3]; exact (Below.refl _ _).alloc (Nat.le_refl _) _
  have B4 : Below W3.heap.size W3 W4 := by rw [hW4]; exact (Below.refl _ _).alloc (Nat.le_refl _) _
  have S1 : Sl W1 (some ⟨w.heap.size, 0, none⟩) 1 1 [97] := by rw [hW1]; exact Sl.const w [97] (1, 2) (byt_one _ (by omega)) (by simp [maxLen])
  have S2 : Sl W2 (some ⟨w.heap.size + 1, 0, none⟩) 1 1 [98] := by rw [hW2, ← z1]; exact Sl.const W1 [98] (1, 2) (byt_one _ (by omega)) (by simp [maxLen])
  have S3 : Sl W3 (some ⟨w.heap.size + 2, 0, none⟩) 1 1 [99] := by rw [hW3, ← z2]; exact Sl.const W2 [99] (1, 2) (byt_one _ (by omega)) (by simp [maxLen])
  have G4 : W4.heap[w.heap.size + 3]? = some (.cells #[.slice (some ⟨w.heap.size, 0, none⟩) 1 1, .slice none 0 0, .slice (some ⟨w.heap.size + 1, 0, none⟩) 1 1, .slice none 0 0, .slice (some ⟨w.heap.size + 1 + 1, 0, none⟩) 1 1, .slice none 0 0] 28) := by rw [hW4, ← z3]; exact heap_alloc_new W3 _
  have I4 : IL W4 (some ⟨w.heap.size + 3, 0, none⟩) 3 3 [ipOf w.heap.size 97, ipOf (w.heap.size + 1) 98, ipOf (w.heap.size + 2) 99] := by
    refine ⟨rfl, Nat.le_refl _, by simp [maxLen], fun h => by simp at h, fun a ha i hi => ?_, fun q hq => ?_⟩
    · obtain rfl := Option.some.inj ha
      simp only [List.length_cons, List.length_nil] at hi
      rw [Addr.add_lit, Addr.add_lit, Nat.zero_add, Nat.zero_add, cell_of_row _ _ (i * 2) _ _ _ G4, cell_of_row _ _ (i * 2 + 1) _ _ _ G4]
      obtain rfl | rfl | rfl : i = 0 ∨ i = 1 ∨ i = 2 := by omega
      · exact ⟨rfl, rfl⟩
      · exact ⟨rfl, rfl⟩
      · exact ⟨rfl, rfl⟩
    · simp only [List.mem_cons, List.not_mem_nil, or_false] at hq
      rcases hq with rfl | rfl | rfl
      · exact ⟨((S1.below B2).below B3).below B4, Sl.nothing _⟩
      · exact ⟨(S2.below B3).below B4, Sl.nothing _⟩
      · exact ⟨S3.below B4, Sl.nothing _⟩
  have E4 : Below w.heap.size w W4 := B1.trans ((B2.mono B1.size).trans ((B3.mono (by omega)).trans (B4.mono (by omega))))
  have CM := tmake_any W4 (some ⟨w.heap.size + 3, 0, none⟩) 3 3 _ (hT.below E4 h2) I4 (by omega) (fun q hq => by
    simp only [List.mem_cons, List.not_mem_nil, or_false] at hq
    rcases hq with rfl | rfl | rfl <;> simp [ipOf, partOf])
  clear I4 G4 S1 S2 S3 B1 B2 B3 B4 z2 z3
  go_enter Tryd.func20, Tryd.ntmps20
  go_wp2_with fail
  rw [← hW1, ← hW2, ← hW3, ← hW4]
  clear hW1 hW2 hW3 hW4 k1 k2 k3 kc z1
  refine CM.mono ?_
  rintro e w1 ⟨u, kd, rfl, C1, hcase⟩
  have E1 := E4.trans (C1.mono E4.size)
  clear CM C1 E4
  obtain ⟨rfl, TT1⟩ : kd = 0 ∧ TT w1 (.pointer u) abc := by
    rcases hcase with ⟨rfl, -, l', hp, hs', tt⟩ | ⟨-, -, hbad⟩
    · refine ⟨rfl, ?_⟩
      rw [← hs'.perm abc_ok.srt hp]
      exact tt
    · exact absurd abc_ok.srt.nodup (hbad rfl)
  clear hcase
  have CC := cut_any w1 (.pointer u) abc 2 TT1 abc_ok.srt (by decide) (fun x hx => by have h := (abc_ok.all x hx).1; exact ⟨⟨h.k.2, h.k.1⟩, h.v.2, by have := h.v.1; omega⟩)
  go_wp2_with fail
  refine CC.mono ?_
  rintro e w2 P2
  obtain ⟨ao, n, cap, qs, rfl, K2, hqs⟩ := P2.good (by decide) (by decide)
  have C2 := P2.bel
  have E2 := E1.trans (C2.mono E1.size)
  have hqs : qs.map Part.xs = (cuts 2 abc).map putCk := hqs
  obtain rfl : n = 2 := by
    rw [← K2.len, ← List.length_map (f := Part.xs), hqs]
    rfl
  have CL := lay_any w2 ao 2 cap qs (hT.below E2 h2) K2 (by omega) (K2.short (M := 1000000) (by
    rw [hqs]
    decide))
  rw [hqs, layC_cuts (by decide) (by decide) abc_ok] at CL
  clear P2 CC K2 hqs C2 E1 TT1
  go_wp2_with fail
  refine CL.mono ?_
  rintro e w3 P3
  obtain ⟨v, rfl, TT3, -, -⟩ := P3.good abc rfl
  have C3 := P3.bel
  have E3 := E2.trans (C3.mono E2.size)
  have CN := len_any w3 v abc TT3 abc_ok.srt (by decide)
  have hl3 : (((abc.length : Nat) : Int) == 3) = true := rfl
  clear P3 CL C3 E2 TT3
  go_wp2_with fail
  refine CN.mono ?_
  rintro e w4 ⟨rfl, C4⟩
  have E5 := E3.trans (C4.mono E3.size)
  go_wp2
  go_ret
  exact ⟨rfl, E5⟩
end Go.Proofs.YtiabdcejibeciaaDoor

namespace Go.Proofs.YtiabdcejibeciaaDoor
open Go.RowKit

theorem cuts_one {l : List It} (h : l ≠ []) (hl : l.length ≤ 64) : cuts 64 l = [l] := by
  rw [cuts_cons 64 (by decide) h, List.take_of_length_le hl, List.drop_eq_nil_of_le hl, cuts_nil]

set_option maxHeartbeats 8000000 in
set_option maxRecDepth 100000 in
theorem chunkOne_any (W : World) (a0 : Option Addr) (n0 c0 : Nat) (x0 : List Int) (h0 : Sl W a0 n0 c0 x0) (hT : Tabs W) :
    Calls Tryd.prog 6 #[.slice a0 n0 c0] W fun e w' => e = .returned (.bool true) ∧ Below W.heap.size W w' := by
  have t2 := hT.two
  by_cases hbig : 20000 < n0
  · have hb : (20000 : Int) < (n0 : Int) := by omega
    have AL := alive9 W hT
    go_enter Tryd.func6, Tryd.ntmps6
    go_wp2_with fail
    refine AL.mono ?_
    rintro e w1 ⟨rfl, B⟩
    go_wp2
    go_ret
    exact ⟨rfl, B⟩
  have hb : ¬ (20000 : Int) < (n0 : Int) := by omega
  have CR := ckread_any W a0 n0 c0 x0 h0 (by omega)
  have HBY : Hid (Byt x0) := h0.byte
  cases hrd : rdCk x0 with
  | inl z =>
    rw [hrd] at CR
    clear hrd
    go_enter Tryd.func6, Tryd.ntmps6
    go_wp2_with fail
    refine CR.mono ?_
    rintro e w1 P1
    obtain ⟨rfl, hz⟩ := P1.bad z rfl
    have B1 := P1.bel
    have hzb : (z != 0) = true := by simp [hz]
    have AL := alive9 w1 (hT.below B1 t2)
    clear P1 CR hz
    go_wp2_with fail
    refine AL.mono ?_
    rintro e w2 ⟨rfl, C2⟩
    have B2 := B1.trans (C2.mono B1.size)
    go_wp2
    go_ret
    exact ⟨rfl, B2⟩
  | inr l =>
    rw [hrd] at CR
    obtain ⟨hx, hok, hkd⟩ := rdCk_back HBY.out hrd
    obtain ⟨hne, hsrt, hke⟩ := kindCk_ok hkd
    have HX : Hid (x0 = putCk l) := hx
    have HOK : Hid (okL l) := ⟨hsrt, fun x hx => ⟨hok.all x hx, hke x hx⟩⟩
    have HC : Hid (cuts 64 l = [l]) := cuts_one hne hok.len
    have hll := hok.len
    clear hrd hx hkd hke hne hsrt hok
    go_enter Tryd.func6, Tryd.ntmps6
    go_wp2_with fail
    refine CR.mono ?_
    rintro e w1 P1
    obtain ⟨io, im, ic, js, rfl, IL1, hjs, -⟩ := P1.good l rfl
    have B1 := P1.bel
    have hjl := IL1.len
    have him : im ≤ 64 := by
      have := congrArg List.length hjs
      rw [List.length_map] at this
      omega
    have hsz : ∀ q ∈ js, 1 ≤ q.k.n ∧ q.k.n ≤ 256 ∧ q.v.n ≤ 1024 := fun q hq => by
      have h5 := HOK.out.all q.it (by rw [← hjs]; exact List.mem_map.2 ⟨q, hq, rfl⟩)
      have h6 := (IL1.sl q hq).1.len
      have h7 := (IL1.sl q hq).2.len
      have h8 : q.k.xs.length ≤ 256 := h5.1.k.1
      have h9 : q.v.xs.length ≤ 1024 := h5.1.v.1
      have h10 : q.k.xs ≠ [] := h5.2
      have := List.length_pos_iff.2 h10
      omega
    have CM := tmake_any w1 io im ic js (hT.below B1 t2) IL1 (by omega) (fun q hq => by have := hsz q hq; omega)
    have HJL : Hid (jL js 0 = 0) := jL_ok js 0 hsz
    have HJS : Hid (js.map IP.it = l) := hjs
    have s1 := h0.below B1
    clear P1 CR hjl hsz hjs IL1
    go_wp2_with fail
    refine CM.mono ?_
    rintro e w2 ⟨u, kd, rfl, C2, hcase⟩
    have B2 := B1.trans (C2.mono B1.size)
    have s2 := s1.below C2
    obtain ⟨rfl, TT2⟩ : kd = 0 ∧ TT w2 (.pointer u) l := by
      rw [HJS.out] at hcase
      rcases hcase with ⟨rfl, -, l', hp, hs', tt⟩ | ⟨-, -, hbad⟩
      · refine ⟨rfl, ?_⟩
        rw [← hs'.perm HOK.out.srt hp]
        exact tt
      · exact absurd HOK.out.srt.nodup (hbad HJL.out)
    clear hcase CM C2 s1 B1
    have CC := cut_any w2 (.pointer u) l 64 TT2 HOK.out.srt (by omega) (fun x hx => by have h := (HOK.out.all x hx).1; exact ⟨⟨h.k.2, h.k.1⟩, h.v.2, by have := h.v.1; omega⟩)
    go_wp2_with fail
    refine CC.mono ?_
    rintro e w3 P3
    obtain ⟨ao, n, cap, qs, rfl, K3, hqs⟩ := P3.good (by decide) (by decide)
    have C3 := P3.bel
    have B3 := B2.trans (C3.mono B2.size)
    have s3 := s2.below C3
    have hqs : qs.map Part.xs = (cuts 64 l).map putCk := hqs
    rw [HC.out, List.map_singleton, ← HX.out] at hqs
    have hn := K3.len
    obtain ⟨q, rfl⟩ : ∃ q, qs = [q] := by
      have := congrArg List.length hqs
      rw [List.length_map] at this
      exact List.length_eq_one_iff.1 this
    obtain rfl : n = 1 := hn.symm
    have hqx : q.xs = x0 := by simpa using hqs
    obtain ⟨b, off, rfl, hc⟩ := K3.vl.at (by omega)
    have c1 := hc 0 (by simp)
    simp only [List.map_cons, List.map_nil, List.getElem_cons_zero, Nat.add_zero] at c1
    have SQ := K3.sl q (by simp)
    rw [hqx] at SQ
    have CE := same_any w3 q.ao a0 q.n q.cap n0 c0 x0 x0 SQ s3
    rw [decide_eq_true rfl] at CE
    unfold Part.val at c1
    clear P3 CC K3 hqs hn hc hqx SQ C3 B2 TT2 s2
    go_wp2_with fail
    refine CE.mono ?_
    rintro e w4 ⟨rfl, z4, rfl⟩
    have E4 := below_drewN w3 z4 w3.heap.size
    have B4 := B3.trans (E4.mono B3.size)
    have AL := alive9 _ (hT.below B4 t2)
    go_wp2_with fail
    refine AL.mono ?_
    rintro e w5 ⟨rfl, C5⟩
    have B5 := B4.trans (C5.mono B4.size)
    go_wp2
    go_ret
    exact ⟨rfl, B5⟩
end Go.Proofs.YtiabdcejibeciaaDoor

namespace Go.Proofs.YtiabdcejibeciaaDoor
open Go.RowKit

abbrev laidL : List (String × DataW Unit) := [("unicode/utf8.acceptRanges", Rows.laid_unicode_utf8_acceptRanges), ("bulwark/digest.firstWords", Rows.laid_bulwark_digest_firstWords), ("bulwark/digest.roundWords", Rows.laid_bulwark_digest_roundWords), ("unicode/utf8.first", Rows.laid_unicode_utf8_first)]

theorem gFirst : Tryd.prog.globalNamed "bulwark/digest.firstWords" = some 2 := by kernel_rfl
theorem gRound : Tryd.prog.globalNamed "bulwark/digest.roundWords" = some 1 := by kernel_rfl
theorem tFirst : (Tryd.prog.globals[2]?).map (·.type) = some 151 := by kernel_rfl
theorem tRound : (Tryd.prog.globals[1]?).map (·.type) = some 170 := by kernel_rfl
theorem laidL_plain : (laidL.all fun x => x.2.handleName?.isNone) = true := by kernel_rfl

/-- A world in which the four read so. -/
theorem all_met (os : Os) (args : Array Value) : laidMetH Tryd.prog laidL ((World.laidAll Tryd.prog os laidL).forCall (fun _ _ => 0) ⟨#[], args, []⟩).memory := by
  rw [MakeChecks.laidMetH_plain _ _ _ laidL_plain]
  exact laidMet_laidAll _ (by kernel_rfl) (by kernel_rfl)

/-- An array of words that reads as some numbers has them in its cells. -/
theorem words_of {H : Type} {enc : TypeId × Value → H} {w : World} {base : Nat} {sp : Nat → Bool} {held : Bool} {fuel n : Nat} {t : TypeId} {cs : List Value} {zs : List Int} {p : List MemPlace}
    (ht : Tryd.prog.underlying t = some (.array n 93)) (h : DataW.trod enc Tryd.prog w base sp held fuel t cs = some (.agg (zs.map fun z => .lit (.int .u32 z)), p)) (hz : zs.length = n) :
    ∀ (j : Nat) (v : Value), (wv zs)[j]? = some v → cs[j]? = some v := by
  intro j v hv
  have hj : j < zs.length := by have := (List.getElem?_eq_some_iff.1 hv).1; rwa [wv_length] at this
  rw [wv_get zs j hj] at hv
  obtain rfl := Option.some.inj hv
  obtain ⟨f', d, q, hd, he⟩ := Lib.array_elem ht h j (by omega)
  have c1 : Tryd.prog.cellsOf 93 = 1 := by kernel_rfl
  rw [c1, Nat.mul_one] at he
  obtain ⟨k, e1, e2, _⟩ := DataW.trod_int Tryd.underlying93 he
  simp only [Prod.mk.injEq] at e2
  rw [e2.1] at hd
  simp only [List.getElem?_map, List.getElem?_eq_getElem hj, Option.map_some, Option.some.injEq, DataW.lit.injEq, Lit.int.injEq, true_and] at hd
  have : (cs.drop j)[0]? = some (.int .u32 k) := by
    have := congrArg (fun l : List Value => l[0]?) e1
    simpa [List.getElem?_take] using this
  rw [List.getElem?_drop, Nat.add_zero] at this
  rw [this, ← hd]
  simp [List.getD, hj]

/-- WHAT THE CONDITION GIVES THE WALKS. -/
theorem tabs_of {W : World} (h : laidMetH Tryd.prog laidL W) : Tabs W := by
  rw [MakeChecks.laidMetH_plain _ _ _ laidL_plain] at h
  obtain ⟨ps, ⟨gx, tx, csx, fx, px, qx, _, _, _, _, ⟨g0, t0, cs0, f0, p0, q0, hg0, ht0, hv0, hd0, ⟨g1, t1, cs1, f1, p1, q1, hg1, ht1, hv1, hd1, _, _⟩, _⟩, _⟩, _, _⟩ := h
  obtain rfl := Option.some.inj (gFirst.symm.trans hg0)
  obtain rfl := Option.some.inj (gRound.symm.trans hg1)
  obtain rfl := Option.some.inj (tFirst.symm.trans ht0)
  obtain rfl := Option.some.inj (tRound.symm.trans ht1)
  have hA := words_of (zs := H0) Tryd.underlying151 hd0 rfl
  have hB := words_of (zs := K0) Tryd.underlying170 hd1 rfl
  have cA : ∀ j v, (wv H0)[j]? = some v → W.cell? ⟨2, j, none⟩ = some v := fun j v hv => by
    rw [World.var?_cell hg0 hv0 j]
    simpa using hA j v hv
  refine ⟨cA, fun j v hv => ?_, ?_⟩
  · rw [World.var?_cell hg1 hv1 j]
    simpa using hB j v hv
  · have := block_lt_of_cell (cA 0 _ rfl)
    exact this

end Go.Proofs.YtiabdcejibeciaaDoor

namespace Go.Proofs.YtiabdcejibeciaaDoor
open Go.RowKit

/-- A slice of bytes that came in, as the frame of a proof tells it. -/
theorem Sl.row {w : World} {a : Option Addr} {n cap : Nat} {zs : List Int} (h : (a = none ∧ n = 0 ∧ cap = 0 ∧ zs = []) ∨
    ∃ x, a = some x ∧ n ≤ cap ∧ cap ≤ maxLen ∧ zs.length = cap ∧ (∀ i, i < zs.length → w.cell? (x.add i) = some (.int .u8 (zs.getD i 0))) ∧ ∀ z ∈ zs, (Lit.int .u8 z).wf = true) : Sl w a n cap (zs.take n) := by
  rcases h with ⟨rfl, rfl, rfl, rfl⟩ | ⟨x, rfl, hl, hm, hz, hc, hw⟩
  · exact Sl.nothing w
  · refine ⟨by simp; omega, hl, hm, fun h => by simp at h, fun b hb i hi => ?_, fun z hz => ?_⟩
    · obtain rfl := Option.some.inj hb
      rw [hc i (by omega)]
      simp [List.getD, hi]
    · have := hw z (List.mem_of_mem_take hz)
      simp [Lit.wf, IntKind.min, IntKind.max, IntKind.signed, IntKind.bits] at this
      omega
end Go.Proofs.YtiabdcejibeciaaDoor

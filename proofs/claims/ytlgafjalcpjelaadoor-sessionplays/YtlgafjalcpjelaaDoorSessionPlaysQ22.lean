/-
  Texts in one: SeBytes, RefForms, RefFormsB.
-/
import Derived.Test.YtlgafjalcpjelaaDoorSessionPlaysQ11
import Derived.Test.YtlgafjalcpjelaaDoorSessionPlaysQ21
import Derived.Test.YtlgafjalcpjelaaDoorSessionPlaysQ9
import Derived.Test.YtlgafjalcpjelaaDoorSessionPlaysQ10
namespace Go.Proofs.YtlgafjalcpjelaaDoor
open Go.RowKit
def bytE (e : EN) : List Int := enc e.cl ++ (enc e.st ++ byts (putR e.r))
def bytT (l : List EN) : List Int := enc l.length ++ (l.map bytE).flatten
theorem bytE_len {e : EN} (h : e.ok) : (bytE e).length ≤ 65600 := by
  have h1 := enc_length h.cl
  have h2 := enc_length h.st
  have h4 := h.len
  have h3 := enc_length (n := (putR e.r).length) (by omega)
  unfold bytE byts
  simp only [List.length_append]
  omega
theorem bytL_len : ∀ {l : List EN}, (∀ e ∈ l, e.ok) → ((l.map bytE).flatten).length ≤ 65600 * l.length
  | [], _ => by simp
  | e :: l, h => by
    have h1 := bytE_len (h e (List.mem_cons_self ..))
    have h2 := bytL_len (l := l) (fun x hx => h x (List.mem_cons_of_mem _ hx))
    simp only [List.map_cons, List.flatten_cons, List.length_append, List.length_cons]
    omega
set_option maxRecDepth 100000 in
set_option maxHeartbeats 4000000 in
theorem cBytes_any (w : World) (p g : Nat) (l : List EN) (h : TS w p g l) :
    Calls Tryd.prog 18 #[.pointer (some ⟨p, 0, none⟩)] w (PutPost w (bytT l)) := by
  have n8 := h.n8
  have n8i : (l.length : Int) ≤ 8 := by omega
  obtain ⟨cp, t0, R0, hcp⟩ := h.tab
  have CU := fUint w none 0 0 l.length [] (Sl.nothing w) (by omega) (by omega)
  go_enter Tryd.func18, Tryd.ntmps18
  go_wp2_with fail
  refine CU.mono ?_
  rintro x w1 ⟨bo, bn, bc, rfl, S1, B1⟩
  have t1 : w1.cell? ⟨p, 0, none⟩ = some (.slice (some ⟨g, 0, none⟩) l.length cp) := (B1.cell (World.block_lt_of_cell? _ _ t0)).trans t0
  have el := enc_length (n := l.length) (by omega)
  clear CU
  go_wp2_with fail
  go_loopw [3, 20] (fun b i wr => ∃ (k : Nat) (bo : Option Addr) (m c : Nat), k ≤ l.length ∧ i = .int .i64 k ∧ b = .slice bo m c ∧ Sl wr bo m c (enc l.length ++ ((l.take k).map bytE).flatten) ∧ Below w.heap.size w wr) (fun _ i _ => l.length - (intOf i).toNat)
  case atStart => exact ⟨0, bo, bn, bc, Nat.zero_le _, rfl, rfl, by simpa using S1, B1⟩
  case round =>
    clear S1 B1 t1
    obtain ⟨k, bo, m, c, hk, rfl, rfl, S, B⟩ := hrel
    have hm := S.len
    have hl := bytL_len (l := l.take k) (fun e he => h.ok e (List.mem_of_mem_take he))
    rw [List.length_append] at hm
    rw [List.length_take] at hl
    by_cases hlt : k < l.length
    · have hki : (k : Int) < (l.length : Int) := by omega
      have R := R0.keep (B.block g R0.lt)
      have q0 := R.cell k hlt 0 _ rfl
      have q1 := R.cell k hlt 1 _ rfl
      have q2 := R.cell k hlt 2 _ rfl
      simp only [Nat.add_zero] at q0
      have hok := h.ok _ (List.getElem_mem hlt)
      have HT : Hid (((l.take (k + 1)).map bytE).flatten = ((l.take k).map bytE).flatten ++ bytE l[k]) := by
        show _ = _
        rw [List.take_succ_eq_append_getElem hlt, List.map_append, List.flatten_append]
        simp
      obtain ⟨e, he⟩ : ∃ e, e = l[k] := ⟨_, rfl⟩
      rw [← he] at q0 q1 q2 hok HT
      clear he R
      have hm2 : m ≤ 800000 := by omega
      have B2 : Below wr.heap.size wr (wr.alloc (.cells #[.int .u64 e.cl, .int .u64 e.st, .string e.an] 61)) := (Below.refl _ _).alloc (Nat.le_refl _) _
      have K2 : (wr.alloc (.cells #[.int .u64 e.cl, .int .u64 e.st, .string e.an] 61)).heap[wr.heap.size]? = some (.cells #[.int .u64 e.cl, .int .u64 e.st, .string e.an] 61) := heap_alloc_new _ _
      have S2 := S.below B2
      have D2 := B.trans (B2.mono B.size)
      go_wp2_with fail
      obtain ⟨w2, hw2⟩ : ∃ W, W = wr.alloc (.cells #[.int .u64 e.cl, .int .u64 e.st, .string e.an] 61) := ⟨_, rfl⟩
      obtain ⟨E, hE⟩ : ∃ E, E = wr.heap.size := ⟨_, rfl⟩
      rw [← hw2] at K2 S2 D2 ⊢
      rw [← hE] at K2 ⊢
      clear hw2 hE B2 S B q0 q1 q2
      have hE2 : E < w2.heap.size := (Array.getElem?_eq_some_iff.1 K2).1
      have l1 := enc_length hok.cl
      have l2 := enc_length hok.st
      have CU := fUint w2 bo m c e.cl _ S2 (by omega) hok.cl
      refine CU.mono ?_
      rintro x w3 ⟨bo3, m3, c3, rfl, S3, C3⟩
      have K3 := (C3.block E hE2).trans K2
      have D3 := D2.trans (C3.mono D2.size)
      have hm3 := S3.len
      simp only [List.length_append] at hm3
      clear CU C3 S2 D2 K2
      have k1 := cell_of_row w3 E 1 _ _ _ K3
      have CU := fUint w3 bo3 m3 c3 e.st _ S3 (by omega) hok.st
      go_wp2_with fail
      refine CU.mono ?_
      rintro x w4 ⟨bo4, m4, c4, rfl, S4, C4⟩
      have K4 := (C4.block E (Array.getElem?_eq_some_iff.1 K3).1).trans K3
      have D4 := D3.trans (C4.mono D3.size)
      have hm4 := S4.len
      simp only [List.length_append] at hm4
      clear CU C4 S3 D3 K3 k1
      have k2 := cell_of_row w4 E 2 _ _ _ K4
      have hsz : e.an.size ≤ 65536 := by
        have := hok.len
        rw [← sb_len, hok.sb]
        exact this
      obtain ⟨a, ha⟩ : ∃ a, a = e.an := ⟨_, rfl⟩
      have HSB : Hid (sb a = putR e.r) := by rw [ha]; exact hok.sb
      rw [← ha] at k2 hsz
      clear ha
      go_wp2_with (refine wpList_conv_bytes rfl (.tmp 34) rfl a rfl (by omega) ?_; intro g5 c5 w5 hg5 S5 C5; clear hg5)
      have T5 := S4.below C5
      have D5 := D4.trans (C5.mono D4.size)
      clear C5 S4 D4 k2
      rw [HSB.out] at S5
      have CB := fBytes w5 bo4 _ m4 c4 _ c5 _ _ T5 S5 (by omega) (by omega)
      refine CB.mono ?_
      rintro x w6 ⟨bo6, m6, c6, rfl, S6, C6⟩
      have D6 := D5.trans (C6.mono D5.size)
      clear CB C6 S5 D5 T5
      go_wp2
      go_roundw
      case rel =>
        refine ⟨k + 1, bo6, m6, c6, by omega, by go_num, rfl, ?_, D6⟩
        rw [HT.out]
        unfold bytE
        simp only [List.append_assoc] at S6 ⊢
        exact S6
      case measure => simp [intOf]; omega
    · have hge : (l.length : Int) ≤ (k : Int) := by omega
      have HT : Hid ((l.take k).map bytE = l.map bytE) := by show _ = _; rw [List.take_of_length_le (by omega)]
      rw [HT.out] at S
      go_wp2
      go_ret
      exact ⟨bo, m, c, rfl, S, B⟩
def sumT (l : List EN) : List Int := sumL (formL (sb ⟨#[115, 101, 115, 115, 105, 111, 110]⟩) [bytT l])
theorem PL.one1 (w : World) (q : Part) (h : Sl w q.ao q.n q.cap q.xs) : PL (w.alloc (.cells #[q.val] 50)) (some ⟨w.heap.size, 0, none⟩) 1 1 [q] := by
  have B : Below w.heap.size w (w.alloc (.cells #[q.val] 50)) := (Below.refl _ w).alloc (Nat.le_refl _) _
  refine ⟨rfl, Nat.le_refl _, by decide, fun h => by simp at h, fun a ha i hi => ?_, fun x hx => ?_⟩
  · obtain rfl := Option.some.inj ha
    obtain rfl : i = 0 := by simpa using hi
    exact cell_one_new _ _ _ 0 _ (by simp)
  · rw [List.mem_singleton.1 hx]
    exact h.below B
theorem cSum_any (w : World) (p g : Nat) (l : List EN) (h : TS w p g l) (hT : Tabs w) :
    Calls Tryd.prog 20 #[.pointer (some ⟨p, 0, none⟩)] w (PutPost w (sumT l)) := by
  have t2 := hT.two
  have n8 := h.n8
  have CB := cBytes_any w p g l h
  have hbl : (bytT l).length ≤ 700000 := by
    have h1 := bytL_len h.ok
    have h2 := enc_length (n := l.length) (by omega)
    unfold bytT
    rw [List.length_append]
    omega
  go_enter Tryd.func20, Tryd.ntmps20
  go_wp2_with fail
  refine CB.mono ?_
  rintro x w1 ⟨bo, m, c, rfl, S1, B1⟩
  have T1 := hT.below B1 t2
  have hm := S1.len
  have B2 : Below w1.heap.size w1 (w1.alloc (.cells #[.slice bo m c] 50)) := (Below.refl _ w1).alloc (Nat.le_refl _) _
  have P2 := PL.one1 w1 ⟨bo, m, c, bytT l⟩ S1
  have D2 := B1.trans (B2.mono B1.size)
  have T2 := T1.below B2 (Nat.le_trans t2 B1.size)
  have CO := of_any _ ⟨#[115, 101, 115, 115, 105, 111, 110]⟩ _ _ _ _ P2 T2 (by decide) (by omega) (fun q hq => by rw [List.mem_singleton.1 hq]; show m ≤ _; omega)
  clear CB B1 S1 T1
  go_wp2_with fail
  refine CO.mono ?_
  rintro x w3 ⟨v, rfl, O, C3⟩
  obtain ⟨ro, rc, rfl, S, -⟩ := Sl.own O (sumL_byte _)
  have D3 := D2.trans (C3.mono D2.size)
  clear CO P2 T2 B2 D2 C3 O
  go_wp2
  go_ret
  exact ⟨ro, 32, rc, rfl, S, D3⟩
open Go.RowKit
set_option maxHeartbeats 800000 in
set_option maxRecDepth 100000 in
theorem rUint_any (w : World) (ao : Option Addr) (k cap n : Nat) (xs : List Int) (h : Sl w ao k cap xs) (hr : k + 30 ≤ 140737488355328) (hn : n < 18446744073709551616) :
    Calls Tryd.prog 33 #[.slice ao k cap, .int .u64 n] w fun e w' =>
      ∃ v, e = .returned v ∧ w'.ownsRow w.heap.size 5 1 v (k + (enc n).length) (bv (xs ++ enc n)) ∧ Below w.heap.size w w' := by
  have hA := h.below ((Below.refl w.heap.size w).alloc (Nat.le_refl _) (.cells #[] 5))
  have hO := own_empty w
  go_enter Tryd.func33, Tryd.ntmps33
  go_wp2_with (at_builtin; refine wpList_app rfl _ _ rfl w.heap.size _ _ _ rfl hO _ _ _ _ rfl hA (by omega) (by simp) ?_; intro v1 w1 hown1 hb1)
  have hb : Below w.heap.size w w1 := ((Below.refl w.heap.size w).alloc (Nat.le_refl _) _).trans hb1
  have hlen := enc_length hn
  simp only [Nat.zero_add, List.nil_append] at hown1
  clear hb1 hO hA
  go_loopw [0, 1] (fun b m wr => ∃ (j : Nat) (ys : List Int), m = .int .u64 j ∧ j < 18446744073709551616 ∧ ys ++ enc j = enc n ∧ wr.ownsRow w.heap.size 5 1 b (k + ys.length) (bv (xs ++ ys)) ∧ Below w.heap.size w wr) (fun _ m _ => (intOf m).toNat)
  case atStart => exact ⟨n, [], rfl, hn, rfl, by simpa using hown1, hb⟩
  case round =>
    obtain ⟨m, ys, rfl, hm, hys, hown', hbel⟩ := hrel
    have hp := enc_pos m
    have hy9 : ys.length + (enc m).length ≤ 10 := by have := congrArg List.length hys; simp at this; omega
    have hsz := hbel.size
    have HY : Hid (ys ++ enc m = enc n) := hys
    clear hys
    by_cases hlt : m < 128
    · go_wp2_with (at_builtin; refine wpList_app rfl _ _ rfl w.heap.size _ _ _ rfl (hown'.alloc _) _ _ _ _ rfl (Sl.one wr _ (by omega)) (by omega) (by simp; omega) ?_; intro v2 w2 hown2 hb2)
      have e2 := HY.out
      rw [enc_small hlt] at e2
      have ho : w2.ownsRow w.heap.size 5 1 v2 (k + (enc n).length) (bv (xs ++ enc n)) := by
        rw [← e2, ← List.append_assoc]
        simpa [Nat.add_assoc] using hown2
      have hb3 := (hbel.alloc hsz _).trans hb2
      clear hown2 hb2
      go_ret
      exact ⟨v2, rfl, ho, hb3⟩
    · go_wp2_with (at_builtin; refine wpList_app rfl _ _ rfl w.heap.size _ _ _ rfl (hown'.alloc _) _ _ _ _ rfl (Sl.one wr _ (by omega)) (by omega) (by simp; omega) ?_; intro v2 w2 hown2 hb2)
      have e2 := HY.out
      rw [enc_big (n := m) (by omega) hm] at e2
      have ho : w2.ownsRow w.heap.size 5 1 v2 (k + (ys ++ [((m % 128 + 128 : Nat) : Int)]).length) (bv (xs ++ (ys ++ [((m % 128 + 128 : Nat) : Int)]))) := by
        rw [← List.append_assoc]
        simpa [Nat.add_assoc] using hown2
      have hb3 := (hbel.alloc hsz _).trans hb2
      clear hown2 hb2
      go_wp2
      go_roundw
      case rel => exact ⟨m / 128, ys ++ [((m % 128 + 128 : Nat) : Int)], by go_num, by omega, by rw [← e2]; simp, ho, hb3⟩
      case measure => simp [intOf]; omega
set_option maxHeartbeats 400000 in
theorem rBytes_any (w : World) (ao bo : Option Addr) (n cap m cap2 : Nat) (xs ys : List Int) (h : Sl w ao n cap xs) (h2 : Sl w bo m cap2 ys) (hr : n + m + 60 ≤ 140737488355328) :
    Calls Tryd.prog 35 #[.slice ao n cap, .slice bo m cap2] w fun e w' =>
      ∃ v, e = .returned v ∧ w'.ownsRow w.heap.size 5 1 v (n + (enc m).length + m) (bv (xs ++ enc m ++ ys)) ∧ Below w.heap.size w w' := by
  go_enter Tryd.func35, Tryd.ntmps35
  go_wp2_with fail
  refine (rUint_any w ao n cap m xs h (by omega) (by omega)).mono ?_
  rintro e w1 ⟨v1, rfl, hown1, hb1⟩
  have hs := hb1.size
  have hl := enc_length (n := m) (by omega)
  have h3 := h2.below hb1
  go_wp2_with (at_builtin; refine wpList_app rfl _ _ rfl w.heap.size _ _ _ rfl hown1 _ _ _ _ rfl h3 (by omega) (by omega) ?_; intro v3 w3 hown3 hb3)
  have hb4 := hb1.trans hb3
  clear hb1 hown1 hb3 h3
  go_ret
  exact ⟨v3, rfl, hown3, hb4⟩
open Go.RowKit
set_option maxHeartbeats 400000 in
theorem rBool_any (w : World) (ao : Option Addr) (n cap : Nat) (b : Bool) (xs : List Int) (h : Sl w ao n cap xs) (hr : n + 30 ≤ 140737488355328) :
    Calls Tryd.prog 47 #[.slice ao n cap, .bool b] w fun e w' =>
      ∃ v, e = .returned v ∧ w'.ownsRow w.heap.size 5 1 v (n + 1) (bv (xs ++ enb b)) ∧ Below w.heap.size w w' := by
  have hA := h.below ((Below.refl w.heap.size w).alloc (Nat.le_refl _) (.cells #[] 5))
  have hO := own_empty w
  cases b
  · go_enter Tryd.func47, Tryd.ntmps47
    go_wp2_with (first | (at_builtin; refine wpList_app rfl (.tmp 11) (.tmp 12) rfl w.heap.size _ _ _ rfl hO _ _ _ _ rfl hA (by omega) (by simp) ?_; intro v1 w1 hown1 hb1; simp only [Nat.zero_add, List.nil_append] at hown1; have hb2 := ((Below.refl w.heap.size w).alloc (Nat.le_refl _) _).trans hb1; have hs2 := hb2.size; clear hb1) | (at_builtin; refine wpList_app rfl (.tmp 13) (.tmp 14) rfl w.heap.size _ _ _ rfl (hown1.alloc _) _ _ _ _ rfl (Sl.one w1 _ (by decide)) (by omega) (by simp; omega) ?_; intro v3 w3 hown3 hb3))
    have hb4 := (hb2.alloc hs2 _).trans hb3
    clear hb2 hown1 hb3
    go_ret
    exact ⟨v3, rfl, hown3, hb4⟩
  · go_enter Tryd.func47, Tryd.ntmps47
    go_wp2_with (first | (at_builtin; refine wpList_app rfl (.tmp 6) (.tmp 7) rfl w.heap.size _ _ _ rfl hO _ _ _ _ rfl hA (by omega) (by simp) ?_; intro v1 w1 hown1 hb1; simp only [Nat.zero_add, List.nil_append] at hown1; have hb2 := ((Below.refl w.heap.size w).alloc (Nat.le_refl _) _).trans hb1; have hs2 := hb2.size; clear hb1) | (at_builtin; refine wpList_app rfl (.tmp 8) (.tmp 9) rfl w.heap.size _ _ _ rfl (hown1.alloc _) _ _ _ _ rfl (Sl.one w1 _ (by decide)) (by omega) (by simp; omega) ?_; intro v3 w3 hown3 hb3))
    have hb4 := (hb2.alloc hs2 _).trans hb3
    clear hb2 hown1 hb3
    go_ret
    exact ⟨v3, rfl, hown3, hb4⟩
end Go.Proofs.YtlgafjalcpjelaaDoor

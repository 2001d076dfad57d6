/-
  Texts in one: OfM, MgBatch, RdOr.
-/
import Derived.Test.YtcgphdipfekccaaGreatDoorMessageOrderQ15
import Derived.Test.YtcgphdipfekccaaGreatDoorMessageOrderQ4
import Derived.Test.YtcgphdipfekccaaGreatDoorMessageOrderQ0
import Derived.Test.YtcgphdipfekccaaGreatDoorMessageOrderQ12
import Derived.Test.YtcgphdipfekccaaGreatDoorMessageOrderQ23
import Derived.Test.YtcgphdipfekccaaGreatDoorMessageOrderQ24
import Derived.Test.YtcgphdipfekccaaGreatDoorMessageOrderQ9
import Derived.Test.YtcgphdipfekccaaGreatDoorMessageOrderQ3
namespace Go.Proofs.YtcgphdipfekccaaGreatDoor
open Go.RowKit
def fmP (xs : List (List Int)) : List Int := xs.flatMap fun x => enc x.length ++ x
def formL (s : List Int) (xs : List (List Int)) : List Int := enc s.length ++ s ++ enc xs.length ++ fmP xs
theorem fmP_snoc (xs : List (List Int)) (x : List Int) : fmP (xs ++ [x]) = fmP xs ++ (enc x.length ++ x) := by simp [fmP]
def pxs (ps : List Part) : List (List Int) := ps.map Part.xs
theorem pxs_take (ps : List Part) (k : Nat) (h : k < ps.length) : pxs (ps.take (k + 1)) = pxs (ps.take k) ++ [ps[k].xs] := by
  unfold pxs
  rw [List.take_add_one, List.getElem?_eq_getElem h, List.map_append]
  rfl
theorem pxs_len (ps : List Part) : (pxs ps).length = ps.length := by simp [pxs]
theorem fmP_le (xs : List (List Int)) (B : Nat) (hB : B < 18446744073709551616) (h : ∀ x ∈ xs, x.length ≤ B) : (fmP xs).length ≤ xs.length * (B + 10) := by
  induction xs with
  | nil => simp [fmP]
  | cons x xs ih =>
    have h1 := ih (fun y hy => h y (List.mem_cons_of_mem _ hy))
    have h2 := h x (List.mem_cons_self ..)
    have h3 := enc_length (n := x.length) (by omega)
    have e : fmP (x :: xs) = enc x.length ++ x ++ fmP xs := by simp [fmP]
    rw [e, List.length_append, List.length_append, List.length_cons, Nat.succ_mul]
    omega
set_option maxRecDepth 100000 in
set_option maxHeartbeats 4000000 in
theorem of_any (w : World) (s : ByteArray) (ao : Option Addr) (n cap : Nat) (ps : List Part) (hP : PL w ao n cap ps) (hT : Tabs w) (hs : s.size ≤ 1000000) (hn : n ≤ 1000000) (hq : ∀ q ∈ ps, q.n ≤ 1000000) :
    Calls Tryz.prog 17 #[.string s, .slice ao n cap] w fun e w' => ∃ v, e = .returned v ∧ w'.ownsRow w.heap.size 5 1 v 32 (bv (sumL (formL (sb s) (pxs ps)))) ∧ Below w.heap.size w w' := by
  have h2 := hT.two
  have hl := hP.len
  have hni : (n : Int) ≤ 1000000 := by omega
  have hsl := sb_len s
  have es := enc_length (n := s.size) (by omega)
  have en := enc_length (n := n) (by omega)
  go_enter Tryz.func17, Tryz.ntmps17
  go_wp2_with (first
    | (go_at_call 41; refine (new_any w).mono ?_; rintro e w1 ⟨rfl, H1, g1⟩; have B1 : Below w.heap.size w w1 := (Below.refl _ w).grown g1 (Nat.le_refl _) (by simp); have p1 := H1.lt; clear g1)
    | (refine wpList_conv_bytes rfl (.tmp 10) rfl s rfl (by omega) ?_; intro g2 c2 w2 hg2 S2 C2; have B2 : Below w.heap.size w w2 := B1.trans (C2.mono (by omega)); have H2 := H1.below C2 p1; have s2 := C2.size; clear C2 H1 hg2)
    | (go_at_call 43; refine (wBytes_any w2 none _ 0 0 s.size c2 [] _ (Sl.nothing w2) S2 (by omega)).mono ?_; rintro e w3 ⟨v3, rfl, own3, C3⟩; simp only [List.nil_append, Nat.zero_add] at own3; obtain ⟨fo, fc, rfl, S3, hS3⟩ := Sl.own own3 (Byt.append (enc_byte (by omega)) (sb_byte s)); have B3 : Below w.heap.size w w3 := B2.trans (C3.mono (by omega)); have H3 := H2.below C3 (by omega); have s3 := C3.size; clear C3 own3 H2 S2 B2)
    | (go_at_call 42; refine (add_any w3 w.heap.size [] fo _ fc _ (hT.below B3 h2) H3 h2 S3 (fun a ha _ => by have := (hS3 a ha).1; omega) (by simp; omega)).mono ?_; rintro e w4 ⟨⟨v4, rfl⟩, H4, g4⟩; have B4 : Below w.heap.size w w4 := B3.grown g4 (by omega) (by intro k hk; cases hk; exact Nat.le_refl _); have s4 := g4.size; clear g4 H3 S3 hS3 B3)
    | (go_at_call 40; refine (wUint_any w4 none 0 0 n [] (Sl.nothing w4) (by omega) (by omega)).mono ?_; rintro e w5 ⟨v5, rfl, own5, C5⟩; simp only [List.nil_append, Nat.zero_add] at own5; obtain ⟨uo, uc, rfl, S5, hS5⟩ := Sl.own own5 (enc_byte (by omega)); have B5 : Below w.heap.size w w5 := B4.trans (C5.mono (by omega)); have H5 := H4.below C5 (by omega); have s5 := C5.size; clear C5 own5 H4 B4))
  refine (add_any w5 w.heap.size _ uo _ uc _ (hT.below B5 h2) H5 h2 S5 (fun a ha _ => by have := (hS5 a ha).1; omega) (by simp; omega)).mono ?_
  rintro e w6 ⟨⟨v6, rfl⟩, H6, g6⟩
  have B6 : Below w.heap.size w w6 := B5.grown g6 (by omega) (by intro k hk; cases hk; exact Nat.le_refl _)
  have s6 := g6.size
  clear g6 H5 S5 hS5 B5
  obtain ⟨F, hF⟩ : ∃ F, F = enc s.size ++ sb s ++ enc n := ⟨_, rfl⟩
  have hFl : F.length ≤ 1000020 := by rw [hF]; simp; omega
  have HF : Hid (formL (sb s) (pxs ps) = F ++ fmP (pxs ps)) := by
    show _ = _
    rw [hF, formL, hsl, pxs_len, hl]
  simp only [List.nil_append] at H6
  rw [← hF] at H6
  clear hF hsl es en
  go_wp2_with fail
  go_loopw [22] (fun i wr => ∃ k : Nat, k ≤ n ∧ i = .int .i64 k ∧ Below w.heap.size w wr ∧ w.heap.size < wr.heap.size ∧ HS wr w.heap.size (F ++ fmP (pxs (ps.take k)))) (fun i _ => n - (intOf i).toNat)
  case atStart => exact ⟨0, by omega, rfl, B6, by omega, by simpa [pxs, fmP] using H6⟩
  case round =>
    clear H6 B6
    obtain ⟨k, hk, rfl, B7, t7, H7⟩ := hrel
    have T7 := hT.below B7 h2
    by_cases hlt : k < n
    · have hki : (k : Int) < (n : Int) := by omega
      have hkl : k < ps.length := by omega
      obtain ⟨ab, aof, rfl, hc⟩ := (hP.below B7).at (by omega)
      have c1 := hc k hkl
      have S1 := (hP.below B7).sl ps[k] (List.getElem_mem hkl)
      have HX : Hid (fmP (pxs (ps.take (k + 1))) = fmP (pxs (ps.take k)) ++ (enc ps[k].n ++ ps[k].xs)) := by
        show _ = _
        rw [pxs_take ps k hkl, fmP_snoc, S1.len]
      have hqn := hq ps[k] (List.getElem_mem hkl)
      have hFM : (fmP (pxs (ps.take k))).length ≤ k * (1000000 + 10) := by
        refine Nat.le_trans (fmP_le _ 1000000 (by omega) (fun x hx => ?_)) ?_
        · obtain ⟨q, hq', rfl⟩ := List.mem_map.1 hx
          rw [(hP.sl q (List.mem_of_mem_take hq')).len]
          exact hq q (List.mem_of_mem_take hq')
        · rw [pxs_len, List.length_take]
          exact Nat.mul_le_mul_right _ (by omega)
      obtain ⟨q, hqe⟩ : ∃ q, q = ps[k] := ⟨_, rfl⟩
      rw [← hqe] at c1 S1 HX hqn
      clear hqe hc
      have hql := S1.len
      have hqb := S1.byte
      have eq := enc_length (n := q.n) (by omega)
      unfold Part.val at c1
      go_wp2_with (first
        | (go_at_call 43; refine (wBytes_any wr none q.ao 0 0 q.n q.cap [] q.xs (Sl.nothing wr) S1 (by omega)).mono ?_; rintro e w8 ⟨v8, rfl, own8, C8⟩; simp only [List.nil_append, Nat.zero_add] at own8; obtain ⟨fo, fc, rfl, S8, hS8⟩ := Sl.own own8 (Byt.append (enc_byte (by omega)) hqb); have B8 : Below w.heap.size w w8 := B7.trans (C8.mono (by omega)); have H8 := H7.below C8 (by omega); have s8 := C8.size; clear C8 own8 H7 S1)
        | (go_at_call 42; refine (add_any w8 w.heap.size _ fo _ fc _ (hT.below B8 h2) H8 h2 S8 (fun a ha _ => by have := (hS8 a ha).1; omega) (by simp; omega)).mono ?_; rintro e w9 ⟨⟨v9, rfl⟩, H9, g9⟩; have B9 : Below w.heap.size w w9 := B8.grown g9 (by omega) (by intro k hk; cases hk; exact Nat.le_refl _); have s9 := g9.size; clear g9 H8 S8 hS8 B8))
      go_roundw
      case rel =>
        refine ⟨k + 1, by omega, by go_num, B9, by omega, ?_⟩
        rw [HX.out, ← List.append_assoc F]
        exact H9
      case measure => simp [intOf]; omega
    · have hge : (n : Int) ≤ (k : Int) := by omega
      have e : ps.take k = ps := List.take_of_length_le (by omega)
      rw [e] at H7
      clear e
      have hFM : (fmP (pxs ps)).length ≤ n * (1000000 + 10) := by
        refine Nat.le_trans (fmP_le _ 1000000 (by omega) (fun x hx => ?_)) ?_
        · obtain ⟨q, hq', rfl⟩ := List.mem_map.1 hx
          rw [(hP.sl q hq').len]
          exact hq q hq'
        · rw [pxs_len]
          exact Nat.mul_le_mul_right _ (by omega)
      go_wp2_with (go_at_call 44; refine (hsum_any wr w.heap.size _ T7 H7 (by simp; omega)).mono ?_; rintro e w3 ⟨v, rfl, own3, B3⟩)
      go_ret
      refine ⟨_, rfl, ?_, B7.trans (B3.mono (by omega))⟩
      rw [HF.out]
      exact own_base own3 (by omega)
open Go.RowKit
theorem tyB : GTy elB.sz 24 (.slice none 0 0) 28 57 := ⟨by kernel_rfl, rfl, Tryz.underlying57⟩
def reqB (q : QM) : List Int := if kq q.cl q.st (rightO q.o.s (q.l.map sn0)) = 0 then putQ q.v else []
theorem reqB_len {q : QM} {w : World} (h : q.ok w) : (reqB q).length ≤ 8000 := by
  unfold reqB
  by_cases c : kq q.cl q.st (rightO q.o.s (q.l.map sn0)) = 0
  · rw [if_pos c]; exact req_len h c
  · rw [if_neg c]; exact Nat.zero_le _
def bsP (b : Bs) : Part := ⟨b.ao, b.n, b.cap, b.xs⟩
theorem pxs_bs (ys : List Bs) : pxs (ys.map bsP) = ys.map Bs.xs := by
  unfold pxs
  rw [List.map_map]
  rfl
theorem pl_of {w : World} {ao : Option Addr} {n cap : Nat} {ys : List Bs} (h : GL elB w ao n cap ys) : PL w ao n cap (ys.map bsP) := by
  refine ⟨by rw [List.length_map, h.len], h.le, h.mx, fun e => (h.nil e).1, fun a ha i hi => ?_, fun q hq => ?_⟩
  · rw [List.length_map] at hi
    have := h.cell a ha i hi 0 _ rfl
    rw [show i * elB.sz + 0 = i by show i * 1 + 0 = i; omega] at this
    rw [this, List.getElem_map]
    rfl
  · obtain ⟨y, hy, rfl⟩ := List.mem_map.1 hq
    exact h.ok y hy
set_option maxRecDepth 100000 in
set_option maxHeartbeats 8000000 in
theorem batch_any (w : World) (ao : Option Addr) (n cap : Nat) (l : List QM) (L : GL elQ w ao n cap l) (hT : Tabs w) (hn : n ≤ 1000) :
    Calls Tryz.prog 9 #[.slice ao n cap] w fun e w' => ∃ v, e = .returned v ∧ w'.ownsRow w.heap.size 5 1 v 32 (bv (sumL (formL (sb ⟨#[98, 97, 116, 99, 104]⟩) (l.map reqB)))) ∧ Below w.heap.size w w' := by
  have hl := L.len
  have hni : (n : Int) ≤ 1000 := by omega
  go_enter Tryz.func9, Tryz.ntmps9
  go_wp2_with fail
  go_loopw [3, 10] (fun v' i wr => ∃ (j : Nat) (v : Value) (ys : List Bs), j ≤ n ∧ i = .int .i64 j ∧ v = v' ∧ GI elB 28 wr w.heap.size v ys ∧ ys.length = j ∧ Hid (ys.map Bs.xs = (l.take j).map reqB) ∧ Below w.heap.size w wr) (fun _ i _ => n - (intOf i).toNat)
  case atStart => exact ⟨0, _, [], Nat.zero_le _, rfl, rfl, GI.nil _ _ _ _, rfl, rfl, Below.refl _ _⟩
  case round =>
    obtain ⟨j, v, ys, hj, rfl, rfl, GR, hyl, HY, B⟩ := hrel
    have hsz := B.size
    by_cases hlt : j < n
    · have hji : (j : Int) < (n : Int) := by omega
      have hkl : j < l.length := by omega
      have Lr := L.below elQ_fine B
      obtain ⟨b, off, rfl, hc⟩ := Lr.atQ (by omega)
      have X := hc j hkl
      have hok : (l[j]).ok wr := Lr.ok _ (List.getElem_mem hkl)
      have HX : Hid ((l.take (j + 1)).map reqB = (l.take j).map reqB ++ [reqB l[j]]) := by
        show _ = _
        rw [List.take_succ_eq_append_getElem hkl, List.map_append]
        rfl
      obtain ⟨q, hq⟩ : ∃ q, q = l[j] := ⟨_, rfl⟩
      rw [← hq] at X hok HX
      obtain ⟨q0, q1, q2, q3, q4, q5, q6, q7, q8, q9, q10, q11⟩ := X
      have C_ : Below wr.heap.size wr (wr.alloc (.cells #[.int .u64 q.cl, .int .u64 q.st, .int .i64 q.o.kind, .string q.o.row, .string q.o.fam, .string q.o.qual, .int .u64 q.o.time, .string q.o.to, .slice q.o.va.ao q.o.va.n q.o.va.cap, .slice q.o.wa.ao q.o.wa.n q.o.wa.cap, .bool q.o.has, .slice q.o.so q.o.sn q.o.sc] 33)) := (Below.refl _ _).alloc (Nat.le_refl _) _
      have qok : q.ok (wr.alloc (.cells #[.int .u64 q.cl, .int .u64 q.st, .int .i64 q.o.kind, .string q.o.row, .string q.o.fam, .string q.o.qual, .int .u64 q.o.time, .string q.o.to, .slice q.o.va.ao q.o.va.n q.o.va.cap, .slice q.o.wa.ao q.o.wa.n q.o.wa.cap, .bool q.o.has, .slice q.o.so q.o.sn q.o.sc] 33)) := elQ_fine.below hok C_
      have CQ := preq_far (wr.alloc (.cells #[.int .u64 q.cl, .int .u64 q.st, .int .i64 q.o.kind, .string q.o.row, .string q.o.fam, .string q.o.qual, .int .u64 q.o.time, .string q.o.to, .slice q.o.va.ao q.o.va.n q.o.va.cap, .slice q.o.wa.ao q.o.wa.n q.o.wa.cap, .bool q.o.has, .slice q.o.so q.o.sn q.o.sc] 33)) q.cl q.st q.o q.l qok.cl qok.st qok.o qok.l
      rw [show qVal q.cl q.st q.o = .agg #[.int .u64 q.cl, .int .u64 q.st, .int .i64 q.o.kind, .string q.o.row, .string q.o.fam, .string q.o.qual, .int .u64 q.o.time, .string q.o.to, .slice q.o.va.ao q.o.va.n q.o.va.cap, .slice q.o.wa.ao q.o.wa.n q.o.wa.cap, .bool q.o.has, .slice q.o.so q.o.sn q.o.sc] from rfl] at CQ
      clear hq hc Lr
      go_wp2_with fail
      refine CQ.mono ?_
      rintro e w2 ⟨⟨fo, fn, fc, rfl, S2, F2⟩, D_⟩
      have C2 := C_.trans (D_.mono C_.size)
      have HS2 : Hid ((if kq q.cl q.st (rightO q.o.s (q.l.map sn0)) = 0 then enc q.cl ++ (enc q.st ++ putA q.o q.l) else []) = reqB q) := by
        show _ = _
        unfold reqB putQ QM.v
        rw [putA_P]
      rw [HS2.out] at S2
      have GR2 := GR.below elB_fine C2
      have HF2 : Hid (∀ a, fo = some a → wr.heap.size ≤ a.block) := fun a ha => Nat.le_trans C_.size (F2 a ha)
      have vlt : Hid (∀ z, v.ownBlock = some z → z < wr.heap.size) := fun z hz => (GR.own.lt z hz).2
      have B2 := B.trans (C2.mono hsz)
      clear CQ C_ D_ F2 GR qok hok q0 q1 q2 q3 q4 q5 q6 q7 q8 q9 q10 q11 HS2 C2
      have C3 : Below w2.heap.size w2 (w2.alloc (.cells #[.slice fo fn fc] 28)) := (Below.refl _ _).alloc (Nat.le_refl _) _
      have K3 : (w2.alloc (.cells #[.slice fo fn fc] 28)).heap[w2.heap.size]? = some (.cells #[.slice fo fn fc] 28) := heap_alloc_new _ _
      have S3 := S2.below C3
      have GR3 := GR2.below elB_fine C3
      have B3 := B2.trans (C3.mono B2.size)
      have HG : Hid (∀ i u, (elB.c ⟨fo, fn, fc, reqB q⟩)[i]? = some u → (w2.alloc (.cells #[.slice fo fn fc] 28)).cell? ((⟨w2.heap.size, 0, none⟩ : Addr).add i) = some u) := fun i u hu => by
        rw [Addr.add_lit, Nat.zero_add, cell_of_row _ _ i _ _ _ K3]
        simpa [elB] using hu
      have HNE : Hid (∀ z, elB.blk ⟨fo, fn, fc, reqB q⟩ z → v.ownBlock ≠ some z) := fun z hz e => by
        obtain ⟨a, ha, _, rfl⟩ := hz
        have h1 := HF2.out a ha
        have h2 := vlt.out _ e
        omega
      have hb3 := B3.size
      clear K3 S2 GR2 C3 HF2 vlt B2
      go_wp2_with (refine wpList_appG elB_fine tyB rfl (.tmp 19) (.tmp 21) rfl GR3 rfl rfl HG.out S3 HNE.out (by omega) (by unfold maxLen; omega) hb3 ?_; intro v4 w4 GR4 B4)
      have B5 := B3.trans B4
      go_roundw
      case rel => exact ⟨j + 1, v4, ys ++ [⟨fo, fn, fc, reqB q⟩], by omega, by go_num, rfl, GR4, by simp [hyl], by rw [HX.out, ← HY.out, List.map_append] <;> rfl, B5⟩
      case measure => simp [intOf]; omega
    · have hge : (n : Int) ≤ (j : Int) := by omega
      have HX : Hid (ys.map Bs.xs = l.map reqB) := by
        show _ = _
        rw [HY.out, List.take_of_length_le (by omega)]
      obtain ⟨ao1, cap1, rfl, GLx, -⟩ := GR.gl elB_fine
      have hyl2 : ys.length ≤ 1000 := by omega
      have PX := pl_of GLx
      have HPX : Hid (pxs (ys.map bsP) = l.map reqB) := by
        show _ = _
        rw [pxs_bs, HX.out]
      have HQ : ∀ q ∈ ys.map bsP, q.n ≤ 1000000 := fun q hq => by
        obtain ⟨y, hy, rfl⟩ := List.mem_map.1 hq
        have h1 : Sl wr y.ao y.n y.cap y.xs := GLx.ok y hy
        have h2 : y.xs ∈ l.map reqB := by rw [← HX.out]; exact List.mem_map_of_mem hy
        obtain ⟨r, hr, e⟩ := List.mem_map.1 h2
        have h3 := reqB_len (L.ok r hr)
        show y.n ≤ _
        rw [← h1.len, ← e]
        omega
      have CO := of_any wr ⟨#[98, 97, 116, 99, 104]⟩ ao1 _ cap1 (ys.map bsP) PX (hT.below B hT.two) (by decide) (by omega) HQ
      rw [HPX.out] at CO
      generalize ys.length = m at CO hyl2 ⊢
      clear GR GLx PX HQ HX
      go_wp2_with fail
      refine CO.mono ?_
      rintro e w6 ⟨v6, rfl, own6, C6⟩
      have B6 := B.trans (C6.mono B.size)
      clear CO C6
      go_wp2
      go_ret
      exact ⟨v6, rfl, own_base own6 hsz, B6⟩
open Go.RowKit
theorem rd_or {α : Type} (f : Th α) (kind : α → Int) (xs : List Int) : rdT f kind xs = if or2 (doneS (f xs 0).2.1 (f xs 0).2.2) (kind (f xs 0).1) = 0 then .inr (f xs 0).1 else .inl (or2 (doneS (f xs 0).2.1 (f xs 0).2.2) (kind (f xs 0).1)) := by
  unfold rdT or2
  by_cases c : doneS (f xs 0).2.1 (f xs 0).2.2 = 0
  · simp only [c, if_true]
  · simp only [c, if_false]
end Go.Proofs.YtcgphdipfekccaaGreatDoor

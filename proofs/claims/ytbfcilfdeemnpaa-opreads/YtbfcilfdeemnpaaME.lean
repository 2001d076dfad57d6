/-
  Small texts in one.
-/
import Derived.Test.YtbfcilfdeemnpaaRRdO
import Derived.Test.YtbfcilfdeemnpaaRRdQ
import Derived.Test.YtbfcilfdeemnpaaMF
import Derived.Test.YtbfcilfdeemnpaaRResults
namespace Go.Proofs.Ytbfcilfdeemnpaa
open Go.RowKit

def kindT {α : Type} (t : Sum Int α) : Int := match t with
  | .inl k => k
  | .inr _ => 0
def valT {α : Type} (z : α) (t : Sum Int α) : α := match t with
  | .inl _ => z
  | .inr q => q
def zeroP : OP := (zeroOA.s, [])
theorem zeroS_fits : zeroOA.s.fits := ⟨⟨by decide, by decide⟩, by decide, by decide, by decide, by decide, by decide, ⟨by decide, fun _ h => by simp [zeroOA, OA.s, noBs] at h⟩, ⟨by decide, fun _ h => by simp [zeroOA, OA.s, noBs] at h⟩⟩
theorem zeroP_fits : zeroP.fits := ⟨zeroS_fits, Nat.zero_le _, fun _ h => by simp [zeroP] at h⟩
/-- An operation that was read, or the zero one. -/
structure ToldO (w' : World) (o : OA) (l : List OA) (t : OP) : Prop where
  ok : o.ok w'
  owl : OWL w' 0 o.so o.sn o.sc l
  eq : t = (o.s, l.map OA.s)
  flat : ∀ y ∈ l, y.sn = 0
theorem ToldO.below {w w' : World} {o : OA} {l : List OA} {t : OP} (h : ToldO w o l t) (hb : Below w.heap.size w w') : ToldO w' o l t := ⟨h.ok.below hb, h.owl.below hb, h.eq, h.flat⟩
theorem ToldO.zero (w : World) : ToldO w zeroOA [] zeroP := ⟨zeroOA_ok w, OWL.none (zeroOA_ok w) rfl, rfl, fun _ h => by simp at h⟩
theorem told_o {w w' : World} {t : Sum Int OP} {e : Ending} (h : RdoPost w t e w') : ∃ (o : OA) (l : List OA), e = .returned (.tuple #[o.val, .int .i64 (kindT t)]) ∧ ToldO w' o l (valT zeroP t) := by
  cases t with
  | inl k => exact ⟨zeroOA, [], h.bad k rfl, ToldO.zero w'⟩
  | inr q =>
    obtain ⟨o, l, h1, h2, h3, h4, h5⟩ := h.good q rfl
    exact ⟨o, l, h1, h2, h3, h4, h5⟩
theorem fit_o {xs : List Int} (hb : Byt xs) : (valT zeroP (rdO xs)).fits := by
  cases h : rdO xs with
  | inl k => exact zeroP_fits
  | inr q => exact (rdAll_back good_p kindP hb h).2.1
def zeroQ : QV := (0, 0, zeroP)
theorem told_q {w w' : World} {t : Sum Int QV} {e : Ending} (h : RdqPost w t e w') : ∃ (o : OA) (l : List OA), e = .returned (.tuple #[qVal (valT zeroQ t).1 (valT zeroQ t).2.1 o, .int .i64 (kindT t)]) ∧ ToldO w' o l (valT zeroQ t).2.2 := by
  cases t with
  | inl k => exact ⟨zeroOA, [], h.bad k rfl, ToldO.zero w'⟩
  | inr q =>
    obtain ⟨o, l, h1, _, _, h2, h3, h4, h5⟩ := h.good q rfl
    exact ⟨o, l, h1, h2, h3, h4, h5⟩
theorem fit_q {xs : List Int} (hb : Byt xs) : (valT zeroQ (rdQ xs)).2.2.fits := by
  cases h : rdQ xs with
  | inl k => exact zeroP_fits
  | inr q => exact (rdAll_back good_q kindQ hb h).2.1.2.2
def zeroR : RV := ⟨0, [], false⟩
theorem told_r {w w' : World} {t : Sum Int RV} {e : Ending} (h : RdrPost w t e w') : ∃ (ao : Option Addr) (n cap : Nat) (l : List CA), e = .returned (.tuple #[resV (valT zeroR t).e ao n cap (valT zeroR t).more, .int .i64 (kindT t)]) ∧ CL w' ao n cap l ∧ l.map CA.c = (valT zeroR t).cells := by
  cases t with
  | inl k => exact ⟨none, 0, 0, [], h.bad k rfl, CL.nothing w', rfl⟩
  | inr q =>
    obtain ⟨c, ao, n, cap, l, m, h1, h2, h3⟩ := h.good q rfl
    subst h3
    exact ⟨ao, n, cap, l, h1, h2, rfl⟩
theorem fit_r {xs : List Int} (hb : Byt xs) : (valT zeroR (rdR xs)).cells.length ≤ 16 := by
  cases h : rdR xs with
  | inl k => exact Nat.zero_le _
  | inr q => exact (rdAll_back good_r kindR hb h).2.1.2.1
/-- Two that were read alike are the same. -/
theorem told_same {w : World} {o p : OA} {l m : List OA} {t : OP} (h1 : ToldO w o l t) (h2 : ToldO w p m t) (hf : t.fits) :
    OW w 2 (liftD 0 o l) ∧ OW w 2 (liftD 0 p m) ∧ lightD 2 (liftD 0 o l) = true ∧ lightD 2 (liftD 0 p m) = true ∧ sameD 2 (liftD 0 o l) (liftD 0 p m) = true := by
  refine ⟨read_OW 0 h1.ok h1.owl h1.flat, read_OW 0 h2.ok h2.owl h2.flat, read_light 0 h1.ok h1.owl h1.flat (by rw [← h1.eq]; exact hf), read_light 0 h2.ok h2.owl h2.flat (by rw [← h2.eq]; exact hf), ?_⟩
  refine read_same (d := 0) (pl := m.map (lift1 0)) ?_ ?_
  · have e : (m.map (lift1 0)).map (topD (0 + 1)) = m := (List.map_map ..).trans (List.map_id m)
    rw [e, ← h2.eq, h1.eq]
  · intro x hx
    obtain ⟨y, _, rfl⟩ := List.mem_map.1 hx
    rfl
/-- What the law asks of the reference's Same and Requests. -/
theorem same_told {w : World} {o p : OA} {l m : List OA} {t : OP} (h1 : ToldO w o l t) (h2 : ToldO w p m t) (hf : t.fits) :
    Calls Try.prog 22 #[o.val, p.val] w fun e w' => e = .returned (.bool true) ∧ Below w.heap.size w w' := by
  obtain ⟨a, b, c, d, s⟩ := told_same h1 h2 hf
  exact (rsame6 2 w (liftD 0 o l) (liftD 0 p m) a b c d).mono fun e w' h => ⟨h.1.trans (by rw [s]), h.2⟩
theorem reqs_told {w : World} {cl st : Nat} {o p : OA} {l m : List OA} {t : OP} (h1 : ToldO w o l t) (h2 : ToldO w p m t) (hf : t.fits) :
    Calls Try.prog 23 #[qVal cl st o, qVal cl st p] w fun e w' => e = .returned (.bool true) ∧ Below w.heap.size w w' := by
  obtain ⟨a, b, c, d, s⟩ := told_same h1 h2 hf
  exact (rreqs_any 2 w cl st cl st (liftD 0 o l) (liftD 0 p m) a b c d).mono fun e w' h => ⟨h.1.trans (by rw [s]; simp), h.2⟩
end Go.Proofs.Ytbfcilfdeemnpaa

namespace Go.Proofs.Ytbfcilfdeemnpaa
open Go.RowKit

set_option maxRecDepth 100000 in
set_option maxHeartbeats 16000000 in
theorem opReads_any (w : World) (ao : Option Addr) (n cap : Nat) (xs : List Int) (h : Sl w ao n cap xs) :
    Calls Try.prog 4 #[.slice ao n cap] w fun e w' => e = .returned (.bool true) ∧ Below w.heap.size w w' := by
  by_cases hn : 20000 < n
  · have B := Below.refl w.heap.size w
    clear h
    go_enter Try.func4, Try.ntmps4
    go_wp2_with (go_at_call 10; refine (alive6 _).mono ?_; rintro e wz ⟨rfl, Cz⟩; have Bz := B.trans (Cz.mono B.size))
    go_ret
    exact ⟨rfl, Bz⟩
  have hn : n ≤ 20000 := by omega
  have FO : Hid ((valT zeroP (rdO xs)).fits) := fit_o h.byte
  have FQ : Hid ((valT zeroQ (rdQ xs)).2.2.fits) := fit_q h.byte
  have FR : Hid ((valT zeroR (rdR xs)).cells.length ≤ 16) := fit_r h.byte
  have B := Below.refl w.heap.size w
  obtain ⟨k1, e1⟩ : ∃ k, k = kindT (rdO xs) := ⟨_, rfl⟩
  obtain ⟨k2, e2⟩ : ∃ k, k = kindT (rdQ xs) := ⟨_, rfl⟩
  obtain ⟨k3, e3⟩ : ∃ k, k = kindT (rdR xs) := ⟨_, rfl⟩
  obtain ⟨t1, f1⟩ : ∃ k, k = valT zeroP (rdO xs) := ⟨_, rfl⟩
  obtain ⟨t2, f2⟩ : ∃ k, k = valT zeroQ (rdQ xs) := ⟨_, rfl⟩
  obtain ⟨t3, f3⟩ : ∃ k, k = valT zeroR (rdR xs) := ⟨_, rfl⟩
  have E1 : Hid (k1 = kindT (rdO xs)) := e1
  have E2 : Hid (k2 = kindT (rdQ xs)) := e2
  have E3 : Hid (k3 = kindT (rdR xs)) := e3
  have F1 : Hid (t1 = valT zeroP (rdO xs)) := f1
  have F2 : Hid (t2 = valT zeroQ (rdQ xs)) := f2
  have F3 : Hid (t3 = valT zeroR (rdR xs)) := f3
  rw [← f1] at FO
  rw [← f2] at FQ
  rw [← f3] at FR
  clear e1 e2 e3 f1 f2 f3
  go_enter Try.func4, Try.ntmps4
  go_wp2_with fail
  refine (prdo_any w ao n cap xs h (by omega)).mono ?_
  intro e u1 PP
  obtain ⟨o1, l1, rfl, T1⟩ := told_o PP
  have C := PP.bel
  replace B := B.trans (C.mono B.size)
  have h := h.below C
  rw [← E1.out]
  rw [← F1.out] at T1
  clear C PP
  obtain ⟨a1, ha⟩ : ∃ a, a = u1.heap.size := ⟨_, rfl⟩
  obtain ⟨w1, hW⟩ : ∃ W, W = u1.alloc (Obj.cells #[.int .i64 o1.kind, .string o1.row, .string o1.fam, .string o1.qual, .int .u64 o1.time, .string o1.to, .slice o1.va.ao o1.va.n o1.va.cap, .slice o1.wa.ao o1.wa.n o1.wa.cap, .bool o1.has, .slice o1.so o1.sn o1.sc] 28) := ⟨_, rfl⟩
  have C : Below u1.heap.size u1 w1 := by rw [hW]; exact (Below.refl _ _).alloc (Nat.le_refl _) _
  replace T1 := T1.below C
  replace B := B.trans (C.mono B.size)
  have h := h.below C
  have K1 : OC w1 a1 o1 := by rw [hW, ha]; exact heap_alloc_new u1 _
  rw [show o1.val = .agg #[.int .i64 o1.kind, .string o1.row, .string o1.fam, .string o1.qual, .int .u64 o1.time, .string o1.to, .slice o1.va.ao o1.va.n o1.va.cap, .slice o1.wa.ao o1.wa.n o1.wa.cap, .bool o1.has, .slice o1.so o1.sn o1.sc] from rfl]
  clear C
  go_wp2_with fail
  rw [← hW, ← ha]
  clear hW ha
  refine (rrdo_any w1 ao n cap xs h (by omega)).mono ?_
  intro e u2 PP
  obtain ⟨o2, l2, rfl, T2⟩ := told_o PP
  have C := PP.bel
  replace T1 := T1.below C
  replace K1 := K1.keep C
  replace B := B.trans (C.mono B.size)
  have h := h.below C
  rw [← E1.out]
  rw [← F1.out] at T2
  clear C PP
  obtain ⟨a2, ha⟩ : ∃ a, a = u2.heap.size := ⟨_, rfl⟩
  obtain ⟨w2, hW⟩ : ∃ W, W = u2.alloc (Obj.cells #[.int .i64 o2.kind, .string o2.row, .string o2.fam, .string o2.qual, .int .u64 o2.time, .string o2.to, .slice o2.va.ao o2.va.n o2.va.cap, .slice o2.wa.ao o2.wa.n o2.wa.cap, .bool o2.has, .slice o2.so o2.sn o2.sc] 28) := ⟨_, rfl⟩
  have C : Below u2.heap.size u2 w2 := by rw [hW]; exact (Below.refl _ _).alloc (Nat.le_refl _) _
  replace T1 := T1.below C
  replace K1 := K1.keep C
  replace T2 := T2.below C
  replace B := B.trans (C.mono B.size)
  have h := h.below C
  have K2 : OC w2 a2 o2 := by rw [hW, ha]; exact heap_alloc_new u2 _
  rw [show o2.val = .agg #[.int .i64 o2.kind, .string o2.row, .string o2.fam, .string o2.qual, .int .u64 o2.time, .string o2.to, .slice o2.va.ao o2.va.n o2.va.cap, .slice o2.wa.ao o2.wa.n o2.wa.cap, .bool o2.has, .slice o2.so o2.sn o2.sc] from rfl]
  clear C
  go_wp2_with fail
  rw [← hW, ← ha]
  clear hW ha
  refine (prdq_any w2 ao n cap xs h (by omega)).mono ?_
  intro e u3 PP
  obtain ⟨o3, l3, rfl, T3⟩ := told_q PP
  have C := PP.bel
  replace T1 := T1.below C
  replace K1 := K1.keep C
  replace T2 := T2.below C
  replace K2 := K2.keep C
  replace B := B.trans (C.mono B.size)
  have h := h.below C
  rw [← E2.out]
  rw [← F2.out] at T3
  rw [← F2.out]
  clear C PP
  obtain ⟨a3, ha⟩ : ∃ a, a = u3.heap.size := ⟨_, rfl⟩
  obtain ⟨w3, hW⟩ : ∃ W, W = u3.alloc (Obj.cells #[.int .u64 t2.1, .int .u64 t2.2.1, .int .i64 o3.kind, .string o3.row, .string o3.fam, .string o3.qual, .int .u64 o3.time, .string o3.to, .slice o3.va.ao o3.va.n o3.va.cap, .slice o3.wa.ao o3.wa.n o3.wa.cap, .bool o3.has, .slice o3.so o3.sn o3.sc] 30) := ⟨_, rfl⟩
  have C : Below u3.heap.size u3 w3 := by rw [hW]; exact (Below.refl _ _).alloc (Nat.le_refl _) _
  replace T1 := T1.below C
  replace K1 := K1.keep C
  replace T2 := T2.below C
  replace K2 := K2.keep C
  replace T3 := T3.below C
  replace B := B.trans (C.mono B.size)
  have h := h.below C
  have K3 : QC w3 a3 t2.1 t2.2.1 o3 := by rw [hW, ha]; exact heap_alloc_new u3 _
  rw [show qVal t2.1 t2.2.1 o3 = .agg #[.int .u64 t2.1, .int .u64 t2.2.1, .int .i64 o3.kind, .string o3.row, .string o3.fam, .string o3.qual, .int .u64 o3.time, .string o3.to, .slice o3.va.ao o3.va.n o3.va.cap, .slice o3.wa.ao o3.wa.n o3.wa.cap, .bool o3.has, .slice o3.so o3.sn o3.sc] from rfl]
  clear C
  go_wp2_with fail
  rw [← hW, ← ha]
  clear hW ha
  refine (rrdq_any w3 ao n cap xs h (by omega)).mono ?_
  intro e u4 PP
  obtain ⟨o4, l4, rfl, T4⟩ := told_q PP
  have C := PP.bel
  replace T1 := T1.below C
  replace K1 := K1.keep C
  replace T2 := T2.below C
  replace K2 := K2.keep C
  replace T3 := T3.below C
  replace K3 := K3.keep C
  replace B := B.trans (C.mono B.size)
  have h := h.below C
  rw [← E2.out]
  rw [← F2.out] at T4
  rw [← F2.out]
  clear C PP
  obtain ⟨a4, ha⟩ : ∃ a, a = u4.heap.size := ⟨_, rfl⟩
  obtain ⟨w4, hW⟩ : ∃ W, W = u4.alloc (Obj.cells #[.int .u64 t2.1, .int .u64 t2.2.1, .int .i64 o4.kind, .string o4.row, .string o4.fam, .string o4.qual, .int .u64 o4.time, .string o4.to, .slice o4.va.ao o4.va.n o4.va.cap, .slice o4.wa.ao o4.wa.n o4.wa.cap, .bool o4.has, .slice o4.so o4.sn o4.sc] 30) := ⟨_, rfl⟩
  have C : Below u4.heap.size u4 w4 := by rw [hW]; exact (Below.refl _ _).alloc (Nat.le_refl _) _
  replace T1 := T1.below C
  replace K1 := K1.keep C
  replace T2 := T2.below C
  replace K2 := K2.keep C
  replace T3 := T3.below C
  replace K3 := K3.keep C
  replace T4 := T4.below C
  replace B := B.trans (C.mono B.size)
  have h := h.below C
  have K4 : QC w4 a4 t2.1 t2.2.1 o4 := by rw [hW, ha]; exact heap_alloc_new u4 _
  rw [show qVal t2.1 t2.2.1 o4 = .agg #[.int .u64 t2.1, .int .u64 t2.2.1, .int .i64 o4.kind, .string o4.row, .string o4.fam, .string o4.qual, .int .u64 o4.time, .string o4.to, .slice o4.va.ao o4.va.n o4.va.cap, .slice o4.wa.ao o4.wa.n o4.wa.cap, .bool o4.has, .slice o4.so o4.sn o4.sc] from rfl]
  clear C
  go_wp2_with fail
  rw [← hW, ← ha]
  clear hW ha
  refine (prdr_any w4 ao n cap xs h (by omega)).mono ?_
  intro e u5 PP
  obtain ⟨b5, n5, c5, l5, rfl, T5, hl5⟩ := told_r PP
  have C := PP.bel
  replace T1 := T1.below C
  replace K1 := K1.keep C
  replace T2 := T2.below C
  replace K2 := K2.keep C
  replace T3 := T3.below C
  replace K3 := K3.keep C
  replace T4 := T4.below C
  replace K4 := K4.keep C
  replace B := B.trans (C.mono B.size)
  have h := h.below C
  rw [← E3.out]
  rw [← F3.out] at hl5
  rw [← F3.out]
  have HL5 : Hid (l5.map CA.c = t3.cells) := hl5
  clear hl5
  clear C PP
  obtain ⟨a5, ha⟩ : ∃ a, a = u5.heap.size := ⟨_, rfl⟩
  obtain ⟨w5, hW⟩ : ∃ W, W = u5.alloc (Obj.cells #[.int .i64 t3.e, .slice b5 n5 c5, .bool t3.more] 45) := ⟨_, rfl⟩
  have C : Below u5.heap.size u5 w5 := by rw [hW]; exact (Below.refl _ _).alloc (Nat.le_refl _) _
  replace T1 := T1.below C
  replace K1 := K1.keep C
  replace T2 := T2.below C
  replace K2 := K2.keep C
  replace T3 := T3.below C
  replace K3 := K3.keep C
  replace T4 := T4.below C
  replace K4 := K4.keep C
  replace T5 := T5.below C
  replace B := B.trans (C.mono B.size)
  have h := h.below C
  have K5 : RC w5 a5 t3.e b5 n5 c5 t3.more := by rw [hW, ha]; exact heap_alloc_new u5 _
  rw [show resV t3.e b5 n5 c5 t3.more = .agg #[.int .i64 t3.e, .slice b5 n5 c5, .bool t3.more] from rfl]
  clear C
  go_wp2_with fail
  rw [← hW, ← ha]
  clear hW ha
  refine (rrdr_any w5 ao n cap xs h (by omega)).mono ?_
  intro e u6 PP
  obtain ⟨b6, n6, c6, l6, rfl, T6, hl6⟩ := told_r PP
  have C := PP.bel
  replace T1 := T1.below C
  replace K1 := K1.keep C
  replace T2 := T2.below C
  replace K2 := K2.keep C
  replace T3 := T3.below C
  replace K3 := K3.keep C
  replace T4 := T4.below C
  replace K4 := K4.keep C
  replace T5 := T5.below C
  replace K5 := K5.keep C
  replace B := B.trans (C.mono B.size)
  clear h
  rw [← E3.out]
  rw [← F3.out] at hl6
  rw [← F3.out]
  have HL6 : Hid (l6.map CA.c = t3.cells) := hl6
  clear hl6 C PP
  have C : Below u6.heap.size u6 (u6.alloc (Obj.cells #[.int .i64 t3.e, .slice b6 n6 c6, .bool t3.more] 45)) := (Below.refl _ _).alloc (Nat.le_refl _) _
  replace T1 := T1.below C
  replace K1 := K1.keep C
  replace T2 := T2.below C
  replace K2 := K2.keep C
  replace T3 := T3.below C
  replace K3 := K3.keep C
  replace T4 := T4.below C
  replace K4 := K4.keep C
  replace T5 := T5.below C
  replace K5 := K5.keep C
  replace T6 := T6.below C
  replace B := B.trans (C.mono B.size)
  have K6 : RC (u6.alloc (Obj.cells #[.int .i64 t3.e, .slice b6 n6 c6, .bool t3.more] 45)) u6.heap.size t3.e b6 n6 c6 t3.more := heap_alloc_new u6 _
  rw [show resV t3.e b6 n6 c6 t3.more = .agg #[.int .i64 t3.e, .slice b6 n6 c6, .bool t3.more] from rfl]
  clear C
  have S := same_told T1 T2 FO.out
  unfold OA.val at S
  have HS : Hid (Calls _ _ _ _ _) := S
  clear S
  obtain ⟨p0, p1, p2, p3, p4, p5, p6, p7, p8, p9⟩ := K1.cs
  obtain ⟨q0, q1, q2, q3, q4, q5, q6, q7, q8, q9⟩ := K2.cs
  go_wp2_with fail
  clear p0 q0 p1 q1 p2 q2 p3 q3 p4 q4 p5 q5 p6 q6 p7 q7 p8 q8 p9 q9
  refine Calls.mono HS.out ?_
  rintro e x1 ⟨rfl, C⟩
  clear HS
  clear T1 T2 K1 K2
  replace T3 := T3.below C
  replace K3 := K3.keep C
  replace T4 := T4.below C
  replace K4 := K4.keep C
  replace T5 := T5.below C
  replace K5 := K5.keep C
  replace T6 := T6.below C
  replace K6 := K6.keep C
  replace B := B.trans (C.mono B.size)
  clear C
  have S := reqs_told (cl := t2.1) (st := t2.2.1) T3 T4 FQ.out
  rw [show qVal t2.1 t2.2.1 o3 = .agg #[.int .u64 t2.1, .int .u64 t2.2.1, .int .i64 o3.kind, .string o3.row, .string o3.fam, .string o3.qual, .int .u64 o3.time, .string o3.to, .slice o3.va.ao o3.va.n o3.va.cap, .slice o3.wa.ao o3.wa.n o3.wa.cap, .bool o3.has, .slice o3.so o3.sn o3.sc] from rfl, show qVal t2.1 t2.2.1 o4 = .agg #[.int .u64 t2.1, .int .u64 t2.2.1, .int .i64 o4.kind, .string o4.row, .string o4.fam, .string o4.qual, .int .u64 o4.time, .string o4.to, .slice o4.va.ao o4.va.n o4.va.cap, .slice o4.wa.ao o4.wa.n o4.wa.cap, .bool o4.has, .slice o4.so o4.sn o4.sc] from rfl] at S
  have HS : Hid (Calls _ _ _ _ _) := S
  clear S
  obtain ⟨p0, p1, p2, p3, p4, p5, p6, p7, p8, p9, p10, p11⟩ := K3.cs
  obtain ⟨q0, q1, q2, q3, q4, q5, q6, q7, q8, q9, q10, q11⟩ := K4.cs
  go_wp2_with fail
  clear p0 q0 p1 q1 p2 q2 p3 q3 p4 q4 p5 q5 p6 q6 p7 q7 p8 q8 p9 q9 p10 q10 p11 q11
  refine Calls.mono HS.out ?_
  rintro e x2 ⟨rfl, C⟩
  clear HS
  clear T3 T4 K3 K4
  replace T5 := T5.below C
  replace K5 := K5.keep C
  replace T6 := T6.below C
  replace K6 := K6.keep C
  replace B := B.trans (C.mono B.size)
  clear C
  have hn5 : n5 = n6 := by
    have a1 := T5.len
    have a2 := T6.len
    have a3 := congrArg List.length (HL5.out.trans HL6.out.symm)
    simp only [List.length_map] at a3
    omega
  have hn6 : n6 ≤ 1000 := by
    have a2 := T6.len
    have a3 := congrArg List.length HL6.out
    have a4 := FR.out
    simp only [List.length_map] at a3
    omega
  subst hn5
  have S := rresults_any x2 t3.e b5 b6 n5 c5 c6 l5 l6 t3.more T5 T6 (HL5.out.trans HL6.out.symm) hn6
  unfold resV at S
  have HS : Hid (Calls _ _ _ _ _) := S
  clear S
  have p0 := K5.c0
  have q0 := K6.c0
  have p1 := K5.c1
  have q1 := K6.c1
  have p2 := K5.c2
  have q2 := K6.c2
  go_wp2_with fail
  clear p0 q0 p1 q1 p2 q2
  refine Calls.mono HS.out ?_
  rintro e x3 ⟨rfl, C⟩
  clear HS
  clear T5 T6 K5 K6
  replace B := B.trans (C.mono B.size)
  clear C
  go_wp2_with (go_at_call 10; refine (alive6 _).mono ?_; rintro e wz ⟨rfl, Cz⟩; have Bz := B.trans (Cz.mono B.size))
  go_ret
  exact ⟨rfl, Bz⟩
end Go.Proofs.Ytbfcilfdeemnpaa

/-
  Texts in one: POp, PutOp, PReq, RReqs, OTypO, OTypC, OTypes, CellRow.
-/
import Derived.Test.YtkjaapomaaakmaaGreatMessageBytesQFL
import Derived.Test.YtkjaapomaaakmaaGreatMessageBytesQ10
import Derived.Test.YtkjaapomaaakmaaGreatMessageBytesQ8
import Derived.Test.YtkjaapomaaakmaaGreatMessageBytesQ0
import Derived.Test.YtkjaapomaaakmaaGreatMessageBytesQ9
import Derived.Test.YtkjaapomaaakmaaGreatMessageBytesQ2
namespace Go.Proofs.YtkjaapomaaakmaaGreat
open Go.RowKit
theorem putS_len {o : SO} (h : o.fits) {n : Nat} (hn : n ≤ 100) : (putS o n).length ≤ 800 := by
 have := txt_len h.row
 have := txt_len h.fam
 have := txt_len h.qual
 have := txt_len h.to
 have := enc_length h.time
 have := byts_len h.value.1
 have := byts_len h.want.1
 have := enb_len o.has
 have := enc_length (n := n) (by omega)
 have := enc_length (n := o.kind.toNat) (by have := h.kind; omega)
 unfold putS
 simp only [List.length_append]
 omega
set_option maxRecDepth 100000 in
set_option maxHeartbeats 8000000 in
theorem pput_gen (w : World) (ao : Option Addr) (n cap : Nat) (xs : List Int) (h : Sl w ao n cap xs) (M : Nat) (hM : M ≤ 850000) (hr : n ≤ M) (o : OA) (ho : o.ok w) (hf : o.s.fits) (l : List OA) (L : OWL w 0 o.so o.sn o.sc l) (hl8 : l.length ≤ 8) (hlf : ∀ x ∈ l, x.s.fits)
  (rec : ∀ (W : World) (bo : Option Addr) (m c : Nat) (ys : List Int) (x : OA), x ∈ l → Sl W bo m c ys → m ≤ M + 10000 → x.ok W → Calls Tryz.prog 80 #[.slice bo m c, x.val] W (PutPost W (ys ++ putS x.s 0))) :
  Calls Tryz.prog 80 #[.slice ao n cap, o.val] w (PutPost w (xs ++ (putS o.s l.length ++ (l.map fun x => putS x.s 0).flatten))) := by
 have hxl := h.len
 have hl : l.length = o.sn := L.len
 have B : Below w.heap.size w (w.alloc (Obj.cells o.cells.toArray 62)) := (Below.refl _ w).alloc (Nat.le_refl _) _
 have K : OC (w.alloc (Obj.cells o.cells.toArray 62)) w.heap.size o := OC.new w o
 unfold OA.cells at B K
 have h1 := h.below B
 have ho1 := ho.below B
 have L1 := L.below B
 clear h ho L
 obtain ⟨kd0, kd1⟩ : 0 ≤ o.kind ∧ o.kind ≤ 100 := hf.kind
 have hkf : KA.fits o.key := ⟨hf.row, hf.fam, hf.qual, hf.time⟩
 have lt : o.to.size ≤ 32 := hf.to
 have lv : o.va.xs.length ≤ 256 := hf.value.1
 have lw : o.wa.xs.length ≤ 256 := hf.want.1
 have g0 := enc_length (n := o.kind.toNat) (by omega)
 have g1 := putK_len hkf
 have g2 := txt_len lt
 have g3 := byts_len lv
 have g4 := byts_len lw
 have g5 := enb_len o.has
 have g6 := enc_length (n := o.sn) (by omega)
 unfold OA.val
 go_enter Tryz.func80, Tryz.ntmps80
 go_wp2_with fail
 obtain ⟨w1, hw1⟩ : ∃ W, W = w.alloc (Obj.cells #[.int .i64 o.kind, .string o.row, .string o.fam, .string o.qual, .int .u64 o.time, .string o.to, .slice o.va.ao o.va.n o.va.cap, .slice o.wa.ao o.wa.n o.wa.cap, .bool o.has, .slice o.so o.sn o.sc] 62) := ⟨_, rfl⟩
 obtain ⟨N, hN⟩ : ∃ N, N = w.heap.size := ⟨_, rfl⟩
 rw [← hw1] at B K h1 ho1 L1 ⊢
 rw [← hN] at B K ⊢
 have HN : Hid (N = w.heap.size) := hN
 clear hw1 hN
 have A1 : Below w1.heap.size w1 w1 := Below.refl _ _
 have S1 := h1
 have K1 := K
 have B1 := B
 clear h1 K B
 refine (fUintI w1 ao n cap o.kind _ S1 (by omega) kd0 (by omega)).mono ?_
 rintro e w2 ⟨b2, m2, c2, rfl, S2, C⟩
 have K2 := K1.keep C
 have B2 := B1.trans (C.mono (by have := B1.size; have := K1.lt; omega))
 have A2 := A1.trans (C.mono A1.size)
 have l2 := S2.len
 simp only [List.length_append] at l2
 clear C K1 B1 A1 S1
 obtain ⟨q0, q1, q2, q3, q4, q5, q6, q7, q8, q9⟩ := K2.cs
 go_wp2_with fail
 clear q0 q1 q2 q3 q4 q5 q6 q7 q8 q9
 refine (pkey_any w2 b2 m2 c2 _ S2 (by omega) o.key hkf).mono ?_
 rintro e w3 ⟨b3, m3, c3, rfl, S3, C⟩
 have K3 := K2.keep C
 have B3 := B2.trans (C.mono (by have := B2.size; have := K2.lt; omega))
 have A3 := A2.trans (C.mono A2.size)
 have l3 := S3.len
 simp only [List.length_append] at l3
 clear C K2 B2 A2 S2
 obtain ⟨q0, q1, q2, q3, q4, q5, q6, q7, q8, q9⟩ := K3.cs
 go_wp2_with fail
 clear q0 q1 q2 q3 q4 q5 q6 q7 q8 q9
 obtain ⟨g, hg⟩ : ∃ g, g = w3.heap.size := ⟨_, rfl⟩
 obtain ⟨v3, hv3⟩ : ∃ V, V = w3.alloc (.cells #[.string o.to] 9) := ⟨_, rfl⟩
 have U3 : Below w3.heap.size w3 v3 := by rw [hv3]; exact (Below.refl _ _).alloc (Nat.le_refl _) _
 have hc : ∀ i (hi : i < [o.to].length), v3.cell? ⟨g, i, none⟩ = some (.string [o.to][i]) := fun i hi => by
  rw [hv3, hg, cell_of_row _ w3.heap.size i #[.string o.to] 9 (0, 0) (heap_alloc_new w3 _)]
  have hi : i < 1 := hi
  obtain rfl : i = 0 := by omega
  rfl
 have T3 := S3.below U3
 have h32 : ∀ s ∈ [o.to], s.size ≤ 32 := by
  intro s hs
  rw [List.mem_singleton.1 hs]
  exact lt
 rw [← hv3, ← hg]
 clear hv3 hg
 refine (ptexts_any v3 b3 m3 c3 _ T3 (by omega) g [o.to] hc (by show 1 ≤ 3; omega) h32).mono ?_
 rintro e w4 ⟨b4, m4, c4, rfl, S4, C⟩
 rw [show ([o.to].map txt).flatten = txt o.to from by simp] at S4
 have C := U3.trans (C.mono U3.size)
 clear U3 T3 hc h32
 have K4 := K3.keep C
 have B4 := B3.trans (C.mono (by have := B3.size; have := K3.lt; omega))
 have A4 := A3.trans (C.mono A3.size)
 have l4 := S4.len
 simp only [List.length_append] at l4
 clear C K3 B3 A3 S3
 obtain ⟨q0, q1, q2, q3, q4, q5, q6, q7, q8, q9⟩ := K4.cs
 go_wp2_with fail
 clear q0 q1 q2 q3 q4 q5 q6 q7 q8 q9
 refine (fBytes w4 b4 _ m4 c4 _ _ _ _ S4 (ho1.below A4).va (by omega) (by have := ho1.va.len; omega)).mono ?_
 rintro e w5 ⟨b5, m5, c5, rfl, S5, C⟩
 have K5 := K4.keep C
 have B5 := B4.trans (C.mono (by have := B4.size; have := K4.lt; omega))
 have A5 := A4.trans (C.mono A4.size)
 have l5 := S5.len
 simp only [List.length_append] at l5
 clear C K4 B4 A4 S4
 obtain ⟨q0, q1, q2, q3, q4, q5, q6, q7, q8, q9⟩ := K5.cs
 go_wp2_with fail
 clear q0 q1 q2 q3 q4 q5 q6 q7 q8 q9
 refine (fBytes w5 b5 _ m5 c5 _ _ _ _ S5 (ho1.below A5).wa (by omega) (by have := ho1.wa.len; omega)).mono ?_
 rintro e w6 ⟨b6, m6, c6, rfl, S6, C⟩
 have K6 := K5.keep C
 have B6 := B5.trans (C.mono (by have := B5.size; have := K5.lt; omega))
 have A6 := A5.trans (C.mono A5.size)
 have l6 := S6.len
 simp only [List.length_append] at l6
 clear C K5 B5 A5 S5
 obtain ⟨q0, q1, q2, q3, q4, q5, q6, q7, q8, q9⟩ := K6.cs
 go_wp2_with fail
 clear q0 q1 q2 q3 q4 q5 q6 q7 q8 q9
 refine (fBool w6 b6 m6 c6 o.has _ S6 (by omega)).mono ?_
 rintro e w7 ⟨b7, m7, c7, rfl, S7, C⟩
 have K7 := K6.keep C
 have B7 := B6.trans (C.mono (by have := B6.size; have := K6.lt; omega))
 have A7 := A6.trans (C.mono A6.size)
 have l7 := S7.len
 simp only [List.length_append] at l7
 clear C K6 B6 A6 S6
 obtain ⟨q0, q1, q2, q3, q4, q5, q6, q7, q8, q9⟩ := K7.cs
 go_wp2_with fail
 clear q0 q1 q2 q3 q4 q5 q6 q7 q8 q9
 refine (fUint w7 b7 m7 c7 o.sn _ S7 (by omega) (by omega)).mono ?_
 rintro e w8 ⟨b8, m8, c8, rfl, S8, C⟩
 have K8 := K7.keep C
 have B8 := B7.trans (C.mono (by have := B7.size; have := K7.lt; omega))
 have A8 := A7.trans (C.mono A7.size)
 have l8 := S8.len
 simp only [List.length_append] at l8
 clear C K7 B7 A7 S7
 have hS : xs ++ enc o.kind.toNat ++ putK o.key ++ txt o.to ++ byts o.va.xs ++ byts o.wa.xs ++ enb o.has ++ enc o.sn = xs ++ putS o.s l.length := by
  unfold putS putK OA.key OA.s
  rw [hl]
  simp only [List.append_assoc]
 rw [hS] at S8
 have L8 := L1.below A8
 have m8b : m8 ≤ M + 2000 := by omega
 clear l2 l3 l4 l5 l6 l7 l8 g0 g1 g2 g3 g4 g5 g6 L1 ho1 A8 hS lv lw lt hkf kd0 kd1
 obtain ⟨q0, q1, q2, q3, q4, q5, q6, q7, q8, q9⟩ := K8.cs
 have hs8 := B8.size
 go_wp2_with fail
 clear q0 q1 q2 q3 q4 q5 q6 q7 q8 q9 K8
 go_loopw [0, 6, 42] (fun b _ i wr => ∃ (k : Nat) (bo : Option Addr) (m c : Nat), k ≤ o.sn ∧ i = .int .i64 k ∧ b = .slice bo m c ∧ Sl wr bo m c (xs ++ putS o.s l.length ++ ((l.take k).map fun x => putS x.s 0).flatten) ∧ m ≤ m8 + 800 * k ∧ Below N w wr ∧ Below w8.heap.size w8 wr) (fun _ _ i _ => o.sn - (intOf i).toNat)
 case atStart => exact ⟨0, b8, m8, c8, Nat.zero_le _, rfl, rfl, by simpa using S8, by omega, B8, Below.refl _ _⟩
 case round =>
  clear S8 B8
  obtain ⟨k, bo, m, c, hk, rfl, rfl, S, hm, B, C⟩ := hrel
  by_cases hlt : k < o.sn
  ·obtain ⟨b, off, ea, hc⟩ := L8.at (by omega)
   have hkl : k < l.length := by omega
   have X := (hc k hkl).below C
   have hok : (l[k]).ok wr := (L8.ok _ (List.getElem_mem hkl)).below C
   have hmem := List.getElem_mem hkl
   have i6 : (k : Int) < (o.sn : Int) := by omega
   have HT : Hid (((l.take (k + 1)).map fun x => putS x.s 0).flatten = ((l.take k).map fun x => putS x.s 0).flatten ++ putS l[k].s 0) := by
    show _ = _
    rw [List.take_succ_eq_append_getElem hkl, List.map_append, List.flatten_append]
    simp
   have HF := putS_len (n := 0) (hlf _ hmem) (by omega)
   have hrec := rec
   obtain ⟨x, hx⟩ : ∃ x : OA, x = l[k] := ⟨_, rfl⟩
   have X : OX wr b (off + k * 10) x := by rw [hx]; exact X
   obtain ⟨p, hp⟩ : ∃ p, p = ((l.take k).map fun x => putS x.s 0).flatten := ⟨_, rfl⟩
   rw [← hx] at hok HT HF hmem
   rw [← hp] at S HT
   have Bx : Below wr.heap.size wr (wr.alloc (Obj.cells x.cells.toArray 62)) := (Below.refl _ _).alloc (Nat.le_refl _) _
   have hm2 : m ≤ M + 10000 := by omega
   have CR := (hrec _ bo m c _ x hmem (S.below Bx) hm2 (hok.below Bx))
   clear hp hx hc hrec
   rw [ea]
   clear ea
   obtain ⟨q0, q1, q2, q3, q4, q5, q6, q7, q8, q9⟩ := X
   unfold OA.cells at Bx CR
   have lS := S.len
   clear S
   go_wp2_with (go_at_call 80; refine CR.mono ?_; rintro e w9 ⟨b9, m9, c9, rfl, S9, C9⟩; have E9 := Bx.trans (C9.mono Bx.size); have B9 := B.trans (E9.mono (by have := B.size; have := HN.out; omega)); have D9 := C.trans (E9.mono C.size); have l9 := S9.len)
   have hm9 : m9 ≤ m8 + 800 * (k + 1) := by
    simp only [List.length_append] at l9 lS
    omega
   go_roundw
   case rel => exact ⟨k + 1, b9, m9, c9, by omega, by go_num, rfl, by rw [HT.out, ← List.append_assoc]; exact S9, hm9, B9, D9⟩
   case measure => simp [intOf]; omega
  ·have i6 : (o.sn : Int) ≤ (k : Int) := by omega
   rw [List.take_of_length_le (by omega), List.append_assoc] at S
   go_wp2
   go_ret
   exact ⟨bo, m, c, rfl, S, by rw [← HN.out]; exact B⟩
open Go.RowKit
theorem OWL.none {w : World} {o : OA} (h : o.ok w) (hz : o.sn = 0) : OWL w 0 o.so o.sn o.sc [] :=
 ⟨by rw [hz]; rfl, h.le, h.mx, h.nil, fun _ _ i hi => by simp at hi, fun _ hy => by simp at hy⟩
theorem pput_leaf (w : World) (ao : Option Addr) (n cap : Nat) (xs : List Int) (h : Sl w ao n cap xs) (hr : n ≤ 800000) (o : OA) (ho : o.ok w) (hf : o.s.fits) (hz : o.sn = 0) :
  Calls Tryz.prog 80 #[.slice ao n cap, o.val] w (PutPost w (xs ++ putS o.s 0)) := by
 have := pput_gen w ao n cap xs h 800000 (by omega) hr o ho hf [] (OWL.none ho hz) (by decide) (fun x hx => by simp at hx) (fun _ _ _ _ _ x hx => by simp at hx)
 simpa using this
theorem pput_any (w : World) (ao : Option Addr) (n cap : Nat) (xs : List Int) (h : Sl w ao n cap xs) (hr : n ≤ 700000) (o : OA) (ho : o.ok w) (hf : o.s.fits) (l : List OA) (L : OWL w 0 o.so o.sn o.sc l) (hl8 : l.length ≤ 8) (hlf : ∀ x ∈ l, x.s.fits) (hlz : ∀ x ∈ l, x.sn = 0) :
  Calls Tryz.prog 80 #[.slice ao n cap, o.val] w (PutPost w (xs ++ (putS o.s l.length ++ (l.map fun x => putS x.s 0).flatten))) :=
 pput_gen w ao n cap xs h 700000 (by omega) hr o ho hf l L hl8 hlf (fun W bo m c ys x hx S hm hok => pput_leaf W bo m c ys S (by omega) x hok (hlf x hx) (hlz x hx))
def putA (o : OA) (l : List OA) : List Int := putS o.s l.length ++ (l.map fun x => putS x.s 0).flatten
theorem putA_P (o : OA) (l : List OA) : putA o l = putP (o.s, l.map OA.s) := by
 unfold putA putP
 simp [Function.comp_def]
theorem right_parts {o : OA} {l : List OA} {w : World} (h : rightO o.s (l.map sn0) = true) (ho : o.ok w) (hl : ∀ x ∈ l, x.ok w) : o.s.fits ∧ l.length ≤ 8 ∧ (∀ x ∈ l, x.s.fits) ∧ ∀ x ∈ l, x.sn = 0 := by
 have h1 := rightP_of h
 have h2 := rightP_fits h1 ho.wf (fun s hs => by
  obtain ⟨q, hq, rfl⟩ := List.mem_map.1 hs
  obtain ⟨x, hx, rfl⟩ := List.mem_map.1 hq
  exact (hl x hx).wf)
 obtain ⟨f1, f2, f3⟩ := h2
 simp only [List.length_map] at f2
 refine ⟨f1, f2, fun x hx => f3 x.s ?_, fun x hx => ?_⟩
 ·rw [List.map_map]
  exact List.mem_map.2 ⟨x, hx, rfl⟩
 ·have := right_flat h
  have h3 : ∀ s ∈ l.map sn0, s.2 = 0 := by
   rw [this]
   intro s hs
   obtain ⟨q, _, rfl⟩ := List.mem_map.1 hs
   rfl
  exact h3 (sn0 x) (List.mem_map.2 ⟨x, hx, rfl⟩)
open Go.RowKit
def QC (V : World) (p : Nat) (cl st : Nat) (o : OA) : Prop := V.heap[p]? = some (.cells #[.int .u64 cl, .int .u64 st, .int .i64 o.kind, .string o.row, .string o.fam, .string o.qual, .int .u64 o.time, .string o.to, .slice o.va.ao o.va.n o.va.cap, .slice o.wa.ao o.wa.n o.wa.cap, .bool o.has, .slice o.so o.sn o.sc] 64)
theorem QC.lt {V : World} {p cl st : Nat} {o : OA} (h : QC V p cl st o) : p < V.heap.size := (Array.getElem?_eq_some_iff.1 h).1
theorem QC.keep {V V' : World} {p cl st : Nat} {o : OA} (h : QC V p cl st o) (hb : Below V.heap.size V V') : QC V' p cl st o := (hb.block p h.lt).trans h
structure QCs (V : World) (p : Nat) (cl st : Nat) (o : OA) : Prop where
 c0 : V.cell? ⟨p, 0, none⟩ = some (.int .u64 cl)
 c1 : V.cell? ⟨p, 1, none⟩ = some (.int .u64 st)
 c2 : V.cell? ⟨p, 2, none⟩ = some (.int .i64 o.kind)
 c3 : V.cell? ⟨p, 3, none⟩ = some (.string o.row)
 c4 : V.cell? ⟨p, 4, none⟩ = some (.string o.fam)
 c5 : V.cell? ⟨p, 5, none⟩ = some (.string o.qual)
 c6 : V.cell? ⟨p, 6, none⟩ = some (.int .u64 o.time)
 c7 : V.cell? ⟨p, 7, none⟩ = some (.string o.to)
 c8 : V.cell? ⟨p, 8, none⟩ = some (.slice o.va.ao o.va.n o.va.cap)
 c9 : V.cell? ⟨p, 9, none⟩ = some (.slice o.wa.ao o.wa.n o.wa.cap)
 c10 : V.cell? ⟨p, 10, none⟩ = some (.bool o.has)
 c11 : V.cell? ⟨p, 11, none⟩ = some (.slice o.so o.sn o.sc)
theorem QC.cs {V : World} {p cl st : Nat} {o : OA} (h : QC V p cl st o) : QCs V p cl st o :=
 ⟨cell_of_row V p 0 _ _ _ h, cell_of_row V p 1 _ _ _ h, cell_of_row V p 2 _ _ _ h, cell_of_row V p 3 _ _ _ h, cell_of_row V p 4 _ _ _ h, cell_of_row V p 5 _ _ _ h, cell_of_row V p 6 _ _ _ h, cell_of_row V p 7 _ _ _ h, cell_of_row V p 8 _ _ _ h, cell_of_row V p 9 _ _ _ h, cell_of_row V p 10 _ _ _ h, cell_of_row V p 11 _ _ _ h⟩
def kq (cl st : Nat) (b : Bool) : Int := if cl = 0 ∨ st = 0 then 1 else kindO b
def ReqPost (w : World) (k : Int) (ys : List Int) (e : Ending) (w' : World) : Prop :=
 (∃ bo m c, e = .returned (.tuple #[.slice bo m c, .int .i64 k]) ∧ Sl w' bo m c (if k = 0 then ys else [])) ∧ Below w.heap.size w w'
theorem kq_zero {cl st : Nat} {b : Bool} (h : kq cl st b = 0) : cl ≠ 0 ∧ st ≠ 0 ∧ b = true := by
 unfold kq kindO at h
 by_cases c : cl = 0 ∨ st = 0
 ·rw [if_pos c] at h; omega
 ·rw [if_neg c] at h
  cases b with
  | true => exact ⟨by omega, by omega, rfl⟩
  | false => simp at h
set_option maxRecDepth 100000 in
set_option maxHeartbeats 4000000 in
theorem prq_any (w : World) (cl st : Nat) (o : OA) (l : List OA) (h : o.ok w) (hs : OWL w 0 o.so o.sn o.sc l) :
  Calls Tryz.prog 79 #[qVal cl st o] w fun e w' => e = .returned (.int .i64 (kq cl st (rightO o.s (l.map sn0)))) ∧ Below w.heap.size w w' := by
 have B : Below w.heap.size w (w.alloc (Obj.cells #[.int .u64 cl, .int .u64 st, .int .i64 o.kind, .string o.row, .string o.fam, .string o.qual, .int .u64 o.time, .string o.to, .slice o.va.ao o.va.n o.va.cap, .slice o.wa.ao o.wa.n o.wa.cap, .bool o.has, .slice o.so o.sn o.sc] 64)) := (Below.refl _ w).alloc (Nat.le_refl _) _
 have h1 := h.below B
 have hs1 := hs.below B
 have CR := pRight_any _ o l h1 hs1
 clear h hs h1 hs1
 rw [show qVal cl st o = .agg #[.int .u64 cl, .int .u64 st, .int .i64 o.kind, .string o.row, .string o.fam, .string o.qual, .int .u64 o.time, .string o.to, .slice o.va.ao o.va.n o.va.cap, .slice o.wa.ao o.wa.n o.wa.cap, .bool o.has, .slice o.so o.sn o.sc] from rfl]
 by_cases z1 : cl = 0
 ·have i1 : ((cl : Int) == 0) = true := by simp; omega
  have hv : Hid (kq cl st (rightO o.s (l.map sn0)) = 1) := if_pos (.inl z1)
  clear CR z1
  go_enter Tryz.func79, Tryz.ntmps79
  go_wp2
  go_ret
  exact ⟨by rw [hv.out] <;> rfl, B⟩
 have i1 : ((cl : Int) == 0) = false := by simp; omega
 by_cases z2 : st = 0
 ·have i2 : ((st : Int) == 0) = true := by simp; omega
  have hv : Hid (kq cl st (rightO o.s (l.map sn0)) = 1) := if_pos (.inr z2)
  clear CR z1 z2
  go_enter Tryz.func79, Tryz.ntmps79
  go_wp2
  go_ret
  exact ⟨by rw [hv.out] <;> rfl, B⟩
 have i2 : ((st : Int) == 0) = false := by simp; omega
 have hv : Hid (kq cl st (rightO o.s (l.map sn0)) = kindO (rightO o.s (l.map sn0))) := if_neg (by omega)
 clear z1 z2
 go_enter Tryz.func79, Tryz.ntmps79
 go_wp2_with (go_at_call 114; refine CR.mono ?_; rintro e w2 ⟨rfl, C⟩; have D := B.trans (C.mono B.size))
 go_ret
 exact ⟨by rw [hv.out] <;> rfl, D⟩
set_option maxRecDepth 100000 in
set_option maxHeartbeats 8000000 in
theorem preq_any (w : World) (cl st : Nat) (o : OA) (l : List OA) (hcl : cl < 18446744073709551616) (hst : st < 18446744073709551616) (h : o.ok w) (hs : OWL w 0 o.so o.sn o.sc l) :
  Calls Tryz.prog 40 #[qVal cl st o] w (ReqPost w (kq cl st (rightO o.s (l.map sn0))) (enc cl ++ (enc st ++ putA o l))) := by
 have B : Below w.heap.size w (w.alloc (Obj.cells #[.int .u64 cl, .int .u64 st, .int .i64 o.kind, .string o.row, .string o.fam, .string o.qual, .int .u64 o.time, .string o.to, .slice o.va.ao o.va.n o.va.cap, .slice o.wa.ao o.wa.n o.wa.cap, .bool o.has, .slice o.so o.sn o.sc] 64)) := (Below.refl _ w).alloc (Nat.le_refl _) _
 have K : QC (w.alloc (Obj.cells #[.int .u64 cl, .int .u64 st, .int .i64 o.kind, .string o.row, .string o.fam, .string o.qual, .int .u64 o.time, .string o.to, .slice o.va.ao o.va.n o.va.cap, .slice o.wa.ao o.wa.n o.wa.cap, .bool o.has, .slice o.so o.sn o.sc] 64)) w.heap.size cl st o := heap_alloc_new w _
 have h1 := h.below B
 have hs1 := hs.below B
 have hp : rightO o.s (l.map sn0) = true → o.s.fits ∧ l.length ≤ 8 ∧ (∀ x ∈ l, x.s.fits) ∧ ∀ x ∈ l, x.sn = 0 := fun q => right_parts q h hs.ok
 clear h hs
 rw [show qVal cl st o = .agg #[.int .u64 cl, .int .u64 st, .int .i64 o.kind, .string o.row, .string o.fam, .string o.qual, .int .u64 o.time, .string o.to, .slice o.va.ao o.va.n o.va.cap, .slice o.wa.ao o.wa.n o.wa.cap, .bool o.has, .slice o.so o.sn o.sc] from rfl]
 go_enter Tryz.func40, Tryz.ntmps40
 go_wp2_with fail
 obtain ⟨w1, hw1⟩ : ∃ W, W = w.alloc (Obj.cells #[.int .u64 cl, .int .u64 st, .int .i64 o.kind, .string o.row, .string o.fam, .string o.qual, .int .u64 o.time, .string o.to, .slice o.va.ao o.va.n o.va.cap, .slice o.wa.ao o.wa.n o.wa.cap, .bool o.has, .slice o.so o.sn o.sc] 64) := ⟨_, rfl⟩
 obtain ⟨N, hN⟩ : ∃ N, N = w.heap.size := ⟨_, rfl⟩
 rw [← hw1] at B K h1 hs1 ⊢
 rw [← hN] at B K ⊢
 have HN : Hid (N = w.heap.size) := hN
 clear hw1 hN
 refine (prq_any w1 cl st o l h1 hs1).mono ?_
 rintro e w2 ⟨rfl, C⟩
 have K2 := K.keep C
 have B2 := B.trans (C.mono (by have := B.size; have := K.lt; omega))
 have h2 := h1.below C
 have hs2 := hs1.below C
 clear C K B h1 hs1
 by_cases hk : kq cl st (rightO o.s (l.map sn0)) = 0
 ·obtain ⟨_, _, hb⟩ := kq_zero hk
  obtain ⟨p1, p2, p3, p4⟩ := hp hb
  rw [hk]
  have g1 := enc_length hcl
  have g2 := enc_length hst
  go_wp2_with fail
  have HS : Hid (∀ V, Below w2.heap.size w2 V → V.cell? ⟨N, 0, none⟩ = some (.int .u64 cl) ∧ V.cell? ⟨N, 1, none⟩ = some (.int .u64 st) ∧ V.cell? ⟨N, 2, none⟩ = some (.int .i64 o.kind) ∧ V.cell? ⟨N, 3, none⟩ = some (.string o.row) ∧ V.cell? ⟨N, 4, none⟩ = some (.string o.fam) ∧ V.cell? ⟨N, 5, none⟩ = some (.string o.qual) ∧ V.cell? ⟨N, 6, none⟩ = some (.int .u64 o.time) ∧ V.cell? ⟨N, 7, none⟩ = some (.string o.to) ∧ V.cell? ⟨N, 8, none⟩ = some (.slice o.va.ao o.va.n o.va.cap) ∧ V.cell? ⟨N, 9, none⟩ = some (.slice o.wa.ao o.wa.n o.wa.cap) ∧ V.cell? ⟨N, 10, none⟩ = some (.bool o.has) ∧ V.cell? ⟨N, 11, none⟩ = some (.slice o.so o.sn o.sc)) := fun V hV => have q := (K2.keep hV).cs; ⟨q.c0, q.c1, q.c2, q.c3, q.c4, q.c5, q.c6, q.c7, q.c8, q.c9, q.c10, q.c11⟩
  refine zB (by kernel_rfl) HS.out fun v0 E0 H0 => ?_
  refine zT 0 (some 10) (.pointer (some ⟨N, 0, none⟩)) rfl rfl (by kernel_rfl) rfl (fun W ⟨h0, h1, h2, h3, h4, h5, h6, h7, h8, h9, h10, h11⟩ => by go_simp) H0 ?_
  simp only [FL]
  refine zT 1 (some 11) (.int .u64 cl) rfl rfl (by kernel_rfl) rfl (fun W ⟨h0, h1, h2, h3, h4, h5, h6, h7, h8, h9, h10, h11⟩ => by go_simp) H0 ?_
  simp only [FL]
  refine zT 3 (some 13) (.pointer (some ⟨N, 1, none⟩)) rfl rfl (by kernel_rfl) rfl (fun W ⟨h0, h1, h2, h3, h4, h5, h6, h7, h8, h9, h10, h11⟩ => by go_simp) H0 ?_
  simp only [FL]
  refine zT 4 (some 14) (.int .u64 st) rfl rfl (by kernel_rfl) rfl (fun W ⟨h0, h1, h2, h3, h4, h5, h6, h7, h8, h9, h10, h11⟩ => by go_simp) H0 ?_
  simp only [FL]
  refine zT 6 (some 16) (.pointer (some ⟨N, 2, none⟩)) rfl rfl (by kernel_rfl) rfl (fun W ⟨h0, h1, h2, h3, h4, h5, h6, h7, h8, h9, h10, h11⟩ => by go_simp) H0 ?_
  simp only [FL]
  refine zT 7 (some 17) (.agg #[.int .i64 o.kind, .string o.row, .string o.fam, .string o.qual, .int .u64 o.time, .string o.to, .slice o.va.ao o.va.n o.va.cap, .slice o.wa.ao o.wa.n o.wa.cap, .bool o.has, .slice o.so o.sn o.sc]) rfl rfl (by kernel_rfl) rfl (fun W ⟨h0, h1, h2, h3, h4, h5, h6, h7, h8, h9, h10, h11⟩ => by go_simp) H0 ?_
  simp only [FL]
  refine hr_call_w 2 (some 12) 77 #[.slice none 0 0, .int .u64 cl] rfl rfl (by kernel_rfl) rfl (by go_simp) (fun v w' => ∃ b1 m1 c1, v = .slice b1 m1 c1 ∧ Sl w' b1 m1 c1 ([] ++ enc cl) ∧ Below v0.heap.size v0 w') ((fUint v0 none 0 0 cl [] (Sl.nothing _) (by omega) hcl).mono (by
   rintro e w' ⟨b1, m1, c1, rfl, F, C⟩
   exact ⟨_, rfl, b1, m1, c1, rfl, F, C⟩)) ?_
  rintro v v1 ⟨b1, m1, c1, rfl, F0, C0⟩
  have E1 := E0.trans (C0.mono E0.size)
  have H1 := HS.out v1 E1
  refine ⟨H1, ?_⟩
  simp only [FL]
  have l1 := F0.len
  simp only [List.length_append, List.length_nil] at l1
  refine hr_call_w 5 (some 15) 77 #[.slice b1 m1 c1, .int .u64 st] rfl rfl (by kernel_rfl) rfl (by go_simp) (fun v w' => ∃ b2 m2 c2, v = .slice b2 m2 c2 ∧ Sl w' b2 m2 c2 ([] ++ enc cl ++ enc st) ∧ Below v1.heap.size v1 w') ((fUint v1 b1 m1 c1 st _ F0 (by omega) hst).mono (by
   rintro e w' ⟨b2, m2, c2, rfl, F, C⟩
   exact ⟨_, rfl, b2, m2, c2, rfl, F, C⟩)) ?_
  rintro v v2 ⟨b2, m2, c2, rfl, F1, C1⟩
  have E2 := E1.trans (C1.mono E1.size)
  have H2 := HS.out v2 E2
  refine ⟨H2, ?_⟩
  simp only [FL]
  have l2 := F1.len
  simp only [List.length_append, List.length_nil] at l2
  refine hr_call_w 8 (some 18) 80 #[.slice b2 m2 c2, .agg #[.int .i64 o.kind, .string o.row, .string o.fam, .string o.qual, .int .u64 o.time, .string o.to, .slice o.va.ao o.va.n o.va.cap, .slice o.wa.ao o.wa.n o.wa.cap, .bool o.has, .slice o.so o.sn o.sc]] rfl rfl (by kernel_rfl) rfl (by go_simp) (fun v w' => ∃ b3 m3 c3, v = .slice b3 m3 c3 ∧ Sl w' b3 m3 c3 ([] ++ enc cl ++ enc st ++ (putS o.s l.length ++ (l.map fun x => putS x.s 0).flatten)) ∧ Below v2.heap.size v2 w') ((pput_any v2 b2 m2 c2 _ F1 (by omega) o (h2.below E2) p1 l (hs2.below E2) p2 p3 p4).mono (by
   rintro e w' ⟨b3, m3, c3, rfl, F, C⟩
   exact ⟨_, rfl, b3, m3, c3, rfl, F, C⟩)) ?_
  rintro v v3 ⟨b3, m3, c3, rfl, F2, C2⟩
  have E3 := E2.trans (C2.mono E2.size)
  have H3 := HS.out v3 E3
  refine ⟨H3, ?_⟩
  simp only [FL]
  refine zT 9 (some 2) (.slice b3 m3 c3) rfl rfl (by kernel_rfl) rfl (fun W ⟨h0, h1, h2, h3, h4, h5, h6, h7, h8, h9, h10, h11⟩ => by go_simp) H3 ?_
  simp only [FL]
  refine zT 10 (some 3) (.int .i64 0) rfl rfl (by kernel_rfl) rfl (fun W ⟨h0, h1, h2, h3, h4, h5, h6, h7, h8, h9, h10, h11⟩ => by go_simp) H3 ?_
  simp only [FL]
  refine wpAnyH_done (by kernel_rfl) ?_ _
  refine NoPanic.normal ?_
  have B3 := B2.trans (E3.mono (by have := B2.size; have := HN.out; omega))
  go_wp2
  go_ret2
  refine ⟨⟨b3, m3, c3, by rw [hk] <;> rfl, ?_⟩, by rw [← HN.out]; exact B3⟩
  rw [if_pos hk]
  simpa only [List.nil_append, List.append_assoc, putA] using F2
 ·obtain ⟨k, hkk⟩ : ∃ k, k = kq cl st (rightO o.s (l.map sn0)) := ⟨_, rfl⟩
  rw [← hkk] at hk ⊢
  have i1 : (k != 0) = true := by simp [hk]
  have HK : Hid (¬ k = 0) := hk
  have HKK : Hid (k = kq cl st (rightO o.s (l.map sn0))) := hkk
  clear hk hkk hp
  go_wp2
  go_ret2
  exact ⟨⟨none, 0, 0, by rw [← HKK.out] <;> rfl, by rw [← HKK.out, if_neg HK.out]; exact Sl.nothing _⟩, by rw [← HN.out]; exact B2⟩
open Go.RowKit
set_option maxRecDepth 100000 in
set_option maxHeartbeats 4000000 in
theorem rreqs_any (d : Nat) (w : World) (c1 t1 c2 t2 : Nat) (x y : OD d) (hx : OW w d x) (hy : OW w d y) (lx : lightD d x = true) (ly : lightD d y = true) :
  Calls Tryz.prog 37 #[qVal c1 t1 (topD d x), qVal c2 t2 (topD d y)] w fun e w' => e = .returned (.bool (decide (c1 = c2) && (decide (t1 = t2) && sameD d x y))) ∧ Below w.heap.size w w' := by
 obtain ⟨a, ha⟩ : ∃ a, a = topD d x := ⟨_, rfl⟩
 obtain ⟨b, hb⟩ : ∃ b, b = topD d y := ⟨_, rfl⟩
 have B : Below w.heap.size w ((w.alloc (Obj.cells #[.int .u64 c1, .int .u64 t1, .int .i64 a.kind, .string a.row, .string a.fam, .string a.qual, .int .u64 a.time, .string a.to, .slice a.va.ao a.va.n a.va.cap, .slice a.wa.ao a.wa.n a.wa.cap, .bool a.has, .slice a.so a.sn a.sc] 64)).alloc (Obj.cells #[.int .u64 c2, .int .u64 t2, .int .i64 b.kind, .string b.row, .string b.fam, .string b.qual, .int .u64 b.time, .string b.to, .slice b.va.ao b.va.n b.va.cap, .slice b.wa.ao b.wa.n b.wa.cap, .bool b.has, .slice b.so b.sn b.sc] 64)) := ((Below.refl _ w).alloc (Nat.le_refl _) _).alloc (by simp) _
 have CR := rsame6 d ((w.alloc (Obj.cells #[.int .u64 c1, .int .u64 t1, .int .i64 a.kind, .string a.row, .string a.fam, .string a.qual, .int .u64 a.time, .string a.to, .slice a.va.ao a.va.n a.va.cap, .slice a.wa.ao a.wa.n a.wa.cap, .bool a.has, .slice a.so a.sn a.sc] 64)).alloc (Obj.cells #[.int .u64 c2, .int .u64 t2, .int .i64 b.kind, .string b.row, .string b.fam, .string b.qual, .int .u64 b.time, .string b.to, .slice b.va.ao b.va.n b.va.cap, .slice b.wa.ao b.wa.n b.wa.cap, .bool b.has, .slice b.so b.sn b.sc] 64)) x y (hx.below B) (hy.below B) lx ly
 rw [← ha, ← hb] at CR ⊢
 clear hx hy lx ly ha hb
 rw [show qVal c1 t1 a = .agg #[.int .u64 c1, .int .u64 t1, .int .i64 a.kind, .string a.row, .string a.fam, .string a.qual, .int .u64 a.time, .string a.to, .slice a.va.ao a.va.n a.va.cap, .slice a.wa.ao a.wa.n a.wa.cap, .bool a.has, .slice a.so a.sn a.sc] from rfl, show qVal c2 t2 b = .agg #[.int .u64 c2, .int .u64 t2, .int .i64 b.kind, .string b.row, .string b.fam, .string b.qual, .int .u64 b.time, .string b.to, .slice b.va.ao b.va.n b.va.cap, .slice b.wa.ao b.wa.n b.wa.cap, .bool b.has, .slice b.so b.sn b.sc] from rfl]
 unfold OA.val at CR
 by_cases z1 : c1 = c2
 case neg =>
  have i1 : ((c1 : Int) == (c2 : Int)) = false := by simp; omega
  have hv : Hid ((decide (c1 = c2) && (decide (t1 = t2) && sameD d x y)) = false) := by show _ = _; simp [z1]
  clear CR z1
  go_enter Tryz.func37, Tryz.ntmps37
  go_wp2
  go_ret
  exact ⟨by rw [hv.out] <;> rfl, B⟩
 by_cases z2 : t1 = t2
 case neg =>
  have i1 : ((c1 : Int) == (c2 : Int)) = true := by simp; omega
  have i2 : ((t1 : Int) == (t2 : Int)) = false := by simp; omega
  have hv : Hid ((decide (c1 = c2) && (decide (t1 = t2) && sameD d x y)) = false) := by show _ = _; simp [z2]
  clear CR z1 z2
  go_enter Tryz.func37, Tryz.ntmps37
  go_wp2
  go_ret
  exact ⟨by rw [hv.out] <;> rfl, B⟩
 have i1 : ((c1 : Int) == (c2 : Int)) = true := by simp; omega
 have i2 : ((t1 : Int) == (t2 : Int)) = true := by simp; omega
 have hv : Hid ((decide (c1 = c2) && (decide (t1 = t2) && sameD d x y)) = sameD d x y) := by show _ = _; simp [z1, z2]
 clear z1 z2
 go_enter Tryz.func37, Tryz.ntmps37
 go_wp2_with (go_at_call 76; refine CR.mono ?_; rintro e w2 ⟨rfl, C⟩; have D := B.trans (C.mono B.size))
 go_ret
 exact ⟨by rw [hv.out] <;> rfl, D⟩
open Go.RowKit
def opT : OpTypes Tryz.prog where
 op := 62
 key := 59
 int := 3
 str := 9
 u64 := 22
 bys := 23
 u8 := 5
 bool := 4
 subs := 60
 f0 := { name := "Kind", type := 3, offset := 0, embedded := false, tag := "", pkgPath := "", byteOffset := 0 }
 f1 := { name := "K", type := 59, offset := 1, embedded := false, tag := "", pkgPath := "", byteOffset := 8 }
 f2 := { name := "To", type := 9, offset := 5, embedded := false, tag := "", pkgPath := "", byteOffset := 64 }
 f3 := { name := "Value", type := 23, offset := 6, embedded := false, tag := "", pkgPath := "", byteOffset := 80 }
 f4 := { name := "Want", type := 23, offset := 7, embedded := false, tag := "", pkgPath := "", byteOffset := 104 }
 f5 := { name := "Has", type := 4, offset := 8, embedded := false, tag := "", pkgPath := "", byteOffset := 128 }
 f6 := { name := "Sub", type := 60, offset := 9, embedded := false, tag := "", pkgPath := "", byteOffset := 136 }
 g0 := { name := "Row", type := 9, offset := 0, embedded := false, tag := "", pkgPath := "", byteOffset := 0 }
 g1 := { name := "Family", type := 9, offset := 1, embedded := false, tag := "", pkgPath := "", byteOffset := 16 }
 g2 := { name := "Qual", type := 9, offset := 2, embedded := false, tag := "", pkgPath := "", byteOffset := 32 }
 g3 := { name := "Time", type := 22, offset := 3, embedded := false, tag := "", pkgPath := "", byteOffset := 48 }
 hop := Tryz.underlying62
 hkey := Tryz.underlying59
 hint := Tryz.underlying3
 hstr := Tryz.underlying9
 hu64 := Tryz.underlying22
 hbys := Tryz.underlying23
 hu8 := Tryz.underlying5
 hbool := Tryz.underlying4
 hsubs := Tryz.underlying60
 cop := by kernel_rfl
 ckey := by kernel_rfl
 cint := by kernel_rfl
 cstr := by kernel_rfl
 cu64 := by kernel_rfl
 cbys := by kernel_rfl
 cu8 := by kernel_rfl
 bu8 := by kernel_rfl
 cbool := by kernel_rfl
 csubs := by kernel_rfl
 o0 := ⟨rfl, rfl⟩
 o1 := ⟨rfl, rfl⟩
 o2 := ⟨rfl, rfl⟩
 o3 := ⟨rfl, rfl⟩
 o4 := ⟨rfl, rfl⟩
 o5 := ⟨rfl, rfl⟩
 o6 := ⟨rfl, rfl⟩
 p0 := ⟨rfl, rfl⟩
 p1 := ⟨rfl, rfl⟩
 p2 := ⟨rfl, rfl⟩
 p3 := ⟨rfl, rfl⟩
open Go.RowKit
def cellT : CellTypes Tryz.prog opT where
 cel := 104
 cels := 26
 f0 := { name := "K", type := 59, offset := 0, embedded := false, tag := "", pkgPath := "", byteOffset := 0 }
 f1 := { name := "Value", type := 23, offset := 4, embedded := false, tag := "", pkgPath := "", byteOffset := 56 }
 f2 := { name := "Gone", type := 4, offset := 5, embedded := false, tag := "", pkgPath := "", byteOffset := 80 }
 hcel := Tryz.underlying104
 hcels := Tryz.underlying26
 ccel := by kernel_rfl
 o0 := ⟨rfl, rfl⟩
 o1 := ⟨rfl, rfl⟩
 o2 := ⟨rfl, rfl⟩
open Go.RowKit
def moreT : MoreTypes Tryz.prog opT cellT where
 req := 64
 res := 28
 knd := 25
 f0 := { name := "Client", type := 22, offset := 0, embedded := false, tag := "", pkgPath := "", byteOffset := 0 }
 f1 := { name := "Stamp", type := 22, offset := 1, embedded := false, tag := "", pkgPath := "", byteOffset := 8 }
 f2 := { name := "O", type := 62, offset := 2, embedded := false, tag := "", pkgPath := "", byteOffset := 16 }
 g0 := { name := "E", type := 25, offset := 0, embedded := false, tag := "", pkgPath := "", byteOffset := 0 }
 g1 := { name := "Cells", type := 26, offset := 1, embedded := false, tag := "", pkgPath := "", byteOffset := 8 }
 g2 := { name := "More", type := 4, offset := 2, embedded := false, tag := "", pkgPath := "", byteOffset := 32 }
 hreq := Tryz.underlying64
 hres := Tryz.underlying28
 hknd := Tryz.underlying25
 creq := by kernel_rfl
 cres := by kernel_rfl
 cknd := by kernel_rfl
 ccels := by kernel_rfl
 o0 := ⟨rfl, rfl⟩
 o1 := ⟨rfl, rfl⟩
 o2 := ⟨rfl, rfl⟩
 p0 := ⟨rfl, rfl⟩
 p1 := ⟨rfl, rfl⟩
 p2 := ⟨rfl, rfl⟩
open Go.RowKit
theorem cellInfo : (Tryz.prog.info? 104).map (fun i => (i.zero, i.size, i.bytes)) = some (some (.agg #[.string ⟨#[]⟩, .string ⟨#[]⟩, .string ⟨#[]⟩, .int .u64 0, .slice none 0 0, .bool false]), 6, 88) := by kernel_rfl
def cellsC (l : List CA) : List Value := (l.map CA.cells).flatten
theorem CL.own {w : World} {base : Nat} {v : Value} {n : Nat} {l : List CA} (h : w.ownsRow base 104 6 v n (cellsC l)) (hok : ∀ o ∈ l, o.ok w) : ∃ ao cap, v = .slice ao n cap ∧ CL w ao n cap l := by
 have hl : l.length = n := by
  have := h.1
  unfold cellsC at this
  rw [flat_len CA.cells 6 (fun _ => rfl)] at this
  omega
 rcases h.2 with ⟨rfl, rfl⟩ | ⟨g, cap, cur, rfl, a1, a2, a3, a4, a5, a6⟩
 ·exact ⟨none, 0, rfl, hl, Nat.le_refl _, Nat.zero_le _, fun _ => ⟨rfl, rfl⟩, fun _ h => by simp at h, fun y hy => hok y hy⟩
 ·refine ⟨some ⟨g, 0, none⟩, cap, rfl, hl, a3, a4, fun h => by simp at h, fun a ha i hi j u hu => ?_, fun y hy => hok y hy⟩
  obtain rfl := Option.some.inj ha
  have hj : j < 6 := (List.getElem?_eq_some_iff.1 hu).1
  refine h.cells (g := g) rfl (i * 6 + j) u ?_
  unfold cellsC
  rw [flat_get CA.cells 6 (fun _ => rfl) l i j hi hj]
  exact hu
theorem c_one (y : CA) : ∀ u ∈ y.cells, u.oneCell' = true := by
 intro u hu
 unfold CA.cells at hu
 simp only [List.mem_cons, List.not_mem_nil, or_false] at hu
 rcases hu with rfl | rfl | rfl | rfl | rfl | rfl <;> rfl
end Go.Proofs.YtkjaapomaaakmaaGreat

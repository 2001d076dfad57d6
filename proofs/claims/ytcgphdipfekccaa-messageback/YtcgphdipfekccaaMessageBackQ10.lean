/-
  Texts in one: POp, PutOp, PReq, POr2, RBytesB.
-/
import Derived.Test.YtcgphdipfekccaaMessageBackQFL
import Derived.Test.YtcgphdipfekccaaMessageBackQ5
import Derived.Test.YtcgphdipfekccaaMessageBackQ9
import Derived.Test.YtcgphdipfekccaaMessageBackQ2
import Derived.Test.YtcgphdipfekccaaMessageBackQ1
import Derived.Test.YtcgphdipfekccaaMessageBackQ0
import Derived.Test.YtcgphdipfekccaaMessageBackQ4
namespace Go.Proofs.Ytcgphdipfekccaa
open Go.RowKit
theorem putS_len {o : SO} (h : o.fits) {n : Nat} (hn : n ≤ 100) : (putS o n).length ≤ 800 := by
  have := txt_len h.row
  have := txt_len h.fam
  have := txt_len h.qual
  have := txt_len h.to
  have := enc_length h.time
  have := byts_len h.value.1
  have := byts_len h.want.1
  have := enb_len o.has
  have := enc_length (n := n) (by omega)
  have := enc_length (n := o.kind.toNat) (by have := h.kind; omega)
  unfold putS
  simp only [List.length_append]
  omega
set_option maxRecDepth 100000 in
set_option maxHeartbeats 8000000 in
theorem pput_gen (w : World) (ao : Option Addr) (n cap : Nat) (xs : List Int) (h : Sl w ao n cap xs) (M : Nat) (hM : M ≤ 850000) (hr : n ≤ M) (o : OA) (ho : o.ok w) (hf : o.s.fits) (l : List OA) (L : OWL w 0 o.so o.sn o.sc l) (hl8 : l.length ≤ 8) (hlf : ∀ x ∈ l, x.s.fits)
    (rec : ∀ (W : World) (bo : Option Addr) (m c : Nat) (ys : List Int) (x : OA), x ∈ l → Sl W bo m c ys → m ≤ M + 10000 → x.ok W → Calls Try.prog 38 #[.slice bo m c, x.val] W (PutPost W (ys ++ putS x.s 0))) :
    Calls Try.prog 38 #[.slice ao n cap, o.val] w (PutPost w (xs ++ (putS o.s l.length ++ (l.map fun x => putS x.s 0).flatten))) := by
  have hxl := h.len
  have hl : l.length = o.sn := L.len
  have B : Below w.heap.size w (w.alloc (Obj.cells o.cells.toArray 57)) := (Below.refl _ w).alloc (Nat.le_refl _) _
  have K : OC (w.alloc (Obj.cells o.cells.toArray 57)) w.heap.size o := OC.new w o
  unfold OA.cells at B K
  have h1 := h.below B
  have ho1 := ho.below B
  have L1 := L.below B
  clear h ho L
  obtain ⟨kd0, kd1⟩ : 0 ≤ o.kind ∧ o.kind ≤ 100 := hf.kind
  have hkf : KA.fits o.key := ⟨hf.row, hf.fam, hf.qual, hf.time⟩
  have lt : o.to.size ≤ 32 := hf.to
  have lv : o.va.xs.length ≤ 256 := hf.value.1
  have lw : o.wa.xs.length ≤ 256 := hf.want.1
  have g0 := enc_length (n := o.kind.toNat) (by omega)
  have g1 := putK_len hkf
  have g2 := txt_len lt
  have g3 := byts_len lv
  have g4 := byts_len lw
  have g5 := enb_len o.has
  have g6 := enc_length (n := o.sn) (by omega)
  unfold OA.val
  go_enter Try.func38, Try.ntmps38
  go_wp2_with fail
  obtain ⟨w1, hw1⟩ : ∃ W, W = w.alloc (Obj.cells #[.int .i64 o.kind, .string o.row, .string o.fam, .string o.qual, .int .u64 o.time, .string o.to, .slice o.va.ao o.va.n o.va.cap, .slice o.wa.ao o.wa.n o.wa.cap, .bool o.has, .slice o.so o.sn o.sc] 57) := ⟨_, rfl⟩
  obtain ⟨N, hN⟩ : ∃ N, N = w.heap.size := ⟨_, rfl⟩
  rw [← hw1] at B K h1 ho1 L1 ⊢
  rw [← hN] at B K ⊢
  have HN : Hid (N = w.heap.size) := hN
  clear hw1 hN
  have A1 : Below w1.heap.size w1 w1 := Below.refl _ _
  have S1 := h1
  have K1 := K
  have B1 := B
  clear h1 K B
  refine (fUintI w1 ao n cap o.kind _ S1 (by omega) kd0 (by omega)).mono ?_
  rintro e w2 ⟨b2, m2, c2, rfl, S2, C⟩
  have K2 := K1.keep C
  have B2 := B1.trans (C.mono (by have := B1.size; have := K1.lt; omega))
  have A2 := A1.trans (C.mono A1.size)
  have l2 := S2.len
  simp only [List.length_append] at l2
  clear C K1 B1 A1 S1
  obtain ⟨q0, q1, q2, q3, q4, q5, q6, q7, q8, q9⟩ := K2.cs
  go_wp2_with fail
  clear q0 q1 q2 q3 q4 q5 q6 q7 q8 q9
  refine (pkey_any w2 b2 m2 c2 _ S2 (by omega) o.key hkf).mono ?_
  rintro e w3 ⟨b3, m3, c3, rfl, S3, C⟩
  have K3 := K2.keep C
  have B3 := B2.trans (C.mono (by have := B2.size; have := K2.lt; omega))
  have A3 := A2.trans (C.mono A2.size)
  have l3 := S3.len
  simp only [List.length_append] at l3
  clear C K2 B2 A2 S2
  obtain ⟨q0, q1, q2, q3, q4, q5, q6, q7, q8, q9⟩ := K3.cs
  go_wp2_with fail
  clear q0 q1 q2 q3 q4 q5 q6 q7 q8 q9
  obtain ⟨g, hg⟩ : ∃ g, g = w3.heap.size := ⟨_, rfl⟩
  obtain ⟨v3, hv3⟩ : ∃ V, V = w3.alloc (.cells #[.string o.to] 9) := ⟨_, rfl⟩
  have U3 : Below w3.heap.size w3 v3 := by rw [hv3]; exact (Below.refl _ _).alloc (Nat.le_refl _) _
  have hc : ∀ i (hi : i < [o.to].length), v3.cell? ⟨g, i, none⟩ = some (.string [o.to][i]) := fun i hi => by
    rw [hv3, hg, cell_of_row _ w3.heap.size i #[.string o.to] 9 (0, 0) (heap_alloc_new w3 _)]
    have hi : i < 1 := hi
    obtain rfl : i = 0 := by omega
    rfl
  have T3 := S3.below U3
  have h32 : ∀ s ∈ [o.to], s.size ≤ 32 := by
    intro s hs
    rw [List.mem_singleton.1 hs]
    exact lt
  rw [← hv3, ← hg]
  clear hv3 hg
  refine (ptexts_any v3 b3 m3 c3 _ T3 (by omega) g [o.to] hc (by show 1 ≤ 3; omega) h32).mono ?_
  rintro e w4 ⟨b4, m4, c4, rfl, S4, C⟩
  rw [show ([o.to].map txt).flatten = txt o.to from by simp] at S4
  have C := U3.trans (C.mono U3.size)
  clear U3 T3 hc h32
  have K4 := K3.keep C
  have B4 := B3.trans (C.mono (by have := B3.size; have := K3.lt; omega))
  have A4 := A3.trans (C.mono A3.size)
  have l4 := S4.len
  simp only [List.length_append] at l4
  clear C K3 B3 A3 S3
  obtain ⟨q0, q1, q2, q3, q4, q5, q6, q7, q8, q9⟩ := K4.cs
  go_wp2_with fail
  clear q0 q1 q2 q3 q4 q5 q6 q7 q8 q9
  refine (fBytes w4 b4 _ m4 c4 _ _ _ _ S4 (ho1.below A4).va (by omega) (by have := ho1.va.len; omega)).mono ?_
  rintro e w5 ⟨b5, m5, c5, rfl, S5, C⟩
  have K5 := K4.keep C
  have B5 := B4.trans (C.mono (by have := B4.size; have := K4.lt; omega))
  have A5 := A4.trans (C.mono A4.size)
  have l5 := S5.len
  simp only [List.length_append] at l5
  clear C K4 B4 A4 S4
  obtain ⟨q0, q1, q2, q3, q4, q5, q6, q7, q8, q9⟩ := K5.cs
  go_wp2_with fail
  clear q0 q1 q2 q3 q4 q5 q6 q7 q8 q9
  refine (fBytes w5 b5 _ m5 c5 _ _ _ _ S5 (ho1.below A5).wa (by omega) (by have := ho1.wa.len; omega)).mono ?_
  rintro e w6 ⟨b6, m6, c6, rfl, S6, C⟩
  have K6 := K5.keep C
  have B6 := B5.trans (C.mono (by have := B5.size; have := K5.lt; omega))
  have A6 := A5.trans (C.mono A5.size)
  have l6 := S6.len
  simp only [List.length_append] at l6
  clear C K5 B5 A5 S5
  obtain ⟨q0, q1, q2, q3, q4, q5, q6, q7, q8, q9⟩ := K6.cs
  go_wp2_with fail
  clear q0 q1 q2 q3 q4 q5 q6 q7 q8 q9
  refine (fBool w6 b6 m6 c6 o.has _ S6 (by omega)).mono ?_
  rintro e w7 ⟨b7, m7, c7, rfl, S7, C⟩
  have K7 := K6.keep C
  have B7 := B6.trans (C.mono (by have := B6.size; have := K6.lt; omega))
  have A7 := A6.trans (C.mono A6.size)
  have l7 := S7.len
  simp only [List.length_append] at l7
  clear C K6 B6 A6 S6
  obtain ⟨q0, q1, q2, q3, q4, q5, q6, q7, q8, q9⟩ := K7.cs
  go_wp2_with fail
  clear q0 q1 q2 q3 q4 q5 q6 q7 q8 q9
  refine (fUint w7 b7 m7 c7 o.sn _ S7 (by omega) (by omega)).mono ?_
  rintro e w8 ⟨b8, m8, c8, rfl, S8, C⟩
  have K8 := K7.keep C
  have B8 := B7.trans (C.mono (by have := B7.size; have := K7.lt; omega))
  have A8 := A7.trans (C.mono A7.size)
  have l8 := S8.len
  simp only [List.length_append] at l8
  clear C K7 B7 A7 S7
  have hS : xs ++ enc o.kind.toNat ++ putK o.key ++ txt o.to ++ byts o.va.xs ++ byts o.wa.xs ++ enb o.has ++ enc o.sn = xs ++ putS o.s l.length := by
    unfold putS putK OA.key OA.s
    rw [hl]
    simp only [List.append_assoc]
  rw [hS] at S8
  have L8 := L1.below A8
  have m8b : m8 ≤ M + 2000 := by omega
  clear l2 l3 l4 l5 l6 l7 l8 g0 g1 g2 g3 g4 g5 g6 L1 ho1 A8 hS lv lw lt hkf kd0 kd1
  obtain ⟨q0, q1, q2, q3, q4, q5, q6, q7, q8, q9⟩ := K8.cs
  have hs8 := B8.size
  go_wp2_with fail
  clear q0 q1 q2 q3 q4 q5 q6 q7 q8 q9 K8
  go_loopw [0, 6, 42] (fun b _ i wr => ∃ (k : Nat) (bo : Option Addr) (m c : Nat), k ≤ o.sn ∧ i = .int .i64 k ∧ b = .slice bo m c ∧ Sl wr bo m c (xs ++ putS o.s l.length ++ ((l.take k).map fun x => putS x.s 0).flatten) ∧ m ≤ m8 + 800 * k ∧ Below N w wr ∧ Below w8.heap.size w8 wr) (fun _ _ i _ => o.sn - (intOf i).toNat)
  case atStart => exact ⟨0, b8, m8, c8, Nat.zero_le _, rfl, rfl, by simpa using S8, by omega, B8, Below.refl _ _⟩
  case round =>
    clear S8 B8
    obtain ⟨k, bo, m, c, hk, rfl, rfl, S, hm, B, C⟩ := hrel
    by_cases hlt : k < o.sn
    · obtain ⟨b, off, ea, hc⟩ := L8.at (by omega)
      have hkl : k < l.length := by omega
      have X := (hc k hkl).below C
      have hok : (l[k]).ok wr := (L8.ok _ (List.getElem_mem hkl)).below C
      have hmem := List.getElem_mem hkl
      have i6 : (k : Int) < (o.sn : Int) := by omega
      have HT : Hid (((l.take (k + 1)).map fun x => putS x.s 0).flatten = ((l.take k).map fun x => putS x.s 0).flatten ++ putS l[k].s 0) := by
        show _ = _
        rw [List.take_succ_eq_append_getElem hkl, List.map_append, List.flatten_append]
        simp
      have HF := putS_len (n := 0) (hlf _ hmem) (by omega)
      have hrec := rec
      obtain ⟨x, hx⟩ : ∃ x : OA, x = l[k] := ⟨_, rfl⟩
      have X : OX wr b (off + k * 10) x := by rw [hx]; exact X
      obtain ⟨p, hp⟩ : ∃ p, p = ((l.take k).map fun x => putS x.s 0).flatten := ⟨_, rfl⟩
      rw [← hx] at hok HT HF hmem
      rw [← hp] at S HT
      have Bx : Below wr.heap.size wr (wr.alloc (Obj.cells x.cells.toArray 57)) := (Below.refl _ _).alloc (Nat.le_refl _) _
      have hm2 : m ≤ M + 10000 := by omega
      have CR := (hrec _ bo m c _ x hmem (S.below Bx) hm2 (hok.below Bx))
      clear hp hx hc hrec
      rw [ea]
      clear ea
      obtain ⟨q0, q1, q2, q3, q4, q5, q6, q7, q8, q9⟩ := X
      unfold OA.cells at Bx CR
      have lS := S.len
      clear S
      go_wp2_with (go_at_call 38; refine CR.mono ?_; rintro e w9 ⟨b9, m9, c9, rfl, S9, C9⟩; have E9 := Bx.trans (C9.mono Bx.size); have B9 := B.trans (E9.mono (by have := B.size; have := HN.out; omega)); have D9 := C.trans (E9.mono C.size); have l9 := S9.len)
      have hm9 : m9 ≤ m8 + 800 * (k + 1) := by
        simp only [List.length_append] at l9 lS
        omega
      go_roundw
      case rel => exact ⟨k + 1, b9, m9, c9, by omega, by go_num, rfl, by rw [HT.out, ← List.append_assoc]; exact S9, hm9, B9, D9⟩
      case measure => simp [intOf]; omega
    · have i6 : (o.sn : Int) ≤ (k : Int) := by omega
      rw [List.take_of_length_le (by omega), List.append_assoc] at S
      go_wp2
      go_ret
      exact ⟨bo, m, c, rfl, S, by rw [← HN.out]; exact B⟩
open Go.RowKit
theorem OWL.none {w : World} {o : OA} (h : o.ok w) (hz : o.sn = 0) : OWL w 0 o.so o.sn o.sc [] :=
  ⟨by rw [hz]; rfl, h.le, h.mx, h.nil, fun _ _ i hi => by simp at hi, fun _ hy => by simp at hy⟩
theorem pput_leaf (w : World) (ao : Option Addr) (n cap : Nat) (xs : List Int) (h : Sl w ao n cap xs) (hr : n ≤ 800000) (o : OA) (ho : o.ok w) (hf : o.s.fits) (hz : o.sn = 0) :
    Calls Try.prog 38 #[.slice ao n cap, o.val] w (PutPost w (xs ++ putS o.s 0)) := by
  have := pput_gen w ao n cap xs h 800000 (by omega) hr o ho hf [] (OWL.none ho hz) (by decide) (fun x hx => by simp at hx) (fun _ _ _ _ _ x hx => by simp at hx)
  simpa using this
theorem pput_any (w : World) (ao : Option Addr) (n cap : Nat) (xs : List Int) (h : Sl w ao n cap xs) (hr : n ≤ 700000) (o : OA) (ho : o.ok w) (hf : o.s.fits) (l : List OA) (L : OWL w 0 o.so o.sn o.sc l) (hl8 : l.length ≤ 8) (hlf : ∀ x ∈ l, x.s.fits) (hlz : ∀ x ∈ l, x.sn = 0) :
    Calls Try.prog 38 #[.slice ao n cap, o.val] w (PutPost w (xs ++ (putS o.s l.length ++ (l.map fun x => putS x.s 0).flatten))) :=
  pput_gen w ao n cap xs h 700000 (by omega) hr o ho hf l L hl8 hlf (fun W bo m c ys x hx S hm hok => pput_leaf W bo m c ys S (by omega) x hok (hlf x hx) (hlz x hx))
def putA (o : OA) (l : List OA) : List Int := putS o.s l.length ++ (l.map fun x => putS x.s 0).flatten
theorem putA_P (o : OA) (l : List OA) : putA o l = putP (o.s, l.map OA.s) := by
  unfold putA putP
  simp [Function.comp_def]
theorem right_parts {o : OA} {l : List OA} {w : World} (h : rightO o.s (l.map sn0) = true) (ho : o.ok w) (hl : ∀ x ∈ l, x.ok w) : o.s.fits ∧ l.length ≤ 8 ∧ (∀ x ∈ l, x.s.fits) ∧ ∀ x ∈ l, x.sn = 0 := by
  have h1 := rightP_of h
  have h2 := rightP_fits h1 ho.wf (fun s hs => by
    obtain ⟨q, hq, rfl⟩ := List.mem_map.1 hs
    obtain ⟨x, hx, rfl⟩ := List.mem_map.1 hq
    exact (hl x hx).wf)
  obtain ⟨f1, f2, f3⟩ := h2
  simp only [List.length_map] at f2
  refine ⟨f1, f2, fun x hx => f3 x.s ?_, fun x hx => ?_⟩
  · rw [List.map_map]
    exact List.mem_map.2 ⟨x, hx, rfl⟩
  · have := right_flat h
    have h3 : ∀ s ∈ l.map sn0, s.2 = 0 := by
      rw [this]
      intro s hs
      obtain ⟨q, _, rfl⟩ := List.mem_map.1 hs
      rfl
    exact h3 (sn0 x) (List.mem_map.2 ⟨x, hx, rfl⟩)
open Go.RowKit
def QC (V : World) (p : Nat) (cl st : Nat) (o : OA) : Prop := V.heap[p]? = some (.cells #[.int .u64 cl, .int .u64 st, .int .i64 o.kind, .string o.row, .string o.fam, .string o.qual, .int .u64 o.time, .string o.to, .slice o.va.ao o.va.n o.va.cap, .slice o.wa.ao o.wa.n o.wa.cap, .bool o.has, .slice o.so o.sn o.sc] 59)
theorem QC.lt {V : World} {p cl st : Nat} {o : OA} (h : QC V p cl st o) : p < V.heap.size := (Array.getElem?_eq_some_iff.1 h).1
theorem QC.keep {V V' : World} {p cl st : Nat} {o : OA} (h : QC V p cl st o) (hb : Below V.heap.size V V') : QC V' p cl st o := (hb.block p h.lt).trans h
structure QCs (V : World) (p : Nat) (cl st : Nat) (o : OA) : Prop where
  c0 : V.cell? ⟨p, 0, none⟩ = some (.int .u64 cl)
  c1 : V.cell? ⟨p, 1, none⟩ = some (.int .u64 st)
  c2 : V.cell? ⟨p, 2, none⟩ = some (.int .i64 o.kind)
  c3 : V.cell? ⟨p, 3, none⟩ = some (.string o.row)
  c4 : V.cell? ⟨p, 4, none⟩ = some (.string o.fam)
  c5 : V.cell? ⟨p, 5, none⟩ = some (.string o.qual)
  c6 : V.cell? ⟨p, 6, none⟩ = some (.int .u64 o.time)
  c7 : V.cell? ⟨p, 7, none⟩ = some (.string o.to)
  c8 : V.cell? ⟨p, 8, none⟩ = some (.slice o.va.ao o.va.n o.va.cap)
  c9 : V.cell? ⟨p, 9, none⟩ = some (.slice o.wa.ao o.wa.n o.wa.cap)
  c10 : V.cell? ⟨p, 10, none⟩ = some (.bool o.has)
  c11 : V.cell? ⟨p, 11, none⟩ = some (.slice o.so o.sn o.sc)
theorem QC.cs {V : World} {p cl st : Nat} {o : OA} (h : QC V p cl st o) : QCs V p cl st o :=
  ⟨cell_of_row V p 0 _ _ _ h, cell_of_row V p 1 _ _ _ h, cell_of_row V p 2 _ _ _ h, cell_of_row V p 3 _ _ _ h, cell_of_row V p 4 _ _ _ h, cell_of_row V p 5 _ _ _ h, cell_of_row V p 6 _ _ _ h, cell_of_row V p 7 _ _ _ h, cell_of_row V p 8 _ _ _ h, cell_of_row V p 9 _ _ _ h, cell_of_row V p 10 _ _ _ h, cell_of_row V p 11 _ _ _ h⟩
def kq (cl st : Nat) (b : Bool) : Int := if cl = 0 ∨ st = 0 then 1 else kindO b
def ReqPost (w : World) (k : Int) (ys : List Int) (e : Ending) (w' : World) : Prop :=
  (∃ bo m c, e = .returned (.tuple #[.slice bo m c, .int .i64 k]) ∧ Sl w' bo m c (if k = 0 then ys else [])) ∧ Below w.heap.size w w'
theorem kq_zero {cl st : Nat} {b : Bool} (h : kq cl st b = 0) : cl ≠ 0 ∧ st ≠ 0 ∧ b = true := by
  unfold kq kindO at h
  by_cases c : cl = 0 ∨ st = 0
  · rw [if_pos c] at h; omega
  · rw [if_neg c] at h
    cases b with
    | true => exact ⟨by omega, by omega, rfl⟩
    | false => simp at h
set_option maxRecDepth 100000 in
set_option maxHeartbeats 4000000 in
theorem prq_any (w : World) (cl st : Nat) (o : OA) (l : List OA) (h : o.ok w) (hs : OWL w 0 o.so o.sn o.sc l) :
    Calls Try.prog 37 #[qVal cl st o] w fun e w' => e = .returned (.int .i64 (kq cl st (rightO o.s (l.map sn0)))) ∧ Below w.heap.size w w' := by
  have B : Below w.heap.size w (w.alloc (Obj.cells #[.int .u64 cl, .int .u64 st, .int .i64 o.kind, .string o.row, .string o.fam, .string o.qual, .int .u64 o.time, .string o.to, .slice o.va.ao o.va.n o.va.cap, .slice o.wa.ao o.wa.n o.wa.cap, .bool o.has, .slice o.so o.sn o.sc] 59)) := (Below.refl _ w).alloc (Nat.le_refl _) _
  have h1 := h.below B
  have hs1 := hs.below B
  have CR := pRight_any _ o l h1 hs1
  clear h hs h1 hs1
  rw [show qVal cl st o = .agg #[.int .u64 cl, .int .u64 st, .int .i64 o.kind, .string o.row, .string o.fam, .string o.qual, .int .u64 o.time, .string o.to, .slice o.va.ao o.va.n o.va.cap, .slice o.wa.ao o.wa.n o.wa.cap, .bool o.has, .slice o.so o.sn o.sc] from rfl]
  by_cases z1 : cl = 0
  · have i1 : ((cl : Int) == 0) = true := by simp; omega
    have hv : Hid (kq cl st (rightO o.s (l.map sn0)) = 1) := if_pos (.inl z1)
    clear CR z1
    go_enter Try.func37, Try.ntmps37
    go_wp2
    go_ret
    exact ⟨by rw [hv.out] <;> rfl, B⟩
  have i1 : ((cl : Int) == 0) = false := by simp; omega
  by_cases z2 : st = 0
  · have i2 : ((st : Int) == 0) = true := by simp; omega
    have hv : Hid (kq cl st (rightO o.s (l.map sn0)) = 1) := if_pos (.inr z2)
    clear CR z1 z2
    go_enter Try.func37, Try.ntmps37
    go_wp2
    go_ret
    exact ⟨by rw [hv.out] <;> rfl, B⟩
  have i2 : ((st : Int) == 0) = false := by simp; omega
  have hv : Hid (kq cl st (rightO o.s (l.map sn0)) = kindO (rightO o.s (l.map sn0))) := if_neg (by omega)
  clear z1 z2
  go_enter Try.func37, Try.ntmps37
  go_wp2_with (go_at_call 58; refine CR.mono ?_; rintro e w2 ⟨rfl, C⟩; have D := B.trans (C.mono B.size))
  go_ret
  exact ⟨by rw [hv.out] <;> rfl, D⟩
set_option maxRecDepth 100000 in
set_option maxHeartbeats 8000000 in
theorem preq_any (w : World) (cl st : Nat) (o : OA) (l : List OA) (hcl : cl < 18446744073709551616) (hst : st < 18446744073709551616) (h : o.ok w) (hs : OWL w 0 o.so o.sn o.sc l) :
    Calls Try.prog 18 #[qVal cl st o] w (ReqPost w (kq cl st (rightO o.s (l.map sn0))) (enc cl ++ (enc st ++ putA o l))) := by
  have B : Below w.heap.size w (w.alloc (Obj.cells #[.int .u64 cl, .int .u64 st, .int .i64 o.kind, .string o.row, .string o.fam, .string o.qual, .int .u64 o.time, .string o.to, .slice o.va.ao o.va.n o.va.cap, .slice o.wa.ao o.wa.n o.wa.cap, .bool o.has, .slice o.so o.sn o.sc] 59)) := (Below.refl _ w).alloc (Nat.le_refl _) _
  have K : QC (w.alloc (Obj.cells #[.int .u64 cl, .int .u64 st, .int .i64 o.kind, .string o.row, .string o.fam, .string o.qual, .int .u64 o.time, .string o.to, .slice o.va.ao o.va.n o.va.cap, .slice o.wa.ao o.wa.n o.wa.cap, .bool o.has, .slice o.so o.sn o.sc] 59)) w.heap.size cl st o := heap_alloc_new w _
  have h1 := h.below B
  have hs1 := hs.below B
  have hp : rightO o.s (l.map sn0) = true → o.s.fits ∧ l.length ≤ 8 ∧ (∀ x ∈ l, x.s.fits) ∧ ∀ x ∈ l, x.sn = 0 := fun q => right_parts q h hs.ok
  clear h hs
  rw [show qVal cl st o = .agg #[.int .u64 cl, .int .u64 st, .int .i64 o.kind, .string o.row, .string o.fam, .string o.qual, .int .u64 o.time, .string o.to, .slice o.va.ao o.va.n o.va.cap, .slice o.wa.ao o.wa.n o.wa.cap, .bool o.has, .slice o.so o.sn o.sc] from rfl]
  go_enter Try.func18, Try.ntmps18
  go_wp2_with fail
  obtain ⟨w1, hw1⟩ : ∃ W, W = w.alloc (Obj.cells #[.int .u64 cl, .int .u64 st, .int .i64 o.kind, .string o.row, .string o.fam, .string o.qual, .int .u64 o.time, .string o.to, .slice o.va.ao o.va.n o.va.cap, .slice o.wa.ao o.wa.n o.wa.cap, .bool o.has, .slice o.so o.sn o.sc] 59) := ⟨_, rfl⟩
  obtain ⟨N, hN⟩ : ∃ N, N = w.heap.size := ⟨_, rfl⟩
  rw [← hw1] at B K h1 hs1 ⊢
  rw [← hN] at B K ⊢
  have HN : Hid (N = w.heap.size) := hN
  clear hw1 hN
  refine (prq_any w1 cl st o l h1 hs1).mono ?_
  rintro e w2 ⟨rfl, C⟩
  have K2 := K.keep C
  have B2 := B.trans (C.mono (by have := B.size; have := K.lt; omega))
  have h2 := h1.below C
  have hs2 := hs1.below C
  clear C K B h1 hs1
  by_cases hk : kq cl st (rightO o.s (l.map sn0)) = 0
  · obtain ⟨_, _, hb⟩ := kq_zero hk
    obtain ⟨p1, p2, p3, p4⟩ := hp hb
    rw [hk]
    have g1 := enc_length hcl
    have g2 := enc_length hst
    go_wp2_with fail
    have HS : Hid (∀ V, Below w2.heap.size w2 V → V.cell? ⟨N, 0, none⟩ = some (.int .u64 cl) ∧ V.cell? ⟨N, 1, none⟩ = some (.int .u64 st) ∧ V.cell? ⟨N, 2, none⟩ = some (.int .i64 o.kind) ∧ V.cell? ⟨N, 3, none⟩ = some (.string o.row) ∧ V.cell? ⟨N, 4, none⟩ = some (.string o.fam) ∧ V.cell? ⟨N, 5, none⟩ = some (.string o.qual) ∧ V.cell? ⟨N, 6, none⟩ = some (.int .u64 o.time) ∧ V.cell? ⟨N, 7, none⟩ = some (.string o.to) ∧ V.cell? ⟨N, 8, none⟩ = some (.slice o.va.ao o.va.n o.va.cap) ∧ V.cell? ⟨N, 9, none⟩ = some (.slice o.wa.ao o.wa.n o.wa.cap) ∧ V.cell? ⟨N, 10, none⟩ = some (.bool o.has) ∧ V.cell? ⟨N, 11, none⟩ = some (.slice o.so o.sn o.sc)) := fun V hV => have q := (K2.keep hV).cs; ⟨q.c0, q.c1, q.c2, q.c3, q.c4, q.c5, q.c6, q.c7, q.c8, q.c9, q.c10, q.c11⟩
    have E0 : Below w2.heap.size w2 w2.drew := (Below.refl _ _).drew
    refine wp_region_noPanic ?_
    refine wp_region_held_drew (S := fun V => V.cell? ⟨N, 0, none⟩ = some (.int .u64 cl) ∧ V.cell? ⟨N, 1, none⟩ = some (.int .u64 st) ∧ V.cell? ⟨N, 2, none⟩ = some (.int .i64 o.kind) ∧ V.cell? ⟨N, 3, none⟩ = some (.string o.row) ∧ V.cell? ⟨N, 4, none⟩ = some (.string o.fam) ∧ V.cell? ⟨N, 5, none⟩ = some (.string o.qual) ∧ V.cell? ⟨N, 6, none⟩ = some (.int .u64 o.time) ∧ V.cell? ⟨N, 7, none⟩ = some (.string o.to) ∧ V.cell? ⟨N, 8, none⟩ = some (.slice o.va.ao o.va.n o.va.cap) ∧ V.cell? ⟨N, 9, none⟩ = some (.slice o.wa.ao o.wa.n o.wa.cap) ∧ V.cell? ⟨N, 10, none⟩ = some (.bool o.has) ∧ V.cell? ⟨N, 11, none⟩ = some (.slice o.so o.sn o.sc)) (by kernel_rfl) (HS.out _ E0) (fun H0 => ?_)
    obtain ⟨v0, hv0⟩ : ∃ v, v = w2.drew := ⟨_, rfl⟩
    rw [← hv0] at H0 E0 ⊢
    clear hv0
    refine hr_take_w 0 (some 10) (.pointer (some ⟨N, 0, none⟩)) rfl rfl (by kernel_rfl) (by kernel_rfl) (by kernel_rfl) rfl (fun W hW => by obtain ⟨h0, h1, h2, h3, h4, h5, h6, h7, h8, h9, h10, h11⟩ := hW; go_simp) H0 ?_
    simp only [FL]
    refine hr_take_w 1 (some 11) (.int .u64 cl) rfl rfl (by kernel_rfl) (by kernel_rfl) (by kernel_rfl) rfl (fun W hW => by obtain ⟨h0, h1, h2, h3, h4, h5, h6, h7, h8, h9, h10, h11⟩ := hW; go_simp) H0 ?_
    simp only [FL]
    refine hr_take_w 3 (some 13) (.pointer (some ⟨N, 1, none⟩)) rfl rfl (by kernel_rfl) (by kernel_rfl) (by kernel_rfl) rfl (fun W hW => by obtain ⟨h0, h1, h2, h3, h4, h5, h6, h7, h8, h9, h10, h11⟩ := hW; go_simp) H0 ?_
    simp only [FL]
    refine hr_take_w 4 (some 14) (.int .u64 st) rfl rfl (by kernel_rfl) (by kernel_rfl) (by kernel_rfl) rfl (fun W hW => by obtain ⟨h0, h1, h2, h3, h4, h5, h6, h7, h8, h9, h10, h11⟩ := hW; go_simp) H0 ?_
    simp only [FL]
    refine hr_take_w 6 (some 16) (.pointer (some ⟨N, 2, none⟩)) rfl rfl (by kernel_rfl) (by kernel_rfl) (by kernel_rfl) rfl (fun W hW => by obtain ⟨h0, h1, h2, h3, h4, h5, h6, h7, h8, h9, h10, h11⟩ := hW; go_simp) H0 ?_
    simp only [FL]
    refine hr_take_w 7 (some 17) (.agg #[.int .i64 o.kind, .string o.row, .string o.fam, .string o.qual, .int .u64 o.time, .string o.to, .slice o.va.ao o.va.n o.va.cap, .slice o.wa.ao o.wa.n o.wa.cap, .bool o.has, .slice o.so o.sn o.sc]) rfl rfl (by kernel_rfl) (by kernel_rfl) (by kernel_rfl) rfl (fun W hW => by obtain ⟨h0, h1, h2, h3, h4, h5, h6, h7, h8, h9, h10, h11⟩ := hW; go_simp) H0 ?_
    simp only [FL]
    refine hr_call_w 2 (some 12) 35 #[.slice none 0 0, .int .u64 cl] rfl rfl (by kernel_rfl) rfl (by go_simp) (fun v w' => ∃ b1 m1 c1, v = .slice b1 m1 c1 ∧ Sl w' b1 m1 c1 ([] ++ enc cl) ∧ Below v0.heap.size v0 w') ((fUint v0 none 0 0 cl [] (Sl.nothing _) (by omega) hcl).mono (by
      rintro e w' ⟨b1, m1, c1, rfl, F, C⟩
      exact ⟨_, rfl, b1, m1, c1, rfl, F, C⟩)) ?_
    rintro v v1 ⟨b1, m1, c1, rfl, F0, C0⟩
    have E1 := E0.trans (C0.mono E0.size)
    have H1 := HS.out v1 E1
    refine ⟨H1, ?_⟩
    simp only [FL]
    have l1 := F0.len
    simp only [List.length_append, List.length_nil] at l1
    refine hr_call_w 5 (some 15) 35 #[.slice b1 m1 c1, .int .u64 st] rfl rfl (by kernel_rfl) rfl (by go_simp) (fun v w' => ∃ b2 m2 c2, v = .slice b2 m2 c2 ∧ Sl w' b2 m2 c2 ([] ++ enc cl ++ enc st) ∧ Below v1.heap.size v1 w') ((fUint v1 b1 m1 c1 st _ F0 (by omega) hst).mono (by
      rintro e w' ⟨b2, m2, c2, rfl, F, C⟩
      exact ⟨_, rfl, b2, m2, c2, rfl, F, C⟩)) ?_
    rintro v v2 ⟨b2, m2, c2, rfl, F1, C1⟩
    have E2 := E1.trans (C1.mono E1.size)
    have H2 := HS.out v2 E2
    refine ⟨H2, ?_⟩
    simp only [FL]
    have l2 := F1.len
    simp only [List.length_append, List.length_nil] at l2
    refine hr_call_w 8 (some 18) 38 #[.slice b2 m2 c2, .agg #[.int .i64 o.kind, .string o.row, .string o.fam, .string o.qual, .int .u64 o.time, .string o.to, .slice o.va.ao o.va.n o.va.cap, .slice o.wa.ao o.wa.n o.wa.cap, .bool o.has, .slice o.so o.sn o.sc]] rfl rfl (by kernel_rfl) rfl (by go_simp) (fun v w' => ∃ b3 m3 c3, v = .slice b3 m3 c3 ∧ Sl w' b3 m3 c3 ([] ++ enc cl ++ enc st ++ (putS o.s l.length ++ (l.map fun x => putS x.s 0).flatten)) ∧ Below v2.heap.size v2 w') ((pput_any v2 b2 m2 c2 _ F1 (by omega) o (h2.below E2) p1 l (hs2.below E2) p2 p3 p4).mono (by
      rintro e w' ⟨b3, m3, c3, rfl, F, C⟩
      exact ⟨_, rfl, b3, m3, c3, rfl, F, C⟩)) ?_
    rintro v v3 ⟨b3, m3, c3, rfl, F2, C2⟩
    have E3 := E2.trans (C2.mono E2.size)
    have H3 := HS.out v3 E3
    refine ⟨H3, ?_⟩
    simp only [FL]
    refine hr_take_w 9 (some 2) (.slice b3 m3 c3) rfl rfl (by kernel_rfl) (by kernel_rfl) (by kernel_rfl) rfl (fun W hW => by obtain ⟨h0, h1, h2, h3, h4, h5, h6, h7, h8, h9, h10, h11⟩ := hW; go_simp) H3 ?_
    simp only [FL]
    refine hr_take_w 10 (some 3) (.int .i64 0) rfl rfl (by kernel_rfl) (by kernel_rfl) (by kernel_rfl) rfl (fun W hW => by obtain ⟨h0, h1, h2, h3, h4, h5, h6, h7, h8, h9, h10, h11⟩ := hW; go_simp) H3 ?_
    simp only [FL]
    refine wpAnyH_done (by kernel_rfl) ?_ _
    refine NoPanic.normal ?_
    have B3 := B2.trans (E3.mono (by have := B2.size; have := HN.out; omega))
    go_wp2
    go_ret2
    refine ⟨⟨b3, m3, c3, by rw [hk] <;> rfl, ?_⟩, by rw [← HN.out]; exact B3⟩
    rw [if_pos hk]
    simpa only [List.nil_append, List.append_assoc, putA] using F2
  · obtain ⟨k, hkk⟩ : ∃ k, k = kq cl st (rightO o.s (l.map sn0)) := ⟨_, rfl⟩
    rw [← hkk] at hk ⊢
    have i1 : (k != 0) = true := by simp [hk]
    have HK : Hid (¬ k = 0) := hk
    have HKK : Hid (k = kq cl st (rightO o.s (l.map sn0))) := hkk
    clear hk hkk hp
    go_wp2
    go_ret2
    exact ⟨⟨none, 0, 0, by rw [← HKK.out] <;> rfl, by rw [← HKK.out, if_neg HK.out]; exact Sl.nothing _⟩, by rw [← HN.out]; exact B2⟩
open Go.RowKit
def or2 (a b : Int) : Int := if a = 0 then b else a
set_option maxRecDepth 100000 in
set_option maxHeartbeats 2000000 in
theorem por2_any (w : World) (g : Nat) (c0 c1 : Int) (hg : w.heap[g]? = some (.cells #[.int .i64 c0, .int .i64 c1] 25)) :
    Calls Try.prog 64 #[.slice (some ⟨g, 0, none⟩) 2 2] w fun e w' => e = .returned (.int .i64 (or2 c0 c1)) ∧ w' = w := by
  have q0 : w.cell? ⟨g, 0, none⟩ = some (.int .i64 c0) := cell_of_row w g 0 _ _ _ hg
  have q1 : w.cell? ⟨g, 1, none⟩ = some (.int .i64 c1) := cell_of_row w g 1 _ _ _ hg
  clear hg
  go_enter Try.func64, Try.ntmps64
  go_wp2_with fail
  go_loopw [5, 8] (fun _ i wr => wr = w ∧ ∃ j : Nat, i = .int .i64 j ∧ j ≤ 2 ∧ (0 < j → c0 = 0) ∧ (1 < j → c1 = 0)) (fun _ i _ => 2 - (intOf i).toNat)
  case atStart => exact ⟨rfl, 0, rfl, by omega, by omega, by omega⟩
  case round =>
    obtain ⟨rfl, j, rfl, hj, h1, h2⟩ := hrel
    obtain rfl | rfl | rfl : j = 0 ∨ j = 1 ∨ j = 2 := by omega
    · by_cases z : c0 = 0
      · subst z
        clear h1 h2
        go_wp2
        go_roundw
        case rel => exact ⟨trivial, 1, rfl, by omega, fun _ => trivial, by omega⟩
        case measure => simp [intOf]
      · have zb : (c0 != 0) = true := by simp [z]
        have zc : (c0 == 0) = false := by simp [z]
        have hv : Hid (or2 c0 c1 = c0) := if_neg z
        clear h1 h2 z
        go_wp2
        go_ret
        exact ⟨by rw [hv.out] <;> rfl, rfl⟩
    · obtain rfl := h1 (by omega)
      by_cases z : c1 = 0
      · subst z
        clear h1 h2
        go_wp2
        go_roundw
        case rel => exact ⟨trivial, 2, rfl, by omega, fun _ => trivial, fun _ => trivial⟩
        case measure => simp [intOf]
      · have zb : (c1 != 0) = true := by simp [z]
        have zc : (c1 == 0) = false := by simp [z]
        have hv : Hid (or2 0 c1 = c1) := if_pos rfl
        clear h1 h2 z
        go_wp2
        go_ret
        exact ⟨by rw [hv.out] <;> rfl, rfl⟩
    · obtain rfl := h1 (by omega)
      obtain rfl := h2 (by omega)
      clear h1 h2
      go_wp2
      go_ret
      exact ⟨rfl, rfl⟩
open Go.RowKit
set_option maxHeartbeats 800000 in
theorem bool_any (w : World) (p L : Nat) (xs : List Int) (k : Int) (h : R w p L xs k) : Calls Try.prog 66 #[.pointer (some ⟨p, 0, none⟩)] w fun e w' =>
    e = .returned (.bool (boolS xs k).1) ∧ R w' p L (boolS xs k).2.1 (boolS xs k).2.2 ∧ w.grownBy w' (some p) := by
  have hR := h
  obtain ⟨ao, n, cap, hr⟩ := h
  have hc0 := hr.c0
  have hc1 := hr.c1
  have hf0 := hr.f0
  have hl := hr.sl.len
  by_cases hk : k = 0
  · subst hk
    cases xs with
    | nil =>
      obtain rfl : n = 0 := by simpa using hl.symm
      rw [show boolS [] 0 = (false, [], 2) from rfl]
      clear hr hl
      go_enter Try.func66, Try.ntmps66
      go_wp2_with (first | (go_at_call 41; refine (failed_any _ p 0 hc1).mono ?_; rintro e w' ⟨rfl, rfl⟩) | (go_at_call 42; refine (fail_any _ p L [] 2 hR (by decide)).mono ?_; rintro e w2 ⟨rfl, hr2, hg2⟩))
      go_ret
      exact ⟨rfl, hr2, hg2⟩
    | cons c r =>
      have hn : 0 < n := by rw [← hl]; simp
      have hnb : ((n : Int) == 0) = false := by simp; omega
      have hn1 : (0 : Int) < (n : Int) := by omega
      have hn2 : (1 : Int) ≤ (n : Int) := by omega
      have hby := hr.sl.byte c (by simp)
      obtain ⟨b, off, rfl, hcell⟩ := hr.sl.at hn
      have c0 := hcell 0 hn
      rw [Nat.add_zero, show (c :: r).getD 0 0 = c from rfl] at c0
      have hle := hr.sl.le
      have hmx := hr.sl.mx
      unfold maxLen at hmx
      clear hcell
      by_cases hbig : 1 < c
      · rw [show boolS (c :: r) 0 = (false, [], 3) from by simp [boolS, hbig]]
        clear hr
        go_enter Try.func66, Try.ntmps66
        go_wp2_with (first | (go_at_call 41; refine (failed_any _ p 0 hc1).mono ?_; rintro e w' ⟨rfl, rfl⟩) | (go_at_call 42; refine (fail_any _ p L (c :: r) 3 hR (by decide)).mono ?_; rintro e w2 ⟨rfl, hr2, hg2⟩))
        go_ret
        exact ⟨rfl, hr2, hg2⟩
      · have hc1' : c ≤ 1 := by omega
        rw [show boolS (c :: r) 0 = (c == 1, r, 0) from by simp [boolS, hbig]]
        have hsd := hr.sl.drop 1 hn
        rw [show (c :: r).drop 1 = r from rfl] at hsd
        have hsa : cap = 1 → Sl w (some ⟨b, off, none⟩) (n - 1) 0 r := by
          intro hc
          subst hc
          exact hr.sl.dropAll hn
        clear hbig
        go_enter Try.func66, Try.ntmps66
        go_wp2_with (first | (go_at_call 41; refine (failed_any _ p 0 hc1).mono ?_; rintro e w' ⟨rfl, rfl⟩) | fail)
        · have hcap : cap = 1 := by assumption
          have hfin : R (w'.setCell ⟨p, 0, none⟩ (.slice (some ⟨b, off, none⟩) (n - 1) 0)) p L r 0 := ⟨_, _, _, hr.rest (hsa hcap) (fun a ha hp => by omega) (by omega)⟩
          go_ret
          exact ⟨rfl, hfin, grown_setCell _ _ _ _⟩
        · have hfin := hr.rest hsd (low_drop hr.low (by omega)) (by omega)
          rw [show Option.map (fun x => x.add 1) (some (⟨b, off, none⟩ : Addr)) = some ⟨b, off + 1, none⟩ from by rw [Option.map_some, Addr.add_lit]] at hfin
          go_ret
          exact ⟨rfl, ⟨_, _, _, hfin⟩, grown_setCell _ _ _ _⟩
  · have hb : (k != 0) = true := by simp [hk]
    have hs : boolS xs k = (false, xs, k) := by simp [boolS, hk]
    rw [hs]
    clear hr hk hs
    go_enter Try.func66, Try.ntmps66
    go_wp2_with (go_at_call 41; refine (failed_any _ p k hc1).mono ?_; rintro e w' ⟨rfl, rfl⟩)
    go_ret
    exact ⟨rfl, hR, World.grownBy.refl _ _⟩
end Go.Proofs.Ytcgphdipfekccaa

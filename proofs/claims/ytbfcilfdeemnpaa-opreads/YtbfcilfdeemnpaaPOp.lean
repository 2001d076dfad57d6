/-
  The program's putOp.
-/
import Derived.Test.YtbfcilfdeemnpaaPKey
namespace Go.Proofs.Ytbfcilfdeemnpaa
open Go.RowKit

theorem fUintI (w : World) (ao : Option Addr) (n cap : Nat) (m : Int) (xs : List Int) (h : Sl w ao n cap xs) (hr : n ≤ 1000000) (h0 : 0 ≤ m) (hm : m < 18446744073709551616) :
    Calls Try.prog 33 #[.slice ao n cap, .int .u64 m] w fun e w' => ∃ bo k c, e = .returned (.slice bo k c) ∧ Sl w' bo k c (xs ++ enc m.toNat) ∧ Below w.heap.size w w' := by
  obtain ⟨k, rfl⟩ : ∃ k : Nat, m = k := ⟨m.toNat, (Int.toNat_of_nonneg h0).symm⟩
  exact fUint w ao n cap k xs h hr (by omega)
theorem byts_len {l : List Int} (h : l.length ≤ 256) : (byts l).length ≤ 266 := by
  have := enc_length (n := l.length) (by omega)
  unfold byts
  rw [List.length_append]
  omega
theorem putK_len {k : KA} (h : k.fits) : (putK k).length ≤ 136 := by
  have := txt_len h.row
  have := txt_len h.fam
  have := txt_len h.qual
  have := enc_length h.time
  unfold putK
  simp only [List.length_append]
  omega
theorem enb_len (b : Bool) : (enb b).length = 1 := by cases b <;> rfl
theorem putS_len {o : SO} (h : o.fits) {n : Nat} (hn : n ≤ 100) : (putS o n).length ≤ 800 := by
  have := txt_len h.row
  have := txt_len h.fam
  have := txt_len h.qual
  have := txt_len h.to
  have := enc_length h.time
  have := byts_len h.value.1
  have := byts_len h.want.1
  have := enb_len o.has
  have := enc_length (n := n) (by omega)
  have := enc_length (n := o.kind.toNat) (by have := h.kind; omega)
  unfold putS
  simp only [List.length_append]
  omega
def PutPost (w : World) (ys : List Int) (e : Ending) (w' : World) : Prop := ∃ bo m c, e = .returned (.slice bo m c) ∧ Sl w' bo m c ys ∧ Below w.heap.size w w'

set_option maxRecDepth 100000 in
set_option maxHeartbeats 8000000 in
theorem pput_gen (w : World) (ao : Option Addr) (n cap : Nat) (xs : List Int) (h : Sl w ao n cap xs) (M : Nat) (hM : M ≤ 850000) (hr : n ≤ M) (o : OA) (ho : o.ok w) (hf : o.s.fits) (l : List OA) (L : OWL w 0 o.so o.sn o.sc l) (hl8 : l.length ≤ 8) (hlf : ∀ x ∈ l, x.s.fits)
    (rec : ∀ (W : World) (bo : Option Addr) (m c : Nat) (ys : List Int) (x : OA), x ∈ l → Sl W bo m c ys → m ≤ M + 10000 → x.ok W → Calls Try.prog 29 #[.slice bo m c, x.val] W (PutPost W (ys ++ putS x.s 0))) :
    Calls Try.prog 29 #[.slice ao n cap, o.val] w (PutPost w (xs ++ (putS o.s l.length ++ (l.map fun x => putS x.s 0).flatten))) := by
  have hxl := h.len
  have hl : l.length = o.sn := L.len
  have B : Below w.heap.size w (w.alloc (Obj.cells o.cells.toArray 28)) := (Below.refl _ w).alloc (Nat.le_refl _) _
  have K : OC (w.alloc (Obj.cells o.cells.toArray 28)) w.heap.size o := OC.new w o
  unfold OA.cells at B K
  have h1 := h.below B
  have ho1 := ho.below B
  have L1 := L.below B
  clear h ho L
  obtain ⟨kd0, kd1⟩ : 0 ≤ o.kind ∧ o.kind ≤ 100 := hf.kind
  have hkf : KA.fits o.key := ⟨hf.row, hf.fam, hf.qual, hf.time⟩
  have lt : o.to.size ≤ 32 := hf.to
  have lv : o.va.xs.length ≤ 256 := hf.value.1
  have lw : o.wa.xs.length ≤ 256 := hf.want.1
  have g0 := enc_length (n := o.kind.toNat) (by omega)
  have g1 := putK_len hkf
  have g2 := txt_len lt
  have g3 := byts_len lv
  have g4 := byts_len lw
  have g5 := enb_len o.has
  have g6 := enc_length (n := o.sn) (by omega)
  unfold OA.val
  go_enter Try.func29, Try.ntmps29
  go_wp2_with fail
  obtain ⟨w1, hw1⟩ : ∃ W, W = w.alloc (Obj.cells #[.int .i64 o.kind, .string o.row, .string o.fam, .string o.qual, .int .u64 o.time, .string o.to, .slice o.va.ao o.va.n o.va.cap, .slice o.wa.ao o.wa.n o.wa.cap, .bool o.has, .slice o.so o.sn o.sc] 28) := ⟨_, rfl⟩
  obtain ⟨N, hN⟩ : ∃ N, N = w.heap.size := ⟨_, rfl⟩
  rw [← hw1] at B K h1 ho1 L1 ⊢
  rw [← hN] at B K ⊢
  have HN : Hid (N = w.heap.size) := hN
  clear hw1 hN
  have A1 : Below w1.heap.size w1 w1 := Below.refl _ _
  have S1 := h1
  have K1 := K
  have B1 := B
  clear h1 K B
  refine (fUintI w1 ao n cap o.kind _ S1 (by omega) kd0 (by omega)).mono ?_
  rintro e w2 ⟨b2, m2, c2, rfl, S2, C⟩
  have K2 := K1.keep C
  have B2 := B1.trans (C.mono (by have := B1.size; have := K1.lt; omega))
  have A2 := A1.trans (C.mono A1.size)
  have l2 := S2.len
  simp only [List.length_append] at l2
  clear C K1 B1 A1 S1
  obtain ⟨q0, q1, q2, q3, q4, q5, q6, q7, q8, q9⟩ := K2.cs
  go_wp2_with fail
  clear q0 q1 q2 q3 q4 q5 q6 q7 q8 q9
  refine (pkey_any w2 b2 m2 c2 _ S2 (by omega) o.key hkf).mono ?_
  rintro e w3 ⟨b3, m3, c3, rfl, S3, C⟩
  have K3 := K2.keep C
  have B3 := B2.trans (C.mono (by have := B2.size; have := K2.lt; omega))
  have A3 := A2.trans (C.mono A2.size)
  have l3 := S3.len
  simp only [List.length_append] at l3
  clear C K2 B2 A2 S2
  obtain ⟨q0, q1, q2, q3, q4, q5, q6, q7, q8, q9⟩ := K3.cs
  go_wp2_with fail
  clear q0 q1 q2 q3 q4 q5 q6 q7 q8 q9
  obtain ⟨g, hg⟩ : ∃ g, g = w3.heap.size := ⟨_, rfl⟩
  obtain ⟨v3, hv3⟩ : ∃ V, V = w3.alloc (.cells #[.string o.to] 9) := ⟨_, rfl⟩
  have U3 : Below w3.heap.size w3 v3 := by rw [hv3]; exact (Below.refl _ _).alloc (Nat.le_refl _) _
  have hc : ∀ i (hi : i < [o.to].length), v3.cell? ⟨g, i, none⟩ = some (.string [o.to][i]) := fun i hi => by
    rw [hv3, hg, cell_of_row _ w3.heap.size i #[.string o.to] 9 (0, 0) (heap_alloc_new w3 _)]
    have hi : i < 1 := hi
    obtain rfl : i = 0 := by omega
    rfl
  have T3 := S3.below U3
  have h32 : ∀ s ∈ [o.to], s.size ≤ 32 := by
    intro s hs
    rw [List.mem_singleton.1 hs]
    exact lt
  rw [← hv3, ← hg]
  clear hv3 hg
  refine (ptexts_any v3 b3 m3 c3 _ T3 (by omega) g [o.to] hc (by show 1 ≤ 3; omega) h32).mono ?_
  rintro e w4 ⟨b4, m4, c4, rfl, S4, C⟩
  rw [show ([o.to].map txt).flatten = txt o.to from by simp] at S4
  have C := U3.trans (C.mono U3.size)
  clear U3 T3 hc h32
  have K4 := K3.keep C
  have B4 := B3.trans (C.mono (by have := B3.size; have := K3.lt; omega))
  have A4 := A3.trans (C.mono A3.size)
  have l4 := S4.len
  simp only [List.length_append] at l4
  clear C K3 B3 A3 S3
  obtain ⟨q0, q1, q2, q3, q4, q5, q6, q7, q8, q9⟩ := K4.cs
  go_wp2_with fail
  clear q0 q1 q2 q3 q4 q5 q6 q7 q8 q9
  refine (fBytes w4 b4 _ m4 c4 _ _ _ _ S4 (ho1.below A4).va (by omega) (by have := ho1.va.len; omega)).mono ?_
  rintro e w5 ⟨b5, m5, c5, rfl, S5, C⟩
  have K5 := K4.keep C
  have B5 := B4.trans (C.mono (by have := B4.size; have := K4.lt; omega))
  have A5 := A4.trans (C.mono A4.size)
  have l5 := S5.len
  simp only [List.length_append] at l5
  clear C K4 B4 A4 S4
  obtain ⟨q0, q1, q2, q3, q4, q5, q6, q7, q8, q9⟩ := K5.cs
  go_wp2_with fail
  clear q0 q1 q2 q3 q4 q5 q6 q7 q8 q9
  refine (fBytes w5 b5 _ m5 c5 _ _ _ _ S5 (ho1.below A5).wa (by omega) (by have := ho1.wa.len; omega)).mono ?_
  rintro e w6 ⟨b6, m6, c6, rfl, S6, C⟩
  have K6 := K5.keep C
  have B6 := B5.trans (C.mono (by have := B5.size; have := K5.lt; omega))
  have A6 := A5.trans (C.mono A5.size)
  have l6 := S6.len
  simp only [List.length_append] at l6
  clear C K5 B5 A5 S5
  obtain ⟨q0, q1, q2, q3, q4, q5, q6, q7, q8, q9⟩ := K6.cs
  go_wp2_with fail
  clear q0 q1 q2 q3 q4 q5 q6 q7 q8 q9
  refine (fBool w6 b6 m6 c6 o.has _ S6 (by omega)).mono ?_
  rintro e w7 ⟨b7, m7, c7, rfl, S7, C⟩
  have K7 := K6.keep C
  have B7 := B6.trans (C.mono (by have := B6.size; have := K6.lt; omega))
  have A7 := A6.trans (C.mono A6.size)
  have l7 := S7.len
  simp only [List.length_append] at l7
  clear C K6 B6 A6 S6
  obtain ⟨q0, q1, q2, q3, q4, q5, q6, q7, q8, q9⟩ := K7.cs
  go_wp2_with fail
  clear q0 q1 q2 q3 q4 q5 q6 q7 q8 q9
  refine (fUint w7 b7 m7 c7 o.sn _ S7 (by omega) (by omega)).mono ?_
  rintro e w8 ⟨b8, m8, c8, rfl, S8, C⟩
  have K8 := K7.keep C
  have B8 := B7.trans (C.mono (by have := B7.size; have := K7.lt; omega))
  have A8 := A7.trans (C.mono A7.size)
  have l8 := S8.len
  simp only [List.length_append] at l8
  clear C K7 B7 A7 S7
  have hS : xs ++ enc o.kind.toNat ++ putK o.key ++ txt o.to ++ byts o.va.xs ++ byts o.wa.xs ++ enb o.has ++ enc o.sn = xs ++ putS o.s l.length := by
    unfold putS putK OA.key OA.s
    rw [hl]
    simp only [List.append_assoc]
  rw [hS] at S8
  have L8 := L1.below A8
  have m8b : m8 ≤ M + 2000 := by omega
  clear l2 l3 l4 l5 l6 l7 l8 g0 g1 g2 g3 g4 g5 g6 L1 ho1 A8 hS lv lw lt hkf kd0 kd1
  obtain ⟨q0, q1, q2, q3, q4, q5, q6, q7, q8, q9⟩ := K8.cs
  have hs8 := B8.size
  go_wp2_with fail
  clear q0 q1 q2 q3 q4 q5 q6 q7 q8 q9 K8
  go_loopw [0, 6, 42] (fun b _ i wr => ∃ (k : Nat) (bo : Option Addr) (m c : Nat), k ≤ o.sn ∧ i = .int .i64 k ∧ b = .slice bo m c ∧ Sl wr bo m c (xs ++ putS o.s l.length ++ ((l.take k).map fun x => putS x.s 0).flatten) ∧ m ≤ m8 + 800 * k ∧ Below N w wr ∧ Below w8.heap.size w8 wr) (fun _ _ i _ => o.sn - (intOf i).toNat)
  case atStart => exact ⟨0, b8, m8, c8, Nat.zero_le _, rfl, rfl, by simpa using S8, by omega, B8, Below.refl _ _⟩
  case round =>
    clear S8 B8
    obtain ⟨k, bo, m, c, hk, rfl, rfl, S, hm, B, C⟩ := hrel
    by_cases hlt : k < o.sn
    · obtain ⟨b, off, ea, hc⟩ := L8.at (by omega)
      have hkl : k < l.length := by omega
      have X := (hc k hkl).below C
      have hok : (l[k]).ok wr := (L8.ok _ (List.getElem_mem hkl)).below C
      have hmem := List.getElem_mem hkl
      have i6 : (k : Int) < (o.sn : Int) := by omega
      have HT : Hid (((l.take (k + 1)).map fun x => putS x.s 0).flatten = ((l.take k).map fun x => putS x.s 0).flatten ++ putS l[k].s 0) := by
        show _ = _
        rw [List.take_succ_eq_append_getElem hkl, List.map_append, List.flatten_append]
        simp
      have HF := putS_len (n := 0) (hlf _ hmem) (by omega)
      have hrec := rec
      obtain ⟨x, hx⟩ : ∃ x : OA, x = l[k] := ⟨_, rfl⟩
      have X : OX wr b (off + k * 10) x := by rw [hx]; exact X
      obtain ⟨p, hp⟩ : ∃ p, p = ((l.take k).map fun x => putS x.s 0).flatten := ⟨_, rfl⟩
      rw [← hx] at hok HT HF hmem
      rw [← hp] at S HT
      have Bx : Below wr.heap.size wr (wr.alloc (Obj.cells x.cells.toArray 28)) := (Below.refl _ _).alloc (Nat.le_refl _) _
      have hm2 : m ≤ M + 10000 := by omega
      have CR := (hrec _ bo m c _ x hmem (S.below Bx) hm2 (hok.below Bx))
      clear hp hx hc hrec
      rw [ea]
      clear ea
      obtain ⟨q0, q1, q2, q3, q4, q5, q6, q7, q8, q9⟩ := X
      unfold OA.cells at Bx CR
      have lS := S.len
      clear S
      go_wp2_with (go_at_call 29; refine CR.mono ?_; rintro e w9 ⟨b9, m9, c9, rfl, S9, C9⟩; have E9 := Bx.trans (C9.mono Bx.size); have B9 := B.trans (E9.mono (by have := B.size; have := HN.out; omega)); have D9 := C.trans (E9.mono C.size); have l9 := S9.len)
      have hm9 : m9 ≤ m8 + 800 * (k + 1) := by
        simp only [List.length_append] at l9 lS
        omega
      go_roundw
      case rel => exact ⟨k + 1, b9, m9, c9, by omega, by go_num, rfl, by rw [HT.out, ← List.append_assoc]; exact S9, hm9, B9, D9⟩
      case measure => simp [intOf]; omega
    · have i6 : (o.sn : Int) ≤ (k : Int) := by omega
      rw [List.take_of_length_le (by omega), List.append_assoc] at S
      go_wp2
      go_ret
      exact ⟨bo, m, c, rfl, S, by rw [← HN.out]; exact B⟩
end Go.Proofs.Ytbfcilfdeemnpaa

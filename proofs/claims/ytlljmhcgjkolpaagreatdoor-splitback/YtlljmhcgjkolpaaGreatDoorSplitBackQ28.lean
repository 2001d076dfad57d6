/-
  Texts in one: PForm7.
-/
import Derived.Test.YtlljmhcgjkolpaaGreatDoorSplitBackQ27
import Derived.Test.YtlljmhcgjkolpaaGreatDoorSplitBackQ2
import Derived.Lib.SlBytesConst
namespace Go.Proofs.YtlljmhcgjkolpaaGreatDoor
open Go.RowKit
def bf (x : List Int) : List Int := enc x.length ++ x
def formTo (keys sums kids : List (List Int)) (n : Nat) : List Int := (List.range n).flatMap fun i => bf (keys.getD i []) ++ (bf (sums.getD i []) ++ bf (kids.getD (i + 1) []))
def nodeL : List Int := [110, 111, 100, 101]
def formH (L : Nat) (n : Nat) (kids : List (List Int)) : List Int := bf nodeL ++ enc L ++ enc n ++ bf (kids.getD 0 [])
def formN (L : Nat) (keys sums kids : List (List Int)) : List Int := formH L keys.length kids ++ formTo keys sums kids keys.length
theorem formTo_succ (keys sums kids : List (List Int)) (n : Nat) : formTo keys sums kids (n + 1) = formTo keys sums kids n ++ (bf (keys.getD n []) ++ (bf (sums.getD n []) ++ bf (kids.getD (n + 1) []))) := by
  unfold formTo
  rw [List.range_succ, List.flatMap_append]
  simp
theorem formTo_le (keys sums kids : List (List Int)) : ∀ (n m : Nat), n ≤ m → (formTo keys sums kids n).length ≤ (formTo keys sums kids m).length
  | n, 0, h => by
    obtain rfl : n = 0 := by omega
    exact Nat.le_refl _
  | n, m + 1, h => by
    rcases Nat.eq_or_lt_of_le h with rfl | h
    · exact Nat.le_refl _
    · have := formTo_le keys sums kids n m (by omega)
      rw [formTo_succ, List.length_append]
      omega
theorem bf_byte {x : List Int} (h : Byt x) (hl : x.length < 18446744073709551616) : Byt (bf x) := Byt.append (enc_byte hl) h
theorem getD_byte {l : List (List Int)} (h : ∀ x ∈ l, Byt x) (i : Nat) : Byt (l.getD i []) := by
  by_cases hi : i < l.length
  · simp only [List.getD, List.getElem?_eq_getElem hi, Option.getD_some]
    exact h _ (List.getElem_mem hi)
  · simp only [List.getD, List.getElem?_eq_none (Nat.le_of_not_lt hi), Option.getD_none]
    intro y hy
    simp at hy
theorem PL.byte {w : World} {ao : Option Addr} {n cap : Nat} {ps : List Part} (h : PL w ao n cap ps) (i : Nat) : Byt ((pxs ps).getD i []) := getD_byte (fun x hx => by obtain ⟨q, hq, rfl⟩ := List.mem_map.1 hx; exact (h.sl q hq).byte) i
theorem nodeL_byte : Byt nodeL := by
  intro x hx
  simp [nodeL] at hx
  omega
theorem Sl.ofOwn7 {w : World} {base : Nat} {ao : Option Addr} {n cap : Nat} {xs : List Int} (h : w.ownsRow base 5 1 (.slice ao n cap) n (bv xs)) (hb : Byt xs) : Sl w ao n cap xs := by
  obtain ⟨ao', cap', e, S, -⟩ := Sl.own h hb
  injection e with h1 h2 h3
  subst h1 h3
  exact S
theorem box_set {w : World} {p base b0 : Nat} {t e : TypeId} {v v' : Value} {size m : Nat} {ys : List Value} (h : Arr w p t [v]) (hte : t ≠ e) (hr : w.ownsRow base e size v' m ys) (hp : b0 ≤ p) :
    Arr (w.setCell ⟨p, 0, none⟩ v') p t [v'] ∧ (w.setCell ⟨p, 0, none⟩ v').ownsRow base e size v' m ys ∧ Below b0 w (w.setCell ⟨p, 0, none⟩ v') :=
  ⟨h.set 0 v', hr.kept (row := some p) (grown_set (a := w) (b := w) ⟨rfl, rfl, rfl, Nat.le_refl _, fun _ _ _ => rfl⟩ 0 v') (.inr (arr_not_row h hte hr)), (Below.refl _ _).setCell hp v'⟩
set_option maxHeartbeats 4000000 in
set_option maxRecDepth 100000 in
theorem form_any (w : World) (L : Nat) (ko so co : Option Addr) (kn kc sn sc cn cc : Nat) (ks ss cs : List Part) (hK : PL w ko kn kc ks) (hS : PL w so sn sc ss) (hC : PL w co cn cc cs) (hL : L ≤ 9223372036854775807) (hkn : kn ≤ 1000000) (hsn : sn ≤ 1000000) (hcn : cn ≤ 1000000)
    (hF : (formN L (pxs ks) (pxs ss) (pxs cs)).length ≤ 1000000000) :
    Calls Tryz.prog 170 #[.int .i64 L, .slice ko kn kc, .slice so sn sc, .slice co cn cc] w fun e w' => ∃ v, e = .returned v ∧ w'.ownsRow w.heap.size 5 1 v (formN L (pxs ks) (pxs ss) (pxs cs)).length (bv (formN L (pxs ks) (pxs ss) (pxs cs))) ∧ Below w.heap.size w w' := by
  have hkl := hK.len
  have B0 : Below w.heap.size w (w.alloc (.cells (bv nodeL).toArray 5 (4, 5))) := (Below.refl _ w).alloc (Nat.le_refl _) _
  have S0 := Sl.const w nodeL (4, 5) nodeL_byte (by simp [nodeL, maxLen])
  have kc0 := Lib.run_convert_bytes_const (P := Tryz.prog) w 25 5 #[.int .u8 110, .int .u8 111, .int .u8 100, .int .u8 101] 4 4 Tryz.underlying25 Tryz.underlying5
  have hLi : (L : Int) ≤ 9223372036854775807 := by omega
  have hLw : IntKind.u64.wrap (L : Int) = L := by simp [IntKind.wrap, IntKind.bits, IntKind.signed]; omega
  have hkw : IntKind.u64.wrap (kn : Int) = kn := by simp [IntKind.wrap, IntKind.bits, IntKind.signed]; omega
  go_enter Tryz.func170, Tryz.ntmps170
  go_wp2_with fail
  refine (wBytes_any _ none _ 0 0 4 4 [] nodeL (Sl.nothing _) S0 (by omega)).mono ?_
  rintro e w1 ⟨v1, rfl, o1, C1⟩
  clear kc0 S0
  simp only [Nat.zero_add, List.nil_append] at o1
  have hb1 : Byt (enc 4 ++ nodeL) := Byt.append (enc_byte (by omega)) nodeL_byte
  obtain ⟨f1, c1, rfl, -, -⟩ := Sl.own o1 hb1
  have B1 : Below w.heap.size w w1 := B0.trans (C1.mono B0.size)
  have o1 := own_base o1 B0.size
  have s1 := B1.size
  clear B0 C1
  obtain ⟨W1, hW1⟩ : ∃ W, W = w1.alloc (.cells #[.slice f1 ((enc 4).length + 4) c1] 25) := ⟨_, rfl⟩
  have a1 : Arr W1 w1.heap.size 25 [.slice f1 ((enc 4).length + 4) c1] := by rw [hW1]; exact heap_alloc_new w1 _
  have D1 : Below w1.heap.size w1 W1 := by rw [hW1]; exact (Below.refl _ w1).alloc (Nat.le_refl _) _
  have o2 := own_below o1 D1
  have S1 := Sl.ofOwn7 o2 hb1
  have E1 := B1.trans (D1.mono s1)
  have e4 := enc_length (n := 4) (by omega)
  go_wp2_with fail
  rw [← hW1]
  obtain ⟨p, hp⟩ : ∃ p, p = w1.heap.size := ⟨_, rfl⟩
  rw [← hp] at a1 ⊢
  have hpw : w.heap.size ≤ p := by omega
  have hpl : p < W1.heap.size := a1.lt
  clear hW1 o1 B1 D1 hp s1
  refine (wUint_any W1 f1 ((enc 4).length + 4) c1 L (enc 4 ++ nodeL) S1 (by omega) (by omega)).mono ?_
  rintro e w2 ⟨v2, rfl, o3, C2⟩
  have eL := enc_length (n := L) (by omega)
  have hb2 : Byt ((enc 4 ++ nodeL) ++ enc L) := Byt.append hb1 (enc_byte (by omega))
  obtain ⟨f2, c2, rfl, -, -⟩ := Sl.own o3 hb2
  have a2 := arr_below a1 C2
  have s2 := C2.size
  obtain ⟨a3, o4, D3⟩ := box_set (b0 := w.heap.size) a2 (by decide) o3 hpw
  have E2 := (E1.trans (C2.mono E1.size)).trans D3
  have z1 := a2.cell 0
  have z2 := a2.free 0
  have z3 := a3.cell 0
  have S2 := Sl.ofOwn7 o4 hb2
  clear o2 S1 o3 C2 a1 E1 D3 a2
  go_wp2_with fail
  obtain ⟨W2, hW2⟩ : ∃ W, W = w2.setCell ⟨p, 0, none⟩ (.slice f2 ((enc 4).length + 4 + (enc L).length) c2) := ⟨_, rfl⟩
  rw [← hW2] at a3 o4 E2 z3 S2 ⊢
  have hpl2 : p < W2.heap.size := a3.lt
  clear hW2 z1 z2
  refine (wUint_any W2 f2 ((enc 4).length + 4 + (enc L).length) c2 kn (enc 4 ++ nodeL ++ enc L) S2 (by omega) (by omega)).mono ?_
  rintro e w3 ⟨v3, rfl, o5, C3⟩
  have eK := enc_length (n := kn) (by omega)
  have hb3 : Byt ((enc 4 ++ nodeL ++ enc L) ++ enc kn) := Byt.append hb2 (enc_byte (by omega))
  obtain ⟨f3, c3, rfl, -, -⟩ := Sl.own o5 hb3
  have a4 := arr_below a3 C3
  have s3 := C3.size
  obtain ⟨a5, o6, D4⟩ := box_set (b0 := w.heap.size) a4 (by decide) o5 hpw
  have E3 := (E2.trans (C3.mono E2.size)).trans D4
  have z1 := a4.cell 0
  have z2 := a4.free 0
  have o6 := own_base o6 (Nat.le_trans E2.size (Nat.le_refl _))
  clear o4 S2 o5 C3 a3 E2 D4 a4 z3
  obtain ⟨W3, hW3⟩ : ∃ W, W = w3.setCell ⟨p, 0, none⟩ (.slice f3 ((enc 4).length + 4 + (enc L).length + (enc kn).length) c3) := ⟨_, rfl⟩
  rw [← hW3] at a5 o6 E3
  have CA := at_any W3 co cn cc 0 cs (hC.below E3) hcn (by omega)
  go_wp2_with fail
  rw [← hW3]
  clear hW3 z1 z2
  refine CA.mono ?_
  rintro e w' ⟨qo, qn, qc, rfl, Q1, hq1, hw'⟩
  obtain rfl := hw'.symm
  clear CA
  obtain ⟨KX, hKX⟩ : ∃ X, X = pxs ks := ⟨_, rfl⟩
  obtain ⟨SX, hSX⟩ : ∃ X, X = pxs ss := ⟨_, rfl⟩
  obtain ⟨CX, hCX⟩ : ∃ X, X = pxs cs := ⟨_, rfl⟩
  have hKl : KX.length = kn := by rw [hKX, pxs_len, hkl]
  have HF : Hid (formN L (pxs ks) (pxs ss) (pxs cs) = formH L kn CX ++ formTo KX SX CX kn) := by
    show _ = _
    rw [← hKX, ← hSX, ← hCX, formN, hKl]
  have hF2 := hF
  rw [HF.out, List.length_append] at hF2
  have hq0 : qn = (CX.getD 0 []).length := by rw [← Q1.len, hCX]; rfl
  have hFH : (formH L kn CX).length = (enc 4).length + 4 + (enc L).length + (enc kn).length + ((enc qn).length + qn) := by
    rw [hq0]
    simp only [formH, bf, nodeL, List.length_append, List.length_cons, List.length_nil]
  have HE : Hid (enc 4 ++ nodeL ++ enc L ++ enc kn ++ (enc qn ++ (cs.map Part.xs).getD 0 []) = formH L kn CX) := by
    show _ = _
    rw [hq0, hCX]
    simp only [formH, bf]
    rfl
  have CB := putF_any W3 p w.heap.size _ _ (enc 4 ++ nodeL ++ enc L ++ enc kn) a5 o6 hpw E3.size qo qn qc _ Q1 (by omega) hb3
  clear hF hq0 a5 o6
  go_wp2_with fail
  refine CB.mono ?_
  rintro e w4 ⟨⟨u4, rfl⟩, v4, a6, o7, C4⟩
  rw [HE.out, ← hFH] at o7
  have E4 := E3.trans C4
  clear CB HE Q1 hFH
  have hFb : Byt (formH L kn CX) := by
    unfold formH
    exact Byt.append (Byt.append (Byt.append (bf_byte nodeL_byte (by decide)) (enc_byte (by omega))) (enc_byte (by omega))) (bf_byte (by rw [hCX]; exact hC.byte 0) (by
      have : (bf (CX.getD 0 [])).length ≤ (formH L kn CX).length := by simp [formH]; omega
      simp only [bf, List.length_append] at this
      omega))
  have hkb : ∀ i, Byt (KX.getD i []) := by rw [hKX]; exact hK.byte
  have hsb : ∀ i, Byt (SX.getD i []) := by rw [hSX]; exact hS.byte
  have hcb : ∀ i, Byt (CX.getD i []) := by rw [hCX]; exact hC.byte
  have HKB : Hid (∀ i, Byt (KX.getD i [])) := hkb
  have HSB : Hid (∀ i, Byt (SX.getD i [])) := hsb
  have HCB : Hid (∀ i, Byt (CX.getD i [])) := hcb
  have HKX : Hid (KX = pxs ks) := hKX
  have HSX : Hid (SX = pxs ss) := hSX
  have HCX : Hid (CX = pxs cs) := hCX
  clear hkb hsb hcb hKX hSX hCX
  go_wp2_with fail
  go_loopw [32] (fun i wr => ∃ (k : Nat) (v : Value), k ≤ kn ∧ i = .int .i64 k ∧ Below w.heap.size w wr ∧ Arr wr p 25 [v] ∧ wr.ownsRow w.heap.size 5 1 v ((formH L kn CX).length + (formTo KX SX CX k).length) (bv (formH L kn CX ++ formTo KX SX CX k)) ∧ Byt (formH L kn CX ++ formTo KX SX CX k)) (fun i _ => kn - (intOf i).toNat)
  case atStart => exact ⟨0, v4, Nat.zero_le _, rfl, E4, a6, by simpa [formTo] using o7, by simpa [formTo] using hFb⟩
  case round =>
    clear a6 o7 E4 hFb
    obtain ⟨k, v, hk, rfl, E5, a7, o8, hby⟩ := hrel
    have s5 := E5.size
    have hpl5 : p < wr.heap.size := a7.lt
    by_cases hlt : k < kn
    · have hki : (k : Int) < (kn : Int) := by omega
      have hkl2 : k < ks.length := by omega
      obtain ⟨ab, aof, rfl, hcc⟩ := (hK.below E5).at (by omega)
      have c1 := hcc k hkl2
      have S5 := (hK.below E5).sl ks[k] (List.getElem_mem hkl2)
      have hfs := formTo_succ KX SX CX k
      have hfl := formTo_le KX SX CX (k + 1) kn (by omega)
      rw [hfs] at hfl
      simp only [List.length_append, bf] at hfl
      have HG : Hid (KX.getD k [] = ks[k].xs) := by show _ = _; rw [HKX.out]; simp [pxs, List.getD, hkl2]
      have HFS : Hid (formTo KX SX CX (k + 1) = formTo KX SX CX k ++ (bf (KX.getD k []) ++ (bf (SX.getD k []) ++ bf (CX.getD (k + 1) [])))) := hfs
      have b1 : Byt (bf (KX.getD k [])) := bf_byte (HKB.out k) (by omega)
      have b2 : Byt (bf (SX.getD k [])) := bf_byte (HSB.out k) (by omega)
      have b3 : Byt (bf (CX.getD (k + 1) [])) := bf_byte (HCB.out (k + 1)) (by omega)
      obtain ⟨q, hq⟩ : ∃ q, q = ks[k] := ⟨_, rfl⟩
      rw [← hq] at c1 S5 HG
      have hqn : q.n ≤ 1000000000 := by rw [← S5.len, ← HG.out]; omega
      unfold Part.val at c1
      clear hfs hcc hq
      have CB := putF_any wr p w.heap.size _ _ _ a7 o8 hpw s5 q.ao q.n q.cap q.xs S5 (by omega) hby
      go_wp2_with fail
      refine CB.mono ?_
      rintro e w6 ⟨⟨u6, rfl⟩, v6, a8, o9, C6⟩
      have E6 := E5.trans C6
      have HQ : Hid (enc q.n ++ q.xs = bf (KX.getD k [])) := by show _ = _; rw [bf, HG.out, S5.len]
      have hq6 : (enc q.n).length + q.n = (bf (KX.getD k [])).length := by rw [← HQ.out, List.length_append, S5.len]
      rw [HQ.out, hq6] at o9
      have hby6 := hby.append b1
      clear CB a7 o8 hby C6 S5 hq6
      have CA := at_any w6 so sn sc k ss (hS.below E6) hsn (by omega)
      go_wp2_with fail
      refine CA.mono ?_
      rintro e w' ⟨ro, rn, rc, rfl, R1, hr1, hw'⟩
      obtain rfl := hw'.symm
      have hrx : Hid ((ss.map Part.xs).getD k [] = SX.getD k []) := by show _ = _; rw [HSX.out]; rfl
      rw [hrx.out] at R1
      have hrn : rn = (SX.getD k []).length := R1.len.symm
      have hrn2 : rn ≤ 1000000000 := by omega
      have CB := putF_any w6 p w.heap.size _ _ _ a8 o9 hpw E6.size ro rn rc _ R1 (by simp only [bf, List.length_append]; omega) hby6
      clear CA hr1
      have HR : Hid (enc rn ++ SX.getD k [] = bf (SX.getD k [])) := by show _ = _; rw [bf, hrn]
      have hr6 : (enc rn).length + rn = (bf (SX.getD k [])).length := by rw [← HR.out, List.length_append, ← hrn]
      have HRN : Hid ((enc rn).length + rn = (bf (SX.getD k [])).length) := hr6
      clear hrn hr6
      go_wp2_with fail
      refine CB.mono ?_
      rintro e w7 ⟨⟨u7, rfl⟩, v7, a9, o10, C7⟩
      have E7 := E6.trans C7
      rw [HR.out, HRN.out] at o10
      have hby7 := hby6.append b2
      clear CB a8 o9 hby6 C7 R1
      have CA := at_any w7 co cn cc (k + 1) cs (hC.below E7) hcn (by omega)
      have hkw1 : IntKind.i64.wrap ((k : Int) + 1) = ((k + 1 : Nat) : Int) := by
        simp [IntKind.wrap, IntKind.bits, IntKind.signed]
        omega
      go_wp2_with fail
      refine CA.mono ?_
      rintro e w' ⟨ro2, rn2, rc2, rfl, R2, hr2, hw'⟩
      obtain rfl := hw'.symm
      have hrx2 : Hid ((cs.map Part.xs).getD (k + 1) [] = CX.getD (k + 1) []) := by show _ = _; rw [HCX.out]; rfl
      rw [hrx2.out] at R2
      have hrn3 : rn2 = (CX.getD (k + 1) []).length := R2.len.symm
      have hrn4 : rn2 ≤ 1000000000 := by omega
      have CB := putF_any w7 p w.heap.size _ _ _ a9 o10 hpw E7.size ro2 rn2 rc2 _ R2 (by simp only [bf, List.length_append]; omega) hby7
      clear CA hr2
      have HR2 : Hid (enc rn2 ++ CX.getD (k + 1) [] = bf (CX.getD (k + 1) [])) := by show _ = _; rw [bf, hrn3]
      have hr7 : (enc rn2).length + rn2 = (bf (CX.getD (k + 1) [])).length := by rw [← HR2.out, List.length_append, ← hrn3]
      have HRN2 : Hid ((enc rn2).length + rn2 = (bf (CX.getD (k + 1) [])).length) := hr7
      clear hrn3 hr7
      go_wp2_with fail
      refine CB.mono ?_
      rintro e w8 ⟨⟨u8, rfl⟩, v8, a10, o11, C8⟩
      have E8 := E7.trans C8
      rw [HR2.out, HRN2.out] at o11
      have hby8 := hby7.append b3
      clear CB a9 o10 hby7 C8 R2 hkw1
      go_wp2_with fail
      go_roundw
      case rel =>
        refine ⟨k + 1, v8, by omega, by go_num, E8, a10, ?_, ?_⟩
        · rw [HFS.out]
          simp only [List.length_append, List.append_assoc, Nat.add_assoc] at o11 ⊢
          exact o11
        · rw [HFS.out]
          simp only [List.append_assoc] at hby8 ⊢
          exact hby8
      case measure => simp [intOf]; omega
    · have hge : (kn : Int) ≤ (k : Int) := by omega
      obtain rfl : k = kn := by omega
      have z1 := a7.cell 0
      obtain ⟨f9, c9, rfl, -, -⟩ := Sl.own o8 hby
      go_wp2
      go_ret
      refine ⟨_, rfl, ?_, E5⟩
      rw [HF.out, List.length_append]
      exact o8
end Go.Proofs.YtlljmhcgjkolpaaGreatDoor

/-
  Texts in one: PForm7, HMath, FormL, Own2, SumOfW, HashM, AppR, PFormOf, PRootN, Same, PHash, RAsk7, CText, CBelow, RItems7, RMem7, RDel7, RPut7, RPutW, RFind7, RDel7W, RItems7W, RHex, RefForms.
-/
import Derived.Test.YtnicnfjickknjaaDoorTreePlaysZ4
import Derived.Test.YtnicnfjickknjaaDoorTreePlaysZ1
import Derived.Lib.SlBytesConst
import Derived.Test.YtnicnfjickknjaaDoorTreePlaysZ0
import Derived.Test.YtnicnfjickknjaaDoorTreePlaysZ3
import Derived.Deep.QuietTactic
import Derived.BigQuiet
import Derived.Deep.RegionHeld3
namespace Go.Proofs.YtnicnfjickknjaaDoor
open Go.RowKit

/-- Bytes, as bytes' form. -/
def bf (x : List Int) : List Int := enc x.length ++ x
/-- The form of a node's first n keys. -/
def formTo (keys sums kids : List (List Int)) (n : Nat) : List Int := (List.range n).flatMap fun i => bf (keys.getD i []) ++ (bf (sums.getD i []) ++ bf (kids.getD (i + 1) []))
def nodeL : List Int := [110, 111, 100, 101]
/-- A node's form. -/
def formH (L : Nat) (n : Nat) (kids : List (List Int)) : List Int := bf nodeL ++ enc L ++ enc n ++ bf (kids.getD 0 [])
def formN (L : Nat) (keys sums kids : List (List Int)) : List Int := formH L keys.length kids ++ formTo keys sums kids keys.length
theorem formTo_succ (keys sums kids : List (List Int)) (n : Nat) : formTo keys sums kids (n + 1) = formTo keys sums kids n ++ (bf (keys.getD n []) ++ (bf (sums.getD n []) ++ bf (kids.getD (n + 1) []))) := by
  unfold formTo
  rw [List.range_succ, List.flatMap_append]
  simp
theorem formTo_le (keys sums kids : List (List Int)) : ∀ (n m : Nat), n ≤ m → (formTo keys sums kids n).length ≤ (formTo keys sums kids m).length
  | n, 0, h => by
    obtain rfl : n = 0 := by omega
    exact Nat.le_refl _
  | n, m + 1, h => by
    rcases Nat.eq_or_lt_of_le h with rfl | h
    · exact Nat.le_refl _
    · have := formTo_le keys sums kids n m (by omega)
      rw [formTo_succ, List.length_append]
      omega
theorem bf_byte {x : List Int} (h : Byt x) (hl : x.length < 18446744073709551616) : Byt (bf x) := Byt.append (enc_byte hl) h
theorem getD_byte {l : List (List Int)} (h : ∀ x ∈ l, Byt x) (i : Nat) : Byt (l.getD i []) := by
  by_cases hi : i < l.length
  · simp only [List.getD, List.getElem?_eq_getElem hi, Option.getD_some]
    exact h _ (List.getElem_mem hi)
  · simp only [List.getD, List.getElem?_eq_none (Nat.le_of_not_lt hi), Option.getD_none]
    intro y hy
    simp at hy
theorem PL.byte {w : World} {ao : Option Addr} {n cap : Nat} {ps : List Part} (h : PL w ao n cap ps) (i : Nat) : Byt ((pxs ps).getD i []) := getD_byte (fun x hx => by obtain ⟨q, hq, rfl⟩ := List.mem_map.1 hx; exact (h.sl q hq).byte) i

theorem nodeL_byte : Byt nodeL := by
  intro x hx
  simp [nodeL] at hx
  omega

theorem Sl.ofOwn7 {w : World} {base : Nat} {ao : Option Addr} {n cap : Nat} {xs : List Int} (h : w.ownsRow base 5 1 (.slice ao n cap) n (bv xs)) (hb : Byt xs) : Sl w ao n cap xs := by
  obtain ⟨ao', cap', e, S, -⟩ := Sl.own h hb
  injection e with h1 h2 h3
  subst h1 h3
  exact S
/-- A box's new value. -/
theorem box_set {w : World} {p base b0 : Nat} {t e : TypeId} {v v' : Value} {size m : Nat} {ys : List Value} (h : Arr w p t [v]) (hte : t ≠ e) (hr : w.ownsRow base e size v' m ys) (hp : b0 ≤ p) :
    Arr (w.setCell ⟨p, 0, none⟩ v') p t [v'] ∧ (w.setCell ⟨p, 0, none⟩ v').ownsRow base e size v' m ys ∧ Below b0 w (w.setCell ⟨p, 0, none⟩ v') :=
  ⟨h.set 0 v', hr.kept (row := some p) (grown_set (a := w) (b := w) ⟨rfl, rfl, rfl, Nat.le_refl _, fun _ _ _ => rfl⟩ 0 v') (.inr (arr_not_row h hte hr)), (Below.refl _ _).setCell hp v'⟩

set_option maxHeartbeats 4000000 in
set_option maxRecDepth 100000 in
theorem form_any (w : World) (L : Nat) (ko so co : Option Addr) (kn kc sn sc cn cc : Nat) (ks ss cs : List Part) (hK : PL w ko kn kc ks) (hS : PL w so sn sc ss) (hC : PL w co cn cc cs) (hL : L ≤ 9223372036854775807) (hkn : kn ≤ 1000000) (hsn : sn ≤ 1000000) (hcn : cn ≤ 1000000)
    (hF : (formN L (pxs ks) (pxs ss) (pxs cs)).length ≤ 1000000000) :
    Calls Tryd.prog 88 #[.int .i64 L, .slice ko kn kc, .slice so sn sc, .slice co cn cc] w fun e w' => ∃ v, e = .returned v ∧ w'.ownsRow w.heap.size 5 1 v (formN L (pxs ks) (pxs ss) (pxs cs)).length (bv (formN L (pxs ks) (pxs ss) (pxs cs))) ∧ Below w.heap.size w w' := by
  have hkl := hK.len
  have B0 : Below w.heap.size w (w.alloc (.cells (bv nodeL).toArray 5 (4, 5))) := (Below.refl _ w).alloc (Nat.le_refl _) _
  have S0 := Sl.const w nodeL (4, 5) nodeL_byte (by simp [nodeL, maxLen])
  have kc0 := Lib.run_convert_bytes_const (P := Tryd.prog) w 23 5 #[.int .u8 110, .int .u8 111, .int .u8 100, .int .u8 101] 4 4 Tryd.underlying23 Tryd.underlying5
  have hLi : (L : Int) ≤ 9223372036854775807 := by omega
  have hLw : IntKind.u64.wrap (L : Int) = L := by simp [IntKind.wrap, IntKind.bits, IntKind.signed]; omega
  have hkw : IntKind.u64.wrap (kn : Int) = kn := by simp [IntKind.wrap, IntKind.bits, IntKind.signed]; omega
  go_enter Tryd.func88, Tryd.ntmps88
  go_wp2_with fail
  refine (wBytes_any _ none _ 0 0 4 4 [] nodeL (Sl.nothing _) S0 (by omega)).mono ?_
  rintro e w1 ⟨v1, rfl, o1, C1⟩
  clear kc0 S0
  simp only [Nat.zero_add, List.nil_append] at o1
  have hb1 : Byt (enc 4 ++ nodeL) := Byt.append (enc_byte (by omega)) nodeL_byte
  obtain ⟨f1, c1, rfl, -, -⟩ := Sl.own o1 hb1
  have B1 : Below w.heap.size w w1 := B0.trans (C1.mono B0.size)
  have o1 := own_base o1 B0.size
  have s1 := B1.size
  clear B0 C1
  obtain ⟨W1, hW1⟩ : ∃ W, W = w1.alloc (.cells #[.slice f1 ((enc 4).length + 4) c1] 23) := ⟨_, rfl⟩
  have a1 : Arr W1 w1.heap.size 23 [.slice f1 ((enc 4).length + 4) c1] := by rw [hW1]; exact heap_alloc_new w1 _
  have D1 : Below w1.heap.size w1 W1 := by rw [hW1]; exact (Below.refl _ w1).alloc (Nat.le_refl _) _
  have o2 := own_below o1 D1
  have S1 := Sl.ofOwn7 o2 hb1
  have E1 := B1.trans (D1.mono s1)
  have e4 := enc_length (n := 4) (by omega)
  go_wp2_with fail
  rw [← hW1]
  obtain ⟨p, hp⟩ : ∃ p, p = w1.heap.size := ⟨_, rfl⟩
  rw [← hp] at a1 ⊢
  have hpw : w.heap.size ≤ p := by omega
  have hpl : p < W1.heap.size := a1.lt
  clear hW1 o1 B1 D1 hp s1
  refine (wUint_any W1 f1 ((enc 4).length + 4) c1 L (enc 4 ++ nodeL) S1 (by omega) (by omega)).mono ?_
  rintro e w2 ⟨v2, rfl, o3, C2⟩
  have eL := enc_length (n := L) (by omega)
  have hb2 : Byt ((enc 4 ++ nodeL) ++ enc L) := Byt.append hb1 (enc_byte (by omega))
  obtain ⟨f2, c2, rfl, -, -⟩ := Sl.own o3 hb2
  have a2 := arr_below a1 C2
  have s2 := C2.size
  obtain ⟨a3, o4, D3⟩ := box_set (b0 := w.heap.size) a2 (by decide) o3 hpw
  have E2 := (E1.trans (C2.mono E1.size)).trans D3
  have z1 := a2.cell 0
  have z2 := a2.free 0
  have z3 := a3.cell 0
  have S2 := Sl.ofOwn7 o4 hb2
  clear o2 S1 o3 C2 a1 E1 D3 a2
  go_wp2_with fail
  obtain ⟨W2, hW2⟩ : ∃ W, W = w2.setCell ⟨p, 0, none⟩ (.slice f2 ((enc 4).length + 4 + (enc L).length) c2) := ⟨_, rfl⟩
  rw [← hW2] at a3 o4 E2 z3 S2 ⊢
  have hpl2 : p < W2.heap.size := a3.lt
  clear hW2 z1 z2
  refine (wUint_any W2 f2 ((enc 4).length + 4 + (enc L).length) c2 kn (enc 4 ++ nodeL ++ enc L) S2 (by omega) (by omega)).mono ?_
  rintro e w3 ⟨v3, rfl, o5, C3⟩
  have eK := enc_length (n := kn) (by omega)
  have hb3 : Byt ((enc 4 ++ nodeL ++ enc L) ++ enc kn) := Byt.append hb2 (enc_byte (by omega))
  obtain ⟨f3, c3, rfl, -, -⟩ := Sl.own o5 hb3
  have a4 := arr_below a3 C3
  have s3 := C3.size
  obtain ⟨a5, o6, D4⟩ := box_set (b0 := w.heap.size) a4 (by decide) o5 hpw
  have E3 := (E2.trans (C3.mono E2.size)).trans D4
  have z1 := a4.cell 0
  have z2 := a4.free 0
  have o6 := own_base o6 (Nat.le_trans E2.size (Nat.le_refl _))
  clear o4 S2 o5 C3 a3 E2 D4 a4 z3
  obtain ⟨W3, hW3⟩ : ∃ W, W = w3.setCell ⟨p, 0, none⟩ (.slice f3 ((enc 4).length + 4 + (enc L).length + (enc kn).length) c3) := ⟨_, rfl⟩
  rw [← hW3] at a5 o6 E3
  have CA := at_any W3 co cn cc 0 cs (hC.below E3) hcn (by omega)
  go_wp2_with fail
  rw [← hW3]
  clear hW3 z1 z2
  refine CA.mono ?_
  rintro e w' ⟨qo, qn, qc, rfl, Q1, hq1, hw'⟩
  obtain rfl := hw'.symm
  clear CA
  obtain ⟨KX, hKX⟩ : ∃ X, X = pxs ks := ⟨_, rfl⟩
  obtain ⟨SX, hSX⟩ : ∃ X, X = pxs ss := ⟨_, rfl⟩
  obtain ⟨CX, hCX⟩ : ∃ X, X = pxs cs := ⟨_, rfl⟩
  have hKl : KX.length = kn := by rw [hKX, pxs_len, hkl]
  have HF : Hid (formN L (pxs ks) (pxs ss) (pxs cs) = formH L kn CX ++ formTo KX SX CX kn) := by
    show _ = _
    rw [← hKX, ← hSX, ← hCX, formN, hKl]
  have hF2 := hF
  rw [HF.out, List.length_append] at hF2
  have hq0 : qn = (CX.getD 0 []).length := by rw [← Q1.len, hCX]; rfl
  have hFH : (formH L kn CX).length = (enc 4).length + 4 + (enc L).length + (enc kn).length + ((enc qn).length + qn) := by
    rw [hq0]
    simp only [formH, bf, nodeL, List.length_append, List.length_cons, List.length_nil]
  have HE : Hid (enc 4 ++ nodeL ++ enc L ++ enc kn ++ (enc qn ++ (cs.map Part.xs).getD 0 []) = formH L kn CX) := by
    show _ = _
    rw [hq0, hCX]
    simp only [formH, bf]
    rfl
  have CB := put_any W3 p w.heap.size _ _ (enc 4 ++ nodeL ++ enc L ++ enc kn) a5 o6 hpw E3.size qo qn qc _ Q1 (by omega) hb3
  clear hF hq0 a5 o6
  go_wp2_with fail
  refine CB.mono ?_
  rintro e w4 ⟨⟨u4, rfl⟩, v4, a6, o7, C4⟩
  rw [HE.out, ← hFH] at o7
  have E4 := E3.trans C4
  clear CB HE Q1 hFH
  have hFb : Byt (formH L kn CX) := by
    unfold formH
    exact Byt.append (Byt.append (Byt.append (bf_byte nodeL_byte (by decide)) (enc_byte (by omega))) (enc_byte (by omega))) (bf_byte (by rw [hCX]; exact hC.byte 0) (by
      have : (bf (CX.getD 0 [])).length ≤ (formH L kn CX).length := by simp [formH]; omega
      simp only [bf, List.length_append] at this
      omega))
  have hkb : ∀ i, Byt (KX.getD i []) := by rw [hKX]; exact hK.byte
  have hsb : ∀ i, Byt (SX.getD i []) := by rw [hSX]; exact hS.byte
  have hcb : ∀ i, Byt (CX.getD i []) := by rw [hCX]; exact hC.byte
  have HKB : Hid (∀ i, Byt (KX.getD i [])) := hkb
  have HSB : Hid (∀ i, Byt (SX.getD i [])) := hsb
  have HCB : Hid (∀ i, Byt (CX.getD i [])) := hcb
  have HKX : Hid (KX = pxs ks) := hKX
  have HSX : Hid (SX = pxs ss) := hSX
  have HCX : Hid (CX = pxs cs) := hCX
  clear hkb hsb hcb hKX hSX hCX
  go_wp2_with fail
  go_loopw [32] (fun i wr => ∃ (k : Nat) (v : Value), k ≤ kn ∧ i = .int .i64 k ∧ Below w.heap.size w wr ∧ Arr wr p 23 [v] ∧ wr.ownsRow w.heap.size 5 1 v ((formH L kn CX).length + (formTo KX SX CX k).length) (bv (formH L kn CX ++ formTo KX SX CX k)) ∧ Byt (formH L kn CX ++ formTo KX SX CX k)) (fun i _ => kn - (intOf i).toNat)
  case atStart => exact ⟨0, v4, Nat.zero_le _, rfl, E4, a6, by simpa [formTo] using o7, by simpa [formTo] using hFb⟩
  case round =>
    clear a6 o7 E4 hFb
    obtain ⟨k, v, hk, rfl, E5, a7, o8, hby⟩ := hrel
    have s5 := E5.size
    have hpl5 : p < wr.heap.size := a7.lt
    by_cases hlt : k < kn
    · have hki : (k : Int) < (kn : Int) := by omega
      have hkl2 : k < ks.length := by omega
      obtain ⟨ab, aof, rfl, hcc⟩ := (hK.below E5).at (by omega)
      have c1 := hcc k hkl2
      have S5 := (hK.below E5).sl ks[k] (List.getElem_mem hkl2)
      have hfs := formTo_succ KX SX CX k
      have hfl := formTo_le KX SX CX (k + 1) kn (by omega)
      rw [hfs] at hfl
      simp only [List.length_append, bf] at hfl
      have HG : Hid (KX.getD k [] = ks[k].xs) := by show _ = _; rw [HKX.out]; simp [pxs, List.getD, hkl2]
      have HFS : Hid (formTo KX SX CX (k + 1) = formTo KX SX CX k ++ (bf (KX.getD k []) ++ (bf (SX.getD k []) ++ bf (CX.getD (k + 1) [])))) := hfs
      have b1 : Byt (bf (KX.getD k [])) := bf_byte (HKB.out k) (by omega)
      have b2 : Byt (bf (SX.getD k [])) := bf_byte (HSB.out k) (by omega)
      have b3 : Byt (bf (CX.getD (k + 1) [])) := bf_byte (HCB.out (k + 1)) (by omega)
      obtain ⟨q, hq⟩ : ∃ q, q = ks[k] := ⟨_, rfl⟩
      rw [← hq] at c1 S5 HG
      have hqn : q.n ≤ 1000000000 := by rw [← S5.len, ← HG.out]; omega
      unfold Part.val at c1
      clear hfs hcc hq
      have CB := put_any wr p w.heap.size _ _ _ a7 o8 hpw s5 q.ao q.n q.cap q.xs S5 (by omega) hby
      go_wp2_with fail
      refine CB.mono ?_
      rintro e w6 ⟨⟨u6, rfl⟩, v6, a8, o9, C6⟩
      have E6 := E5.trans C6
      have HQ : Hid (enc q.n ++ q.xs = bf (KX.getD k [])) := by show _ = _; rw [bf, HG.out, S5.len]
      have hq6 : (enc q.n).length + q.n = (bf (KX.getD k [])).length := by rw [← HQ.out, List.length_append, S5.len]
      rw [HQ.out, hq6] at o9
      have hby6 := hby.append b1
      clear CB a7 o8 hby C6 S5 hq6
      have CA := at_any w6 so sn sc k ss (hS.below E6) hsn (by omega)
      go_wp2_with fail
      refine CA.mono ?_
      rintro e w' ⟨ro, rn, rc, rfl, R1, hr1, hw'⟩
      obtain rfl := hw'.symm
      have hrx : Hid ((ss.map Part.xs).getD k [] = SX.getD k []) := by show _ = _; rw [HSX.out]; rfl
      rw [hrx.out] at R1
      have hrn : rn = (SX.getD k []).length := R1.len.symm
      have hrn2 : rn ≤ 1000000000 := by omega
      have CB := put_any w6 p w.heap.size _ _ _ a8 o9 hpw E6.size ro rn rc _ R1 (by simp only [bf, List.length_append]; omega) hby6
      clear CA hr1
      have HR : Hid (enc rn ++ SX.getD k [] = bf (SX.getD k [])) := by show _ = _; rw [bf, hrn]
      have hr6 : (enc rn).length + rn = (bf (SX.getD k [])).length := by rw [← HR.out, List.length_append, ← hrn]
      have HRN : Hid ((enc rn).length + rn = (bf (SX.getD k [])).length) := hr6
      clear hrn hr6
      go_wp2_with fail
      refine CB.mono ?_
      rintro e w7 ⟨⟨u7, rfl⟩, v7, a9, o10, C7⟩
      have E7 := E6.trans C7
      rw [HR.out, HRN.out] at o10
      have hby7 := hby6.append b2
      clear CB a8 o9 hby6 C7 R1
      have CA := at_any w7 co cn cc (k + 1) cs (hC.below E7) hcn (by omega)
      have hkw1 : IntKind.i64.wrap ((k : Int) + 1) = ((k + 1 : Nat) : Int) := by
        simp [IntKind.wrap, IntKind.bits, IntKind.signed]
        omega
      go_wp2_with fail
      refine CA.mono ?_
      rintro e w' ⟨ro2, rn2, rc2, rfl, R2, hr2, hw'⟩
      obtain rfl := hw'.symm
      have hrx2 : Hid ((cs.map Part.xs).getD (k + 1) [] = CX.getD (k + 1) []) := by show _ = _; rw [HCX.out]; rfl
      rw [hrx2.out] at R2
      have hrn3 : rn2 = (CX.getD (k + 1) []).length := R2.len.symm
      have hrn4 : rn2 ≤ 1000000000 := by omega
      have CB := put_any w7 p w.heap.size _ _ _ a9 o10 hpw E7.size ro2 rn2 rc2 _ R2 (by simp only [bf, List.length_append]; omega) hby7
      clear CA hr2
      have HR2 : Hid (enc rn2 ++ CX.getD (k + 1) [] = bf (CX.getD (k + 1) [])) := by show _ = _; rw [bf, hrn3]
      have hr7 : (enc rn2).length + rn2 = (bf (CX.getD (k + 1) [])).length := by rw [← HR2.out, List.length_append, ← hrn3]
      have HRN2 : Hid ((enc rn2).length + rn2 = (bf (CX.getD (k + 1) [])).length) := hr7
      clear hrn3 hr7
      go_wp2_with fail
      refine CB.mono ?_
      rintro e w8 ⟨⟨u8, rfl⟩, v8, a10, o11, C8⟩
      have E8 := E7.trans C8
      rw [HR2.out, HRN2.out] at o11
      have hby8 := hby7.append b3
      clear CB a9 o10 hby7 C8 R2 hkw1
      go_wp2_with fail
      go_roundw
      case rel =>
        refine ⟨k + 1, v8, by omega, by go_num, E8, a10, ?_, ?_⟩
        · rw [HFS.out]
          simp only [List.length_append, List.append_assoc, Nat.add_assoc] at o11 ⊢
          exact o11
        · rw [HFS.out]
          simp only [List.append_assoc] at hby8 ⊢
          exact hby8
      case measure => simp [intOf]; omega
    · have hge : (kn : Int) ≤ (k : Int) := by omega
      obtain rfl : k = kn := by omega
      have z1 := a7.cell 0
      obtain ⟨f9, c9, rfl, -, -⟩ := Sl.own o8 hby
      go_wp2
      go_ret
      refine ⟨_, rfl, ?_, E5⟩
      rw [HF.out, List.length_append]
      exact o8
end Go.Proofs.YtnicnfjickknjaaDoor

namespace Go.Proofs.YtnicnfjickknjaaDoor
open Go.RowKit

def emptyH : List Int := [101, 109, 112, 116, 121]
/-- The hash of items, no deeper than n. -/
def hashN : Nat → List It → List Int
  | 0, _ => sumL emptyH
  | n + 1, l => if l.isEmpty then sumL emptyH else
    sumL (formN (maxV lev l) ((keysF lev (maxV lev l) l).map It.k) ((keysF lev (maxV lev l) l).map fun x => sumL x.v) ((segsF lev (maxV lev l) l).map (hashN n)))
/-- The hash of items. -/
def hashI (l : List It) : List Int := hashN l.length l
theorem hashI_nil : hashI [] = sumL emptyH := rfl
theorem segs_short (lv : List Int → Nat) (l : List It) (hne : l ≠ []) (s : List It) (hs : s ∈ segsF lv (maxV lv l) l) : s.length < l.length := by
  have hex : ∃ x ∈ l, lv x.k = maxV lv l := by
    clear hs
    induction l with
    | nil => exact absurd rfl hne
    | cons x l ih =>
      by_cases hl : l = []
      · subst hl
        exact ⟨x, List.mem_cons_self .., by simp [maxV]⟩
      · obtain ⟨y, hy, hyl⟩ := ih hl
        by_cases hx : maxV lv l ≤ lv x.k
        · exact ⟨x, List.mem_cons_self .., by simp only [maxV]; omega⟩
        · exact ⟨y, List.mem_cons_of_mem _ hy, by simp only [maxV]; omega⟩
  have hsum : ∀ (L : Nat) (l : List It), (segsF lv L l).flatten.length + (keysF lv L l).length = l.length := by
    intro L l
    induction l with
    | nil => rfl
    | cons x l ih =>
      unfold keysF at ih ⊢
      simp only [segsF]
      by_cases hx : lv x.k = L
      · rw [if_pos hx, List.filter_cons_of_pos (by simpa using hx)]
        simp only [List.flatten_cons, List.nil_append, List.length_cons]
        omega
      · rw [if_neg hx, List.filter_cons_of_neg (by simpa using hx)]
        cases hsg : segsF lv L l with
        | nil =>
          rw [hsg] at ih
          simp only [List.flatten_nil, List.length_nil, List.flatten_cons, List.append_nil, List.length_cons] at ih ⊢
          omega
        | cons t ts =>
          rw [hsg] at ih
          simp only [List.flatten_cons, List.length_append, List.length_cons] at ih ⊢
          omega
  obtain ⟨x, hx, hxl⟩ := hex
  have h1 := hsum (maxV lv l) l
  have h2 : 0 < (keysF lv (maxV lv l) l).length := List.length_pos_of_mem (List.mem_filter.2 ⟨hx, by simpa using hxl⟩)
  have h3 : s.length ≤ (segsF lv (maxV lv l) l).flatten.length := by
    obtain ⟨a, b, e⟩ := List.append_of_mem hs
    rw [e]
    simp only [List.flatten_append, List.flatten_cons, List.length_append]
    omega
  omega
theorem hashN_re : ∀ (n m : Nat) (l : List It), l.length ≤ n → l.length ≤ m → hashN n l = hashN m l
  | 0, 0, _, _, _ => rfl
  | 0, m + 1, l, h, _ => by
    obtain rfl : l = [] := List.eq_nil_of_length_eq_zero (by omega)
    rfl
  | n + 1, 0, l, _, h => by
    obtain rfl : l = [] := List.eq_nil_of_length_eq_zero (by omega)
    rfl
  | n + 1, m + 1, l, h1, h2 => by
    simp only [hashN]
    by_cases he : l.isEmpty = true
    · rw [if_pos he, if_pos he]
    · rw [if_neg he, if_neg he]
      congr 2
      refine List.map_congr_left fun s hs => ?_
      have hlt : s.length < l.length := by
        have hne : l ≠ [] := fun e => he (by rw [e]; rfl)
        exact segs_short lev l hne s hs
      exact hashN_re n m s (by omega) (by omega)
/-- A node's hash, by its parts. -/
theorem hashI_node {l : List It} {L : Nat} {segs : List (List It)} {xs : List It} (h : Shp lev l L segs xs) : hashI l = sumL (formN L (xs.map It.k) (xs.map fun x => sumL x.v) (segs.map hashI)) := by
  obtain ⟨e1, e2, e3⟩ := h.unique
  have hpos := h.pos
  have hne : l ≠ [] := fun e => by
    have := h.key xs[0] (List.getElem_mem hpos)
    rw [e] at this
    simp at this
  obtain ⟨m, hm⟩ : ∃ m, l.length = m + 1 := ⟨l.length - 1, by have := List.length_pos_iff.2 hne; omega⟩
  unfold hashI
  rw [hm]
  simp only [hashN]
  rw [if_neg (by simpa using hne), ← e1, ← e2, ← e3]
  congr 2
  refine List.map_congr_left fun s hs => ?_
  have := h.shorter s hs
  exact hashN_re m s.length s (by omega) (Nat.le_refl _)
theorem hashI_len (l : List It) : (hashI l).length = 32 := by
  unfold hashI
  cases l.length with
  | zero => exact sumL_len _
  | succ n =>
    simp only [hashN]
    split
    · exact sumL_len _
    · exact sumL_len _
/-- Bytes in one place are one. -/
theorem Sl.inj {w : World} {ao : Option Addr} {n cap : Nat} {xs ys : List Int} (h : Sl w ao n cap xs) (k : Sl w ao n cap ys) : xs = ys := by
  have h1 := h.len
  have h2 := k.len
  refine List.ext_getElem (by omega) fun i hi hj => ?_
  cases ao with
  | none => have := (h.nil rfl).1; omega
  | some a =>
    have e1 := h.cell a rfl i (by omega)
    have e2 := k.cell a rfl i (by omega)
    rw [e1] at e2
    simp only [Option.some.injEq, Value.int.injEq, true_and] at e2
    simpa [List.getD, hi, hj] using e2
theorem KL.inj {w : World} {ao : Option Addr} {n cap : Nat} {ps qs : List Part} (h : KL w ao n cap ps) (k : KL w ao n cap qs) : ps.map Part.xs = qs.map Part.xs := by
  have h1 := h.len
  have h2 := k.len
  refine List.ext_getElem (by simp; omega) fun i hi hj => ?_
  simp only [List.length_map] at hi hj
  cases ao with
  | none => have := (h.vl.nil rfl).1; omega
  | some a =>
    have e1 := h.vl.cell a rfl i (by simpa using hi)
    have e2 := k.vl.cell a rfl i (by simpa using hj)
    rw [e1] at e2
    simp only [List.getElem_map, Part.val, Option.some.injEq, Value.slice.injEq] at e2
    obtain ⟨e3, e4, e5⟩ := e2
    have s1 := h.sl ps[i] (List.getElem_mem hi)
    have s2 := k.sl qs[i] (List.getElem_mem hj)
    rw [← e3, ← e4, ← e5] at s2
    simpa using s1.inj s2
theorem It.ext' {x y : It} (h1 : x.k = y.k) (h2 : x.v = y.v) : x = y := by
  cases x
  cases y
  simp only at h1 h2
  rw [h1, h2]
/-- A node has one list of items. -/
theorem T.inj {w : World} : ∀ (n : Nat) (v : Value) (l l' : List It), l.length ≤ n → T w v l → T w v l' → l = l' := by
  intro n
  induction n with
  | zero =>
    intro v l l' hn h k
    obtain rfl : l = [] := List.eq_nil_of_length_eq_zero (by omega)
    rcases h.is with ⟨_, rfl⟩ | ⟨d, segs, xs, _, hN⟩
    · exact (T.none k).symm
    · have h1 := hN.shp.pos
      have h2 := hN.many
      rw [List.length_nil] at h2
      omega
  | succ n ih =>
    intro v l l' hn h k
    rcases h.is with ⟨rfl, rfl⟩ | ⟨d, segs, xs, rfl, hN⟩
    · exact (T.none k).symm
    · rcases k.is with ⟨_, e⟩ | ⟨d', segs', xs', e, hN'⟩
      · simp [Nd.ptr] at e
      · simp only [Nd.ptr, Value.pointer.injEq, Option.some.injEq, Addr.mk.injEq, and_true] at e
        have c0 := hN.ok.c0
        have c1 := hN.ok.c1
        have c2 := hN.ok.c2
        have c3 := hN.ok.c3
        rw [e] at c0 c1 c2 c3
        have f0 := c0.symm.trans hN'.ok.c0
        have f1 := c1.symm.trans hN'.ok.c1
        have f2 := c2.symm.trans hN'.ok.c2
        have f3 := c3.symm.trans hN'.ok.c3
        simp only [Option.some.injEq, Value.slice.injEq] at f1 f2 f3
        obtain ⟨a1, a2, a3⟩ := f1
        obtain ⟨b1, b2, b3⟩ := f2
        obtain ⟨g1, g2, g3⟩ := f3
        have hk := hN.ok.kl
        rw [a1, a2, a3] at hk
        have hv := hN.ok.vl
        rw [b1, b2, b3] at hv
        have ek := hk.inj hN'.ok.kl
        have ev := hv.inj hN'.ok.vl
        rw [hN.ek, hN'.ek] at ek
        rw [hN.ev, hN'.ev] at ev
        have hxs : xs = xs' := by
          have hl : xs.length = xs'.length := by simpa using congrArg List.length ek
          refine List.ext_getElem hl fun i hi hj => ?_
          have h1 := congrArg (·[i]?) ek
          have h2 := congrArg (·[i]?) ev
          simp [hi, hj] at h1 h2
          exact It.ext' h1 h2
        have hsl : segs.length = segs'.length := by rw [hN.shp.len, hN'.shp.len, hxs]
        have hsg : segs = segs' := by
          refine List.ext_getElem hsl fun i hi hj => ?_
          obtain ⟨u, hu, tu⟩ := hN.kid i segs[i] (List.getElem?_eq_getElem hi)
          obtain ⟨u', hu', tu'⟩ := hN'.kid i segs'[i] (List.getElem?_eq_getElem hj)
          have hci : i < d.cs.length := by rw [hN.ec]; exact hi
          have hci' : i < d'.cs.length := by rw [hN'.ec]; exact hj
          have huu : u = u' := by
            rw [List.getElem?_eq_getElem hci] at hu
            rw [List.getElem?_eq_getElem hci'] at hu'
            have e1 := Option.some.inj hu
            have e2 := Option.some.inj hu'
            have q1 := hN.ok.cl
            have q2 := hN'.ok.cl
            cases hco : d.co with
            | none => have := (q1.nil hco).1; omega
            | some a =>
              have z1 := q1.cell a hco i hci
              have z2 := q2.cell a (by rw [← g1]; exact hco) i hci'
              rw [z1] at z2
              rw [← e1, ← e2]
              exact Option.some.inj z2
          rw [← huu] at tu'
          have hsh := hN.shp.shorter segs[i] (List.getElem_mem hi)
          exact ih u _ _ (by omega) tu tu'
        rw [hN.shp.eq, hN'.shp.eq, hxs, hsg]
end Go.Proofs.YtnicnfjickknjaaDoor

namespace Go.Proofs.YtnicnfjickknjaaDoor
open Go.RowKit

theorem getD_len {l : List (List Int)} {B : Nat} (h : ∀ x ∈ l, x.length ≤ B) (i : Nat) : (l.getD i []).length ≤ B := by
  by_cases hi : i < l.length
  · simp only [List.getD, List.getElem?_eq_getElem hi, Option.getD_some]
    exact h _ (List.getElem_mem hi)
  · simp [List.getD, List.getElem?_eq_none (Nat.le_of_not_lt hi)]
theorem bf_len {x : List Int} {B : Nat} (h : x.length ≤ B) (hB : B < 18446744073709551616) : (bf x).length ≤ B + 10 := by
  have := enc_length (n := x.length) (by omega)
  simp only [bf, List.length_append]
  omega
theorem formTo_len {keys sums kids : List (List Int)} {B : Nat} (hB : B < 18446744073709551616) (h1 : ∀ x ∈ keys, x.length ≤ B) (h2 : ∀ x ∈ sums, x.length ≤ B) (h3 : ∀ x ∈ kids, x.length ≤ B) : ∀ n, (formTo keys sums kids n).length ≤ n * (3 * (B + 10))
  | 0 => by simp [formTo]
  | n + 1 => by
    have ih := formTo_len hB h1 h2 h3 n
    have e1 := bf_len (getD_len h1 n) hB
    have e2 := bf_len (getD_len h2 n) hB
    have e3 := bf_len (getD_len h3 (n + 1)) hB
    rw [formTo_succ, Nat.succ_mul]
    simp only [List.length_append]
    omega
theorem formN_len {keys sums kids : List (List Int)} {B L : Nat} (hB : B < 18446744073709551616) (hL : L < 18446744073709551616) (hk : keys.length < 18446744073709551616) (h1 : ∀ x ∈ keys, x.length ≤ B) (h2 : ∀ x ∈ sums, x.length ≤ B) (h3 : ∀ x ∈ kids, x.length ≤ B) :
    (formN L keys sums kids).length ≤ 60 + B + keys.length * (3 * (B + 10)) := by
  have e1 := formTo_len hB h1 h2 h3 keys.length
  have e2 := bf_len (getD_len h3 0) hB
  have e3 := enc_length (n := L) hL
  have e4 := enc_length (n := keys.length) hk
  have e5 : (bf nodeL).length ≤ 14 := bf_len (B := 4) (by decide) (by decide)
  simp only [formN, formH, List.length_append]
  omega
theorem formTo_byte {keys sums kids : List (List Int)} {B : Nat} (hB : B < 18446744073709551616) (h1 : ∀ x ∈ keys, x.length ≤ B ∧ Byt x) (h2 : ∀ x ∈ sums, x.length ≤ B ∧ Byt x) (h3 : ∀ x ∈ kids, x.length ≤ B ∧ Byt x) : ∀ n, Byt (formTo keys sums kids n)
  | 0 => by intro x hx; simp [formTo] at hx
  | n + 1 => by
    have key : ∀ (l : List (List Int)), (∀ x ∈ l, x.length ≤ B ∧ Byt x) → ∀ i, Byt (bf (l.getD i [])) := fun l hl i => bf_byte (getD_byte (fun x hx => (hl x hx).2) i) (by have := getD_len (fun x hx => (hl x hx).1) i; omega)
    rw [formTo_succ]
    exact (formTo_byte hB h1 h2 h3 n).append ((key _ h1 n).append ((key _ h2 n).append (key _ h3 (n + 1))))
theorem formN_byte {keys sums kids : List (List Int)} {B L : Nat} (hB : B < 18446744073709551616) (hL : L < 18446744073709551616) (hk : keys.length < 18446744073709551616) (h1 : ∀ x ∈ keys, x.length ≤ B ∧ Byt x) (h2 : ∀ x ∈ sums, x.length ≤ B ∧ Byt x) (h3 : ∀ x ∈ kids, x.length ≤ B ∧ Byt x) : Byt (formN L keys sums kids) := by
  have k0 : Byt (bf (kids.getD 0 [])) := bf_byte (getD_byte (fun x hx => (h3 x hx).2) 0) (by have := getD_len (fun x hx => (h3 x hx).1) 0; omega)
  unfold formN formH
  exact Byt.append (Byt.append (Byt.append (Byt.append (bf_byte nodeL_byte (by decide)) (enc_byte hL)) (enc_byte hk)) k0) (formTo_byte hB h1 h2 h3 _)
theorem pxs_byte {w : World} {ao : Option Addr} {n cap B : Nat} {ps : List Part} (h : PL w ao n cap ps) (hb : ∀ q ∈ ps, q.n ≤ B) : ∀ x ∈ pxs ps, x.length ≤ B ∧ Byt x := fun x hx => by
  obtain ⟨q, hq, rfl⟩ := List.mem_map.1 hx
  exact ⟨by rw [(h.sl q hq).len]; exact hb q hq, (h.sl q hq).byte⟩
theorem pxs_le {w : World} {ao : Option Addr} {n cap B : Nat} {ps : List Part} (h : PL w ao n cap ps) (hb : ∀ q ∈ ps, q.n ≤ B) : ∀ x ∈ pxs ps, x.length ≤ B := fun x hx => by
  obtain ⟨q, hq, rfl⟩ := List.mem_map.1 hx
  rw [(h.sl q hq).len]
  exact hb q hq
end Go.Proofs.YtnicnfjickknjaaDoor

namespace Go.Proofs.YtnicnfjickknjaaDoor
open Go.RowKit

/-- append to a row of the call's own: where the row lies behind it. -/
theorem run_append_own2 {P : Program} (w : World) (base : Nat) (t ty e : TypeId) (i : TypeInfo) (z : Value) (size bytes : Nat) (ht : P.underlying t = some (.slice e)) (hi : P.info? e = some i) (hz : i.zero = some z)
    (hsize : i.size = size) (hby : i.bytes = bytes) (hzs : z.cells.size = size) (hsz : 0 < size)
    (v : Value) (n : Nat) (xs : List Value) (hown : w.ownsRow base e size v n xs)
    (a : Addr) (m c : Nat) (news : List Value) (hl : news.length = m * size) (hnews : ∀ j u, news[j]? = some u → w.cell? (a.add j) = some u) (h1 : ∀ u ∈ news, u.oneCell' = true)
    (h63 : n + m ≤ maxLen) (hbytes : (n + m) * bytes ≤ 140737488355328) (hbase : base ≤ w.heap.size) :
    ∃ v' w', (Builtin.append_ #[t, t] ty #[v, .slice (some a) m c]).run P w = .ok v' w' ∧ w'.ownsRow base e size v' (n + m) (xs ++ news) ∧ w.grownBy w' v.ownBlock ∧
      ∀ g, v'.ownBlock = some g → v.ownBlock = some g ∨ w.heap.size ≤ g := by
  obtain ⟨v', w', hr, ho, hg, _⟩ := run_append_own (P := P) w base t ty e i z size bytes ht hi hz hsize hby hzs hsz v n xs hown a m c news hl hnews h1 h63 hbytes hbase
  refine ⟨v', w', hr, ho, hg, ?_⟩
  have hsmall : n + m ≤ 9223372036854775807 := by simp only [maxLen] at h63; omega
  subst hsize
  subst hby
  rcases hown.2 with ⟨rfl, rfl⟩ | ⟨g, cap, cur, rfl, hbg, hgc, hnc, hcm, hcs, htake⟩
  · have hown2 : w.ownsRow w.heap.size e i.size (.slice none 0 0) 0 xs := ⟨hown.1, .inl ⟨rfl, rfl⟩⟩
    obtain ⟨v2, w2, hr2, ho2, _, _⟩ := run_append_own (P := P) w w.heap.size t ty e i z i.size i.bytes ht hi hz rfl rfl hzs hsz _ 0 xs hown2 a m c news hl hnews h1 h63 hbytes (Nat.le_refl _)
    rw [hr] at hr2
    simp only [Result.ok.injEq] at hr2
    obtain ⟨rfl, rfl⟩ := hr2
    intro g hgv
    exact .inr (ho2.lt g hgv).1
  · by_cases hroom : n + m ≤ cap
    · have hfit : n * i.size + news.length ≤ cur.size := by rw [hl, hcs, ← Nat.add_mul]; exact Nat.mul_le_mul_right _ hroom
      have hr2 := run_append_room (P := P) w t ty e i ht hi g n cap cur hgc a m c news hl hnews h1 hroom hfit
      rw [hr] at hr2
      simp only [Result.ok.injEq] at hr2
      obtain ⟨rfl, rfl⟩ := hr2
      intro g' hg'
      exact .inl hg'
    · have holds : ∀ j u, xs[j]? = some u → w.cell? ((⟨g, 0, none⟩ : Addr).add j) = some u := hown.cells (g := g) rfl
      have hr2 := run_append_grow (P := P) w t ty e i z ht hi hz ⟨g, 0, none⟩ n cap xs hown.1 holds a m c news hl hnews (by omega) (by omega) (growslice_fits (by omega) hbytes)
      rw [hr] at hr2
      simp only [Result.ok.injEq] at hr2
      obtain ⟨rfl, rfl⟩ := hr2
      intro g' hg'
      simp only [Value.ownBlock, Option.some.injEq] at hg'
      exact .inr (by omega)
theorem own_kept {w w' : World} {base : Nat} {e : TypeId} {size : Nat} {v : Value} {n : Nat} {xs : List Value} (h : w.ownsRow base e size v n xs) (hb : ∀ g, v.ownBlock = some g → w'.heap[g]? = w.heap[g]?) : w'.ownsRow base e size v n xs := by
  refine ⟨h.1, ?_⟩
  rcases h.2 with c | ⟨g, cap, cur, rfl, a1, a2, a3, a4, a5, a6⟩
  · exact .inl c
  · exact .inr ⟨g, cap, cur, rfl, a1, (hb g rfl).trans a2, a3, a4, a5, a6⟩
end Go.Proofs.YtnicnfjickknjaaDoor

namespace Go.Proofs.YtnicnfjickknjaaDoor
open Go.RowKit

set_option maxRecDepth 100000 in
set_option maxHeartbeats 1000000 in
theorem sumOf_any (w : World) (b o : Nat) (n cap : Nat) (ps : List Part) (hT : Tabs w) (hP : Pts w ⟨b, o, none⟩ ps) (hn : ps.length = n) (hnb : (n : Int) < 4611686018427387904) (hl : (allB ps).length + 72 < 18446744073709551616) :
    Calls Tryd.prog 87 #[.slice (some ⟨b, o, none⟩) n cap] w fun e w' => ∃ v, e = .returned v ∧ w'.ownsRow w.heap.size 5 1 v 32 (bv (sumL (allB ps))) ∧ Below w.heap.size w w' := by
  have h2 := hT.two
  go_enter Tryd.func87, Tryd.ntmps87
  go_wp2_with (go_at_call 65; refine (new_any w).mono ?_; rintro e w1 ⟨rfl, H1, g1⟩; have B1 : Below w.heap.size w w1 := (Below.refl _ w).grown g1 (Nat.le_refl _) (by simp); clear g1)
  go_loopw [9] (fun i wr => ∃ k : Nat, k ≤ n ∧ i = .int .i64 k ∧ Below w.heap.size w wr ∧ HS wr w.heap.size (allB (ps.take k))) (fun i _ => n - (intOf i).toNat)
  case atStart => exact ⟨0, by omega, rfl, B1, H1⟩
  case round =>
    clear H1 B1
    obtain ⟨k, hk, rfl, B2, H2⟩ := hrel
    have T2 := hT.below B2 h2
    have s2 := B2.size
    by_cases hlt : k < n
    · have hki : (k : Int) < (n : Int) := by omega
      have hkl : k < ps.length := by omega
      obtain ⟨c1, S1⟩ := (hP.below B2) k hkl
      rw [add_at] at c1
      have HT : Hid (allB (ps.take (k + 1)) = allB (ps.take k) ++ ps[k].xs) := allB_take ps k hkl
      have hle := allB_le ps (k + 1)
      have hne : ∀ a, ps[k].ao = some a → 0 < ps[k].n → a.block ≠ w.heap.size := by
        intro a ha h0
        have := (hP k hkl).2.lt a ha h0
        omega
      rw [HT.out, List.length_append] at hle
      obtain ⟨q, hq⟩ : ∃ q, q = ps[k] := ⟨_, rfl⟩
      rw [← hq] at c1 S1 hne HT hle
      clear hq
      unfold Part.val at c1
      go_wp2_with (go_at_call 66; refine (add_any wr w.heap.size _ q.ao q.n q.cap q.xs T2 H2 h2 S1 hne (by omega)).mono ?_; rintro e w3 ⟨⟨v, rfl⟩, H3, g3⟩; have B3 : Below w.heap.size w w3 := B2.grown g3 s2 (by intro k hk; cases hk; exact Nat.le_refl _))
      go_roundw
      case rel =>
        refine ⟨k + 1, by omega, by go_num, B3, ?_⟩
        rw [HT.out]
        exact H3
      case measure => simp [intOf]; omega
    · have hge : (n : Int) ≤ (k : Int) := by omega
      have e : ps.take k = ps := List.take_of_length_le (by omega)
      rw [e] at H2
      clear e
      go_wp2_with (go_at_call 69; refine (hsum_any wr w.heap.size _ T2 H2 hl).mono ?_; rintro e w3 ⟨v, rfl, own3, B3⟩)
      go_ret
      refine ⟨_, rfl, own_base own3 s2, B2.trans (B3.mono s2)⟩
/-- Parts laid in a new block. -/
theorem Pts.new (w : World) (ps : List Part) (t : TypeId) (h : ∀ q ∈ ps, Sl w q.ao q.n q.cap q.xs) : Pts (w.alloc (.cells (ps.map Part.val).toArray t)) ⟨w.heap.size, 0, none⟩ ps := by
  intro i hi
  refine ⟨?_, (h _ (List.getElem_mem hi)).below ((Below.refl _ w).alloc (Nat.le_refl _) _)⟩
  rw [add_at, Nat.zero_add, cell_of_row _ _ i _ _ _ (heap_alloc_new w _)]
  simp [hi]

set_option maxRecDepth 100000 in
set_option maxHeartbeats 1000000 in
/-- Sum of whatever bytes. -/
theorem sum_any (w : World) (ao : Option Addr) (n cap : Nat) (xs : List Int) (hT : Tabs w) (hS : Sl w ao n cap xs) :
    Calls Tryd.prog 76 #[.slice ao n cap] w fun e w' => ∃ v, e = .returned v ∧ w'.ownsRow w.heap.size 5 1 v 32 (bv (sumL xs)) ∧ Below w.heap.size w w' := by
  have h2 := hT.two
  have hm := hS.mx
  have hle := hS.le
  have hln := hS.len
  unfold maxLen at hm
  go_enter Tryd.func76, Tryd.ntmps76
  go_wp2_with fail
  have B1 : Below w.heap.size w (w.alloc (.cells #[.slice ao n cap] 23)) := (Below.refl _ w).alloc (Nat.le_refl _) _
  have hq : Pts (w.alloc (.cells #[.slice ao n cap] 23)) ⟨w.heap.size, 0, none⟩ [⟨ao, n, cap, xs⟩] := Pts.new w [⟨ao, n, cap, xs⟩] 23 (by intro q hq; rw [List.mem_singleton.1 hq]; exact hS)
  have ea : allB [⟨ao, n, cap, xs⟩] = xs := by simp [allB]
  refine (sumOf_any _ w.heap.size 0 1 1 [⟨ao, n, cap, xs⟩] (hT.below B1 h2) hq rfl (by decide) (by rw [ea]; omega)).mono ?_
  rintro e w3 ⟨v, rfl, own3, B3⟩
  rw [ea] at own3
  clear ea hq
  go_wp2
  go_ret
  exact ⟨_, rfl, own_base own3 B1.size, B1.trans (B3.mono B1.size)⟩
end Go.Proofs.YtnicnfjickknjaaDoor

namespace Go.Proofs.YtnicnfjickknjaaDoor
open Go.RowKit

def ptrB (b : Nat) : Value := .pointer (some ⟨b, 0, none⟩)
theorem T.ordi {w : World} {b : Nat} {l : List It} (h : T w (ptrB b) l) : Ordi w b := by
  rcases h.is with ⟨-, e⟩ | ⟨d, segs, xs, e, hN⟩
  · simp [ptrB] at e
  · have hb : b = d.b := by simpa [ptrB, Nd.ptr] using e
    rw [hb]
    exact hN.ok.uf
/-- The map at block m knows hashes of nodes of w0; those in P are under way. -/
structure HI (w0 W : World) (m : Nat) (F : List (Nat × Value)) (P : List (Nat × List It)) : Prop where
  g : w0.grownBy W (some m)
  m0 : ∃ F0, PM w0 m F0
  pm : PM W m F
  nd : (F.map Prod.fst).Nodup
  ent : ∀ p ∈ F, (∃ q ∈ P, q.1 = p.1) ∨ ∃ l ao cap, T w0 (ptrB p.1) l ∧ p.2 = .slice ao 32 cap ∧ SlT W ⟨ao, 32, cap, hashI l⟩
  prg : ∀ q ∈ P, T w0 (ptrB q.1) q.2
theorem HI.kc {w0 W : World} {m : Nat} {F : List (Nat × Value)} {P : List (Nat × List It)} (h : HI w0 W m F P) : KC w0 W := by
  obtain ⟨F0, h0⟩ := h.m0
  exact KC.grown h0 h.g
theorem HI.mlt {w0 W : World} {m : Nat} {F : List (Nat × Value)} {P : List (Nat × List It)} (h : HI w0 W m F P) : m < w0.heap.size := by
  obtain ⟨F0, es, ck, h0, -⟩ := h.m0
  exact (Array.getElem?_eq_some_iff.1 h0).1
theorem HI.key {w0 W : World} {m : Nat} {F : List (Nat × Value)} {P : List (Nat × List It)} (h : HI w0 W m F P) : ∀ p ∈ F, Ordi w0 p.1 := fun p hp => by
  rcases h.ent p hp with ⟨q, hq, e⟩ | ⟨l, ao, cap, ht, -⟩
  · rw [← e]
    exact (h.prg q hq).ordi
  · exact ht.ordi
theorem HI.keep {w0 W W' : World} {m B : Nat} {F : List (Nat × Value)} {P : List (Nat × List It)} (h : HI w0 W m F P) (hb : Below B W W') (hB : w0.heap.size ≤ B) (kp : KpB W W') : HI w0 W' m F P := by
  have hm := h.mlt
  have hs := h.g.size
  refine ⟨⟨hb.os.trans h.g.os, hb.tape.trans h.g.tape, hb.output.trans h.g.output, Nat.le_trans hs hb.size, fun i hi hne => (hb.block i (by omega)).trans (h.g.block i hi hne)⟩, h.m0, ?_, h.nd, fun p hp => ?_, h.prg⟩
  · obtain ⟨es, ck, h1, h2, h3, -⟩ := h.pm
    refine ⟨es, ck, (hb.block m (by omega)).trans h1, h2, h3, fun p hp => ?_⟩
    obtain ⟨c, t, e⟩ := (h.key p hp).kc h.kc
    have hl := (h.key p hp).lt
    exact ⟨c, t, (hb.block p.1 (by omega)).trans e⟩
  · rcases h.ent p hp with c | ⟨l, ao, cap, h1, h2, h3⟩
    · exact .inl c
    · exact .inr ⟨l, ao, cap, h1, h2, h3.kp kp⟩
theorem HI.below {w0 W W' : World} {m : Nat} {F : List (Nat × Value)} {P : List (Nat × List It)} (h : HI w0 W m F P) (hb : Below W.heap.size W W') : HI w0 W' m F P := h.keep hb h.g.size (KpB.below hb)
/-- A hash is told. -/
def HashPost (w0 W : World) (m : Nat) (F : List (Nat × Value)) (P : List (Nat × List It)) (l : List It) (e : Ending) (W' : World) : Prop :=
  ∃ ao cap F', e = .returned (.slice ao 32 cap) ∧ SlT W' ⟨ao, 32, cap, hashI l⟩ ∧ HI w0 W' m F' P ∧ (∀ p ∈ F, ∃ q ∈ F', q.1 = p.1) ∧ W.grownBy W' (some m)
def Szs (l : List It) : Prop := l.length ≤ 10000 ∧ ∀ x ∈ l, x.k.length ≤ 1000 ∧ x.v.length ≤ 1000000
def HashOk (n : Nat) : Prop := ∀ (w0 W : World) (m : Nat) (v : Value) (l : List It) (F : List (Nat × Value)) (P : List (Nat × List It)), l.length ≤ n → T w0 v l → HI w0 W m F P → (∀ q ∈ P, l.length < q.2.length) → Tabs w0 → Szs l →
  Calls Tryd.prog 58 #[v, .map (some m)] W (HashPost w0 W m F P l)
/-- One part more. -/
theorem RwI.step {base : Nat} {W W2 : World} {v : Value} {qs : List Part} {q : Part} (h : RwI base W v qs) (hq : SlT W q) (h2 : W2 = W.alloc (.cells #[q.val] 23)) (hn : qs.length ≤ 1000000) (ty : TypeId) (c : Nat) :
    ∃ v' W3, (Builtin.append_ #[68, 68] ty #[v, .slice (some ⟨W.heap.size, 0, none⟩) 1 c]).run Tryd.prog W2 = .ok v' W3 ∧ RwI base W3 v' (qs ++ [q]) ∧ Below base W W3 ∧ KpB W W3 := by
  have hb2 : Below W.heap.size W W2 := by rw [h2]; exact (Below.refl _ _).alloc (Nat.le_refl _) _
  have k2 := h.kc (KC.below hb2)
  have hq2 := hq.kp (KpB.below hb2)
  have hxc : W2.heap[W.heap.size]? = some (.cells #[q.val] 23) := by rw [h2]; exact heap_alloc_new W _
  obtain ⟨i0, hi, hz0, hz1, hz2⟩ := info_parts kinfo
  obtain ⟨v', W3, hrun, own3, g3, -⟩ := run_append_own2 (P := Tryd.prog) W2 base 68 ty 23 i0 _ 1 24 Tryd.underlying68 hi hz0 hz1 hz2 rfl (by decide) v qs.length (qs.map Part.val) k2.own ⟨W.heap.size, 0, none⟩ 1 c [q.val] rfl
    (fun j u hu => by
      rw [Addr.add_lit, Nat.zero_add, cell_of_row W2 W.heap.size j _ _ _ hxc]
      simpa using hu) (fun u hu => by
      rw [List.mem_singleton.1 hu]
      rfl) (by unfold maxLen; omega) (by omega) k2.le
  have kpb : KpB W2 W3 := KpB.row k2.own (by decide) g3
  refine ⟨v', W3, hrun, ⟨?_, ?_, ?_⟩, ?_, (KpB.below hb2).trans kpb⟩
  · rw [List.length_append, List.map_append]
    exact own3
  · intro r hr
    rcases List.mem_append.1 hr with hr | hr
    · exact (k2.sl r hr).kp kpb
    · rw [List.mem_singleton.1 hr]
      exact hq2.kp kpb
  · have := k2.le
    have := g3.size
    omega
  · exact (hb2.mono h.le).trans ((Below.refl base W2).grown g3 k2.le (fun k hk => (k2.own.lt k hk).1))
/-- Behind a map alone, or new memory. -/
theorem grown_keep {a b c : World} {m B : Nat} (h : a.grownBy b (some m)) (k : Below B b c) (hB : a.heap.size ≤ B) : a.grownBy c (some m) :=
  ⟨k.os.trans h.os, k.tape.trans h.tape, k.output.trans h.output, Nat.le_trans h.size k.size, fun i hi hne => (k.block i (by omega)).trans (h.block i hi hne)⟩
theorem sumT (w : World) (ao : Option Addr) (n cap : Nat) (xs : List Int) (hT : Tabs w) (hS : Sl w ao n cap xs) :
    Calls Tryd.prog 76 #[.slice ao n cap] w fun e w' => ∃ so sc, e = .returned (.slice so 32 sc) ∧ SlT w' ⟨so, 32, sc, sumL xs⟩ ∧ Below w.heap.size w w' := by
  refine (sum_any w ao n cap xs hT hS).mono ?_
  rintro e w' ⟨v, rfl, own, B⟩
  obtain ⟨so, sc, rfl, S⟩ := SlT.own own (sumL_byte _)
  exact ⟨so, sc, rfl, S, B⟩
end Go.Proofs.YtnicnfjickknjaaDoor

namespace Go.Proofs.YtnicnfjickknjaaDoor
open Go.RowKit

/-- append, where its run is known. -/
theorem wpList_appR {P : Program} {w w' : World} {ops : Array Oper} {rest : List Oper} {o : Oper} {a : Act} {Q : Exit → Act → World → Prop} (hgd : o.guard = none) (s x : Operand) (t t' : TypeId)
    (ho : o.op = .call { callee := .builtin .append, args := #[s, x], argTypes := #[t, t'] }) (v u v' : Value) (hs : a.eval s = v) (hx : a.eval x = u) (hr : (Builtin.append_ #[t, t'] o.type #[v, u]).run P w = .ok v' w')
    (h : wpList P ops Q rest (a.put o.dst v') w') : wpList P ops Q (o :: rest) a w := by
  refine wpList_plain hgd fun _ hK => ?_
  unfold Oper.wp execOp
  simp only [ho, resolve, invoke, builtin, Sem.run_bind, Sem.run_pure, Result.andThen_ok, List.map_toArray, List.map_cons, List.map_nil, hs, hx, hr, Oper.upon]
  exact hK _ _ h
theorem grown_trans {a b c : World} {r : Option Nat} (h : a.grownBy b r) (k : b.grownBy c r) : a.grownBy c r :=
  ⟨k.os.trans h.os, k.tape.trans h.tape, k.output.trans h.output, Nat.le_trans h.size k.size, fun i hi hne => (k.block i (Nat.lt_of_lt_of_le hi h.size) hne).trans (h.block i hi hne)⟩
theorem grown_below {a b : World} {r : Option Nat} (h : Below a.heap.size a b) : a.grownBy b r := ⟨h.os, h.tape, h.output, h.size, fun i hi _ => h.block i hi⟩
theorem below_grown {a b : World} {B p : Nat} (h : a.grownBy b (some p)) (hB : B ≤ a.heap.size) (hp : B ≤ p) : Below B a b :=
  ⟨h.os, h.tape, h.output, h.size, fun i hi => h.block i (by omega) (by simp; omega)⟩
end Go.Proofs.YtnicnfjickknjaaDoor

namespace Go.Proofs.YtnicnfjickknjaaDoor
open Go.RowKit

theorem take_snoc {α β : Type} (f : α → β) (l : List α) (k : Nat) (h : k < l.length) : (l.map f).take (k + 1) = (l.map f).take k ++ [f l[k]] := by
  rw [List.take_succ_eq_append_getElem (by simpa using h), List.getElem_map]
def FormOfPost (w0 W : World) (m : Nat) (F : List (Nat × Value)) (P : List (Nat × List It)) (FF : List Int) (e : Ending) (W' : World) : Prop :=
  ∃ fo fn fc F', e = .returned (.slice fo fn fc) ∧ SlT W' ⟨fo, fn, fc, FF⟩ ∧ HI w0 W' m F' P ∧ (∀ p ∈ F, ∃ q ∈ F', q.1 = p.1) ∧ W.grownBy W' (some m)

set_option maxHeartbeats 8000000 in
set_option maxRecDepth 100000 in
theorem formOf_any (n : Nat) (IH : HashOk n) (w0 W : World) (m : Nat) (d : Nd) (l : List It) (segs : List (List It)) (xs : List It) (F : List (Nat × Value)) (P : List (Nat × List It)) (hN : Nod w0 l d segs xs) (hln : l.length ≤ n + 1) (hI : HI w0 W m F P) (hP : ∀ q ∈ P, l.length ≤ q.2.length) (hT : Tabs w0) (hz : Szs l) :
    Calls Tryd.prog 77 #[d.ptr, .map (some m)] W (FormOfPost w0 W m F P (formN d.L (xs.map It.k) (xs.map fun x => sumL x.v) (segs.map hashI))) := by
  have KW := hI.kc
  have nk := hN.nk
  have nv := hN.nv
  have nc := hN.nc
  have hml := hN.many
  have hzl := hz.1
  have HZ : Hid (Szs l) := hz
  have HIH : Hid (HashOk n) := IH
  have HP : Hid (∀ q ∈ P, l.length ≤ q.2.length) := hP
  have HN : Hid (Nod w0 l d segs xs) := hN
  have b2 := KW.cell hN.ok.c2
  have HT : Hid (Tabs w0) := hT
  have HNK : Hid (d.ks.length = xs.length ∧ d.vs.length = xs.length ∧ d.cs.length = xs.length + 1) := ⟨nk, nv, nc⟩
  have hx1 : xs.length ≤ 10000 := by omega
  have HKC : Hid (KC w0 W) := KW
  obtain ⟨vn, hvn⟩ : ∃ n, n = d.vs.length := ⟨_, rfl⟩
  have HVN : Hid (vn = d.vs.length) := hvn
  rw [← hvn] at b2
  have hvx1 : vn ≤ xs.length := by omega
  have hvx2 : xs.length ≤ vn := by omega
  clear KW nk nv nc hvn IH hz hT hP
  unfold Nd.ptr
  go_enter Tryd.func77, Tryd.ntmps77
  go_wp2_with fail
  go_loopw [5, 16] (fun v i wr => ∃ (k : Nat) (qs : List Part), k ≤ vn ∧ i = .int .i64 k ∧ RwI W.heap.size wr v qs ∧ Hid (qs.map Part.xs = (xs.map fun x => sumL x.v).take k) ∧ Below W.heap.size W wr) (fun _ i _ => vn - (intOf i).toNat)
  case atStart => exact ⟨0, [], Nat.zero_le _, rfl, RwI.nil W, rfl, Below.refl _ _⟩
  case round =>
    obtain ⟨k, qs, hkn, rfl, K, HQ, hB⟩ := hrel
    have HQL : Hid (qs.length = k) := by
      show _ = _
      have := congrArg List.length HQ.out
      rw [List.length_map, List.length_take, List.length_map] at this
      omega
    by_cases hlt : k < vn
    · have hki : (k : Int) < (vn : Int) := by omega
      have hkv : k < d.vs.length := by have := HVN.out; omega
      have hkx : k < xs.length := by omega
      have KR := HKC.out.trans (KC.below hB)
      have VLr := HN.out.ok.vl.kc KR
      obtain ⟨b, off, e0, hc⟩ := VLr.vl.at (by rw [← HVN.out]; omega)
      have c1 := hc k (by simpa using hkv)
      rw [List.getElem_map] at c1
      have S := VLr.sl d.vs[k] (List.getElem_mem hkv)
      rw [HN.out.valAt k hkv hkx] at S
      have HTK : Hid ((xs.map fun x => sumL x.v).take (k + 1) = (xs.map fun x => sumL x.v).take k ++ [sumL xs[k].v]) := take_snoc (fun x : It => sumL x.v) xs k hkx
      obtain ⟨y, hy⟩ : ∃ y, y = xs[k].v := ⟨_, rfl⟩
      rw [← hy] at S HTK
      obtain ⟨q, hq⟩ : ∃ q, q = d.vs[k] := ⟨_, rfl⟩
      rw [← hq] at c1 S
      unfold Part.val at c1
      have b2' := b2
      rw [e0] at b2'
      have CS := sumT wr q.ao q.n q.cap y (HT.out.kc KR) S
      clear hc hq hy S VLr KR
      rw [e0]
      go_wp2_with fail
      refine CS.mono ?_
      rintro e w1 ⟨s1, sc1, rfl, S1, C1⟩
      have K1 := K.kc (KC.below C1)
      have hB1 := hB.trans (C1.mono hB.size)
      obtain ⟨v', W3, hrun, K3, B3, -⟩ := K1.step S1 rfl (by have := HQL.out; omega) 68 1
      unfold Part.val at hrun
      have HRUN : Hid ((Builtin.append_ #[68, 68] 68 #[_, .slice (some ⟨w1.heap.size, 0, none⟩) 1 1]).run Tryd.prog (w1.alloc (.cells #[.slice s1 32 sc1] 23)) = .ok v' W3) := hrun
      have HK3 : Hid (RwI W.heap.size W3 v' (qs ++ [⟨s1, 32, sc1, sumL y⟩])) := K3
      have hB3 := hB1.trans B3
      clear CS S1 C1 K1 hrun K3 B3 K hB1 b2'
      go_wp2_with (at_builtin; refine wpList_appR rfl _ _ _ _ rfl _ _ _ rfl rfl HRUN.out ?_)
      go_roundw
      case rel =>
        refine ⟨k + 1, qs ++ [⟨s1, 32, sc1, sumL y⟩], by omega, by go_num, HK3.out, ?_, hB3⟩
        show _ = _
        rw [List.map_append, HQ.out, HTK.out]
        rfl
      case measure => simp [intOf]; omega
    · have hge : ¬ (k : Int) < (vn : Int) := by omega
      obtain ⟨wa, rfl⟩ : ∃ W', W' = wr := ⟨wr, rfl⟩
      have HSX : Hid (qs.map Part.xs = xs.map fun x => sumL x.v) := by
        show _ = _
        rw [HQ.out, List.take_of_length_le (by rw [List.length_map]; omega)]
      obtain ⟨so, sc, rfl, KLs⟩ := K.kl
      have hIa := hI.below hB
      have KA := hIa.kc
      have b3 := KA.cell HN.out.ok.c3
      obtain ⟨sn, hsn⟩ : ∃ n, n = qs.length := ⟨_, rfl⟩
      have HSN : Hid (sn = xs.length) := by show _ = _; rw [hsn, HQL.out]; omega
      rw [← hsn] at KLs ⊢
      obtain ⟨cn, hcn⟩ : ∃ n, n = d.cs.length := ⟨_, rfl⟩
      have HCN : Hid (cn = d.cs.length) := hcn
      rw [← hcn] at b3
      have hcx1 : cn ≤ xs.length + 1 := by have := HNK.out.2.2; omega
      have hcx2 : xs.length + 1 ≤ cn := by have := HNK.out.2.2; omega
      have HIA : Hid (HI w0 wa m F P) := hIa
      have HKS : Hid (KL wa so sn sc qs) := KLs
      have HBA : Hid (Below W.heap.size W wa) := hB
      clear K HQ hsn hcn KA hIa KLs hB HQL hI b2
      go_wp2_with fail
      go_loopw [6, 31] (fun v i wr => ∃ (k : Nat) (ks : List Part) (F' : List (Nat × Value)), k ≤ cn ∧ i = .int .i64 k ∧ RwI wa.heap.size wr v ks ∧ Hid (ks.map Part.xs = (segs.map hashI).take k) ∧ HI w0 wr m F' P ∧ Hid (∀ p ∈ F, ∃ q ∈ F', q.1 = p.1) ∧ wa.grownBy wr (some m)) (fun _ i _ => cn - (intOf i).toNat)
      case atStart => exact ⟨0, [], F, Nat.zero_le _, rfl, RwI.nil wa, rfl, HIA.out, fun p hp => ⟨p, hp, rfl⟩, World.grownBy.refl _ _⟩
      case round =>
        obtain ⟨k, ks, F', hkn, rfl, K, HQ, hI', HKF, hG⟩ := hrel
        have HQL : Hid (ks.length = k) := by
          show _ = _
          have := congrArg List.length HQ.out
          rw [List.length_map, List.length_take, List.length_map] at this
          have := HN.out.shp.len
          omega
        by_cases hlt : k < cn
        · have hki : (k : Int) < (cn : Int) := by omega
          have hks : k < segs.length := by have := HN.out.shp.len; omega
          obtain ⟨b, off, s, u, e0, hs, hu, c1, ht, hsl⟩ := HN.out.kidAt k (by omega)
          have hsm : s ∈ segs := List.mem_of_getElem? hs
          have c1' := hI'.kc.cell c1
          have HTK : Hid ((segs.map hashI).take (k + 1) = (segs.map hashI).take k ++ [hashI s]) := by
            show _ = _
            rw [take_snoc hashI segs k hks]
            have : segs[k] = s := by rw [List.getElem?_eq_getElem hks] at hs; exact Option.some.inj hs
            rw [this]
          have CH := HIH.out w0 wr m u s F' P (by omega) ht hI' (fun q hq => by have := HP.out q hq; omega) HT.out ⟨by have := HZ.out.1; omega, fun x hx => HZ.out.2 x (HN.out.shp.seg s hsm x hx)⟩
          have HPM : Hid (PM wr m F') := hI'.pm
          rw [e0]
          clear hu ht hs c1 hI'
          go_wp2_with fail
          refine CH.mono ?_
          rintro e w1 ⟨h1, hc1, F1, rfl, S1, I1, kf1, G1⟩
          have K1 := K.kc (KC.grown HPM.out G1)
          have hG1 := grown_trans hG G1
          obtain ⟨v', W3, hrun, K3, B3, kp3⟩ := K1.step S1 rfl (by have := HQL.out; omega) 68 1
          unfold Part.val at hrun
          have HRUN : Hid ((Builtin.append_ #[68, 68] 68 #[_, .slice (some ⟨w1.heap.size, 0, none⟩) 1 1]).run Tryd.prog (w1.alloc (.cells #[.slice h1 32 hc1] 23)) = .ok v' W3) := hrun
          have HK3 : Hid (RwI wa.heap.size W3 v' (ks ++ [⟨h1, 32, hc1, hashI s⟩])) := K3
          have HI3 : Hid (HI w0 W3 m F1 P) := I1.keep B3 HIA.out.g.size kp3
          have hG3 := grown_keep hG1 B3 (Nat.le_refl _)
          have HKF3 : Hid (∀ p ∈ F, ∃ q ∈ F1, q.1 = p.1) := fun p hp => by
            obtain ⟨q, hq, e⟩ := HKF.out p hp
            obtain ⟨q', hq', e'⟩ := kf1 q hq
            exact ⟨q', hq', e'.trans e⟩
          clear CH S1 I1 kf1 G1 K1 hrun K3 B3 kp3 K hG1
          go_wp2_with (at_builtin; refine wpList_appR rfl _ _ _ _ rfl _ _ _ rfl rfl HRUN.out ?_)
          go_roundw
          case rel =>
            refine ⟨k + 1, ks ++ [⟨h1, 32, hc1, hashI s⟩], F1, by omega, by go_num, HK3.out, ?_, HI3.out, HKF3.out, hG3⟩
            show _ = _
            rw [List.map_append, HQ.out, HTK.out]
            rfl
          case measure => simp [intOf]; omega
        · have hge2 : ¬ (k : Int) < (cn : Int) := by omega
          have HCX : Hid (ks.map Part.xs = segs.map hashI) := by
            show _ = _
            rw [HQ.out, List.take_of_length_le (by rw [List.length_map, HN.out.shp.len]; omega)]
          obtain ⟨co, cc, rfl, KLc⟩ := K.kl
          obtain ⟨kn, hkn2⟩ : ∃ n, n = ks.length := ⟨_, rfl⟩
          have hkn1 : kn ≤ 10001 := by rw [hkn2, HQL.out]; omega
          rw [← hkn2] at KLc ⊢
          have KR := hI'.kc
          have c0 := KR.cell HN.out.ok.c0
          have c1 := KR.cell HN.out.ok.c1
          have KLk := HN.out.ok.kl.kc KR
          have KLs := HKS.out.kc (KC.grown HIA.out.pm hG)
          have ek : pxs d.ks = xs.map It.k := HN.out.ek
          have es : pxs qs = xs.map fun x => sumL x.v := HSX.out
          have ec : pxs ks = segs.map hashI := HCX.out
          have hL := HN.out.L_le
          obtain ⟨FF, hFF⟩ : ∃ FF, FF = formN d.L (xs.map It.k) (xs.map fun x => sumL x.v) (segs.map hashI) := ⟨_, rfl⟩
          have hB1 : ∀ x ∈ xs.map It.k, x.length ≤ 1000 := fun x hx => by
            obtain ⟨y, hy, rfl⟩ := List.mem_map.1 hx
            exact (HZ.out.2 y (HN.out.shp.key y hy)).1
          have hB2 : ∀ x ∈ (xs.map fun x => sumL x.v), x.length ≤ 1000 := fun x hx => by
            obtain ⟨y, hy, rfl⟩ := List.mem_map.1 hx
            rw [sumL_len]
            omega
          have hB3 : ∀ x ∈ segs.map hashI, x.length ≤ 1000 := fun x hx => by
            obtain ⟨y, hy, rfl⟩ := List.mem_map.1 hx
            rw [hashI_len]
            omega
          have hFL : FF.length ≤ 1000000000 := by
            have := formN_len (B := 1000) (L := d.L) (by decide) (by omega) (by rw [List.length_map]; omega) hB1 hB2 hB3
            rw [← hFF, List.length_map] at this
            have h3 : xs.length * (3 * (1000 + 10)) ≤ 10000 * (3 * (1000 + 10)) := Nat.mul_le_mul_right _ hx1
            omega
          have hFB : Byt FF := by
            rw [hFF]
            refine formN_byte (B := 1000) (by decide) (by omega) (by rw [List.length_map]; omega) (fun x hx => ⟨hB1 x hx, ?_⟩) (fun x hx => ⟨hB2 x hx, ?_⟩) (fun x hx => ⟨hB3 x hx, ?_⟩)
            · rw [← ek] at hx
              obtain ⟨y, hy, rfl⟩ := List.mem_map.1 hx
              exact (KLk.sl y hy).byte
            · obtain ⟨y, hy, rfl⟩ := List.mem_map.1 hx
              exact sumL_byte _
            · rw [← ec] at hx
              obtain ⟨y, hy, rfl⟩ := List.mem_map.1 hx
              exact (KLc.sl y hy).byte
          have CF : ∀ V, Below wr.heap.size wr V → Calls Tryd.prog 88 #[.int .i64 d.L, .slice d.ko d.ks.length d.kc, .slice so sn sc, .slice co kn cc] V fun e w' => ∃ fo fn fc, e = .returned (.slice fo fn fc) ∧ SlT w' ⟨fo, fn, fc, FF⟩ ∧ Below V.heap.size V w' := fun V hV => by
            refine (form_any V d.L d.ko so co d.ks.length d.kc sn sc kn cc d.ks qs ks (KLk.below hV).pl (KLs.below hV).pl (KLc.below hV).pl (by omega) (by have := HNK.out.1; omega) (by have := HSN.out; omega) (by omega) (by rw [ek, es, ec, ← hFF]; exact hFL)).mono ?_
            rintro e w' ⟨v, rfl, own, B⟩
            rw [ek, es, ec, ← hFF] at own
            obtain ⟨fo, fc, rfl, S⟩ := SlT.own own hFB
            exact ⟨fo, _, fc, rfl, S, B⟩
          have HI' : Hid (HI w0 wr m F' P) := hI'
          have HGG : Hid (W.grownBy wr (some m)) := grown_trans (grown_below HBA.out) hG
          have HFF : Hid (FF = formN d.L (xs.map It.k) (xs.map fun x => sumL x.v) (segs.map hashI)) := hFF
          clear K HQ hkn2 hI' KR KLk KLs KLc ek es ec hL hFF hB1 hB2 hB3 hFL hFB hG b3
          go_wp2_with fail
          have HS : Hid (∀ V, Below wr.heap.size wr V → V.cell? ⟨d.b, 0, none⟩ = some (.int .i64 d.L) ∧ V.cell? ⟨d.b, 1, none⟩ = some (.slice d.ko d.ks.length d.kc)) := fun V hV => ⟨(hV.cell (World.block_lt_of_cell? _ _ c0)).trans c0, (hV.cell (World.block_lt_of_cell? _ _ c1)).trans c1⟩
          have E0 : Below wr.heap.size wr wr.drew := (Below.refl _ _).drew
          refine wp_region_noPanic ?_
          refine wp_region_held_drew (S := fun V => V.cell? ⟨d.b, 0, none⟩ = some (.int .i64 d.L) ∧ V.cell? ⟨d.b, 1, none⟩ = some (.slice d.ko d.ks.length d.kc)) (by kernel_rfl) (HS.out _ E0) (fun H0 => ?_)
          obtain ⟨v0, hv0⟩ : ∃ v, v = wr.drew := ⟨_, rfl⟩
          rw [← hv0] at H0 E0 ⊢
          clear hv0
          refine hr_take_w 0 (some 42) (.pointer (some ⟨d.b, 0, none⟩)) rfl rfl (by kernel_rfl) (by kernel_rfl) (by kernel_rfl) rfl (fun W hW => by obtain ⟨h0, h1⟩ := hW; go_simp) H0 ?_
          simp only [Act.put, List.setIfInBounds_toArray, List.set_cons_zero, List.set_cons_succ]
          refine hr_take_w 1 (some 43) (.pointer (some ⟨d.b, 0, none⟩)) rfl rfl (by kernel_rfl) (by kernel_rfl) (by kernel_rfl) rfl (fun W hW => by obtain ⟨h0, h1⟩ := hW; go_simp) H0 ?_
          simp only [Act.put, List.setIfInBounds_toArray, List.set_cons_zero, List.set_cons_succ]
          refine hr_take_w 2 (some 44) (.pointer (some ⟨d.b, 0, none⟩)) rfl rfl (by kernel_rfl) (by kernel_rfl) (by kernel_rfl) rfl (fun W hW => by obtain ⟨h0, h1⟩ := hW; go_simp) H0 ?_
          simp only [Act.put, List.setIfInBounds_toArray, List.set_cons_zero, List.set_cons_succ]
          refine hr_take_w 3 (some 45) (.int .i64 d.L) rfl rfl (by kernel_rfl) (by kernel_rfl) (by kernel_rfl) rfl (fun W hW => by obtain ⟨h0, h1⟩ := hW; go_simp) H0 ?_
          simp only [Act.put, List.setIfInBounds_toArray, List.set_cons_zero, List.set_cons_succ]
          refine hr_take_w 4 (some 46) (.pointer (some ⟨d.b, 0, none⟩)) rfl rfl (by kernel_rfl) (by kernel_rfl) (by kernel_rfl) rfl (fun W hW => by obtain ⟨h0, h1⟩ := hW; go_simp) H0 ?_
          simp only [Act.put, List.setIfInBounds_toArray, List.set_cons_zero, List.set_cons_succ]
          refine hr_take_w 5 (some 47) (.pointer (some ⟨d.b, 0, none⟩)) rfl rfl (by kernel_rfl) (by kernel_rfl) (by kernel_rfl) rfl (fun W hW => by obtain ⟨h0, h1⟩ := hW; go_simp) H0 ?_
          simp only [Act.put, List.setIfInBounds_toArray, List.set_cons_zero, List.set_cons_succ]
          refine hr_take_w 6 (some 48) (.pointer (some ⟨d.b, 1, none⟩)) rfl rfl (by kernel_rfl) (by kernel_rfl) (by kernel_rfl) rfl (fun W hW => by obtain ⟨h0, h1⟩ := hW; go_simp) H0 ?_
          simp only [Act.put, List.setIfInBounds_toArray, List.set_cons_zero, List.set_cons_succ]
          refine hr_take_w 7 (some 49) (.slice d.ko d.ks.length d.kc) rfl rfl (by kernel_rfl) (by kernel_rfl) (by kernel_rfl) rfl (fun W hW => by obtain ⟨h0, h1⟩ := hW; go_simp) H0 ?_
          simp only [Act.put, List.setIfInBounds_toArray, List.set_cons_zero, List.set_cons_succ]
          refine hr_take_w 8 (some 50) (.slice so sn sc) rfl rfl (by kernel_rfl) (by kernel_rfl) (by kernel_rfl) rfl (fun W hW => by obtain ⟨h0, h1⟩ := hW; go_simp) H0 ?_
          simp only [Act.put, List.setIfInBounds_toArray, List.set_cons_zero, List.set_cons_succ]
          refine hr_take_w 9 (some 51) (.slice co kn cc) rfl rfl (by kernel_rfl) (by kernel_rfl) (by kernel_rfl) rfl (fun W hW => by obtain ⟨h0, h1⟩ := hW; go_simp) H0 ?_
          simp only [Act.put, List.setIfInBounds_toArray, List.set_cons_zero, List.set_cons_succ]
          refine hr_call_w 10 (some 52) 88 #[.int .i64 d.L, .slice d.ko d.ks.length d.kc, .slice so sn sc, .slice co kn cc] rfl rfl (by kernel_rfl) rfl (by go_simp) (fun v w' => ∃ fo fn fc, v = .slice fo fn fc ∧ SlT w' ⟨fo, fn, fc, FF⟩ ∧ Below v0.heap.size v0 w') ((CF v0 E0).mono (by
            rintro e w' ⟨fo, fn, fc, rfl, F, C⟩
            exact ⟨_, rfl, fo, fn, fc, rfl, F, C⟩)) ?_
          rintro v v1 ⟨fo, fn, fc, rfl, F0, C0⟩
          have E1 := E0.trans (C0.mono E0.size)
          have H1 := HS.out v1 E1
          refine ⟨H1, ?_⟩
          simp only [Act.put, List.setIfInBounds_toArray, List.set_cons_zero, List.set_cons_succ]
          refine hr_take_w 11 (some 4) (.slice fo fn fc) rfl rfl (by kernel_rfl) (by kernel_rfl) (by kernel_rfl) rfl (fun W hW => by obtain ⟨h0, h1⟩ := hW; go_simp) H1 ?_
          simp only [Act.put, List.setIfInBounds_toArray, List.set_cons_zero, List.set_cons_succ]
          refine wpAnyH_done (by kernel_rfl) ?_ _
          refine NoPanic.normal ?_
          have HI1 : Hid (HI w0 v1 m F' P) := HI'.out.below E1
          have HG1 : Hid (W.grownBy v1 (some m)) := grown_keep HGG.out E1 HGG.out.size
          clear CF c0 c1
          go_wp2
          go_ret
          exact ⟨fo, fn, fc, F', rfl, by rw [← HFF.out]; exact F0, HI1.out, HKF.out, HG1.out⟩
end Go.Proofs.YtnicnfjickknjaaDoor

namespace Go.Proofs.YtnicnfjickknjaaDoor
open Go.RowKit

def emptyL : List Int := [101, 109, 112, 116, 121]
theorem emptyL_byte : Byt emptyL := by
  intro x hx
  simp [emptyL] at hx
  omega
set_option maxHeartbeats 1000000 in
set_option maxRecDepth 100000 in
/-- hashOf of nil, whatever the map. -/
theorem hashNil_any (w : World) (m : Value) (hT : Tabs w) :
    Calls Tryd.prog 58 #[.pointer none, m] w fun e w' => ∃ v, e = .returned v ∧ w'.ownsRow w.heap.size 5 1 v 32 (bv (sumL emptyL)) ∧ Below w.heap.size w w' := by
  have h2 := hT.two
  have B0 : Below w.heap.size w (w.alloc (.cells (bv emptyL).toArray 5 (5, 6))) := (Below.refl _ w).alloc (Nat.le_refl _) _
  have S0 := Sl.const w emptyL (5, 6) emptyL_byte (by simp [emptyL, maxLen])
  have kc0 := Lib.run_convert_bytes_const (P := Tryd.prog) w 23 5 #[.int .u8 101, .int .u8 109, .int .u8 112, .int .u8 116, .int .u8 121] 5 5 Tryd.underlying23 Tryd.underlying5
  have CS := sum_any _ _ 5 5 emptyL (hT.below B0 h2) S0
  go_enter Tryd.func58, Tryd.ntmps58
  go_wp2_with fail
  refine CS.mono ?_
  rintro e w1 ⟨v, rfl, o, C⟩
  go_wp2
  go_ret
  exact ⟨_, rfl, own_base o B0.size, B0.trans (C.mono B0.size)⟩

set_option maxHeartbeats 1000000 in
set_option maxRecDepth 100000 in
theorem rootNil_any (w : World) (hT : Tabs w) :
    Calls Tryd.prog 21 #[.pointer none] w fun e w' => ∃ v, e = .returned v ∧ w'.ownsRow w.heap.size 5 1 v 32 (bv (sumL emptyL)) ∧ Below w.heap.size w w' := by
  have h2 := hT.two
  have CS := shared_at w w (.pointer none) [] (TT.nil w) (Below.refl _ _)
  have CH : Calls Tryd.prog 40 #[.pointer none] w fun e w' => ∃ v, e = .returned v ∧ w'.ownsRow w.heap.size 5 1 v 32 (bv (sumL emptyL)) ∧ Below w.heap.size w w' := by
    have hmm := @run_makeMap Tryd.prog
    have B1 : Below w.heap.size w (w.alloc (.map #[] 0)) := (Below.refl _ w).alloc (Nat.le_refl _) _
    have CN := hashNil_any (w.alloc (.map #[] 0)) (.map (some w.heap.size)) (hT.below B1 h2)
    go_enter Tryd.func40, Tryd.ntmps40
    go_wp2_with fail
    refine CN.mono ?_
    rintro e w2 ⟨v, rfl, o, C⟩
    go_wp2
    go_ret
    exact ⟨_, rfl, own_base o B1.size, B1.trans (C.mono B1.size)⟩
  go_enter Tryd.func21, Tryd.ntmps21
  go_wp2_with fail
  refine CS.mono ?_
  rintro e w1 ⟨q, rfl, hq, hw⟩
  obtain rfl := hw.symm
  obtain rfl : q = none := by
    rcases hq.is with ⟨-, h⟩ | ⟨d, segs, xs, -, h⟩
    · simpa using h
    · have h1 := h.shp.pos
      have h2 := h.many
      rw [List.length_nil] at h2
      omega
  clear CS
  go_wp2_with fail
  refine CH.mono ?_
  rintro e w2 ⟨v, rfl, o, C⟩
  go_wp2
  go_ret
  exact ⟨_, rfl, o, C⟩
end Go.Proofs.YtnicnfjickknjaaDoor

namespace Go.Proofs.YtnicnfjickknjaaDoor
open Go.RowKit

theorem below_drewN (w : World) (q B : Nat) : Below B w (w.drewN q) := ⟨rfl, rfl, rfl, Nat.le_refl _, fun _ _ => rfl⟩

theorem lists_of (n : Nat) (xs ys : List Int) (h1 : xs.length = n) (h2 : ys.length = n) (h : ∀ j, j < n → xs.getD j 0 = ys.getD j 0) : xs = ys := by
  apply List.ext_getElem (by omega)
  intro j hj hj2
  have := h j (by omega)
  simpa [List.getD, hj, hj2] using this

/-- Where an element is read the slice has an address without a spot. -/
theorem Sl.at {w : World} {ao : Option Addr} {n cap : Nat} {xs : List Int} (h : Sl w ao n cap xs) (hn : 0 < n) :
    ∃ b off, ao = some ⟨b, off, none⟩ ∧ ∀ i, i < n → w.cell? ⟨b, off + i, none⟩ = some (.int .u8 (xs.getD i 0)) := by
  cases ao with
  | none => have := (h.nil rfl).1; omega
  | some a =>
    obtain ⟨b, off, spot⟩ := a
    have hc := h.cell _ rfl 0 hn
    have hs : spot = none := by simpa [Addr.add] using World.cell?_spot hc
    subst hs
    exact ⟨b, off, rfl, fun i hi => by have := h.cell _ rfl i hi; rw [Addr.add_lit] at this; exact this⟩

set_option maxHeartbeats 800000 in
theorem same_any (w : World) (ao bo : Option Addr) (n cap m cap2 : Nat) (xs ys : List Int) (h : Sl w ao n cap xs) (h2 : Sl w bo m cap2 ys) :
    Calls Tryd.prog 12 #[.slice ao n cap, .slice bo m cap2] w fun e w' =>
      e = .returned (.bool (decide (xs = ys))) ∧ ∃ q, w' = w.drewN q := by
  have hl := h.len
  have hl2 := h2.len
  have hle := h.le
  have hmx := h.mx
  unfold maxLen at hmx
  by_cases hnm : n = m
  · subst hnm
    have hne : ((n : Int) != (n : Int)) = false := by simp
    go_enter Tryd.func12, Tryd.ntmps12
    go_wp2
    go_loopw [5] (fun i wr => ∃ k q : Nat, k ≤ n ∧ i = .int .i64 k ∧ wr = w.drewN q ∧ ∀ j, j < k → xs.getD j 0 = ys.getD j 0) (fun i _ => n - (intOf i).toNat)
    case atStart => exact ⟨0, 0, Nat.zero_le _, rfl, rfl, fun j hj => by omega⟩
    case round =>
      obtain ⟨k, q, hk, rfl, rfl, heq⟩ := hrel
      by_cases hlt : k < n
      · obtain ⟨b, off, rfl, hc⟩ := h.at (by omega)
        obtain ⟨b2, off2, rfl, hc2⟩ := h2.at (by omega)
        have c1 := hc k hlt
        have c2 := hc2 k hlt
        have hlt1 : (k : Int) < (n : Int) := by omega
        clear hc hc2
        have k1 : k < xs.length := by omega
        have k2 : k < ys.length := by omega
        by_cases he : xs[k] = ys[k]
        · have hb : (xs[k] != ys[k]) = false := by simp [he]
          have hE : Hid (xs[k] = ys[k]) := he
          clear he
          go_wp2
          go_quiet (fail)
          go_wp2
          go_roundw
          case rel =>
            refine ⟨k + 1, _, by omega, by go_num, rfl, fun j hj => ?_⟩
            by_cases hjk : j < k
            · exact heq j hjk
            · obtain rfl : j = k := by omega
              simpa [List.getD, k1, k2] using hE.out
          case measure => simp [intOf]; omega
        · have hb : (xs[k] != ys[k]) = true := by simp [he]
          have hE : Hid (¬ xs[k] = ys[k]) := he
          clear he
          go_wp2
          go_quiet (fail)
          go_wp2
          go_ret
          have hd : decide (xs = ys) = false := decide_eq_false (fun hx => by subst hx; exact hE.out rfl)
          rw [hd, World.drewN_drewN]
          exact ⟨rfl, _, rfl⟩
      · obtain rfl : k = n := by omega
        go_wp2
        go_ret
        have hd : decide (xs = ys) = true := decide_eq_true (lists_of k xs ys hl hl2 heq)
        rw [hd]
        exact ⟨rfl, _, rfl⟩
  · have hne : ((n : Int) != (m : Int)) = true := by simp; omega
    go_enter Tryd.func12, Tryd.ntmps12
    go_wp2
    go_ret
    have hd : decide (xs = ys) = false := decide_eq_false (fun hx => by subst hx; omega)
    rw [hd]
    exact ⟨rfl, 0, rfl⟩
end Go.Proofs.YtnicnfjickknjaaDoor

namespace Go.Proofs.YtnicnfjickknjaaDoor
open Go.RowKit

theorem nodeInfo : (Tryd.prog.info? 74).map (fun i => i.size) = some 4 := by kernel_rfl
theorem zero_b (w : World) : (zeroValue 23).run Tryd.prog w = .ok (.slice none 0 0) w := by
  obtain ⟨i0, hi, hz0, hz1, hz2⟩ := info_parts kinfo
  simp [zeroValue, typeInfo, hi, hz0]
/-- What is found in the map. -/
def foundV (b : Nat) (F : List (Nat × Value)) : Value := ((findB b F 0).map Prod.snd).getD (.slice none 0 0)
theorem look_two {w : World} {m : Nat} {F : List (Nat × Value)} (h : PM w m F) (b : Nat) (hb : Ordi w b) :
    (Instr.lookup 99 (.map (some m)) (.pointer (some ⟨b, 0, none⟩)) true).run Tryd.prog w = .ok (.tuple #[foundV b F, .bool (findB b F 0).isSome]) w := by
  have hI := nodeInfo
  cases hi : Tryd.prog.info? 74 with
  | none => rw [hi] at hI; simp at hI
  | some j =>
    rw [hi] at hI
    have := h.look (P := Tryd.prog) Tryd.underlying99 Tryd.underlying52 hi (by simp at hI; omega) (zero_b w) b hb true
    simpa [foundV] using this
theorem look_one {w : World} {m : Nat} {F : List (Nat × Value)} (h : PM w m F) (b : Nat) (hb : Ordi w b) :
    (Instr.lookup 99 (.map (some m)) (.pointer (some ⟨b, 0, none⟩)) false).run Tryd.prog w = .ok (foundV b F) w := by
  have hI := nodeInfo
  cases hi : Tryd.prog.info? 74 with
  | none => rw [hi] at hI; simp at hI
  | some j =>
    rw [hi] at hI
    have := h.look (P := Tryd.prog) Tryd.underlying99 Tryd.underlying52 hi (by simp at hI; omega) (zero_b w) b hb false
    simpa [foundV] using this
theorem put_new7 {w : World} {m : Nat} {F : List (Nat × Value)} (h : PM w m F) (b : Nat) (hb : Ordi w b) (v : Value) (hN : ∀ p ∈ F, p.1 ≠ b) :
    ∃ w', (Instr.mapUpdate 99 (.map (some m)) (.pointer (some ⟨b, 0, none⟩)) v).run Tryd.prog w = .ok () w' ∧ PM w' m (F ++ [(b, v)]) ∧ w.grownBy w' (some m) := by
  have hI := nodeInfo
  cases hi : Tryd.prog.info? 74 with
  | none => rw [hi] at hI; simp at hI
  | some j =>
    rw [hi] at hI
    exact h.new (P := Tryd.prog) Tryd.underlying99 Tryd.underlying52 hi (by simp at hI; omega) b hb v hN
theorem put_old7 {w : World} {m : Nat} {F : List (Nat × Value)} (h : PM w m F) (b : Nat) (hb : Ordi w b) (v : Value) (k : Nat) (u : Value) (hf : findB b F 0 = some (k, u)) (hkl : k < F.length) (hkF : F[k].1 = b) :
    ∃ w', (Instr.mapUpdate 99 (.map (some m)) (.pointer (some ⟨b, 0, none⟩)) v).run Tryd.prog w = .ok () w' ∧ PM w' m (F.set k (b, v)) ∧ w.grownBy w' (some m) := by
  have hI := nodeInfo
  cases hi : Tryd.prog.info? 74 with
  | none => rw [hi] at hI; simp at hI
  | some j =>
    rw [hi] at hI
    exact h.old (P := Tryd.prog) Tryd.underlying99 Tryd.underlying52 hi (by simp at hI; omega) b hb v k u hf hkl hkF
theorem found_at {b k : Nat} {F : List (Nat × Value)} (hn : (F.map Prod.fst).Nodup) (hk : k < F.length) {v : Value} (hF : F[k] = (b, v)) : foundV b F = v := by
  unfold foundV
  rcases findB_at b F 0 with ⟨-, h⟩ | ⟨k', v', hk', e, h⟩
  · exact absurd (by rw [hF]) (h F[k] (List.getElem_mem hk))
  · have hkk : k' = k := by
      have h1 : (F.map Prod.fst)[k']'(by simpa using hk') = (F.map Prod.fst)[k]'(by simpa using hk) := by simp [h, hF]
      exact (List.getElem_inj (h₀ := by simpa using hk') (h₁ := by simpa using hk) hn).1 h1
    subst hkk
    rw [e]
    rw [hF] at h
    simp only [Option.map_some, Option.getD_some]
    exact (Prod.mk.inj h).2.symm
/-- A node begins. -/
theorem HI.begin {w0 W W' : World} {m b : Nat} {F : List (Nat × Value)} {P : List (Nat × List It)} {l : List It} {v : Value} (h : HI w0 W m F P) (hN : ∀ p ∈ F, p.1 ≠ b) (ht : T w0 (ptrB b) l) (pm : PM W' m (F ++ [(b, v)])) (hg : W.grownBy W' (some m)) : HI w0 W' m (F ++ [(b, v)]) ((b, l) :: P) := by
  have kc := KC.grown h.pm hg
  refine ⟨grown_trans h.g hg, h.m0, pm, ?_, fun p hp => ?_, fun q hq => ?_⟩
  · rw [List.map_append, List.nodup_append]
    refine ⟨h.nd, by simp, fun x hx y hy e => ?_⟩
    obtain ⟨p, hp, rfl⟩ := List.mem_map.1 hx
    have hy : y = b := by simpa using hy
    exact hN p hp (e.trans hy)
  · rcases List.mem_append.1 hp with hp | hp
    · rcases h.ent p hp with ⟨q, hq, e⟩ | ⟨l', ao, cap, h1, h2, h3⟩
      · exact .inl ⟨q, List.mem_cons_of_mem _ hq, e⟩
      · exact .inr ⟨l', ao, cap, h1, h2, h3.kc kc⟩
    · rw [List.mem_singleton.1 hp]
      exact .inl ⟨(b, l), List.mem_cons_self .., rfl⟩
  · rcases List.mem_cons.1 hq with rfl | hq
    · exact ht
    · exact h.prg q hq
/-- A node is done. -/
theorem HI.finish {w0 W W' : World} {m b k : Nat} {F : List (Nat × Value)} {P : List (Nat × List It)} {l : List It} {ao : Option Addr} {cap : Nat} (h : HI w0 W m F ((b, l) :: P)) (hk : k < F.length) (hF : F[k].1 = b) (hs : SlT W ⟨ao, 32, cap, hashI l⟩) (pm : PM W' m (F.set k (b, .slice ao 32 cap))) (hg : W.grownBy W' (some m)) : HI w0 W' m (F.set k (b, .slice ao 32 cap)) P := by
  have kc := KC.grown h.pm hg
  have ht := h.prg (b, l) (List.mem_cons_self ..)
  have hmap : (F.set k (b, Value.slice ao 32 cap)).map Prod.fst = F.map Prod.fst := by
    rw [List.map_set]
    refine List.ext_getElem (by simp) fun i h1 h2 => ?_
    rw [List.getElem_set]
    split
    · rename_i e
      subst e
      simp [hF]
    · rfl
  refine ⟨grown_trans h.g hg, h.m0, pm, by rw [hmap]; exact h.nd, fun p hp => ?_, fun q hq => h.prg q (List.mem_cons_of_mem _ hq)⟩
  obtain ⟨i, hi, rfl⟩ := List.mem_iff_getElem.1 hp
  have hi' : i < F.length := by simpa using hi
  rw [List.getElem_set]
  by_cases e : k = i
  · rw [if_pos e]
    exact .inr ⟨l, ao, cap, ht, rfl, hs.kc kc⟩
  · rw [if_neg e]
    rcases h.ent F[i] (List.getElem_mem hi') with ⟨q, hq, eq⟩ | ⟨l', ao', cap', h1, h2, h3⟩
    · rcases List.mem_cons.1 hq with rfl | hq
      · exfalso
        have h1 : (F.map Prod.fst)[k]'(by simpa using hk) = (F.map Prod.fst)[i]'(by simpa using hi') := by simp [hF, ← eq]
        exact e ((List.getElem_inj (h₀ := by simpa using hk) (h₁ := by simpa using hi') h.nd).1 h1)
      · exact .inl ⟨q, hq, eq⟩
    · exact .inr ⟨l', ao', cap', h1, h2, h3.kc kc⟩
theorem emptyL_H : emptyL = emptyH := rfl

set_option maxHeartbeats 8000000 in
set_option maxRecDepth 100000 in
theorem hash_nil (n : Nat) (w0 W : World) (m : Nat) (l : List It) (F : List (Nat × Value)) (P : List (Nat × List It)) (hl : l = []) (hI : HI w0 W m F P) (hT : Tabs w0) (_ : n = n) : Calls Tryd.prog 58 #[.pointer none, .map (some m)] W (HashPost w0 W m F P l) := by
  subst hl
  refine (hashNil_any W (.map (some m)) (hT.kc hI.kc)).mono ?_
  rintro e W' ⟨v, rfl, own, B⟩
  obtain ⟨ao, cap, rfl, S⟩ := SlT.own own (sumL_byte _)
  exact ⟨ao, cap, F, rfl, S, hI.below B, fun p hp => ⟨p, hp, rfl⟩, grown_below B⟩

set_option maxHeartbeats 8000000 in
set_option maxRecDepth 100000 in
theorem hash_node (n : Nat) (IH : HashOk n) (w0 W : World) (m : Nat) (d : Nd) (l : List It) (segs : List (List It)) (xs : List It) (F : List (Nat × Value)) (P : List (Nat × List It)) (hN : Nod w0 l d segs xs) (hln : l.length ≤ n + 1) (hI : HI w0 W m F P) (hP : ∀ q ∈ P, l.length < q.2.length) (hT : Tabs w0) (hz : Szs l) :
    Calls Tryd.prog 58 #[.pointer (some ⟨d.b, 0, none⟩), .map (some m)] W (HashPost w0 W m F P l) := by
  have ht : T w0 (ptrB d.b) l := T.of hN
  have hO : Ordi w0 d.b := hN.ok.uf
  have L1 := look_two hI.pm d.b (hO.kc hI.kc)
  have HP : Hid (∀ q ∈ P, l.length < q.2.length) := hP
  rcases findB_at d.b F 0 with ⟨e, hno⟩ | ⟨k, u, hk, e, hF⟩
  · rw [e] at L1
    have hv0 : foundV d.b F = .slice none 0 0 := by unfold foundV; rw [e]; rfl
    rw [hv0] at L1
    have CS := sumT W none 0 0 [] (hT.kc hI.kc) (Sl.nothing W)
    have HNO : Hid (∀ p ∈ F, p.1 ≠ d.b) := hno
    have HI0 : Hid (HI w0 W m F P) := hI
    have HT0 : Hid (T w0 (ptrB d.b) l) := ht
    have HN : Hid (Nod w0 l d segs xs) := hN
    have HTb : Hid (Tabs w0) := hT
    have HZ : Hid (Szs l) := hz
    have HO : Hid (Ordi w0 d.b) := hO
    have HIH : Hid (HashOk n) := IH
    have nk := hN.nk
    have nv := hN.nv
    have nc := hN.nc
    have hx1 : xs.length ≤ 10000 := by have := hN.many; have := hz.1; omega
    have HL : Hid (d.ks.length = xs.length ∧ d.vs.length = xs.length ∧ d.cs.length = xs.length + 1) := ⟨nk, nv, nc⟩
    clear hv0 e hno hI ht hN hT hz hO IH nk nv nc hP
    go_enter Tryd.func58, Tryd.ntmps58
    go_wp2_with fail
    refine CS.mono ?_
    rintro e W1 ⟨s0, sc0, rfl, S0, C1⟩
    have I1 := HI0.out.below C1
    obtain ⟨W2, hput, pm2, g2⟩ := put_new7 I1.pm d.b (HO.out.kc I1.kc) (.slice s0 32 sc0) HNO.out
    have I2 := I1.begin HNO.out HT0.out pm2 g2
    have hG2 := grown_trans (grown_below C1) g2
    have K2 := I2.kc
    have c1 := K2.cell HN.out.ok.c1
    have c2 := K2.cell HN.out.ok.c2
    have c3 := K2.cell HN.out.ok.c3
    rw [HL.out.1] at c1
    rw [HL.out.2.1] at c2
    rw [HL.out.2.2] at c3
    obtain ⟨x, hx⟩ : ∃ x, x = xs.length := ⟨_, rfl⟩
    rw [← hx] at c1 c2 c3 hx1
    have hwr : IntKind.i64.wrap ((x : Int) + 1) = (x : Int) + 1 := by
      have := wrap_nat (k := x + 1) (by omega)
      simpa using this
    have hxx : (((x + 1 : Nat) : Int) == (x : Int) + 1) = true := by simp
    clear CS L1 I1 pm2 g2 K2 S0 C1 hx
    go_wp2_with fail
    go_quiet (fail)
    have D2 := below_drewN W2 nq W2.heap.size
    obtain ⟨V, hV⟩ : ∃ V, V = W2.drewN nq := ⟨_, rfl⟩
    rw [← hV] at D2 ⊢
    have IV := I2.below D2
    have hGV := grown_keep hG2 D2 hG2.size
    have CF := formOf_any n HIH.out w0 V m d l segs xs _ _ HN.out hln IV (fun q hq => by
      rcases List.mem_cons.1 hq with rfl | hq
      · exact Nat.le_refl _
      · exact Nat.le_of_lt (HP.out q hq)) HTb.out HZ.out
    unfold Nd.ptr at CF
    clear hV hput c1 c2 c3 hwr hxx D2 I2 IV hG2
    go_wp2_with fail
    refine CF.mono ?_
    rintro e W3 ⟨fo, fn, fc, F3, rfl, S3, I3, kf3, G3⟩
    have hG3 := grown_trans hGV G3
    have CS := sumT W3 fo fn fc _ (HTb.out.kc I3.kc) S3.1
    rw [← hashI_node HN.out.shp] at CS
    have HKF : Hid (∀ p ∈ F ++ [(d.b, Value.slice s0 32 sc0)], ∃ q ∈ F3, q.1 = p.1) := kf3
    have HI3 : Hid (HI w0 W3 m F3 ((d.b, l) :: P)) := I3
    clear CF S3 I3 kf3 G3 hGV
    go_wp2_with fail
    refine CS.mono ?_
    rintro e W4 ⟨s1, sc1, rfl, S4, C4⟩
    have I4 := HI3.out.below C4
    have hG4 := grown_keep hG3 C4 hG3.size
    obtain ⟨k, u, hk, hf, hF⟩ : ∃ (k : Nat) (u : Value) (h : k < F3.length), findB d.b F3 0 = some (k, u) ∧ F3[k] = (d.b, u) := by
      rcases findB_at d.b F3 0 with ⟨-, hno⟩ | ⟨k, u, hk, e, hF⟩
      · obtain ⟨q, hq, e⟩ := HKF.out (d.b, Value.slice s0 32 sc0) (by simp)
        exact absurd e (hno q hq)
      · exact ⟨k, u, hk, by rw [e, Nat.zero_add], hF⟩
    have hF1 : F3[k].1 = d.b := by rw [hF]
    obtain ⟨W5, hput, pm5, g5⟩ := put_old7 I4.pm d.b (HO.out.kc I4.kc) (.slice s1 32 sc1) k u hf hk hF1
    have I5 := I4.finish hk hF1 S4 pm5 g5
    have S5 := S4.kc (KC.grown I4.pm g5)
    have hG5 := grown_trans hG4 g5
    have L5 := look_one I5.pm d.b (HO.out.kc I5.kc)
    rw [found_at I5.nd (k := k) (b := d.b) (v := .slice s1 32 sc1) (by simpa using hk) (by simp)] at L5
    have HKF5 : Hid (∀ p ∈ F, ∃ q ∈ F3.set k (d.b, Value.slice s1 32 sc1), q.1 = p.1) := fun p hp => by
      obtain ⟨q, hq, e⟩ := HKF.out p (List.mem_append_left _ hp)
      obtain ⟨i, hi, rfl⟩ := List.mem_iff_getElem.1 hq
      refine ⟨(F3.set k (d.b, Value.slice s1 32 sc1))[i]'(by simpa using hi), List.getElem_mem _, ?_⟩
      rw [List.getElem_set]
      split
      · rename_i ek
        subst ek
        rw [← e, hF1]
      · exact e
    have HI5 : Hid (HI w0 W5 m (F3.set k (d.b, Value.slice s1 32 sc1)) P) := I5
    clear CS S4 C4 I4 hf hF hF1 pm5 g5 I5 hG4 hG3
    go_wp2
    go_ret
    exact ⟨s1, sc1, _, rfl, S5, HI5.out, HKF5.out, hG5⟩
  · have hmem : (d.b, u) ∈ F := by rw [← hF]; exact List.getElem_mem hk
    have hv : foundV d.b F = u := found_at hI.nd hk hF
    rw [hv, e] at L1
    rcases hI.ent (d.b, u) hmem with ⟨q, hq, eq⟩ | ⟨l', ao, cap, h1, h2, h3⟩
    · exfalso
      have h4 := hI.prg q hq
      rw [eq] at h4
      have h5 := T.inj l.length (ptrB d.b) l q.2 (Nat.le_refl _) ht h4
      have h6 := hP q hq
      rw [← h5] at h6
      omega
    · have h5 := T.inj l.length (ptrB d.b) l l' (Nat.le_refl _) ht h1
      subst h5
      have h2 : u = .slice ao 32 cap := h2
      subst h2
      have HI0 : Hid (HI w0 W m F P) := hI
      clear hmem hv e hF hI h1 ht hO hN hT hz hP IH
      go_enter Tryd.func58, Tryd.ntmps58
      go_wp2
      go_ret
      exact ⟨ao, cap, F, rfl, h3, HI0.out, fun p hp => ⟨p, hp, rfl⟩, World.grownBy.refl _ _⟩
/-- hashOf of whatever node. -/
theorem hash_fuel : ∀ n, HashOk n := by
  intro n
  induction n with
  | zero =>
    intro w0 W m v l F P hl ht hI _ hT _
    obtain rfl : l = [] := List.eq_nil_of_length_eq_zero (by omega)
    rcases ht.is with ⟨-, rfl⟩ | ⟨d, segs, xs, -, hN⟩
    · exact hash_nil 0 w0 W m [] F P rfl hI hT rfl
    · have h1 := hN.shp.pos
      have h2 := hN.many
      rw [List.length_nil] at h2
      omega
  | succ n ih =>
    intro w0 W m v l F P hl ht hI hP hT hz
    rcases ht.is with ⟨e, rfl⟩ | ⟨d, segs, xs, rfl, hN⟩
    · exact hash_nil 0 w0 W m l F P e hI hT rfl
    · exact hash_node n ih w0 W m d l segs xs F P hN hl hI hP hT hz

/-- The root of a tree is the hash of its items. -/
def RootPost (w : World) (l : List It) (e : Ending) (w' : World) : Prop := ∃ ao cap, e = .returned (.slice ao 32 cap) ∧ SlT w' ⟨ao, 32, cap, hashI l⟩ ∧ Below w.heap.size w w'

set_option maxHeartbeats 1000000 in
set_option maxRecDepth 100000 in
theorem thash_any (w : World) (v : Value) (l : List It) (h : T w v l) (hT : Tabs w) (hz : Szs l) : Calls Tryd.prog 40 #[v] w (RootPost w l) := by
  have h2 := hT.two
  have hmm := @run_makeMap Tryd.prog
  have B1 : Below w.heap.size w (w.alloc (.map #[] 0)) := (Below.refl _ w).alloc (Nat.le_refl _) _
  have pm : PM (w.alloc (.map #[] 0)) w.heap.size [] := ⟨#[], 0, heap_alloc_new w _, rfl, fun i hi => by simp at hi, fun _ h => by simp at h⟩
  have CH := hash_fuel l.length (w.alloc (.map #[] 0)) (w.alloc (.map #[] 0)) w.heap.size v l [] [] (Nat.le_refl _) (h.below B1) ⟨World.grownBy.refl _ _, ⟨_, pm⟩, pm, by simp, fun _ h => by simp at h, fun _ h => by simp at h⟩ (fun _ h => by simp at h) (hT.below B1 h2) hz
  obtain ⟨po, rfl⟩ := h.ptr
  clear pm h
  go_enter Tryd.func40, Tryd.ntmps40
  go_wp2_with fail
  refine CH.mono ?_
  rintro e w2 ⟨ao, cap, F', rfl, S, -, -, G⟩
  have B2 : Below w.heap.size w w2 := B1.trans (below_grown G B1.size (Nat.le_refl _))
  go_wp2
  go_ret
  exact ⟨ao, cap, rfl, S, B2⟩

set_option maxHeartbeats 1000000 in
set_option maxRecDepth 100000 in
theorem root_any (w : World) (v : Value) (l : List It) (h : TT w v l) (hT : Tabs w) (hz : Szs l) : Calls Tryd.prog 21 #[v] w (RootPost w l) := by
  have CS := shared_at w w v l h (Below.refl _ _)
  obtain ⟨po, rfl⟩ := h.ptr
  go_enter Tryd.func21, Tryd.ntmps21
  go_wp2_with fail
  refine CS.mono ?_
  rintro e w1 ⟨q, rfl, hq, hw⟩
  obtain rfl := hw.symm
  have CH := thash_any w (.pointer q) l hq hT hz
  clear CS
  go_wp2_with fail
  refine CH.mono ?_
  rintro e w2 ⟨ao, cap, rfl, S, B⟩
  go_wp2
  go_ret
  exact ⟨ao, cap, rfl, S, B⟩
end Go.Proofs.YtnicnfjickknjaaDoor

namespace Go.Proofs.YtnicnfjickknjaaDoor
open Go.RowKit

/-- What stands against an item. -/
def askK (n m : Nat) : Int := if badK n then 5 else if 1024 < m then 4 else 0
set_option maxHeartbeats 1000000 in
theorem asked7_any (w : World) (ao bo : Option Addr) (n cap m c : Nat) : Calls Tryd.prog 6 #[.slice ao n cap, .slice bo m c] w fun e w' => e = .returned (.int .i64 (askK n m)) ∧ w' = w := by
  by_cases h1 : n < 1
  · have h1' : (n : Int) < 1 := by omega
    have HR : Hid (askK n m = 5) := by show _ = _; rw [askK, if_pos (by simp [badK]; omega)]
    go_enter Tryd.func6, Tryd.ntmps6
    go_wp2
    go_ret
    rw [HR.out]
    exact ⟨rfl, rfl⟩
  have h1' : ¬ (n : Int) < 1 := by omega
  by_cases h2 : 256 < n
  · have h2' : (n : Int) > 256 := by omega
    have HR : Hid (askK n m = 5) := by show _ = _; rw [askK, if_pos (by simp [badK]; omega)]
    go_enter Tryd.func6, Tryd.ntmps6
    go_wp2
    go_ret
    rw [HR.out]
    exact ⟨rfl, rfl⟩
  have h2' : ¬ (n : Int) > 256 := by omega
  have HB : Hid (badK n = false) := by show _ = _; simp [badK]; omega
  by_cases h3 : 1024 < m
  · have h3' : (m : Int) > 1024 := by omega
    have HR : Hid (askK n m = 4) := by show _ = _; rw [askK, HB.out, if_neg (by decide), if_pos h3]
    clear h3
    go_enter Tryd.func6, Tryd.ntmps6
    go_wp2
    go_ret
    rw [HR.out]
    exact ⟨rfl, rfl⟩
  · have h3' : ¬ (m : Int) > 1024 := by omega
    have HR : Hid (askK n m = 0) := by show _ = _; rw [askK, HB.out, if_neg (by decide), if_neg h3]
    clear h3
    go_enter Tryd.func6, Tryd.ntmps6
    go_wp2
    go_ret
    rw [HR.out]
    exact ⟨rfl, rfl⟩
end Go.Proofs.YtnicnfjickknjaaDoor

namespace Go.Proofs.YtnicnfjickknjaaDoor
open Go.RowKit

set_option maxRecDepth 100000 in
set_option maxHeartbeats 2000000 in
theorem text_any (w : World) (s t : ByteArray) (hs : s.size ≤ maxLen) (ht : t.size ≤ maxLen) :
    Calls Tryd.prog 53 #[.string s, .string t] w fun e w' => e = .returned (.int .i64 (cmpL (sb s) (sb t))) ∧ Below w.heap.size w w' := by
  simp only [maxLen] at hs ht
  go_enter Tryd.func53, Tryd.ntmps53
  go_wp2_with fail
  go_loopw [5] (fun i wr => ∃ k : Nat, k ≤ s.size ∧ k ≤ t.size ∧ i = .int .i64 k ∧ Below w.heap.size w wr ∧ cmpL (sb s) (sb t) = cmpL ((sb s).drop k) ((sb t).drop k)) (fun i _ => s.size - (intOf i).toNat)
  case atStart => exact ⟨0, by omega, by omega, rfl, Below.refl _ _, rfl⟩
  case round =>
    obtain ⟨k, h1, h2, rfl, B, hc⟩ := hrel
    by_cases l1 : k < s.size
    · have i1 : (k : Int) < (s.size : Int) := by omega
      by_cases l2 : k < t.size
      · have i2 : (k : Int) < (t.size : Int) := by omega
        rw [sb_at s k l1, sb_at t k l2] at hc
        obtain ⟨x, hx⟩ : ∃ x : Nat, x = s[k].toNat := ⟨_, rfl⟩
        obtain ⟨y, hy⟩ : ∃ y : Nat, y = t[k].toNat := ⟨_, rfl⟩
        rw [← hx, ← hy] at hc
        have r1 : ∀ W : World, (Instr.index 9 (.string s) (.int .i64 k)).run Tryd.prog W = .ok (.int .u8 x) W := fun W => by
          rw [run_index_string W _ s _ _ Tryd.underlying9, dif_pos ⟨by omega, i1⟩, hx]
          rfl
        have r2 : ∀ W : World, (Instr.index 9 (.string t) (.int .i64 k)).run Tryd.prog W = .ok (.int .u8 y) W := fun W => by
          rw [run_index_string W _ t _ _ Tryd.underlying9, dif_pos ⟨by omega, i2⟩, hy]
          rfl
        clear hx hy
        by_cases e : x = y
        · subst e
          have hc' : Hid (cmpL (sb s) (sb t) = cmpL ((sb s).drop (k + 1)) ((sb t).drop (k + 1))) := by
            show _ = _
            rw [hc]
            rw [cmpL_cons, if_pos rfl]
          clear hc
          go_wp2_with fail
          go_quiet (fail)
          rename Nat => q
          go_wp2
          go_roundw
          case rel => exact ⟨k + 1, by omega, by omega, by go_num, belN B q, hc'.out⟩
          case measure => simp [intOf]; omega
        · have ne : ((x : Int) == (y : Int)) = false := by simp; omega
          have nn : ((x : Int) != (y : Int)) = true := by simp; omega
          by_cases l : x < y
          · have li : (x : Int) < (y : Int) := by omega
            have hc' : Hid (cmpL (sb s) (sb t) = -1) := by
              show _ = _
              rw [hc, cmpL_cons, if_neg (by omega), if_pos li]
            clear hc
            go_wp2_with fail
            go_quiet (fail)
            rename Nat => q
            go_wp2_with fail
            go_quiet (fail)
            rename Nat => q2
            go_wp2
            go_ret
            exact ⟨by rw [hc'.out] <;> rfl, belN (belN B q) q2⟩
          · have li : ¬ (x : Int) < (y : Int) := by omega
            have hc' : Hid (cmpL (sb s) (sb t) = 1) := by
              show _ = _
              rw [hc, cmpL_cons, if_neg (by omega), if_neg li]
            clear hc
            go_wp2_with fail
            go_quiet (fail)
            rename Nat => q
            go_wp2_with fail
            go_quiet (fail)
            rename Nat => q2
            go_wp2
            go_ret
            exact ⟨by rw [hc'.out] <;> rfl, belN (belN B q) q2⟩
      · have i2 : (t.size : Int) ≤ (k : Int) := by omega
        rw [sb_at s k l1, sb_end t k (by omega)] at hc
        have hc' : Hid (cmpL (sb s) (sb t) = 1) := hc
        clear hc
        have f1 : ((s.size : Int) == (t.size : Int)) = false := by simp; omega
        have f2 : ¬ (s.size : Int) < (t.size : Int) := by omega
        go_wp2
        go_ret
        exact ⟨by rw [hc'.out] <;> rfl, B⟩
    · have i1 : (s.size : Int) ≤ (k : Int) := by omega
      rw [sb_end s k (by omega)] at hc
      by_cases l2 : k < t.size
      · rw [sb_at t k l2] at hc
        have hc' : Hid (cmpL (sb s) (sb t) = -1) := hc
        clear hc
        have f1 : ((s.size : Int) == (t.size : Int)) = false := by simp; omega
        have f2 : (s.size : Int) < (t.size : Int) := by omega
        go_wp2
        go_ret
        exact ⟨by rw [hc'.out] <;> rfl, B⟩
      · rw [sb_end t k (by omega)] at hc
        have hc' : Hid (cmpL (sb s) (sb t) = 0) := hc
        clear hc
        have f1 : ((s.size : Int) == (t.size : Int)) = true := by simp; omega
        go_wp2
        go_ret
        exact ⟨by rw [hc'.out] <;> rfl, B⟩
end Go.Proofs.YtnicnfjickknjaaDoor

namespace Go.Proofs.YtnicnfjickknjaaDoor
open Go.RowKit

set_option maxHeartbeats 1000000 in
set_option maxRecDepth 100000 in
theorem rbelow_any (w : World) (ao bo : Option Addr) (n cap m cap2 : Nat) (xs ys : List Int) (h : Sl w ao n cap xs) (h2 : Sl w bo m cap2 ys) :
    Calls Tryd.prog 30 #[.slice ao n cap, .slice bo m cap2] w fun e w' => e = .returned (.bool (decide (cmpL xs ys < 0))) ∧ Below w.heap.size w w' := by
  have c1 := conv_str h
  have c2 := conv_str h2
  have hn := h.len
  have hm := h2.len
  have m1 := h.mx
  have m2 := h2.mx
  have l1 := h.le
  have l2 := h2.le
  go_enter Tryd.func30, Tryd.ntmps30
  go_wp2_with fail
  refine (text_any w (strOfNums xs) (strOfNums ys) (by rw [strOfNums_size]; omega) (by rw [strOfNums_size]; omega)).mono ?_
  rintro e w1 ⟨rfl, B⟩
  rw [sb_str h.byte, sb_str h2.byte]
  go_wp2
  go_ret
  exact ⟨rfl, B⟩
end Go.Proofs.YtnicnfjickknjaaDoor

namespace Go.Proofs.YtnicnfjickknjaaDoor
open Go.RowKit

/-- A row of items of the call's own, as a slice. -/
theorem own_items {W : World} {base : Nat} {v : Value} {ps : List IP} (h : W.ownsRow base 43 2 v ps.length (flatI ps)) (sl : ∀ q ∈ ps, q.ok W) : ∃ ao cap, v = .slice ao ps.length cap ∧ IL W ao ps.length cap ps := by
  rcases h.2 with ⟨rfl, e⟩ | ⟨g, cap, cur, rfl, hg, hh, hle, hmx, hcs, htk⟩
  · obtain rfl : ps = [] := List.eq_nil_of_length_eq_zero e
    exact ⟨none, 0, rfl, IL.nothing W⟩
  · refine ⟨some ⟨g, 0, none⟩, cap, rfl, rfl, hle, hmx, fun h => by simp at h, fun a ha i hi => ?_, sl⟩
    obtain rfl := Option.some.inj ha
    obtain ⟨e1, e2⟩ := flatI_get ps i hi
    exact ⟨h.cells (g := g) rfl _ _ e1, h.cells (g := g) rfl _ _ e2⟩
theorem flatI_snoc (ps : List IP) (q : IP) : flatI (ps ++ [q]) = flatI ps ++ [q.k.val, q.v.val] := by simp [flatI]
/-- append of one item to a row of the call's own. -/
theorem wpList_appI {w : World} {ops : Array Oper} {rest : List Oper} {o : Oper} {a : Act} {Q : Exit → Act → World → Prop} (hgd : o.guard = none) (s x : Operand)
    (ho : o.op = .call { callee := .builtin .append, args := #[s, x], argTypes := #[26, 26] })
    (base : Nat) (v : Value) (ps : List IP) (hs : a.eval s = v) (hown : w.ownsRow base 43 2 v ps.length (flatI ps))
    (g c : Nat) (q : IP) (hx : a.eval x = .slice (some ⟨g, 0, none⟩) 1 c) (hc : w.heap[g]? = some (.cells #[q.k.val, q.v.val] 43)) (hn : ps.length ≤ 1000000) (hbase : base ≤ w.heap.size)
    (h : ∀ v' w', w'.ownsRow base 43 2 v' (ps ++ [q]).length (flatI (ps ++ [q])) → Below base w w' → wpList Tryd.prog ops Q rest (a.put o.dst v') w') : wpList Tryd.prog ops Q (o :: rest) a w := by
  obtain ⟨i0, hi, hz0, hz1, hz2⟩ := info_parts itemInfo
  refine wpList_append_own w hgd s x 26 ho base 43 i0 _ 2 48 Tryd.underlying26 hi hz0 hz1 hz2 rfl (by decide) v ps.length (flatI ps) hs hown ⟨g, 0, none⟩ 1 c [q.k.val, q.v.val] hx rfl
    (fun j u hu => by
      rw [Addr.add_lit, Nat.zero_add, cell_of_row w g j _ _ _ hc]
      simpa using hu) (fun u hu => by
      simp only [List.mem_cons, List.not_mem_nil, or_false] at hu
      rcases hu with rfl | rfl <;> rfl) (by unfold maxLen; omega) (by omega) hbase ?_
  intro v' w' h1 h2 _
  rw [← flatI_snoc] at h1
  exact h v' w' (by rw [List.length_append]; exact h1) ((Below.refl _ w).grown h2 hbase (fun k hk => (hown.lt k hk).1))

theorem btw_snoc (a b : List Int) (l : List It) (x : It) : btw a b (l ++ [x]) = btw a b l ++ (if ¬ cmpL x.k a < 0 ∧ cmpL x.k b < 0 then [x] else []) := by
  unfold btw ge
  rw [List.filter_append, List.filter_append]
  congr 1
  by_cases h1 : cmpL x.k a < 0
  · rw [if_neg (by simp [h1])]
    simp [h1]
  · by_cases h2 : cmpL x.k b < 0
    · rw [if_pos ⟨h1, h2⟩]
      have e1 : decide (¬ cmpL x.k a < 0) = true := decide_eq_true h1
      have e2 : decide (cmpL x.k b < 0) = true := decide_eq_true h2
      simp only [List.filter_cons, e1, e2, if_true, List.filter_nil]
    · rw [if_neg (by simp [h2])]
      have e1 : decide (¬ cmpL x.k a < 0) = true := decide_eq_true h1
      have e2 : decide (cmpL x.k b < 0) = false := decide_eq_false h2
      simp only [List.filter_cons, e1, e2, if_true, List.filter_nil]
      rfl
theorem btw_app (a b : List Int) (l r : List It) : btw a b (l ++ r) = btw a b l ++ btw a b r := by simp [btw, ge]

end Go.Proofs.YtnicnfjickknjaaDoor

namespace Go.Proofs.YtnicnfjickknjaaDoor
open Go.RowKit

theorem size2 (w : World) : (sizeOf 43).run Tryd.prog w = .ok 2 w := by
  have hI := itemInfo
  cases hi : Tryd.prog.info? 43 with
  | none => rw [hi] at hI; simp at hI
  | some i =>
    rw [hi] at hI
    simp only [Option.map_some, Option.some.injEq, Prod.mk.injEq] at hI
    simp [sizeOf, typeInfo, hi, hI.2.1]
/-- l[:i] -/
theorem run_upto2 {W : World} {ao : Option Addr} {n cap i : Nat} (h1 : i ≤ cap) :
    (Instr.sliceAt 26 (.slice ao n cap) none (some (.int .i64 (i : Nat))) none).run Tryd.prog W = .ok (.slice ao i cap) W := by
  have ht := Tryd.underlying26
  have he : Tryd.prog.elem 26 = 43 := by simp [Program.elem, ht]
  rw [run_sliceAt_slice W 26 _ _ _ _ (by rw [he]; exact ht), run_slice_h W 26 ao n cap (by rw [he]; exact ht) .i64 i (by omega) (by omega), he, size2]
  simp only [Result.andThen_ok, sliced, Int.toNat_natCast, Nat.zero_mul, Nat.sub_zero]
  cases ao with
  | none => simp
  | some a => simp [Addr.add_nought]
/-- Where l[j:] lies. -/
def bk2 (ao : Option Addr) (cap j : Nat) : Option Addr := if cap = j then ao else ao.map (·.add (j * 2))
/-- l[j:] -/
theorem run_back2 {W : World} {ao : Option Addr} {n cap j : Nat} (h1 : j ≤ n) :
    (Instr.sliceAt 26 (.slice ao n cap) (some (.int .i64 (j : Nat))) none none).run Tryd.prog W = .ok (.slice (bk2 ao cap j) (n - j) (cap - j)) W := by
  have ht := Tryd.underlying26
  have he : Tryd.prog.elem 26 = 43 := by simp [Program.elem, ht]
  rw [run_sliceAt_slice W 26 _ _ _ _ (by rw [he]; exact ht), run_slice_l W 26 ao n cap (by rw [he]; exact ht) .i64 j (by omega) (by omega), he, size2]
  simp only [Result.andThen_ok, sliced, Int.toNat_natCast, bk2]
theorem IL.front {w : World} {ao : Option Addr} {n cap : Nat} {its : List IP} (h : IL w ao n cap its) (i : Nat) (hi : i ≤ n) : IL w ao i cap (its.take i) := by
  have h1 := h.len
  have h2 := h.le
  refine ⟨by simp; omega, by omega, h.mx, fun hn => ?_, fun a ha j hj => ?_, fun q hq => h.sl q (List.mem_of_mem_take hq)⟩
  · have := h.nil hn
    omega
  · simp only [List.length_take] at hj
    have := h.cell a ha j (by omega)
    simpa using this
theorem IL.from {w : World} {ao : Option Addr} {n cap : Nat} {its : List IP} (h : IL w ao n cap its) (j : Nat) (hj : j ≤ n) : IL w (bk2 ao cap j) (n - j) (cap - j) (its.drop j) := by
  have h1 := h.len
  have h2 := h.mx
  have h3 := h.le
  refine ⟨by simp; omega, by omega, by omega, fun hn => ?_, fun b hb i hi => ?_, fun q hq => h.sl q (List.mem_of_mem_drop hq)⟩
  · unfold bk2 at hn
    by_cases hc : cap = j
    · omega
    · rw [if_neg hc] at hn
      have := h.nil (by simpa using hn)
      omega
  · simp only [List.length_drop] at hi
    have hc : cap ≠ j := by omega
    unfold bk2 at hb
    rw [if_neg hc] at hb
    cases ao with
    | none => simp at hb
    | some a =>
      have hb' : a.add (j * 2) = b := by simpa using hb
      have := h.cell a rfl (j + i) (by omega)
      rw [← hb', Addr.add_add, Addr.add_add, List.getElem_drop, ← Nat.add_mul, ← Nat.add_assoc, ← Nat.add_mul]
      exact this
theorem flatI_app (ps qs : List IP) : flatI (ps ++ qs) = flatI ps ++ flatI qs := by simp [flatI]
/-- append of items. -/
theorem run_appI {w : World} {base : Nat} {v : Value} {ps qs : List IP} (ty : TypeId) (h : w.ownsRow base 43 2 v ps.length (flatI ps)) (hb : base ≤ w.heap.size) {bo : Option Addr} {m c : Nat} (hx : IL w bo m c qs) (hn : ps.length + m ≤ 1000000) :
    ∃ v' w', (Builtin.append_ #[26, 26] ty #[v, .slice bo m c]).run Tryd.prog w = .ok v' w' ∧ w'.ownsRow base 43 2 v' (ps ++ qs).length (flatI (ps ++ qs)) ∧ Below base w w' := by
  obtain ⟨i0, hi, hz0, hz1, hz2⟩ := info_parts itemInfo
  have hlen := hx.len
  by_cases hm : m = 0
  · subst hm
    obtain rfl : qs = [] := List.eq_nil_of_length_eq_zero hlen
    have hv : ∃ ao cap, v = .slice ao ps.length cap ∧ ps.length ≤ cap := by
      rcases h.2 with ⟨rfl, e⟩ | ⟨g, cap, cur, rfl, hg, hh, hle, _⟩
      · rw [e]
        exact ⟨none, 0, rfl, Nat.le_refl _⟩
      · exact ⟨_, cap, rfl, hle⟩
    obtain ⟨ao, cap, rfl, hle⟩ := hv
    refine ⟨_, w, run_append_nothing w 26 26 ty 43 i0 Tryd.underlying26 hi ao ps.length cap hle _ (src_none Tryd.underlying26), ?_, Below.refl _ _⟩
    simpa using h
  · obtain ⟨ad, rfl⟩ : ∃ ad, bo = some ad := by
      cases bo with
      | none => have := (hx.nil rfl).1; omega
      | some ad => exact ⟨ad, rfl⟩
    obtain ⟨v', w', h1, h2, h3, -⟩ := run_append_own (P := Tryd.prog) w base 26 ty 43 i0 _ 2 48 Tryd.underlying26 hi hz0 hz1 hz2 rfl (by decide) v ps.length (flatI ps) h ad m c (flatI qs) (by rw [flatI_length, hlen])
      (fun j u hu => by
        have hj := (List.getElem?_eq_some_iff.1 hu).1
        rw [flatI_length] at hj
        have hq : j / 2 < qs.length := by omega
        obtain ⟨e1, e2⟩ := flatI_get qs (j / 2) hq
        obtain ⟨d1, d2⟩ := hx.cell ad rfl (j / 2) hq
        rcases Nat.mod_two_eq_zero_or_one j with hp | hp
        · have ej : j / 2 * 2 = j := by omega
          rw [ej] at e1 d1
          rw [d1, ← hu, e1]
        · have ej : j / 2 * 2 + 1 = j := by omega
          rw [ej] at e2 d2
          rw [d2, ← hu, e2]) (flatI_one qs) (by unfold maxLen; omega) (by omega) hb
    refine ⟨v', w', h1, ?_, (Below.refl _ w).grown h3 hb (fun k hk => (h.lt k hk).1)⟩
    rw [flatI_app, List.length_append, hlen]
    exact h2
theorem own_none (w : World) : (w.alloc (.cells #[] 43)).ownsRow w.heap.size 43 2 (.slice (some ⟨w.heap.size, 0, none⟩) 0 0) ([] : List IP).length (flatI []) :=
  World.ownsRow_made w #[] 0 (Nat.le_refl _) (Nat.zero_le _) rfl
end Go.Proofs.YtnicnfjickknjaaDoor

namespace Go.Proofs.YtnicnfjickknjaaDoor
open Go.RowKit

theorem own_slice {W : World} {base n : Nat} {e : TypeId} {size : Nat} {v : Value} {xs : List Value} (h : W.ownsRow base e size v n xs) : ∃ ao cap, v = .slice ao n cap := by
  rcases h.2 with ⟨rfl, rfl⟩ | ⟨g, cap, cur, rfl, _⟩
  · exact ⟨none, 0, rfl⟩
  · exact ⟨_, cap, rfl⟩
end Go.Proofs.YtnicnfjickknjaaDoor

namespace Go.Proofs.YtnicnfjickknjaaDoor
open Go.RowKit

/-- append of items to a row of the call's own. -/
theorem wpList_appIs {w : World} {ops : Array Oper} {rest : List Oper} {o : Oper} {a : Act} {Q : Exit → Act → World → Prop} (hgd : o.guard = none) (s x : Operand)
    (ho : o.op = .call { callee := .builtin .append, args := #[s, x], argTypes := #[26, 26] })
    (base : Nat) (v : Value) (ps : List IP) (hs : a.eval s = v) (hown : w.ownsRow base 43 2 v ps.length (flatI ps))
    (bo : Option Addr) (m c : Nat) (qs : List IP) (hx : a.eval x = .slice bo m c) (hil : IL w bo m c qs) (hn : ps.length + m ≤ 1000000) (hbase : base ≤ w.heap.size)
    (h : ∀ v' w', w'.ownsRow base 43 2 v' (ps ++ qs).length (flatI (ps ++ qs)) → Below base w w' → wpList Tryd.prog ops Q rest (a.put o.dst v') w') : wpList Tryd.prog ops Q (o :: rest) a w := by
  obtain ⟨v', w', hr, h1, h2⟩ := run_appI (w := w) o.type hown hbase hil hn
  refine wpList_plain hgd fun _ hK => ?_
  unfold Oper.wp execOp
  simp only [ho, resolve, invoke, builtin, Sem.run_bind, Sem.run_pure, Result.andThen_ok, List.map_toArray, List.map_cons, List.map_nil, hs, hx, hr, Oper.upon]
  exact hK _ _ (h v' w' h1 h2)

theorem put_parts {l : List It} {k : Nat} {key : List Int} (h1 : ∀ x ∈ l.take k, cmpL x.k key < 0) (h2 : ∀ x ∈ l.drop k, ¬ cmpL x.k key < 0) : lo key l = l.take k ∧ hi key l = (l.drop k).filter fun x => decide (cmpL key x.k < 0) := by
  have e : l = l.take k ++ l.drop k := (List.take_append_drop k l).symm
  constructor
  · unfold lo
    conv => lhs; rw [e]
    rw [List.filter_append, List.filter_eq_self.2 fun x hx => decide_eq_true (h1 x hx), List.filter_eq_nil_iff.2 fun x hx => by simpa using h2 x hx, List.append_nil]
  · unfold hi
    conv => lhs; rw [e]
    rw [List.filter_append, List.filter_eq_nil_iff.2 fun x hx => by simpa using cmpL_asym (h1 x hx), List.nil_append]
theorem put_drop {l : List It} (hs : Srt l) {k : Nat} {key : List Int} (hk : ∀ x r, l.drop k = x :: r → ¬ cmpL x.k key < 0) : ∀ x ∈ l.drop k, ¬ cmpL x.k key < 0 := by
  intro x hx
  cases hd : l.drop k with
  | nil => rw [hd] at hx; simp at hx
  | cons y r =>
    rw [hd] at hx
    have hy := hk y r hd
    have hsd : Srt (y :: r) := by rw [← hd]; exact List.Pairwise.sublist (List.drop_sublist k l) hs
    rcases List.mem_cons.1 hx with rfl | hx
    · exact hy
    · intro hlt
      exact hy (cmpL_lt_trans _ _ _ (hsd.cons.1 x hx) hlt)
/-- With the key's own item there. -/
theorem put_same {l : List It} (hs : Srt l) {k : Nat} {x y : It} {r : List It} (h1 : ∀ z ∈ l.take k, cmpL z.k x.k < 0) (hd : l.drop k = y :: r) (hy : y.k = x.k) : l.take k ++ x :: r = ins l x := by
  have hsd : Srt (y :: r) := by rw [← hd]; exact List.Pairwise.sublist (List.drop_sublist k l) hs
  obtain ⟨e1, e2⟩ := put_parts h1 (put_drop hs fun z q hz => by rw [hd] at hz; obtain ⟨rfl, -⟩ := List.cons.inj hz; rw [hy]; exact cmpL_irr _)
  unfold ins
  rw [e1, e2, hd, List.filter_cons, if_neg (by rw [hy]; simpa using cmpL_irr x.k), List.filter_eq_self.2 fun z hz => decide_eq_true (by rw [← hy]; exact hsd.cons.1 z hz)]
/-- Without. -/
theorem put_new {l : List It} (hs : Srt l) {k : Nat} {x : It} (h1 : ∀ z ∈ l.take k, cmpL z.k x.k < 0) (hd : ∀ y r, l.drop k = y :: r → ¬ cmpL y.k x.k < 0 ∧ y.k ≠ x.k) : l.take k ++ x :: l.drop k = ins l x := by
  have h2 := put_drop hs fun z q hz => (hd z q hz).1
  obtain ⟨e1, e2⟩ := put_parts h1 h2
  unfold ins
  rw [e1, e2, List.filter_eq_self.2 fun z hz => decide_eq_true ?_]
  cases he : l.drop k with
  | nil => rw [he] at hz; simp at hz
  | cons y r =>
    have hsd : Srt (y :: r) := by rw [← he]; exact List.Pairwise.sublist (List.drop_sublist k l) hs
    obtain ⟨g1, g2⟩ := hd y r he
    have gy : cmpL x.k y.k < 0 := by
      rcases cmpL_total x.k y.k with h | h | h
      · exact h
      · exact absurd h.symm g2
      · exact absurd h g1
    rw [he] at hz
    rcases List.mem_cons.1 hz with rfl | hz
    · exact gy
    · exact cmpL_lt_trans _ _ _ gy (hsd.cons.1 z hz)
end Go.Proofs.YtnicnfjickknjaaDoor

namespace Go.Proofs.YtnicnfjickknjaaDoor
open Go.RowKit

theorem own_any3 {W : World} {base n : Nat} {e : TypeId} {size : Nat} {v : Value} {xs : List Value} (h : W.ownsRow base e size v n xs) : ∃ ao m cap, v = .slice ao m cap := by
  obtain ⟨ao, cap, rfl⟩ := own_slice h
  exact ⟨ao, _, cap, rfl⟩
/-- What it answers. -/
def RPutPost (w : World) (l : List It) (x : It) (e : Ending) (w' : World) : Prop := ∃ ro rn rc ps, e = .returned (.slice ro rn rc) ∧ IL w' ro rn rc ps ∧ ps.map IP.it = ins l x ∧ Below w.heap.size w w'

set_option maxHeartbeats 4000000 in
set_option maxRecDepth 100000 in
theorem rput7_any (w : World) (ao ko vo : Option Addr) (n cap kn kc vn vc : Nat) (its : List IP) (key val : List Int) (h : IL w ao n cap its) (hs : Srt (its.map IP.it)) (hk : Sl w ko kn kc key) (hv : Sl w vo vn vc val) (hn : n ≤ 100000) :
    Calls Tryd.prog 7 #[.slice ao n cap, .slice ko kn kc, .slice vo vn vc] w (RPutPost w (its.map IP.it) ⟨key, val⟩) := by
  have hl1 := Nat.le_of_eq h.len
  have hl2 := Nat.le_of_eq h.len.symm
  have hle := h.le
  have hnx : (n : Int) ≤ 100000 := by omega
  go_enter Tryd.func7, Tryd.ntmps7
  go_wp2
  go_loopw [7] (fun i wr => ∃ k : Nat, k ≤ n ∧ i = .int .i64 k ∧ (∀ q ∈ its.take k, cmpL q.k.xs key < 0) ∧ Below w.heap.size w wr) (fun i _ => n - (intOf i).toNat)
  case atStart => exact ⟨0, Nat.zero_le _, rfl, by simp, Below.refl _ _⟩
  case round =>
    obtain ⟨k, hkn, rfl, hj, hB⟩ := hrel
    have HJ : Hid (∀ q ∈ its.take k, cmpL q.k.xs key < 0) := hj
    have HL : Hid (∀ z ∈ (its.map IP.it).take k, cmpL z.k (⟨key, val⟩ : It).k < 0) := by
      show ∀ _, _
      intro z hz
      rw [← List.map_take] at hz
      obtain ⟨q, hq, rfl⟩ := List.mem_map.1 hz
      exact hj q hq
    clear hj
    have hki0 : (k : Int) ≤ 100000 := by omega
    have F1 : ∀ W, _ := fun W => run_upto2 (W := W) (ao := ao) (n := n) (cap := cap) (i := k) (by omega)
    have F2 : ∀ W, _ := fun W => run_back2 (W := W) (ao := ao) (n := n) (cap := cap) (j := k) (by omega)
    by_cases hlt : k < n
    · have hki : (k : Int) < (n : Int) := by omega
      have hkl : k < its.length := by omega
      have hck : cap ≠ k := by omega
      have S1 := h.sl its[k] (List.getElem_mem hkl)
      obtain ⟨b, off, rfl, hc0⟩ := (h.below hB).at (by omega)
      have ebk : bk2 (some ⟨b, off, none⟩) cap k = some ⟨b, off + k * 2, none⟩ := by unfold bk2; rw [if_neg hck]; simp [Addr.add_lit]
      rw [ebk] at F2
      obtain ⟨c1, -⟩ := hc0 k hkl
      have HD : Hid ((its.map IP.it).drop k = its[k].it :: (its.drop (k + 1)).map IP.it) := by show _ = _; rw [← List.map_drop, List.drop_eq_getElem_cons hkl]; rfl
      have HT : Hid (its.take (k + 1) = its.take k ++ [its[k]]) := List.take_succ_eq_append_getElem hkl
      obtain ⟨q, hq⟩ : ∃ q, q = its[k] := ⟨_, rfl⟩
      rw [← hq] at c1 S1 HD HT
      unfold Part.val at c1
      clear hc0 hq
      have CL := rbelow_any wr _ _ _ _ _ _ _ _ (S1.1.below hB) (hk.below hB)
      by_cases g1 : cmpL q.k.xs key < 0
      · rw [decide_eq_true g1] at CL
        have G1 : Hid (cmpL q.k.xs key < 0) := g1
        clear g1 F1 F2 ebk
        go_wp2_with fail
        refine CL.mono ?_
        rintro e w2 ⟨rfl, C2⟩
        clear CL
        go_wp2
        go_roundw
        case rel =>
          refine ⟨k + 1, by omega, by go_num, fun r hr => ?_, hB.trans (C2.mono hB.size)⟩
          rw [HT.out] at hr
          rcases List.mem_append.1 hr with hr | hr
          · exact HJ.out r hr
          · rw [List.mem_singleton.1 hr]
            exact G1.out
        case measure => simp [intOf]; omega
      · rw [decide_eq_false g1] at CL
        have G1 : Hid (¬ cmpL q.k.xs key < 0) := g1
        clear g1
        obtain ⟨d, hd⟩ : ∃ d, d = n - k := ⟨_, rfl⟩
        rw [← hd] at F2
        have hd1 : 0 < d := by omega
        have hd2 : d ≤ n := by omega
        have hdi : (d : Int) > 0 := by omega
        have HDD : Hid (d = n - k) := hd
        have F3 : ∀ W, _ := fun W => run_back2 (W := W) (ao := some ⟨b, off + k * 2, none⟩) (n := d) (cap := cap - k) (j := 1) (by omega)
        simp only [Int.natCast_one] at F3
        have ILR : IL w (some ⟨b, off + k * 2, none⟩) d (cap - k) (its.drop k) := by rw [hd, ← ebk]; exact h.from k hkn
        clear hd ebk
        go_wp2_with fail
        refine CL.mono ?_
        rintro e w2 ⟨rfl, C2⟩
        have c1 := (C2.cell (World.block_lt_of_cell? _ _ c1)).trans c1
        have B2 := hB.trans (C2.mono hB.size)
        clear CL C2
        have CS := same_any w2 _ _ _ _ _ _ _ _ (S1.1.below B2) (hk.below B2)
        by_cases g2 : q.k.xs = key
        · rw [decide_eq_true g2] at CS
          have G2 : Hid (q.k.xs = key) := g2
          clear g2
          go_wp2_with fail
          refine CS.mono ?_
          rintro e w3 ⟨rfl, z, hz⟩
          have BZ : Below w.heap.size w w3 := by rw [hz]; exact B2.trans (below_drewN _ _ _)
          clear CS hz
          have wzs := BZ.size
          have O0 := own_none w3
          have Ba : Below w3.heap.size w3 (w3.alloc (.cells #[] 43)) := (Below.refl _ w3).alloc (Nat.le_refl _) _
          have Bas := Ba.size
          have I0 := ((h.below BZ).front k (by omega)).below Ba
          have IR := ((ILR.below BZ).from 1 (by omega)).below (Below.refl _ _)
          go_wp2_with (at_builtin; first
            | (refine wpList_appIs rfl _ _ rfl w3.heap.size _ [] rfl O0 _ _ _ (its.take k) rfl I0 (by simp; omega) Bas ?_; intro v1 u1 own1 B1; obtain ⟨r1, n1, c1, e1⟩ := own_any3 own1; subst e1; have hu1 := B1.size; have ownN := own_below own1 ((Below.refl _ u1).alloc (Nat.le_refl _) (.cells #[.slice ko kn kc, .slice vo vn vc] 43)); have hnew := heap_alloc_new u1 (.cells #[.slice ko kn kc, .slice vo vn vc] 43); have BN : Below u1.heap.size u1 (u1.alloc (.cells #[.slice ko kn kc, .slice vo vn vc] 43)) := (Below.refl _ u1).alloc (Nat.le_refl _) _; have bsz := BN.size)
            | (refine wpList_appI rfl _ _ rfl w3.heap.size _ ([] ++ its.take k) rfl ownN _ _ ⟨⟨ko, kn, kc, key⟩, ⟨vo, vn, vc, val⟩⟩ rfl hnew (by simp only [List.nil_append, List.length_take]; omega) (by omega) ?_; intro v2 u2 own2 B2; have BB := (Ba.trans B1).trans ((BN.mono (by omega)).trans B2); have I2 := IR.below BB; have hu2 := B2.size; obtain ⟨r2, n2, c2, e2⟩ := own_any3 own2; subst e2)
            | (refine wpList_appIs rfl _ _ rfl w3.heap.size _ ([] ++ its.take k ++ [(⟨⟨ko, kn, kc, key⟩, ⟨vo, vn, vc, val⟩⟩ : IP)]) rfl own2 _ _ _ ((its.drop k).drop 1) rfl I2 (by simp only [List.nil_append, List.length_append, List.length_take, List.length_cons, List.length_nil]; omega) (by omega) ?_; intro v3 u3 own3 B3))
          have BF := BZ.trans ((BB.trans B3).mono BZ.size)
          obtain ⟨r3, c3, rfl, I3⟩ := own_items own3 (fun q hq => by
            simp only [List.nil_append, List.mem_append, List.mem_singleton] at hq
            rcases hq with (hq | rfl) | hq
            · exact (h.sl q (List.mem_of_mem_take hq)).below BF
            · exact ⟨hk.below BF, hv.below BF⟩
            · exact (h.sl q (List.mem_of_mem_drop (List.mem_of_mem_drop hq))).below BF)
          go_wp2
          go_ret
          refine ⟨_, _, _, _, rfl, I3, ?_, BF⟩
          have hd1 : (its.drop k).drop 1 = its.drop (k + 1) := by rw [List.drop_drop]
          rw [List.nil_append, List.append_assoc, List.map_append, List.map_append, hd1, List.map_take]
          exact put_same hs HL.out HD.out G2.out
        · rw [decide_eq_false g2] at CS
          have G2 : Hid (¬ q.k.xs = key) := g2
          clear g2 F3
          go_wp2_with fail
          refine CS.mono ?_
          rintro e w3 ⟨rfl, z, hz⟩
          have BZ : Below w.heap.size w w3 := by rw [hz]; exact B2.trans (below_drewN _ _ _)
          clear CS hz
          have wzs := BZ.size
          have O0 := own_none w3
          have Ba : Below w3.heap.size w3 (w3.alloc (.cells #[] 43)) := (Below.refl _ w3).alloc (Nat.le_refl _) _
          have Bas := Ba.size
          have I0 := ((h.below BZ).front k (by omega)).below Ba
          have IR := ILR.below BZ
          go_wp2_with (at_builtin; first
            | (refine wpList_appIs rfl _ _ rfl w3.heap.size _ [] rfl O0 _ _ _ (its.take k) rfl I0 (by simp; omega) Bas ?_; intro v1 u1 own1 B1; obtain ⟨r1, n1, c1, e1⟩ := own_any3 own1; subst e1; have hu1 := B1.size; have ownN := own_below own1 ((Below.refl _ u1).alloc (Nat.le_refl _) (.cells #[.slice ko kn kc, .slice vo vn vc] 43)); have hnew := heap_alloc_new u1 (.cells #[.slice ko kn kc, .slice vo vn vc] 43); have BN : Below u1.heap.size u1 (u1.alloc (.cells #[.slice ko kn kc, .slice vo vn vc] 43)) := (Below.refl _ u1).alloc (Nat.le_refl _) _; have bsz := BN.size)
            | (refine wpList_appI rfl _ _ rfl w3.heap.size _ ([] ++ its.take k) rfl ownN _ _ ⟨⟨ko, kn, kc, key⟩, ⟨vo, vn, vc, val⟩⟩ rfl hnew (by simp only [List.nil_append, List.length_take]; omega) (by omega) ?_; intro v2 u2 own2 B2; have BB := (Ba.trans B1).trans ((BN.mono (by omega)).trans B2); have I2 := IR.below BB; have hu2 := B2.size; obtain ⟨r2, n2, c2, e2⟩ := own_any3 own2; subst e2)
            | (refine wpList_appIs rfl _ _ rfl w3.heap.size _ ([] ++ its.take k ++ [(⟨⟨ko, kn, kc, key⟩, ⟨vo, vn, vc, val⟩⟩ : IP)]) rfl own2 _ _ _ (its.drop k) rfl I2 (by simp only [List.nil_append, List.length_append, List.length_take, List.length_cons, List.length_nil]; omega) (by omega) ?_; intro v3 u3 own3 B3))
          have BF := BZ.trans ((BB.trans B3).mono BZ.size)
          obtain ⟨r3, c3, rfl, I3⟩ := own_items own3 (fun q hq => by
            simp only [List.nil_append, List.mem_append, List.mem_singleton] at hq
            rcases hq with (hq | rfl) | hq
            · exact (h.sl q (List.mem_of_mem_take hq)).below BF
            · exact ⟨hk.below BF, hv.below BF⟩
            · exact (h.sl q (List.mem_of_mem_drop hq)).below BF)
          go_wp2
          go_ret
          refine ⟨_, _, _, _, rfl, I3, ?_, BF⟩
          rw [List.nil_append, List.append_assoc, List.map_append, List.map_append, List.map_take, List.map_drop]
          exact put_new hs HL.out (fun y r hy => by rw [HD.out] at hy; obtain ⟨rfl, -⟩ := List.cons.inj hy; exact ⟨by have := G1.out; show ¬ cmpL q.k.xs key < 0; omega, G2.out⟩)
    · have hge : ¬ (k : Int) < (n : Int) := by omega
      obtain ⟨d, hd⟩ : ∃ d, d = n - k := ⟨_, rfl⟩
      rw [← hd] at F2
      have hdi : ¬ (d : Int) > 0 := by omega
      have hd2 : d ≤ n := by omega
      have ILR : IL w (bk2 ao cap k) d (cap - k) (its.drop k) := by rw [hd]; exact h.from k hkn
      have HZ : Hid ((its.map IP.it).drop k = []) := List.drop_eq_nil_of_le (by simp; omega)
      clear hd
      have BZ := hB
      obtain ⟨a0, ha0⟩ : ∃ a, a = bk2 ao cap k := ⟨_, rfl⟩
      rw [← ha0] at F2 ILR
      clear ha0
      have wzs := BZ.size
      have O0 := own_none wr
      have Ba : Below wr.heap.size wr (wr.alloc (.cells #[] 43)) := (Below.refl _ wr).alloc (Nat.le_refl _) _
      have Bas := Ba.size
      have I0 := ((h.below BZ).front k (by omega)).below Ba
      have IR := ILR.below BZ
      go_wp2_with (at_builtin; first
        | (refine wpList_appIs rfl _ _ rfl wr.heap.size _ [] rfl O0 _ _ _ (its.take k) rfl I0 (by simp; omega) Bas ?_; intro v1 u1 own1 B1; obtain ⟨r1, n1, c1, e1⟩ := own_any3 own1; subst e1; have hu1 := B1.size; have ownN := own_below own1 ((Below.refl _ u1).alloc (Nat.le_refl _) (.cells #[.slice ko kn kc, .slice vo vn vc] 43)); have hnew := heap_alloc_new u1 (.cells #[.slice ko kn kc, .slice vo vn vc] 43); have BN : Below u1.heap.size u1 (u1.alloc (.cells #[.slice ko kn kc, .slice vo vn vc] 43)) := (Below.refl _ u1).alloc (Nat.le_refl _) _; have bsz := BN.size)
        | (refine wpList_appI rfl _ _ rfl wr.heap.size _ ([] ++ its.take k) rfl ownN _ _ ⟨⟨ko, kn, kc, key⟩, ⟨vo, vn, vc, val⟩⟩ rfl hnew (by simp only [List.nil_append, List.length_take]; omega) (by omega) ?_; intro v2 u2 own2 B2; have BB := (Ba.trans B1).trans ((BN.mono (by omega)).trans B2); have I2 := IR.below BB; have hu2 := B2.size; obtain ⟨r2, n2, c2, e2⟩ := own_any3 own2; subst e2)
        | (refine wpList_appIs rfl _ _ rfl wr.heap.size _ ([] ++ its.take k ++ [(⟨⟨ko, kn, kc, key⟩, ⟨vo, vn, vc, val⟩⟩ : IP)]) rfl own2 _ _ _ (its.drop k) rfl I2 (by simp only [List.nil_append, List.length_append, List.length_take, List.length_cons, List.length_nil]; omega) (by omega) ?_; intro v3 u3 own3 B3))
      have BF := BZ.trans ((BB.trans B3).mono BZ.size)
      obtain ⟨r3, c3, rfl, I3⟩ := own_items own3 (fun q hq => by
        simp only [List.nil_append, List.mem_append, List.mem_singleton] at hq
        rcases hq with (hq | rfl) | hq
        · exact (h.sl q (List.mem_of_mem_take hq)).below BF
        · exact ⟨hk.below BF, hv.below BF⟩
        · exact (h.sl q (List.mem_of_mem_drop hq)).below BF)
      go_wp2
      go_ret
      refine ⟨_, _, _, _, rfl, I3, ?_, BF⟩
      rw [List.nil_append, List.append_assoc, List.map_append, List.map_append, List.map_take, List.map_drop]
      exact put_new hs HL.out (fun y r hy => by rw [HZ.out] at hy; simp at hy)
end Go.Proofs.YtnicnfjickknjaaDoor

namespace Go.Proofs.YtnicnfjickknjaaDoor
open Go.RowKit

/-- Where a key is, or -1. -/
def FindPost (its : List IP) (key : List Int) (r : Int) : Prop := (r = -1 ∧ ∀ q ∈ its, q.k.xs ≠ key) ∨ ∃ (k : Nat) (h : k < its.length), r = k ∧ its[k].k.xs = key ∧ ∀ q ∈ its.take k, q.k.xs ≠ key

set_option maxHeartbeats 1000000 in
set_option maxRecDepth 100000 in
theorem rfind7_any (w : World) (ao : Option Addr) (n cap : Nat) (its : List IP) (ko : Option Addr) (kn kc : Nat) (key : List Int) (h : IL w ao n cap its) (hk : Sl w ko kn kc key) :
    Calls Tryd.prog 10 #[.slice ao n cap, .slice ko kn kc] w fun e w' => ∃ r, e = .returned (.int .i64 r) ∧ FindPost its key r ∧ Below w.heap.size w w' := by
  have hl1 := Nat.le_of_eq h.len
  have hl2 := Nat.le_of_eq h.len.symm
  have hmx := h.mx
  have hle := h.le
  have hnx : (n : Int) ≤ 9223372036854775807 := by unfold maxLen at hmx; omega
  go_enter Tryd.func10, Tryd.ntmps10
  go_wp2
  go_loopw [5] (fun i wr => ∃ k : Nat, k ≤ n ∧ i = .int .i64 k ∧ (∀ q ∈ its.take k, q.k.xs ≠ key) ∧ Below w.heap.size w wr) (fun i _ => n - (intOf i).toNat)
  case atStart => exact ⟨0, Nat.zero_le _, rfl, by simp, Below.refl _ _⟩
  case round =>
    obtain ⟨k, hkn, rfl, hj, hB⟩ := hrel
    have HJ : Hid (∀ q ∈ its.take k, q.k.xs ≠ key) := hj
    clear hj
    by_cases hlt : k < n
    · have hki : (k : Int) < (n : Int) := by omega
      have hkl : k < its.length := by omega
      obtain ⟨b, off, rfl, hc⟩ := (h.below hB).at (by omega)
      obtain ⟨c1, c2⟩ := hc k hkl
      have S1 := ((h.below hB).sl its[k] (List.getElem_mem hkl)).1
      have CS := same_any wr its[k].k.ao ko its[k].k.n its[k].k.cap kn kc its[k].k.xs key S1 (hk.below hB)
      have HT : Hid (its.take (k + 1) = its.take k ++ [its[k]]) := List.take_succ_eq_append_getElem hkl
      unfold Part.val at c1 c2
      clear hc
      by_cases hq : its[k].k.xs = key
      · have hd : decide (its[k].k.xs = key) = true := decide_eq_true hq
        rw [hd] at CS
        have HQ : Hid (its[k].k.xs = key) := hq
        clear hd hq S1
        go_wp2_with fail
        refine CS.mono ?_
        rintro e w2 ⟨rfl, q, rfl⟩
        clear CS
        go_wp2
        go_ret
        exact ⟨_, rfl, .inr ⟨k, hkl, rfl, HQ.out, HJ.out⟩, hB.trans (below_drewN _ _ _)⟩
      · have hd : decide (its[k].k.xs = key) = false := decide_eq_false hq
        rw [hd] at CS
        have HQ : Hid (¬ its[k].k.xs = key) := hq
        clear hd hq S1
        go_wp2_with fail
        refine CS.mono ?_
        rintro e w2 ⟨rfl, q, rfl⟩
        clear CS
        go_wp2
        go_roundw
        case rel =>
          refine ⟨k + 1, by omega, by go_num, fun r hr => ?_, hB.trans (below_drewN _ _ _)⟩
          rw [HT.out] at hr
          rcases List.mem_append.1 hr with hr | hr
          · exact HJ.out r hr
          · rw [List.mem_singleton.1 hr]
            exact HQ.out
        case measure => simp [intOf]; omega
    · have hge : ¬ (k : Int) < (n : Int) := by omega
      go_wp2
      go_ret
      refine ⟨_, rfl, .inl ⟨rfl, fun q hq => HJ.out q ?_⟩, hB⟩
      rw [List.take_of_length_le (by omega)]
      exact hq
end Go.Proofs.YtnicnfjickknjaaDoor

namespace Go.Proofs.YtnicnfjickknjaaDoor
open Go.RowKit

/-- What it answers. -/
def RDelPost (w : World) (its : List IP) (key : List Int) (e : Ending) (w' : World) : Prop := ∃ ro rn rc ps t, e = .returned (.tuple #[.slice ro rn rc, .bool t]) ∧ IL w' ro rn rc ps ∧
  (t = false → ps = its ∧ ∀ q ∈ its, q.k.xs ≠ key) ∧ (t = true → ∃ (k : Nat) (h : k < its.length), its[k].k.xs = key ∧ ps = its.take k ++ its.drop (k + 1)) ∧ Below w.heap.size w w'

set_option maxHeartbeats 4000000 in
set_option maxRecDepth 100000 in
theorem rdel7_any (w : World) (ao : Option Addr) (n cap : Nat) (its : List IP) (ko : Option Addr) (kn kc : Nat) (key : List Int) (h : IL w ao n cap its) (hk : Sl w ko kn kc key) (hn : n ≤ 100000) :
    Calls Tryd.prog 9 #[.slice ao n cap, .slice ko kn kc] w (RDelPost w its key) := by
  have hl1 := Nat.le_of_eq h.len
  have hl2 := Nat.le_of_eq h.len.symm
  have hle := h.le
  have CF := rfind7_any w ao n cap its ko kn kc key h hk
  go_enter Tryd.func9, Tryd.ntmps9
  go_wp2_with fail
  refine CF.mono ?_
  rintro e w1 ⟨r, rfl, hf, B1⟩
  clear CF
  rcases hf with ⟨rfl, hno⟩ | ⟨k, hkl, rfl, hke, -⟩
  · go_wp2
    go_ret2
    exact ⟨ao, n, cap, its, false, rfl, h.below B1, fun _ => ⟨rfl, hno⟩, by simp, B1⟩
  · have HK : Hid (its[k].k.xs = key) := hke
    clear hke
    have hk0 : ¬ (k : Int) < 0 := by omega
    have hk1 : (k : Int) ≤ 100000 := by omega
    have hw : IntKind.i64.wrap ((k : Int) + 1) = (k : Int) + 1 := by have := wrap_nat (k := k + 1) (by omega); simpa using this
    have F1 : ∀ W, _ := fun W => run_upto2 (W := W) (ao := ao) (n := n) (cap := cap) (i := k) (by omega)
    have F2 : ∀ W, _ := fun W => run_back2 (W := W) (ao := ao) (n := n) (cap := cap) (j := k + 1) (by omega)
    simp only [Int.natCast_add, Int.natCast_one] at F2
    go_wp2
    have HS : Hid (∀ V, Below w1.heap.size w1 V → True) := fun _ _ => trivial
    have E0 : Below w1.heap.size w1 w1.drew := (Below.refl _ _).drew
    refine wp_region_noPanic ?_
    refine wp_region_held_drew (S := fun V => True) (by kernel_rfl) (HS.out _ E0) (fun H0 => ?_)
    obtain ⟨v0, hv0⟩ : ∃ v, v = w1.drew := ⟨_, rfl⟩
    rw [← hv0] at E0 ⊢
    clear hv0
    refine hr_take_w 1 (some 14) (.slice ao n cap) rfl rfl (by kernel_rfl) (by kernel_rfl) (by kernel_rfl) rfl (fun W hW => by go_simp) H0 ?_
    simp only [Act.put, List.setIfInBounds_toArray, List.set_cons_zero, List.set_cons_succ]
    refine hr_take_w 2 (some 15) (.int .i64 k) rfl rfl (by kernel_rfl) (by kernel_rfl) (by kernel_rfl) rfl (fun W hW => by go_simp) H0 ?_
    simp only [Act.put, List.setIfInBounds_toArray, List.set_cons_zero, List.set_cons_succ]
    refine hr_take_w 3 (some 16) (.slice ao k cap) rfl rfl (by kernel_rfl) (by kernel_rfl) (by kernel_rfl) rfl (fun W hW => by simp [execOp, Act.eval, F1]) H0 ?_
    simp only [Act.put, List.setIfInBounds_toArray, List.set_cons_zero, List.set_cons_succ]
    refine hr_take_w 5 (some 18) (.slice ao n cap) rfl rfl (by kernel_rfl) (by kernel_rfl) (by kernel_rfl) rfl (fun W hW => by go_simp) H0 ?_
    simp only [Act.put, List.setIfInBounds_toArray, List.set_cons_zero, List.set_cons_succ]
    refine hr_take_w 6 (some 19) (.int .i64 k) rfl rfl (by kernel_rfl) (by kernel_rfl) (by kernel_rfl) rfl (fun W hW => by go_simp) H0 ?_
    simp only [Act.put, List.setIfInBounds_toArray, List.set_cons_zero, List.set_cons_succ]
    refine hr_take_w 7 (some 20) (.int .i64 ((k : Int) + 1)) rfl rfl (by kernel_rfl) (by kernel_rfl) (by kernel_rfl) rfl (fun W hW => by go_simp) H0 ?_
    simp only [Act.put, List.setIfInBounds_toArray, List.set_cons_zero, List.set_cons_succ]
    refine hr_take_w 8 (some 21) (.slice (bk2 ao cap (k + 1)) (n - (k + 1)) (cap - (k + 1))) rfl rfl (by kernel_rfl) (by kernel_rfl) (by kernel_rfl) rfl (fun W hW => by simp [execOp, Act.eval, F2]) H0 ?_
    simp only [Act.put, List.setIfInBounds_toArray, List.set_cons_zero, List.set_cons_succ]
    refine hr_ex 0 (some 13) rfl rfl (by kernel_rfl) rfl (R := fun v w' => ∃ g, v = .slice (some ⟨g, 0, none⟩) 0 0 ∧ w'.ownsRow w1.heap.size 43 2 (.slice (some ⟨g, 0, none⟩) 0 0) ([] : List IP).length (flatI []) ∧ Below v0.heap.size v0 w') (⟨_, _, by go_simp, _, rfl, own_base (own_none v0) E0.size, (Below.refl _ _).alloc (Nat.le_refl _) _⟩) ?_
    rintro v v1 ⟨g0, rfl, O0, C0⟩
    have E1 := E0.trans (C0.mono E0.size)
    have H1 := HS.out v1 E1
    refine ⟨H1, ?_⟩
    simp only [Act.put, List.setIfInBounds_toArray, List.set_cons_zero, List.set_cons_succ]
    refine hr_ex 4 (some 17) rfl rfl (by kernel_rfl) rfl (R := fun v w' => ∃ r1 n1 c1, v = .slice r1 n1 c1 ∧ w'.ownsRow w1.heap.size 43 2 (.slice r1 n1 c1) (([] : List IP) ++ its.take k).length (flatI (([] : List IP) ++ its.take k)) ∧ Below w1.heap.size v1 w') (by obtain ⟨v', w', hr, h3, h4⟩ := run_appI (w := v1) 26 O0 E1.size ((h.below (B1.trans (E1.mono B1.size))).front k (by omega)) (by simp; omega); obtain ⟨r1, c1, rfl⟩ := own_slice h3; exact ⟨_, w', by simp [execOp, Act.eval, resolve, invoke, builtin, hr], _, _, _, rfl, h3, h4⟩) ?_
    rintro v v2 ⟨r1, n1, c1, rfl, O1, C1⟩
    have E2 := E1.trans C1
    have H2 := HS.out v2 E2
    refine ⟨H2, ?_⟩
    simp only [Act.put, List.setIfInBounds_toArray, List.set_cons_zero, List.set_cons_succ]
    refine hr_ex 9 (some 22) rfl rfl (by kernel_rfl) rfl (R := fun v w' => ∃ r2 n2 c2, v = .slice r2 n2 c2 ∧ w'.ownsRow w1.heap.size 43 2 (.slice r2 n2 c2) (([] : List IP) ++ its.take k ++ its.drop (k + 1)).length (flatI (([] : List IP) ++ its.take k ++ its.drop (k + 1))) ∧ Below w1.heap.size v2 w') (by obtain ⟨v', w', hr, h3, h4⟩ := run_appI (w := v2) 26 O1 E2.size ((h.below (B1.trans (E2.mono B1.size))).from (k + 1) (by omega)) (by simp; omega); obtain ⟨r2, c2, rfl⟩ := own_slice h3; exact ⟨_, w', by simp [execOp, Act.eval, resolve, invoke, builtin, hr], _, _, _, rfl, h3, h4⟩) ?_
    rintro v v3 ⟨r2, n2, c2, rfl, O2, C2⟩
    have E3 := E2.trans C2
    have H3 := HS.out v3 E3
    refine ⟨H3, ?_⟩
    simp only [Act.put, List.setIfInBounds_toArray, List.set_cons_zero, List.set_cons_succ]
    refine hr_take_w 10 (some 4) (.slice r2 n2 c2) rfl rfl (by kernel_rfl) (by kernel_rfl) (by kernel_rfl) rfl (fun W hW => by go_simp) H3 ?_
    simp only [Act.put, List.setIfInBounds_toArray, List.set_cons_zero, List.set_cons_succ]
    refine hr_take_w 11 (some 5) (.bool true) rfl rfl (by kernel_rfl) (by kernel_rfl) (by kernel_rfl) rfl (fun W hW => by go_simp) H3 ?_
    simp only [Act.put, List.setIfInBounds_toArray, List.set_cons_zero, List.set_cons_succ]
    refine wpAnyH_done (by kernel_rfl) ?_ _
    refine NoPanic.normal ?_
    obtain ⟨r3, c3, e3, I3⟩ := own_items O2 (fun q hq => (h.sl q (by
      simp only [List.nil_append, List.mem_append] at hq
      rcases hq with hq | hq
      · exact List.mem_of_mem_take hq
      · exact List.mem_of_mem_drop hq)).below (B1.trans (E3.mono B1.size)))
    simp only [Value.slice.injEq] at e3
    obtain ⟨rfl, rfl, rfl⟩ := e3
    go_wp2
    go_ret2
    exact ⟨_, _, _, (([] : List IP) ++ its.take k ++ its.drop (k + 1)), true, rfl, I3, by simp, fun _ => ⟨k, hkl, HK.out, by simp⟩, B1.trans (E3.mono B1.size)⟩
end Go.Proofs.YtnicnfjickknjaaDoor

namespace Go.Proofs.YtnicnfjickknjaaDoor
open Go.RowKit

set_option maxHeartbeats 4000000 in
set_option maxRecDepth 100000 in
theorem ritems7_any (w : World) (ao xo ho : Option Addr) (n cap xn xc hn hc : Nat) (its : List IP) (lo hi : List Int) (m : Int) (h : IL w ao n cap its) (hx : Sl w xo xn xc lo) (hh : Sl w ho hn hc hi) (hnn : n ≤ 100000) :
    Calls Tryd.prog 15 #[.slice ao n cap, .slice xo xn xc, .slice ho hn hc, .int .i64 m] w (ItemsPost w (its.map IP.it) lo hi m) := by
  have hl1 := Nat.le_of_eq h.len
  have hl2 := Nat.le_of_eq h.len.symm
  have hnx : (n : Int) ≤ 100000 := by omega
  go_enter Tryd.func15, Tryd.ntmps15
  go_wp2
  go_loopw [10, 11] (fun o i wr => ∃ (k : Nat) (ps : List IP), k ≤ n ∧ i = .int .i64 k ∧ wr.ownsRow w.heap.size 43 2 o ps.length (flatI ps) ∧ (∀ q ∈ ps, q.ok w) ∧ ps.map IP.it = btw lo hi ((its.take k).map IP.it) ∧ ps.length ≤ m.toNat ∧ ps.length ≤ k ∧ Below w.heap.size w wr) (fun _ i _ => n - (intOf i).toNat)
  case atStart => exact ⟨0, [], Nat.zero_le _, rfl, World.ownsRow_nil w _ _ 2, by simp, by simp [btw, ge], Nat.zero_le _, Nat.zero_le _, Below.refl _ _⟩
  case round =>
    obtain ⟨k, ps, hk, rfl, own, hsl, hj, hpm, hpk, hB⟩ := hrel
    have HJ : Hid (ps.map IP.it = btw lo hi ((its.take k).map IP.it)) := hj
    clear hj
    obtain ⟨ro, rc, ho', IR⟩ := own_items own (fun q hq => (hsl q hq).below hB)
    subst ho'
    by_cases hlt : k < n
    · have hki : (k : Int) < (n : Int) := by omega
      have hkl : k < its.length := by omega
      obtain ⟨b, off, rfl, hc0⟩ := (h.below hB).at (by omega)
      obtain ⟨c1, c2⟩ := hc0 k hkl
      have S1 := h.sl its[k] (List.getElem_mem hkl)
      have HT : Hid ((its.take (k + 1)).map IP.it = (its.take k).map IP.it ++ [its[k].it]) := by show _ = _; rw [List.take_succ_eq_append_getElem hkl, List.map_append]; rfl
      have HD : Hid (its.map IP.it = (its.take (k + 1)).map IP.it ++ (its.drop (k + 1)).map IP.it) := by show _ = _; rw [← List.map_append, List.take_append_drop]
      obtain ⟨q, hq⟩ : ∃ q, q = its[k] := ⟨_, rfl⟩
      rw [← hq] at c1 c2 S1 HT
      unfold Part.val at c1 c2
      clear hc0 hq
      have CL : ∀ W, Below wr.heap.size wr W → Calls Tryd.prog 30 #[.slice q.k.ao q.k.n q.k.cap, .slice xo xn xc] W fun e w' => e = .returned (.bool (decide (cmpL q.k.xs lo < 0))) ∧ Below W.heap.size W w' := fun W hW => rbelow_any W _ _ _ _ _ _ _ _ ((S1.1.below hB).below hW) ((hx.below hB).below hW)
      have CH : ∀ W, Below wr.heap.size wr W → Calls Tryd.prog 30 #[.slice q.k.ao q.k.n q.k.cap, .slice ho hn hc] W fun e w' => e = .returned (.bool (decide (cmpL q.k.xs hi < 0))) ∧ Below W.heap.size W w' := fun W hW => rbelow_any W _ _ _ _ _ _ _ _ ((S1.1.below hB).below hW) ((hh.below hB).below hW)
      by_cases g1 : cmpL q.k.xs lo < 0
      · have e1 : decide (cmpL q.k.xs lo < 0) = true := decide_eq_true g1
        rw [e1] at CL
        have HN : Hid (ps.map IP.it = btw lo hi ((its.take (k + 1)).map IP.it)) := by
          show _ = _
          rw [HT.out, btw_snoc, if_neg (fun e => e.1 g1), List.append_nil]
          exact HJ.out
        clear e1 g1 CH
        go_wp2_with fail
        refine (CL wr (Below.refl _ _)).mono ?_
        rintro e w2 ⟨rfl, C2⟩
        clear CL
        go_wp2
        go_roundw
        case rel => exact ⟨k + 1, ps, by omega, by go_num, own_below own C2, hsl, HN.out, hpm, by omega, hB.trans (C2.mono hB.size)⟩
        case measure => simp [intOf]; omega
      have e1 : decide (cmpL q.k.xs lo < 0) = false := decide_eq_false g1
      rw [e1] at CL
      by_cases g2 : cmpL q.k.xs hi < 0
      · have e2 : decide (cmpL q.k.xs hi < 0) = true := decide_eq_true g2
        rw [e2] at CH
        have HN : Hid (btw lo hi ((its.take (k + 1)).map IP.it) = ps.map IP.it ++ [q.it]) := by
          show _ = _
          rw [HT.out, btw_snoc, if_pos ⟨g1, g2⟩, HJ.out]
        clear e1 e2 g1 g2
        go_wp2_with fail
        refine (CL wr (Below.refl _ _)).mono ?_
        rintro e w2 ⟨rfl, C2⟩
        have c1 := (C2.cell (World.block_lt_of_cell? _ _ c1)).trans c1
        have c2 := (C2.cell (World.block_lt_of_cell? _ _ c2)).trans c2
        clear CL
        go_wp2_with fail
        refine (CH w2 C2).mono ?_
        rintro e w3 ⟨rfl, C3⟩
        have c1 := (C3.cell (World.block_lt_of_cell? _ _ c1)).trans c1
        have c2 := (C3.cell (World.block_lt_of_cell? _ _ c2)).trans c2
        have C := C2.trans (C3.mono C2.size)
        have own := own_below own C
        have hB := hB.trans (C.mono hB.size)
        have IR := IR.below C
        clear CH C2 C3 C
        by_cases g3 : m ≤ (ps.length : Int)
        · have g3' : (ps.length : Int) ≥ m := g3
          have HE : Hid (ps.map IP.it = (btw lo hi (its.map IP.it)).take m.toNat ∧ true = decide (m.toNat < (btw lo hi (its.map IP.it)).length)) := by
            have hml : m.toNat = ps.length := by omega
            have E : btw lo hi (its.map IP.it) = ps.map IP.it ++ (q.it :: btw lo hi ((its.drop (k + 1)).map IP.it)) := by rw [HD.out, btw_app, HN.out, List.append_assoc]; rfl
            exact ⟨by rw [E, hml, List.take_left' (by simp)], by rw [E, hml]; exact (decide_eq_true (by simp)).symm⟩
          go_wp2
          go_ret2
          exact ⟨ro, ps.length, rc, ps, true, rfl, IR, HE.out.1, HE.out.2, hB⟩
        have g3' : ¬ (ps.length : Int) ≥ m := g3
        have hbs := hB.size
        have ownN := own_below own ((Below.refl _ w3).alloc (Nat.le_refl _) (.cells #[.slice q.k.ao q.k.n q.k.cap, .slice q.v.ao q.v.n q.v.cap] 43))
        have hnew := heap_alloc_new w3 (.cells #[.slice q.k.ao q.k.n q.k.cap, .slice q.v.ao q.v.n q.v.cap] 43)
        have BN : Below w3.heap.size w3 (w3.alloc (.cells #[.slice q.k.ao q.k.n q.k.cap, .slice q.v.ao q.v.n q.v.cap] 43)) := (Below.refl _ w3).alloc (Nat.le_refl _) _
        have bsz := BN.size
        go_wp2_with (at_builtin; refine wpList_appI rfl _ _ rfl w.heap.size _ ps rfl ownN _ _ q rfl hnew (by omega) (by omega) ?_; intro v1 w1 own1 B1)
        go_wp2
        go_roundw
        case rel =>
          refine ⟨k + 1, ps ++ [q], by omega, by go_num, own1, fun r hr => ?_, ?_, by simp; omega, by simp; omega, hB.trans ((BN.mono hbs).trans B1)⟩
          · rcases List.mem_append.1 hr with hr | hr
            · exact hsl r hr
            · rw [List.mem_singleton.1 hr]
              exact S1
          · rw [HN.out, List.map_append]
            rfl
        case measure => simp [intOf]; omega
      · have e2 : decide (cmpL q.k.xs hi < 0) = false := decide_eq_false g2
        rw [e2] at CH
        have HN : Hid (ps.map IP.it = btw lo hi ((its.take (k + 1)).map IP.it)) := by
          show _ = _
          rw [HT.out, btw_snoc, if_neg (fun e => g2 e.2), List.append_nil]
          exact HJ.out
        clear e1 e2 g1 g2
        go_wp2_with fail
        refine (CL wr (Below.refl _ _)).mono ?_
        rintro e w2 ⟨rfl, C2⟩
        have c1 := (C2.cell (World.block_lt_of_cell? _ _ c1)).trans c1
        have c2 := (C2.cell (World.block_lt_of_cell? _ _ c2)).trans c2
        clear CL
        go_wp2_with fail
        refine (CH w2 C2).mono ?_
        rintro e w3 ⟨rfl, C3⟩
        have C := C2.trans (C3.mono C2.size)
        clear CH C2 C3
        go_wp2
        go_roundw
        case rel => exact ⟨k + 1, ps, by omega, by go_num, own_below own C, hsl, HN.out, hpm, by omega, hB.trans (C.mono hB.size)⟩
        case measure => simp [intOf]; omega
    · have hge : ¬ (k : Int) < (n : Int) := by omega
      have HE : Hid (ps.map IP.it = (btw lo hi (its.map IP.it)).take m.toNat ∧ false = decide (m.toNat < (btw lo hi (its.map IP.it)).length)) := by
        have E : btw lo hi (its.map IP.it) = ps.map IP.it := by rw [HJ.out, List.take_of_length_le (by omega)]
        exact ⟨by rw [E, List.take_of_length_le (by simpa using hpm)], by rw [E]; exact (decide_eq_false (by simp; omega)).symm⟩
      go_wp2
      go_ret2
      exact ⟨ro, ps.length, rc, ps, false, rfl, IR, HE.out.1, HE.out.2, hB⟩
end Go.Proofs.YtnicnfjickknjaaDoor

namespace Go.Proofs.YtnicnfjickknjaaDoor
open Go.RowKit

theorem str_append (xs ys : List Int) : strOfNums xs ++ strOfNums ys = strOfNums (xs ++ ys) := by
  apply ByteArray.ext
  simp [strOfNums]

theorem below_chain {n : Nat} {w a b c : World} (h : Below n w a) (k : Below b.heap.size b c) (e1 : b.heap = a.heap) (e2 : b.os = a.os) (e3 : b.tape = a.tape) (e4 : b.output = a.output) (hn : n ≤ a.heap.size) : Below n w c :=
  ⟨(k.os.trans e2).trans h.os, (k.tape.trans e3).trans h.tape, (k.output.trans e4).trans h.output, Nat.le_trans h.size (by have := k.size; rw [e1] at this; exact this), fun i hi => (k.block i (by rw [e1]; omega)).trans (by rw [e1]; exact h.block i hi)⟩

/-- A slice that reads as some bytes, as a string. -/
theorem conv_sl {w : World} {b o n cap : Nat} {xs : List Int} (h : Sl w (some ⟨b, o, none⟩) n cap xs) : (convert 23 9 (.slice (some ⟨b, o, none⟩) n cap)).run Tryd.prog w = .ok (.string (strOfNums xs)) w := by
  refine run_convert_bytes_arg w 23 5 Tryd.underlying23 Tryd.underlying5 b o n cap xs h.len (fun i hi => ?_) 9 Tryd.underlying9
  have := h.cell _ rfl i hi
  rwa [add_at] at this

set_option maxRecDepth 100000 in
set_option maxHeartbeats 1000000 in
theorem rdigit_any (c : Int) (hc : 0 ≤ c ∧ c < 16) (w : World) :
    Calls Tryd.prog 74 #[.int .u8 c] w fun e w' => e = .returned (.string (strOfNums [dg c])) ∧ Below w.heap.size w w' := by
  have c0 := hc.1
  have c1 := hc.2
  by_cases h10 : c < 10
  · have e : dg c = 48 + c := by simp [dg, h10]
    have hcv := conv_sl (Sl.one w (48 + c) (by omega))
    rw [e]
    clear e
    go_enter Tryd.func74, Tryd.ntmps74
    go_wp2
    go_ret
    exact ⟨rfl, (Below.refl _ w).alloc (Nat.le_refl _) _⟩
  · have e : dg c = 97 + c - 10 := by simp only [dg, h10, if_false]; omega
    have hcv := conv_sl (Sl.one w (97 + c - 10) (by omega))
    have h10' : (10 : Int) ≤ c := by omega
    rw [e]
    clear e h10
    go_enter Tryd.func74, Tryd.ntmps74
    go_wp2
    go_ret
    exact ⟨rfl, (Below.refl _ w).alloc (Nat.le_refl _) _⟩

set_option maxRecDepth 100000 in
set_option maxHeartbeats 2000000 in
theorem rhex_any (w : World) (ao : Option Addr) (m cap : Nat) (xs : List Int) (hL : Sl w ao m cap xs) (hm : m ≤ 70368744177664) :
    Calls Tryd.prog 56 #[.slice ao m cap] w fun e w' => e = .returned (.string (strOfNums (hexL xs))) ∧ Below w.heap.size w w' := by
  have hln := hL.len
  have hmi : (m : Int) ≤ 70368744177664 := by omega
  go_enter Tryd.func56, Tryd.ntmps56
  go_wp2
  go_loopw [3, 4] (fun s i wr => ∃ k : Nat, k ≤ m ∧ i = .int .i64 k ∧ s = .string (strOfNums (hexL (xs.take k))) ∧ Below w.heap.size w wr) (fun _ i _ => m - (intOf i).toNat)
  case atStart => exact ⟨0, by omega, rfl, rfl, Below.refl _ _⟩
  case round =>
    obtain ⟨k, hk, rfl, rfl, hB⟩ := hrel
    by_cases hlt : k < m
    · have hki : (k : Int) < (m : Int) := by omega
      obtain ⟨b, off, rfl, hcl⟩ := hL.at (by omega)
      have c0 := hcl k hlt
      have hbl : b < w.heap.size := World.block_lt_of_cell? w _ c0
      have hb := hL.byte.at k
      have HS : Hid (hexL (xs.take (k + 1)) = hexL (xs.take k) ++ [dg (xs.getD k 0 / 16)] ++ [dg (xs.getD k 0 % 16)]) := hexL_succ xs k (by omega)
      have hbe : xs[k]?.getD 0 = xs.getD k 0 := rfl
      rw [hbe] at hb
      obtain ⟨x, hx⟩ : ∃ x, x = xs.getD k 0 := ⟨_, rfl⟩
      rw [← hx] at c0 hb HS
      clear hbe hx hcl
      have b0 := hb.1
      have b1 := hb.2
      have cw : wr.cell? ⟨b, off + k, none⟩ = some (.int .u8 x) := (hB.cell (p := ⟨b, off + k, none⟩) hbl).trans c0
      have q1 : IntKind.u8.wrap (x.tdiv 16) = x / 16 := by
        rw [IntKind.wrap_u8', Int.tdiv_eq_ediv_of_nonneg b0]
        omega
      have q2 : x.tmod 16 = x % 16 := Int.tmod_eq_emod_of_nonneg b0
      have q3 : IntKind.u8.wrap (x % 16) = x % 16 := by
        rw [IntKind.wrap_u8']
        omega
      obtain ⟨S0, hS0⟩ : ∃ S, S = strOfNums (hexL (xs.take k)) := ⟨_, rfl⟩
      have z0 : S0.size ≤ 140737488355328 := by rw [hS0, strOfNums_size, hexL_take_len _ _ (by omega)]; omega
      have a1 : ∀ w, (Op.stringOp .add S0 (strOfNums [dg (x / 16)])).run Tryd.prog w = .ok (.string (S0 ++ strOfNums [dg (x / 16)])) w := fun w => run_string_add_sum w _ _ (by rw [strOfNums_size, List.length_singleton]; omega)
      have a2 : ∀ w, (Op.stringOp .add (S0 ++ strOfNums [dg (x / 16)]) (strOfNums [dg (x % 16)])).run Tryd.prog w = .ok (.string (S0 ++ strOfNums [dg (x / 16)] ++ strOfNums [dg (x % 16)])) w := fun w => run_string_add_sum w _ _ (by rw [ByteArray.size_append, strOfNums_size, strOfNums_size, List.length_singleton, List.length_singleton]; omega)
      rw [← hS0]
      have HS0 : Hid (S0 = _) := hS0
      clear hS0
      go_wp2_with fail
      go_region_held3 (fun w' => w'.cell? ⟨b, off + k, none⟩ = some (.int .u8 x))
        (first | go_keep | assumption)
        (first | (go_at_call 74; (try rw [q1]); (try rw [q2]); refine (rdigit_any _ (by omega) _).mono ?_; rintro e w2 ⟨rfl, C2⟩; first | (have hB2 := below_chain hB C2 rfl rfl rfl rfl hB.size; clear hB C2; have c2 := (hB2.cell (p := ⟨b, off + k, none⟩) hbl).trans c0) | (have hB3 := below_chain hB2 C2 rfl rfl rfl rfl hB2.size; clear hB2 C2; have c3 := (hB3.cell (p := ⟨b, off + k, none⟩) hbl).trans c0)))
      go_wp2
      go_roundw
      case rel =>
        refine ⟨k + 1, by omega, by go_num, ?_, hB3⟩
        rw [HS.out, HS0.out, str_append, str_append]
      case measure => simp [intOf]; omega
    · have hge : (m : Int) ≤ (k : Int) := by omega
      have e : xs.take k = xs := List.take_of_length_le (by omega)
      rw [e]
      clear e
      go_wp2
      go_ret
      exact ⟨rfl, hB⟩

end Go.Proofs.YtnicnfjickknjaaDoor

namespace Go.Proofs.YtnicnfjickknjaaDoor
open Go.RowKit

set_option maxHeartbeats 800000 in
set_option maxRecDepth 100000 in
theorem rUint_any (w : World) (ao : Option Addr) (k cap n : Nat) (xs : List Int) (h : Sl w ao k cap xs) (hr : k + 30 ≤ 140737488355328) (hn : n < 18446744073709551616) :
    Calls Tryd.prog 59 #[.slice ao k cap, .int .u64 n] w fun e w' =>
      ∃ v, e = .returned v ∧ w'.ownsRow w.heap.size 5 1 v (k + (enc n).length) (bv (xs ++ enc n)) ∧ Below w.heap.size w w' := by
  have hA := h.below ((Below.refl w.heap.size w).alloc (Nat.le_refl _) (.cells #[] 5))
  have hO := own_empty w
  go_enter Tryd.func59, Tryd.ntmps59
  go_wp2_with (at_builtin; refine wpList_app rfl _ _ rfl w.heap.size _ _ _ rfl hO _ _ _ _ rfl hA (by omega) (by simp) ?_; intro v1 w1 hown1 hb1)
  have hb : Below w.heap.size w w1 := ((Below.refl w.heap.size w).alloc (Nat.le_refl _) _).trans hb1
  have hlen := enc_length hn
  simp only [Nat.zero_add, List.nil_append] at hown1
  clear hb1 hO hA
  go_loopw [0, 1] (fun b m wr => ∃ (j : Nat) (ys : List Int), m = .int .u64 j ∧ j < 18446744073709551616 ∧ ys ++ enc j = enc n ∧ wr.ownsRow w.heap.size 5 1 b (k + ys.length) (bv (xs ++ ys)) ∧ Below w.heap.size w wr) (fun _ m _ => (intOf m).toNat)
  case atStart => exact ⟨n, [], rfl, hn, rfl, by simpa using hown1, hb⟩
  case round =>
    obtain ⟨m, ys, rfl, hm, hys, hown', hbel⟩ := hrel
    have hp := enc_pos m
    have hy9 : ys.length + (enc m).length ≤ 10 := by have := congrArg List.length hys; simp at this; omega
    have hsz := hbel.size
    have HY : Hid (ys ++ enc m = enc n) := hys
    clear hys
    by_cases hlt : m < 128
    · go_wp2_with (at_builtin; refine wpList_app rfl _ _ rfl w.heap.size _ _ _ rfl (hown'.alloc _) _ _ _ _ rfl (Sl.one wr _ (by omega)) (by omega) (by simp; omega) ?_; intro v2 w2 hown2 hb2)
      have e2 := HY.out
      rw [enc_small hlt] at e2
      have ho : w2.ownsRow w.heap.size 5 1 v2 (k + (enc n).length) (bv (xs ++ enc n)) := by
        rw [← e2, ← List.append_assoc]
        simpa [Nat.add_assoc] using hown2
      have hb3 := (hbel.alloc hsz _).trans hb2
      clear hown2 hb2
      go_ret
      exact ⟨v2, rfl, ho, hb3⟩
    · go_wp2_with (at_builtin; refine wpList_app rfl _ _ rfl w.heap.size _ _ _ rfl (hown'.alloc _) _ _ _ _ rfl (Sl.one wr _ (by omega)) (by omega) (by simp; omega) ?_; intro v2 w2 hown2 hb2)
      have e2 := HY.out
      rw [enc_big (n := m) (by omega) hm] at e2
      have ho : w2.ownsRow w.heap.size 5 1 v2 (k + (ys ++ [((m % 128 + 128 : Nat) : Int)]).length) (bv (xs ++ (ys ++ [((m % 128 + 128 : Nat) : Int)]))) := by
        rw [← List.append_assoc]
        simpa [Nat.add_assoc] using hown2
      have hb3 := (hbel.alloc hsz _).trans hb2
      clear hown2 hb2
      go_wp2
      go_roundw
      case rel => exact ⟨m / 128, ys ++ [((m % 128 + 128 : Nat) : Int)], by go_num, by omega, by rw [← e2]; simp, ho, hb3⟩
      case measure => simp [intOf]; omega

set_option maxHeartbeats 400000 in
theorem rBytes_any (w : World) (ao bo : Option Addr) (n cap m cap2 : Nat) (xs ys : List Int) (h : Sl w ao n cap xs) (h2 : Sl w bo m cap2 ys) (hr : n + m + 60 ≤ 140737488355328) :
    Calls Tryd.prog 60 #[.slice ao n cap, .slice bo m cap2] w fun e w' =>
      ∃ v, e = .returned v ∧ w'.ownsRow w.heap.size 5 1 v (n + (enc m).length + m) (bv (xs ++ enc m ++ ys)) ∧ Below w.heap.size w w' := by
  go_enter Tryd.func60, Tryd.ntmps60
  go_wp2_with fail
  refine (rUint_any w ao n cap m xs h (by omega) (by omega)).mono ?_
  rintro e w1 ⟨v1, rfl, hown1, hb1⟩
  have hs := hb1.size
  have hl := enc_length (n := m) (by omega)
  have h3 := h2.below hb1
  go_wp2_with (at_builtin; refine wpList_app rfl _ _ rfl w.heap.size _ _ _ rfl hown1 _ _ _ _ rfl h3 (by omega) (by omega) ?_; intro v3 w3 hown3 hb3)
  have hb4 := hb1.trans hb3
  clear hb1 hown1 hb3 h3
  go_ret
  exact ⟨v3, rfl, hown3, hb4⟩
end Go.Proofs.YtnicnfjickknjaaDoor

/-
  Texts in one: BackLaw11, OTypO, OTypC, Laid7.
-/
import Derived.Test.YtlljmhcgjkolpaaGreatDoorSplitBackQ27
import Derived.Test.YtlljmhcgjkolpaaGreatDoorSplitBackQ29
import Derived.Test.YtlljmhcgjkolpaaGreatDoorSplitBackQ4
import Derived.Test.YtlljmhcgjkolpaaGreatDoorRows
import Derived.Test.YtlljmhcgjkolpaaGreatDoorSplitBackQ0
import Derived.ProofKit
import Derived.LaidMore
import Derived.Lay
import Derived.OpenShut
import Derived.Lib.LaidU8
import Derived.Stop.Joined
namespace Go.Proofs.YtlljmhcgjkolpaaGreatDoor
open Go.RowKit Go.Sort
set_option maxHeartbeats 8000000 in
set_option maxRecDepth 100000 in
theorem splitBack_any (W : World) (f t : ByteArray) (a0 : Option Addr) (n0 c0 : Nat) (l : List CA) (a : ByteArray) (hf0 : f.size ≤ maxLen) (ht0 : t.size ≤ maxLen) (L0 : CL W a0 n0 c0 l) (sm0 : ∀ c ∈ l, c.small) (hT : Tabs W) :
    Calls Tryz.prog 6 #[.string f, .string t, .slice a0 n0 c0, .string a] W fun e w' => e = .returned (.bool true) ∧ Below W.heap.size W w' := by
  have t2 := hT.two
  have HTb : Hid (Tabs W) := hT
  have AL := fun (V : World) (hV : Below W.heap.size W V) => alive11 V (hT.below hV t2)
  have HAL : Hid (∀ (V : World) (hV : Below W.heap.size W V), Calls Tryz.prog 19 #[] V fun e w' => e = .returned (.bool true) ∧ Below V.heap.size V w') := AL
  have CM := made_any W f t a0 n0 c0 l hT hf0 ht0 L0 sm0
  clear AL hT sm0 L0
  go_enter Tryz.func6, Tryz.ntmps6
  go_wp2_with fail
  refine CM.mono ?_
  rintro e w1 (⟨p, bo, bm, bc, ml, rfl, hp, hst, hlm, hnk, X1, L1, hml, B1⟩ | ⟨x, y, z, a', b, c, rfl, B1⟩)
  case inr =>
    have BA : Below w1.heap.size w1 (w1.alloc (.cells #[.string y, .string z, .slice a' b c] 39)) := (Below.refl _ _).alloc (Nat.le_refl _) _
    have B2 := B1.trans (BA.mono B1.size)
    have AV := HAL.out _ B2
    clear CM
    go_wp2_with fail
    refine AV.mono ?_
    rintro e wz ⟨rfl, Cz⟩
    go_wp2
    go_ret
    exact ⟨rfl, B2.trans (Cz.mono B2.size)⟩
  obtain ⟨cs, hcs⟩ : ∃ cs, cs = layAll [] (l.map CA.c) := ⟨_, rfl⟩
  rw [← hcs] at hst hlm X1 hml
  clear hcs CM
  have HST : Hid (Stand f t 20 cs) := hst
  have HLM : Hid (Lim cs) := hlm
  have HML : Hid (ml.map CA.c = cs) := hml
  have HNK : Hid (newK f t = 0) := hnk
  obtain ⟨hf32, ht32, -⟩ := newK_ok hnk
  obtain ⟨q, hq⟩ : ∃ q, q = w1.heap.size := ⟨_, rfl⟩
  obtain ⟨w2, hw2⟩ : ∃ V, V = w1.alloc (.cells #[.string f, .string t, .slice bo bm bc] 39) := ⟨_, rfl⟩
  have C2 : Below w1.heap.size w1 w2 := by rw [hw2]; exact (Below.refl _ _).alloc (Nat.le_refl _) _
  have M2 : Arr w2 q 39 [.string f, .string t, .slice bo bm bc] := by rw [hw2, hq]; exact heap_alloc_new w1 _
  have B2 := B1.trans (C2.mono B1.size)
  have X2 := X1.below C2
  have L2 := L1.below C2
  clear hst hlm hml X1 L1 hnk
  by_cases g1 : a.size ≤ 100
  case neg =>
    have i1 : (100 : Int) < (a.size : Int) := by omega
    have AV := HAL.out w2 B2
    go_wp2_with fail
    rw [← hw2]
    refine AV.mono ?_
    rintro e wz ⟨rfl, Cz⟩
    go_wp2
    go_ret
    exact ⟨rfl, B2.trans (Cz.mono B2.size)⟩
  have i1 : ¬ (100 : Int) < (a.size : Int) := by omega
  have CS := split_any w2 p f t a cs (HTb.out.below B2 t2) X2 (HST.out.mono (by decide)) HLM.out HNK.out (by omega)
  go_wp2_with fail
  rw [← hw2]
  clear hw2 hq
  refine CS.mono ?_
  rintro e w3 (⟨hk0, q1, q2, hq1, hq2, rfl, Y1, Y2, C3⟩ | ⟨hk1, rfl, C3⟩)
  case inr =>
    have B3 := B2.trans (C3.mono B2.size)
    obtain ⟨k, hk⟩ : ∃ k, k = splitK f t a := ⟨_, rfl⟩
    rw [← hk] at hk1 ⊢
    have z0 : (k != 0) = true := by simp [hk1]
    clear CS hk
    have AV := HAL.out w3 B3
    go_wp2_with fail
    refine AV.mono ?_
    rintro e wz ⟨rfl, Cz⟩
    go_wp2
    go_ret
    exact ⟨rfl, B3.trans (Cz.mono B3.size)⟩
  have B3 := B2.trans (C3.mono B2.size)
  have X3 := X2.below C3
  obtain ⟨s1, s2, s3, s4⟩ := splitK_ok hk0
  have SL := (low_rows HST.out : Stand f a 20 _)
  have SH := (high_rows HST.out : Stand a t 20 _)
  have LL := HLM.out.filter (belR a)
  have LH := HLM.out.filter (fun c => !(belR a c))
  have hk1 : newK f a = 0 := newK_of ⟨hf32, s2, .inr s3⟩
  have hk2 : newK a t = 0 := newK_of ⟨s2, ht32, s4⟩
  have hjn : cs.filter (belR a) ++ cs.filter (fun c => !(belR a c)) = cs := cut_join HST.out.srt (fun c hc => (HST.out.good c hc).time) a
  obtain ⟨lo, hlo⟩ : ∃ x, x = cs.filter (belR a) := ⟨_, rfl⟩
  obtain ⟨hi, hhi⟩ : ∃ x, x = cs.filter (fun c => !(belR a c)) := ⟨_, rfl⟩
  rw [← hlo] at Y1 SL LL hjn
  rw [← hhi] at Y2 SH LH hjn
  have hlen : lo.length + hi.length = cs.length := by rw [← hjn, List.length_append]
  have hc20 := HST.out.len
  have CG := merge_ok w3 q1 q2 f a t 20 20 lo hi (HTb.out.below B3 t2) Y1 Y2 SL SH LL LH (by omega) hk1 hk2 (by omega)
  rw [hjn] at CG
  have HLN : Hid (lo.length + hi.length = cs.length) := hlen
  clear CS X2 hlo hhi hjn
  go_wp2_with fail
  refine CG.mono ?_
  rintro e w4 ⟨u, rfl, hu, X4, C4⟩
  have B4 := B3.trans (C4.mono B3.size)
  have hbad : t.size = 0 ∨ t ≠ f := by
    rcases s4 with h | h
    · exact .inl h
    · refine .inr fun e => ?_
      rw [e] at h
      exact cmpL_asym s3 h
  have CB := merge_bad w4 q2 q1 a t f a hi lo (Y2.below C4) (Y1.below C4) hbad
  clear CG
  go_wp2_with fail
  refine CB.mono ?_
  rintro e w5 ⟨rfl, C5⟩
  have B5 := B4.trans (C5.mono B4.size)
  have X5 := X4.below C5
  have T5 := (X3.below C4).below C5
  have Y1 := (Y1.below C4).below C5
  have Y2 := (Y2.below C4).below C5
  clear CB X4 X3
  have CR := troot_any w5 u f t cs (HTb.out.below B5 t2) X5 HST.out.good (by omega) hf32 ht32
  go_wp2_with fail
  refine CR.mono ?_
  rintro e w6 ⟨ro, rc, rfl, S6, C6⟩
  have B6 := B5.trans (C6.mono B5.size)
  have T6 := T5.below C6
  clear CR
  have CR := troot_any w6 p f t cs (HTb.out.below B6 t2) T6 HST.out.good (by omega) hf32 ht32
  go_wp2_with fail
  refine CR.mono ?_
  rintro e w7 ⟨ro2, rc2, rfl, S7, C7⟩
  have B7 := B6.trans (C7.mono B6.size)
  have T7 := T6.below C7
  have CM := same_true w7 ro ro2 32 rc 32 rc2 _ (S6.below C7) S7
  clear CR
  go_wp2_with fail
  refine CM.mono ?_
  rintro e w8 ⟨rfl, C8⟩
  have B8 := B7.trans (C8.mono B7.size)
  have T8 := T7.below C8
  have Y1 := ((Y1.below C6).below C7).below C8
  have Y2 := ((Y2.below C6).below C7).below C8
  clear CM
  have CE := cells_st w8 q1 f a lo Y1 SL.srt SL.good hf32 s2 SL.rows (by omega)
  go_wp2_with fail
  refine CE.mono ?_
  rintro e w9 ⟨o1, n1, p1, l1, rfl, L9, -, hl9, C9⟩
  have B9 := B8.trans (C9.mono B8.size)
  clear CE
  have CE := cells_st w9 q2 a t hi (Y2.below C9) SH.srt SH.good s2 ht32 SH.rows (by omega)
  go_wp2_with fail
  refine CE.mono ?_
  rintro e w10 ⟨o2, n2, p2, l2, rfl, L10, -, hl10, C10⟩
  have B10 := B9.trans (C10.mono B9.size)
  clear CE
  have CE := cells_st w10 p f t cs ((T8.below C9).below C10) HST.out.srt HST.out.good hf32 ht32 HST.out.rows (by omega)
  go_wp2_with fail
  refine CE.mono ?_
  rintro e w11 ⟨o3, n3, p3, l3, rfl, L11, -, hl11, C11⟩
  have B11 := B10.trans (C11.mono B10.size)
  have e1 : n1 = lo.length := by rw [← hl9, List.length_map]; exact L9.len.symm
  have e2 : n2 = hi.length := by rw [← hl10, List.length_map]; exact L10.len.symm
  have e3 : n3 = cs.length := by rw [← hl11, List.length_map]; exact L11.len.symm
  have hsum : n1 + n2 = n3 := by have := HLN.out; omega
  have h20 : n1 + n2 ≤ 40 := by omega
  have hw : IntKind.i64.wrap ((n1 : Int) + (n2 : Int)) = (n1 : Int) + (n2 : Int) := by rw [IntKind.wrap_i64]; omega
  have hw6 : wrap64 ((n1 : Int) + (n2 : Int)) = (n1 : Int) + (n2 : Int) := by unfold wrap64; omega
  have heq : (((n1 : Int) + (n2 : Int)) == (n3 : Int)) = true := by simp; omega
  have AV := HAL.out w11 B11
  clear CE e1 e2 e3 hsum L9 L10 L11 hl9 hl10 hl11 hlen
  go_wp2_with fail
  refine AV.mono ?_
  rintro e wz ⟨rfl, Cz⟩
  go_wp2
  go_ret
  exact ⟨rfl, B11.trans (Cz.mono B11.size)⟩
open Go.RowKit
def opT : OpTypes Tryz.prog where
  op := 28
  key := 24
  int := 3
  str := 9
  u64 := 22
  bys := 25
  u8 := 5
  bool := 4
  subs := 26
  f0 := { name := "Kind", type := 3, offset := 0, embedded := false, tag := "", pkgPath := "", byteOffset := 0 }
  f1 := { name := "K", type := 24, offset := 1, embedded := false, tag := "", pkgPath := "", byteOffset := 8 }
  f2 := { name := "To", type := 9, offset := 5, embedded := false, tag := "", pkgPath := "", byteOffset := 64 }
  f3 := { name := "Value", type := 25, offset := 6, embedded := false, tag := "", pkgPath := "", byteOffset := 80 }
  f4 := { name := "Want", type := 25, offset := 7, embedded := false, tag := "", pkgPath := "", byteOffset := 104 }
  f5 := { name := "Has", type := 4, offset := 8, embedded := false, tag := "", pkgPath := "", byteOffset := 128 }
  f6 := { name := "Sub", type := 26, offset := 9, embedded := false, tag := "", pkgPath := "", byteOffset := 136 }
  g0 := { name := "Row", type := 9, offset := 0, embedded := false, tag := "", pkgPath := "", byteOffset := 0 }
  g1 := { name := "Family", type := 9, offset := 1, embedded := false, tag := "", pkgPath := "", byteOffset := 16 }
  g2 := { name := "Qual", type := 9, offset := 2, embedded := false, tag := "", pkgPath := "", byteOffset := 32 }
  g3 := { name := "Time", type := 22, offset := 3, embedded := false, tag := "", pkgPath := "", byteOffset := 48 }
  hop := Tryz.underlying28
  hkey := Tryz.underlying24
  hint := Tryz.underlying3
  hstr := Tryz.underlying9
  hu64 := Tryz.underlying22
  hbys := Tryz.underlying25
  hu8 := Tryz.underlying5
  hbool := Tryz.underlying4
  hsubs := Tryz.underlying26
  cop := by kernel_rfl
  ckey := by kernel_rfl
  cint := by kernel_rfl
  cstr := by kernel_rfl
  cu64 := by kernel_rfl
  cbys := by kernel_rfl
  cu8 := by kernel_rfl
  bu8 := by kernel_rfl
  cbool := by kernel_rfl
  csubs := by kernel_rfl
  o0 := ⟨rfl, rfl⟩
  o1 := ⟨rfl, rfl⟩
  o2 := ⟨rfl, rfl⟩
  o3 := ⟨rfl, rfl⟩
  o4 := ⟨rfl, rfl⟩
  o5 := ⟨rfl, rfl⟩
  o6 := ⟨rfl, rfl⟩
  p0 := ⟨rfl, rfl⟩
  p1 := ⟨rfl, rfl⟩
  p2 := ⟨rfl, rfl⟩
  p3 := ⟨rfl, rfl⟩
open Go.RowKit
def cellT : CellTypes Tryz.prog opT where
  cel := 33
  cels := 31
  f0 := { name := "K", type := 24, offset := 0, embedded := false, tag := "", pkgPath := "", byteOffset := 0 }
  f1 := { name := "Value", type := 25, offset := 4, embedded := false, tag := "", pkgPath := "", byteOffset := 56 }
  f2 := { name := "Gone", type := 4, offset := 5, embedded := false, tag := "", pkgPath := "", byteOffset := 80 }
  hcel := Tryz.underlying33
  hcels := Tryz.underlying31
  ccel := by kernel_rfl
  o0 := ⟨rfl, rfl⟩
  o1 := ⟨rfl, rfl⟩
  o2 := ⟨rfl, rfl⟩
open Go.RowKit
abbrev laidL : List (String × DataW Unit) := [("unicode/utf8.acceptRanges", Rows.laid_unicode_utf8_acceptRanges), ("bulwark/digest.firstWords", Rows.laid_bulwark_digest_firstWords), ("bulwark/digest.roundWords", Rows.laid_bulwark_digest_roundWords), ("unicode/utf8.first", Rows.laid_unicode_utf8_first)]
theorem gFirst : Tryz.prog.globalNamed "bulwark/digest.firstWords" = some 1 := by kernel_rfl
theorem gRound : Tryz.prog.globalNamed "bulwark/digest.roundWords" = some 0 := by kernel_rfl
theorem tFirst : (Tryz.prog.globals[1]?).map (·.type) = some 163 := by kernel_rfl
theorem tRound : (Tryz.prog.globals[0]?).map (·.type) = some 194 := by kernel_rfl
theorem laidL_plain : (laidL.all fun x => x.2.handleName?.isNone) = true := by kernel_rfl
theorem all_met (os : Os) (args : Array Value) : laidMetH Tryz.prog laidL ((World.laidAll Tryz.prog os laidL).forCall (fun _ _ => 0) ⟨#[], args, []⟩).memory := by
  rw [MakeChecks.laidMetH_plain _ _ _ laidL_plain]
  exact laidMet_laidAll _ (by kernel_rfl) (by kernel_rfl)
theorem words_of {H : Type} {enc : TypeId × Value → H} {w : World} {base : Nat} {sp : Nat → Bool} {held : Bool} {fuel n : Nat} {t : TypeId} {cs : List Value} {zs : List Int} {p : List MemPlace}
    (ht : Tryz.prog.underlying t = some (.array n 162)) (h : DataW.trod enc Tryz.prog w base sp held fuel t cs = some (.agg (zs.map fun z => .lit (.int .u32 z)), p)) (hz : zs.length = n) :
    ∀ (j : Nat) (v : Value), (wv zs)[j]? = some v → cs[j]? = some v := by
  intro j v hv
  have hj : j < zs.length := by have := (List.getElem?_eq_some_iff.1 hv).1; rwa [wv_length] at this
  rw [wv_get zs j hj] at hv
  obtain rfl := Option.some.inj hv
  obtain ⟨f', d, q, hd, he⟩ := Lib.array_elem ht h j (by omega)
  have c1 : Tryz.prog.cellsOf 162 = 1 := by kernel_rfl
  rw [c1, Nat.mul_one] at he
  obtain ⟨k, e1, e2, _⟩ := DataW.trod_int Tryz.underlying162 he
  simp only [Prod.mk.injEq] at e2
  rw [e2.1] at hd
  simp only [List.getElem?_map, List.getElem?_eq_getElem hj, Option.map_some, Option.some.injEq, DataW.lit.injEq, Lit.int.injEq, true_and] at hd
  have : (cs.drop j)[0]? = some (.int .u32 k) := by
    have := congrArg (fun l : List Value => l[0]?) e1
    simpa [List.getElem?_take] using this
  rw [List.getElem?_drop, Nat.add_zero] at this
  rw [this, ← hd]
  simp [List.getD, hj]
theorem tabs_of {W : World} (h : laidMetH Tryz.prog laidL W) : Tabs W := by
  rw [MakeChecks.laidMetH_plain _ _ _ laidL_plain] at h
  obtain ⟨ps, ⟨gx, tx, csx, fx, px, qx, _, _, _, _, ⟨g0, t0, cs0, f0, p0, q0, hg0, ht0, hv0, hd0, ⟨g1, t1, cs1, f1, p1, q1, hg1, ht1, hv1, hd1, _, _⟩, _⟩, _⟩, _, _⟩ := h
  obtain rfl := Option.some.inj (gFirst.symm.trans hg0)
  obtain rfl := Option.some.inj (gRound.symm.trans hg1)
  obtain rfl := Option.some.inj (tFirst.symm.trans ht0)
  obtain rfl := Option.some.inj (tRound.symm.trans ht1)
  have hA := words_of (zs := H0) Tryz.underlying163 hd0 rfl
  have hB := words_of (zs := K0) Tryz.underlying194 hd1 rfl
  have cA : ∀ j v, (wv H0)[j]? = some v → W.cell? ⟨1, j, none⟩ = some v := fun j v hv => by
    rw [World.var?_cell hg0 hv0 j]
    simpa using hA j v hv
  refine ⟨cA, fun j v hv => ?_, ?_⟩
  · rw [World.var?_cell hg1 hv1 j]
    simpa using hB j v hv
  · have := block_lt_of_cell (cA 0 _ rfl)
    exact this
end Go.Proofs.YtlljmhcgjkolpaaGreatDoor

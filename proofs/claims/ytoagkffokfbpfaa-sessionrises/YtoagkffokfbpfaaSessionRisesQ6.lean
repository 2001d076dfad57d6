/-
  Texts in one: PText, RdOr, KeyT, Read, HRegB, BsBlk, PRdRM.
-/
import Derived.Test.YtoagkffokfbpfaaSessionRisesQ0
import Derived.Test.YtoagkffokfbpfaaSessionRisesQ5
import Derived.Test.YtoagkffokfbpfaaSessionRisesQ2
import Derived.Test.YtoagkffokfbpfaaSessionRisesQ3
namespace Go.Proofs.Ytoagkffokfbpfaa
open Go.RowKit
def Left (w : World) (p L : Nat) (t : List Int × Int) (w' : World) : Prop := R w' p L t.1 t.2 ∧ w.grownBy w' (some p)
set_option maxRecDepth 100000 in
set_option maxHeartbeats 1000000 in
theorem ttext_any (w : World) (p L : Nat) (xs : List Int) (k : Int) (h : R w p L xs k) :
    Calls Try.prog 63 #[.pointer (some ⟨p, 0, none⟩)] w fun e w' => e = .returned (.string (txT 32 xs k).1) ∧ Left w p L (txT 32 xs k).2 w' := by
  go_enter Try.func63, Try.ntmps63
  go_wp2_with fail
  refine (bytes_any w p L xs k 32 (by decide) h).mono ?_
  rintro e w1 ⟨ao, n, cap, rfl, S1, _, R1, G1⟩
  have c1 := conv_str S1
  obtain ⟨y, hy⟩ : ∃ y, y = strOfNums (bytesS xs k 32).1 := ⟨_, rfl⟩
  have HY : Hid (y = strOfNums (bytesS xs k 32).1) := hy
  rw [← hy] at c1
  have HR : Hid (R w1 p L (bytesS xs k 32).2.1 (bytesS xs k 32).2.2) := R1
  clear hy S1 R1 h
  go_wp2
  go_ret
  exact ⟨by show Ending.returned (Value.string y) = _; rw [HY.out]; exact rfl, HR.out, G1⟩
theorem grown_own {w W : World} {p q i : Nat} {v : Value} (h : w.grownBy W (some p)) (hq : w.heap.size ≤ q) : w.grownBy (W.setCell ⟨q, i, none⟩ v) (some p) :=
  ⟨h.os, h.tape, h.output, by rw [World.size_setCell]; exact h.size, fun j hj hne => (Below.heap_setCell W ⟨q, i, none⟩ v j (by show j ≠ q; omega)).trans (h.block j hj hne)⟩
theorem R.own {W : World} {p L q i : Nat} {v : Value} {xs : List Int} {k : Int} (h : R W p L xs k) (hp : p < q) (hL : L ≤ q) : R (W.setCell ⟨q, i, none⟩ v) p L xs k := h.keep (by omega) hL (grown_setCell W q i v)
theorem R.plt {W : World} {p L : Nat} {xs : List Int} {k : Int} (h : R W p L xs k) : p < W.heap.size ∧ L ≤ p := by
  obtain ⟨ao, n, cap, h⟩ := h
  exact ⟨h.plt, h.le⟩
def zeroKA : KA := ⟨⟨#[]⟩, ⟨#[]⟩, ⟨#[]⟩, 0⟩
def keyOf (q : ByteArray × ByteArray × ByteArray × Nat) : KA := ⟨q.1, q.2.1, q.2.2.1, q.2.2.2⟩
theorem KyC.grown {V V' : World} {q p : Nat} {k : KA} (h : KyC V q k) (hg : V.grownBy V' (some p)) (hne : q ≠ p) : KyC V' q k := (hg.block q h.lt (by simp; omega)).trans h
set_option maxRecDepth 100000 in
set_option maxHeartbeats 4000000 in
theorem tkey_any (w : World) (p L : Nat) (xs : List Int) (k : Int) (h : R w p L xs k) :
    Calls Try.prog 56 #[.pointer (some ⟨p, 0, none⟩)] w fun e w' => e = .returned (keyOf (keyT xs k).1).val ∧ Left w p L (keyT xs k).2 w' := by
  have hpl := h.plt
  have K0 : KyC (w.alloc (.cells #[.string ⟨#[]⟩, .string ⟨#[]⟩, .string ⟨#[]⟩, .int .u64 0] 79)) w.heap.size zeroKA := heap_alloc_new w _
  have B0 : Below w.heap.size w (w.alloc (.cells #[.string ⟨#[]⟩, .string ⟨#[]⟩, .string ⟨#[]⟩, .int .u64 0] 79)) := (Below.refl _ w).alloc (Nat.le_refl _) _
  have R0 := h.below B0
  have G0 : w.grownBy _ (some p) := grown_below B0
  clear h
  go_enter Try.func56, Try.ntmps56
  go_wp2_with fail
  obtain ⟨w0, hw0⟩ : ∃ W, W = w.alloc (.cells #[.string ⟨#[]⟩, .string ⟨#[]⟩, .string ⟨#[]⟩, .int .u64 0] 79) := ⟨_, rfl⟩
  obtain ⟨N, hN⟩ : ∃ N, N = w.heap.size := ⟨_, rfl⟩
  rw [← hw0] at K0 R0 G0 ⊢
  rw [← hN] at K0 ⊢
  have HN : Hid (N = w.heap.size) := hN
  have hne : N ≠ p := by omega
  have hpN : p < N ∧ L ≤ N := by omega
  clear hw0 hN B0
  refine (ttext_any w0 p L xs k R0).mono ?_
  rintro e w1 ⟨rfl, R1, G1⟩
  obtain ⟨r1, e1⟩ : ∃ r, r = txT 32 xs k := ⟨_, rfl⟩
  have E1 : Hid (r1 = txT 32 xs k) := e1
  rw [← e1] at R1 ⊢
  clear e1
  have K1 := K0.grown G1 hne
  have G1 := grown_trans G0 G1
  clear K0 R0 G0
  go_wp2_with fail
  refine (ttext_any w1 p L r1.2.1 r1.2.2 R1).mono ?_
  rintro e w2 ⟨rfl, R2, G2⟩
  obtain ⟨r2, e2⟩ : ∃ r, r = txT 32 r1.2.1 r1.2.2 := ⟨_, rfl⟩
  have E2 : Hid (r2 = txT 32 r1.2.1 r1.2.2) := e2
  rw [← e2] at R2 ⊢
  clear e2
  have K2 := K1.grown G2 hne
  have G2 := grown_trans G1 G2
  clear K1 R1 G1
  go_wp2_with fail
  refine (ttext_any w2 p L r2.2.1 r2.2.2 R2).mono ?_
  rintro e w3 ⟨rfl, R3, G3⟩
  obtain ⟨r3, e3⟩ : ∃ r, r = txT 32 r2.2.1 r2.2.2 := ⟨_, rfl⟩
  have E3 : Hid (r3 = txT 32 r2.2.1 r2.2.2) := e3
  rw [← e3] at R3 ⊢
  clear e3
  have K3 := K2.grown G3 hne
  have G3 := grown_trans G2 G3
  clear K2 R2 G2
  go_wp2_with fail
  refine (uint_any w3 p L r3.2.1 r3.2.2 R3).mono ?_
  rintro e w4 ⟨rfl, R4, G4⟩
  obtain ⟨r4, e4⟩ : ∃ r, r = uintS r3.2.1 r3.2.2 := ⟨_, rfl⟩
  have E4 : Hid (r4 = uintS r3.2.1 r3.2.2) := e4
  rw [← e4] at R4 ⊢
  clear e4
  have K4 := K3.grown G4 hne
  have G4 := grown_trans G3 G4
  clear K3 R3 G3
  have q0 := K4.c0
  have q1 := K4.c1
  have q2 := K4.c2
  have q3 := K4.c3
  have f0 : w4.frozen? ⟨N, 0, none⟩ = false := frozen_of_row w4 N 0 _ _ K4
  have f1 : w4.frozen? ⟨N, 1, none⟩ = false := frozen_of_row w4 N 1 _ _ K4
  have f2 : w4.frozen? ⟨N, 2, none⟩ = false := frozen_of_row w4 N 2 _ _ K4
  have f3 : w4.frozen? ⟨N, 3, none⟩ = false := frozen_of_row w4 N 3 _ _ K4
  have lt := K4.lt
  have hwN : w.heap.size ≤ N := by rw [HN.out]; exact Nat.le_refl _
  have RF : R ((((w4.setCell ⟨N, 0, none⟩ (.string r1.1)).setCell ⟨N, 1, none⟩ (.string r2.1)).setCell ⟨N, 2, none⟩ (.string r3.1)).setCell ⟨N, 3, none⟩ (.int .u64 r4.1)) p L r4.2.1 r4.2.2 := (((R4.own hpN.1 hpN.2).own hpN.1 hpN.2).own hpN.1 hpN.2).own hpN.1 hpN.2
  have GF : w.grownBy ((((w4.setCell ⟨N, 0, none⟩ (.string r1.1)).setCell ⟨N, 1, none⟩ (.string r2.1)).setCell ⟨N, 2, none⟩ (.string r3.1)).setCell ⟨N, 3, none⟩ (.int .u64 r4.1)) (some p) := grown_own (grown_own (grown_own (grown_own G4 hwN) hwN) hwN) hwN
  have HK : Hid (keyT xs k = ((r1.1, r2.1, r3.1, r4.1), r4.2)) := by
    show _ = _
    unfold keyT andT
    rw [← E1.out, ← E2.out, ← E3.out, ← E4.out]
  clear hne hpN G4 R4 K4
  go_wp2
  refine bodyPost_ret (v := .agg #[.string r1.1, .string r2.1, .string r3.1, .int .u64 r4.1]) (by simp [results, Try.results56, go_sem, q0, q1, q2, q3]) rfl ⟨?_, ?_⟩
  · rw [HK.out]
    rfl
  · rw [HK.out]
    exact ⟨RF, GF⟩
open Go.RowKit
theorem rd_or {α : Type} (f : Th α) (kind : α → Int) (xs : List Int) : rdT f kind xs = if or2 (doneS (f xs 0).2.1 (f xs 0).2.2) (kind (f xs 0).1) = 0 then .inr (f xs 0).1 else .inl (or2 (doneS (f xs 0).2.1 (f xs 0).2.2) (kind (f xs 0).1)) := by
  unfold rdT or2
  by_cases c : doneS (f xs 0).2.1 (f xs 0).2.2 = 0
  · simp only [c, if_true]
  · simp only [c, if_false]
open Go.RowKit
theorem txT_ok {xs : List Int} (h : Byt xs) {k : Int} : (txT 32 xs k).1.size ≤ 32 := by
  show (strOfNums (bytesS xs k ((32 : Nat) : Int)).1).size ≤ 32
  rw [str_size (bytesS_byt h k 32).1]
  exact bytesS_le xs k 32
theorem txT_byt {xs : List Int} (h : Byt xs) {k : Int} : Byt (txT 32 xs k).2.1 := (bytesS_byt h k 32).2
theorem keyT_ok {xs : List Int} (h : Byt xs) {k : Int} : (keyT xs k).1.1.size ≤ 32 ∧ (keyT xs k).1.2.1.size ≤ 32 ∧ (keyT xs k).1.2.2.1.size ≤ 32 ∧ (keyT xs k).1.2.2.2 < 18446744073709551616 :=
  ⟨txT_ok h, txT_ok (txT_byt h), txT_ok (txT_byt (txT_byt h)), uintS_lt (txT_byt (txT_byt (txT_byt h)))⟩
open Go.RowKit
set_option maxHeartbeats 400000 in
theorem clone_any (w : World) (ao : Option Addr) (n cap : Nat) (xs : List Int) (h : Sl w ao n cap xs) (hr : n ≤ 140737488355328) :
    Calls Try.prog 39 #[.slice ao n cap] w fun e w' => ∃ v, e = .returned v ∧ w'.ownsRow w.heap.size 5 1 v n (bv xs) ∧ Below w.heap.size w w' := by
  have hA := h.below ((Below.refl w.heap.size w).alloc (Nat.le_refl _) (.cells #[] 5))
  have hO := own_empty w
  have hq : ∀ W, (binOp .eql 22 (.slice ao n cap) (.slice none 0 0)).run Try.prog W = .ok (.bool ao.isNone) W := fun W => Lib.run_eql_slice_nil W _ _ ao n cap 0 0 Try.underlying22
  cases ao with
  | none =>
    obtain ⟨rfl, rfl⟩ := h.nil rfl
    obtain rfl : xs = [] := List.eq_nil_of_length_eq_zero h.len
    go_enter Try.func39, Try.ntmps39
    go_wp2
    go_ret
    exact ⟨_, rfl, World.ownsRow_nil _ _ _ _, Below.refl _ _⟩
  | some a =>
    go_enter Try.func39, Try.ntmps39
    go_wp2_with (at_builtin; refine wpList_app rfl _ _ rfl w.heap.size _ _ _ rfl hO _ _ _ _ rfl hA (by omega) (by simp) ?_; intro v1 w1 hown1 hb1)
    simp only [Nat.zero_add, List.nil_append] at hown1
    have hb2 := ((Below.refl w.heap.size w).alloc (Nat.le_refl _) _).trans hb1
    clear hb1 hO hA hq
    go_ret
    exact ⟨v1, rfl, hown1, hb2⟩
theorem new_reader (w : World) (t : TypeId) (bo : Option Addr) (n c : Nat) (xs : List Int) (hsl : Sl w bo n c xs) (hlt : ∀ a, bo = some a → 0 < n → a.block < w.heap.size) (hn : n ≤ 1000000) :
    R (w.alloc (.cells #[.slice bo n c, .int .i64 0] t)) w.heap.size w.heap.size xs 0 := by
  refine ⟨bo, n, c, ?_, ?_, ?_, ?_, hsl.below ((Below.refl _ w).alloc (Nat.le_refl _) _), hlt, Nat.le_refl _, hn⟩
  · go_simp
  · go_simp
  · go_simp
  · go_simp
set_option maxHeartbeats 400000 in
theorem read_any (w : World) (ao : Option Addr) (n cap : Nat) (xs : List Int) (h : Sl w ao n cap xs) (hr : n ≤ 1000000) :
    Calls Try.prog 17 #[.slice ao n cap] w fun e w' => ∃ p, e = .returned (.pointer (some ⟨p, 0, none⟩)) ∧ w.heap.size ≤ p ∧ R w' p p xs 0 ∧ Below w.heap.size w w' := by
  go_enter Try.func17, Try.ntmps17
  go_wp2_with fail
  refine (clone_any w ao n cap xs h (by omega)).mono ?_
  rintro e w1 ⟨v1, rfl, hown1, hb1⟩
  obtain ⟨bo, c2, rfl, hsl, hbo⟩ := Sl.own hown1 h.byte
  have hs := hb1.size
  have hfin := new_reader w1 85 bo n c2 xs hsl (fun a ha _ => (hbo a ha).2.1) hr
  have hb2 := hb1.alloc hs (.cells #[.slice bo n c2, .int .i64 0] 85)
  clear hown1 hsl hbo hb1
  go_wp2
  go_ret
  exact ⟨w1.heap.size, rfl, hs, hfin, hb2⟩
end Go.Proofs.Ytoagkffokfbpfaa
namespace Go
section
variable {P : Program} {ops : Array Oper} {S : World → Prop} {Q : Exit → Act → World → Prop} {fuel : Nat} {listed : Array Bool} {a : Act} {w : World}
theorem op_do (i : Nat) (d : Option Tmp) (v : Value) {oi : Oper} {w' : World} (hi : ops[i]? = some oi) (hd : oi.dst = d) (hg : oi.guard = none) (hrun : (execOp a.eval oi).run P w = .ok (.value v) w') (hS : S w')
    (h : wpAnyH P .any ops (NoPanic Q) S fuel (listed.setIfInBounds i true) (a.put d v) w') : wpOp P ops (NoPanic Q) i (fun a' w' => S w' ∧ wpAnyH P .any ops (NoPanic Q) S fuel (listed.setIfInBounds i true) a' w') a w := by
  have hw : Region.wanted oi (yielded ops a.tmps) = true := by simp [Region.wanted, hg]
  unfold wpOp
  simp only [hi, hw, if_true, Oper.wp, hrun, Oper.upon, hd]
  exact .inl ⟨hS, h⟩
theorem op_call (i : Nat) (d : Option Tmp) {oi : Oper} (f : FuncId) (args : Array Value) (hi : ops[i]? = some oi) (hd : oi.dst = d) (hg : oi.guard = none) (hrun : (execOp a.eval oi).run P w = .ok (.enter f args) w)
    (R : Value → World → Prop) (hc : Calls P f args w fun e w' => ∃ v, e = .returned v ∧ R v w')
    (h : ∀ v w', R v w' → S w' ∧ wpAnyH P .any ops (NoPanic Q) S fuel (listed.setIfInBounds i true) (a.put d v) w') : wpOp P ops (NoPanic Q) i (fun a' w' => S w' ∧ wpAnyH P .any ops (NoPanic Q) S fuel (listed.setIfInBounds i true) a' w') a w := by
  have hw : Region.wanted oi (yielded ops a.tmps) = true := by simp [Region.wanted, hg]
  unfold wpOp
  simp only [hi, hw, if_true, Oper.wp, hrun, Oper.upon, hd]
  refine .inl (hc.mono ?_)
  rintro e w' ⟨v, rfl, hR⟩
  exact h v w' hR
theorem hr_two {i j : Nat} (hr : Region.ready .any ops listed = [i, j]) (h1 : wpOp P ops (NoPanic Q) i (fun a' w' => S w' ∧ wpAnyH P .any ops (NoPanic Q) S fuel (listed.setIfInBounds i true) a' w') a w)
    (h2 : wpOp P ops (NoPanic Q) j (fun a' w' => S w' ∧ wpAnyH P .any ops (NoPanic Q) S fuel (listed.setIfInBounds j true) a' w') a w) : wpAnyH P .any ops (NoPanic Q) S (fuel + 1) listed a w := by
  refine wpAnyH_all hr (by simp) fun k hk => ?_
  simp only [List.mem_cons, List.not_mem_nil, or_false] at hk
  rcases hk with rfl | rfl
  · exact h1
  · exact h2
theorem hr_own (i : Nat) (d : Option Tmp) {oi : Oper} (hi : ops[i]? = some oi) (hd : oi.dst = d) (hr : Region.ready .any ops listed = [i]) (hg : oi.guard = none) (s x : Operand) (t : TypeId)
    (ho : oi.op = .call { callee := .builtin .append, args := #[s, x], argTypes := #[t, t] })
    (base : Nat) (e : TypeId) (inf : TypeInfo) (z : Value) (size bytes : Nat) (ht : P.underlying t = some (.slice e)) (hinf : P.info? e = some inf) (hz : inf.zero = some z)
    (hsize : inf.size = size) (hby : inf.bytes = bytes) (hzs : z.cells.size = size) (hsz : 0 < size)
    (v : Value) (n : Nat) (xs : List Value) (hs : a.eval s = v) (hown : w.ownsRow base e size v n xs)
    (ad : Addr) (m c : Nat) (news : List Value) (hx : a.eval x = .slice (some ad) m c) (hl : news.length = m * size) (hnews : ∀ j u, news[j]? = some u → w.cell? (ad.add j) = some u) (h1 : ∀ u ∈ news, u.oneCell' = true)
    (h63 : n + m ≤ maxLen) (hbytes : (n + m) * bytes ≤ 140737488355328) (hbase : base ≤ w.heap.size)
    (h : ∀ v' w', w'.ownsRow base e size v' (n + m) (xs ++ news) → w.grownBy w' v.ownBlock → (∀ g, v'.ownBlock = some g → v.ownBlock = some g ∨ w.heap.size ≤ g) → S w' ∧ wpAnyH P .any ops (NoPanic Q) S fuel (listed.setIfInBounds i true) (a.put d v') w') : wpAnyH P .any ops (NoPanic Q) S (fuel + 1) listed a w := by
  refine wpAnyH_all hr (by simp) fun j hj => ?_
  obtain rfl := List.mem_singleton.1 hj
  have hw : Region.wanted oi (yielded ops a.tmps) = true := by simp [Region.wanted, hg]
  obtain ⟨v', w', hrun, h2, h3, h4⟩ := Go.Proofs.Ytoagkffokfbpfaa.run_append_own2 (P := P) w base t oi.type e inf z size bytes ht hinf hz hsize hby hzs hsz v n xs hown ad m c news hl hnews h1 h63 hbytes hbase
  unfold wpOp
  simp only [hi, hw, if_true]
  refine .inl ?_
  unfold Oper.wp execOp
  simp only [ho, resolve, invoke, builtin, Sem.run_bind, Sem.run_pure, Result.andThen_ok, List.map_toArray, List.map_cons, List.map_nil, hs, hx, hrun, Oper.upon, hd]
  exact h v' w' h2 h3 h4
end
end Go
namespace Go.Proofs.Ytoagkffokfbpfaa
open Go.RowKit
def Bs.blk (b : Bs) (x : Nat) : Prop := ∃ a, b.ao = some a ∧ 0 < b.n ∧ a.block = x
theorem Sl.blk_lt {w : World} {b : Bs} (h : Sl w b.ao b.n b.cap b.xs) {x : Nat} (hx : b.blk x) : x < w.heap.size := by
  obtain ⟨a, ha, hn, rfl⟩ := hx
  exact h.lt a ha hn
theorem Sl.kept {w w' : World} {b : Bs} (h : Sl w b.ao b.n b.cap b.xs) (hk : ∀ x, b.blk x → w'.heap[x]? = w.heap[x]?) : Sl w' b.ao b.n b.cap b.xs := by
  refine ⟨h.len, h.le, h.mx, h.nil, fun a ha i hi => ?_, h.byte⟩
  have hb : (a.add i).block = a.block := by unfold Addr.add; split <;> rfl
  rw [← h.cell a ha i hi]
  exact World.cell?_of_block (by rw [hb]; exact hk _ ⟨a, ha, by omega, rfl⟩)
open Go.RowKit
def cT : Th CV := mapT toC (andT (txT 32) (andT (txT 32) (andT (txT 32) (andT uintS (andT (byT 256) boolS)))))
theorem thr_c : Thr pC cT := ((thr_text 32).andThen ((thr_text 32).andThen ((thr_text 32).andThen (thr_uint.andThen ((thr_bytes 256).andThen thr_bool))))).map toC
def resTh : Th RV := mapT toR (andT (intT' 100) (andD (intT' 16) fun n => andT (repT cT n) boolS))
theorem thr_r : Thr pR resTh := ((thr_int 100).andThen ((thr_int 16).dep fun n => (thr_c.rep n).andThen thr_bool)).map toR
theorem cT_key (xs : List Int) (k : Int) : cT xs k = (⟨(keyT xs k).1.1, (keyT xs k).1.2.1, (keyT xs k).1.2.2.1, (keyT xs k).1.2.2.2, (bytesS (keyT xs k).2.1 (keyT xs k).2.2 256).1, (boolS (bytesS (keyT xs k).2.1 (keyT xs k).2.2 256).2.1 (bytesS (keyT xs k).2.1 (keyT xs k).2.2 256).2.2).1⟩, (boolS (bytesS (keyT xs k).2.1 (keyT xs k).2.2 256).2.1 (bytesS (keyT xs k).2.1 (keyT xs k).2.2 256).2.2).2) := by
  have e : ((256 : Nat) : Int) = 256 := rfl
  unfold cT mapT
  simp only [andT, keyT, byT, toC, e]
theorem CA.ok.blk_lt {c : CA} {w : World} (h : c.ok w) {x : Nat} (hx : c.va.blk x) : x < w.heap.size := h.va.blk_lt hx
theorem CA.ok.kept {c : CA} {w w' : World} (h : c.ok w) (hk : ∀ x, c.va.blk x → w'.heap[x]? = w.heap[x]?) : c.ok w' := ⟨h.row, h.fam, h.qual, h.time, h.va.kept hk⟩
def sblk (ao : Option Addr) (n x : Nat) : Prop := ∃ a, ao = some a ∧ 0 < n ∧ a.block = x
theorem CL.kept {w w' : World} {ao : Option Addr} {n cap : Nat} {l : List CA} (h : CL w ao n cap l) (hk : ∀ x, (sblk ao n x ∨ ∃ c ∈ l, c.va.blk x) → w'.heap[x]? = w.heap[x]?) : CL w' ao n cap l := by
  refine ⟨h.len, h.le, h.mx, h.nil, fun a ha i hi j v hv => ?_, fun y hy => (h.ok y hy).kept fun x hx => hk x (.inr ⟨y, hy, hx⟩)⟩
  have hb : (a.add (i * 6 + j)).block = a.block := by unfold Addr.add; split <;> rfl
  rw [← h.cell a ha i hi j v hv]
  exact World.cell?_of_block (by rw [hb]; exact hk _ (.inl ⟨a, ha, by have := h.len; omega, rfl⟩))
def RW (V : World) (p : Nat) (e : Int) (v : Value) (m : Bool) : Prop := V.heap[p]? = some (.cells #[.int .i64 e, v, .bool m] 42)
theorem RW.lt {V : World} {p : Nat} {e : Int} {v : Value} {m : Bool} (h : RW V p e v m) : p < V.heap.size := (Array.getElem?_eq_some_iff.1 h).1
theorem RW.kept {V V' : World} {p : Nat} {e : Int} {v : Value} {m : Bool} (h : RW V p e v m) (hk : V'.heap[p]? = V.heap[p]?) : RW V' p e v m := hk.trans h
theorem RW.c0 {V : World} {p : Nat} {e : Int} {v : Value} {m : Bool} (h : RW V p e v m) : V.cell? ⟨p, 0, none⟩ = some (.int .i64 e) := cell_of_row V p 0 _ _ _ h
theorem RW.c1 {V : World} {p : Nat} {e : Int} {v : Value} {m : Bool} (h : RW V p e v m) : V.cell? ⟨p, 1, none⟩ = some v := cell_of_row V p 1 _ _ _ h
theorem RW.c2 {V : World} {p : Nat} {e : Int} {v : Value} {m : Bool} (h : RW V p e v m) : V.cell? ⟨p, 2, none⟩ = some (.bool m) := cell_of_row V p 2 _ _ _ h
theorem RW.fz {V : World} {p : Nat} {e : Int} {v : Value} {m : Bool} (h : RW V p e v m) (i : Nat) : V.frozen? ⟨p, i, none⟩ = false := frozen_of_row V p i _ _ h
theorem RW.setL {V : World} {p : Nat} {e : Int} {v : Value} {m : Bool} (h : RW V p e v m) (u : Value) : RW (V.setCell ⟨p, 1, none⟩ u) p e u m := heap_setCell_same V p 1 _ _ _ h
theorem RW.setM {V : World} {p : Nat} {e : Int} {v : Value} {m : Bool} (h : RW V p e v m) (b : Bool) : RW (V.setCell ⟨p, 2, none⟩ (.bool b)) p e v b := heap_setCell_same V p 2 _ _ _ h
structure ResInv (w : World) (p L N M parts : Nat) (e : Int) (hx : List Int) (hk : Int) (V : World) (v : Value) (l : List CA) : Prop where
  rd : R V p L (repT cT l.length hx hk).2.1 (repT cT l.length hx hk).2.2
  ov : RW V M e v false
  res : RW V N 0 (.slice none 0 0) false
  own : V.ownsRow (M + 1) 81 6 v l.length (cellsC l)
  oks : ∀ y ∈ l, y.ok V
  far : ∀ x, (∃ y ∈ l, y.va.blk x) → M < x ∧ v.ownBlock ≠ some x
  thr : l.map CA.c = (repT cT l.length hx hk).1
  bel : Below N w V
  le : l.length ≤ parts
  pos : L ≤ p ∧ p < M ∧ N < p
theorem ResInv.drew {w : World} {p L N M parts : Nat} {e : Int} {hx : List Int} {hk : Int} {V : World} {v : Value} {l : List CA} (h : ResInv w p L N M parts e hx hk V v l) : ResInv w p L N M parts e hx hk V.drew v l :=
  ⟨h.rd.below (Below.refl _ _).drew, h.ov, h.res, h.own.drew, fun y hy => (h.oks y hy).below (Below.refl _ _).drew, h.far, h.thr, h.bel.drew, h.le, h.pos⟩
theorem ResInv.ownlt {w : World} {p L N M parts : Nat} {e : Int} {hx : List Int} {hk : Int} {V : World} {v : Value} {l : List CA} (h : ResInv w p L N M parts e hx hk V v l) {g : Nat} (hg : v.ownBlock = some g) : M < g ∧ g < V.heap.size := by
  have := h.own.lt g hg
  omega
theorem ResInv.step {w : World} {p L N M parts : Nat} {e : Int} {hx : List Int} {hk : Int} {V : World} {v : Value} {l : List CA} (h : ResInv w p L N M parts e hx hk V v l) (hlt : l.length < parts)
    {y : CA} {V1 V3 : World} {v' : Value} {ob : Obj} (y1 : y.ok V1) (y2 : ∀ x, y.va.blk x → V.heap.size ≤ x) (y3 : y.c = (cT (repT cT l.length hx hk).2.1 (repT cT l.length hx hk).2.2).1)
    (y4 : R V1 p L (cT (repT cT l.length hx hk).2.1 (repT cT l.length hx hk).2.2).2.1 (cT (repT cT l.length hx hk).2.1 (repT cT l.length hx hk).2.2).2.2) (y5 : V.grownBy V1 (some p))
    (a1 : V3.ownsRow (M + 1) 81 6 v' (l.length + 1) (cellsC l ++ y.cells)) (a2 : (V1.alloc ob).grownBy V3 v.ownBlock) (a3 : ∀ g, v'.ownBlock = some g → v.ownBlock = some g ∨ (V1.alloc ob).heap.size ≤ g) :
    ResInv w p L N M parts e hx hk (V3.setCell ⟨M, 1, none⟩ v') v' (l ++ [y]) := by
  have hp := h.pos
  have sz1 := y5.size
  have sz2 : (V1.alloc ob).heap.size = V1.heap.size + 1 := by simp
  have sz3 := a2.size
  have key : ∀ x, x < V1.heap.size → v.ownBlock ≠ some x → V3.heap[x]? = V1.heap[x]? := fun x hx1 hx2 => (a2.block x (by omega) (fun e => hx2 e.symm)).trans (heap_alloc_old V1 ob hx1)
  have own1 : ∀ x, x ≤ M → v.ownBlock ≠ some x := fun x hx1 hx2 => by have := (h.ownlt hx2).1; omega
  have hM : M < V.heap.size := h.ov.lt
  have RB : ∀ x, x < V.heap.size → x ≠ p → V1.heap[x]? = V.heap[x]? := fun x hx1 hx2 => y5.block x hx1 (by simp; exact hx2)
  have ov3 : RW V3 M e v false := (h.ov.kept (RB M hM (by omega))).kept (key M (by omega) (own1 M (Nat.le_refl _)))
  have hset : ∀ x, x ≠ M → (V3.setCell ⟨M, 1, none⟩ v').heap[x]? = V3.heap[x]? := (same_set V3 M 1 v').2
  have fin : ∀ x, x < V.heap.size → x ≠ p → x ≠ M → v.ownBlock ≠ some x → (V3.setCell ⟨M, 1, none⟩ v').heap[x]? = V.heap[x]? := fun x b1 b2 b3 b4 => ((hset x b3).trans (key x (by omega) b4)).trans (RB x b1 b2)
  refine ⟨?_, ov3.setL v', ?_, ?_, ?_, ?_, ?_, ?_, ?_, hp⟩
  · rw [List.length_append, List.length_singleton, repT_snoc]
    obtain ⟨ao, n, cap, r⟩ := y4
    have r3 : R V3 p L (cT (repT cT l.length hx hk).2.1 (repT cT l.length hx hk).2.2).2.1 (cT (repT cT l.length hx hk).2.1 (repT cT l.length hx hk).2.2).2.2 := by
      have rp : p < V1.heap.size := r.plt
      have hbk := key p rp (own1 p (by omega))
      refine ⟨ao, n, cap, (World.cell?_of_block (a := ⟨p, 0, none⟩) hbk).trans r.c0, (World.cell?_of_block (a := ⟨p, 1, none⟩) hbk).trans r.c1, (World.frozen?_of_block (a := ⟨p, 0, none⟩) hbk).trans r.f0, (World.frozen?_of_block (a := ⟨p, 1, none⟩) hbk).trans r.f1, ?_, r.low, r.le, r.sm⟩
      exact Sl.kept (b := ⟨ao, n, cap, _⟩) r.sl (fun x hx1 => by
        obtain ⟨a, ha, hn, rfl⟩ := hx1
        have hl1 := r.low a ha hn
        exact key _ (by omega) (own1 _ (by omega)))
    exact r3.own (by omega) (by omega)
  · exact h.res.kept (fin N h.res.lt (by omega) (by omega) (own1 N (by omega)))
  · rw [List.length_append, List.length_singleton]
    have e : cellsC (l ++ [y]) = cellsC l ++ y.cells := by unfold cellsC; simp
    rw [e]
    refine own_kept a1 fun g hg => hset g ?_
    have := (a1.lt g hg).1
    omega
  · intro q hq
    rcases List.mem_append.1 hq with hq | hq
    · exact (h.oks q hq).kept fun x hx1 => fin x ((h.oks q hq).blk_lt hx1) (by have := (h.far x ⟨q, hq, hx1⟩).1; omega) (by have := (h.far x ⟨q, hq, hx1⟩).1; omega) (h.far x ⟨q, hq, hx1⟩).2
    · rw [List.mem_singleton.1 hq]
      refine y1.kept fun x hx1 => ?_
      have c1 := y2 x hx1
      have c2 := y1.blk_lt hx1
      have c3 : v.ownBlock ≠ some x := fun e => by have := h.ownlt e; omega
      exact (hset x (by omega)).trans (key x c2 c3)
  · intro x hx1
    have old : ∀ x, x < V1.heap.size → v.ownBlock ≠ some x → v'.ownBlock ≠ some x := fun x b1 b2 b3 => by
      rcases a3 x b3 with c | c
      · exact b2 c
      · omega
    obtain ⟨q, hq, hx1⟩ := hx1
    rcases List.mem_append.1 hq with hq | hq
    · have := h.far x ⟨q, hq, hx1⟩
      exact ⟨this.1, old x (by have := (h.oks q hq).blk_lt hx1; omega) this.2⟩
    · rw [List.mem_singleton.1 hq] at hx1
      have c1 := y2 x hx1
      have c2 := y1.blk_lt hx1
      refine ⟨by omega, old x c2 fun e => ?_⟩
      have := h.ownlt e
      omega
  · rw [List.length_append, List.length_singleton, repT_snoc, List.map_append, h.thr, ← y3]
    rfl
  · have hb := h.bel.size
    refine Below.setCell (h.bel.trans ⟨?_, ?_, ?_, ?_, ?_⟩) (by show N ≤ M; omega) _
    · rw [a2.os]; exact y5.os
    · rw [a2.tape]; exact y5.tape
    · rw [a2.output]; exact y5.output
    · omega
    · intro x b1
      have b2 := h.res.lt
      exact (key x (by omega) (own1 x (by omega))).trans (RB x (by omega) (by omega))
  · rw [List.length_append, List.length_singleton]
    omega
end Go.Proofs.Ytoagkffokfbpfaa

/-
  Texts in one: Conv, OfM, Dig, TDefs, TNode, CStr, HRegA, HRegC, PCompare, PPlace, TKids, PJudge, TOpen, TOps, PSmall, PClone, PChg, PChgW, PCut7.
-/
import Derived.Test.YtnicnfjickknjaaDoorTreePlaysZ0
import Derived.Lib.ConvBytes
import Derived.RangeFuncBox
import Derived.RangeFuncLeaves
import Derived.Shelf.Abstract
import Derived.OwnWalkIn
import Derived.TacticsInMore
import Derived.LoopNIn
import Derived.LoopIn
import Derived.Maps.AppendAt
import Derived.BigQuiet
import Derived.Deep.RegionHeld3
import Derived.Lib.Bytealg
import Derived.Deep.Slices
import Derived.Deep.SlicePairs
import Derived.ChangeSame
import Derived.Lib.SliceRun
namespace Go.Proofs.YtnicnfjickknjaaDoor
open Go.RowKit

/-- A string's bytes. -/
def sb (s : ByteArray) : List Int := s.data.toList.map fun c => (c.toNat : Int)
theorem sb_len (s : ByteArray) : (sb s).length = s.size := by simp [sb]
theorem sb_byte (s : ByteArray) : Byt (sb s) := by
  intro x hx
  simp only [sb, List.mem_map] at hx
  obtain ⟨c, _, rfl⟩ := hx
  have := c.toNat_lt
  omega
theorem sb_inj {s t : ByteArray} (h : sb s = sb t) : s = t := by
  have h1 : s.data.toList = t.data.toList := by
    refine List.map_inj_right (f := fun c : UInt8 => (c.toNat : Int)) (fun a b e => ?_) |>.1 h
    exact UInt8.toNat_inj.1 (Int.ofNat.inj e)
  exact ByteArray.ext (Array.toList_inj.1 h1)

theorem bytesWorld_sl (w : World) (s : ByteArray) (hs : s.size ≤ 140737488355328) : Sl (Lib.bytesWorld w 5 s) (some ⟨w.heap.size, 0, none⟩) s.size (grownCap w s.size 0 5) (sb s) := by
  refine ⟨sb_len s, grownCap_ge w _ _ _, grownCap_le_maxLen w _ _ _ (by simp only [maxLen]; omega), fun h => by simp at h, fun a ha i hi => ?_, sb_byte s⟩
  obtain rfl := Option.some.inj ha
  rw [Addr.add_lit, Nat.zero_add, Lib.bytesWorld_cell w _ s i hi]
  simp [sb, List.getD, hi]
theorem bytesWorld_below (w : World) (s : ByteArray) : Below w.heap.size w (Lib.bytesWorld w 5 s) :=
  ⟨rfl, rfl, rfl, by rw [Lib.bytesWorld_size]; omega, fun k hk => Lib.bytesWorld_at_old w _ s k hk⟩

/-- []byte(s). -/
theorem wpList_conv_bytes {w : World} {ops : Array Oper} {rest : List Oper} {o : Oper} {a : Act} {Q : Exit → Act → World → Prop} (hgd : o.guard = none) (x : Operand) (ho : o.op = .convert 9 23 x)
    (s : ByteArray) (hx : a.eval x = .string s) (hs : s.size ≤ 140737488355328)
    (h : ∀ g c w', g = w.heap.size → Sl w' (some ⟨g, 0, none⟩) s.size c (sb s) → Below w.heap.size w w' → wpList Tryd.prog ops Q rest (a.put o.dst (.slice (some ⟨g, 0, none⟩) s.size c)) w') : wpList Tryd.prog ops Q (o :: rest) a w := by
  refine wpList_plain hgd fun K hK => ?_
  have hr := Lib.run_convert_string_bytes (P := Tryd.prog) w 9 23 5 s Tryd.underlying9 Tryd.underlying23 Tryd.underlying5
  unfold Oper.wp execOp
  simp only [ho, hx, hr, Sem.run_bind, Sem.run_pure, Result.andThen_ok]
  exact hK _ _ (h _ _ _ rfl (bytesWorld_sl w s hs) (bytesWorld_below w s))

end Go.Proofs.YtnicnfjickknjaaDoor

namespace Go.Proofs.YtnicnfjickknjaaDoor
open Go.RowKit

/-- The forms of some parts, one behind the other. -/
def fmP (xs : List (List Int)) : List Int := xs.flatMap fun x => enc x.length ++ x
/-- What is hashed of a word and parts. -/
def formL (s : List Int) (xs : List (List Int)) : List Int := enc s.length ++ s ++ enc xs.length ++ fmP xs
theorem fmP_snoc (xs : List (List Int)) (x : List Int) : fmP (xs ++ [x]) = fmP xs ++ (enc x.length ++ x) := by simp [fmP]
def pxs (ps : List Part) : List (List Int) := ps.map Part.xs
theorem pxs_take (ps : List Part) (k : Nat) (h : k < ps.length) : pxs (ps.take (k + 1)) = pxs (ps.take k) ++ [ps[k].xs] := by
  unfold pxs
  rw [List.take_add_one, List.getElem?_eq_getElem h, List.map_append]
  rfl
theorem pxs_len (ps : List Part) : (pxs ps).length = ps.length := by simp [pxs]
theorem fmP_le (xs : List (List Int)) (B : Nat) (hB : B < 18446744073709551616) (h : ∀ x ∈ xs, x.length ≤ B) : (fmP xs).length ≤ xs.length * (B + 10) := by
  induction xs with
  | nil => simp [fmP]
  | cons x xs ih =>
    have h1 := ih (fun y hy => h y (List.mem_cons_of_mem _ hy))
    have h2 := h x (List.mem_cons_self ..)
    have h3 := enc_length (n := x.length) (by omega)
    have e : fmP (x :: xs) = enc x.length ++ x ++ fmP xs := by simp [fmP]
    rw [e, List.length_append, List.length_append, List.length_cons, Nat.succ_mul]
    omega
theorem fmP_byte (xs : List (List Int)) (h : ∀ x ∈ xs, Byt x ∧ x.length < 18446744073709551616) : Byt (fmP xs) := by
  intro y hy
  simp only [fmP, List.mem_flatMap] at hy
  obtain ⟨x, hx, hy⟩ := hy
  rcases List.mem_append.1 hy with h1 | h1
  · exact enc_byte (h x hx).2 y h1
  · exact (h x hx).1 y h1

set_option maxRecDepth 100000 in
set_option maxHeartbeats 4000000 in
theorem of_any (w : World) (s : ByteArray) (ao : Option Addr) (n cap : Nat) (ps : List Part) (hP : PL w ao n cap ps) (hT : Tabs w) (hs : s.size ≤ 1000000) (hn : n ≤ 1000000) (hq : ∀ q ∈ ps, q.n ≤ 1000000) :
    Calls Tryd.prog 51 #[.string s, .slice ao n cap] w fun e w' => ∃ v, e = .returned v ∧ w'.ownsRow w.heap.size 5 1 v 32 (bv (sumL (formL (sb s) (pxs ps)))) ∧ Below w.heap.size w w' := by
  have h2 := hT.two
  have hl := hP.len
  have hni : (n : Int) ≤ 1000000 := by omega
  have hsl := sb_len s
  have es := enc_length (n := s.size) (by omega)
  have en := enc_length (n := n) (by omega)
  go_enter Tryd.func51, Tryd.ntmps51
  go_wp2_with (first
    | (go_at_call 65; refine (new_any w).mono ?_; rintro e w1 ⟨rfl, H1, g1⟩; have B1 : Below w.heap.size w w1 := (Below.refl _ w).grown g1 (Nat.le_refl _) (by simp); have p1 := H1.lt; clear g1)
    | (refine wpList_conv_bytes rfl (.tmp 10) rfl s rfl (by omega) ?_; intro g2 c2 w2 hg2 S2 C2; have B2 : Below w.heap.size w w2 := B1.trans (C2.mono (by omega)); have H2 := H1.below C2 p1; have s2 := C2.size; clear C2 H1 hg2)
    | (go_at_call 67; refine (wBytes_any w2 none _ 0 0 s.size c2 [] _ (Sl.nothing w2) S2 (by omega)).mono ?_; rintro e w3 ⟨v3, rfl, own3, C3⟩; simp only [List.nil_append, Nat.zero_add] at own3; obtain ⟨fo, fc, rfl, S3, hS3⟩ := Sl.own own3 (Byt.append (enc_byte (by omega)) (sb_byte s)); have B3 : Below w.heap.size w w3 := B2.trans (C3.mono (by omega)); have H3 := H2.below C3 (by omega); have s3 := C3.size; clear C3 own3 H2 S2 B2)
    | (go_at_call 66; refine (add_any w3 w.heap.size [] fo _ fc _ (hT.below B3 h2) H3 h2 S3 (fun a ha _ => by have := (hS3 a ha).1; omega) (by simp; omega)).mono ?_; rintro e w4 ⟨⟨v4, rfl⟩, H4, g4⟩; have B4 : Below w.heap.size w w4 := B3.grown g4 (by omega) (by intro k hk; cases hk; exact Nat.le_refl _); have s4 := g4.size; clear g4 H3 S3 hS3 B3)
    | (go_at_call 68; refine (wUint_any w4 none 0 0 n [] (Sl.nothing w4) (by omega) (by omega)).mono ?_; rintro e w5 ⟨v5, rfl, own5, C5⟩; simp only [List.nil_append, Nat.zero_add] at own5; obtain ⟨uo, uc, rfl, S5, hS5⟩ := Sl.own own5 (enc_byte (by omega)); have B5 : Below w.heap.size w w5 := B4.trans (C5.mono (by omega)); have H5 := H4.below C5 (by omega); have s5 := C5.size; clear C5 own5 H4 B4))
  refine (add_any w5 w.heap.size _ uo _ uc _ (hT.below B5 h2) H5 h2 S5 (fun a ha _ => by have := (hS5 a ha).1; omega) (by simp; omega)).mono ?_
  rintro e w6 ⟨⟨v6, rfl⟩, H6, g6⟩
  have B6 : Below w.heap.size w w6 := B5.grown g6 (by omega) (by intro k hk; cases hk; exact Nat.le_refl _)
  have s6 := g6.size
  clear g6 H5 S5 hS5 B5
  obtain ⟨F, hF⟩ : ∃ F, F = enc s.size ++ sb s ++ enc n := ⟨_, rfl⟩
  have hFl : F.length ≤ 1000020 := by rw [hF]; simp; omega
  have HF : Hid (formL (sb s) (pxs ps) = F ++ fmP (pxs ps)) := by
    show _ = _
    rw [hF, formL, hsl, pxs_len, hl]
  simp only [List.nil_append] at H6
  rw [← hF] at H6
  clear hF hsl es en
  go_wp2_with fail
  go_loopw [22] (fun i wr => ∃ k : Nat, k ≤ n ∧ i = .int .i64 k ∧ Below w.heap.size w wr ∧ w.heap.size < wr.heap.size ∧ HS wr w.heap.size (F ++ fmP (pxs (ps.take k)))) (fun i _ => n - (intOf i).toNat)
  case atStart => exact ⟨0, by omega, rfl, B6, by omega, by simpa [pxs, fmP] using H6⟩
  case round =>
    clear H6 B6
    obtain ⟨k, hk, rfl, B7, t7, H7⟩ := hrel
    have T7 := hT.below B7 h2
    by_cases hlt : k < n
    · have hki : (k : Int) < (n : Int) := by omega
      have hkl : k < ps.length := by omega
      obtain ⟨ab, aof, rfl, hc⟩ := (hP.below B7).at (by omega)
      have c1 := hc k hkl
      have S1 := (hP.below B7).sl ps[k] (List.getElem_mem hkl)
      have HX : Hid (fmP (pxs (ps.take (k + 1))) = fmP (pxs (ps.take k)) ++ (enc ps[k].n ++ ps[k].xs)) := by
        show _ = _
        rw [pxs_take ps k hkl, fmP_snoc, S1.len]
      have hqn := hq ps[k] (List.getElem_mem hkl)
      have hFM : (fmP (pxs (ps.take k))).length ≤ k * (1000000 + 10) := by
        refine Nat.le_trans (fmP_le _ 1000000 (by omega) (fun x hx => ?_)) ?_
        · obtain ⟨q, hq', rfl⟩ := List.mem_map.1 hx
          rw [(hP.sl q (List.mem_of_mem_take hq')).len]
          exact hq q (List.mem_of_mem_take hq')
        · rw [pxs_len, List.length_take]
          exact Nat.mul_le_mul_right _ (by omega)
      obtain ⟨q, hqe⟩ : ∃ q, q = ps[k] := ⟨_, rfl⟩
      rw [← hqe] at c1 S1 HX hqn
      clear hqe hc
      have hql := S1.len
      have hqb := S1.byte
      have eq := enc_length (n := q.n) (by omega)
      unfold Part.val at c1
      go_wp2_with (first
        | (go_at_call 67; refine (wBytes_any wr none q.ao 0 0 q.n q.cap [] q.xs (Sl.nothing wr) S1 (by omega)).mono ?_; rintro e w8 ⟨v8, rfl, own8, C8⟩; simp only [List.nil_append, Nat.zero_add] at own8; obtain ⟨fo, fc, rfl, S8, hS8⟩ := Sl.own own8 (Byt.append (enc_byte (by omega)) hqb); have B8 : Below w.heap.size w w8 := B7.trans (C8.mono (by omega)); have H8 := H7.below C8 (by omega); have s8 := C8.size; clear C8 own8 H7 S1)
        | (go_at_call 66; refine (add_any w8 w.heap.size _ fo _ fc _ (hT.below B8 h2) H8 h2 S8 (fun a ha _ => by have := (hS8 a ha).1; omega) (by simp; omega)).mono ?_; rintro e w9 ⟨⟨v9, rfl⟩, H9, g9⟩; have B9 : Below w.heap.size w w9 := B8.grown g9 (by omega) (by intro k hk; cases hk; exact Nat.le_refl _); have s9 := g9.size; clear g9 H8 S8 hS8 B8))
      go_roundw
      case rel =>
        refine ⟨k + 1, by omega, by go_num, B9, by omega, ?_⟩
        rw [HX.out, ← List.append_assoc F]
        exact H9
      case measure => simp [intOf]; omega
    · have hge : (n : Int) ≤ (k : Int) := by omega
      have e : ps.take k = ps := List.take_of_length_le (by omega)
      rw [e] at H7
      clear e
      have hFM : (fmP (pxs ps)).length ≤ n * (1000000 + 10) := by
        refine Nat.le_trans (fmP_le _ 1000000 (by omega) (fun x hx => ?_)) ?_
        · obtain ⟨q, hq', rfl⟩ := List.mem_map.1 hx
          rw [(hP.sl q hq').len]
          exact hq q hq'
        · rw [pxs_len]
          exact Nat.mul_le_mul_right _ (by omega)
      go_wp2_with (go_at_call 69; refine (hsum_any wr w.heap.size _ T7 H7 (by simp; omega)).mono ?_; rintro e w3 ⟨v, rfl, own3, B3⟩)
      go_ret
      refine ⟨_, rfl, ?_, B7.trans (B3.mono (by omega))⟩
      rw [HF.out]
      exact own_base own3 (by omega)

end Go.Proofs.YtnicnfjickknjaaDoor

namespace Go.Proofs.YtnicnfjickknjaaDoor
open Go.RowKit Go.Shelf

attribute [local go_sem] Oper.semAt_some

/-- A digit. -/
def dg (x : Int) : Int := if x < 10 then 48 + x else 87 + x
def hexL (xs : List Int) : List Int := xs.flatMap fun x => [dg (x / 16), dg (x % 16)]
theorem hexL_succ (xs : List Int) (k : Nat) (h : k < xs.length) : hexL (xs.take (k + 1)) = hexL (xs.take k) ++ [dg (xs.getD k 0 / 16)] ++ [dg (xs.getD k 0 % 16)] := by
  have e : xs.getD k 0 = xs[k] := by simp [List.getD, h]
  unfold hexL
  rw [List.take_add_one, List.getElem?_eq_getElem h, List.flatMap_append, e]
  simp
theorem hexL_len (xs : List Int) : (hexL xs).length = 2 * xs.length := by
  induction xs with
  | nil => rfl
  | cons x xs ih => simp only [hexL, List.flatMap_cons, List.length_append, List.length_cons, List.length_nil] at *; omega
theorem hexL_take_len (xs : List Int) (k : Nat) (h : k ≤ xs.length) : (hexL (xs.take k)).length = 2 * k := by
  rw [hexL_len, List.length_take]; omega
theorem hexL_pre (xs : List Int) (k : Nat) : hexL (xs.take k) <+: hexL xs := by
  refine ⟨hexL (xs.drop k), ?_⟩
  unfold hexL
  rw [← List.flatMap_append, List.take_append_drop]

theorem digitKey : ∀ n : Nat, (h : n < 16) → ((((⟨#[48, 49, 50, 51, 52, 53, 54, 55, 56, 57, 97, 98, 99, 100, 101, 102]⟩ : ByteArray)[n]'h).toNat : Nat) : Int) = dg n := by decide
theorem digitAt (x : Int) (h : 0 ≤ x ∧ x < 16) (w : World) : (Instr.index 9 (.string ⟨#[48, 49, 50, 51, 52, 53, 54, 55, 56, 57, 97, 98, 99, 100, 101, 102]⟩) (.int .u8 x)).run Tryd.prog w = .ok (.int .u8 (dg x)) w := by
  obtain ⟨n, rfl⟩ := Int.eq_ofNat_of_zero_le h.1
  rw [run_index_string _ _ _ _ _ Tryd.underlying9, dif_pos ⟨h.1, h.2⟩]
  have := digitKey n (by omega)
  rw [← this]
  rfl

set_option maxRecDepth 100000 in
set_option maxHeartbeats 2000000 in
theorem digits1_in (F : Fence) (n : Nat) (h6 : F.fn 78) (hro : F.round = none) (hn : 1 ≤ n) (l Bn n₀ : Nat) (ao : Option Addr) (m cap : Nat) (xs : List Int) (J Jx : List Int → World → Prop)
    (hY : ∀ pre x W, J pre W → pre.length < (hexL xs).length → YieldAt F (n - 1) Tryd.prog l #[.int .u8 x] W fun e W' =>
      (e = .returned (.bool true) ∧ J (pre ++ [x]) W' ∧ Below n₀ W W') ∨ (e = .returned (.bool false) ∧ Jx (pre ++ [x]) W'))
    (W : World) (hBn : W.cell? ⟨Bn, 0, none⟩ = some (.slice ao m cap)) (hL : Sl W ao m cap xs) (hlow : ∀ a, ao = some a → 0 < m → a.block < n₀) (h0 : J [] W) :
    CallsIn F n Tryd.prog 78 #[.func (.yield l) #[] #[], .pointer (some ⟨Bn, 0, none⟩)] W fun e W' => (∃ v, e = .returned v) ∧
      ((∃ ys, ys = hexL xs ∧ J ys W') ∨ (∃ pre, pre <+: hexL xs ∧ Jx pre W')) := by
  have hmx := hL.mx
  have hle := hL.le
  have hln := hL.len
  unfold maxLen at hmx
  refine callsIn_of_wp Tryd.func78 rfl h6 ?_ hro
  simp only [Tryd.ntmps78, List.size_toArray, List.length_cons, List.length_nil, Nat.reduceAdd, Nat.reduceSub, Array.replicate_succ, Array.replicate_zero, List.push_toArray, List.append_toArray, List.nil_append, List.cons_append]
  gi_wp2
  gi_loopw [7] (fun i wr => ∃ k : Nat, k ≤ m ∧ i = .int .i64 k ∧ Below n₀ W wr ∧ J (hexL (xs.take k)) wr) (fun i _ => m - (intOf i).toNat)
  case atStart => exact ⟨0, by omega, rfl, Below.refl _ _, h0⟩
  case round =>
    obtain ⟨k, hk, rfl, hB, hJ⟩ := hrel
    by_cases hlt : k < m
    · have hki : (k : Int) < (m : Int) := by omega
      obtain ⟨a, rfl⟩ : ∃ a, ao = some a := by
        cases ao with
        | none => exact absurd (hL.nil rfl).1 (by omega)
        | some a => exact ⟨a, rfl⟩
      have c0 := hL.cell a rfl k hlt
      have hab : (a.add k).block = a.block := by unfold Addr.add; split <;> rfl
      have c1 : wr.cell? (a.add k) = some (.int .u8 (xs.getD k 0)) := (hB.cell (by rw [hab]; exact hlow a rfl (by omega))).trans c0
      have hb := hL.byte.at k
      have hbe : xs[k]?.getD 0 = xs.getD k 0 := rfl
      rw [hbe] at hb
      have HS : Hid (hexL (xs.take (k + 1)) = hexL (xs.take k) ++ [dg (xs.getD k 0 / 16)] ++ [dg (xs.getD k 0 % 16)]) := hexL_succ xs k (by omega)
      have hpl := hexL_take_len xs k (by omega)
      have hal := hexL_len xs
      have hpre := hexL_pre xs (k + 1)
      rw [HS.out] at hpre
      obtain ⟨x, hx⟩ : ∃ x, x = xs.getD k 0 := ⟨_, rfl⟩
      rw [← hx] at c1 hb HS hpre
      clear hbe c0 hab hx
      have hd1 := digitAt (x / 16) (by omega)
      have hd2 := digitAt (x % 16) (by omega)
      obtain ⟨fn, tmps, assign, body, hy, hR⟩ := hY (hexL (xs.take k)) (dg (x / 16)) wr hJ (by omega)
      gi_wp2
      refine hR.mono ?_
      clear hR hy
      rintro e W3 (⟨rfl, hJ3, hk3⟩ | ⟨rfl, hJx3⟩)
      · obtain ⟨fn2, tmps2, assign2, body2, hy2, hR2⟩ := hY (hexL (xs.take k) ++ [dg (x / 16)]) (dg (x % 16)) W3 hJ3 (by rw [List.length_append, hpl, List.length_singleton]; omega)
        gi_wp2
        refine hR2.mono ?_
        clear hR2 hy2
        rintro e W4 (⟨rfl, hJ4, hk4⟩ | ⟨rfl, hJx4⟩)
        · gi_wp2
          go_roundw
          case rel => exact ⟨k + 1, by omega, by go_num, (hB.trans hk3).trans hk4, by rw [HS.out]; exact hJ4⟩
          case measure => simp [intOf]; omega
        · gi_wp2
          refine bodyPost_ret (results_none rfl _ _ _) rfl ?_
          exact ⟨⟨_, rfl⟩, .inr ⟨_, hpre, hJx4⟩⟩
      · gi_wp2
        refine ⟨fun _ h => (by cases h), ?_⟩
        gi_wp2
        refine bodyPost_ret (results_none rfl _ _ _) rfl ?_
        exact ⟨⟨_, rfl⟩, .inr ⟨_, (List.prefix_append _ _).trans hpre, hJx3⟩⟩
    · have hge : (m : Int) ≤ (k : Int) := by omega
      have e : xs.take k = xs := List.take_of_length_le (by omega)
      rw [e] at hJ
      clear e
      gi_wp2
      go_end0
      exact ⟨⟨_, rfl⟩, .inl ⟨_, rfl, hJ⟩⟩

set_option maxHeartbeats 1000000 in
/-- digits(b): the slice is boxed; the function value captures the box. -/
theorem digits_in (F : Fence) (n : Nat) (h5 : F.fn 64) (hro : F.round = none) (v : Value) (ao : Option Addr) (m cap : Nat) (hv : v = .slice ao m cap) (w : World) :
    CallsIn F n Tryd.prog 64 #[v] w fun e w' => e = .returned (.func (.func 78) #[] #[.pointer (some ⟨w.heap.size, 0, none⟩)]) ∧ w' = w.alloc (.cells #[v] 23) := by
  subst hv
  refine callsIn_of_wp Tryd.func64 rfl h5 ?_ hro
  simp only [Tryd.ntmps64, List.size_toArray, List.length_cons, List.length_nil, Nat.reduceAdd, Nat.reduceSub, Array.replicate_succ, Array.replicate_zero, List.push_toArray, List.append_toArray, List.nil_append, List.cons_append]
  gi_wp2
  go_ret
  exact ⟨rfl, rfl⟩

theorem digits_stops (F : Fence) (n : Nat) (h6 : F.fn 78) (hro : F.round = none) (hn : 1 ≤ n) (Bn n₀ : Nat) (ao : Option Addr) (m cap : Nat) (xs : List Int) (w : World) (hBn : Bn < w.heap.size)
    (hc : w.cell? ⟨Bn, 0, none⟩ = some (.slice ao m cap)) (hL : Sl w ao m cap xs) (hlow : ∀ a, ao = some a → 0 < m → a.block < n₀) :
    SeqStopsK F n Tryd.prog 78 #[.pointer (some ⟨Bn, 0, none⟩)] (fun x : Int => #[Value.int .u8 x]) (Below n₀) (fun ys => ys = hexL xs) (fun pre => pre <+: hexL xs) (hexL xs).length w := fun l J Jx W hW _ _ hY h0 =>
  digits1_in F n h6 hro hn l Bn n₀ ao m cap xs J Jx hY W ((hW.cell (p := ⟨Bn, 0, none⟩) hBn).trans hc) (hL.below hW) hlow h0

end Go.Proofs.YtnicnfjickknjaaDoor

namespace Go.Proofs.YtnicnfjickknjaaDoor
open Go.RowKit

def lvS : ByteArray := ⟨#[108, 101, 118, 101, 108]⟩
/-- A key's level. -/
def lev (k : List Int) : Nat := ((hexL (sumL (formL (sb lvS) [k]))).takeWhile fun c => c == 48).length
theorem takeWhile_le {α : Type} (p : α → Bool) : ∀ l : List α, (l.takeWhile p).length ≤ l.length
  | [] => by simp
  | a :: l => by
    rw [List.takeWhile_cons]
    split
    · have := takeWhile_le p l
      simp only [List.length_cons]
      omega
    · simp
theorem lev_le (k : List Int) : lev k ≤ 64 := by
  refine Nat.le_trans (takeWhile_le _ _) ?_
  rw [hexL_len, sumL_len]
  decide

/-- A node: its block, its level, its three lists. -/
structure Nd where
  b : Nat
  L : Nat
  ko : Option Addr
  kc : Nat
  vo : Option Addr
  vc : Nat
  co : Option Addr
  cc : Nat
  ks : List Part
  vs : List Part
  cs : List Value
def Nd.ptr (d : Nd) : Value := .pointer (some ⟨d.b, 0, none⟩)
structure Nd.ok (w : World) (d : Nd) : Prop where
  c0 : w.cell? ⟨d.b, 0, none⟩ = some (.int .i64 d.L)
  c1 : w.cell? ⟨d.b, 1, none⟩ = some (.slice d.ko d.ks.length d.kc)
  c2 : w.cell? ⟨d.b, 2, none⟩ = some (.slice d.vo d.vs.length d.vc)
  c3 : w.cell? ⟨d.b, 3, none⟩ = some (.slice d.co d.cs.length d.cc)
  kl : KL w d.ko d.ks.length d.kc d.ks
  vl : KL w d.vo d.vs.length d.vc d.vs
  cl : VL w d.co d.cs.length d.cc d.cs
  uf : ∃ (c : Array Value) (t : TypeId), w.heap[d.b]? = some (.cells c t (0, 0))
theorem Nd.ok.lt {w : World} {d : Nd} (h : d.ok w) : d.b < w.heap.size := World.block_lt_of_cell? w _ h.c0
theorem Nd.ok.below {w w' : World} {d : Nd} (h : d.ok w) (hb : Below w.heap.size w w') : d.ok w' :=
  ⟨(hb.cell (p := ⟨d.b, 0, none⟩) h.lt).trans h.c0, (hb.cell (p := ⟨d.b, 1, none⟩) h.lt).trans h.c1, (hb.cell (p := ⟨d.b, 2, none⟩) h.lt).trans h.c2, (hb.cell (p := ⟨d.b, 3, none⟩) h.lt).trans h.c3, h.kl.below hb, h.vl.below hb, h.cl.below hb, by obtain ⟨c, t, e⟩ := h.uf; exact ⟨c, t, (hb.block d.b h.lt).trans e⟩⟩

/-- The value v is a node, or nil, of the items l; no deeper than n. -/
def TN (w : World) : Nat → Value → List It → Prop
  | 0, v, l => l = [] ∧ v = .pointer none
  | n + 1, v, l => (l = [] ∧ v = .pointer none) ∨ ∃ (d : Nd) (segs : List (List It)) (xs : List It), v = d.ptr ∧ d.ok w ∧ Shp lev l d.L segs xs ∧ d.ks.map Part.xs = xs.map It.k ∧ d.vs.map Part.xs = xs.map It.v ∧ d.cs.length = segs.length ∧
      ∀ (i : Nat) (s : List It), segs[i]? = some s → ∃ u, d.cs[i]? = some u ∧ TN w n u s
/-- The value v is a node, or nil, of the items l. -/
def T (w : World) (v : Value) (l : List It) : Prop := TN w l.length v l
theorem TN.re {w : World} : ∀ (n m : Nat) (v : Value) (l : List It), TN w n v l → l.length ≤ m → TN w m v l
  | 0, 0, _, _, h, _ => h
  | 0, m + 1, _, _, h, _ => .inl h
  | n + 1, 0, v, l, h, hm => by
    rcases h with h | ⟨d, segs, xs, rfl, hok, hs, _⟩
    · exact h
    · have h1 := hs.pos
      have h2 := hs.key xs[0] (List.getElem_mem h1)
      have : l = [] := List.eq_nil_of_length_eq_zero (by omega)
      rw [this] at h2
      simp at h2
  | n + 1, m + 1, v, l, h, hm => by
    rcases h with h | ⟨d, segs, xs, rfl, hok, hs, e1, e2, e3, hk⟩
    · exact .inl h
    · refine .inr ⟨d, segs, xs, rfl, hok, hs, e1, e2, e3, fun i s hi => ?_⟩
      obtain ⟨u, hu, ht⟩ := hk i s hi
      have := hs.shorter s (List.mem_of_getElem? hi)
      exact ⟨u, hu, TN.re n m u s ht (by omega)⟩
/-- A node and what it has. -/
structure Nod (w : World) (l : List It) (d : Nd) (segs : List (List It)) (xs : List It) : Prop where
  ok : d.ok w
  shp : Shp lev l d.L segs xs
  ek : d.ks.map Part.xs = xs.map It.k
  ev : d.vs.map Part.xs = xs.map It.v
  ec : d.cs.length = segs.length
  kid : ∀ (i : Nat) (s : List It), segs[i]? = some s → ∃ u, d.cs[i]? = some u ∧ T w u s
theorem T.nil (w : World) : T w (.pointer none) [] := ⟨rfl, rfl⟩
theorem T.of {w : World} {l : List It} {d : Nd} {segs : List (List It)} {xs : List It} (h : Nod w l d segs xs) : T w d.ptr l := by
  have hp : 0 < l.length := by
    have h0 := h.shp.pos
    have h2 := h.shp.key xs[0] (List.getElem_mem h0)
    cases l with
    | nil => simp at h2
    | cons a l => simp
  unfold T
  obtain ⟨m, hm⟩ : ∃ m, l.length = m + 1 := ⟨l.length - 1, by omega⟩
  rw [hm]
  refine .inr ⟨d, segs, xs, rfl, h.ok, h.shp, h.ek, h.ev, h.ec, fun i s hi => ?_⟩
  obtain ⟨u, hu, ht⟩ := h.kid i s hi
  have := h.shp.shorter s (List.mem_of_getElem? hi)
  exact ⟨u, hu, TN.re _ m u s ht (by omega)⟩
theorem T.is {w : World} {v : Value} {l : List It} (h : T w v l) : (l = [] ∧ v = .pointer none) ∨ ∃ d segs xs, v = d.ptr ∧ Nod w l d segs xs := by
  have h' := TN.re _ (l.length + 1) v l h (by omega)
  rcases h' with h' | ⟨d, segs, xs, rfl, hok, hs, e1, e2, e3, hk⟩
  · exact .inl h'
  · refine .inr ⟨d, segs, xs, rfl, hok, hs, e1, e2, e3, fun i s hi => ?_⟩
    obtain ⟨u, hu, ht⟩ := hk i s hi
    exact ⟨u, hu, TN.re _ s.length u s ht (Nat.le_refl _)⟩
theorem T.none {w : World} {l : List It} (h : T w (.pointer Option.none) l) : l = [] := by
  rcases h.is with h | ⟨d, segs, xs, e, _⟩
  · exact h.1
  · simp [Nd.ptr] at e
theorem T.node {w : World} {v : Value} {l : List It} (h : T w v l) (hl : l ≠ []) : ∃ d segs xs, v = d.ptr ∧ Nod w l d segs xs := by
  rcases h.is with h | h
  · exact absurd h.1 hl
  · exact h
theorem T.one {w : World} {v : Value} {l : List It} (h : T w v l) : v.oneCell' = true := by
  rcases h.is with ⟨_, rfl⟩ | ⟨d, segs, xs, rfl, _⟩ <;> rfl
theorem TN.below {w w' : World} (hb : Below w.heap.size w w') : ∀ (n : Nat) (v : Value) (l : List It), TN w n v l → TN w' n v l
  | 0, _, _, h => h
  | n + 1, v, l, h => by
    rcases h with h | ⟨d, segs, xs, rfl, hok, hs, e1, e2, e3, hk⟩
    · exact .inl h
    · refine .inr ⟨d, segs, xs, rfl, hok.below hb, hs, e1, e2, e3, fun i s hi => ?_⟩
      obtain ⟨u, hu, ht⟩ := hk i s hi
      exact ⟨u, hu, TN.below hb n u s ht⟩
theorem T.below {w w' : World} {v : Value} {l : List It} (h : T w v l) (hb : Below w.heap.size w w') : T w' v l := TN.below hb _ v l h
theorem Nod.below {w w' : World} {l : List It} {d : Nd} {segs : List (List It)} {xs : List It} (h : Nod w l d segs xs) (hb : Below w.heap.size w w') : Nod w' l d segs xs :=
  ⟨h.ok.below hb, h.shp, h.ek, h.ev, h.ec, fun i s hi => by obtain ⟨u, hu, ht⟩ := h.kid i s hi; exact ⟨u, hu, ht.below hb⟩⟩
section
variable {w : World} {l : List It} {d : Nd} {segs : List (List It)} {xs : List It}
theorem Nod.nk (h : Nod w l d segs xs) : d.ks.length = xs.length := by simpa using congrArg List.length h.ek
theorem Nod.nv (h : Nod w l d segs xs) : d.vs.length = xs.length := by simpa using congrArg List.length h.ev
theorem Nod.nc (h : Nod w l d segs xs) : d.cs.length = xs.length + 1 := by rw [h.ec, h.shp.len]
theorem Nod.many (h : Nod w l d segs xs) : xs.length ≤ l.length := by
  have h0 : 0 < segs.length := by have := h.shp.len; omega
  have := weave_len segs xs h.shp.len segs[0] (List.getElem_mem h0)
  rw [h.shp.eq]
  omega
theorem Nod.one (h : Nod w l d segs xs) : ∀ u ∈ d.cs, u.oneCell' = true := fun u hu => by
  obtain ⟨i, hi, rfl⟩ := List.mem_iff_getElem.1 hu
  have hs : i < segs.length := by rw [← h.ec]; exact hi
  obtain ⟨u, hu, ht⟩ := h.kid i segs[i] (List.getElem?_eq_getElem hs)
  rw [List.getElem?_eq_getElem hi] at hu
  rw [Option.some.inj hu]
  exact ht.one
theorem Nod.L_le (h : Nod w l d segs xs) : d.L ≤ 64 := by
  have h0 := h.shp.pos
  rw [← h.shp.top xs[0] (List.getElem_mem h0)]
  exact lev_le _
/-- The kid at a place. -/
theorem Nod.kidAt (h : Nod w l d segs xs) (i : Nat) (hi : i ≤ xs.length) : ∃ b off s u, d.co = some ⟨b, off, none⟩ ∧ segs[i]? = some s ∧ d.cs[i]? = some u ∧ w.cell? ⟨b, off + i, none⟩ = some u ∧ T w u s ∧ s.length < l.length := by
  have hc := h.nc
  have hs : i < segs.length := by have := h.shp.len; omega
  obtain ⟨b, off, e, hcl⟩ := h.ok.cl.at (by omega)
  obtain ⟨u, hu, ht⟩ := h.kid i segs[i] (List.getElem?_eq_getElem hs)
  obtain ⟨hlt, hu'⟩ := List.getElem?_eq_some_iff.1 hu
  exact ⟨b, off, segs[i], u, e, List.getElem?_eq_getElem hs, hu, by rw [hcl i hlt, hu'], ht, h.shp.shorter _ (List.getElem_mem hs)⟩
end
/-- A new node. -/
theorem Nod.make {w : World} {g : Nat} {l : List It} {L : Nat} {ko vo co : Option Addr} {kn kc vn vc cn cc : Nat} {t : TypeId} {ks vs : List Part} {cs : List Value} {segs : List (List It)} {xs : List It}
    (hg : w.heap[g]? = some (.cells #[.int .i64 L, .slice ko kn kc, .slice vo vn vc, .slice co cn cc] t))
    (hk : KL w ko kn kc ks) (hv : KL w vo vn vc vs) (hc : VL w co cn cc cs) (hs : Shp lev l L segs xs) (ek : ks.map Part.xs = xs.map It.k) (ev : vs.map Part.xs = xs.map It.v) (ec : cs.length = segs.length)
    (kid : ∀ (i : Nat) (s : List It), segs[i]? = some s → ∃ u, cs[i]? = some u ∧ T w u s) : T w (.pointer (some ⟨g, 0, Option.none⟩)) l := by
  have e1 := hk.len
  have e2 := hv.len
  have e3 := hc.len
  subst e1 e2 e3
  exact T.of (d := ⟨g, L, ko, kc, vo, vc, co, cc, ks, vs, cs⟩) ⟨⟨cell_of_row w g 0 _ _ _ hg, cell_of_row w g 1 _ _ _ hg, cell_of_row w g 2 _ _ _ hg, cell_of_row w g 3 _ _ _ hg, hk, hv, hc, _, _, hg⟩, hs, ek, ev, ec, kid⟩
end Go.Proofs.YtnicnfjickknjaaDoor

namespace Go.Proofs.YtnicnfjickknjaaDoor

theorem weave_mid (P Q : List (List It)) (s : List It) (ys zs : List It) (h : P.length = ys.length) (h2 : Q.length = zs.length) : weave (P ++ s :: Q) (ys ++ zs) = wvA P ys ++ (s ++ weave ([] :: Q) zs) := by
  rw [weave_app _ _ _ _ h]
  congr 1
  cases zs with
  | nil =>
    obtain rfl : Q = [] := List.eq_nil_of_length_eq_zero h2
    simp [weave]
  | cons z zs => simp [weave]
theorem Shp.of {lv : List Int → Nat} {l : List It} {L : Nat} {P Q : List (List It)} {s ys zs : List It} (h : P.length = ys.length) (h2 : Q.length = zs.length) (hp : 0 < ys.length + zs.length) (e : l = wvA P ys ++ (s ++ weave ([] :: Q) zs))
    (ty : ∀ x ∈ ys, lv x.k = L) (tz : ∀ x ∈ zs, lv x.k = L) (lP : ∀ t ∈ P, ∀ x ∈ t, lv x.k < L) (lQ : ∀ t ∈ Q, ∀ x ∈ t, lv x.k < L) (ls : ∀ x ∈ s, lv x.k < L) : Shp lv l L (P ++ s :: Q) (ys ++ zs) := by
  refine ⟨by simp; omega, by simp; omega, by rw [e, weave_mid P Q s ys zs h h2], fun x hx => ?_, fun t ht => ?_⟩
  · rcases List.mem_append.1 hx with hx | hx
    · exact ty x hx
    · exact tz x hx
  · rcases List.mem_append.1 ht with ht | ht
    · exact lP t ht
    · rcases List.mem_cons.1 ht with rfl | ht
      · exact ls
      · exact lQ t ht
/-- Parted at a place: the front, the segment there, the rest. -/
structure Cut (lv : List Int → Nat) (l : List It) (L : Nat) (segs : List (List It)) (xs : List It) (i : Nat) (s A B : List It) : Prop where
  seg : segs[i]? = some s
  le : i ≤ xs.length
  es : segs = segs.take i ++ s :: segs.drop (i + 1)
  eA : A = wvA (segs.take i) (xs.take i)
  eB : B = weave ([] :: segs.drop (i + 1)) (xs.drop i)
  el : l = A ++ (s ++ B)
  l1 : (segs.take i).length = (xs.take i).length
  l2 : (segs.drop (i + 1)).length = (xs.drop i).length
  ty : ∀ x ∈ xs.take i, lv x.k = L
  tz : ∀ x ∈ xs.drop i, lv x.k = L
  lP : ∀ t ∈ segs.take i, ∀ x ∈ t, lv x.k < L
  lQ : ∀ t ∈ segs.drop (i + 1), ∀ x ∈ t, lv x.k < L
  ls : ∀ x ∈ s, lv x.k < L
theorem Shp.cut {lv : List Int → Nat} {l : List It} {L : Nat} {segs : List (List It)} {xs : List It} (h : Shp lv l L segs xs) (i : Nat) (hi : i ≤ xs.length) : ∃ s A B, Cut lv l L segs xs i s A B := by
  obtain ⟨s, h1, h2, h3⟩ := h.at i hi
  have hl := h.len
  exact ⟨s, _, _, h1, hi, h2, rfl, rfl, h3, by simp; omega, by simp; omega, fun x hx => h.top x (List.mem_of_mem_take hx), fun x hx => h.top x (List.mem_of_mem_drop hx), fun t ht => h.low t (List.mem_of_mem_take ht), fun t ht => h.low t (List.mem_of_mem_drop ht), h.low s (List.mem_of_getElem? h1)⟩
section
variable {lv : List Int → Nat} {l : List It} {L : Nat} {segs : List (List It)} {xs : List It} {i : Nat} {s A B : List It}
/-- Another segment in its place. -/
theorem Cut.set (c : Cut lv l L segs xs i s A B) (hp : 0 < xs.length) {s' : List It} (ls : ∀ x ∈ s', lv x.k < L) : Shp lv (A ++ (s' ++ B)) L (segs.take i ++ s' :: segs.drop (i + 1)) xs := by
  have := Shp.of (l := A ++ (s' ++ B)) (s := s') c.l1 c.l2 (by simp; have := c.le; omega) (by rw [c.eA, c.eB]) c.ty c.tz c.lP c.lQ ls
  rwa [List.take_append_drop] at this
/-- The front alone. -/
theorem Cut.front (c : Cut lv l L segs xs i s A B) (hi : 0 < i) {s' : List It} (ls : ∀ x ∈ s', lv x.k < L) : Shp lv (A ++ s') L (segs.take i ++ [s']) (xs.take i) := by
  have := Shp.of (l := A ++ s') (Q := []) (zs := []) (s := s') c.l1 rfl (by simp; have := c.le; omega) (by simp [weave, c.eA]) c.ty (by simp) c.lP (by simp) ls
  simpa using this
/-- The rest alone. -/
theorem Cut.back (c : Cut lv l L segs xs i s A B) (hi : i < xs.length) {s' : List It} (ls : ∀ x ∈ s', lv x.k < L) : Shp lv (s' ++ B) L (s' :: segs.drop (i + 1)) (xs.drop i) := by
  have := Shp.of (l := s' ++ B) (P := []) (ys := []) (s := s') rfl c.l2 (by simp; omega) (by simp [wvA, c.eB]) (by simp) c.tz (by simp) c.lQ ls
  simpa using this
/-- One item more. -/
theorem Cut.more (c : Cut lv l L segs xs i s A B) {x : It} (hx : lv x.k = L) {s1 s2 : List It} (h1 : ∀ x ∈ s1, lv x.k < L) (h2 : ∀ x ∈ s2, lv x.k < L) :
    Shp lv (A ++ (s1 ++ x :: (s2 ++ B))) L (segs.take i ++ s1 :: s2 :: segs.drop (i + 1)) (xs.take i ++ x :: xs.drop i) := by
  refine Shp.of (l := A ++ (s1 ++ x :: (s2 ++ B))) (Q := s2 :: segs.drop (i + 1)) (zs := x :: xs.drop i) (s := s1) c.l1 (by have := c.l2; simp only [List.length_cons]; omega) (by simp only [List.length_cons]; omega) ?_ c.ty ?_ c.lP ?_ h1
  · have e : weave (s2 :: segs.drop (i + 1)) (xs.drop i) = s2 ++ B := by
      have := weave_mid [] (segs.drop (i + 1)) s2 [] (xs.drop i) rfl c.l2
      simp only [List.nil_append, wvA] at this
      rw [this, c.eB]
    rw [c.eA]
    simp only [weave, List.nil_append, e]
  · intro y hy
    rcases List.mem_cons.1 hy with rfl | hy
    · exact hx
    · exact c.tz y hy
  · intro t ht
    rcases List.mem_cons.1 ht with rfl | ht
    · exact h2
    · exact c.lQ t ht
/-- Where the place has an item: the rest begins with it. -/
theorem Cut.next (c : Cut lv l L segs xs i s A B) (hi : i < xs.length) : ∃ t Q, segs.drop (i + 1) = t :: Q ∧ Q = segs.drop (i + 2) ∧ Q.length = (xs.drop (i + 1)).length ∧ (∀ x ∈ t, lv x.k < L) ∧ B = xs[i] :: (t ++ weave ([] :: Q) (xs.drop (i + 1))) := by
  have hl := c.l2
  have e : xs.drop i = xs[i] :: xs.drop (i + 1) := List.drop_eq_getElem_cons hi
  cases hd : segs.drop (i + 1) with
  | nil =>
    rw [hd] at hl
    simp at hl
    omega
  | cons t Q =>
    have hQ : Q = segs.drop (i + 2) := by
      have := congrArg (List.drop 1) hd
      rw [List.drop_drop] at this
      simpa using this.symm
    have hl2 : Q.length = (xs.drop (i + 1)).length := by rw [hd] at hl; simp at hl ⊢; omega
    refine ⟨t, Q, rfl, hQ, hl2, c.lQ t (by rw [hd]; exact List.mem_cons_self ..), ?_⟩
    have h3 := weave_mid [] Q t [] (xs.drop (i + 1)) rfl hl2
    simp only [List.nil_append, wvA] at h3
    rw [c.eB, hd, e]
    simp only [weave, List.nil_append, h3]
/-- Another item in its place. -/
theorem Cut.swap (c : Cut lv l L segs xs i s A B) (hi : i < xs.length) {x : It} (hx : lv x.k = L) : ∃ B', B = xs[i] :: B' ∧ Shp lv (A ++ (s ++ x :: B')) L segs (xs.take i ++ x :: xs.drop (i + 1)) := by
  obtain ⟨t, Q, hd, -, hl, ht, hB⟩ := c.next hi
  refine ⟨_, hB, ?_⟩
  have hQ : ∀ u ∈ Q, ∀ x ∈ u, lv x.k < L := fun u hu => c.lQ u (by rw [hd]; exact List.mem_cons_of_mem _ hu)
  have e : segs = segs.take i ++ s :: (t :: Q) := by rw [← hd]; exact c.es
  have := Shp.of (l := A ++ (s ++ x :: (t ++ weave ([] :: Q) (xs.drop (i + 1))))) (P := segs.take i) (ys := xs.take i) (Q := t :: Q) (zs := x :: xs.drop (i + 1)) (s := s) (L := L) (lv := lv) c.l1 (by simp only [List.length_cons]; omega) (by simp only [List.length_cons]; omega)
    (by
      rw [c.eA]
      have h3 := weave_mid [] Q t [] (xs.drop (i + 1)) rfl hl
      simp only [List.nil_append, wvA] at h3
      simp only [weave, List.nil_append, h3]) c.ty
    (by
      intro y hy
      rcases List.mem_cons.1 hy with rfl | hy
      · exact hx
      · exact c.tz y (by rw [List.drop_eq_getElem_cons hi]; exact List.mem_cons_of_mem _ hy)) c.lP
    (by
      intro u hu
      rcases List.mem_cons.1 hu with rfl | hu
      · exact ht
      · exact hQ u hu) c.ls
  rw [← e] at this
  exact this
/-- Without the item in its place. -/
theorem Cut.less (c : Cut lv l L segs xs i s A B) (hi : i < xs.length) : ∃ t B', segs[i + 1]? = some t ∧ (∀ x ∈ t, lv x.k < L) ∧ B = xs[i] :: (t ++ B') ∧ (xs.length = 1 → A = [] ∧ B' = []) ∧
    (1 < xs.length → ∀ u : List It, u = s ++ t → Shp lv (A ++ (u ++ B')) L (segs.take i ++ u :: segs.drop (i + 2)) (xs.take i ++ xs.drop (i + 1))) := by
  obtain ⟨t, Q, hd, hQe, hl, ht, hB⟩ := c.next hi
  have hQ : ∀ u ∈ Q, ∀ x ∈ u, lv x.k < L := fun u hu => c.lQ u (by rw [hd]; exact List.mem_cons_of_mem _ hu)
  refine ⟨t, _, ?_, ht, hB, fun h1 => ?_, fun h1 u hu => ?_⟩
  · have := congrArg (·[0]?) hd
    simpa using this
  · obtain rfl : i = 0 := by omega
    refine ⟨by rw [c.eA]; simp [wvA], ?_⟩
    have : xs.drop (0 + 1) = [] := List.drop_eq_nil_of_le (by omega)
    rw [this]
    simp [weave]
  · rw [← hQe]
    refine Shp.of c.l1 hl (by simp; omega) (by rw [c.eA]) c.ty (fun y hy => c.tz y (by rw [List.drop_eq_getElem_cons hi]; exact List.mem_cons_of_mem _ hy)) c.lP hQ ?_
    intro y hy
    rw [hu] at hy
    rcases List.mem_append.1 hy with hy | hy
    · exact c.ls y hy
    · exact ht y hy
/-- Parted where a key stands. -/
theorem Cut.key (c : Cut lv l L segs xs i s A B) (hs : Srt l) {key : List Int} (hlo : ∀ j (h : j < xs.length), j < i → cmpL xs[j].k key < 0) (hhi : ∀ j (h : j < xs.length), i ≤ j → ¬ cmpL xs[j].k key < 0) :
    (∀ x ∈ A, cmpL x.k key < 0) ∧ (∀ x ∈ B, ¬ cmpL x.k key < 0) ∧ ((∀ h : i < xs.length, xs[i].k ≠ key) → ∀ x ∈ B, cmpL key x.k < 0) := by
  have hle := c.le
  have hl1 := c.l1
  rw [c.el] at hs
  obtain ⟨hA, hsB, hAB⟩ := hs.app
  obtain ⟨hs', hB, -⟩ := hsB.app
  refine ⟨?_, ?_⟩
  · rcases Nat.eq_zero_or_pos i with rfl | hp
    · rw [c.eA]
      simp [wvA]
    · obtain ⟨j, rfl⟩ : ∃ j, i = j + 1 := ⟨i - 1, by omega⟩
      have hj : j < xs.length := by omega
      have hjs : j < segs.length := by simp at hl1; omega
      have e : A = wvA (segs.take j) (xs.take j) ++ (segs[j] ++ [xs[j]]) := by
        rw [c.eA, List.take_add_one, List.take_add_one, List.getElem?_eq_getElem hj, List.getElem?_eq_getElem hjs, wvA_app _ _ _ _ (by simp; omega)]
        simp [wvA]
      intro x hx
      have hk := hlo j hj (by omega)
      rw [e, ← List.append_assoc] at hA
      obtain ⟨-, -, h3⟩ := hA.app
      rw [e, ← List.append_assoc] at hx
      rcases List.mem_append.1 hx with hx | hx
      · exact cmpL_lt_trans _ _ _ (h3 x hx _ (List.mem_singleton.2 rfl)) hk
      · rw [List.mem_singleton.1 hx]
        exact hk
  · rcases Nat.lt_or_ge i xs.length with hi | hi
    · obtain ⟨t, Q, hd, -, hl, ht, e⟩ := c.next hi
      have hk := hhi i hi (Nat.le_refl _)
      rw [e] at hB ⊢
      obtain ⟨h3, -⟩ := hB.cons
      constructor
      · intro x hx
        rcases List.mem_cons.1 hx with rfl | hx
        · exact hk
        · intro h4
          exact hk (cmpL_lt_trans _ _ _ (h3 x hx) h4)
      · intro hne x hx
        have h5 : cmpL key xs[i].k < 0 := by
          rcases cmpL_total xs[i].k key with h | h | h
          · exact absurd h hk
          · exact absurd h (hne hi)
          · exact h
        rcases List.mem_cons.1 hx with rfl | hx
        · exact h5
        · exact cmpL_lt_trans _ _ _ h5 (h3 x hx)
    · have : xs.drop i = [] := List.drop_eq_nil_of_le hi
      have e : B = [] := by rw [c.eB, this]; rfl
      rw [e]
      simp
end
/-- What stands below and above a key that parts the items. -/
theorem lo_mid {A s B : List It} {key : List Int} (hA : ∀ x ∈ A, cmpL x.k key < 0) (hB : ∀ x ∈ B, ¬ cmpL x.k key < 0) : lo key (A ++ (s ++ B)) = A ++ lo key s := by
  rw [lo_append, lo_append, lo_all hA, lo_none hB, List.append_nil]
theorem hi_mid {A s B : List It} {key : List Int} (hA : ∀ x ∈ A, cmpL x.k key < 0) (hB : ∀ x ∈ B, cmpL key x.k < 0) : hi key (A ++ (s ++ B)) = hi key s ++ B := by
  rw [hi_append, hi_append, hi_all hB, hi_none (fun x hx => cmpL_asym (hA x hx)), List.nil_append]
theorem ins_mid {A s B : List It} {x : It} (hA : ∀ y ∈ A, cmpL y.k x.k < 0) (hB : ∀ y ∈ B, cmpL x.k y.k < 0) : ins (A ++ (s ++ B)) x = A ++ (ins s x ++ B) := by
  unfold ins
  rw [lo_mid hA (fun y hy => cmpL_asym (hB y hy)), hi_mid hA hB]
  simp
theorem del_mid {A s B : List It} {key : List Int} (hA : ∀ y ∈ A, cmpL y.k key < 0) (hB : ∀ y ∈ B, cmpL key y.k < 0) : del (A ++ (s ++ B)) key = A ++ (del s key ++ B) := by
  unfold del
  rw [lo_mid hA (fun y hy => cmpL_asym (hB y hy)), hi_mid hA hB]
  simp
theorem ins_at {l A B : List It} {x y : It} (h : Srt l) (e : l = A ++ y :: B) (hk : y.k = x.k) : ins l x = A ++ x :: B := by
  obtain ⟨h1, h2⟩ := h.split e
  unfold ins
  rw [← hk, h1, h2]
theorem del_at {l A B : List It} {y : It} {key : List Int} (h : Srt l) (e : l = A ++ y :: B) (hk : y.k = key) : del l key = A ++ B := by
  obtain ⟨h1, h2⟩ := h.split e
  unfold del
  rw [← hk, h1, h2]
theorem ins_lev {lv : List Int → Nat} {l : List It} {x : It} {L : Nat} (h : ∀ y ∈ l, lv y.k < L) (hx : lv x.k < L) : ∀ y ∈ ins l x, lv y.k < L := by
  intro y hy
  rcases List.mem_append.1 hy with hy | hy
  · exact h y (mem_lo.1 hy).1
  · rcases List.mem_cons.1 hy with rfl | hy
    · exact hx
    · exact h y (mem_hi.1 hy).1
theorem del_lev {lv : List Int → Nat} {l : List It} {k : List Int} {L : Nat} (h : ∀ y ∈ l, lv y.k < L) : ∀ y ∈ del l k, lv y.k < L := by
  intro y hy
  rcases List.mem_append.1 hy with hy | hy
  · exact h y (mem_lo.1 hy).1
  · exact h y (mem_hi.1 hy).1
theorem Shp.single {lv : List Int → Nat} {s1 s2 : List It} {x : It} {L : Nat} (hx : lv x.k = L) (h1 : ∀ y ∈ s1, lv y.k < L) (h2 : ∀ y ∈ s2, lv y.k < L) : Shp lv (s1 ++ x :: s2) L [s1, s2] [x] := by
  refine ⟨rfl, by simp, by simp [weave], fun y hy => by rw [List.mem_singleton.1 hy]; exact hx, fun t ht => ?_⟩
  rcases List.mem_cons.1 ht with rfl | ht
  · exact h1
  · rw [List.mem_singleton.1 ht]
    exact h2
/-- Two nodes of one level, one behind the other. -/
theorem Shp.join {lv : List Int → Nat} {l1 l2 : List It} {L : Nat} {segs1 segs2 : List (List It)} {xs1 xs2 : List It} (h1 : Shp lv l1 L segs1 xs1) (h2 : Shp lv l2 L segs2 xs2) :
    ∃ s t, segs1[xs1.length]? = some s ∧ segs2[0]? = some t ∧ ∀ u, u = s ++ t → Shp lv (l1 ++ l2) L (segs1.take xs1.length ++ u :: segs2.drop 1) (xs1 ++ xs2) := by
  obtain ⟨s, A, B, c1⟩ := h1.cut xs1.length (Nat.le_refl _)
  obtain ⟨t, A2, B2, c2⟩ := h2.cut 0 (Nat.zero_le _)
  have e1 : B = [] := by rw [c1.eB, List.drop_length]; rfl
  have e2 : A2 = [] := by rw [c2.eA]; rfl
  refine ⟨s, t, c1.seg, c2.seg, fun u hu => ?_⟩
  have hp := h1.pos
  refine Shp.of (by have := c1.l1; rw [List.take_length] at this; exact this) (by have := c2.l2; simpa using this) (by omega) ?_ h1.top h2.top c1.lP c2.lQ ?_
  · rw [c1.el, c2.el, e1, e2, hu, c1.eA, List.take_length, c2.eB]
    simp
  · intro y hy
    rw [hu] at hy
    rcases List.mem_append.1 hy with hy | hy
    · exact c1.ls y hy
    · exact c2.ls y hy
theorem Shp.rise {lv : List Int → Nat} {l : List It} {L : Nat} {segs : List (List It)} {xs : List It} (h : Shp lv l L segs xs) (hs : Srt l) : Srt xs := by
  rw [h.unique.2.2]
  exact List.Pairwise.filter _ hs
end Go.Proofs.YtnicnfjickknjaaDoor

namespace Go.Proofs.YtnicnfjickknjaaDoor
open Go.RowKit

theorem sb_at (s : ByteArray) (k : Nat) (h : k < s.size) : (sb s).drop k = (s[k].toNat : Int) :: (sb s).drop (k + 1) := by
  have hl : k < (sb s).length := by rw [sb_len]; exact h
  rw [List.drop_eq_getElem_cons hl]
  simp [sb, ByteArray.getElem_eq_getElem_data]
theorem cmpL_cons (a b : Int) (s t : List Int) : cmpL (a :: s) (b :: t) = if a = b then cmpL s t else if a < b then -1 else 1 := by rw [cmpL]
theorem sb_end (s : ByteArray) (k : Nat) (h : s.size ≤ k) : (sb s).drop k = [] := List.drop_eq_nil_of_le (by rw [sb_len]; exact h)

theorem belN {n : Nat} {a w : World} (h : Below n a w) (q : Nat) : Below n a (w.drewN q) := by
  have e0 : (w.drewN q).heap = w.heap := by simp
  exact ⟨by rw [← h.os]; rfl, by rw [← h.tape]; rfl, by rw [← h.output]; rfl, by rw [e0]; exact h.size, fun k hk => by rw [e0]; exact h.block k hk⟩
end Go.Proofs.YtnicnfjickknjaaDoor

namespace Go
section
variable {P : Program} {ops : Array Oper} {S : World → Prop} {Q : Exit → Act → World → Prop} {fuel : Nat} {listed : Array Bool} {a : Act} {w : World}
/-- Take number i first. -/
theorem hr_take (i : Nat) (d : Option Tmp) (v : Value) {oi : Oper} (hi : ops[i]? = some oi) (hd : oi.dst = d) (hs : Region.noSelect ops = true) (hf : Region.free .any ops listed i = true) (hr : (Region.ready .any ops listed).contains i = true)
    (hg : oi.guard = none) (hrun : ∀ W, S W → (execOp a.eval oi).run P W = .ok (.value v) W) (hS : S w) (h : wpAnyH P .any ops (NoPanic Q) S fuel (listed.setIfInBounds i true) (a.put d v) w) : wpAnyH P .any ops (NoPanic Q) S (fuel + 1) listed a w :=
  wpAnyH_take hi hs hf hr (fun _ _ _ h => h) (.inl ⟨by simp [Region.wanted, hg], hrun⟩) hS (by rw [hd]; exact h)
theorem hr_take_w (i : Nat) (d : Option Tmp) (v : Value) {oi : Oper} (hi : ops[i]? = some oi) (hd : oi.dst = d) (hs : Region.noSelect ops = true) (hf : Region.free .any ops listed i = true) (hr : (Region.ready .any ops listed).contains i = true)
    (hw : Region.wanted oi (yielded ops a.tmps) = true) (hrun : ∀ W, S W → (execOp a.eval oi).run P W = .ok (.value v) W) (hS : S w) (h : wpAnyH P .any ops (NoPanic Q) S fuel (listed.setIfInBounds i true) (a.put d v) w) : wpAnyH P .any ops (NoPanic Q) S (fuel + 1) listed a w :=
  wpAnyH_take hi hs hf hr (fun _ _ _ h => h) (.inl ⟨hw, hrun⟩) hS (by rw [hd]; exact h)
/-- Number i's guard says no. -/
theorem hr_none (i : Nat) (d : Option Tmp) {oi : Oper} (hi : ops[i]? = some oi) (hd : oi.dst = d) (hs : Region.noSelect ops = true) (hf : Region.free .any ops listed i = true) (hr : (Region.ready .any ops listed).contains i = true)
    (hw : Region.wanted oi (yielded ops a.tmps) = false) (hS : S w) (h : wpAnyH P .any ops (NoPanic Q) S fuel (listed.setIfInBounds i true) (a.put d undef) w) : wpAnyH P .any ops (NoPanic Q) S (fuel + 1) listed a w :=
  wpAnyH_take hi hs hf hr (fun _ _ _ h => h) (.inr ⟨hw, rfl⟩) hS (by rw [hd]; exact h)
/-- Carry number i out: no other may come up. -/
theorem hr_do (i : Nat) (d : Option Tmp) (v : Value) {oi : Oper} {w' : World} (hi : ops[i]? = some oi) (hd : oi.dst = d) (hr : Region.ready .any ops listed = [i]) (hg : oi.guard = none) (hrun : (execOp a.eval oi).run P w = .ok (.value v) w') (hS : S w')
    (h : wpAnyH P .any ops (NoPanic Q) S fuel (listed.setIfInBounds i true) (a.put d v) w') : wpAnyH P .any ops (NoPanic Q) S (fuel + 1) listed a w := by
  refine wpAnyH_all hr (by simp) fun j hj => ?_
  obtain rfl := List.mem_singleton.1 hj
  have hw : Region.wanted oi (yielded ops a.tmps) = true := by simp [Region.wanted, hg]
  unfold wpOp
  simp only [hi, hw, if_true, Oper.wp, hrun, Oper.upon, hd]
  exact .inl ⟨hS, h⟩
theorem hr_skip (i : Nat) (d : Option Tmp) {oi : Oper} {w' : World} (hi : ops[i]? = some oi) (hd : oi.dst = d) (hr : Region.ready .any ops listed = [i]) (hg : oi.guard = none) (hrun : (execOp a.eval oi).run P w = .ok .skip w') (hS : S w')
    (h : wpAnyH P .any ops (NoPanic Q) S fuel (listed.setIfInBounds i true) (a.put d undef) w') : wpAnyH P .any ops (NoPanic Q) S (fuel + 1) listed a w := by
  refine wpAnyH_all hr (by simp) fun j hj => ?_
  obtain rfl := List.mem_singleton.1 hj
  have hw : Region.wanted oi (yielded ops a.tmps) = true := by simp [Region.wanted, hg]
  unfold wpOp
  simp only [hi, hw, if_true, Oper.wp, hrun, Oper.upon, hd]
  exact .inl ⟨hS, h⟩
theorem hr_skip_ex (i : Nat) (d : Option Tmp) {oi : Oper} {R : World → Prop} (hi : ops[i]? = some oi) (hd : oi.dst = d) (hr : Region.ready .any ops listed = [i]) (hg : oi.guard = none) (hrun : ∃ w', (execOp a.eval oi).run P w = .ok .skip w' ∧ R w')
    (h : ∀ w', R w' → S w' ∧ wpAnyH P .any ops (NoPanic Q) S fuel (listed.setIfInBounds i true) (a.put d undef) w') : wpAnyH P .any ops (NoPanic Q) S (fuel + 1) listed a w := by
  obtain ⟨w', h1, h2⟩ := hrun
  exact hr_skip i d hi hd hr hg h1 (h w' h2).1 (h w' h2).2
/-- .. a call. -/
theorem hr_call (i : Nat) (d : Option Tmp) {oi : Oper} (f : FuncId) (args : Array Value) (hi : ops[i]? = some oi) (hd : oi.dst = d) (hr : Region.ready .any ops listed = [i]) (hg : oi.guard = none) (hrun : (execOp a.eval oi).run P w = .ok (.enter f args) w)
    (R : Value → World → Prop) (hc : Calls P f args w fun e w' => ∃ v, e = .returned v ∧ R v w')
    (h : ∀ v w', R v w' → S w' ∧ wpAnyH P .any ops (NoPanic Q) S fuel (listed.setIfInBounds i true) (a.put d v) w') : wpAnyH P .any ops (NoPanic Q) S (fuel + 1) listed a w := by
  refine wpAnyH_all hr (by simp) fun j hj => ?_
  obtain rfl := List.mem_singleton.1 hj
  have hw : Region.wanted oi (yielded ops a.tmps) = true := by simp [Region.wanted, hg]
  unfold wpOp
  simp only [hi, hw, if_true, Oper.wp, hrun, Oper.upon, hd]
  refine .inl (hc.mono ?_)
  rintro e w' ⟨v, rfl, hR⟩
  exact h v w' hR
theorem hr_call_w (i : Nat) (d : Option Tmp) {oi : Oper} (f : FuncId) (args : Array Value) (hi : ops[i]? = some oi) (hd : oi.dst = d) (hr : Region.ready .any ops listed = [i]) (hw : Region.wanted oi (yielded ops a.tmps) = true) (hrun : (execOp a.eval oi).run P w = .ok (.enter f args) w)
    (R : Value → World → Prop) (hc : Calls P f args w fun e w' => ∃ v, e = .returned v ∧ R v w')
    (h : ∀ v w', R v w' → S w' ∧ wpAnyH P .any ops (NoPanic Q) S fuel (listed.setIfInBounds i true) (a.put d v) w') : wpAnyH P .any ops (NoPanic Q) S (fuel + 1) listed a w := by
  refine wpAnyH_all hr (by simp) fun j hj => ?_
  obtain rfl := List.mem_singleton.1 hj
  unfold wpOp
  simp only [hi, hw, if_true, Oper.wp, hrun, Oper.upon, hd]
  refine .inl (hc.mono ?_)
  rintro e w' ⟨v, rfl, hR⟩
  exact h v w' hR
end
end Go

namespace Go
section
variable {P : Program} {ops : Array Oper} {S : World → Prop} {Q : Exit → Act → World → Prop} {fuel : Nat} {listed : Array Bool} {a : Act} {w : World}
/-- Carry number i out, whatever it yields. -/
theorem hr_ex (i : Nat) (d : Option Tmp) {oi : Oper} {R : Value → World → Prop} (hi : ops[i]? = some oi) (hd : oi.dst = d) (hr : Region.ready .any ops listed = [i]) (hw : Region.wanted oi (yielded ops a.tmps) = true)
    (hrun : ∃ v w', (execOp a.eval oi).run P w = .ok (.value v) w' ∧ R v w')
    (h : ∀ v w', R v w' → S w' ∧ wpAnyH P .any ops (NoPanic Q) S fuel (listed.setIfInBounds i true) (a.put d v) w') : wpAnyH P .any ops (NoPanic Q) S (fuel + 1) listed a w := by
  refine wpAnyH_all hr (by simp) fun j hj => ?_
  obtain rfl := List.mem_singleton.1 hj
  obtain ⟨v, w', hrun, hR⟩ := hrun
  unfold wpOp
  simp only [hi, hw, if_true, Oper.wp, hrun, Oper.upon, hd]
  exact .inl (h v w' hR)
/-- The same where several may come up. -/
theorem op_ex (i : Nat) (d : Option Tmp) {oi : Oper} {R : Value → World → Prop} (hi : ops[i]? = some oi) (hd : oi.dst = d) (hw : Region.wanted oi (yielded ops a.tmps) = true)
    (hrun : ∃ v w', (execOp a.eval oi).run P w = .ok (.value v) w' ∧ R v w')
    (h : ∀ v w', R v w' → S w' ∧ wpAnyH P .any ops (NoPanic Q) S fuel (listed.setIfInBounds i true) (a.put d v) w') : wpOp P ops (NoPanic Q) i (fun a' w' => S w' ∧ wpAnyH P .any ops (NoPanic Q) S fuel (listed.setIfInBounds i true) a' w') a w := by
  obtain ⟨v, w', hrun, hR⟩ := hrun
  unfold wpOp
  simp only [hi, hw, if_true, Oper.wp, hrun, Oper.upon, hd]
  exact .inl (h v w' hR)
theorem op_calls (i : Nat) (d : Option Tmp) {oi : Oper} (f : FuncId) (args : Array Value) (hi : ops[i]? = some oi) (hd : oi.dst = d) (hw : Region.wanted oi (yielded ops a.tmps) = true) (hrun : (execOp a.eval oi).run P w = .ok (.enter f args) w)
    (R : Value → World → Prop) (hc : Calls P f args w fun e w' => ∃ v, e = .returned v ∧ R v w')
    (h : ∀ v w', R v w' → S w' ∧ wpAnyH P .any ops (NoPanic Q) S fuel (listed.setIfInBounds i true) (a.put d v) w') : wpOp P ops (NoPanic Q) i (fun a' w' => S w' ∧ wpAnyH P .any ops (NoPanic Q) S fuel (listed.setIfInBounds i true) a' w') a w := by
  unfold wpOp
  simp only [hi, hw, if_true, Oper.wp, hrun, Oper.upon, hd]
  refine .inl (hc.mono ?_)
  rintro e w' ⟨v, rfl, hR⟩
  exact h v w' hR
theorem hr_any {rs : List Nat} (hr : Region.ready .any ops listed = rs) (hne : rs ≠ []) (h : ∀ i ∈ rs, wpOp P ops (NoPanic Q) i (fun a' w' => S w' ∧ wpAnyH P .any ops (NoPanic Q) S fuel (listed.setIfInBounds i true) a' w') a w) : wpAnyH P .any ops (NoPanic Q) S (fuel + 1) listed a w :=
  wpAnyH_all hr hne h
end
end Go
namespace Go.Proofs.YtnicnfjickknjaaDoor
open Go.RowKit
theorem Addr.add_nought (a : Addr) : a.add 0 = a := by
  obtain ⟨b, o, s⟩ := a
  cases s <;> simp [Addr.add]
/-- l[:i:c] -/
theorem run_front {P : Program} {W : World} {t e : TypeId} {ao : Option Addr} {n cap i c : Nat} (ht : P.underlying t = some (.slice e)) (h1 : i ≤ c) (h2 : c ≤ cap) (hs : ∀ w, (sizeOf e).run P w = .ok 1 w) :
    (Instr.sliceAt t (.slice ao n cap) none (some (.int .i64 (i : Nat))) (some (.int .i64 (c : Nat)))).run P W = .ok (.slice ao i c) W := by
  have he : P.elem t = e := by simp [Program.elem, ht]
  rw [run_sliceAt_slice W t _ _ _ _ (by rw [he]; exact ht), run_slice_hm W t ao n cap (by rw [he]; exact ht) .i64 .i64 i c (by omega) (by omega) (by omega), he, hs]
  simp only [Result.andThen_ok, sliced, Int.toNat_natCast, Nat.zero_mul, Nat.sub_zero]
  cases ao with
  | none => simp
  | some a => simp [Addr.add_nought]
/-- l[:i] -/
theorem run_upto {P : Program} {W : World} {t e : TypeId} {ao : Option Addr} {n cap i : Nat} (ht : P.underlying t = some (.slice e)) (h1 : i ≤ cap) (hs : ∀ w, (sizeOf e).run P w = .ok 1 w) :
    (Instr.sliceAt t (.slice ao n cap) none (some (.int .i64 (i : Nat))) none).run P W = .ok (.slice ao i cap) W := by
  have he : P.elem t = e := by simp [Program.elem, ht]
  rw [run_sliceAt_slice W t _ _ _ _ (by rw [he]; exact ht), run_slice_h W t ao n cap (by rw [he]; exact ht) .i64 i (by omega) (by omega), he, hs]
  simp only [Result.andThen_ok, sliced, Int.toNat_natCast, Nat.zero_mul, Nat.sub_zero]
  cases ao with
  | none => simp
  | some a => simp [Addr.add_nought]
/-- Where l[j:] lies. -/
def bk (ao : Option Addr) (cap j : Nat) : Option Addr := if cap = j then ao else ao.map (·.add j)
/-- l[j:] -/
theorem run_back {P : Program} {W : World} {t e : TypeId} {ao : Option Addr} {n cap j : Nat} (ht : P.underlying t = some (.slice e)) (h1 : j ≤ n) (hs : ∀ w, (sizeOf e).run P w = .ok 1 w) :
    (Instr.sliceAt t (.slice ao n cap) (some (.int .i64 (j : Nat))) none none).run P W = .ok (.slice (bk ao cap j) (n - j) (cap - j)) W := by
  have he : P.elem t = e := by simp [Program.elem, ht]
  rw [run_sliceAt_slice W t _ _ _ _ (by rw [he]; exact ht), run_slice_l W t ao n cap (by rw [he]; exact ht) .i64 j (by omega) (by omega), he, hs]
  simp only [Result.andThen_ok, sliced, Int.toNat_natCast, Nat.mul_one, bk]
theorem VL.from {w : World} {ao : Option Addr} {n cap : Nat} {vs : List Value} (h : VL w ao n cap vs) (j : Nat) (hj : j ≤ n) : VL w (bk ao cap j) (n - j) (cap - j) (vs.drop j) := by
  cases ao with
  | some a => 
    have := h.back j hj
    unfold bk
    by_cases hc : cap = j
    · rw [if_pos hc] at this ⊢
      exact this
    · rw [if_neg hc] at this ⊢
      exact this
  | none =>
    obtain ⟨rfl, rfl⟩ := h.nil rfl
    obtain rfl : j = 0 := by omega
    obtain rfl : vs = [] := List.eq_nil_of_length_eq_zero h.len
    exact VL.nothing w
theorem size1 (e : TypeId) (h : (Tryd.prog.info? e).map (·.size) = some 1) (w : World) : (sizeOf e).run Tryd.prog w = .ok 1 w := by
  cases hi : Tryd.prog.info? e with
  | none => rw [hi] at h; simp at h
  | some i =>
    rw [hi] at h
    simp only [Option.map_some, Option.some.injEq] at h
    simp [sizeOf, typeInfo, hi, h]
end Go.Proofs.YtnicnfjickknjaaDoor

namespace Go.Proofs.YtnicnfjickknjaaDoor
open Go.RowKit

theorem sb_push (s : ByteArray) (b : UInt8) : sb (s.push b) = sb s ++ [(b.toNat : Int)] := by
  simp [sb, ByteArray.push]
theorem load_bytes {w : World} : ∀ (n : Nat) (a : Addr) (xs : List Int) (acc : ByteArray), xs.length = n → Byt xs → (∀ i, i < n → w.cell? (a.add i) = some (.int .u8 (xs.getD i 0))) →
    ∃ s, (Extern.Bytes.loadBytes a n acc).run Tryd.prog w = .ok s w ∧ sb s = sb acc ++ xs
  | 0, a, xs, acc, hl, _, _ => by
    obtain rfl : xs = [] := List.eq_nil_of_length_eq_zero hl
    exact ⟨acc, rfl, by simp⟩
  | n + 1, a, [], acc, hl, _, _ => by simp at hl
  | n + 1, a, x :: xs, acc, hl, hb, hc => by
    have h0 := hc 0 (by omega)
    rw [Addr.add_nought] at h0
    have hx := hb x (List.mem_cons_self ..)
    obtain ⟨s, h1, h2⟩ := load_bytes n (a.add 1) xs (acc.push x.toNat.toUInt8) (by simpa using hl) (fun y hy => hb y (List.mem_cons_of_mem _ hy)) (fun i hi => by
      have := hc (i + 1) (by omega)
      rw [Addr.add_add, Nat.add_comm 1 i, this]
      simp)
    refine ⟨s, ?_, ?_⟩
    · have h0' : w.cell? a = some (.int .u8 x) := by simpa using h0
      unfold Extern.Bytes.loadBytes
      simp only [Sem.run_bind, run_load, h0', Result.andThen_ok]
      exact h1
    · rw [h2, sb_push, List.append_assoc]
      congr 1
      simp
      omega
theorem cmp_sb (a b : List UInt8) : Lib.compareBytes a b = cmpL (a.map fun c => (c.toNat : Int)) (b.map fun c => (c.toNat : Int)) := by
  induction a generalizing b with
  | nil => cases b <;> rfl
  | cons x a ih =>
    cases b with
    | nil => rfl
    | cons y b =>
      have hxy : x < y ↔ (x.toNat : Int) < y.toNat := by rw [UInt8.lt_iff_toNat_lt]; omega
      have hyx : y < x ↔ (y.toNat : Int) < x.toNat := by rw [UInt8.lt_iff_toNat_lt]; omega
      simp only [Lib.compareBytes, List.map_cons, cmpL, ih]
      by_cases h1 : x < y
      · have := hxy.1 h1
        rw [if_pos h1, if_neg (by omega), if_pos (by omega)]
      · rw [if_neg h1]
        by_cases h2 : y < x
        · have := hyx.1 h2
          rw [if_pos h2, if_neg (by omega), if_neg (by omega)]
        · have h3 : ¬ (x.toNat : Int) < y.toNat := fun h => h1 (hxy.2 h)
          have h4 : ¬ (y.toNat : Int) < x.toNat := fun h => h2 (hyx.2 h)
          rw [if_neg h2, if_pos (by omega)]
theorem bytes_of {w : World} {ao : Option Addr} {n cap : Nat} {xs : List Int} (h : Sl w ao n cap xs) : ∃ s, (Extern.Bytes.bytesOf (.slice ao n cap)).run Tryd.prog w = .ok s w ∧ sb s = xs := by
  cases ao with
  | none =>
    obtain ⟨rfl, rfl⟩ := h.nil rfl
    obtain rfl : xs = [] := List.eq_nil_of_length_eq_zero h.len
    exact ⟨_, rfl, rfl⟩
  | some a =>
    obtain ⟨s, h1, h2⟩ := load_bytes n a xs .empty h.len h.byte (h.cell a rfl)
    exact ⟨s, h1, by rw [h2]; rfl⟩
theorem bcmp_any (w : World) (ao bo : Option Addr) (n cap m cap2 : Nat) (xs ys : List Int) (h : Sl w ao n cap xs) (h2 : Sl w bo m cap2 ys) :
    Calls Tryd.prog 37 #[.slice ao n cap, .slice bo m cap2] w fun e w' => e = .returned (.int .i64 (cmpL xs ys)) ∧ w' = w := by
  have hcall : (callFunc 55 #[.slice ao n cap, .slice bo m cap2]).run Tryd.prog w = .ok (.value (.int .i64 (cmpL xs ys))) w := by
    rw [run_callFunc_extern Tryd.func55 (by kernel_rfl) (by kernel_rfl) (by kernel_rfl) (e := Extern.BytealgCompare.compare) (by kernel_rfl)]
    obtain ⟨s, h3, h4⟩ := bytes_of h
    obtain ⟨t, h5, h6⟩ := bytes_of h2
    have e : (Extern.BytealgCompare.compare #[.slice ao n cap, .slice bo m cap2]).run Tryd.prog w = .ok (.int .i64 (cmpL xs ys)) w := by
      change Sem.run Tryd.prog (do pure (goInt (Extern.BytealgCompare.cmp (← Extern.Bytes.bytesOf (.slice ao n cap)) (← Extern.Bytes.bytesOf (.slice bo m cap2))))) w = _
      simp only [Sem.run_bind, h3, h5, Sem.run_pure, Result.andThen]
      rw [Lib.cmp_eq, cmp_sb, ← h4, ← h6]
      rfl
    rw [e]
    rfl
  go_enter Tryd.func37, Tryd.ntmps37
  go_wp2
  go_ret
  exact ⟨rfl, rfl⟩
end Go.Proofs.YtnicnfjickknjaaDoor

namespace Go.Proofs.YtnicnfjickknjaaDoor
open Go.RowKit

/-- Where a key stands among some that rise: how many are below it; is it one of them? -/
structure At (ks : List Part) (key : List Int) (i : Nat) (b : Bool) : Prop where
  le : i ≤ ks.length
  lo : ∀ j (h : j < ks.length), j < i → cmpL ks[j].xs key < 0
  hi : ∀ j (h : j < ks.length), i ≤ j → ¬ cmpL ks[j].xs key < 0
  eq : b = true ↔ ∃ h : i < ks.length, ks[i].xs = key

/-- What a search answers. -/
def Found (w : World) (ks : List Part) (key : List Int) (e : Ending) (w' : World) : Prop := ∃ (i : Nat) (b : Bool), e = .returned (.tuple #[.int .i64 (i : Nat), .bool b]) ∧ At ks key i b ∧ Below w.heap.size w w'

set_option maxHeartbeats 1000000 in
set_option maxRecDepth 100000 in
theorem bsf_any (w : World) (ko xo : Option Addr) (n kc m xc : Nat) (ks : List Part) (key : List Int) (h : KL w ko n kc ks) (hx : Sl w xo m xc key) (hs : ks.Pairwise fun a b => cmpL a.xs b.xs < 0) (hn : n ≤ 1000000) :
    Calls Tryd.prog 63 #[.slice ko n kc, .slice xo m xc, .func (.func 37) #[] #[]] w (Found w ks key) := by
  have hl := h.len
  have hni : (n : Int) ≤ 1000000 := by omega
  go_enter Tryd.func63, Tryd.ntmps63
  go_wp2
  go_loopw [9, 10] (fun a b wr => ∃ i j : Nat, i ≤ j ∧ j ≤ n ∧ a = .int .i64 i ∧ b = .int .i64 j ∧ wr = w ∧ (∀ t (h : t < ks.length), t < i → cmpL ks[t].xs key < 0) ∧ (∀ t (h : t < ks.length), j ≤ t → ¬ cmpL ks[t].xs key < 0)) (fun a b _ => (intOf b).toNat - (intOf a).toNat)
  case atStart => exact ⟨0, n, Nat.zero_le _, Nat.le_refl _, rfl, rfl, rfl, fun t _ ht => by omega, fun t h1 h2 => by omega⟩
  case round =>
    obtain ⟨i, j, hij, hj, rfl, rfl, rfl, h1, h2⟩ := hrel
    by_cases hlt : i < j
    · have hlt' : (i : Int) < (j : Int) := by omega
      obtain ⟨b, off, rfl, hc⟩ := h.vl.at (by omega)
      have c1 := hc ((i + j) / 2) (by simp; omega)
      have S1 := h.sl (ks[(i + j) / 2]'(by omega)) (List.getElem_mem _)
      obtain ⟨q, hq⟩ : ∃ q, q = ks[(i + j) / 2]'(by omega) := ⟨_, rfl⟩
      have H1 : Hid (∀ t (h : t < ks.length), t < i → cmpL ks[t].xs key < 0) := h1
      have H2 : Hid (∀ t (h : t < ks.length), j ≤ t → ¬ cmpL ks[t].xs key < 0) := h2
      simp only [List.getElem_map] at c1
      rw [← hq] at S1 c1
      have HQ : Hid (q = ks[(i + j) / 2]'(by omega)) := hq
      clear hq hc h1 h2
      unfold Part.val at c1
      go_wp2_with (go_at_call 37; refine (bcmp_any wr q.ao xo q.n q.cap m xc q.xs key S1 hx).mono ?_; rintro e w2 ⟨rfl, hw⟩; obtain rfl := hw.symm; obtain ⟨c, hcq⟩ : ∃ c, c = cmpL q.xs key := ⟨_, rfl⟩; rw [← hcq]; have HC : Hid (c = cmpL q.xs key) := hcq; clear hcq)
      · have hneg : c < 0 := by assumption
        go_roundw
        case rel =>
          refine ⟨(i + j) / 2 + 1, j, by omega, hj, by go_num, rfl, trivial, fun t ht hti => ?_, fun t ht htj => by have := H2.out t ht htj; omega⟩
          have hq := HQ.out
          have hc := HC.out
          by_cases hth : t = (i + j) / 2
          · subst hth
            rw [← hq, ← hc]
            exact hneg
          · have h3 := List.pairwise_iff_getElem.1 hs t ((i + j) / 2) ht (by omega) (by omega)
            rw [← hq] at h3
            exact cmpL_lt_trans _ _ _ h3 (by rw [← hc]; exact hneg)
        case measure => simp [intOf]; omega
      · have hpos : ¬ c < 0 := by omega
        go_roundw
        case rel =>
          refine ⟨i, (i + j) / 2, by omega, by omega, rfl, by go_num, trivial, H1.out, fun t ht hti => ?_⟩
          have hq := HQ.out
          have hc := HC.out
          by_cases hth : t = (i + j) / 2
          · subst hth
            rw [← hq, ← hc]
            exact hpos
          · intro h4
            have h3 := List.pairwise_iff_getElem.1 hs ((i + j) / 2) t (by omega) ht (by omega)
            rw [← hq] at h3
            have := cmpL_lt_trans _ _ _ h3 h4
            rw [← hc] at this
            exact hpos this
        case measure => simp [intOf]; omega
    · obtain rfl : i = j := by omega
      have H1 : Hid (∀ t (h : t < ks.length), t < i → cmpL ks[t].xs key < 0) := h1
      have H2 : Hid (∀ t (h : t < ks.length), i ≤ t → ¬ cmpL ks[t].xs key < 0) := h2
      clear h1 h2
      by_cases hin : i < n
      · have hin' : (i : Int) < (n : Int) := by omega
        obtain ⟨b, off, rfl, hc⟩ := h.vl.at (by omega)
        have c1 := hc i (by simp; omega)
        have hil : i < ks.length := by omega
        have S1 := h.sl ks[i] (List.getElem_mem hil)
        obtain ⟨q, hq⟩ : ∃ q, q = ks[i] := ⟨_, rfl⟩
        simp only [List.getElem_map] at c1
        rw [← hq] at S1 c1
        have HQ : Hid (q = ks[i]) := hq
        clear hq hc
        unfold Part.val at c1
        go_wp2_with (go_at_call 37; refine (bcmp_any wr q.ao xo q.n q.cap m xc q.xs key S1 hx).mono ?_; rintro e w2 ⟨rfl, hw⟩; obtain rfl := hw.symm; obtain ⟨c, hcq⟩ : ∃ c, c = cmpL q.xs key := ⟨_, rfl⟩; rw [← hcq]; have HC : Hid (c = cmpL q.xs key) := hcq; clear hcq)
        go_ret2
        refine ⟨i, _, rfl, ⟨by omega, H1.out, fun j h k => by have := H2.out j h k; omega, ?_⟩, Below.refl _ _⟩
        have hq := HQ.out
        have hc := HC.out
        constructor
        · intro hb
          have : c = 0 := by simpa using hb
          exact ⟨hil, by rw [← hq]; exact cmpL_eq _ _ (by rw [← hc]; exact this)⟩
        · rintro ⟨_, he⟩
          rw [← hq] at he
          have : c = 0 := by rw [hc, he]; exact cmpL_self _
          simpa using this
      · have hin' : ¬ (i : Int) < (n : Int) := by omega
        go_wp2
        go_ret2
        refine ⟨i, false, rfl, ⟨by omega, H1.out, fun j h k => by have := H2.out j h k; omega, ?_⟩, Below.refl _ _⟩
        constructor
        · intro hb
          simp at hb
        · rintro ⟨hb, _⟩
          omega

/-- tree.place, of a node whose keys rise. -/
theorem place_any (w : World) (d : Nd) (h : d.ok w) (xo : Option Addr) (m xc : Nat) (key : List Int) (hx : Sl w xo m xc key) (hs : d.ks.Pairwise fun a b => cmpL a.xs b.xs < 0) (hn : d.ks.length ≤ 1000000) :
    Calls Tryd.prog 46 #[d.ptr, .slice xo m xc] w (Found w d.ks key) := by
  have c1 := h.c1
  have hk := h.kl
  unfold Nd.ptr
  go_enter Tryd.func46, Tryd.ntmps46
  go_wp2_with fail
  refine (bsf_any w d.ko xo d.ks.length d.kc m xc d.ks key hk hx hs hn).mono ?_
  rintro e w' ⟨i, b, rfl, hat, hb⟩
  go_wp2
  go_ret2
  exact ⟨i, b, rfl, hat, hb⟩
end Go.Proofs.YtnicnfjickknjaaDoor

namespace Go.Proofs.YtnicnfjickknjaaDoor
open Go.RowKit

/-- The values cs are the trees of segs, one by one. -/
structure Kids (w : World) (cs : List Value) (segs : List (List It)) : Prop where
  len : cs.length = segs.length
  kid : ∀ (i : Nat) (s : List It), segs[i]? = some s → ∃ u, cs[i]? = some u ∧ T w u s
section
variable {w w' : World} {cs ds : List Value} {segs regs : List (List It)}
theorem Kids.below (h : Kids w cs segs) (hb : Below w.heap.size w w') : Kids w' cs segs := ⟨h.len, fun i s hi => by obtain ⟨u, hu, ht⟩ := h.kid i s hi; exact ⟨u, hu, ht.below hb⟩⟩
theorem Kids.nil (w : World) : Kids w [] [] := ⟨rfl, fun i s h => by simp at h⟩
theorem Kids.app (h : Kids w cs segs) (k : Kids w ds regs) : Kids w (cs ++ ds) (segs ++ regs) := by
  have hl := h.len
  refine ⟨by rw [List.length_append, List.length_append, h.len, k.len], fun i s hi => ?_⟩
  by_cases hlt : i < segs.length
  · rw [List.getElem?_append_left hlt] at hi
    rw [List.getElem?_append_left (by omega)]
    exact h.kid i s hi
  · rw [List.getElem?_append_right (by omega)] at hi
    rw [List.getElem?_append_right (by omega), hl]
    exact k.kid _ s hi
theorem Kids.one {u : Value} {s : List It} (h : T w u s) : Kids w [u] [s] := ⟨rfl, fun i t hi => by
  cases i with
  | zero => simp at hi; subst hi; exact ⟨u, rfl, h⟩
  | succ i => simp at hi⟩
theorem Kids.cons {u : Value} {s : List It} (h : T w u s) (k : Kids w cs segs) : Kids w (u :: cs) (s :: segs) := (Kids.one h).app k
theorem Kids.take (h : Kids w cs segs) (n : Nat) : Kids w (cs.take n) (segs.take n) := by
  refine ⟨by simp [h.len], fun i s hi => ?_⟩
  rw [List.getElem?_take] at hi ⊢
  split at hi
  · rename_i hlt
    rw [if_pos hlt]
    exact h.kid i s hi
  · simp at hi
theorem Kids.drop (h : Kids w cs segs) (n : Nat) : Kids w (cs.drop n) (segs.drop n) := by
  refine ⟨by simp [h.len], fun i s hi => ?_⟩
  rw [List.getElem?_drop] at hi ⊢
  exact h.kid _ s hi
theorem Kids.oneCell (h : Kids w cs segs) : ∀ u ∈ cs, u.oneCell' = true := fun u hu => by
  obtain ⟨i, hi, rfl⟩ := List.mem_iff_getElem.1 hu
  have hs : i < segs.length := by rw [← h.len]; exact hi
  obtain ⟨u, hu, ht⟩ := h.kid i segs[i] (List.getElem?_eq_getElem hs)
  rw [List.getElem?_eq_getElem hi] at hu
  rw [Option.some.inj hu]
  exact ht.one
end
theorem Nod.kids {w : World} {l : List It} {d : Nd} {segs : List (List It)} {xs : List It} (h : Nod w l d segs xs) : Kids w d.cs segs := ⟨h.ec, h.kid⟩

/-- A list of keys or values out of what 'changed' answers. -/
theorem KL.of {w : World} {ao : Option Addr} {n cap : Nat} {vs : List Value} {ps : List Part} (h : VL w ao n cap vs) (e : vs = ps.map Part.val) (hs : ∀ q ∈ ps, Sl w q.ao q.n q.cap q.xs) : KL w ao n cap ps := ⟨by rw [← e]; exact h, hs⟩
theorem KL.front {w : World} {ao : Option Addr} {n cap : Nat} {ps : List Part} (h : KL w ao n cap ps) (i c : Nat) (hi : i ≤ n) (hc : i ≤ c) (hcc : c ≤ cap) : KL w ao i c (ps.take i) :=
  ⟨by rw [List.map_take]; exact h.vl.front i c hi hc hcc, fun q hq => h.sl q (List.mem_of_mem_take hq)⟩
theorem KL.from {w : World} {ao : Option Addr} {n cap : Nat} {ps : List Part} (h : KL w ao n cap ps) (j : Nat) (hj : j ≤ n) : KL w (bk ao cap j) (n - j) (cap - j) (ps.drop j) :=
  ⟨by rw [List.map_drop]; exact h.vl.from j hj, fun q hq => h.sl q (List.mem_of_mem_drop hq)⟩

theorem T.ptr {w : World} {v : Value} {l : List It} (h : T w v l) : ∃ po, v = .pointer po := by
  rcases h.is with ⟨_, rfl⟩ | ⟨d, segs, xs, rfl, _⟩
  · exact ⟨_, rfl⟩
  · exact ⟨_, rfl⟩
theorem wrap_nat {k : Nat} (h : k ≤ 1000000000) : IntKind.i64.wrap (k : Int) = k := by
  simp [IntKind.wrap, IntKind.bits, IntKind.signed]
  omega

/-- A tree of the items l is answered, in new memory. -/
def RetT (w : World) (l : List It) (e : Ending) (w' : World) : Prop := ∃ v, e = .returned v ∧ T w' v l ∧ Below w.heap.size w w'

/-- A new node, its lists told by what they hold. -/
theorem T.make {w : World} {g : Nat} {l : List It} {L : Nat} {ko vo co : Option Addr} {kn kc vn vc cn cc : Nat} {t : TypeId} {ks vs : List Part} {cs : List Value} {segs : List (List It)} {xs : List It}
    (hg : w.heap[g]? = some (.cells #[.int .i64 L, .slice ko kn kc, .slice vo vn vc, .slice co cn cc] t))
    (hk : KL w ko kn kc ks) (hv : KL w vo vn vc vs) (hc : VL w co cn cc cs) (hs : Shp lev l L segs xs) (ek : ks.map Part.xs = xs.map It.k) (ev : vs.map Part.xs = xs.map It.v) (kid : Kids w cs segs) : T w (.pointer (some ⟨g, 0, Option.none⟩)) l :=
  Nod.make hg hk hv hc hs ek ev kid.len kid.kid
section
variable {w : World} {l : List It} {d : Nd} {segs : List (List It)} {xs : List It}
/-- The keys of a node rise. -/
theorem Nod.rise (h : Nod w l d segs xs) (hs : Srt l) : d.ks.Pairwise fun a b => cmpL a.xs b.xs < 0 := by
  have h1 : (xs.map It.k).Pairwise fun a b => cmpL a b < 0 := List.pairwise_map.2 (h.shp.rise hs)
  rw [← h.ek] at h1
  exact List.pairwise_map.1 h1
theorem Nod.keyAt (h : Nod w l d segs xs) (i : Nat) (hk : i < d.ks.length) (hx : i < xs.length) : d.ks[i].xs = xs[i].k := by
  have := congrArg (·[i]?) h.ek
  simpa [hk, hx] using this
theorem Nod.valAt (h : Nod w l d segs xs) (i : Nat) (hk : i < d.vs.length) (hx : i < xs.length) : d.vs[i].xs = xs[i].v := by
  have := congrArg (·[i]?) h.ev
  simpa [hk, hx] using this
/-- What a search in a node's keys tells of its items. -/
theorem Nod.found (h : Nod w l d segs xs) (hs : Srt l) {key : List Int} {i : Nat} {b : Bool} (ha : At d.ks key i b) : ∃ s A B, Cut lev l d.L segs xs i s A B ∧ (∀ x ∈ A, cmpL x.k key < 0) ∧ (∀ x ∈ B, ¬ cmpL x.k key < 0) ∧
    (b = false → ∀ x ∈ B, cmpL key x.k < 0) ∧ (b = true → ∃ hi : i < xs.length, xs[i].k = key) := by
  have hn := h.nk
  obtain ⟨s, A, B, c⟩ := h.shp.cut i (by have := ha.le; omega)
  obtain ⟨h1, h2, h3⟩ := c.key hs (key := key) (fun j hj hji => by rw [← h.keyAt j (by omega) hj]; exact ha.lo j (by omega) hji) (fun j hj hij => by rw [← h.keyAt j (by omega) hj]; exact ha.hi j (by omega) hij)
  refine ⟨s, A, B, c, h1, h2, fun hb => h3 fun hi he => ?_, fun hb => ?_⟩
  · have : b = true := ha.eq.2 ⟨by omega, by rw [h.keyAt i (by omega) hi]; exact he⟩
    rw [hb] at this
    simp at this
  · obtain ⟨hi, he⟩ := ha.eq.1 hb
    exact ⟨by omega, by rw [← h.keyAt i hi (by omega)]; exact he⟩
end
end Go.Proofs.YtnicnfjickknjaaDoor

namespace Go.Proofs.YtnicnfjickknjaaDoor
open Go.RowKit

/-- An item in memory. -/
structure IP where
  k : Part
  v : Part
def IP.it (q : IP) : It := ⟨q.k.xs, q.v.xs⟩
def IP.ok (w : World) (q : IP) : Prop := Sl w q.k.ao q.k.n q.k.cap q.k.xs ∧ Sl w q.v.ao q.v.n q.v.cap q.v.xs
theorem IP.ok.below {w w' : World} {q : IP} (h : q.ok w) (hb : Below w.heap.size w w') : q.ok w' := ⟨h.1.below hb, h.2.below hb⟩
/-- The slice at ao, of n items, up to cap, holds its. -/
structure IL (w : World) (ao : Option Addr) (n cap : Nat) (its : List IP) : Prop where
  len : its.length = n
  le : n ≤ cap
  mx : cap ≤ maxLen
  nil : ao = none → n = 0 ∧ cap = 0
  cell : ∀ a, ao = some a → ∀ i (h : i < its.length), w.cell? (a.add (i * 2)) = some its[i].k.val ∧ w.cell? (a.add (i * 2 + 1)) = some its[i].v.val
  sl : ∀ q ∈ its, q.ok w
theorem IL.below {w w' : World} {ao : Option Addr} {n cap : Nat} {its : List IP} (h : IL w ao n cap its) (hb : Below w.heap.size w w') : IL w' ao n cap its :=
  ⟨h.len, h.le, h.mx, h.nil, fun a ha i hi => by
    obtain ⟨h1, h2⟩ := h.cell a ha i hi
    exact ⟨(hb.cell (World.block_lt_of_cell? w _ h1)).trans h1, (hb.cell (World.block_lt_of_cell? w _ h2)).trans h2⟩, fun q hq => (h.sl q hq).below hb⟩
theorem IL.at {w : World} {ao : Option Addr} {n cap : Nat} {its : List IP} (h : IL w ao n cap its) (hn : 0 < n) :
    ∃ b off, ao = some ⟨b, off, none⟩ ∧ ∀ i (hi : i < its.length), w.cell? ⟨b, off + i * 2, none⟩ = some its[i].k.val ∧ w.cell? ⟨b, off + i * 2 + 1, none⟩ = some its[i].v.val := by
  have hl := h.len
  cases ao with
  | none => have := (h.nil rfl).1; omega
  | some a =>
    obtain ⟨b, off, spot⟩ := a
    have hc := (h.cell _ rfl 0 (by omega)).1
    have hs : spot = none := by simpa [Addr.add] using World.cell?_spot hc
    subst hs
    exact ⟨b, off, rfl, fun i hi => by have := h.cell _ rfl i hi; rw [Addr.add_lit, Addr.add_lit, ← Nat.add_assoc] at this; exact this⟩
theorem IL.nothing (w : World) : IL w none 0 0 [] := ⟨rfl, Nat.le_refl _, Nat.zero_le _, fun _ => ⟨rfl, rfl⟩, fun _ h => by simp at h, fun _ h => by simp at h⟩
theorem IL.one (w : World) (q : IP) (h : q.ok w) (t : TypeId) : IL (w.alloc (.cells #[q.k.val, q.v.val] t)) (some ⟨w.heap.size, 0, none⟩) 1 1 [q] := by
  refine ⟨rfl, Nat.le_refl _, by simp [maxLen], fun h => by simp at h, fun a ha i hi => ?_, fun r hr => ?_⟩
  · obtain rfl := Option.some.inj ha
    obtain rfl : i = 0 := by simpa using hi
    rw [Addr.add_lit, Addr.add_lit]
    exact ⟨cell_of_row _ _ 0 _ _ _ (heap_alloc_new w _), cell_of_row _ _ 1 _ _ _ (heap_alloc_new w _)⟩
  · rw [List.mem_singleton.1 hr]
    exact h.below ((Below.refl _ w).alloc (Nat.le_refl _) _)

/-- What stands against some items. -/
def badK (n : Nat) : Bool := decide (n < 1 ∨ 256 < n)
def jL : List IP → Int → Int
  | [], acc => acc
  | q :: qs, acc => if badK q.k.n then 5 else jL qs (if 1024 < q.v.n then 4 else acc)

set_option maxHeartbeats 4000000 in
set_option maxRecDepth 100000 in
theorem judge_any (w : World) (ao : Option Addr) (n cap : Nat) (its : List IP) (h : IL w ao n cap its) (hn : n ≤ 1000000) (hb : ∀ q ∈ its, q.k.n ≤ 1000000 ∧ q.v.n ≤ 1000000) :
    Calls Tryd.prog 24 #[.slice ao n cap] w fun e w' => e = .returned (.int .i64 (jL its 0)) ∧ Below w.heap.size w w' := by
  have hl := h.len
  have hni : (n : Int) ≤ 1000000 := by omega
  go_enter Tryd.func24, Tryd.ntmps24
  go_wp2
  go_loopw [3, 8] (fun a i wr => ∃ (k : Nat) (acc : Int), k ≤ n ∧ i = .int .i64 k ∧ a = .int .i64 acc ∧ jL (its.drop k) acc = jL its 0 ∧ Below w.heap.size w wr) (fun _ i _ => n - (intOf i).toNat)
  case atStart => exact ⟨0, 0, Nat.zero_le _, rfl, rfl, rfl, Below.refl _ _⟩
  case round =>
    obtain ⟨k, acc, hk, rfl, rfl, hj, hB⟩ := hrel
    have HJ : Hid (jL (its.drop k) acc = jL its 0) := hj
    clear hj
    by_cases hlt : k < n
    · have hki : (k : Int) < (n : Int) := by omega
      have hkl : k < its.length := by omega
      obtain ⟨b, off, rfl, hc⟩ := (h.below hB).at (by omega)
      obtain ⟨c1, c2⟩ := hc k hkl
      have hq := hb its[k] (List.getElem_mem hkl)
      have HD : Hid (its.drop k = its[k] :: its.drop (k + 1)) := List.drop_eq_getElem_cons hkl
      obtain ⟨q, hqe⟩ : ∃ q, q = its[k] := ⟨_, rfl⟩
      rw [← hqe] at c1 c2 hq HD
      obtain ⟨q1, q2⟩ := hq
      unfold Part.val at c1 c2
      clear hc hqe
      by_cases h1 : q.k.n < 1
      · have h1' : (q.k.n : Int) < 1 := by omega
        have HR : Hid (jL its 0 = 5) := by
          show _ = _
          rw [← HJ.out, HD.out, jL, if_pos (by simp [badK]; omega)]
        go_wp2
        go_ret
        refine ⟨?_, hB.alloc hB.size _⟩
        rw [HR.out]
        rfl
      have h1' : ¬ (q.k.n : Int) < 1 := by omega
      by_cases h2 : 256 < q.k.n
      · have h2' : (256 : Int) < (q.k.n : Int) := by omega
        have HR : Hid (jL its 0 = 5) := by
          show _ = _
          rw [← HJ.out, HD.out, jL, if_pos (by simp [badK]; omega)]
        go_wp2
        go_ret
        refine ⟨?_, hB.alloc hB.size _⟩
        rw [HR.out]
        rfl
      have h2' : ¬ (256 : Int) < (q.k.n : Int) := by omega
      have HB : Hid (badK q.k.n = false) := by show _ = _; simp [badK]; omega
      by_cases h3 : 1024 < q.v.n
      · have h3' : (1024 : Int) < (q.v.n : Int) := by omega
        go_wp2
        go_roundw
        case rel =>
          refine ⟨k + 1, 4, by omega, by go_num, rfl, ?_, hB.alloc hB.size _⟩
          rw [← HJ.out, HD.out, jL, HB.out, if_pos h3]
          rfl
        case measure => simp [intOf]; omega
      · have h3' : ¬ (1024 : Int) < (q.v.n : Int) := by omega
        go_wp2
        go_roundw
        case rel =>
          refine ⟨k + 1, acc, by omega, by go_num, rfl, ?_, hB.alloc hB.size _⟩
          rw [← HJ.out, HD.out, jL, HB.out, if_neg h3]
          rfl
        case measure => simp [intOf]; omega
    · have hge : ¬ (k : Int) < (n : Int) := by omega
      have HR : Hid (jL its 0 = acc) := by
        show _ = _
        rw [← HJ.out, List.drop_eq_nil_of_le (by omega)]
        rfl
      go_wp2
      go_ret
      refine ⟨?_, hB⟩
      rw [HR.out]
      rfl
end Go.Proofs.YtnicnfjickknjaaDoor

namespace Go.Deep
open Go.ChangeShapes Go.WideShapes
variable {H : Type} {enc : TypeId × Value → H} {P : Program} {w : World} {base : Nat} {spare : Nat → Bool} {held : Bool}

/-- A slice of structs, each field one cell, opened at every index. -/
theorem open_slice_struct {t e : TypeId} {fs : Array Field} {fuel : Nat} {cs : List Value} {x : DataW H × List MemPlace} (ht : P.underlying t = some (.slice e)) (he : P.underlying e = some (.struct fs))
    (ce : P.cellsOf e = fs.size) (off : ∀ (j : Nat) (f : Field), fs[j]? = some f → f.offset = j ∧ P.cellsOf f.type = 1)
    (h : DataW.trod enc P w base spare held fuel t cs = some x) :
    cs = [.slice none 0 0] ∨
    ∃ (a : Addr) (len cap m n : Nat), cs = [.slice (some a) len cap] ∧ len ≤ cap ∧ cap ≤ maxLen ∧ len ≤ m ∧
      ∀ i, i < m → ∀ (j : Nat) (f : Field), fs[j]? = some f → ∃ v y, w.cell? (a.add (i * fs.size + j)) = some v ∧ DataW.trod enc P w base spare held n f.type [v] = some y := by
  rcases open_slice ht h with h0 | ⟨a, len, cap, m, n, D, Pl, rfl, hb, hl, hm, hmm, rfl, hx⟩
  · exact Or.inl h0.1
  right
  have hlm : len ≤ m := by rw [hmm]; split <;> omega
  refine ⟨a, len, cap, m, n - 1, rfl, hl, hm, hlm, fun i hi j f hf => ?_⟩
  obtain ⟨cs', h1, h2⟩ := hx i hi
  rw [ce] at h1
  obtain ⟨_, hlen, hcell⟩ := World.cells?_some h1
  obtain ⟨xs, k, hk, hxy, _, hxl, hfs⟩ := DataW.trod_struct he h2
  have hk' : k = n - 1 := by omega
  subst hk'
  have hj : j < fs.size := (Array.getElem?_eq_some_iff.1 hf).1
  obtain ⟨o, c⟩ := off j f hf
  have g := hfs j f hf
  have e0 := hcell j (by omega)
  rw [add_add] at e0
  have hjc : j < cs'.length := by omega
  have hjx : j < xs.length := by omega
  rw [o, c, List.take_one, List.head?_drop, List.getElem?_eq_getElem hjc, List.getElem?_eq_getElem hjx] at g
  rw [List.getElem?_eq_getElem hjc] at e0
  exact ⟨cs'[j], xs[j], e0, g⟩

end Go.Deep

namespace Go.Proofs.YtnicnfjickknjaaDoor
open Go.RowKit
theorem IL.make {w : World} {a : Addr} {n cap : Nat} (hl : n ≤ cap) (hm : cap ≤ maxLen) (h : ∀ i, i < n → ∃ q : IP, (w.cell? (a.add (i * 2)) = some q.k.val ∧ w.cell? (a.add (i * 2 + 1)) = some q.v.val) ∧ q.ok w) : ∃ its, IL w (some a) n cap its := by
  have : Inhabited IP := ⟨⟨⟨none, 0, 0, []⟩, ⟨none, 0, 0, []⟩⟩⟩
  obtain ⟨z, hz⟩ := Deep.choose_lt h
  refine ⟨(List.range n).map z, by simp, hl, hm, fun h => by simp at h, fun b hb i hi => ?_, fun q hq => ?_⟩
  · obtain rfl := Option.some.inj hb
    have hi' : i < n := by simpa using hi
    simpa using (hz i hi').1
  · obtain ⟨i, hi, rfl⟩ := List.mem_map.1 hq
    exact (hz i (List.mem_range.1 hi)).2
end Go.Proofs.YtnicnfjickknjaaDoor

namespace Go.Proofs.YtnicnfjickknjaaDoor
open Go.RowKit

/-- A put or a delete. -/
structure KP where
  kd : Int
  k : Part
  v : Part
def KP.ok (w : World) (q : KP) : Prop := Sl w q.k.ao q.k.n q.k.cap q.k.xs ∧ Sl w q.v.ao q.v.n q.v.cap q.v.xs
theorem KP.ok.below {w w' : World} {q : KP} (h : q.ok w) (hb : Below w.heap.size w w') : q.ok w' := ⟨h.1.below hb, h.2.below hb⟩
structure KPL (w : World) (ao : Option Addr) (n cap : Nat) (l : List KP) : Prop where
  len : l.length = n
  le : n ≤ cap
  mx : cap ≤ maxLen
  nil : ao = none → n = 0 ∧ cap = 0
  cell : ∀ a, ao = some a → ∀ i (h : i < l.length), w.cell? (a.add (i * 3)) = some (.int .i64 l[i].kd) ∧ w.cell? (a.add (i * 3 + 1)) = some l[i].k.val ∧ w.cell? (a.add (i * 3 + 2)) = some l[i].v.val
  sl : ∀ q ∈ l, q.ok w
theorem KPL.nothing (w : World) : KPL w none 0 0 [] := ⟨rfl, Nat.le_refl _, Nat.zero_le _, fun _ => ⟨rfl, rfl⟩, fun _ h => by simp at h, fun _ h => by simp at h⟩
theorem KPL.at {w : World} {ao : Option Addr} {n cap : Nat} {l : List KP} (h : KPL w ao n cap l) (hn : 0 < n) :
    ∃ b off, ao = some ⟨b, off, none⟩ ∧ ∀ i (hi : i < l.length), w.cell? ⟨b, off + i * 3, none⟩ = some (.int .i64 l[i].kd) ∧ w.cell? ⟨b, off + i * 3 + 1, none⟩ = some l[i].k.val ∧ w.cell? ⟨b, off + i * 3 + 2, none⟩ = some l[i].v.val := by
  have hl := h.len
  cases ao with
  | none => have := (h.nil rfl).1; omega
  | some a =>
    obtain ⟨b, off, spot⟩ := a
    have hc := (h.cell _ rfl 0 (by omega)).1
    have hs : spot = none := by simpa [Addr.add] using World.cell?_spot hc
    subst hs
    exact ⟨b, off, rfl, fun i hi => by have := h.cell _ rfl i hi; rw [Addr.add_lit, Addr.add_lit, Addr.add_lit, ← Nat.add_assoc, ← Nat.add_assoc] at this; exact this⟩
theorem KPL.make {w : World} {a : Addr} {n cap : Nat} (hl : n ≤ cap) (hm : cap ≤ maxLen) (h : ∀ i, i < n → ∃ q : KP, (w.cell? (a.add (i * 3)) = some (.int .i64 q.kd) ∧ w.cell? (a.add (i * 3 + 1)) = some q.k.val ∧ w.cell? (a.add (i * 3 + 2)) = some q.v.val) ∧ q.ok w) : ∃ l, KPL w (some a) n cap l := by
  have : Inhabited KP := ⟨⟨0, ⟨none, 0, 0, []⟩, ⟨none, 0, 0, []⟩⟩⟩
  obtain ⟨z, hz⟩ := Deep.choose_lt h
  refine ⟨(List.range n).map z, by simp, hl, hm, fun h => by simp at h, fun b hb i hi => ?_, fun q hq => ?_⟩
  · obtain rfl := Option.some.inj hb
    have hi' : i < n := by simpa using hi
    simpa using (hz i hi').1
  · obtain ⟨i, hi, rfl⟩ := List.mem_map.1 hq
    exact (hz i (List.mem_range.1 hi)).2
theorem del_len (l : List It) (k : List Int) : (del l k).length ≤ l.length := by
  unfold del lo hi
  rw [List.length_append]
  induction l with
  | nil => simp
  | cons x l ih =>
    simp only [List.filter_cons, List.length_cons]
    rcases cmpL_total x.k k with h | h | h
    · rw [decide_eq_true h, decide_eq_false (cmpL_asym h)]
      simp only [if_true, List.length_cons, Bool.false_eq_true, if_false]
      omega
    · rw [h, decide_eq_false (cmpL_irr _)]
      simp only [Bool.false_eq_true, if_false]
      omega
    · rw [decide_eq_true h, decide_eq_false (cmpL_asym h)]
      simp only [if_true, List.length_cons, Bool.false_eq_true, if_false]
      omega
theorem ins_len (l : List It) (x : It) : (ins l x).length ≤ l.length + 1 := by
  have := del_len l x.k
  unfold del at this
  unfold ins
  rw [List.length_append] at this
  rw [List.length_append, List.length_cons]
  omega
/-- Items behind k steps. -/
structure PlL (l : List It) (k : Nat) : Prop where
  srt : Srt l
  len : l.length ≤ k
  key : ∀ x ∈ l, x.k.length ≤ 256
  val : ∀ x ∈ l, x.v.length ≤ 1024
theorem PlL.nil : PlL [] 0 := ⟨List.Pairwise.nil, Nat.le_refl _, fun _ h => by simp at h, fun _ h => by simp at h⟩
theorem PlL.mono {l : List It} {k j : Nat} (h : PlL l k) (hj : k ≤ j) : PlL l j := ⟨h.srt, Nat.le_trans h.len hj, h.key, h.val⟩
theorem PlL.ins {l : List It} {k : Nat} (h : PlL l k) {x : It} (hk : x.k.length ≤ 256) (hv : x.v.length ≤ 1024) : PlL (ins l x) (k + 1) := by
  have hm : ∀ y ∈ Proofs.YtnicnfjickknjaaDoor.ins l x, y = x ∨ y ∈ l := fun y hy => by
    unfold Proofs.YtnicnfjickknjaaDoor.ins at hy
    rcases List.mem_append.1 hy with hy | hy
    · exact .inr (mem_lo.1 hy).1
    · rcases List.mem_cons.1 hy with hy | hy
      · exact .inl hy
      · exact .inr (mem_hi.1 hy).1
  refine ⟨h.srt.ofIns x, Nat.le_trans (ins_len l x) (by have := h.len; omega), fun y hy => ?_, fun y hy => ?_⟩
  · rcases hm y hy with rfl | hy
    · exact hk
    · exact h.key y hy
  · rcases hm y hy with rfl | hy
    · exact hv
    · exact h.val y hy
theorem PlL.del {l : List It} {k : Nat} (h : PlL l k) (key : List Int) : PlL (del l key) k := by
  have hm : ∀ y ∈ Proofs.YtnicnfjickknjaaDoor.del l key, y ∈ l := fun y hy => by
    unfold Proofs.YtnicnfjickknjaaDoor.del at hy
    rcases List.mem_append.1 hy with hy | hy
    · exact (mem_lo.1 hy).1
    · exact (mem_hi.1 hy).1
  exact ⟨h.srt.ofDel key, Nat.le_trans (del_len l key) h.len, fun y hy => h.key y (hm y hy), fun y hy => h.val y (hm y hy)⟩
end Go.Proofs.YtnicnfjickknjaaDoor

namespace Go.Proofs.YtnicnfjickknjaaDoor
open Go.RowKit

theorem own_nothing (w : World) : (w.alloc (.cells #[] 5)).ownsRow w.heap.size 5 1 (.slice (some ⟨w.heap.size, 0, none⟩) 0 0) 0 (bv []) :=
  World.ownsRow_made w #[] 0 (Nat.le_refl _) (Nat.zero_le _) rfl
/-- Bytes in new memory are answered. -/
def RetB (w : World) (n : Nat) (xs : List Int) (e : Ending) (w' : World) : Prop := ∃ ro rc, e = .returned (.slice ro n rc) ∧ Sl w' ro n rc xs ∧ Below w.heap.size w w'

set_option maxHeartbeats 400000 in
set_option maxRecDepth 100000 in
theorem own_any (w : World) (ao : Option Addr) (n cap : Nat) (xs : List Int) (h : Sl w ao n cap xs) (hn : n ≤ 1000000) :
    Calls Tryd.prog 29 #[.slice ao n cap] w (RetB w n xs) := by
  have B0 : Below w.heap.size w (w.alloc (.cells #[] 5)) := (Below.refl _ w).alloc (Nat.le_refl _) _
  have h0 := h.below B0
  have o0 := own_nothing w
  have hb := h.byte
  go_enter Tryd.func29, Tryd.ntmps29
  go_wp2_with (at_builtin; refine wpList_app rfl _ _ rfl w.heap.size _ _ _ rfl o0 _ _ _ _ rfl h0 (by omega) (by simp) ?_; intro v1 w1 own1 B1)
  simp only [Nat.zero_add, List.nil_append] at own1
  obtain ⟨ro, rc, rfl, S, -⟩ := Sl.own own1 hb
  go_wp2
  go_ret
  exact ⟨ro, rc, rfl, S, B0.trans B1⟩

/-- The value v is a tree (a handle) of the items l. -/
def TT (w : World) (v : Value) (l : List It) : Prop := (v = .pointer none ∧ l = []) ∨ ∃ b u, v = .pointer (some ⟨b, 0, none⟩) ∧ w.cell? ⟨b, 0, none⟩ = some u ∧ T w u l ∧ l ≠ []
theorem TT.nil (w : World) : TT w (.pointer none) [] := .inl ⟨rfl, rfl⟩
theorem TT.below {w w' : World} {v : Value} {l : List It} (h : TT w v l) (hb : Below w.heap.size w w') : TT w' v l := by
  rcases h with h | ⟨b, u, rfl, hc, ht, hl⟩
  · exact .inl h
  · exact .inr ⟨b, u, rfl, (hb.cell (World.block_lt_of_cell? _ _ hc)).trans hc, ht.below hb, hl⟩
theorem TT.ptr {w : World} {v : Value} {l : List It} (h : TT w v l) : ∃ po, v = .pointer po := by
  rcases h with ⟨rfl, _⟩ | ⟨b, u, rfl, _⟩
  · exact ⟨_, rfl⟩
  · exact ⟨_, rfl⟩
/-- A tree is answered, in new memory. -/
def RetTT (w : World) (l : List It) (e : Ending) (w' : World) : Prop := ∃ v, e = .returned v ∧ TT w' v l ∧ Below w.heap.size w w'

set_option maxHeartbeats 400000 in
set_option maxRecDepth 100000 in
theorem treeOf_any (w : World) (v : Value) (l : List It) (h : T w v l) : Calls Tryd.prog 25 #[v] w (RetTT w l) := by
  rcases h.is with ⟨rfl, rfl⟩ | ⟨d, segs, xs, rfl, hN⟩
  · go_enter Tryd.func25, Tryd.ntmps25
    go_wp2
    go_ret
    exact ⟨_, rfl, TT.nil _, Below.refl _ _⟩
  · have hne : l ≠ [] := by
      intro e
      subst e
      have h0 := hN.shp.pos
      have := hN.shp.key xs[0] (List.getElem_mem h0)
      simp at this
    unfold Nd.ptr at h ⊢
    go_enter Tryd.func25, Tryd.ntmps25
    go_wp2
    go_ret
    have B : Below w.heap.size w (w.alloc (.cells #[.pointer (some ⟨d.b, 0, none⟩)] 85)) := (Below.refl _ w).alloc (Nat.le_refl _) _
    exact ⟨_, rfl, .inr ⟨_, _, rfl, cell_one_new _ _ _ 0 _ (by simp), h.below B, hne⟩, B⟩

set_option maxHeartbeats 400000 in
set_option maxRecDepth 100000 in
theorem shared_any (w : World) (v : Value) (l : List It) (h : TT w v l) : Calls Tryd.prog 27 #[v] w fun e w' => ∃ po, e = .returned (.pointer po) ∧ T w (.pointer po) l ∧ w' = w := by
  rcases h with ⟨rfl, rfl⟩ | ⟨b, u, rfl, hc, ht, hl⟩
  · go_enter Tryd.func27, Tryd.ntmps27
    go_wp2
    go_ret
    exact ⟨_, rfl, T.nil _, rfl⟩
  · obtain ⟨po, rfl⟩ := ht.ptr
    go_enter Tryd.func27, Tryd.ntmps27
    go_wp2
    go_ret
    exact ⟨_, rfl, ht, rfl⟩
end Go.Proofs.YtnicnfjickknjaaDoor

namespace Go.Proofs.YtnicnfjickknjaaDoor
open Go.RowKit

set_option maxHeartbeats 400000 in
set_option maxRecDepth 100000 in
theorem bclone_any (w : World) (ao : Option Addr) (n cap : Nat) (xs : List Int) (h : Sl w ao n cap xs) (hn : n ≤ 1000000) :
    Calls Tryd.prog 33 #[.slice ao n cap] w (RetB w n xs) := by
  cases ao with
  | none =>
    obtain ⟨rfl, rfl⟩ := h.nil rfl
    obtain rfl : xs = [] := List.eq_nil_of_length_eq_zero h.len
    have hq : ∀ W, _ := fun W => Lib.run_eql_slice_nil (P := Tryd.prog) W 23 5 none 0 0 0 0 Tryd.underlying23
    go_enter Tryd.func33, Tryd.ntmps33
    go_wp2
    go_ret
    exact ⟨none, 0, rfl, Sl.nothing w, Below.refl _ _⟩
  | some a =>
    have B0 : Below w.heap.size w (w.alloc (.cells #[] 5)) := (Below.refl _ w).alloc (Nat.le_refl _) _
    have h0 := h.below B0
    have o0 := own_nothing w
    have hb := h.byte
    have hq : ∀ W, _ := fun W => Lib.run_eql_slice_nil (P := Tryd.prog) W 23 5 (some a) n cap 0 0 Tryd.underlying23
    go_enter Tryd.func33, Tryd.ntmps33
    go_wp2_with (at_builtin; refine wpList_app rfl _ _ rfl w.heap.size _ _ _ rfl o0 _ _ _ _ rfl h0 (by omega) (by simp) ?_; intro v1 w1 own1 B1)
    simp only [Nat.zero_add, List.nil_append] at own1
    obtain ⟨ro, rc, rfl, S, -⟩ := Sl.own own1 hb
    go_wp2
    go_ret
    exact ⟨ro, rc, rfl, S, B0.trans B1⟩
end Go.Proofs.YtnicnfjickknjaaDoor

namespace Go.Proofs.YtnicnfjickknjaaDoor
open Go.RowKit

theorem kinfo : (Tryd.prog.info? 23).map (fun i => (i.zero, i.size, i.bytes)) = some (some (.slice none 0 0), 1, 24) := by kernel_rfl
theorem ninfo : (Tryd.prog.info? 52).map (fun i => (i.zero, i.size, i.bytes)) = some (some (.pointer none), 1, 8) := by kernel_rfl
theorem Apd.base {w : World} {b b' : Nat} {e : TypeId} {v : Value} {n : Nat} {vs : List Value} (h : Apd w b e v n vs) (hb : b' ≤ b) : Apd w b' e v n vs := by
  rcases h with h | h
  · exact .inl h
  · exact .inr (own_base h hb)
theorem ksize (w : World) : (sizeOf 23).run Tryd.prog w = .ok 1 w := size1 _ (by kernel_rfl) w
theorem nsize (w : World) : (sizeOf 52).run Tryd.prog w = .ok 1 w := size1 _ (by kernel_rfl) w

end Go.Proofs.YtnicnfjickknjaaDoor

namespace Go.Proofs.YtnicnfjickknjaaDoor
open Go.RowKit

set_option maxHeartbeats 1000000 in
set_option maxRecDepth 100000 in
theorem chgK_any (w : World) (ao bo : Option Addr) (n cap m c i j : Nat) (vs ys : List Value) (h : VL w ao n cap vs) (hx : VL w bo m c ys) (h1 : ∀ u ∈ vs, u.oneCell' = true) (h2 : ∀ u ∈ ys, u.oneCell' = true) (hij : i ≤ j) (hj : j ≤ n) (hn : n + m ≤ 1000000) :
    Calls Tryd.prog 48 #[.slice ao n cap, .int .i64 i, .int .i64 j, .slice bo m c] w fun e w' =>
      ∃ ro rc, e = .returned (.slice ro (i + m + (n - j)) rc) ∧ VL w' ro (i + m + (n - j)) rc (vs.take i ++ ys ++ vs.drop j) ∧ Below w.heap.size w w' := by
  obtain ⟨i0, hi, hz0, hz1, hz2⟩ := info_parts kinfo
  have hle := h.le
  have F1 : ∀ W, _ := fun W => run_front (P := Tryd.prog) (W := W) (t := 68) (ao := ao) (n := n) (cap := cap) (i := i) (c := i) Tryd.underlying68 (Nat.le_refl _) (by omega) ksize
  have F2 : ∀ W, _ := fun W => run_back (P := Tryd.prog) (W := W) (t := 68) (ao := ao) (n := n) (cap := cap) (j := j) Tryd.underlying68 (by omega) ksize
  go_enter Tryd.func48, Tryd.ntmps48
  go_wp2
  have HS : Hid (∀ V, Below w.heap.size w V → True) := fun _ _ => trivial
  have E0 : Below w.heap.size w w.drew := (Below.refl _ _).drew
  refine wp_region_noPanic ?_
  refine wp_region_held_drew (S := fun V => True) (by kernel_rfl) (HS.out _ E0) (fun H0 => ?_)
  obtain ⟨v0, hv0⟩ : ∃ v, v = w.drew := ⟨_, rfl⟩
  rw [← hv0] at E0 ⊢
  clear hv0
  refine hr_take_w 0 (some 9) (.slice ao n cap) rfl rfl (by kernel_rfl) (by kernel_rfl) (by kernel_rfl) rfl (fun W hW => by go_simp) H0 ?_
  simp only [Act.put, List.setIfInBounds_toArray, List.set_cons_zero, List.set_cons_succ]
  refine hr_take_w 1 (some 10) (.int .i64 i) rfl rfl (by kernel_rfl) (by kernel_rfl) (by kernel_rfl) rfl (fun W hW => by go_simp) H0 ?_
  simp only [Act.put, List.setIfInBounds_toArray, List.set_cons_zero, List.set_cons_succ]
  refine hr_take_w 2 (some 11) (.int .i64 i) rfl rfl (by kernel_rfl) (by kernel_rfl) (by kernel_rfl) rfl (fun W hW => by go_simp) H0 ?_
  simp only [Act.put, List.setIfInBounds_toArray, List.set_cons_zero, List.set_cons_succ]
  refine hr_take_w 3 (some 12) (.slice ao i i) rfl rfl (by kernel_rfl) (by kernel_rfl) (by kernel_rfl) rfl (fun W hW => by simp [execOp, Act.eval, F1]) H0 ?_
  simp only [Act.put, List.setIfInBounds_toArray, List.set_cons_zero, List.set_cons_succ]
  refine hr_take_w 4 (some 13) (.slice bo m c) rfl rfl (by kernel_rfl) (by kernel_rfl) (by kernel_rfl) rfl (fun W hW => by go_simp) H0 ?_
  simp only [Act.put, List.setIfInBounds_toArray, List.set_cons_zero, List.set_cons_succ]
  refine hr_take_w 6 (some 15) (.slice ao n cap) rfl rfl (by kernel_rfl) (by kernel_rfl) (by kernel_rfl) rfl (fun W hW => by go_simp) H0 ?_
  simp only [Act.put, List.setIfInBounds_toArray, List.set_cons_zero, List.set_cons_succ]
  refine hr_take_w 7 (some 16) (.int .i64 j) rfl rfl (by kernel_rfl) (by kernel_rfl) (by kernel_rfl) rfl (fun W hW => by go_simp) H0 ?_
  simp only [Act.put, List.setIfInBounds_toArray, List.set_cons_zero, List.set_cons_succ]
  refine hr_take_w 8 (some 17) (.slice (bk ao cap j) (n - j) (cap - j)) rfl rfl (by kernel_rfl) (by kernel_rfl) (by kernel_rfl) rfl (fun W hW => by simp [execOp, Act.eval, F2]) H0 ?_
  simp only [Act.put, List.setIfInBounds_toArray, List.set_cons_zero, List.set_cons_succ]
  refine hr_ex 5 (some 14) rfl rfl (by kernel_rfl) rfl (R := fun v w' => Apd w' w.heap.size 23 v (i + m) (vs.take i ++ ys) ∧ Below v0.heap.size v0 w') (by obtain ⟨v', w', hr, h3, h4⟩ := run_apd (P := Tryd.prog) (w := v0) (base := v0.heap.size) (t := 68) (ty := 68) Tryd.underlying68 hi hz0 hz1 hz2 rfl (.inl ⟨ao, rfl, (h.below E0).front i i (by omega) (Nat.le_refl _) (by omega)⟩) (Nat.le_refl _) (hx.below E0) h2 (by omega) (by decide); exact ⟨v', w', by simp [execOp, Act.eval, resolve, invoke, builtin, hr], h3.base E0.size, h4⟩) ?_
  rintro v v1 ⟨A1, C0⟩
  have E1 := E0.trans (C0.mono E0.size)
  have H1 := HS.out v1 E1
  refine ⟨H1, ?_⟩
  simp only [Act.put, List.setIfInBounds_toArray, List.set_cons_zero, List.set_cons_succ]
  refine hr_ex 9 (some 18) rfl rfl (by kernel_rfl) rfl (R := fun u w' => Apd w' w.heap.size 23 u (i + m + (n - j)) (vs.take i ++ ys ++ vs.drop j) ∧ Below w.heap.size v1 w') (by obtain ⟨v', w', hr, h3, h4⟩ := run_apd (P := Tryd.prog) (w := v1) (base := w.heap.size) (t := 68) (ty := 68) Tryd.underlying68 hi hz0 hz1 hz2 rfl A1 E1.size ((h.below E1).from j hj) (fun u hu => h1 u (List.mem_of_mem_drop hu)) (by omega) (by decide); exact ⟨v', w', by simp [execOp, Act.eval, resolve, invoke, builtin, hr], h3, h4⟩) ?_
  rintro v v2 ⟨A2, C1⟩
  have E2 := E1.trans C1
  have H2 := HS.out v2 E2
  refine ⟨H2, ?_⟩
  simp only [Act.put, List.setIfInBounds_toArray, List.set_cons_zero, List.set_cons_succ]
  refine hr_take_w 10 (some 8) (v) rfl rfl (by kernel_rfl) (by kernel_rfl) (by kernel_rfl) rfl (fun W hW => by go_simp) H2 ?_
  simp only [Act.put, List.setIfInBounds_toArray, List.set_cons_zero, List.set_cons_succ]
  refine wpAnyH_done (by kernel_rfl) ?_ _
  refine NoPanic.normal ?_
  obtain ⟨ro, rc, rfl, hv⟩ := A2.vl
  go_wp2
  go_ret
  exact ⟨ro, rc, rfl, hv, E2⟩

set_option maxHeartbeats 1000000 in
set_option maxRecDepth 100000 in
theorem chgN_any (w : World) (ao bo : Option Addr) (n cap m c i j : Nat) (vs ys : List Value) (h : VL w ao n cap vs) (hx : VL w bo m c ys) (h1 : ∀ u ∈ vs, u.oneCell' = true) (h2 : ∀ u ∈ ys, u.oneCell' = true) (hij : i ≤ j) (hj : j ≤ n) (hn : n + m ≤ 1000000) :
    Calls Tryd.prog 49 #[.slice ao n cap, .int .i64 i, .int .i64 j, .slice bo m c] w fun e w' =>
      ∃ ro rc, e = .returned (.slice ro (i + m + (n - j)) rc) ∧ VL w' ro (i + m + (n - j)) rc (vs.take i ++ ys ++ vs.drop j) ∧ Below w.heap.size w w' := by
  obtain ⟨i0, hi, hz0, hz1, hz2⟩ := info_parts ninfo
  have hle := h.le
  have F1 : ∀ W, _ := fun W => run_front (P := Tryd.prog) (W := W) (t := 72) (ao := ao) (n := n) (cap := cap) (i := i) (c := i) Tryd.underlying72 (Nat.le_refl _) (by omega) nsize
  have F2 : ∀ W, _ := fun W => run_back (P := Tryd.prog) (W := W) (t := 72) (ao := ao) (n := n) (cap := cap) (j := j) Tryd.underlying72 (by omega) nsize
  go_enter Tryd.func49, Tryd.ntmps49
  go_wp2
  have HS : Hid (∀ V, Below w.heap.size w V → True) := fun _ _ => trivial
  have E0 : Below w.heap.size w w.drew := (Below.refl _ _).drew
  refine wp_region_noPanic ?_
  refine wp_region_held_drew (S := fun V => True) (by kernel_rfl) (HS.out _ E0) (fun H0 => ?_)
  obtain ⟨v0, hv0⟩ : ∃ v, v = w.drew := ⟨_, rfl⟩
  rw [← hv0] at E0 ⊢
  clear hv0
  refine hr_take_w 0 (some 9) (.slice ao n cap) rfl rfl (by kernel_rfl) (by kernel_rfl) (by kernel_rfl) rfl (fun W hW => by go_simp) H0 ?_
  simp only [Act.put, List.setIfInBounds_toArray, List.set_cons_zero, List.set_cons_succ]
  refine hr_take_w 1 (some 10) (.int .i64 i) rfl rfl (by kernel_rfl) (by kernel_rfl) (by kernel_rfl) rfl (fun W hW => by go_simp) H0 ?_
  simp only [Act.put, List.setIfInBounds_toArray, List.set_cons_zero, List.set_cons_succ]
  refine hr_take_w 2 (some 11) (.int .i64 i) rfl rfl (by kernel_rfl) (by kernel_rfl) (by kernel_rfl) rfl (fun W hW => by go_simp) H0 ?_
  simp only [Act.put, List.setIfInBounds_toArray, List.set_cons_zero, List.set_cons_succ]
  refine hr_take_w 3 (some 12) (.slice ao i i) rfl rfl (by kernel_rfl) (by kernel_rfl) (by kernel_rfl) rfl (fun W hW => by simp [execOp, Act.eval, F1]) H0 ?_
  simp only [Act.put, List.setIfInBounds_toArray, List.set_cons_zero, List.set_cons_succ]
  refine hr_take_w 4 (some 13) (.slice bo m c) rfl rfl (by kernel_rfl) (by kernel_rfl) (by kernel_rfl) rfl (fun W hW => by go_simp) H0 ?_
  simp only [Act.put, List.setIfInBounds_toArray, List.set_cons_zero, List.set_cons_succ]
  refine hr_take_w 6 (some 15) (.slice ao n cap) rfl rfl (by kernel_rfl) (by kernel_rfl) (by kernel_rfl) rfl (fun W hW => by go_simp) H0 ?_
  simp only [Act.put, List.setIfInBounds_toArray, List.set_cons_zero, List.set_cons_succ]
  refine hr_take_w 7 (some 16) (.int .i64 j) rfl rfl (by kernel_rfl) (by kernel_rfl) (by kernel_rfl) rfl (fun W hW => by go_simp) H0 ?_
  simp only [Act.put, List.setIfInBounds_toArray, List.set_cons_zero, List.set_cons_succ]
  refine hr_take_w 8 (some 17) (.slice (bk ao cap j) (n - j) (cap - j)) rfl rfl (by kernel_rfl) (by kernel_rfl) (by kernel_rfl) rfl (fun W hW => by simp [execOp, Act.eval, F2]) H0 ?_
  simp only [Act.put, List.setIfInBounds_toArray, List.set_cons_zero, List.set_cons_succ]
  refine hr_ex 5 (some 14) rfl rfl (by kernel_rfl) rfl (R := fun v w' => Apd w' w.heap.size 52 v (i + m) (vs.take i ++ ys) ∧ Below v0.heap.size v0 w') (by obtain ⟨v', w', hr, h3, h4⟩ := run_apd (P := Tryd.prog) (w := v0) (base := v0.heap.size) (t := 72) (ty := 72) Tryd.underlying72 hi hz0 hz1 hz2 rfl (.inl ⟨ao, rfl, (h.below E0).front i i (by omega) (Nat.le_refl _) (by omega)⟩) (Nat.le_refl _) (hx.below E0) h2 (by omega) (by decide); exact ⟨v', w', by simp [execOp, Act.eval, resolve, invoke, builtin, hr], h3.base E0.size, h4⟩) ?_
  rintro v v1 ⟨A1, C0⟩
  have E1 := E0.trans (C0.mono E0.size)
  have H1 := HS.out v1 E1
  refine ⟨H1, ?_⟩
  simp only [Act.put, List.setIfInBounds_toArray, List.set_cons_zero, List.set_cons_succ]
  refine hr_ex 9 (some 18) rfl rfl (by kernel_rfl) rfl (R := fun u w' => Apd w' w.heap.size 52 u (i + m + (n - j)) (vs.take i ++ ys ++ vs.drop j) ∧ Below w.heap.size v1 w') (by obtain ⟨v', w', hr, h3, h4⟩ := run_apd (P := Tryd.prog) (w := v1) (base := w.heap.size) (t := 72) (ty := 72) Tryd.underlying72 hi hz0 hz1 hz2 rfl A1 E1.size ((h.below E1).from j hj) (fun u hu => h1 u (List.mem_of_mem_drop hu)) (by omega) (by decide); exact ⟨v', w', by simp [execOp, Act.eval, resolve, invoke, builtin, hr], h3, h4⟩) ?_
  rintro v v2 ⟨A2, C1⟩
  have E2 := E1.trans C1
  have H2 := HS.out v2 E2
  refine ⟨H2, ?_⟩
  simp only [Act.put, List.setIfInBounds_toArray, List.set_cons_zero, List.set_cons_succ]
  refine hr_take_w 10 (some 8) (v) rfl rfl (by kernel_rfl) (by kernel_rfl) (by kernel_rfl) rfl (fun W hW => by go_simp) H2 ?_
  simp only [Act.put, List.setIfInBounds_toArray, List.set_cons_zero, List.set_cons_succ]
  refine wpAnyH_done (by kernel_rfl) ?_ _
  refine NoPanic.normal ?_
  obtain ⟨ro, rc, rfl, hv⟩ := A2.vl
  go_wp2
  go_ret
  exact ⟨ro, rc, rfl, hv, E2⟩
end Go.Proofs.YtnicnfjickknjaaDoor

namespace Go.Proofs.YtnicnfjickknjaaDoor
open Go.RowKit

/-- Two trees are answered, in new memory. -/
def RetT2 (w : World) (l1 l2 : List It) (e : Ending) (w' : World) : Prop := ∃ u v, e = .returned (.tuple #[u, v]) ∧ T w' u l1 ∧ T w' v l2 ∧ Below w.heap.size w w'

set_option maxHeartbeats 4000000 in
set_option maxRecDepth 100000 in
theorem cut_fuel : ∀ (N : Nat) (w : World) (v : Value) (l : List It) (xo : Option Addr) (m xc : Nat) (key : List Int), l.length ≤ N → T w v l → Srt l → ¬ has key l → Sl w xo m xc key → l.length ≤ 100000 →
    Calls Tryd.prog 45 #[v, .slice xo m xc] w (RetT2 w (lo key l) (hi key l)) := by
  intro N
  induction N with
  | zero =>
    intro w v l xo m xc key hN hT hs hk hx hn
    obtain rfl : l = [] := List.eq_nil_of_length_eq_zero (by omega)
    rcases hT.is with ⟨-, rfl⟩ | ⟨d, segs, xs, rfl, hNd⟩
    · go_enter Tryd.func45, Tryd.ntmps45
      go_wp2
      go_ret2
      exact ⟨_, _, rfl, T.nil _, T.nil _, Below.refl _ _⟩
    · have h0 := hNd.shp.pos
      have := hNd.shp.key xs[0] (List.getElem_mem h0)
      simp at this
  | succ N ih =>
    intro w v l xo m xc key hN hT hs hk hx hn
    rcases hT.is with ⟨rfl, rfl⟩ | ⟨d, segs, xs, rfl, h⟩
    · go_enter Tryd.func45, Tryd.ntmps45
      go_wp2
      go_ret2
      exact ⟨_, _, rfl, T.nil _, T.nil _, Below.refl _ _⟩
    · have hm := h.many
      have hnk1 := Nat.le_of_eq h.nk
      have hnk2 := Nat.le_of_eq h.nk.symm
      have hnv1 := Nat.le_of_eq h.nv
      have hnv2 := Nat.le_of_eq h.nv.symm
      have hnc1 := Nat.le_of_eq h.nc
      have hnc2 := Nat.le_of_eq h.nc.symm
      have hpos := h.shp.pos
      have CP := place_any w d h.ok xo m xc key hx (h.rise hs) (by omega)
      unfold Nd.ptr at CP ⊢
      go_enter Tryd.func45, Tryd.ntmps45
      go_wp2_with fail
      refine CP.mono ?_
      rintro e w1 ⟨i, b, rfl, hat, B1⟩
      clear CP
      obtain ⟨s, A, B, c, hA, hB, hB2, hf⟩ := h.found hs hat
      cases b with
      | true =>
        obtain ⟨hi, he⟩ := hf rfl
        exact absurd ⟨xs[i], h.shp.key _ (List.getElem_mem hi), he⟩ hk
      | false =>
      have hB3 := hB2 rfl
      have hlo : Hid (lo key l = A ++ lo key s) := by show _ = _; rw [c.el]; exact lo_mid hA hB
      have hhi : Hid (hi key l = hi key s ++ B) := by show _ = _; rw [c.el]; exact hi_mid hA hB3
      have hle := c.le
      have N1 := h.below B1
      have x1 := hx.below B1
      obtain ⟨kb, ko, s', u, eco, hs1, hs2, hcell, hTk, hlen⟩ := N1.kidAt i hle
      obtain rfl : s = s' := Option.some.inj (c.seg.symm.trans hs1)
      have CI := ih w1 u s xo m xc key (by omega) hTk (by rw [c.el] at hs; exact hs.app.2.1.app.1) (fun ⟨y, hy, he⟩ => hk ⟨y, h.shp.seg _ (List.mem_of_getElem? c.seg) y hy, he⟩) x1 (by omega)
      have c3 := N1.ok.c3
      rw [eco] at c3
      have hii : (i : Int) < (d.cs.length : Int) := by omega
      go_wp2_with fail
      refine CI.mono ?_
      rintro e w2 ⟨u1, u2, rfl, T1, T2, B2'⟩
      have B2 : Below w.heap.size w w2 := B1.trans (B2'.mono B1.size)
      have N2 := h.below B2
      obtain ⟨p1, rfl⟩ := T1.ptr
      obtain ⟨p2, rfl⟩ := T2.ptr
      clear CI c3 hcell x1 N1 B2' hs1 hs2 hTk eco
      have kle := h.ok.kl.vl.le
      have vle := h.ok.vl.vl.le
      have cle := h.ok.cl.le
      have FK : ∀ W, _ := fun W => run_front (P := Tryd.prog) (W := W) (t := 68) (ao := d.ko) (n := d.ks.length) (cap := d.kc) (i := i) (c := i) Tryd.underlying68 (Nat.le_refl _) (by omega) ksize
      have FV : ∀ W, _ := fun W => run_front (P := Tryd.prog) (W := W) (t := 68) (ao := d.vo) (n := d.vs.length) (cap := d.vc) (i := i) (c := i) Tryd.underlying68 (Nat.le_refl _) (by omega) ksize
      have FC : ∀ W, _ := fun W => run_upto (P := Tryd.prog) (W := W) (t := 72) (ao := d.co) (n := d.cs.length) (cap := d.cc) (i := i) Tryd.underlying72 (by omega) nsize
      have GK : ∀ W, _ := fun W => run_back (P := Tryd.prog) (W := W) (t := 68) (ao := d.ko) (n := d.ks.length) (cap := d.kc) (j := i) Tryd.underlying68 (by omega) ksize
      have GV : ∀ W, _ := fun W => run_back (P := Tryd.prog) (W := W) (t := 68) (ao := d.vo) (n := d.vs.length) (cap := d.vc) (j := i) Tryd.underlying68 (by omega) ksize
      have GC : ∀ W, _ := fun W => run_back (P := Tryd.prog) (W := W) (t := 72) (ao := d.co) (n := d.cs.length) (cap := d.cc) (j := i) Tryd.underlying72 (by omega) nsize
      have c1 := N2.ok.c1
      by_cases hi0 : 0 < i
      · have hi0' : (0 : Int) < (i : Int) := by omega
        go_wp2_with fail
        have aHS : Hid (∀ V, Below w2.heap.size w2 V → V.cell? ⟨d.b, 0, none⟩ = some (.int .i64 d.L) ∧ V.cell? ⟨d.b, 1, none⟩ = some (.slice d.ko d.ks.length d.kc) ∧ V.cell? ⟨d.b, 2, none⟩ = some (.slice d.vo d.vs.length d.vc) ∧ V.cell? ⟨d.b, 3, none⟩ = some (.slice d.co d.cs.length d.cc)) := fun V hV => ⟨(N2.ok.below hV).c0, (N2.ok.below hV).c1, (N2.ok.below hV).c2, (N2.ok.below hV).c3⟩
        have aE0 : Below w2.heap.size w2 w2.drew := (Below.refl _ _).drew
        refine wp_region_noPanic ?_
        refine wp_region_held_drew (S := fun V => V.cell? ⟨d.b, 0, none⟩ = some (.int .i64 d.L) ∧ V.cell? ⟨d.b, 1, none⟩ = some (.slice d.ko d.ks.length d.kc) ∧ V.cell? ⟨d.b, 2, none⟩ = some (.slice d.vo d.vs.length d.vc) ∧ V.cell? ⟨d.b, 3, none⟩ = some (.slice d.co d.cs.length d.cc)) (by kernel_rfl) (aHS.out _ aE0) (fun aH0 => ?_)
        obtain ⟨av0, hv0⟩ : ∃ v, v = w2.drew := ⟨_, rfl⟩
        rw [← hv0] at aH0 aE0 ⊢
        clear hv0
        refine hr_take_w 0 (some 30) (.pointer (some ⟨d.b, 0, none⟩)) rfl rfl (by kernel_rfl) (by kernel_rfl) (by kernel_rfl) rfl (fun W hW => by obtain ⟨h0, h1, h2, h3⟩ := hW; go_simp) aH0 ?_
        simp only [Act.put, List.setIfInBounds_toArray, List.set_cons_zero, List.set_cons_succ]
        refine hr_take_w 1 (some 31) (.pointer (some ⟨d.b, 0, none⟩)) rfl rfl (by kernel_rfl) (by kernel_rfl) (by kernel_rfl) rfl (fun W hW => by obtain ⟨h0, h1, h2, h3⟩ := hW; go_simp) aH0 ?_
        simp only [Act.put, List.setIfInBounds_toArray, List.set_cons_zero, List.set_cons_succ]
        refine hr_take_w 2 (some 32) (.pointer (some ⟨d.b, 0, none⟩)) rfl rfl (by kernel_rfl) (by kernel_rfl) (by kernel_rfl) rfl (fun W hW => by obtain ⟨h0, h1, h2, h3⟩ := hW; go_simp) aH0 ?_
        simp only [Act.put, List.setIfInBounds_toArray, List.set_cons_zero, List.set_cons_succ]
        refine hr_take_w 3 (some 33) (.int .i64 d.L) rfl rfl (by kernel_rfl) (by kernel_rfl) (by kernel_rfl) rfl (fun W hW => by obtain ⟨h0, h1, h2, h3⟩ := hW; go_simp) aH0 ?_
        simp only [Act.put, List.setIfInBounds_toArray, List.set_cons_zero, List.set_cons_succ]
        refine hr_take_w 4 (some 34) (.pointer (some ⟨d.b, 0, none⟩)) rfl rfl (by kernel_rfl) (by kernel_rfl) (by kernel_rfl) rfl (fun W hW => by obtain ⟨h0, h1, h2, h3⟩ := hW; go_simp) aH0 ?_
        simp only [Act.put, List.setIfInBounds_toArray, List.set_cons_zero, List.set_cons_succ]
        refine hr_take_w 5 (some 35) (.pointer (some ⟨d.b, 0, none⟩)) rfl rfl (by kernel_rfl) (by kernel_rfl) (by kernel_rfl) rfl (fun W hW => by obtain ⟨h0, h1, h2, h3⟩ := hW; go_simp) aH0 ?_
        simp only [Act.put, List.setIfInBounds_toArray, List.set_cons_zero, List.set_cons_succ]
        refine hr_take_w 6 (some 36) (.pointer (some ⟨d.b, 1, none⟩)) rfl rfl (by kernel_rfl) (by kernel_rfl) (by kernel_rfl) rfl (fun W hW => by obtain ⟨h0, h1, h2, h3⟩ := hW; go_simp) aH0 ?_
        simp only [Act.put, List.setIfInBounds_toArray, List.set_cons_zero, List.set_cons_succ]
        refine hr_take_w 7 (some 37) (.slice d.ko d.ks.length d.kc) rfl rfl (by kernel_rfl) (by kernel_rfl) (by kernel_rfl) rfl (fun W hW => by obtain ⟨h0, h1, h2, h3⟩ := hW; go_simp) aH0 ?_
        simp only [Act.put, List.setIfInBounds_toArray, List.set_cons_zero, List.set_cons_succ]
        refine hr_take_w 8 (some 38) (.int .i64 i) rfl rfl (by kernel_rfl) (by kernel_rfl) (by kernel_rfl) rfl (fun W hW => by obtain ⟨h0, h1, h2, h3⟩ := hW; go_simp) aH0 ?_
        simp only [Act.put, List.setIfInBounds_toArray, List.set_cons_zero, List.set_cons_succ]
        refine hr_take_w 9 (some 39) (.int .i64 i) rfl rfl (by kernel_rfl) (by kernel_rfl) (by kernel_rfl) rfl (fun W hW => by obtain ⟨h0, h1, h2, h3⟩ := hW; go_simp) aH0 ?_
        simp only [Act.put, List.setIfInBounds_toArray, List.set_cons_zero, List.set_cons_succ]
        refine hr_take_w 10 (some 40) (.slice d.ko i i) rfl rfl (by kernel_rfl) (by kernel_rfl) (by kernel_rfl) rfl (fun W hW => by obtain ⟨h0, h1, h2, h3⟩ := hW; simp [execOp, Act.eval, FK]) aH0 ?_
        simp only [Act.put, List.setIfInBounds_toArray, List.set_cons_zero, List.set_cons_succ]
        refine hr_take_w 11 (some 41) (.pointer (some ⟨d.b, 0, none⟩)) rfl rfl (by kernel_rfl) (by kernel_rfl) (by kernel_rfl) rfl (fun W hW => by obtain ⟨h0, h1, h2, h3⟩ := hW; go_simp) aH0 ?_
        simp only [Act.put, List.setIfInBounds_toArray, List.set_cons_zero, List.set_cons_succ]
        refine hr_take_w 12 (some 42) (.pointer (some ⟨d.b, 0, none⟩)) rfl rfl (by kernel_rfl) (by kernel_rfl) (by kernel_rfl) rfl (fun W hW => by obtain ⟨h0, h1, h2, h3⟩ := hW; go_simp) aH0 ?_
        simp only [Act.put, List.setIfInBounds_toArray, List.set_cons_zero, List.set_cons_succ]
        refine hr_take_w 13 (some 43) (.pointer (some ⟨d.b, 2, none⟩)) rfl rfl (by kernel_rfl) (by kernel_rfl) (by kernel_rfl) rfl (fun W hW => by obtain ⟨h0, h1, h2, h3⟩ := hW; go_simp) aH0 ?_
        simp only [Act.put, List.setIfInBounds_toArray, List.set_cons_zero, List.set_cons_succ]
        refine hr_take_w 14 (some 44) (.slice d.vo d.vs.length d.vc) rfl rfl (by kernel_rfl) (by kernel_rfl) (by kernel_rfl) rfl (fun W hW => by obtain ⟨h0, h1, h2, h3⟩ := hW; go_simp) aH0 ?_
        simp only [Act.put, List.setIfInBounds_toArray, List.set_cons_zero, List.set_cons_succ]
        refine hr_take_w 15 (some 45) (.int .i64 i) rfl rfl (by kernel_rfl) (by kernel_rfl) (by kernel_rfl) rfl (fun W hW => by obtain ⟨h0, h1, h2, h3⟩ := hW; go_simp) aH0 ?_
        simp only [Act.put, List.setIfInBounds_toArray, List.set_cons_zero, List.set_cons_succ]
        refine hr_take_w 16 (some 46) (.int .i64 i) rfl rfl (by kernel_rfl) (by kernel_rfl) (by kernel_rfl) rfl (fun W hW => by obtain ⟨h0, h1, h2, h3⟩ := hW; go_simp) aH0 ?_
        simp only [Act.put, List.setIfInBounds_toArray, List.set_cons_zero, List.set_cons_succ]
        refine hr_take_w 17 (some 47) (.slice d.vo i i) rfl rfl (by kernel_rfl) (by kernel_rfl) (by kernel_rfl) rfl (fun W hW => by obtain ⟨h0, h1, h2, h3⟩ := hW; simp [execOp, Act.eval, FV]) aH0 ?_
        simp only [Act.put, List.setIfInBounds_toArray, List.set_cons_zero, List.set_cons_succ]
        refine hr_take_w 18 (some 48) (.pointer (some ⟨d.b, 0, none⟩)) rfl rfl (by kernel_rfl) (by kernel_rfl) (by kernel_rfl) rfl (fun W hW => by obtain ⟨h0, h1, h2, h3⟩ := hW; go_simp) aH0 ?_
        simp only [Act.put, List.setIfInBounds_toArray, List.set_cons_zero, List.set_cons_succ]
        refine hr_take_w 19 (some 49) (.pointer (some ⟨d.b, 0, none⟩)) rfl rfl (by kernel_rfl) (by kernel_rfl) (by kernel_rfl) rfl (fun W hW => by obtain ⟨h0, h1, h2, h3⟩ := hW; go_simp) aH0 ?_
        simp only [Act.put, List.setIfInBounds_toArray, List.set_cons_zero, List.set_cons_succ]
        refine hr_take_w 20 (some 50) (.pointer (some ⟨d.b, 3, none⟩)) rfl rfl (by kernel_rfl) (by kernel_rfl) (by kernel_rfl) rfl (fun W hW => by obtain ⟨h0, h1, h2, h3⟩ := hW; go_simp) aH0 ?_
        simp only [Act.put, List.setIfInBounds_toArray, List.set_cons_zero, List.set_cons_succ]
        refine hr_take_w 21 (some 51) (.slice d.co d.cs.length d.cc) rfl rfl (by kernel_rfl) (by kernel_rfl) (by kernel_rfl) rfl (fun W hW => by obtain ⟨h0, h1, h2, h3⟩ := hW; go_simp) aH0 ?_
        simp only [Act.put, List.setIfInBounds_toArray, List.set_cons_zero, List.set_cons_succ]
        refine hr_take_w 22 (some 52) (.int .i64 i) rfl rfl (by kernel_rfl) (by kernel_rfl) (by kernel_rfl) rfl (fun W hW => by obtain ⟨h0, h1, h2, h3⟩ := hW; go_simp) aH0 ?_
        simp only [Act.put, List.setIfInBounds_toArray, List.set_cons_zero, List.set_cons_succ]
        refine hr_take_w 23 (some 53) (.slice d.co i d.cc) rfl rfl (by kernel_rfl) (by kernel_rfl) (by kernel_rfl) rfl (fun W hW => by obtain ⟨h0, h1, h2, h3⟩ := hW; simp [execOp, Act.eval, FC]) aH0 ?_
        simp only [Act.put, List.setIfInBounds_toArray, List.set_cons_zero, List.set_cons_succ]
        refine hr_take_w 24 (some 54) (.int .i64 i) rfl rfl (by kernel_rfl) (by kernel_rfl) (by kernel_rfl) rfl (fun W hW => by obtain ⟨h0, h1, h2, h3⟩ := hW; go_simp) aH0 ?_
        simp only [Act.put, List.setIfInBounds_toArray, List.set_cons_zero, List.set_cons_succ]
        refine hr_take_w 25 (some 55) (.int .i64 i) rfl rfl (by kernel_rfl) (by kernel_rfl) (by kernel_rfl) rfl (fun W hW => by obtain ⟨h0, h1, h2, h3⟩ := hW; go_simp) aH0 ?_
        simp only [Act.put, List.setIfInBounds_toArray, List.set_cons_zero, List.set_cons_succ]
        refine hr_take_w 26 (some 56) (.pointer p1) rfl rfl (by kernel_rfl) (by kernel_rfl) (by kernel_rfl) rfl (fun W hW => by obtain ⟨h0, h1, h2, h3⟩ := hW; go_simp) aH0 ?_
        simp only [Act.put, List.setIfInBounds_toArray, List.set_cons_zero, List.set_cons_succ]
        refine hr_ex 27 (some 57) rfl rfl (by kernel_rfl) rfl (R := fun v w' => ∃ g, v = .slice (some ⟨g, 0, none⟩) 1 1 ∧ VL w' (some ⟨g, 0, none⟩) 1 1 [.pointer p1] ∧ Below av0.heap.size av0 w') (⟨_, _, by go_simp, _, rfl, VL.new av0 [.pointer p1] 52 (by simp [maxLen]), (Below.refl _ _).alloc (Nat.le_refl _) _⟩) ?_
        rintro v av1 ⟨ag0, rfl, aG0, aC0⟩
        have aE1 := aE0.trans (aC0.mono aE0.size)
        have aH1 := aHS.out av1 aE1
        refine ⟨aH1, ?_⟩
        simp only [Act.put, List.setIfInBounds_toArray, List.set_cons_zero, List.set_cons_succ]
        refine hr_call_w 28 (some 58) 49 #[.slice d.co i d.cc, .int .i64 i, .int .i64 i, .slice (some ⟨ag0, 0, none⟩) 1 1] rfl rfl (by kernel_rfl) rfl (by go_simp) (fun v w' => ∃ ro rc, v = .slice ro (i + 1 + (i - i)) rc ∧ VL w' ro (i + 1 + (i - i)) rc ((d.cs.take i).take i ++ [.pointer p1] ++ (d.cs.take i).drop i) ∧ Below av1.heap.size av1 w') ((chgN_any av1 d.co (some ⟨ag0, 0, none⟩) i d.cc 1 1 i i (d.cs.take i) [.pointer p1] ((N2.ok.cl.below aE1).front i d.cc (by omega) (by omega) (Nat.le_refl _)) aG0 (fun y hy => N2.one y (List.mem_of_mem_take hy)) (by intro y hy; rw [List.mem_singleton.1 hy]; rfl) (by omega) (by omega) (by omega)).mono (by
          rintro e w' ⟨ro, rc, rfl, F, C⟩
          exact ⟨_, rfl, ro, rc, rfl, F, C⟩)) ?_
        rintro v av2 ⟨ro, rc, rfl, aF1, aC1⟩
        have aE2 := aE1.trans (aC1.mono aE1.size)
        have aH2 := aHS.out av2 aE2
        clear aG0
        refine ⟨aH2, ?_⟩
        simp only [Act.put, List.setIfInBounds_toArray, List.set_cons_zero, List.set_cons_succ]
        refine hr_take_w 29 (some 59) (.agg #[.int .i64 d.L, .slice d.ko i i, .slice d.vo i i, .slice ro (i + 1 + (i - i)) rc]) rfl rfl (by kernel_rfl) (by kernel_rfl) (by kernel_rfl) rfl (fun W hW => by obtain ⟨h0, h1, h2, h3⟩ := hW; go_simp) aH2 ?_
        simp only [Act.put, List.setIfInBounds_toArray, List.set_cons_zero, List.set_cons_succ]
        refine hr_ex 30 (some 60) rfl rfl (by kernel_rfl) rfl (R := fun v w' => ∃ g, v = .pointer (some ⟨g, 0, none⟩) ∧ w'.heap[g]? = some (.cells #[.int .i64 d.L, .slice d.ko i i, .slice d.vo i i, .slice ro (i + 1 + (i - i)) rc] 74) ∧ Below av2.heap.size av2 w') (⟨_, _, by go_simp, _, rfl, heap_alloc_new av2 _, (Below.refl _ _).alloc (Nat.le_refl _) _⟩) ?_
        rintro v av3 ⟨ag2, rfl, aG2, aC2⟩
        have aE3 := aE2.trans (aC2.mono aE2.size)
        have aH3 := aHS.out av3 aE3
        refine ⟨aH3, ?_⟩
        simp only [Act.put, List.setIfInBounds_toArray, List.set_cons_zero, List.set_cons_succ]
        refine hr_take_w 31 (some 4) (.pointer (some ⟨ag2, 0, none⟩)) rfl rfl (by kernel_rfl) (by kernel_rfl) (by kernel_rfl) rfl (fun W hW => by obtain ⟨h0, h1, h2, h3⟩ := hW; go_simp) aH3 ?_
        simp only [Act.put, List.setIfInBounds_toArray, List.set_cons_zero, List.set_cons_succ]
        refine wpAnyH_done (by kernel_rfl) ?_ _
        refine NoPanic.normal ?_
        have tl : T av3 (.pointer (some ⟨ag2, 0, none⟩)) (A ++ lo key s) := by
          have k3 := aF1.below aC2
          rw [show i + 1 + (i - i) = i + 1 from by omega, show (d.cs.take i).take i ++ [.pointer p1] ++ (d.cs.take i).drop i = d.cs.take i ++ [.pointer p1] from by simp [List.take_take]] at k3
          rw [show i + 1 + (i - i) = i + 1 from by omega] at aG2
          have N3 := N2.below aE3
          exact T.make aG2 (N3.ok.kl.front i i (by omega) (Nat.le_refl _) (by have := N3.ok.kl.vl.le; omega)) (N3.ok.vl.front i i (by omega) (Nat.le_refl _) (by have := N3.ok.vl.vl.le; omega)) k3 (c.front (by omega) (fun x hx => c.ls x (mem_lo.1 hx).1)) (by rw [List.map_take, List.map_take, N3.ek]) (by rw [List.map_take, List.map_take, N3.ev]) ((N3.kids.take i).app (Kids.one (T1.below aE3)))
        have B3 : Below w.heap.size w av3 := B2.trans (aE3.mono B2.size)
        clear aF1 aG2
        have N4 := h.below B3
        have T4 := T2.below aE3
        have c1 := N4.ok.c1
        by_cases hil : i < d.ks.length
        · have hil' : (i : Int) < (d.ks.length : Int) := by omega
          go_wp2_with fail
          have bHS : Hid (∀ V, Below av3.heap.size av3 V → V.cell? ⟨d.b, 0, none⟩ = some (.int .i64 d.L) ∧ V.cell? ⟨d.b, 1, none⟩ = some (.slice d.ko d.ks.length d.kc) ∧ V.cell? ⟨d.b, 2, none⟩ = some (.slice d.vo d.vs.length d.vc) ∧ V.cell? ⟨d.b, 3, none⟩ = some (.slice d.co d.cs.length d.cc)) := fun V hV => ⟨(N4.ok.below hV).c0, (N4.ok.below hV).c1, (N4.ok.below hV).c2, (N4.ok.below hV).c3⟩
          have bE0 : Below av3.heap.size av3 av3.drew := (Below.refl _ _).drew
          refine wp_region_noPanic ?_
          refine wp_region_held_drew (S := fun V => V.cell? ⟨d.b, 0, none⟩ = some (.int .i64 d.L) ∧ V.cell? ⟨d.b, 1, none⟩ = some (.slice d.ko d.ks.length d.kc) ∧ V.cell? ⟨d.b, 2, none⟩ = some (.slice d.vo d.vs.length d.vc) ∧ V.cell? ⟨d.b, 3, none⟩ = some (.slice d.co d.cs.length d.cc)) (by kernel_rfl) (bHS.out _ bE0) (fun bH0 => ?_)
          obtain ⟨bv0, hv0⟩ : ∃ v, v = av3.drew := ⟨_, rfl⟩
          rw [← hv0] at bH0 bE0 ⊢
          clear hv0
          refine hr_take_w 0 (some 68) (.pointer (some ⟨d.b, 0, none⟩)) rfl rfl (by kernel_rfl) (by kernel_rfl) (by kernel_rfl) rfl (fun W hW => by obtain ⟨h0, h1, h2, h3⟩ := hW; go_simp) bH0 ?_
          simp only [Act.put, List.setIfInBounds_toArray, List.set_cons_zero, List.set_cons_succ]
          refine hr_take_w 1 (some 69) (.pointer (some ⟨d.b, 0, none⟩)) rfl rfl (by kernel_rfl) (by kernel_rfl) (by kernel_rfl) rfl (fun W hW => by obtain ⟨h0, h1, h2, h3⟩ := hW; go_simp) bH0 ?_
          simp only [Act.put, List.setIfInBounds_toArray, List.set_cons_zero, List.set_cons_succ]
          refine hr_take_w 2 (some 70) (.pointer (some ⟨d.b, 0, none⟩)) rfl rfl (by kernel_rfl) (by kernel_rfl) (by kernel_rfl) rfl (fun W hW => by obtain ⟨h0, h1, h2, h3⟩ := hW; go_simp) bH0 ?_
          simp only [Act.put, List.setIfInBounds_toArray, List.set_cons_zero, List.set_cons_succ]
          refine hr_take_w 3 (some 71) (.int .i64 d.L) rfl rfl (by kernel_rfl) (by kernel_rfl) (by kernel_rfl) rfl (fun W hW => by obtain ⟨h0, h1, h2, h3⟩ := hW; go_simp) bH0 ?_
          simp only [Act.put, List.setIfInBounds_toArray, List.set_cons_zero, List.set_cons_succ]
          refine hr_take_w 4 (some 72) (.pointer (some ⟨d.b, 0, none⟩)) rfl rfl (by kernel_rfl) (by kernel_rfl) (by kernel_rfl) rfl (fun W hW => by obtain ⟨h0, h1, h2, h3⟩ := hW; go_simp) bH0 ?_
          simp only [Act.put, List.setIfInBounds_toArray, List.set_cons_zero, List.set_cons_succ]
          refine hr_take_w 5 (some 73) (.pointer (some ⟨d.b, 0, none⟩)) rfl rfl (by kernel_rfl) (by kernel_rfl) (by kernel_rfl) rfl (fun W hW => by obtain ⟨h0, h1, h2, h3⟩ := hW; go_simp) bH0 ?_
          simp only [Act.put, List.setIfInBounds_toArray, List.set_cons_zero, List.set_cons_succ]
          refine hr_take_w 6 (some 74) (.pointer (some ⟨d.b, 1, none⟩)) rfl rfl (by kernel_rfl) (by kernel_rfl) (by kernel_rfl) rfl (fun W hW => by obtain ⟨h0, h1, h2, h3⟩ := hW; go_simp) bH0 ?_
          simp only [Act.put, List.setIfInBounds_toArray, List.set_cons_zero, List.set_cons_succ]
          refine hr_take_w 7 (some 75) (.slice d.ko d.ks.length d.kc) rfl rfl (by kernel_rfl) (by kernel_rfl) (by kernel_rfl) rfl (fun W hW => by obtain ⟨h0, h1, h2, h3⟩ := hW; go_simp) bH0 ?_
          simp only [Act.put, List.setIfInBounds_toArray, List.set_cons_zero, List.set_cons_succ]
          refine hr_take_w 8 (some 76) (.int .i64 i) rfl rfl (by kernel_rfl) (by kernel_rfl) (by kernel_rfl) rfl (fun W hW => by obtain ⟨h0, h1, h2, h3⟩ := hW; go_simp) bH0 ?_
          simp only [Act.put, List.setIfInBounds_toArray, List.set_cons_zero, List.set_cons_succ]
          refine hr_take_w 9 (some 77) (.slice (bk d.ko d.kc i) (d.ks.length - i) (d.kc - i)) rfl rfl (by kernel_rfl) (by kernel_rfl) (by kernel_rfl) rfl (fun W hW => by obtain ⟨h0, h1, h2, h3⟩ := hW; simp [execOp, Act.eval, GK]) bH0 ?_
          simp only [Act.put, List.setIfInBounds_toArray, List.set_cons_zero, List.set_cons_succ]
          refine hr_take_w 10 (some 78) (.pointer (some ⟨d.b, 0, none⟩)) rfl rfl (by kernel_rfl) (by kernel_rfl) (by kernel_rfl) rfl (fun W hW => by obtain ⟨h0, h1, h2, h3⟩ := hW; go_simp) bH0 ?_
          simp only [Act.put, List.setIfInBounds_toArray, List.set_cons_zero, List.set_cons_succ]
          refine hr_take_w 11 (some 79) (.pointer (some ⟨d.b, 0, none⟩)) rfl rfl (by kernel_rfl) (by kernel_rfl) (by kernel_rfl) rfl (fun W hW => by obtain ⟨h0, h1, h2, h3⟩ := hW; go_simp) bH0 ?_
          simp only [Act.put, List.setIfInBounds_toArray, List.set_cons_zero, List.set_cons_succ]
          refine hr_take_w 12 (some 80) (.pointer (some ⟨d.b, 2, none⟩)) rfl rfl (by kernel_rfl) (by kernel_rfl) (by kernel_rfl) rfl (fun W hW => by obtain ⟨h0, h1, h2, h3⟩ := hW; go_simp) bH0 ?_
          simp only [Act.put, List.setIfInBounds_toArray, List.set_cons_zero, List.set_cons_succ]
          refine hr_take_w 13 (some 81) (.slice d.vo d.vs.length d.vc) rfl rfl (by kernel_rfl) (by kernel_rfl) (by kernel_rfl) rfl (fun W hW => by obtain ⟨h0, h1, h2, h3⟩ := hW; go_simp) bH0 ?_
          simp only [Act.put, List.setIfInBounds_toArray, List.set_cons_zero, List.set_cons_succ]
          refine hr_take_w 14 (some 82) (.int .i64 i) rfl rfl (by kernel_rfl) (by kernel_rfl) (by kernel_rfl) rfl (fun W hW => by obtain ⟨h0, h1, h2, h3⟩ := hW; go_simp) bH0 ?_
          simp only [Act.put, List.setIfInBounds_toArray, List.set_cons_zero, List.set_cons_succ]
          refine hr_take_w 15 (some 83) (.slice (bk d.vo d.vc i) (d.vs.length - i) (d.vc - i)) rfl rfl (by kernel_rfl) (by kernel_rfl) (by kernel_rfl) rfl (fun W hW => by obtain ⟨h0, h1, h2, h3⟩ := hW; simp [execOp, Act.eval, GV]) bH0 ?_
          simp only [Act.put, List.setIfInBounds_toArray, List.set_cons_zero, List.set_cons_succ]
          refine hr_take_w 16 (some 84) (.pointer (some ⟨d.b, 0, none⟩)) rfl rfl (by kernel_rfl) (by kernel_rfl) (by kernel_rfl) rfl (fun W hW => by obtain ⟨h0, h1, h2, h3⟩ := hW; go_simp) bH0 ?_
          simp only [Act.put, List.setIfInBounds_toArray, List.set_cons_zero, List.set_cons_succ]
          refine hr_take_w 17 (some 85) (.pointer (some ⟨d.b, 0, none⟩)) rfl rfl (by kernel_rfl) (by kernel_rfl) (by kernel_rfl) rfl (fun W hW => by obtain ⟨h0, h1, h2, h3⟩ := hW; go_simp) bH0 ?_
          simp only [Act.put, List.setIfInBounds_toArray, List.set_cons_zero, List.set_cons_succ]
          refine hr_take_w 18 (some 86) (.pointer (some ⟨d.b, 3, none⟩)) rfl rfl (by kernel_rfl) (by kernel_rfl) (by kernel_rfl) rfl (fun W hW => by obtain ⟨h0, h1, h2, h3⟩ := hW; go_simp) bH0 ?_
          simp only [Act.put, List.setIfInBounds_toArray, List.set_cons_zero, List.set_cons_succ]
          refine hr_take_w 19 (some 87) (.slice d.co d.cs.length d.cc) rfl rfl (by kernel_rfl) (by kernel_rfl) (by kernel_rfl) rfl (fun W hW => by obtain ⟨h0, h1, h2, h3⟩ := hW; go_simp) bH0 ?_
          simp only [Act.put, List.setIfInBounds_toArray, List.set_cons_zero, List.set_cons_succ]
          refine hr_take_w 20 (some 88) (.int .i64 i) rfl rfl (by kernel_rfl) (by kernel_rfl) (by kernel_rfl) rfl (fun W hW => by obtain ⟨h0, h1, h2, h3⟩ := hW; go_simp) bH0 ?_
          simp only [Act.put, List.setIfInBounds_toArray, List.set_cons_zero, List.set_cons_succ]
          refine hr_take_w 21 (some 89) (.slice (bk d.co d.cc i) (d.cs.length - i) (d.cc - i)) rfl rfl (by kernel_rfl) (by kernel_rfl) (by kernel_rfl) rfl (fun W hW => by obtain ⟨h0, h1, h2, h3⟩ := hW; simp [execOp, Act.eval, GC]) bH0 ?_
          simp only [Act.put, List.setIfInBounds_toArray, List.set_cons_zero, List.set_cons_succ]
          refine hr_take_w 22 (some 90) (.pointer p2) rfl rfl (by kernel_rfl) (by kernel_rfl) (by kernel_rfl) rfl (fun W hW => by obtain ⟨h0, h1, h2, h3⟩ := hW; go_simp) bH0 ?_
          simp only [Act.put, List.setIfInBounds_toArray, List.set_cons_zero, List.set_cons_succ]
          refine hr_ex 23 (some 91) rfl rfl (by kernel_rfl) rfl (R := fun v w' => ∃ g, v = .slice (some ⟨g, 0, none⟩) 1 1 ∧ VL w' (some ⟨g, 0, none⟩) 1 1 [.pointer p2] ∧ Below bv0.heap.size bv0 w') (⟨_, _, by go_simp, _, rfl, VL.new bv0 [.pointer p2] 52 (by simp [maxLen]), (Below.refl _ _).alloc (Nat.le_refl _) _⟩) ?_
          rintro v bv1 ⟨bg0, rfl, bG0, bC0⟩
          have bE1 := bE0.trans (bC0.mono bE0.size)
          have bH1 := bHS.out bv1 bE1
          refine ⟨bH1, ?_⟩
          simp only [Act.put, List.setIfInBounds_toArray, List.set_cons_zero, List.set_cons_succ]
          refine hr_call_w 24 (some 92) 49 #[.slice (bk d.co d.cc i) (d.cs.length - i) (d.cc - i), .int .i64 0, .int .i64 1, .slice (some ⟨bg0, 0, none⟩) 1 1] rfl rfl (by kernel_rfl) rfl (by go_simp) (fun v w' => ∃ ro2 rc2, v = .slice ro2 (0 + 1 + (d.cs.length - i - 1)) rc2 ∧ VL w' ro2 (0 + 1 + (d.cs.length - i - 1)) rc2 ((d.cs.drop i).take 0 ++ [.pointer p2] ++ (d.cs.drop i).drop 1) ∧ Below bv1.heap.size bv1 w') ((chgN_any bv1 (bk d.co d.cc i) (some ⟨bg0, 0, none⟩) (d.cs.length - i) (d.cc - i) 1 1 0 1 (d.cs.drop i) [.pointer p2] ((N4.ok.cl.below bE1).from i (by omega)) bG0 (fun y hy => N4.one y (List.mem_of_mem_drop hy)) (by intro y hy; rw [List.mem_singleton.1 hy]; rfl) (by omega) (by omega) (by omega)).mono (by
            rintro e w' ⟨ro2, rc2, rfl, F, C⟩
            exact ⟨_, rfl, ro2, rc2, rfl, F, C⟩)) ?_
          rintro v bv2 ⟨ro2, rc2, rfl, bF1, bC1⟩
          have bE2 := bE1.trans (bC1.mono bE1.size)
          have bH2 := bHS.out bv2 bE2
          clear bG0
          refine ⟨bH2, ?_⟩
          simp only [Act.put, List.setIfInBounds_toArray, List.set_cons_zero, List.set_cons_succ]
          refine hr_take_w 25 (some 93) (.agg #[.int .i64 d.L, .slice (bk d.ko d.kc i) (d.ks.length - i) (d.kc - i), .slice (bk d.vo d.vc i) (d.vs.length - i) (d.vc - i), .slice ro2 (0 + 1 + (d.cs.length - i - 1)) rc2]) rfl rfl (by kernel_rfl) (by kernel_rfl) (by kernel_rfl) rfl (fun W hW => by obtain ⟨h0, h1, h2, h3⟩ := hW; go_simp) bH2 ?_
          simp only [Act.put, List.setIfInBounds_toArray, List.set_cons_zero, List.set_cons_succ]
          refine hr_ex 26 (some 94) rfl rfl (by kernel_rfl) rfl (R := fun v w' => ∃ g, v = .pointer (some ⟨g, 0, none⟩) ∧ w'.heap[g]? = some (.cells #[.int .i64 d.L, .slice (bk d.ko d.kc i) (d.ks.length - i) (d.kc - i), .slice (bk d.vo d.vc i) (d.vs.length - i) (d.vc - i), .slice ro2 (0 + 1 + (d.cs.length - i - 1)) rc2] 74) ∧ Below bv2.heap.size bv2 w') (⟨_, _, by go_simp, _, rfl, heap_alloc_new bv2 _, (Below.refl _ _).alloc (Nat.le_refl _) _⟩) ?_
          rintro v bv3 ⟨bg2, rfl, bG2, bC2⟩
          have bE3 := bE2.trans (bC2.mono bE2.size)
          have bH3 := bHS.out bv3 bE3
          refine ⟨bH3, ?_⟩
          simp only [Act.put, List.setIfInBounds_toArray, List.set_cons_zero, List.set_cons_succ]
          refine hr_take_w 27 (some 5) (.pointer (some ⟨bg2, 0, none⟩)) rfl rfl (by kernel_rfl) (by kernel_rfl) (by kernel_rfl) rfl (fun W hW => by obtain ⟨h0, h1, h2, h3⟩ := hW; go_simp) bH3 ?_
          simp only [Act.put, List.setIfInBounds_toArray, List.set_cons_zero, List.set_cons_succ]
          refine wpAnyH_done (by kernel_rfl) ?_ _
          refine NoPanic.normal ?_
          have tr : T bv3 (.pointer (some ⟨bg2, 0, none⟩)) (hi key s ++ B) := by
            have k3 := bF1.below bC2
            rw [show (d.cs.drop i).take 0 ++ [.pointer p2] ++ (d.cs.drop i).drop 1 = .pointer p2 :: d.cs.drop (i + 1) from by simp] at k3
            have N3 := N4.below bE3
            exact T.make bG2 (N3.ok.kl.from i (by omega)) (N3.ok.vl.from i (by omega)) k3 (c.back (by omega) (fun x hx => c.ls x (mem_hi.1 hx).1)) (by rw [List.map_drop, List.map_drop, N3.ek]) (by rw [List.map_drop, List.map_drop, N3.ev]) (Kids.cons (T4.below bE3) (N3.kids.drop (i + 1)))
          have B4 : Below w.heap.size w bv3 := B3.trans (bE3.mono B3.size)
          clear bF1 bG2
          go_wp2
          go_ret2
          refine ⟨_, _, rfl, ?_, ?_, B4⟩
          · rw [hlo.out]
            exact tl.below bE3
          · rw [hhi.out]
            exact tr
        · have hil' : ¬ (i : Int) < (d.ks.length : Int) := by omega
          have hBn : Hid (B = []) := by
            show _ = _
            have hd : xs.drop i = [] := List.drop_eq_nil_of_le (by omega)
            rw [c.eB, hd]
            rfl
          go_wp2
          go_ret2
          refine ⟨_, _, rfl, ?_, ?_, B3⟩
          · rw [hlo.out]
            exact tl
          · rw [hhi.out, hBn.out, List.append_nil]
            exact T4
      · have hi0' : ¬ (0 : Int) < (i : Int) := by omega
        have hAn : Hid (A = []) := by
          show _ = _
          obtain rfl : i = 0 := by omega
          rw [c.eA]
          rfl
        have hil : i < d.ks.length := by omega
        have hil' : (i : Int) < (d.ks.length : Int) := by omega
        go_wp2_with fail
        have bHS : Hid (∀ V, Below w2.heap.size w2 V → V.cell? ⟨d.b, 0, none⟩ = some (.int .i64 d.L) ∧ V.cell? ⟨d.b, 1, none⟩ = some (.slice d.ko d.ks.length d.kc) ∧ V.cell? ⟨d.b, 2, none⟩ = some (.slice d.vo d.vs.length d.vc) ∧ V.cell? ⟨d.b, 3, none⟩ = some (.slice d.co d.cs.length d.cc)) := fun V hV => ⟨(N2.ok.below hV).c0, (N2.ok.below hV).c1, (N2.ok.below hV).c2, (N2.ok.below hV).c3⟩
        have bE0 : Below w2.heap.size w2 w2.drew := (Below.refl _ _).drew
        refine wp_region_noPanic ?_
        refine wp_region_held_drew (S := fun V => V.cell? ⟨d.b, 0, none⟩ = some (.int .i64 d.L) ∧ V.cell? ⟨d.b, 1, none⟩ = some (.slice d.ko d.ks.length d.kc) ∧ V.cell? ⟨d.b, 2, none⟩ = some (.slice d.vo d.vs.length d.vc) ∧ V.cell? ⟨d.b, 3, none⟩ = some (.slice d.co d.cs.length d.cc)) (by kernel_rfl) (bHS.out _ bE0) (fun bH0 => ?_)
        obtain ⟨bv0, hv0⟩ : ∃ v, v = w2.drew := ⟨_, rfl⟩
        rw [← hv0] at bH0 bE0 ⊢
        clear hv0
        refine hr_take_w 0 (some 68) (.pointer (some ⟨d.b, 0, none⟩)) rfl rfl (by kernel_rfl) (by kernel_rfl) (by kernel_rfl) rfl (fun W hW => by obtain ⟨h0, h1, h2, h3⟩ := hW; go_simp) bH0 ?_
        simp only [Act.put, List.setIfInBounds_toArray, List.set_cons_zero, List.set_cons_succ]
        refine hr_take_w 1 (some 69) (.pointer (some ⟨d.b, 0, none⟩)) rfl rfl (by kernel_rfl) (by kernel_rfl) (by kernel_rfl) rfl (fun W hW => by obtain ⟨h0, h1, h2, h3⟩ := hW; go_simp) bH0 ?_
        simp only [Act.put, List.setIfInBounds_toArray, List.set_cons_zero, List.set_cons_succ]
        refine hr_take_w 2 (some 70) (.pointer (some ⟨d.b, 0, none⟩)) rfl rfl (by kernel_rfl) (by kernel_rfl) (by kernel_rfl) rfl (fun W hW => by obtain ⟨h0, h1, h2, h3⟩ := hW; go_simp) bH0 ?_
        simp only [Act.put, List.setIfInBounds_toArray, List.set_cons_zero, List.set_cons_succ]
        refine hr_take_w 3 (some 71) (.int .i64 d.L) rfl rfl (by kernel_rfl) (by kernel_rfl) (by kernel_rfl) rfl (fun W hW => by obtain ⟨h0, h1, h2, h3⟩ := hW; go_simp) bH0 ?_
        simp only [Act.put, List.setIfInBounds_toArray, List.set_cons_zero, List.set_cons_succ]
        refine hr_take_w 4 (some 72) (.pointer (some ⟨d.b, 0, none⟩)) rfl rfl (by kernel_rfl) (by kernel_rfl) (by kernel_rfl) rfl (fun W hW => by obtain ⟨h0, h1, h2, h3⟩ := hW; go_simp) bH0 ?_
        simp only [Act.put, List.setIfInBounds_toArray, List.set_cons_zero, List.set_cons_succ]
        refine hr_take_w 5 (some 73) (.pointer (some ⟨d.b, 0, none⟩)) rfl rfl (by kernel_rfl) (by kernel_rfl) (by kernel_rfl) rfl (fun W hW => by obtain ⟨h0, h1, h2, h3⟩ := hW; go_simp) bH0 ?_
        simp only [Act.put, List.setIfInBounds_toArray, List.set_cons_zero, List.set_cons_succ]
        refine hr_take_w 6 (some 74) (.pointer (some ⟨d.b, 1, none⟩)) rfl rfl (by kernel_rfl) (by kernel_rfl) (by kernel_rfl) rfl (fun W hW => by obtain ⟨h0, h1, h2, h3⟩ := hW; go_simp) bH0 ?_
        simp only [Act.put, List.setIfInBounds_toArray, List.set_cons_zero, List.set_cons_succ]
        refine hr_take_w 7 (some 75) (.slice d.ko d.ks.length d.kc) rfl rfl (by kernel_rfl) (by kernel_rfl) (by kernel_rfl) rfl (fun W hW => by obtain ⟨h0, h1, h2, h3⟩ := hW; go_simp) bH0 ?_
        simp only [Act.put, List.setIfInBounds_toArray, List.set_cons_zero, List.set_cons_succ]
        refine hr_take_w 8 (some 76) (.int .i64 i) rfl rfl (by kernel_rfl) (by kernel_rfl) (by kernel_rfl) rfl (fun W hW => by obtain ⟨h0, h1, h2, h3⟩ := hW; go_simp) bH0 ?_
        simp only [Act.put, List.setIfInBounds_toArray, List.set_cons_zero, List.set_cons_succ]
        refine hr_take_w 9 (some 77) (.slice (bk d.ko d.kc i) (d.ks.length - i) (d.kc - i)) rfl rfl (by kernel_rfl) (by kernel_rfl) (by kernel_rfl) rfl (fun W hW => by obtain ⟨h0, h1, h2, h3⟩ := hW; simp [execOp, Act.eval, GK]) bH0 ?_
        simp only [Act.put, List.setIfInBounds_toArray, List.set_cons_zero, List.set_cons_succ]
        refine hr_take_w 10 (some 78) (.pointer (some ⟨d.b, 0, none⟩)) rfl rfl (by kernel_rfl) (by kernel_rfl) (by kernel_rfl) rfl (fun W hW => by obtain ⟨h0, h1, h2, h3⟩ := hW; go_simp) bH0 ?_
        simp only [Act.put, List.setIfInBounds_toArray, List.set_cons_zero, List.set_cons_succ]
        refine hr_take_w 11 (some 79) (.pointer (some ⟨d.b, 0, none⟩)) rfl rfl (by kernel_rfl) (by kernel_rfl) (by kernel_rfl) rfl (fun W hW => by obtain ⟨h0, h1, h2, h3⟩ := hW; go_simp) bH0 ?_
        simp only [Act.put, List.setIfInBounds_toArray, List.set_cons_zero, List.set_cons_succ]
        refine hr_take_w 12 (some 80) (.pointer (some ⟨d.b, 2, none⟩)) rfl rfl (by kernel_rfl) (by kernel_rfl) (by kernel_rfl) rfl (fun W hW => by obtain ⟨h0, h1, h2, h3⟩ := hW; go_simp) bH0 ?_
        simp only [Act.put, List.setIfInBounds_toArray, List.set_cons_zero, List.set_cons_succ]
        refine hr_take_w 13 (some 81) (.slice d.vo d.vs.length d.vc) rfl rfl (by kernel_rfl) (by kernel_rfl) (by kernel_rfl) rfl (fun W hW => by obtain ⟨h0, h1, h2, h3⟩ := hW; go_simp) bH0 ?_
        simp only [Act.put, List.setIfInBounds_toArray, List.set_cons_zero, List.set_cons_succ]
        refine hr_take_w 14 (some 82) (.int .i64 i) rfl rfl (by kernel_rfl) (by kernel_rfl) (by kernel_rfl) rfl (fun W hW => by obtain ⟨h0, h1, h2, h3⟩ := hW; go_simp) bH0 ?_
        simp only [Act.put, List.setIfInBounds_toArray, List.set_cons_zero, List.set_cons_succ]
        refine hr_take_w 15 (some 83) (.slice (bk d.vo d.vc i) (d.vs.length - i) (d.vc - i)) rfl rfl (by kernel_rfl) (by kernel_rfl) (by kernel_rfl) rfl (fun W hW => by obtain ⟨h0, h1, h2, h3⟩ := hW; simp [execOp, Act.eval, GV]) bH0 ?_
        simp only [Act.put, List.setIfInBounds_toArray, List.set_cons_zero, List.set_cons_succ]
        refine hr_take_w 16 (some 84) (.pointer (some ⟨d.b, 0, none⟩)) rfl rfl (by kernel_rfl) (by kernel_rfl) (by kernel_rfl) rfl (fun W hW => by obtain ⟨h0, h1, h2, h3⟩ := hW; go_simp) bH0 ?_
        simp only [Act.put, List.setIfInBounds_toArray, List.set_cons_zero, List.set_cons_succ]
        refine hr_take_w 17 (some 85) (.pointer (some ⟨d.b, 0, none⟩)) rfl rfl (by kernel_rfl) (by kernel_rfl) (by kernel_rfl) rfl (fun W hW => by obtain ⟨h0, h1, h2, h3⟩ := hW; go_simp) bH0 ?_
        simp only [Act.put, List.setIfInBounds_toArray, List.set_cons_zero, List.set_cons_succ]
        refine hr_take_w 18 (some 86) (.pointer (some ⟨d.b, 3, none⟩)) rfl rfl (by kernel_rfl) (by kernel_rfl) (by kernel_rfl) rfl (fun W hW => by obtain ⟨h0, h1, h2, h3⟩ := hW; go_simp) bH0 ?_
        simp only [Act.put, List.setIfInBounds_toArray, List.set_cons_zero, List.set_cons_succ]
        refine hr_take_w 19 (some 87) (.slice d.co d.cs.length d.cc) rfl rfl (by kernel_rfl) (by kernel_rfl) (by kernel_rfl) rfl (fun W hW => by obtain ⟨h0, h1, h2, h3⟩ := hW; go_simp) bH0 ?_
        simp only [Act.put, List.setIfInBounds_toArray, List.set_cons_zero, List.set_cons_succ]
        refine hr_take_w 20 (some 88) (.int .i64 i) rfl rfl (by kernel_rfl) (by kernel_rfl) (by kernel_rfl) rfl (fun W hW => by obtain ⟨h0, h1, h2, h3⟩ := hW; go_simp) bH0 ?_
        simp only [Act.put, List.setIfInBounds_toArray, List.set_cons_zero, List.set_cons_succ]
        refine hr_take_w 21 (some 89) (.slice (bk d.co d.cc i) (d.cs.length - i) (d.cc - i)) rfl rfl (by kernel_rfl) (by kernel_rfl) (by kernel_rfl) rfl (fun W hW => by obtain ⟨h0, h1, h2, h3⟩ := hW; simp [execOp, Act.eval, GC]) bH0 ?_
        simp only [Act.put, List.setIfInBounds_toArray, List.set_cons_zero, List.set_cons_succ]
        refine hr_take_w 22 (some 90) (.pointer p2) rfl rfl (by kernel_rfl) (by kernel_rfl) (by kernel_rfl) rfl (fun W hW => by obtain ⟨h0, h1, h2, h3⟩ := hW; go_simp) bH0 ?_
        simp only [Act.put, List.setIfInBounds_toArray, List.set_cons_zero, List.set_cons_succ]
        refine hr_ex 23 (some 91) rfl rfl (by kernel_rfl) rfl (R := fun v w' => ∃ g, v = .slice (some ⟨g, 0, none⟩) 1 1 ∧ VL w' (some ⟨g, 0, none⟩) 1 1 [.pointer p2] ∧ Below bv0.heap.size bv0 w') (⟨_, _, by go_simp, _, rfl, VL.new bv0 [.pointer p2] 52 (by simp [maxLen]), (Below.refl _ _).alloc (Nat.le_refl _) _⟩) ?_
        rintro v bv1 ⟨bg0, rfl, bG0, bC0⟩
        have bE1 := bE0.trans (bC0.mono bE0.size)
        have bH1 := bHS.out bv1 bE1
        refine ⟨bH1, ?_⟩
        simp only [Act.put, List.setIfInBounds_toArray, List.set_cons_zero, List.set_cons_succ]
        refine hr_call_w 24 (some 92) 49 #[.slice (bk d.co d.cc i) (d.cs.length - i) (d.cc - i), .int .i64 0, .int .i64 1, .slice (some ⟨bg0, 0, none⟩) 1 1] rfl rfl (by kernel_rfl) rfl (by go_simp) (fun v w' => ∃ ro2 rc2, v = .slice ro2 (0 + 1 + (d.cs.length - i - 1)) rc2 ∧ VL w' ro2 (0 + 1 + (d.cs.length - i - 1)) rc2 ((d.cs.drop i).take 0 ++ [.pointer p2] ++ (d.cs.drop i).drop 1) ∧ Below bv1.heap.size bv1 w') ((chgN_any bv1 (bk d.co d.cc i) (some ⟨bg0, 0, none⟩) (d.cs.length - i) (d.cc - i) 1 1 0 1 (d.cs.drop i) [.pointer p2] ((N2.ok.cl.below bE1).from i (by omega)) bG0 (fun y hy => N2.one y (List.mem_of_mem_drop hy)) (by intro y hy; rw [List.mem_singleton.1 hy]; rfl) (by omega) (by omega) (by omega)).mono (by
          rintro e w' ⟨ro2, rc2, rfl, F, C⟩
          exact ⟨_, rfl, ro2, rc2, rfl, F, C⟩)) ?_
        rintro v bv2 ⟨ro2, rc2, rfl, bF1, bC1⟩
        have bE2 := bE1.trans (bC1.mono bE1.size)
        have bH2 := bHS.out bv2 bE2
        clear bG0
        refine ⟨bH2, ?_⟩
        simp only [Act.put, List.setIfInBounds_toArray, List.set_cons_zero, List.set_cons_succ]
        refine hr_take_w 25 (some 93) (.agg #[.int .i64 d.L, .slice (bk d.ko d.kc i) (d.ks.length - i) (d.kc - i), .slice (bk d.vo d.vc i) (d.vs.length - i) (d.vc - i), .slice ro2 (0 + 1 + (d.cs.length - i - 1)) rc2]) rfl rfl (by kernel_rfl) (by kernel_rfl) (by kernel_rfl) rfl (fun W hW => by obtain ⟨h0, h1, h2, h3⟩ := hW; go_simp) bH2 ?_
        simp only [Act.put, List.setIfInBounds_toArray, List.set_cons_zero, List.set_cons_succ]
        refine hr_ex 26 (some 94) rfl rfl (by kernel_rfl) rfl (R := fun v w' => ∃ g, v = .pointer (some ⟨g, 0, none⟩) ∧ w'.heap[g]? = some (.cells #[.int .i64 d.L, .slice (bk d.ko d.kc i) (d.ks.length - i) (d.kc - i), .slice (bk d.vo d.vc i) (d.vs.length - i) (d.vc - i), .slice ro2 (0 + 1 + (d.cs.length - i - 1)) rc2] 74) ∧ Below bv2.heap.size bv2 w') (⟨_, _, by go_simp, _, rfl, heap_alloc_new bv2 _, (Below.refl _ _).alloc (Nat.le_refl _) _⟩) ?_
        rintro v bv3 ⟨bg2, rfl, bG2, bC2⟩
        have bE3 := bE2.trans (bC2.mono bE2.size)
        have bH3 := bHS.out bv3 bE3
        refine ⟨bH3, ?_⟩
        simp only [Act.put, List.setIfInBounds_toArray, List.set_cons_zero, List.set_cons_succ]
        refine hr_take_w 27 (some 5) (.pointer (some ⟨bg2, 0, none⟩)) rfl rfl (by kernel_rfl) (by kernel_rfl) (by kernel_rfl) rfl (fun W hW => by obtain ⟨h0, h1, h2, h3⟩ := hW; go_simp) bH3 ?_
        simp only [Act.put, List.setIfInBounds_toArray, List.set_cons_zero, List.set_cons_succ]
        refine wpAnyH_done (by kernel_rfl) ?_ _
        refine NoPanic.normal ?_
        have tr : T bv3 (.pointer (some ⟨bg2, 0, none⟩)) (hi key s ++ B) := by
          have k3 := bF1.below bC2
          rw [show (d.cs.drop i).take 0 ++ [.pointer p2] ++ (d.cs.drop i).drop 1 = .pointer p2 :: d.cs.drop (i + 1) from by simp] at k3
          have N3 := N2.below bE3
          exact T.make bG2 (N3.ok.kl.from i (by omega)) (N3.ok.vl.from i (by omega)) k3 (c.back (by omega) (fun x hx => c.ls x (mem_hi.1 hx).1)) (by rw [List.map_drop, List.map_drop, N3.ek]) (by rw [List.map_drop, List.map_drop, N3.ev]) (Kids.cons (T2.below bE3) (N3.kids.drop (i + 1)))
        have B4 : Below w.heap.size w bv3 := B2.trans (bE3.mono B2.size)
        clear bF1 bG2
        go_wp2
        go_ret2
        refine ⟨_, _, rfl, ?_, ?_, B4⟩
        · rw [hlo.out]
          exact by rw [hAn.out, List.nil_append]; exact T1.below bE3
        · rw [hhi.out]
          exact tr
end Go.Proofs.YtnicnfjickknjaaDoor

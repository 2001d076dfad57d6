/-
  Texts in one: CKind, QuProof, QuNum, QuAdd, QuNew, QuAddV.
-/
import Derived.Test.YtbpbcmbcoffdlaaSlotsCertsQFL
import Derived.Test.YtbpbcmbcoffdlaaSlotsCertsQ0
import Derived.BigQuiet
namespace Go.Proofs.Ytbpbcmbcoffdlaa
open Go.RowKit
theorem toL_ne {s t : ByteArray} (h : s ≠ t) : (s.toList == t.toList) = false := by
  rw [beq_eq_false_iff_ne]
  intro e
  apply h
  rw [ByteArray.toList_eq, ByteArray.toList_eq] at e
  exact ByteArray.ext (Array.toList_inj.1 e)
open Go.RowKit
def prfV (s : ByteArray) : Nat → List VT → List SV
  | _, [] => []
  | i, v :: l => if v.fo s = true then ⟨i + 1, sb v.body, sb v.tag⟩ :: prfV s (i + 1) l else prfV s (i + 1) l
theorem prfV_len (s : ByteArray) : ∀ (l : List VT) (i : Nat), (prfV s i l).length = cntV s l
  | [], _ => rfl
  | v :: l, i => by
    have h := prfV_len s l (i + 1)
    unfold cntV at h ⊢
    unfold prfV
    simp only [List.filter_cons]
    split
    · rw [List.length_cons, List.length_cons, h]
    · exact h
theorem prfV_app (s : ByteArray) (v : VT) : ∀ (l : List VT) (i : Nat), prfV s i (l ++ [v]) = prfV s i l ++ (if v.fo s = true then [⟨i + l.length + 1, sb v.body, sb v.tag⟩] else [])
  | [], i => by
    show prfV s i [v] = _
    unfold prfV
    simp only [prfV, List.length_nil, Nat.add_zero, List.nil_append]
  | u :: l, i => by
    have h := prfV_app s v l (i + 1)
    rw [List.cons_append]
    unfold prfV
    rw [h, List.length_cons, show i + 1 + l.length + 1 = i + (l.length + 1) + 1 from by omega]
    split
    · rw [List.cons_append]
    · rfl
def prfN (s : ByteArray) (l : List VT) (n : Int) : List SV := if n < 1 ∨ (cntV s l : Int) < n then [] else (prfV s 0 l).take n.toNat
def elF (base : Nat) : El SA := ⟨SA.cells, 3, fun x w => x.ok w ∧ ∀ z, x.blk z → base ≤ z, SA.blk⟩
theorem elF_fine (base : Nat) : (elF base).Fine :=
  ⟨elS_fine.len, elS_fine.pos, elS_fine.one, fun x w w' h hk => ⟨elS_fine.kept x w w' h.1 hk, h.2⟩, fun x w z h hz => elS_fine.lt x w z h.1 hz⟩
theorem GL.ofF {base : Nat} {w : World} {ao : Option Addr} {n cap : Nat} {l : List SA} (h : GL (elF base) w ao n cap l) : GL elS w ao n cap l ∧ ∀ x ∈ l, ∀ z, x.blk z → base ≤ z :=
  ⟨⟨h.len, h.le, h.mx, h.nil, h.cell, fun x hx => (h.ok x hx).1⟩, fun x hx => (h.ok x hx).2⟩
def PfPostF (w : World) (s : ByteArray) (l : List VT) (n : Int) (x : Ending) (w' : World) : Prop :=
  ∃ ao m cap ys, x = .returned (.slice ao m cap) ∧ GL elS w' ao m cap ys ∧ ys.map SA.v = prfN s l n ∧ Below w.heap.size w w' ∧ ∀ z, GLb elS ao m ys z → w.heap.size ≤ z
theorem tySF {b : Nat} : GTy (elF b).sz 56 (.agg #[.int .u64 0, .slice none 0 0, .slice none 0 0]) 62 47 := tyS
set_option maxRecDepth 100000 in
set_option maxHeartbeats 4000000 in
theorem proof_manyF (w : World) (p f : Nat) (l : List VT) (h : QS w p f l) (ao : Option Addr) (m cap : Nat) (xs : List Int) (S : Sl w ao m cap xs) (n : Nat) (hn : 1 ≤ n) (hc : n ≤ cntV (strOfNums xs) l) : Calls Try.prog 74 #[.pointer (some ⟨p, 0, none⟩), .slice ao m cap, .int .i64 (n : Nat)] w (PfPostF w (strOfNums xs) l n) := by
  have hlen := h.len
  have hcl : (Try.prog.info? 117).map (·.size) = some (cellsV l).length := by rw [cellsV_len, hlen]; exact sizeV
  have CC := count_any w p f l h ao m cap xs S
  have hc13 : cntV (strOfNums xs) l ≤ 13 := Nat.le_trans (cntV_le _ _) (by omega)
  have HP : Hid (prfN (strOfNums xs) l n = (prfV (strOfNums xs) 0 l).take n) := by show _ = _; unfold prfN; rw [if_neg (by omega)]; rfl
  have HCV : Hid (∀ V, Below w.heap.size w V → (convert 35 9 (.slice ao m cap)).run Try.prog V = .ok (.string (strOfNums xs)) V) := fun V hV => conv_str (S.below hV)
  generalize cntV (strOfNums xs) l = c at CC hc hc13
  generalize strOfNums xs = s at HP HCV ⊢
  have n13 : n ≤ 13 := by omega
  have i1 : (1 : Int) ≤ (n : Int) := by omega
  have i2 : (n : Int) ≤ (c : Int) := by omega
  clear hc hc13
  go_enter Try.func74, Try.ntmps74
  go_wp2_with fail
  refine CC.mono ?_
  rintro x w1 ⟨rfl, C1⟩
  have HR := (h.below C1).row
  clear CC
  go_wp2_with (refine wpList_load_named rfl 117 (Operand.tmp 21) rfl ⟨p, 1, none⟩ rfl (cellsV l) HR aggV hcl ?_; rintro AV hAV0; have hAV : Hid (AV = _) := hAV0; clear hAV0)
  have HIX : Hid (∀ k (hk : k < l.length) W, (Instr.index 117 AV (.int .i64 k)).run Try.prog W = .ok (.agg #[.bool l[k].is, .string l[k].word, .string l[k].body, .string l[k].tag]) W) := fun k hk W => by rw [hAV.out]; exact indexV l hlen k hk W
  clear HR hcl hAV i2 S
  go_loopw [7, 23] (fun v' i wr => ∃ (j : Nat) (v : Value) (ys : List SA), j ≤ 13 ∧ i = .int .i64 j ∧ v = v' ∧ GI (elF w.heap.size) 62 wr w.heap.size v ys ∧ Hid (ys.map SA.v = (prfV s 0 (l.take j)).take n) ∧ Below w.heap.size w wr) (fun _ i _ => 13 - (intOf i).toNat)
  case atStart => exact ⟨0, _, [], Nat.zero_le _, rfl, rfl, GI.nil _ _ _ _, by show _ = _; simp [prfV], C1⟩
  case round =>
    obtain ⟨j, v, ys, hj, rfl, rfl, GR, HY, B⟩ := hrel
    obtain ⟨vao, vcap, rfl⟩ := GR.slice
    have hsz := B.size
    by_cases hlt : j < 13
    · have hji : (j : Int) < 13 := by omega
      have hjl : j < l.length := by omega
      have HT : Hid (prfV s 0 (l.take (j + 1)) = prfV s 0 (l.take j) ++ (if l[j].fo s = true then [⟨j + 1, sb l[j].body, sb l[j].tag⟩] else [])) := by
        show _ = _
        rw [List.take_succ_eq_append_getElem hjl, prfV_app, List.length_take, show 0 + min j l.length + 1 = j + 1 from by omega]
      have r1 := HIX.out j hjl
      have vok := h.ok _ (List.getElem_mem hjl)
      obtain ⟨u, hu⟩ : ∃ u, u = l[j] := ⟨_, rfl⟩
      rw [← hu] at r1 vok HT
      clear hu HIX hjl
      have C2 : Below wr.heap.size wr (wr.alloc (.cells #[.bool u.is, .string u.word, .string u.body, .string u.tag] 116)) := (Below.refl _ _).alloc (Nat.le_refl _) _
      have B2 := B.trans (C2.mono B.size)
      have GR2 := GR.below (elF_fine _) C2
      have cv := HCV.out _ B2
      have hyl : ys.length = min n (prfV s 0 (l.take j)).length := by have := congrArg List.length HY.out; rw [List.length_map, List.length_take] at this; exact this
      have s2 := B2.size
      clear C2 B GR
      by_cases hfull : n ≤ ys.length
      · have HY2 : Hid (ys.map SA.v = (prfV s 0 (l.take (j + 1))).take n) := by
          show _ = _
          rw [HT.out, HY.out, List.take_append_of_le_length (by omega)]
        have i5 : (n : Int) ≤ (ys.length : Int) := by omega
        clear HY HT hfull hyl cv
        go_wp2
        go_roundw
        case rel => exact ⟨j + 1, _, ys, by omega, by go_num, rfl, GR2, HY2, B2⟩
        case measure => simp [intOf]; omega
      · have HY1 : Hid (ys.map SA.v = prfV s 0 (l.take j)) := by
          show _ = _
          rw [HY.out]
          exact List.take_of_length_le (by omega)
        have hyn : ys.length < n := by omega
        have i5 : (ys.length : Int) < (n : Int) := by omega
        have HYL : Hid (ys.length = (prfV s 0 (l.take j)).length) := by show _ = _; have := congrArg List.length HY1.out; rwa [List.length_map] at this
        clear HY hfull hyl
        cases hfo : u.fo s with
        | false =>
          have HY2 : Hid (ys.map SA.v = (prfV s 0 (l.take (j + 1))).take n) := by
            show _ = _
            rw [HT.out, hfo, if_neg (by simp), List.append_nil, HY1.out]
            exact (List.take_of_length_le (by have := HYL.out; omega)).symm
          cases his : u.is with
          | false =>
            rw [his] at r1 B2 GR2 cv
            clear HY1 HT HYL hfo his
            go_wp2
            go_roundw
            case rel => exact ⟨j + 1, _, ys, by omega, by go_num, rfl, GR2, HY2, B2⟩
            case measure => simp [intOf]; omega
          | true =>
            have hne : (u.word.toList == s.toList) = false := by
              unfold VT.fo at hfo
              rw [his] at hfo
              exact toL_ne (by simpa using hfo)
            rw [his] at r1 B2 GR2 cv
            clear HY1 HT HYL hfo his
            go_wp2
            go_roundw
            case rel => exact ⟨j + 1, _, ys, by omega, by go_num, rfl, GR2, HY2, B2⟩
            case measure => simp [intOf]; omega
        | true =>
          have his : u.is = true := by unfold VT.fo at hfo; cases hh : u.is with | true => rfl | false => rw [hh] at hfo; cases hfo
          have heq : u.word = s := by unfold VT.fo at hfo; rw [his] at hfo; simpa using hfo
          have hE : (u.word.toList == s.toList) = true := by rw [heq]; simp
          have HY2 : Hid (∀ y : SA, y.v = ⟨j + 1, sb u.body, sb u.tag⟩ → (ys ++ [y]).map SA.v = (prfV s 0 (l.take (j + 1))).take n) := fun y hy => by
            have hl := HYL.out
            rw [HT.out, hfo, if_pos rfl, List.take_of_length_le (by rw [List.length_append, List.length_singleton]; omega), List.map_append, HY1.out, List.map_cons, List.map_nil, hy]
          rw [his] at r1 B2 GR2 cv s2
          have vlt : Hid (∀ z, (Value.slice vao ys.length vcap).ownBlock = some z → z < (wr.alloc (.cells #[.bool true, .string u.word, .string u.body, .string u.tag] 116)).heap.size) := fun z hz => (GR2.own.lt z hz).2
          have hb := vok.body
          have ht := vok.tag
          have iw : IntKind.u64.wrap (j : Int) = (j : Int) := by rw [IntKind.wrap_u64]; omega
          clear HY1 HT HYL hfo his heq vok HCV h
          go_wp2_with (refine stop_at (.convert 9 35 (Operand.tmp 47)) rfl ?_)
          refine ⟨?_⟩
          refine wpList_conv_bytes rfl (Operand.tmp 47) rfl u.body rfl (by omega) ?_
          rintro g3 c3 w3 hg30 S3 C3
          have hg3 := Nat.le_of_eq hg30.symm
          clear hg30
          have B3 := B2.trans (C3.mono B2.size)
          have GR3 := GR2.below (elF_fine _) C3
          have k2 : w3.cell? ⟨wr.heap.size, 3, none⟩ = some (.string u.tag) := by
            rw [C3.cell (p := ⟨wr.heap.size, 3, none⟩) (by simp), cell_of_row _ _ 3 _ _ _ (heap_alloc_new wr _)]
            rfl
          clear GR2 B2 r1 cv
          go_wp2_with (refine stop_at (.convert 9 35 (Operand.tmp 50)) rfl ?_)
          refine ⟨?_⟩
          refine wpList_conv_bytes rfl (Operand.tmp 50) rfl u.tag rfl (by omega) ?_
          rintro g4 c4 w4 hg40 S4 C4
          have hg4 := Nat.le_of_eq hg40.symm
          clear hg40
          have B4 := B3.trans (C4.mono B3.size)
          have GR4 := GR3.below (elF_fine _) C4
          have S3 := S3.below C4
          have s3 := C3.size
          clear GR3 B3 k2
          obtain ⟨y, hy⟩ : ∃ y : SA, y = ⟨j + 1, ⟨some ⟨g3, 0, none⟩, u.body.size, c3, sb u.body⟩, ⟨some ⟨g4, 0, none⟩, u.tag.size, c4, sb u.tag⟩⟩ := ⟨_, rfl⟩
          have yok : y.ok w4 ∧ ∀ z, y.blk z → w.heap.size ≤ z := by
            rw [hy]
            refine ⟨⟨by show j + 1 < _; omega, S3, S4⟩, fun z hz => ?_⟩
            simp at s2 s3
            rcases hz with ⟨a, ha, _, rfl⟩ | ⟨a, ha, _, rfl⟩
            · obtain rfl := Option.some.inj ha
              show _ ≤ g3
              simp at hg3
              omega
            · obtain rfl := Option.some.inj ha
              show _ ≤ g4
              simp at hg3 hg4
              omega
          have C5 : Below w4.heap.size w4 (w4.alloc (.cells #[.int .u64 ((j : Int) + 1), .slice (some ⟨g3, 0, none⟩) u.body.size c3, .slice (some ⟨g4, 0, none⟩) u.tag.size c4] 62)) := (Below.refl _ _).alloc (Nat.le_refl _) _
          have HF : Hid (∀ z, (elF w.heap.size).blk y z → (Value.slice vao ys.length vcap).ownBlock ≠ some z) := fun z hz e => by
            have h1 := vlt.out z e
            rw [hy] at hz
            rcases hz with ⟨a, ha, _, rfl⟩ | ⟨a, ha, _, rfl⟩
            · obtain rfl := Option.some.inj ha
              simp only at h1
              omega
            · obtain rfl := Option.some.inj ha
              simp only at h1
              omega
          have HG : Hid (∀ q t, ((elF w.heap.size).c y)[q]? = some t → (w4.alloc (.cells #[.int .u64 ((j : Int) + 1), .slice (some ⟨g3, 0, none⟩) u.body.size c3, .slice (some ⟨g4, 0, none⟩) u.tag.size c4] 62)).cell? ((⟨w4.heap.size, 0, none⟩ : Addr).add q) = some t) := fun q t ht => by
            rw [Addr.add_lit, Nat.zero_add, cell_of_row _ _ q _ _ _ (heap_alloc_new _ _)]
            rw [hy] at ht
            simpa [elF, SA.cells] using ht
          have HYV := HY2.out y (by rw [hy]; rfl)
          have HYV2 : Hid ((ys ++ [y]).map SA.v = (prfV s 0 (l.take (j + 1))).take n) := HYV
          have GR5 := GR4.below (elF_fine _) C5
          have yok5 : (elF w.heap.size).ok y (w4.alloc (.cells #[.int .u64 ((j : Int) + 1), .slice (some ⟨g3, 0, none⟩) u.body.size c3, .slice (some ⟨g4, 0, none⟩) u.tag.size c4] 62)) := ⟨yok.1.below C5, yok.2⟩
          have B5 := B4.trans (C5.mono B4.size)
          have hb5 := B5.size
          clear hy HYV HY2 S3 S4 vlt yok GR4 C3 C4 C5 B4 s3 hg3 hg4
          go_wp2_with (refine stop_at (.call { callee := .builtin .append, args := #[Operand.tmp 42, Operand.tmp 53], argTypes := #[47, 47] }) rfl ?_)
          refine ⟨?_⟩
          refine wpList_appG (elF_fine _) tySF rfl (.tmp 42) (.tmp 53) rfl GR5 rfl rfl HG.out yok5 HF.out (by omega) (by unfold maxLen; omega) hb5 ?_
          intro v6 w6 GR6 B6
          have B7 := B5.trans B6
          clear GR5 yok5 HF HG B5 hb5
          go_wp2
          go_roundw
          case rel => exact ⟨j + 1, v6, ys ++ [y], by omega, by go_num, rfl, GR6, HYV2, B7⟩
          case measure => simp [intOf]; omega
    · have hge : ¬ (j : Int) < 13 := by omega
      have HT : Hid (l.take j = l) := List.take_of_length_le (by omega)
      rw [HT.out] at HY
      obtain ⟨ao2, cap2, e, GLx, GB⟩ := GR.gl (elF_fine _)
      simp only [Value.slice.injEq] at e
      obtain ⟨rfl, -, rfl⟩ := e
      go_wp2
      go_ret
      exact ⟨_, _, _, ys, rfl, GLx.ofF.1, by rw [HP.out]; exact HY.out, B, fun z hz => hz.elim (GB z) fun ⟨x, hx, h⟩ => GLx.ofF.2 x hx z h⟩
open Go.RowKit
theorem okF_t {f : Int} (h1 : 1 ≤ f) (h4 : f ≤ 4) : okF f = true := decide_eq_true ⟨h1, h4⟩
theorem okF_f {f : Int} (h : ¬ (1 ≤ f ∧ f ≤ 4)) : okF f = false := decide_eq_false h
theorem canBe_any (f : Int) (w : World) : Calls Try.prog 80 #[.int .i64 f] w fun e w' => e = .returned (.bool (okF f)) ∧ w' = w := by
  by_cases h1 : 1 ≤ f
  · by_cases h4 : f ≤ 4
    · rw [okF_t h1 h4]
      go_enter Try.func80, Try.ntmps80
      go_wp2
      go_ret
      exact ⟨rfl, rfl⟩
    · rw [okF_f (by omega)]
      go_enter Try.func80, Try.ntmps80
      go_wp2
      go_ret
      exact ⟨rfl, rfl⟩
  · rw [okF_f (by omega)]
    go_enter Try.func80, Try.ntmps80
    go_wp2
    go_ret
    exact ⟨rfl, rfl⟩
theorem nF_f {f : Int} (t : Int) (h : okF f = false) : nF f t = 0 := by unfold nF; rw [if_neg (by rw [h]; simp)]
theorem nF_t {f : Int} (t : Int) (h : okF f = true) : nF f t = t * f + 1 := by unfold nF; rw [if_pos h]
theorem okF_iff {f : Int} : okF f = true ↔ 1 ≤ f ∧ f ≤ 4 := decide_eq_true_iff
theorem ofF_any (f t : Int) (ht : t = 1 ∨ t = 2 ∨ t = 3) (w : World) : Calls Try.prog 69 #[.int .i64 f, .int .i64 t] w fun e w' => e = .returned (.int .i64 (nF f t)) ∧ w' = w := by
  have CB := canBe_any f w
  cases hk : okF f with
  | false =>
    rw [nF_f t hk]
    rw [hk] at CB
    clear hk ht
    go_enter Try.func69, Try.ntmps69
    go_wp2_with (go_at_call 80; refine CB.mono ?_; rintro e w' ⟨rfl, rfl⟩)
    go_ret
    exact ⟨rfl, rfl⟩
  | true =>
    rw [nF_t t hk]
    rw [hk] at CB
    obtain ⟨h1, h4⟩ := okF_iff.1 hk
    clear hk
    rcases ht with rfl | rfl | rfl
    all_goals
      go_enter Try.func69, Try.ntmps69
      go_wp2_with (go_at_call 80; refine CB.mono ?_; rintro e w' ⟨rfl, rfl⟩)
      go_ret
      exact ⟨by first | rfl | simp, rfl⟩
theorem n_any (f : Int) (w : World) : Calls Try.prog 70 #[.int .i64 f] w fun e w' => e = .returned (.int .i64 (nF f 3)) ∧ w' = w := by
  have C := ofF_any f 3 (by omega) w
  go_enter Try.func70, Try.ntmps70
  go_wp2_with (go_at_call 69; refine C.mono ?_; rintro e w' ⟨rfl, rfl⟩)
  go_ret
  exact ⟨rfl, rfl⟩
theorem prF_f {f : Int} (v : Nat) (h : okF f = false) : prF v f = 0 := by unfold prF; rw [if_neg (by rw [h]; simp)]
theorem prF_t {f : Int} (v : Nat) (h : okF f = true) : prF v f = 1 + v % (3 * f + 1).toNat := by unfold prF; rw [if_pos h]
theorem prim_any (v : Nat) (f : Int) (hv : v < 18446744073709551616) (w : World) : Calls Try.prog 71 #[.int .u64 v, .int .i64 f] w fun e w' => e = .returned (.int .u64 (prF v f)) ∧ w' = w := by
  have CB := canBe_any f w
  cases hk : okF f with
  | false =>
    rw [prF_f v hk]
    rw [hk] at CB
    clear hk
    go_enter Try.func71, Try.ntmps71
    go_wp2_with (go_at_call 80; refine CB.mono ?_; rintro e w' ⟨rfl, rfl⟩)
    go_ret
    exact ⟨rfl, rfl⟩
  | true =>
    have CN := n_any f w
    rw [nF_t 3 hk] at CN
    obtain ⟨h1, h4⟩ := okF_iff.1 hk
    obtain ⟨m, rfl⟩ : ∃ m : Nat, f = m := ⟨f.toNat, by omega⟩
    have e : prF v m = 1 + v % (3 * m + 1) := by rw [prF_t v hk]; congr 1
    have e2 : (3 * (m : Int) + 1) = ((3 * m + 1 : Nat) : Int) := by omega
    rw [e]
    rw [hk] at CB
    rw [e2] at CN
    clear hk e e2
    obtain ⟨n, hn⟩ : ∃ n, n = 3 * m + 1 := ⟨_, rfl⟩
    have n1 : 1 ≤ n := by omega
    have n2 : n ≤ 13 := by omega
    rw [← hn] at CN ⊢
    have hm := Nat.mod_lt v n1
    have hmi : (v : Int) % (n : Int) = ((v % n : Nat) : Int) := (Int.natCast_emod v n).symm
    have hM : Hid ((v : Int) % (n : Int) = ((v % n : Nat) : Int)) := hmi
    have hb : 0 ≤ (v : Int) % (n : Int) ∧ (v : Int) % (n : Int) < 13 := by rw [hmi]; omega
    have i1 : (1 : Int) ≤ (n : Int) := by omega
    have i2 : (n : Int) ≤ 13 := by omega
    have i3 : (v : Int) < 18446744073709551616 := by omega
    clear hn hmi hm n1 n2 h1 h4 hv
    go_enter Try.func71, Try.ntmps71
    go_wp2_with (first
      | (go_at_call 80; refine CB.mono ?_; rintro e w' ⟨rfl, rfl⟩)
      | (go_at_call 70; refine CN.mono ?_; rintro e w' ⟨rfl, rfl⟩))
    go_ret
    refine ⟨?_, rfl⟩
    have := hM.out
    congr 2
open Go.RowKit
theorem n_nat (f n : Nat) (h1 : 1 ≤ f) (h4 : f ≤ 4) (hn : n = 3 * f + 1) (V : World) : Calls Try.prog 70 #[.int .i64 (f : Nat)] V fun e w' => e = .returned (.int .i64 (n : Nat)) ∧ Below V.heap.size V w' := by
  refine (n_any f V).mono ?_
  rintro e w' ⟨rfl, rfl⟩
  rw [nF_t 3 (okF_t (by omega) (by omega)), hn]
  exact ⟨by congr 2, Below.refl _ _⟩
set_option maxRecDepth 100000 in
set_option maxHeartbeats 4000000 in
theorem add_zero (w : World) (p f : Nat) (l : List VT) (h : QS w p f l) (ao bo co : Option Addr) (n1 cap n2 cap2 n3 cap3 : Nat) :
    Calls Try.prog 53 #[.pointer (some ⟨p, 0, none⟩), .agg #[.int .u64 0, .slice ao n1 cap, .slice bo n2 cap2], .slice co n3 cap3] w fun x w' => x = .returned (.int .i64 15) ∧ Below w.heap.size w w' := by
  have hN : QS (w.alloc (.cells #[.int .u64 0, .slice ao n1 cap, .slice bo n2 cap2] 62)) p f l := h.below ((Below.refl _ _).alloc (Nat.le_refl _) _)
  have B1 : Below w.heap.size w (w.alloc (.cells #[.int .u64 0, .slice ao n1 cap, .slice bo n2 cap2] 62)) := (Below.refl _ _).alloc (Nat.le_refl _) _
  have K1 : Arr (w.alloc (.cells #[.int .u64 0, .slice ao n1 cap, .slice bo n2 cap2] 62)) w.heap.size 62 [.int .u64 0, .slice ao n1 cap, .slice bo n2 cap2] := heap_alloc_new w _
  go_enter Try.func53, Try.ntmps53
  go_wp2_with fail
  obtain ⟨W1, hW1⟩ : ∃ V, V = w.alloc (.cells #[.int .u64 0, .slice ao n1 cap, .slice bo n2 cap2] 62) := ⟨_, rfl⟩
  obtain ⟨N, hNN⟩ : ∃ N, N = w.heap.size := ⟨_, rfl⟩
  rw [← hW1] at hN B1 K1 ⊢
  rw [← hNN] at K1 ⊢
  clear hW1 hNN
  have HC := fun (V : World) (hV : Below W1.heap.size W1 V) => (⟨(World.cell?_of_block (hV.block N K1.lt)).trans (K1.cell 0), (World.cell?_of_block (hV.block p hN.lt)).trans hN.f⟩ : V.cell? ⟨N, 0, none⟩ = some (.int .u64 0) ∧ V.cell? ⟨p, 0, none⟩ = some (.int .i64 (f : Nat)))
  have xHS : Hid (∀ V, Below W1.heap.size W1 V → V.cell? ⟨N, 0, none⟩ = some (.int .u64 0) ∧ V.cell? ⟨p, 0, none⟩ = some (.int .i64 (f : Nat))) := HC
  have xE0 : Below W1.heap.size W1 W1.drew := (Below.refl _ _).drew
  refine wp_region_noPanic ?_
  refine wp_region_held_drew (S := fun V => V.cell? ⟨N, 0, none⟩ = some (.int .u64 0) ∧ V.cell? ⟨p, 0, none⟩ = some (.int .i64 (f : Nat))) (by kernel_rfl) (xHS.out _ xE0) (fun xH0 => ?_)
  obtain ⟨xv0, hv0⟩ : ∃ v, v = W1.drew := ⟨_, rfl⟩
  rw [← hv0] at xH0 xE0 ⊢
  clear hv0
  refine hr_take_w 0 (some 10) (.pointer (some ⟨N, 0, none⟩)) rfl rfl (by kernel_rfl) (by kernel_rfl) (by kernel_rfl) rfl (fun W hW => by obtain ⟨h0, h1⟩ := hW; go_simp) xH0 ?_
  simp only [FL]
  refine hr_take_w 1 (some 11) (.int .u64 0) rfl rfl (by kernel_rfl) (by kernel_rfl) (by kernel_rfl) rfl (fun W hW => by obtain ⟨h0, h1⟩ := hW; go_simp) xH0 ?_
  simp only [FL]
  refine hr_take_w 2 (some 12) (.bool true) rfl rfl (by kernel_rfl) (by kernel_rfl) (by kernel_rfl) rfl (fun W hW => by obtain ⟨h0, h1⟩ := hW; go_simp) xH0 ?_
  simp only [FL]
  refine hr_take_w 3 (some 13) (.bool true) rfl rfl (by kernel_rfl) (by kernel_rfl) (by kernel_rfl) rfl (fun W hW => by obtain ⟨h0, h1⟩ := hW; go_simp) xH0 ?_
  simp only [FL]
  refine hr_none 4 (some 14) rfl rfl (by kernel_rfl) (by kernel_rfl) (by kernel_rfl) rfl xH0 ?_
  simp only [FL]
  refine hr_none 5 (some 15) rfl rfl (by kernel_rfl) (by kernel_rfl) (by kernel_rfl) rfl xH0 ?_
  simp only [FL]
  refine hr_none 6 (some 16) rfl rfl (by kernel_rfl) (by kernel_rfl) (by kernel_rfl) rfl xH0 ?_
  simp only [FL]
  refine hr_none 7 (some 17) rfl rfl (by kernel_rfl) (by kernel_rfl) (by kernel_rfl) rfl xH0 ?_
  simp only [FL]
  refine hr_none 8 (some 18) rfl rfl (by kernel_rfl) (by kernel_rfl) (by kernel_rfl) rfl xH0 ?_
  simp only [FL]
  refine hr_none 9 (some 19) rfl rfl (by kernel_rfl) (by kernel_rfl) (by kernel_rfl) rfl xH0 ?_
  simp only [FL]
  refine hr_none 10 (some 20) rfl rfl (by kernel_rfl) (by kernel_rfl) (by kernel_rfl) rfl xH0 ?_
  simp only [FL]
  refine hr_none 11 (some 21) rfl rfl (by kernel_rfl) (by kernel_rfl) (by kernel_rfl) rfl xH0 ?_
  simp only [FL]
  refine hr_none 12 (some 22) rfl rfl (by kernel_rfl) (by kernel_rfl) (by kernel_rfl) rfl xH0 ?_
  simp only [FL]
  refine hr_take_w 13 (some 23) (.bool true) rfl rfl (by kernel_rfl) (by kernel_rfl) (by kernel_rfl) rfl (fun W hW => by obtain ⟨h0, h1⟩ := hW; go_simp) xH0 ?_
  simp only [FL]
  refine wpAnyH_done (by kernel_rfl) ?_ _
  refine NoPanic.normal ?_
  have B2 := B1.trans (xE0.mono B1.size)
  clear HC xHS
  go_wp2
  go_ret
  exact ⟨rfl, B2⟩
set_option maxRecDepth 100000 in
set_option maxHeartbeats 4000000 in
theorem add_over (w : World) (p f : Nat) (l : List VT) (h : QS w p f l) (k n : Nat) (hn : n = 3 * f + 1) (hk : n ≤ k) (hk2 : k + 1 < 18446744073709551616) (ao bo co : Option Addr) (n1 cap n2 cap2 n3 cap3 : Nat) :
    Calls Try.prog 53 #[.pointer (some ⟨p, 0, none⟩), .agg #[.int .u64 ((k : Int) + 1), .slice ao n1 cap, .slice bo n2 cap2], .slice co n3 cap3] w fun x w' => x = .returned (.int .i64 15) ∧ Below w.heap.size w w' := by
  have hN : QS (w.alloc (.cells #[.int .u64 ((k : Int) + 1), .slice ao n1 cap, .slice bo n2 cap2] 62)) p f l := h.below ((Below.refl _ _).alloc (Nat.le_refl _) _)
  have B1 : Below w.heap.size w (w.alloc (.cells #[.int .u64 ((k : Int) + 1), .slice ao n1 cap, .slice bo n2 cap2] 62)) := (Below.refl _ _).alloc (Nat.le_refl _) _
  have K1 : Arr (w.alloc (.cells #[.int .u64 ((k : Int) + 1), .slice ao n1 cap, .slice bo n2 cap2] 62)) w.heap.size 62 [.int .u64 ((k : Int) + 1), .slice ao n1 cap, .slice bo n2 cap2] := heap_alloc_new w _
  go_enter Try.func53, Try.ntmps53
  go_wp2_with fail
  obtain ⟨W1, hW1⟩ : ∃ V, V = w.alloc (.cells #[.int .u64 ((k : Int) + 1), .slice ao n1 cap, .slice bo n2 cap2] 62) := ⟨_, rfl⟩
  obtain ⟨N, hNN⟩ : ∃ N, N = w.heap.size := ⟨_, rfl⟩
  rw [← hW1] at hN B1 K1 ⊢
  rw [← hNN] at K1 ⊢
  clear hW1 hNN
  have HC := fun (V : World) (hV : Below W1.heap.size W1 V) => (⟨(World.cell?_of_block (hV.block N K1.lt)).trans (K1.cell 0), (World.cell?_of_block (hV.block p hN.lt)).trans hN.f⟩ : V.cell? ⟨N, 0, none⟩ = some (.int .u64 ((k : Int) + 1)) ∧ V.cell? ⟨p, 0, none⟩ = some (.int .i64 (f : Nat)))
  have CN := fun (V : World) => n_nat f n h.f1 h.f4 hn V
  have f1 := h.f1
  have f4 := h.f4
  have i1 : (n : Int) ≤ (k : Int) := by omega
  have i2 : (n : Int) ≤ 13 := by omega
  have i3 : (k : Int) + 1 < 18446744073709551616 := by omega
  have i6 : (n : Int) < (k : Int) + 1 := by omega
  have iw : IntKind.u64.wrap (n : Int) = (n : Int) := by rw [IntKind.wrap_u64]; omega
  have i5 : (((k : Int) + 1) == 0) = false := by simp; omega
  clear hk2 hn
  have xHS : Hid (∀ V, Below W1.heap.size W1 V → V.cell? ⟨N, 0, none⟩ = some (.int .u64 ((k : Int) + 1)) ∧ V.cell? ⟨p, 0, none⟩ = some (.int .i64 (f : Nat))) := HC
  have xE0 : Below W1.heap.size W1 W1.drew := (Below.refl _ _).drew
  refine wp_region_noPanic ?_
  refine wp_region_held_drew (S := fun V => V.cell? ⟨N, 0, none⟩ = some (.int .u64 ((k : Int) + 1)) ∧ V.cell? ⟨p, 0, none⟩ = some (.int .i64 (f : Nat))) (by kernel_rfl) (xHS.out _ xE0) (fun xH0 => ?_)
  obtain ⟨xv0, hv0⟩ : ∃ v, v = W1.drew := ⟨_, rfl⟩
  rw [← hv0] at xH0 xE0 ⊢
  clear hv0
  refine hr_take_w 0 (some 10) (.pointer (some ⟨N, 0, none⟩)) rfl rfl (by kernel_rfl) (by kernel_rfl) (by kernel_rfl) rfl (fun W hW => by obtain ⟨h0, h1⟩ := hW; go_simp) xH0 ?_
  simp only [FL]
  refine hr_take_w 1 (some 11) (.int .u64 ((k : Int) + 1)) rfl rfl (by kernel_rfl) (by kernel_rfl) (by kernel_rfl) rfl (fun W hW => by obtain ⟨h0, h1⟩ := hW; go_simp) xH0 ?_
  simp only [FL]
  refine hr_take_w 2 (some 12) (.bool false) rfl rfl (by kernel_rfl) (by kernel_rfl) (by kernel_rfl) rfl (fun W hW => by obtain ⟨h0, h1⟩ := hW; go_simp) xH0 ?_
  simp only [FL]
  refine hr_take_w 3 (some 13) (.bool false) rfl rfl (by kernel_rfl) (by kernel_rfl) (by kernel_rfl) rfl (fun W hW => by obtain ⟨h0, h1⟩ := hW; go_simp) xH0 ?_
  simp only [FL]
  refine hr_take_w 4 (some 14) (.pointer (some ⟨N, 0, none⟩)) rfl rfl (by kernel_rfl) (by kernel_rfl) (by kernel_rfl) rfl (fun W hW => by obtain ⟨h0, h1⟩ := hW; go_simp) xH0 ?_
  simp only [FL]
  refine hr_take_w 5 (some 15) (.int .u64 ((k : Int) + 1)) rfl rfl (by kernel_rfl) (by kernel_rfl) (by kernel_rfl) rfl (fun W hW => by obtain ⟨h0, h1⟩ := hW; go_simp) xH0 ?_
  simp only [FL]
  refine hr_take_w 6 (some 16) (.pointer (some ⟨p, 0, none⟩)) rfl rfl (by kernel_rfl) (by kernel_rfl) (by kernel_rfl) rfl (fun W hW => by obtain ⟨h0, h1⟩ := hW; go_simp) xH0 ?_
  simp only [FL]
  refine hr_take_w 7 (some 17) (.pointer (some ⟨p, 0, none⟩)) rfl rfl (by kernel_rfl) (by kernel_rfl) (by kernel_rfl) rfl (fun W hW => by obtain ⟨h0, h1⟩ := hW; go_simp) xH0 ?_
  simp only [FL]
  refine hr_take_w 8 (some 18) (.pointer (some ⟨p, 0, none⟩)) rfl rfl (by kernel_rfl) (by kernel_rfl) (by kernel_rfl) rfl (fun W hW => by obtain ⟨h0, h1⟩ := hW; go_simp) xH0 ?_
  simp only [FL]
  refine hr_take_w 9 (some 19) (.int .i64 (f : Nat)) rfl rfl (by kernel_rfl) (by kernel_rfl) (by kernel_rfl) rfl (fun W hW => by obtain ⟨h0, h1⟩ := hW; go_simp) xH0 ?_
  simp only [FL]
  refine hr_call_w 10 (some 20) 70 #[.int .i64 (f : Nat)] rfl rfl (by kernel_rfl) rfl (by go_simp) (fun v w' => v = .int .i64 (n : Nat) ∧ Below xv0.heap.size xv0 w') ((CN xv0).mono (by
    rintro e w' ⟨rfl, C⟩
    exact ⟨_, rfl, rfl, C⟩)) ?_
  rintro v xv1 ⟨rfl, xC0⟩
  have xE1 := xE0.trans (xC0.mono xE0.size)
  have xH1 := xHS.out xv1 xE1
  refine ⟨xH1, ?_⟩
  simp only [FL]
  refine hr_take_w 11 (some 21) (.int .u64 (n : Nat)) rfl rfl (by kernel_rfl) (by kernel_rfl) (by kernel_rfl) rfl (fun W hW => by obtain ⟨h0, h1⟩ := hW; go_simp) xH1 ?_
  simp only [FL]
  refine hr_take_w 12 (some 22) (.bool true) rfl rfl (by kernel_rfl) (by kernel_rfl) (by kernel_rfl) rfl (fun W hW => by obtain ⟨h0, h1⟩ := hW; go_simp) xH1 ?_
  simp only [FL]
  refine hr_take_w 13 (some 23) (.bool true) rfl rfl (by kernel_rfl) (by kernel_rfl) (by kernel_rfl) rfl (fun W hW => by obtain ⟨h0, h1⟩ := hW; go_simp) xH1 ?_
  simp only [FL]
  refine wpAnyH_done (by kernel_rfl) ?_ _
  refine NoPanic.normal ?_
  have B2 := B1.trans (xE1.mono B1.size)
  clear HC xHS
  go_wp2
  go_ret
  exact ⟨rfl, B2⟩
set_option maxRecDepth 100000 in
set_option maxHeartbeats 4000000 in
theorem add_again (w : World) (p f : Nat) (l : List VT) (h : QS w p f l) (k n : Nat) (hn : n = 3 * f + 1) (hk : k < n) (his : ∀ hk : k < l.length, l[k].is = true) (ao bo co : Option Addr) (n1 cap n2 cap2 n3 cap3 : Nat) :
    Calls Try.prog 53 #[.pointer (some ⟨p, 0, none⟩), .agg #[.int .u64 ((k : Int) + 1), .slice ao n1 cap, .slice bo n2 cap2], .slice co n3 cap3] w fun x w' => x = .returned (.int .i64 18) ∧ Below w.heap.size w w' := by
  have hN : QS (w.alloc (.cells #[.int .u64 ((k : Int) + 1), .slice ao n1 cap, .slice bo n2 cap2] 62)) p f l := h.below ((Below.refl _ _).alloc (Nat.le_refl _) _)
  have B1 : Below w.heap.size w (w.alloc (.cells #[.int .u64 ((k : Int) + 1), .slice ao n1 cap, .slice bo n2 cap2] 62)) := (Below.refl _ _).alloc (Nat.le_refl _) _
  have K1 : Arr (w.alloc (.cells #[.int .u64 ((k : Int) + 1), .slice ao n1 cap, .slice bo n2 cap2] 62)) w.heap.size 62 [.int .u64 ((k : Int) + 1), .slice ao n1 cap, .slice bo n2 cap2] := heap_alloc_new w _
  go_enter Try.func53, Try.ntmps53
  go_wp2_with fail
  obtain ⟨W1, hW1⟩ : ∃ V, V = w.alloc (.cells #[.int .u64 ((k : Int) + 1), .slice ao n1 cap, .slice bo n2 cap2] 62) := ⟨_, rfl⟩
  obtain ⟨N, hNN⟩ : ∃ N, N = w.heap.size := ⟨_, rfl⟩
  rw [← hW1] at hN B1 K1 ⊢
  rw [← hNN] at K1 ⊢
  clear hW1 hNN
  have HC := fun (V : World) (hV : Below W1.heap.size W1 V) => (⟨(World.cell?_of_block (hV.block N K1.lt)).trans (K1.cell 0), (World.cell?_of_block (hV.block p hN.lt)).trans hN.f⟩ : V.cell? ⟨N, 0, none⟩ = some (.int .u64 ((k : Int) + 1)) ∧ V.cell? ⟨p, 0, none⟩ = some (.int .i64 (f : Nat)))
  have CN := fun (V : World) => n_nat f n h.f1 h.f4 hn V
  have f1 := h.f1
  have f4 := h.f4
  have i1 : (k : Int) < (n : Int) := by omega
  have i2 : (n : Int) ≤ 13 := by omega
  have i4 : (k : Int) ≤ 12 := by omega
  have i6 : (k : Int) + 1 ≤ (n : Int) := by omega
  have iw : IntKind.u64.wrap (n : Int) = (n : Int) := by rw [IntKind.wrap_u64]; omega
  have iv : IntKind.u64.wrap (k : Int) = (k : Int) := by rw [IntKind.wrap_u64]; omega
  have hkf : k < 3 * f + 1 := by omega
  have i5 : (((k : Int) + 1) == 0) = false := by simp; omega
  have hkl : k < l.length := by rw [h.len]; omega
  have i8 : ¬ (13 : Int) ≤ (k : Int) := by omega
  clear hn
  have xHS : Hid (∀ V, Below W1.heap.size W1 V → V.cell? ⟨N, 0, none⟩ = some (.int .u64 ((k : Int) + 1)) ∧ V.cell? ⟨p, 0, none⟩ = some (.int .i64 (f : Nat))) := HC
  have xE0 : Below W1.heap.size W1 W1.drew := (Below.refl _ _).drew
  refine wp_region_noPanic ?_
  refine wp_region_held_drew (S := fun V => V.cell? ⟨N, 0, none⟩ = some (.int .u64 ((k : Int) + 1)) ∧ V.cell? ⟨p, 0, none⟩ = some (.int .i64 (f : Nat))) (by kernel_rfl) (xHS.out _ xE0) (fun xH0 => ?_)
  obtain ⟨xv0, hv0⟩ : ∃ v, v = W1.drew := ⟨_, rfl⟩
  rw [← hv0] at xH0 xE0 ⊢
  clear hv0
  refine hr_take_w 0 (some 10) (.pointer (some ⟨N, 0, none⟩)) rfl rfl (by kernel_rfl) (by kernel_rfl) (by kernel_rfl) rfl (fun W hW => by obtain ⟨h0, h1⟩ := hW; go_simp) xH0 ?_
  simp only [FL]
  refine hr_take_w 1 (some 11) (.int .u64 ((k : Int) + 1)) rfl rfl (by kernel_rfl) (by kernel_rfl) (by kernel_rfl) rfl (fun W hW => by obtain ⟨h0, h1⟩ := hW; go_simp) xH0 ?_
  simp only [FL]
  refine hr_take_w 2 (some 12) (.bool false) rfl rfl (by kernel_rfl) (by kernel_rfl) (by kernel_rfl) rfl (fun W hW => by obtain ⟨h0, h1⟩ := hW; go_simp) xH0 ?_
  simp only [FL]
  refine hr_take_w 3 (some 13) (.bool false) rfl rfl (by kernel_rfl) (by kernel_rfl) (by kernel_rfl) rfl (fun W hW => by obtain ⟨h0, h1⟩ := hW; go_simp) xH0 ?_
  simp only [FL]
  refine hr_take_w 4 (some 14) (.pointer (some ⟨N, 0, none⟩)) rfl rfl (by kernel_rfl) (by kernel_rfl) (by kernel_rfl) rfl (fun W hW => by obtain ⟨h0, h1⟩ := hW; go_simp) xH0 ?_
  simp only [FL]
  refine hr_take_w 5 (some 15) (.int .u64 ((k : Int) + 1)) rfl rfl (by kernel_rfl) (by kernel_rfl) (by kernel_rfl) rfl (fun W hW => by obtain ⟨h0, h1⟩ := hW; go_simp) xH0 ?_
  simp only [FL]
  refine hr_take_w 6 (some 16) (.pointer (some ⟨p, 0, none⟩)) rfl rfl (by kernel_rfl) (by kernel_rfl) (by kernel_rfl) rfl (fun W hW => by obtain ⟨h0, h1⟩ := hW; go_simp) xH0 ?_
  simp only [FL]
  refine hr_take_w 7 (some 17) (.pointer (some ⟨p, 0, none⟩)) rfl rfl (by kernel_rfl) (by kernel_rfl) (by kernel_rfl) rfl (fun W hW => by obtain ⟨h0, h1⟩ := hW; go_simp) xH0 ?_
  simp only [FL]
  refine hr_take_w 8 (some 18) (.pointer (some ⟨p, 0, none⟩)) rfl rfl (by kernel_rfl) (by kernel_rfl) (by kernel_rfl) rfl (fun W hW => by obtain ⟨h0, h1⟩ := hW; go_simp) xH0 ?_
  simp only [FL]
  refine hr_take_w 9 (some 19) (.int .i64 (f : Nat)) rfl rfl (by kernel_rfl) (by kernel_rfl) (by kernel_rfl) rfl (fun W hW => by obtain ⟨h0, h1⟩ := hW; go_simp) xH0 ?_
  simp only [FL]
  refine hr_call_w 10 (some 20) 70 #[.int .i64 (f : Nat)] rfl rfl (by kernel_rfl) rfl (by go_simp) (fun v w' => v = .int .i64 (n : Nat) ∧ Below xv0.heap.size xv0 w') ((CN xv0).mono (by
    rintro e w' ⟨rfl, C⟩
    exact ⟨_, rfl, rfl, C⟩)) ?_
  rintro v xv1 ⟨rfl, xC0⟩
  have xE1 := xE0.trans (xC0.mono xE0.size)
  have xH1 := xHS.out xv1 xE1
  refine ⟨xH1, ?_⟩
  simp only [FL]
  refine hr_take_w 11 (some 21) (.int .u64 (n : Nat)) rfl rfl (by kernel_rfl) (by kernel_rfl) (by kernel_rfl) rfl (fun W hW => by obtain ⟨h0, h1⟩ := hW; go_simp) xH1 ?_
  simp only [FL]
  refine hr_take_w 12 (some 22) (.bool false) rfl rfl (by kernel_rfl) (by kernel_rfl) (by kernel_rfl) rfl (fun W hW => by obtain ⟨h0, h1⟩ := hW; go_simp) xH1 ?_
  simp only [FL]
  refine hr_take_w 13 (some 23) (.bool false) rfl rfl (by kernel_rfl) (by kernel_rfl) (by kernel_rfl) rfl (fun W hW => by obtain ⟨h0, h1⟩ := hW; go_simp) xH1 ?_
  simp only [FL]
  refine wpAnyH_done (by kernel_rfl) ?_ _
  refine NoPanic.normal ?_
  have B2 := B1.trans (xE1.mono B1.size)
  have Q2 := hN.below xE1
  have K2 := K1.below xE1 K1.lt
  clear HC xHS
  go_wp2_with fail
  have HC2 := fun (V : World) (hV : Below xv1.heap.size xv1 V) => (World.cell?_of_block (hV.block N K2.lt)).trans (K2.cell 0)
  have yHS : Hid (∀ V, Below xv1.heap.size xv1 V → V.cell? ⟨N, 0, none⟩ = some (.int .u64 ((k : Int) + 1))) := HC2
  have yE0 : Below xv1.heap.size xv1 xv1.drew := (Below.refl _ _).drew
  refine wp_region_noPanic ?_
  refine wp_region_held_drew (S := fun V => V.cell? ⟨N, 0, none⟩ = some (.int .u64 ((k : Int) + 1))) (by kernel_rfl) (yHS.out _ yE0) (fun yH0 => ?_)
  obtain ⟨yv0, hv0⟩ : ∃ v, v = xv1.drew := ⟨_, rfl⟩
  rw [← hv0] at yH0 yE0 ⊢
  clear hv0
  refine hr_take_w 0 (some 24) (.pointer (some ⟨p, 0, none⟩)) rfl rfl (by kernel_rfl) (by kernel_rfl) (by kernel_rfl) rfl (fun W hW => by go_simp) yH0 ?_
  simp only [FL]
  refine hr_take_w 1 (some 25) (.pointer (some ⟨N, 0, none⟩)) rfl rfl (by kernel_rfl) (by kernel_rfl) (by kernel_rfl) rfl (fun W hW => by go_simp) yH0 ?_
  simp only [FL]
  refine hr_take_w 2 (some 26) (.int .u64 ((k : Int) + 1)) rfl rfl (by kernel_rfl) (by kernel_rfl) (by kernel_rfl) rfl (fun W hW => by go_simp) yH0 ?_
  simp only [FL]
  refine hr_take_w 3 (some 27) (.int .u64 (k : Nat)) rfl rfl (by kernel_rfl) (by kernel_rfl) (by kernel_rfl) rfl (fun W hW => by go_simp) yH0 ?_
  simp only [FL]
  refine hr_take_w 4 (some 28) (.pointer (some ⟨p, 0, none⟩)) rfl rfl (by kernel_rfl) (by kernel_rfl) (by kernel_rfl) rfl (fun W hW => by go_simp) yH0 ?_
  simp only [FL]
  refine hr_take_w 5 (some 29) (.pointer (some ⟨p, 1, none⟩)) rfl rfl (by kernel_rfl) (by kernel_rfl) (by kernel_rfl) rfl (fun W hW => by go_simp) yH0 ?_
  simp only [FL]
  refine hr_take_w 6 (some 30) (.pointer (some ⟨p, 1 + k * 4, none⟩)) rfl rfl (by kernel_rfl) (by kernel_rfl) (by kernel_rfl) rfl (fun W hW => by go_simp) yH0 ?_
  simp only [FL]
  refine hr_take_w 7 (some 7) (.pointer (some ⟨p, 1 + k * 4, none⟩)) rfl rfl (by kernel_rfl) (by kernel_rfl) (by kernel_rfl) rfl (fun W hW => by go_simp) yH0 ?_
  simp only [FL]
  refine wpAnyH_done (by kernel_rfl) ?_ _
  refine NoPanic.normal ?_
  have B3 := B2.trans (yE0.mono B2.size)
  have Q3 := Q2.below yE0
  have K3 := K2.below yE0 K2.lt
  have q0 : yv0.cell? ⟨p, 1 + k * 4, none⟩ = some (.bool l[k].is) := Q3.cells k 0 hkl (by omega)
  clear HC2 yHS K2 Q2
  rw [his hkl] at q0
  clear his
  go_wp2
  go_ret
  exact ⟨rfl, B3⟩
set_option maxRecDepth 100000 in
set_option maxHeartbeats 4000000 in
theorem add_ok (w : World) (p f : Nat) (l : List VT) (h : QS w p f l) (k n : Nat) (hn : n = 3 * f + 1) (hk : k < n) (his : ∀ hk : k < l.length, l[k].is = false) (ao bo co : Option Addr) (n1 cap n2 cap2 n3 cap3 : Nat) (xs ys zs : List Int) (S1 : Sl w ao n1 cap xs) (S2 : Sl w bo n2 cap2 ys) (S3 : Sl w co n3 cap3 zs) (b1 : n1 ≤ 1000000) (b2 : n2 ≤ 1000000) (b3 : n3 ≤ 1000000) :
    Calls Try.prog 53 #[.pointer (some ⟨p, 0, none⟩), .agg #[.int .u64 ((k : Int) + 1), .slice ao n1 cap, .slice bo n2 cap2], .slice co n3 cap3] w fun x w' => x = .returned (.int .i64 0) ∧ QS w' p f (l.set k ⟨true, strOfNums zs, strOfNums xs, strOfNums ys⟩) ∧ w.grownBy w' (some p) := by
  have hN : QS (w.alloc (.cells #[.int .u64 ((k : Int) + 1), .slice ao n1 cap, .slice bo n2 cap2] 62)) p f l := h.below ((Below.refl _ _).alloc (Nat.le_refl _) _)
  have B1 : Below w.heap.size w (w.alloc (.cells #[.int .u64 ((k : Int) + 1), .slice ao n1 cap, .slice bo n2 cap2] 62)) := (Below.refl _ _).alloc (Nat.le_refl _) _
  have K1 : Arr (w.alloc (.cells #[.int .u64 ((k : Int) + 1), .slice ao n1 cap, .slice bo n2 cap2] 62)) w.heap.size 62 [.int .u64 ((k : Int) + 1), .slice ao n1 cap, .slice bo n2 cap2] := heap_alloc_new w _
  go_enter Try.func53, Try.ntmps53
  go_wp2_with fail
  obtain ⟨W1, hW1⟩ : ∃ V, V = w.alloc (.cells #[.int .u64 ((k : Int) + 1), .slice ao n1 cap, .slice bo n2 cap2] 62) := ⟨_, rfl⟩
  obtain ⟨N, hNN⟩ : ∃ N, N = w.heap.size := ⟨_, rfl⟩
  rw [← hW1] at hN B1 K1 ⊢
  rw [← hNN] at K1 ⊢
  clear hW1 hNN
  have HC := fun (V : World) (hV : Below W1.heap.size W1 V) => (⟨(World.cell?_of_block (hV.block N K1.lt)).trans (K1.cell 0), (World.cell?_of_block (hV.block p hN.lt)).trans hN.f⟩ : V.cell? ⟨N, 0, none⟩ = some (.int .u64 ((k : Int) + 1)) ∧ V.cell? ⟨p, 0, none⟩ = some (.int .i64 (f : Nat)))
  have CN := fun (V : World) => n_nat f n h.f1 h.f4 hn V
  have f1 := h.f1
  have f4 := h.f4
  have i1 : (k : Int) < (n : Int) := by omega
  have i2 : (n : Int) ≤ 13 := by omega
  have i4 : (k : Int) ≤ 12 := by omega
  have i6 : (k : Int) + 1 ≤ (n : Int) := by omega
  have iw : IntKind.u64.wrap (n : Int) = (n : Int) := by rw [IntKind.wrap_u64]; omega
  have iv : IntKind.u64.wrap (k : Int) = (k : Int) := by rw [IntKind.wrap_u64]; omega
  have hkf : k < 3 * f + 1 := by omega
  have i5 : (((k : Int) + 1) == 0) = false := by simp; omega
  have hkl : k < l.length := by rw [h.len]; omega
  have i8 : ¬ (13 : Int) ≤ (k : Int) := by omega
  clear hn
  have xHS : Hid (∀ V, Below W1.heap.size W1 V → V.cell? ⟨N, 0, none⟩ = some (.int .u64 ((k : Int) + 1)) ∧ V.cell? ⟨p, 0, none⟩ = some (.int .i64 (f : Nat))) := HC
  have xE0 : Below W1.heap.size W1 W1.drew := (Below.refl _ _).drew
  refine wp_region_noPanic ?_
  refine wp_region_held_drew (S := fun V => V.cell? ⟨N, 0, none⟩ = some (.int .u64 ((k : Int) + 1)) ∧ V.cell? ⟨p, 0, none⟩ = some (.int .i64 (f : Nat))) (by kernel_rfl) (xHS.out _ xE0) (fun xH0 => ?_)
  obtain ⟨xv0, hv0⟩ : ∃ v, v = W1.drew := ⟨_, rfl⟩
  rw [← hv0] at xH0 xE0 ⊢
  clear hv0
  refine hr_take_w 0 (some 10) (.pointer (some ⟨N, 0, none⟩)) rfl rfl (by kernel_rfl) (by kernel_rfl) (by kernel_rfl) rfl (fun W hW => by obtain ⟨h0, h1⟩ := hW; go_simp) xH0 ?_
  simp only [FL]
  refine hr_take_w 1 (some 11) (.int .u64 ((k : Int) + 1)) rfl rfl (by kernel_rfl) (by kernel_rfl) (by kernel_rfl) rfl (fun W hW => by obtain ⟨h0, h1⟩ := hW; go_simp) xH0 ?_
  simp only [FL]
  refine hr_take_w 2 (some 12) (.bool false) rfl rfl (by kernel_rfl) (by kernel_rfl) (by kernel_rfl) rfl (fun W hW => by obtain ⟨h0, h1⟩ := hW; go_simp) xH0 ?_
  simp only [FL]
  refine hr_take_w 3 (some 13) (.bool false) rfl rfl (by kernel_rfl) (by kernel_rfl) (by kernel_rfl) rfl (fun W hW => by obtain ⟨h0, h1⟩ := hW; go_simp) xH0 ?_
  simp only [FL]
  refine hr_take_w 4 (some 14) (.pointer (some ⟨N, 0, none⟩)) rfl rfl (by kernel_rfl) (by kernel_rfl) (by kernel_rfl) rfl (fun W hW => by obtain ⟨h0, h1⟩ := hW; go_simp) xH0 ?_
  simp only [FL]
  refine hr_take_w 5 (some 15) (.int .u64 ((k : Int) + 1)) rfl rfl (by kernel_rfl) (by kernel_rfl) (by kernel_rfl) rfl (fun W hW => by obtain ⟨h0, h1⟩ := hW; go_simp) xH0 ?_
  simp only [FL]
  refine hr_take_w 6 (some 16) (.pointer (some ⟨p, 0, none⟩)) rfl rfl (by kernel_rfl) (by kernel_rfl) (by kernel_rfl) rfl (fun W hW => by obtain ⟨h0, h1⟩ := hW; go_simp) xH0 ?_
  simp only [FL]
  refine hr_take_w 7 (some 17) (.pointer (some ⟨p, 0, none⟩)) rfl rfl (by kernel_rfl) (by kernel_rfl) (by kernel_rfl) rfl (fun W hW => by obtain ⟨h0, h1⟩ := hW; go_simp) xH0 ?_
  simp only [FL]
  refine hr_take_w 8 (some 18) (.pointer (some ⟨p, 0, none⟩)) rfl rfl (by kernel_rfl) (by kernel_rfl) (by kernel_rfl) rfl (fun W hW => by obtain ⟨h0, h1⟩ := hW; go_simp) xH0 ?_
  simp only [FL]
  refine hr_take_w 9 (some 19) (.int .i64 (f : Nat)) rfl rfl (by kernel_rfl) (by kernel_rfl) (by kernel_rfl) rfl (fun W hW => by obtain ⟨h0, h1⟩ := hW; go_simp) xH0 ?_
  simp only [FL]
  refine hr_call_w 10 (some 20) 70 #[.int .i64 (f : Nat)] rfl rfl (by kernel_rfl) rfl (by go_simp) (fun v w' => v = .int .i64 (n : Nat) ∧ Below xv0.heap.size xv0 w') ((CN xv0).mono (by
    rintro e w' ⟨rfl, C⟩
    exact ⟨_, rfl, rfl, C⟩)) ?_
  rintro v xv1 ⟨rfl, xC0⟩
  have xE1 := xE0.trans (xC0.mono xE0.size)
  have xH1 := xHS.out xv1 xE1
  refine ⟨xH1, ?_⟩
  simp only [FL]
  refine hr_take_w 11 (some 21) (.int .u64 (n : Nat)) rfl rfl (by kernel_rfl) (by kernel_rfl) (by kernel_rfl) rfl (fun W hW => by obtain ⟨h0, h1⟩ := hW; go_simp) xH1 ?_
  simp only [FL]
  refine hr_take_w 12 (some 22) (.bool false) rfl rfl (by kernel_rfl) (by kernel_rfl) (by kernel_rfl) rfl (fun W hW => by obtain ⟨h0, h1⟩ := hW; go_simp) xH1 ?_
  simp only [FL]
  refine hr_take_w 13 (some 23) (.bool false) rfl rfl (by kernel_rfl) (by kernel_rfl) (by kernel_rfl) rfl (fun W hW => by obtain ⟨h0, h1⟩ := hW; go_simp) xH1 ?_
  simp only [FL]
  refine wpAnyH_done (by kernel_rfl) ?_ _
  refine NoPanic.normal ?_
  have B2 := B1.trans (xE1.mono B1.size)
  have Q2 := hN.below xE1
  have K2 := K1.below xE1 K1.lt
  clear HC xHS
  go_wp2_with fail
  have HC2 := fun (V : World) (hV : Below xv1.heap.size xv1 V) => (World.cell?_of_block (hV.block N K2.lt)).trans (K2.cell 0)
  have yHS : Hid (∀ V, Below xv1.heap.size xv1 V → V.cell? ⟨N, 0, none⟩ = some (.int .u64 ((k : Int) + 1))) := HC2
  have yE0 : Below xv1.heap.size xv1 xv1.drew := (Below.refl _ _).drew
  refine wp_region_noPanic ?_
  refine wp_region_held_drew (S := fun V => V.cell? ⟨N, 0, none⟩ = some (.int .u64 ((k : Int) + 1))) (by kernel_rfl) (yHS.out _ yE0) (fun yH0 => ?_)
  obtain ⟨yv0, hv0⟩ : ∃ v, v = xv1.drew := ⟨_, rfl⟩
  rw [← hv0] at yH0 yE0 ⊢
  clear hv0
  refine hr_take_w 0 (some 24) (.pointer (some ⟨p, 0, none⟩)) rfl rfl (by kernel_rfl) (by kernel_rfl) (by kernel_rfl) rfl (fun W hW => by go_simp) yH0 ?_
  simp only [FL]
  refine hr_take_w 1 (some 25) (.pointer (some ⟨N, 0, none⟩)) rfl rfl (by kernel_rfl) (by kernel_rfl) (by kernel_rfl) rfl (fun W hW => by go_simp) yH0 ?_
  simp only [FL]
  refine hr_take_w 2 (some 26) (.int .u64 ((k : Int) + 1)) rfl rfl (by kernel_rfl) (by kernel_rfl) (by kernel_rfl) rfl (fun W hW => by go_simp) yH0 ?_
  simp only [FL]
  refine hr_take_w 3 (some 27) (.int .u64 (k : Nat)) rfl rfl (by kernel_rfl) (by kernel_rfl) (by kernel_rfl) rfl (fun W hW => by go_simp) yH0 ?_
  simp only [FL]
  refine hr_take_w 4 (some 28) (.pointer (some ⟨p, 0, none⟩)) rfl rfl (by kernel_rfl) (by kernel_rfl) (by kernel_rfl) rfl (fun W hW => by go_simp) yH0 ?_
  simp only [FL]
  refine hr_take_w 5 (some 29) (.pointer (some ⟨p, 1, none⟩)) rfl rfl (by kernel_rfl) (by kernel_rfl) (by kernel_rfl) rfl (fun W hW => by go_simp) yH0 ?_
  simp only [FL]
  refine hr_take_w 6 (some 30) (.pointer (some ⟨p, 1 + k * 4, none⟩)) rfl rfl (by kernel_rfl) (by kernel_rfl) (by kernel_rfl) rfl (fun W hW => by go_simp) yH0 ?_
  simp only [FL]
  refine hr_take_w 7 (some 7) (.pointer (some ⟨p, 1 + k * 4, none⟩)) rfl rfl (by kernel_rfl) (by kernel_rfl) (by kernel_rfl) rfl (fun W hW => by go_simp) yH0 ?_
  simp only [FL]
  refine wpAnyH_done (by kernel_rfl) ?_ _
  refine NoPanic.normal ?_
  have B3 := B2.trans (yE0.mono B2.size)
  have Q3 := Q2.below yE0
  have K3 := K2.below yE0 K2.lt
  have q0 : yv0.cell? ⟨p, 1 + k * 4, none⟩ = some (.bool l[k].is) := Q3.cells k 0 hkl (by omega)
  clear HC2 yHS K2 Q2
  rw [his hkl] at q0
  clear his
  have ca := conv_str (S1.below B3)
  have cb := conv_str (S2.below B3)
  have cc := conv_str (S3.below B3)
  have k1 := K3.cell 1
  have k2 := K3.cell 2
  have vok : VT.ok ⟨true, strOfNums zs, strOfNums xs, strOfNums ys⟩ := ⟨by rw [strOfNums_size, S3.len]; exact b3, by rw [strOfNums_size, S1.len]; exact b1, by rw [strOfNums_size, S2.len]; exact b2⟩
  have Q4 := Q3.set k hkf _ vok
  have G4 := gro_trans (bel_grown B3 (some p)) (grown_cells yv0 p (1 + k * 4) [.bool true, .string (strOfNums zs), .string (strOfNums xs), .string (strOfNums ys)])
  have HTH : Hid (yv0.there p (1 + k * 4) 4) := Q3.there k hkl
  clear S1 S2 S3 b1 b2 b3 Q3 K3 hN K1 B1 B2 B3 vok h CN
  go_wp2_with (refine stop_at (.store 116 (Operand.tmp 45) (Operand.tmp 44)) rfl ?_)
  refine ⟨?_⟩
  refine wpList_store_mid rfl 116 (Operand.tmp 45) (Operand.tmp 44) rfl p (1 + k * 4) #[.bool true, .string (strOfNums zs), .string (strOfNums xs), .string (strOfNums ys)] rfl rfl HTH.out size1 (all_oneCell_toArray (v_one ⟨true, strOfNums zs, strOfNums xs, strOfNums ys⟩)) ?_
  go_wp2
  go_ret
  exact ⟨rfl, Q4, G4⟩
open Go.RowKit
def noVotes : List VT := List.replicate 13 zVT
theorem new_good (w : World) (f : Nat) (h1 : 1 ≤ f) (h4 : f ≤ 4) : Calls Try.prog 75 #[.int .i64 (f : Nat)] w fun x w' => ∃ p, x = .returned (.tuple #[.pointer (some ⟨p, 0, none⟩), .int .i64 0]) ∧ w.heap.size ≤ p ∧ QS w' p f noVotes ∧ Below w.heap.size w w' := by
  have CB := canBe_any f w
  rw [okF_t (by omega) (by omega)] at CB
  have HQ : ∀ W : World, W.heap[w.heap.size]? = some (.cells (.int .i64 f :: cellsV noVotes).toArray 119) → QS W w.heap.size f noVotes := fun W hW => ⟨hW, by simp [noVotes], h1, h4, fun v hv => by
    have := (List.mem_replicate.1 hv).2
    rw [this]
    exact zVT_ok, fun i hi _ => by
    have e : noVotes[i] = zVT := List.getElem_replicate _
    rw [e]
    rfl⟩
  go_enter Try.func75, Try.ntmps75
  go_wp2_with (go_at_call 80; refine CB.mono ?_; rintro e w' ⟨rfl, hw⟩; obtain rfl := hw.symm; clear hw)
  go_ret2
  exact ⟨_, rfl, Nat.le_refl _, HQ _ (heap_alloc_new w _), (Below.refl _ _).alloc (Nat.le_refl _) _⟩
open Go.RowKit
def addV (f : Nat) (l : List VT) (fr : Nat) (v : VT) : List VT × Int :=
  if fr = 0 ∨ 3 * f + 1 < fr then (l, 15) else if (l[fr - 1]?.map VT.is).getD false = true then (l, 18) else (l.set (fr - 1) v, 0)
theorem addV_out {f : Nat} {l : List VT} {fr : Nat} {v : VT} (h : fr = 0 ∨ 3 * f + 1 < fr) : addV f l fr v = (l, 15) := by unfold addV; rw [if_pos h]
theorem addV_again {f : Nat} {l : List VT} {k : Nat} {v : VT} (h : k < 3 * f + 1) (hk : k < l.length) (hi : l[k].is = true) : addV f l (k + 1) v = (l, 18) := by
  unfold addV
  rw [if_neg (by omega), Nat.add_sub_cancel, if_pos (by rw [List.getElem?_eq_getElem hk]; exact hi)]
theorem addV_ok {f : Nat} {l : List VT} {k : Nat} {v : VT} (h : k < 3 * f + 1) (hk : k < l.length) (hi : l[k].is = false) : addV f l (k + 1) v = (l.set k v, 0) := by
  unfold addV
  rw [if_neg (by omega), Nat.add_sub_cancel, if_neg (by rw [List.getElem?_eq_getElem hk]; show ¬ l[k].is = true; rw [hi]; simp)]
theorem add_any (w : World) (p f : Nat) (l : List VT) (h : QS w p f l) (fr : Nat) (hfr : fr < 18446744073709551616) (ao bo co : Option Addr) (n1 cap n2 cap2 n3 cap3 : Nat) (xs ys zs : List Int) (S1 : Sl w ao n1 cap xs) (S2 : Sl w bo n2 cap2 ys) (S3 : Sl w co n3 cap3 zs) (b1 : n1 ≤ 1000000) (b2 : n2 ≤ 1000000) (b3 : n3 ≤ 1000000) :
    Calls Try.prog 53 #[.pointer (some ⟨p, 0, none⟩), .agg #[.int .u64 (fr : Nat), .slice ao n1 cap, .slice bo n2 cap2], .slice co n3 cap3] w fun x w' =>
      x = .returned (.int .i64 (addV f l fr ⟨true, strOfNums zs, strOfNums xs, strOfNums ys⟩).2) ∧ QS w' p f (addV f l fr ⟨true, strOfNums zs, strOfNums xs, strOfNums ys⟩).1 ∧ w.grownBy w' (some p) := by
  match fr, hfr with
  | 0, _ =>
    rw [addV_out (.inl rfl)]
    refine (add_zero w p f l h ao bo co n1 cap n2 cap2 n3 cap3).mono ?_
    rintro x w' ⟨rfl, C⟩
    exact ⟨rfl, h.below C, bel_grown C _⟩
  | k + 1, hfr =>
    by_cases hk : 3 * f + 1 ≤ k
    · rw [addV_out (.inr (by omega))]
      refine (add_over w p f l h k _ rfl hk hfr ao bo co n1 cap n2 cap2 n3 cap3).mono ?_
      rintro x w' ⟨rfl, C⟩
      exact ⟨rfl, h.below C, bel_grown C _⟩
    · have hk2 : k < 3 * f + 1 := by omega
      have f4 := h.f4
      have hkl : k < l.length := by rw [h.len]; omega
      cases hi : l[k].is with
      | true =>
        rw [addV_again hk2 hkl hi]
        refine (add_again w p f l h k _ rfl hk2 (fun _ => hi) ao bo co n1 cap n2 cap2 n3 cap3).mono ?_
        rintro x w' ⟨rfl, C⟩
        exact ⟨rfl, h.below C, bel_grown C _⟩
      | false =>
        rw [addV_ok hk2 hkl hi]
        refine (add_ok w p f l h k _ rfl hk2 (fun _ => hi) ao bo co n1 cap n2 cap2 n3 cap3 xs ys zs S1 S2 S3 b1 b2 b3).mono ?_
        rintro x w' ⟨rfl, Q, G⟩
        exact ⟨rfl, Q, G⟩
end Go.Proofs.Ytbpbcmbcoffdlaa

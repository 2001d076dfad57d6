/-
  Proof: the first signed texts of the votes for a word.
-/
import Derived.Test.YtghemebgkhopnaaQuCount2
import Derived.Test.YtghemebgkhopnaaConv
import Derived.Test.YtghemebgkhopnaaAppG
import Derived.Test.YtghemebgkhopnaaCKind
namespace Go.Proofs.Ytghemebgkhopnaa
open Go.RowKit

/-- The signed texts of the votes for a word, the first vote that of replica i + 1. -/
def prfV (s : ByteArray) : Nat → List VT → List SV
  | _, [] => []
  | i, v :: l => if v.fo s = true then ⟨i + 1, sb v.body, sb v.tag⟩ :: prfV s (i + 1) l else prfV s (i + 1) l
theorem prfV_len (s : ByteArray) : ∀ (l : List VT) (i : Nat), (prfV s i l).length = cntV s l
  | [], _ => rfl
  | v :: l, i => by
    have h := prfV_len s l (i + 1)
    unfold cntV at h ⊢
    unfold prfV
    simp only [List.filter_cons]
    split
    · rw [List.length_cons, List.length_cons, h]
    · exact h
theorem prfV_app (s : ByteArray) (v : VT) : ∀ (l : List VT) (i : Nat), prfV s i (l ++ [v]) = prfV s i l ++ (if v.fo s = true then [⟨i + l.length + 1, sb v.body, sb v.tag⟩] else [])
  | [], i => by
    show prfV s i [v] = _
    unfold prfV
    simp only [prfV, List.length_nil, Nat.add_zero, List.nil_append]
  | u :: l, i => by
    have h := prfV_app s v l (i + 1)
    rw [List.cons_append]
    unfold prfV
    rw [h, List.length_cons, show i + 1 + l.length + 1 = i + (l.length + 1) + 1 from by omega]
    split
    · rw [List.cons_append]
    · rfl
/-- What Proof answers. -/
def prfN (s : ByteArray) (l : List VT) (n : Int) : List SV := if n < 1 ∨ (cntV s l : Int) < n then [] else (prfV s 0 l).take n.toNat
def PfPost (w : World) (s : ByteArray) (l : List VT) (n : Int) (x : Ending) (w' : World) : Prop :=
  ∃ ao m cap ys, x = .returned (.slice ao m cap) ∧ GL elS w' ao m cap ys ∧ ys.map SA.v = prfN s l n ∧ Below w.heap.size w w'
theorem proof_low (w : World) (p : Value) (v : Value) (s : ByteArray) (l : List VT) (n : Int) (hn : n < 1) : Calls Try.prog 27 #[p, v, .int .i64 n] w (PfPost w s l n) := by
  go_enter Try.func27, Try.ntmps27
  go_wp2
  go_ret
  exact ⟨none, 0, 0, [], rfl, GL.nothing _ _, by unfold prfN; rw [if_pos (.inl hn)]; rfl, Below.refl _ _⟩
theorem proof_nil (w : World) (v : Value) (n : Int) : Calls Try.prog 27 #[.pointer none, v, .int .i64 n] w fun x w' => x = .returned (.slice none 0 0) ∧ w' = w := by
  have CC := count_nil w v
  by_cases hn : n < 1
  · go_enter Try.func27, Try.ntmps27
    go_wp2
    go_ret
    exact ⟨rfl, rfl⟩
  · have h1 : 1 ≤ n := by omega
    clear hn
    go_enter Try.func27, Try.ntmps27
    go_wp2_with (go_at_call 21; refine CC.mono ?_; rintro e w' ⟨rfl, rfl⟩)
    go_ret
    exact ⟨rfl, rfl⟩
theorem proof_few (w : World) (p f : Nat) (l : List VT) (h : QS w p f l) (ao : Option Addr) (m cap : Nat) (xs : List Int) (S : Sl w ao m cap xs) (n : Int) (hn : 1 ≤ n) (hc : (cntV (strOfNums xs) l : Int) < n) : Calls Try.prog 27 #[.pointer (some ⟨p, 0, none⟩), .slice ao m cap, .int .i64 n] w (PfPost w (strOfNums xs) l n) := by
  have CC := count_any w p f l h ao m cap xs S
  have HP : Hid (prfN (strOfNums xs) l n = []) := by show _ = _; unfold prfN; rw [if_pos (.inr hc)]
  generalize cntV (strOfNums xs) l = c at CC hc
  generalize strOfNums xs = s at HP ⊢
  go_enter Try.func27, Try.ntmps27
  go_wp2_with fail
  refine CC.mono ?_
  rintro x w1 ⟨rfl, C1⟩
  go_wp2
  go_ret
  exact ⟨none, 0, 0, [], rfl, GL.nothing _ _, by rw [HP.out]; rfl, C1⟩

set_option maxRecDepth 100000 in
set_option maxHeartbeats 4000000 in
theorem proof_many (w : World) (p f : Nat) (l : List VT) (h : QS w p f l) (ao : Option Addr) (m cap : Nat) (xs : List Int) (S : Sl w ao m cap xs) (n : Nat) (hn : 1 ≤ n) (hc : n ≤ cntV (strOfNums xs) l) : Calls Try.prog 27 #[.pointer (some ⟨p, 0, none⟩), .slice ao m cap, .int .i64 (n : Nat)] w (PfPost w (strOfNums xs) l n) := by
  have hlen := h.len
  have hcl : (Try.prog.info? 64).map (·.size) = some (cellsV l).length := by rw [cellsV_len, hlen]; exact sizeV
  have CC := count_any w p f l h ao m cap xs S
  have hc13 : cntV (strOfNums xs) l ≤ 13 := Nat.le_trans (cntV_le _ _) (by omega)
  have HP : Hid (prfN (strOfNums xs) l n = (prfV (strOfNums xs) 0 l).take n) := by show _ = _; unfold prfN; rw [if_neg (by omega)]; rfl
  have HCV : Hid (∀ V, Below w.heap.size w V → (convert 28 9 (.slice ao m cap)).run Try.prog V = .ok (.string (strOfNums xs)) V) := fun V hV => conv_str (S.below hV)
  generalize cntV (strOfNums xs) l = c at CC hc hc13
  generalize strOfNums xs = s at HP HCV ⊢
  have n13 : n ≤ 13 := by omega
  have i1 : (1 : Int) ≤ (n : Int) := by omega
  have i2 : (n : Int) ≤ (c : Int) := by omega
  clear hc hc13
  go_enter Try.func27, Try.ntmps27
  go_wp2_with fail
  refine CC.mono ?_
  rintro x w1 ⟨rfl, C1⟩
  have HR := (h.below C1).row
  clear CC
  go_wp2_with (refine wpList_load_named rfl 64 (Operand.tmp 21) rfl ⟨p, 1, none⟩ rfl (cellsV l) HR aggV hcl ?_; rintro AV hAV0; have hAV : Hid (AV = _) := hAV0; clear hAV0)
  have HIX : Hid (∀ k (hk : k < l.length) W, (Instr.index 64 AV (.int .i64 k)).run Try.prog W = .ok (.agg #[.bool l[k].is, .string l[k].word, .string l[k].body, .string l[k].tag]) W) := fun k hk W => by rw [hAV.out]; exact indexV l hlen k hk W
  clear HR hcl hAV i2 S
  go_loopw [7, 23] (fun v' i wr => ∃ (j : Nat) (v : Value) (ys : List SA), j ≤ 13 ∧ i = .int .i64 j ∧ v = v' ∧ GI elS 40 wr w.heap.size v ys ∧ Hid (ys.map SA.v = (prfV s 0 (l.take j)).take n) ∧ Below w.heap.size w wr) (fun _ i _ => 13 - (intOf i).toNat)
  case atStart => exact ⟨0, _, [], Nat.zero_le _, rfl, rfl, GI.nil _ _ _ _, by show _ = _; simp [prfV], C1⟩
  case round =>
    obtain ⟨j, v, ys, hj, rfl, rfl, GR, HY, B⟩ := hrel
    obtain ⟨vao, vcap, rfl⟩ := GR.slice
    have hsz := B.size
    by_cases hlt : j < 13
    · have hji : (j : Int) < 13 := by omega
      have hjl : j < l.length := by omega
      have HT : Hid (prfV s 0 (l.take (j + 1)) = prfV s 0 (l.take j) ++ (if l[j].fo s = true then [⟨j + 1, sb l[j].body, sb l[j].tag⟩] else [])) := by
        show _ = _
        rw [List.take_succ_eq_append_getElem hjl, prfV_app, List.length_take, show 0 + min j l.length + 1 = j + 1 from by omega]
      have r1 := HIX.out j hjl
      have vok := h.ok _ (List.getElem_mem hjl)
      obtain ⟨u, hu⟩ : ∃ u, u = l[j] := ⟨_, rfl⟩
      rw [← hu] at r1 vok HT
      clear hu HIX hjl
      have C2 : Below wr.heap.size wr (wr.alloc (.cells #[.bool u.is, .string u.word, .string u.body, .string u.tag] 63)) := (Below.refl _ _).alloc (Nat.le_refl _) _
      have B2 := B.trans (C2.mono B.size)
      have GR2 := GR.below elS_fine C2
      have cv := HCV.out _ B2
      have hyl : ys.length = min n (prfV s 0 (l.take j)).length := by have := congrArg List.length HY.out; rw [List.length_map, List.length_take] at this; exact this
      have s2 := B2.size
      clear C2 B GR
      by_cases hfull : n ≤ ys.length
      · have HY2 : Hid (ys.map SA.v = (prfV s 0 (l.take (j + 1))).take n) := by
          show _ = _
          rw [HT.out, HY.out, List.take_append_of_le_length (by omega)]
        have i5 : (n : Int) ≤ (ys.length : Int) := by omega
        clear HY HT hfull hyl cv
        go_wp2
        go_roundw
        case rel => exact ⟨j + 1, _, ys, by omega, by go_num, rfl, GR2, HY2, B2⟩
        case measure => simp [intOf]; omega
      · have HY1 : Hid (ys.map SA.v = prfV s 0 (l.take j)) := by
          show _ = _
          rw [HY.out]
          exact List.take_of_length_le (by omega)
        have hyn : ys.length < n := by omega
        have i5 : (ys.length : Int) < (n : Int) := by omega
        have HYL : Hid (ys.length = (prfV s 0 (l.take j)).length) := by show _ = _; have := congrArg List.length HY1.out; rwa [List.length_map] at this
        clear HY hfull hyl
        cases hfo : u.fo s with
        | false =>
          have HY2 : Hid (ys.map SA.v = (prfV s 0 (l.take (j + 1))).take n) := by
            show _ = _
            rw [HT.out, hfo, if_neg (by simp), List.append_nil, HY1.out]
            exact (List.take_of_length_le (by have := HYL.out; omega)).symm
          cases his : u.is with
          | false =>
            rw [his] at r1 B2 GR2 cv
            clear HY1 HT HYL hfo his
            go_wp2
            go_roundw
            case rel => exact ⟨j + 1, _, ys, by omega, by go_num, rfl, GR2, HY2, B2⟩
            case measure => simp [intOf]; omega
          | true =>
            have hne : (u.word.toList == s.toList) = false := by
              unfold VT.fo at hfo
              rw [his] at hfo
              exact toL_ne (by simpa using hfo)
            rw [his] at r1 B2 GR2 cv
            clear HY1 HT HYL hfo his
            go_wp2
            go_roundw
            case rel => exact ⟨j + 1, _, ys, by omega, by go_num, rfl, GR2, HY2, B2⟩
            case measure => simp [intOf]; omega
        | true =>
          have his : u.is = true := by unfold VT.fo at hfo; cases hh : u.is with | true => rfl | false => rw [hh] at hfo; cases hfo
          have heq : u.word = s := by unfold VT.fo at hfo; rw [his] at hfo; simpa using hfo
          have hE : (u.word.toList == s.toList) = true := by rw [heq]; simp
          have HY2 : Hid (∀ y : SA, y.v = ⟨j + 1, sb u.body, sb u.tag⟩ → (ys ++ [y]).map SA.v = (prfV s 0 (l.take (j + 1))).take n) := fun y hy => by
            have hl := HYL.out
            rw [HT.out, hfo, if_pos rfl, List.take_of_length_le (by rw [List.length_append, List.length_singleton]; omega), List.map_append, HY1.out, List.map_cons, List.map_nil, hy]
          rw [his] at r1 B2 GR2 cv s2
          have vlt : Hid (∀ z, (Value.slice vao ys.length vcap).ownBlock = some z → z < (wr.alloc (.cells #[.bool true, .string u.word, .string u.body, .string u.tag] 63)).heap.size) := fun z hz => (GR2.own.lt z hz).2
          have hb := vok.body
          have ht := vok.tag
          have iw : IntKind.u64.wrap (j : Int) = (j : Int) := by rw [IntKind.wrap_u64]; omega
          clear HY1 HT HYL hfo his heq vok HCV h
          go_wp2_with (refine stop_at (.convert 9 28 (Operand.tmp 47)) rfl ?_)
          refine ⟨?_⟩
          refine wpList_conv_bytes rfl (Operand.tmp 47) rfl u.body rfl (by omega) ?_
          rintro g3 c3 w3 hg30 S3 C3
          have hg3 := Nat.le_of_eq hg30.symm
          clear hg30
          have B3 := B2.trans (C3.mono B2.size)
          have GR3 := GR2.below elS_fine C3
          have k2 : w3.cell? ⟨wr.heap.size, 3, none⟩ = some (.string u.tag) := by
            rw [C3.cell (p := ⟨wr.heap.size, 3, none⟩) (by simp), cell_of_row _ _ 3 _ _ _ (heap_alloc_new wr _)]
            rfl
          clear GR2 B2 r1 cv
          go_wp2_with (refine stop_at (.convert 9 28 (Operand.tmp 50)) rfl ?_)
          refine ⟨?_⟩
          refine wpList_conv_bytes rfl (Operand.tmp 50) rfl u.tag rfl (by omega) ?_
          rintro g4 c4 w4 hg40 S4 C4
          have hg4 := Nat.le_of_eq hg40.symm
          clear hg40
          have B4 := B3.trans (C4.mono B3.size)
          have GR4 := GR3.below elS_fine C4
          have S3 := S3.below C4
          have s3 := C3.size
          clear GR3 B3 k2
          obtain ⟨y, hy⟩ : ∃ y : SA, y = ⟨j + 1, ⟨some ⟨g3, 0, none⟩, u.body.size, c3, sb u.body⟩, ⟨some ⟨g4, 0, none⟩, u.tag.size, c4, sb u.tag⟩⟩ := ⟨_, rfl⟩
          have yok : y.ok w4 := by rw [hy]; exact ⟨by show j + 1 < _; omega, S3, S4⟩
          have C5 : Below w4.heap.size w4 (w4.alloc (.cells #[.int .u64 ((j : Int) + 1), .slice (some ⟨g3, 0, none⟩) u.body.size c3, .slice (some ⟨g4, 0, none⟩) u.tag.size c4] 40)) := (Below.refl _ _).alloc (Nat.le_refl _) _
          have HF : Hid (∀ z, elS.blk y z → (Value.slice vao ys.length vcap).ownBlock ≠ some z) := fun z hz e => by
            have h1 := vlt.out z e
            rw [hy] at hz
            rcases hz with ⟨a, ha, _, rfl⟩ | ⟨a, ha, _, rfl⟩
            · obtain rfl := Option.some.inj ha
              simp only at h1
              omega
            · obtain rfl := Option.some.inj ha
              simp only at h1
              omega
          have HG : Hid (∀ q t, (elS.c y)[q]? = some t → (w4.alloc (.cells #[.int .u64 ((j : Int) + 1), .slice (some ⟨g3, 0, none⟩) u.body.size c3, .slice (some ⟨g4, 0, none⟩) u.tag.size c4] 40)).cell? ((⟨w4.heap.size, 0, none⟩ : Addr).add q) = some t) := fun q t ht => by
            rw [Addr.add_lit, Nat.zero_add, cell_of_row _ _ q _ _ _ (heap_alloc_new _ _)]
            rw [hy] at ht
            simpa [elS, SA.cells] using ht
          have HYV := HY2.out y (by rw [hy]; rfl)
          have HYV2 : Hid ((ys ++ [y]).map SA.v = (prfV s 0 (l.take (j + 1))).take n) := HYV
          have GR5 := GR4.below elS_fine C5
          have yok5 : elS.ok y (w4.alloc (.cells #[.int .u64 ((j : Int) + 1), .slice (some ⟨g3, 0, none⟩) u.body.size c3, .slice (some ⟨g4, 0, none⟩) u.tag.size c4] 40)) := yok.below C5
          have B5 := B4.trans (C5.mono B4.size)
          have hb5 := B5.size
          clear hy HYV HY2 S3 S4 vlt yok GR4 C3 C4 C5 B4 s3 hg3 hg4
          go_wp2_with (refine stop_at (.call { callee := .builtin .append, args := #[Operand.tmp 42, Operand.tmp 53], argTypes := #[49, 49] }) rfl ?_)
          refine ⟨?_⟩
          refine wpList_appG elS_fine tyS rfl (.tmp 42) (.tmp 53) rfl GR5 rfl rfl HG.out yok5 HF.out (by omega) (by unfold maxLen; omega) hb5 ?_
          intro v6 w6 GR6 B6
          have B7 := B5.trans B6
          clear GR5 yok5 HF HG B5 hb5
          go_wp2
          go_roundw
          case rel => exact ⟨j + 1, v6, ys ++ [y], by omega, by go_num, rfl, GR6, HYV2, B7⟩
          case measure => simp [intOf]; omega
    · have hge : ¬ (j : Int) < 13 := by omega
      have HT : Hid (l.take j = l) := List.take_of_length_le (by omega)
      rw [HT.out] at HY
      obtain ⟨ao2, cap2, e, GLx, _⟩ := GR.gl elS_fine
      simp only [Value.slice.injEq] at e
      obtain ⟨rfl, -, rfl⟩ := e
      go_wp2
      go_ret
      exact ⟨_, _, _, ys, rfl, GLx, by rw [HP.out]; exact HY.out, B⟩
end Go.Proofs.Ytghemebgkhopnaa

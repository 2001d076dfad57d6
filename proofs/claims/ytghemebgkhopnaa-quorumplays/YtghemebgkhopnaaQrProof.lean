/-
  The reference's Proof, Enough.
-/
import Derived.Test.YtghemebgkhopnaaQuVotes
import Derived.Test.YtghemebgkhopnaaAppG
import Derived.Test.YtghemebgkhopnaaGNew
import Derived.Test.YtghemebgkhopnaaSame
import Derived.Test.YtghemebgkhopnaaCStr
namespace Go.Proofs.Ytghemebgkhopnaa
open Go.RowKit

/-- The votes for a word. -/
def forW (ws : List Int) (l : List VA) : List VA := l.filter fun v => decide (v.word.xs = ws)
theorem forW_snoc (ws : List Int) (l : List VA) (v : VA) : forW ws (l ++ [v]) = forW ws l ++ (if v.word.xs = ws then [v] else []) := by
  unfold forW
  rw [List.filter_append]
  congr 1
  simp only [List.filter_cons, List.filter_nil, decide_eq_true_eq]
theorem forW_le (ws : List Int) (l : List VA) : (forW ws l).length ≤ l.length := List.length_filter_le _ _
theorem tyS13 : GTy elS.sz 56 (.agg #[.int .u64 0, .slice none 0 0, .slice none 0 0]) 34 42 := ⟨by kernel_rfl, rfl, Try.underlying42⟩
theorem aggS (w : World) : (isAgg 34).run Try.prog w = .ok true w := by
  simp [isAgg, run_underlying Try.underlying34 w]
set_option maxHeartbeats 8000000 in
set_option maxRecDepth 100000 in
theorem rproof_any (w : World) (ao : Option Addr) (n cap : Nat) (l : List VA) (L : GL elV w ao n cap l) (wo : Option Addr) (wn wc : Nat) (ws : List Int) (SW : Sl w wo wn wc ws) (hn : n ≤ 1000) :
    Calls Try.prog 22 #[.slice ao n cap, .slice wo wn wc] w fun e w' => ∃ ro m rc, e = .returned (.slice ro m rc) ∧ GL elS w' ro m rc ((forW ws l).map VA.s) ∧ Below w.heap.size w w' := by
  have hl1 := Nat.le_of_eq L.len
  have hl2 := Nat.le_of_eq L.len.symm
  have HOK : Hid (∀ x ∈ l, elV.ok x w) := L.ok
  go_enter Try.func22, Try.ntmps22
  go_wp2
  go_loopw [5, 6] (fun v' i wr => ∃ (k : Nat) (v : Value), k ≤ n ∧ i = .int .i64 k ∧ v = v' ∧ GNew elS 34 w wr w.heap.size v ((forW ws (l.take k)).map VA.s) ∧ Below w.heap.size w wr) (fun _ i _ => n - (intOf i).toNat)
  case atStart => exact ⟨0, _, Nat.zero_le _, rfl, rfl, by simpa [forW] using GNew.nil elS 34 w w w.heap.size, Below.refl _ _⟩
  case round =>
    obtain ⟨k, v, hk, rfl, rfl, GR, B⟩ := hrel
    have hsz := B.size
    by_cases hlt : k < n
    · have hki : (k : Int) < (n : Int) := by omega
      have hkl : k < l.length := by omega
      obtain ⟨b, off, ea, hc⟩ := (L.below elV_fine B).atV (by omega)
      obtain ⟨x0, x1, x2, x3⟩ := hc k hkl
      subst ea
      have HTK : Hid (forW ws (l.take (k + 1)) = forW ws (l.take k) ++ (if l[k].word.xs = ws then [l[k]] else [])) := by show _ = _; rw [List.take_succ_eq_append_getElem hkl, forW_snoc]
      have uok : VA.ok l[k] w := HOK.out _ (List.getElem_mem hkl)
      obtain ⟨u, hu⟩ : ∃ u, u = l[k] := ⟨_, rfl⟩
      rw [← hu] at x0 x1 x2 x3 HTK uok
      have CS := same_any wr u.word.ao wo u.word.n u.word.cap wn wc _ _ (uok.word.below B) (SW.below B)
      have hfl := forW_le ws (l.take k)
      rw [List.length_take] at hfl
      generalize forW ws (l.take k) = FL at GR HTK hfl
      clear hu hc
      by_cases q : u.word.xs = ws
      · rw [decide_eq_true q] at CS
        have HT2 : Hid (forW ws (l.take (k + 1)) = FL ++ [u]) := by show _ = _; rw [HTK.out, if_pos q]
        clear HTK q
        go_wp2_with fail
        refine CS.mono ?_
        rintro e w2 ⟨rfl, q2, hw2⟩
        have C2 : Below wr.heap.size wr w2 := by rw [hw2]; exact belN (Below.refl _ _) q2
        have B2 := B.trans (C2.mono B.size)
        have GR2 := GR.below C2
        obtain ⟨z0, z1, z2⟩ : w2.cell? ⟨b, off + k * 4, none⟩ = some (.int .u64 (u.s.fr : Nat)) ∧ w2.cell? ⟨b, off + k * 4 + 1, none⟩ = some (.slice u.s.b.ao u.s.b.n u.s.b.cap) ∧ w2.cell? ⟨b, off + k * 4 + 2, none⟩ = some (.slice u.s.tag.ao u.s.tag.n u.s.tag.cap) :=
          ⟨(C2.cell (World.block_lt_of_cell? _ _ x0)).trans x0, (C2.cell (World.block_lt_of_cell? _ _ x1)).trans x1, (C2.cell (World.block_lt_of_cell? _ _ x2)).trans x2⟩
        have s2 := B2.size
        clear CS x0 x1 x2 x3 hw2 GR C2
        have C3 : Below w2.heap.size w2 (w2.alloc (.cells #[.int .u64 (u.s.fr : Nat), .slice u.s.b.ao u.s.b.n u.s.b.cap, .slice u.s.tag.ao u.s.tag.n u.s.tag.cap] 34)) := (Below.refl _ _).alloc (Nat.le_refl _) _
        have A3 : Arr (w2.alloc (.cells #[.int .u64 (u.s.fr : Nat), .slice u.s.b.ao u.s.b.n u.s.b.cap, .slice u.s.tag.ao u.s.tag.n u.s.tag.cap] 34)) w2.heap.size 34 u.s.cells := heap_alloc_new w2 _
        have B3 := B2.trans (C3.mono B2.size)
        have GR3 := GR2.below C3
        have sok : elS.ok u.s w := uok.s
        go_wp2_with (refine stop_at (.call { callee := .builtin .append, args := #[Operand.tmp 20, Operand.tmp 26], argTypes := #[42, 42] }) rfl ?_)
        refine ⟨?_⟩
        obtain ⟨v', w4, hr, N4, B4⟩ := run_appG1 elS_fine tyS13 42 GR3 B3.size (ad := ⟨w2.heap.size, 0, none⟩) (cp := 1) (y := u.s) (fun j q hq => by rw [Addr.add_lit, Nat.zero_add, Arr.cell A3]; exact hq) sok (by rw [List.length_map]; omega) (by rw [List.length_map]; unfold maxLen; omega)
        refine wpList_append_run rfl (.tmp 20) (.tmp 26) rfl rfl rfl hr ?_
        have B5 := B3.trans B4
        have N5 : GNew elS 34 w w4 w.heap.size v' ((forW ws (l.take (k + 1))).map VA.s) := by
          rw [HT2.out, List.map_append]
          exact N4
        clear hr N4 GR3 GR2 A3 C3
        go_wp2
        go_roundw
        case rel => exact ⟨k + 1, _, by omega, by go_num, rfl, N5, B5⟩
        case measure => simp [intOf]; omega
      · rw [decide_eq_false q] at CS
        have HT2 : Hid (forW ws (l.take (k + 1)) = FL) := by show _ = _; rw [HTK.out, if_neg q, List.append_nil]
        clear HTK q
        go_wp2_with fail
        refine CS.mono ?_
        rintro e w2 ⟨rfl, q2, hw2⟩
        have C2 : Below wr.heap.size wr w2 := by rw [hw2]; exact belN (Below.refl _ _) q2
        have B2 := B.trans (C2.mono B.size)
        have GR2 : GNew elS 34 w w2 w.heap.size v ((forW ws (l.take (k + 1))).map VA.s) := by rw [HT2.out]; exact GR.below C2
        clear CS x0 x1 x2 x3 hw2 GR C2
        go_wp2
        go_roundw
        case rel => exact ⟨k + 1, _, by omega, by go_num, rfl, GR2, B2⟩
        case measure => simp [intOf]; omega
    · have hge : ¬ (k : Int) < (n : Int) := by omega
      have HT : Hid (l.take k = l) := List.take_of_length_le (by omega)
      rw [HT.out] at GR
      obtain ⟨ro, rc, rfl, G2, -⟩ := GR.gl elS_fine B
      rw [List.length_map] at G2
      clear GR
      go_wp2
      go_ret
      exact ⟨_, _, _, rfl, G2, B⟩
/-- Is that the vote? -/
def enF (l : List VA) (n : Int) (v : VA) : Bool := decide (n ≤ ((forW v.word.xs l).length : Int))
/-- What Enough answers. -/
def REnPost (w : World) (l : List VA) (n : Int) (e : Ending) (w' : World) : Prop :=
  ∃ ao m cap ys b, e = .returned (.tuple #[.slice ao m cap, .bool b]) ∧ Sl w' ao m cap ys ∧ Below w.heap.size w w' ∧ Hid ((b = false ∧ ys = [] ∧ (n < 1 ∨ l.find? (enF l n) = none)) ∨ (b = true ∧ 1 ≤ n ∧ ∃ v, l.find? (enF l n) = some v ∧ v.word.xs = ys))
set_option maxHeartbeats 8000000 in
set_option maxRecDepth 100000 in
theorem renough_any (w : World) (ao : Option Addr) (n cap : Nat) (l : List VA) (L : GL elV w ao n cap l) (hn : n ≤ 1000) (x : Int) :
    Calls Try.prog 24 #[.slice ao n cap, .int .i64 x] w (REnPost w l x) := by
  have hl1 := Nat.le_of_eq L.len
  have hl2 := Nat.le_of_eq L.len.symm
  have HOK : Hid (∀ v ∈ l, elV.ok v w) := L.ok
  by_cases hx : 1 ≤ x
  · go_enter Try.func24, Try.ntmps24
    go_wp2
    go_loopw [6] (fun i wr => ∃ k : Nat, k ≤ n ∧ i = .int .i64 k ∧ Hid (∀ v ∈ l.take k, enF l x v = false) ∧ Below w.heap.size w wr) (fun i _ => n - (intOf i).toNat)
    case atStart => exact ⟨0, Nat.zero_le _, rfl, fun v hv => by simp at hv, Below.refl _ _⟩
    case round =>
      obtain ⟨k, hk, rfl, HB, B⟩ := hrel
      by_cases hlt : k < n
      · have hki : (k : Int) < (n : Int) := by omega
        have hkl : k < l.length := by omega
        have LB := L.below elV_fine B
        obtain ⟨b, off, ea, hc⟩ := LB.atV (by omega)
        have x3 := (hc k hkl).c3
        subst ea
        have uok : VA.ok l[k] w := HOK.out _ (List.getElem_mem hkl)
        have HS : Hid (enF l x l[k] = true → l.find? (enF l x) = some l[k]) := fun q => by
          rw [List.find?_eq_some_iff_getElem]
          refine ⟨q, k, hkl, rfl, fun i hi => ?_⟩
          rw [HB.out l[i] (List.mem_take_iff_getElem.2 ⟨i, by omega, rfl⟩)]
          rfl
        have HN : Hid (enF l x l[k] = false → ∀ v ∈ l.take (k + 1), enF l x v = false) := fun q v hv => by
          rw [List.take_succ_eq_append_getElem hkl] at hv
          rcases List.mem_append.1 hv with hv | hv
          · exact HB.out v hv
          · rw [List.mem_singleton.1 hv]; exact q
        obtain ⟨u, hu⟩ : ∃ u, u = l[k] := ⟨_, rfl⟩
        rw [← hu] at x3 uok HS HN
        have SU := uok.word.below B
        have CP := rproof_any wr _ n cap l LB u.word.ao u.word.n u.word.cap u.word.xs SU hn
        have HE : Hid (enF l x u = decide (x ≤ ((forW u.word.xs l).length : Int))) := rfl
        have hfl := forW_le u.word.xs l
        clear hu hc HB uok
        go_wp2_with fail
        refine CP.mono ?_
        rintro e w2 ⟨ro, m, rc, rfl, G2, C2⟩
        have hm := G2.len
        rw [List.length_map] at hm
        have HE2 : Hid (enF l x u = decide (x ≤ (m : Int))) := by show _ = _; rw [HE.out, hm]
        have hm2 : (m : Int) ≤ 1000 := by omega
        have B2 := B.trans (C2.mono B.size)
        have x3 := (C2.cell (World.block_lt_of_cell? _ _ x3)).trans x3
        have SU := SU.below C2
        clear CP G2 hm hfl HE LB
        by_cases q : x ≤ (m : Int)
        · have HF := HS.out (by rw [HE2.out]; simpa using q)
          have HF : Hid (l.find? (enF l x) = some u) := HF
          clear HS HN HE2
          go_wp2
          go_ret2
          exact ⟨_, _, _, _, _, rfl, SU, B2, .inr ⟨rfl, hx, u, HF.out, rfl⟩⟩
        · have q2 : (m : Int) < x := by omega
          have HB2 : Hid (∀ v ∈ l.take (k + 1), enF l x v = false) := HN.out (by rw [HE2.out]; simpa using q)
          clear HS HN HE2 q
          go_wp2
          go_roundw
          case rel => exact ⟨k + 1, by omega, by go_num, HB2, B2⟩
          case measure => simp [intOf]; omega
      · have hge : ¬ (k : Int) < (n : Int) := by omega
        have HT : Hid (l.take k = l) := List.take_of_length_le (by omega)
        rw [HT.out] at HB
        go_wp2
        go_ret2
        exact ⟨none, 0, 0, [], false, rfl, Sl.nothing _, B, .inl ⟨rfl, rfl, .inr (List.find?_eq_none.2 fun v hv => by rw [HB.out v hv]; simp)⟩⟩
  · have hx2 : x < 1 := by omega
    clear hx
    by_cases h0 : n = 0
    · have i1 : ¬ (0 : Int) < (n : Int) := by omega
      clear h0
      go_enter Try.func24, Try.ntmps24
      go_wp2
      go_loopw [6] (fun i wr => i = .int .i64 0 ∧ wr = w) (fun _ _ => 0)
      case atStart => exact ⟨rfl, rfl⟩
      case round =>
        obtain ⟨rfl, rfl⟩ := hrel
        go_wp2
        go_ret2
        exact ⟨none, 0, 0, [], false, rfl, Sl.nothing _, Below.refl _ _, .inl ⟨rfl, rfl, .inl hx2⟩⟩
    · have i1 : (0 : Int) < (n : Int) := by omega
      clear h0
      go_enter Try.func24, Try.ntmps24
      go_wp2
      go_loopw [6] (fun i wr => i = .int .i64 0 ∧ wr = w) (fun _ _ => 0)
      case atStart => exact ⟨rfl, rfl⟩
      case round =>
        obtain ⟨rfl, rfl⟩ := hrel
        go_wp2
        go_ret2
        exact ⟨none, 0, 0, [], false, rfl, Sl.nothing _, Below.refl _ _, .inl ⟨rfl, rfl, .inl hx2⟩⟩
end Go.Proofs.Ytghemebgkhopnaa

/-
  Texts in one: Take2, Add, AddW, Pad.
-/
import Derived.Test.YtlgafjalcpjelaaDoorSessionPlaysQ0
import Derived.Test.YtlgafjalcpjelaaDoorSessionPlaysQ5
import Derived.Laws.CopyOwn
import Derived.Deep.RegionLaw
namespace Go.Proofs.YtlgafjalcpjelaaDoor
open Go.RowKit
theorem Sl.take {w : World} {ao : Option Addr} {n cap : Nat} {xs : List Int} (h : Sl w ao n cap xs) (k : Nat) (hk : k ≤ n) : Sl w ao k cap (xs.take k) := by
  have h1 := h.le
  have h2 := h.len
  refine ⟨by simp; omega, by omega, h.mx, fun hn => ?_, fun a ha i hi => ?_, h.byte.take k⟩
  · have := h.nil hn
    omega
  · rw [h.cell a ha i (by omega)]
    simp [List.getD, hi]
end Go.Proofs.YtlgafjalcpjelaaDoor
namespace Go
theorem step_copy_named {P : Program} {ops : Array Oper} {o : Oper} {a : Act} {w : World} {K : Act → World → Prop} {Q : Exit → Act → World → Prop} {E : Prop} (hgd : o.guard = none) (d s : Operand) (dT sT : TypeId)
    (ho : o.op = .call { callee := .builtin .copy, args := #[d, s], argTypes := #[dT, sT] }) (elem : TypeId) (hu : P.underlying dT = some (.slice elem)) (hsz : (P.info? elem).map (·.size) = some 1)
    (g off : Nat) (ad : Addr) (dLen dCap sLen sCap : Nat) (hd : a.eval d = .slice (some ⟨g, off, none⟩) dLen dCap) (hs : a.eval s = .slice (some ad) sLen sCap)
    (cur : List Value) (t : TypeId) (hg : w.heap[g]? = some (.cells cur.toArray t (0, 0))) (cs : List Value) (hn : cs.length = Nat.min sLen dLen)
    (hsrc : ∀ j v, cs[j]? = some v → w.cell? (ad.add j) = some v)
    (hfit : off + cs.length ≤ cur.length) (h1 : ∀ v ∈ cs, v.oneCell' = true)
    (N : Nat) (hN : cs.length = N)
    (h : ∀ w', RowKit.Hid (w'.heap[g]? = some (.cells (splice cur off cs).toArray t (0, 0))) → w.grownBy w' (some g) → K (a.put o.dst (.int .i64 N)) w') :
    if Region.wanted o (yielded ops a.tmps) = true then Oper.wp P o a w K Q else E := by
  have hw : Region.wanted o (yielded ops a.tmps) = true := by simp [Region.wanted, hgd]
  subst hN
  rw [if_pos hw]
  have hrun := run_copy_row (P := P) w dT sT o.type elem g off dLen dCap ad sLen sCap cur.toArray t cs hu hsz hg hn hsrc (by simpa using hfit) h1
  unfold Oper.wp
  simp [execOp, ho, resolve, invoke, builtin, hd, hs, hrun, Result.andThen]
  exact h _ (show _ = _ by simpa [splice] using setRow_heap w g _ _ t _ hg) ⟨rfl, rfl, rfl, by simp, fun k _ hk => setRow_other w g k _ (fun e => hk (by rw [e]))⟩
end Go
namespace Go.Proofs.YtlgafjalcpjelaaDoor
open Go.RowKit
def blk (bs : List Int) (i : Nat) : List Int := (bs.drop (64 * i)).take 64
def AA (bs : List Int) : Nat → List Int
  | 0 => List.replicate 8 0
  | i + 1 => mixA (AA bs i) (blk bs i)
theorem AA_append (bs cs : List Int) (i : Nat) (h : 64 * i ≤ bs.length) : AA (bs ++ cs) i = AA bs i := by
  induction i with
  | zero => rfl
  | succ i ih =>
    have e : blk (bs ++ cs) i = blk bs i := by
      unfold blk
      rw [List.drop_append_of_le_length (by omega), List.take_append_of_le_length (by simp; omega)]
    simp only [AA]
    rw [ih (by omega), e]
theorem AA_len (bs : List Int) (i : Nat) : (AA bs i).length = 8 := by
  cases i with
  | zero => simp [AA]
  | succ i => simp [AA, mixA, part_len]
def HS (w : World) (p : Nat) (bs : List Int) : Prop :=
  ∃ B, HB w p (AA bs (bs.length / 64)) B bs.length ∧ B.take (bs.length % 64) = bs.drop (64 * (bs.length / 64))
theorem HS.lt {w : World} {p : Nat} {bs : List Int} (h : HS w p bs) : p < w.heap.size := by obtain ⟨B, h, _⟩ := h; exact h.lt
theorem HS.below {w w' : World} {p m : Nat} {bs : List Int} (h : HS w p bs) (hb : Below m w w') (hp : p < m) : HS w' p bs := by
  obtain ⟨B, h, e⟩ := h
  exact ⟨B, h.below hb hp, e⟩
theorem HB.grown {w w' : World} {p : Nat} {A B : List Int} {n : Nat} {row : Option Nat} (h : HB w p A B n) (hg : w.grownBy w' row) (hne : some p ≠ row) : HB w' p A B n :=
  ⟨(hg.block p h.lt hne).trans h.heap, h.lenA, h.lenB, h.byte, h.size⟩
theorem HS.grown {w w' : World} {p : Nat} {bs : List Int} {row : Option Nat} (h : HS w p bs) (hg : w.grownBy w' row) (hne : some p ≠ row) : HS w' p bs := by
  obtain ⟨B, h, e⟩ := h
  exact ⟨B, h.grown hg hne, e⟩
theorem Tabs.grown {w w' : World} {p : Nat} (h : Tabs w) (hg : w.grownBy w' (some p)) (hp : 2 ≤ p) : Tabs w' :=
  have h2 := h.two
  ⟨fun j v hv => hg.cell (h.first j v hv) (by intro e; have := Option.some.inj e; simp only at this; omega), fun j v hv => hg.cell (h.cubes j v hv) (by intro e; have := Option.some.inj e; simp only at this; omega), by have := hg.size; omega⟩
theorem Sl.grown {w w' : World} {ao : Option Addr} {n cap p : Nat} {xs : List Int} (h : Sl w ao n cap xs) (hg : w.grownBy w' (some p)) (hne : ∀ a, ao = some a → 0 < n → a.block ≠ p) : Sl w' ao n cap xs :=
  ⟨h.len, h.le, h.mx, h.nil, fun a ha i hi => hg.cell (h.cell a ha i hi) (by intro e; have := Option.some.inj e; exact hne a ha (by omega) (by rw [← this]; unfold Addr.add; split <;> rfl)), h.byte⟩
theorem Sl.cut {w : World} {a : Addr} {n cap : Nat} {xs : List Int} (h : Sl w (some a) n cap xs) (u : Nat) (hu : u ≤ n) : Sl w (some (if cap = u then a else a.add u)) (n - u) (cap - u) (xs.drop u) := by
  refine ⟨by simp [h.len], by have := h.le; omega, by have := h.mx; omega, fun e => by simp at e, fun b hb i hi => ?_, h.byte.drop u⟩
  have hle := h.le
  rw [if_neg (by omega)] at hb
  obtain rfl := Option.some.inj hb
  have e : (a.add u).add i = a.add (u + i) := by
    rcases Nat.eq_zero_or_pos u with rfl | h1
    · simp [Addr.add]
    · rcases Nat.eq_zero_or_pos i with rfl | h2
      · simp [Addr.add]
      · have h3 : ¬ u = 0 := by omega
        have h4 : ¬ i = 0 := by omega
        simp [Addr.add, h3, h4, Nat.add_assoc]
  rw [e, h.cell a rfl (u + i) (by omega)]
  simp [List.getD]
theorem u22 : Tryd.prog.underlying 50 = some (.slice (Tryd.prog.elem 50)) := by kernel_rfl
theorem el22 : Tryd.prog.elem 50 = 5 := by kernel_rfl
theorem slice22l (a : Addr) (n cap k : Nat) (hk : k ≤ n) (w : World) : (Instr.slice 50 (.slice (some a) n cap) (some (.int .i64 k)) none none).run Tryd.prog w = .ok (.slice (some (if cap = k then a else a.add k)) (n - k) (cap - k)) w := by
  rw [run_slice_l w 50 (some a) n cap u22 .i64 k (by omega) (by omega), el22, size8]
  simp [sliced]
  split <;> rfl
theorem splice_hv (A B Y : List Int) (n r : Nat) (hA : A.length = 8) (hB : B.length = 64) (hr : r + Y.length ≤ 64) : splice (hv A B n) (8 + r) (bv Y) = hv A (B.take r ++ Y ++ B.drop (r + Y.length)) n := by
  unfold hv splice
  have l1 : (wv A).length = 8 := by simp [wv, hA]
  have e1 : (wv A ++ bv B ++ [Value.int .u64 n]).take (8 + r) = wv A ++ bv (B.take r) := by
    rw [List.append_assoc, ← l1, List.take_length_add_append, List.take_append_of_le_length (by simp [bv]; omega)]
    simp [bv, List.map_take]
  have e2 : (wv A ++ bv B ++ [Value.int .u64 n]).drop (8 + r + (bv Y).length) = bv (B.drop (r + Y.length)) ++ [Value.int .u64 n] := by
    rw [List.append_assoc, ← l1, Nat.add_assoc, List.drop_length_add_append, List.drop_append_of_le_length (by simp [bv]; omega)]
    simp [bv, List.map_drop]
  rw [e1, e2]
  simp [bv]
theorem HB.setN {w : World} {p : Nat} {A B : List Int} {n : Nat} (h : HB w p A B n) (m : Nat) (hm : m < 18446744073709551616) : HB (w.setCell ⟨p, 72, none⟩ (.int .u64 m)) p A B m := by
  refine ⟨?_, h.lenA, h.lenB, h.byte, hm⟩
  have := Arr.set (show Arr w p _ (hv A B n) from h.heap) 72 (.int .u64 m)
  have e : (hv A B n).set 72 (.int .u64 m) = hv A B m := by
    unfold hv
    rw [List.set_append_right _ _ (by simp [wv, bv, h.lenA, h.lenB])]
    simp [wv, bv, h.lenA, h.lenB]
  rw [e] at this
  exact this
theorem HS_less {w : World} {p : Nat} {ys B Y : List Int} (h : HB w p (AA ys (ys.length / 64)) (B.take (ys.length % 64) ++ Y ++ B.drop (ys.length % 64 + Y.length)) (ys.length + Y.length)) (hB : B.take (ys.length % 64) = ys.drop (64 * (ys.length / 64)))
    (hl : ys.length % 64 + Y.length < 64) : HS w p (ys ++ Y) := by
  have e1 : (ys ++ Y).length / 64 = ys.length / 64 := by simp; omega
  have e2 : (ys ++ Y).length % 64 = ys.length % 64 + Y.length := by simp; omega
  refine ⟨B.take (ys.length % 64) ++ Y ++ B.drop (ys.length % 64 + Y.length), ?_, ?_⟩
  · rw [e1, AA_append _ _ _ (by omega)]
    simpa using h
  · rw [e1, e2, hB, List.drop_append_of_le_length (by omega)]
    rw [List.take_append_of_le_length (by simp; omega)]
    rw [List.take_of_length_le (by simp; omega)]
theorem HS_full {w : World} {p : Nat} {ys B Y : List Int} (h : HB w p (mixA (AA ys (ys.length / 64)) (B.take (ys.length % 64) ++ Y ++ B.drop (ys.length % 64 + Y.length))) (B.take (ys.length % 64) ++ Y ++ B.drop (ys.length % 64 + Y.length)) (ys.length + Y.length)) (hB : B.take (ys.length % 64) = ys.drop (64 * (ys.length / 64)))
    (hl : ys.length % 64 + Y.length = 64) (hb : B.length = 64) : HS w p (ys ++ Y) := by
  have e1 : (ys ++ Y).length / 64 = ys.length / 64 + 1 := by simp; omega
  have e2 : (ys ++ Y).length % 64 = 0 := by simp; omega
  have e3 : B.take (ys.length % 64) ++ Y ++ B.drop (ys.length % 64 + Y.length) = blk (ys ++ Y) (ys.length / 64) := by
    rw [hl, List.drop_of_length_le (by omega), List.append_nil, hB]
    unfold blk
    rw [List.drop_append_of_le_length (by omega), List.take_of_length_le (by simp; omega)]
  rw [e3] at h
  refine ⟨blk (ys ++ Y) (ys.length / 64), ?_, ?_⟩
  · rw [e1]
    simp only [AA]
    rw [AA_append _ _ _ (by omega)]
    simpa using h
  · rw [e1, e2, List.take_zero, List.drop_of_length_le (by simp; omega)]
open Go.RowKit
theorem s5 : (Tryd.prog.info? 5).map (·.size) = some 1 := by kernel_rfl
def lenOf : Value → Nat | .slice _ n _ => n | _ => 0
set_option maxRecDepth 100000 in
set_option maxHeartbeats 2000000 in
theorem add_any (w : World) (p : Nat) (bs : List Int) (ao : Option Addr) (n cap : Nat) (xs : List Int) (hT : Tabs w) (h : HS w p bs) (hp2 : 2 ≤ p) (hS : Sl w ao n cap xs) (hne : ∀ a, ao = some a → 0 < n → a.block ≠ p) (hl : bs.length + xs.length < 18446744073709551616) :
    Calls Tryd.prog 50 #[.pointer (some ⟨p, 0, none⟩), .slice ao n cap] w fun e w' => (∃ v, e = .returned v) ∧ HS w' p (bs ++ xs) ∧ w.grownBy w' (some p) := by
  go_enter Tryd.func50, Tryd.ntmps50
  go_wp2
  go_loopw [1] (fun v wr => ∃ (ys zs : List Int) (ao : Option Addr) (n cap : Nat), Hid (bs ++ xs = ys ++ zs) ∧ HS wr p ys ∧ v = .slice ao n cap ∧ Sl wr ao n cap zs ∧ (∀ a, ao = some a → 0 < n → a.block ≠ p) ∧ w.grownBy wr (some p)) (fun v _ => lenOf v)
  case atStart => exact ⟨bs, xs, ao, n, cap, rfl, h, rfl, hS, hne, World.grownBy.refl _ _⟩
  case round =>
    clear h hS hne
    obtain ⟨ys, zs, ao, n, cap, HE, h, rfl, hS, hne, G⟩ := hrel
    have T := hT.grown G hp2
    have hlen : ys.length + zs.length < 18446744073709551616 := by
      have := congrArg List.length HE.out
      simp at this
      omega
    by_cases hn : n = 0
    · have hz : zs = [] := List.eq_nil_of_length_eq_zero (by rw [hS.len]; exact hn)
      subst hn
      go_wp2
      go_end0
      refine ⟨⟨_, rfl⟩, ?_, G⟩
      rw [HE.out, hz, List.append_nil]
      exact h
    · obtain ⟨a, rfl⟩ : ∃ a, ao = some a := by
        cases ao with
        | none => exact absurd (hS.nil rfl).1 hn
        | some a => exact ⟨a, rfl⟩
      obtain ⟨B, hB, eB⟩ := h
      obtain ⟨m, hm⟩ : ∃ m, m = ys.length := ⟨_, rfl⟩
      obtain ⟨k, hk⟩ : ∃ k, k = min n (64 - m % 64) := ⟨_, rfl⟩
      have hk' : k = n ∨ k = 64 - m % 64 := by rw [hk]; omega
      have hkn : k ≤ n := by rw [hk]; omega
      have hk64 : m % 64 + k ≤ 64 := by rw [hk]; omega
      have hk0 : 0 < k := by rw [hk]; omega
      have hle := hS.le
      have hzl := hS.len
      have hY : (zs.take k).length = k := by simp; omega
      have HB0 : Hid (HB wr p (AA ys (m / 64)) B m ∧ B.take (m % 64) = ys.drop (64 * (m / 64)) ∧ k = min n (64 - m % 64)) := ⟨by rw [hm]; exact hB, by rw [hm]; exact eB, hk⟩
      have hpos : (0 : Int) < (n : Int) := by omega
      have c1 := hB.count
      have f1 := hB.free 72
      rw [← hm] at c1 hlen
      have HM : Hid (m = ys.length) := hm
      have hsl := slice49l .u64 p 8 (m % 64) (by omega) ((m : Int).tmod 64) (by rw [Int.tmod_eq_emod_of_nonneg (by omega)]; omega)
      clear hB eB hm hk
      have hs2 := slice22l a n cap k hkn
      go_wp2
      go_region_law (refine step_copy_named rfl (.tmp 18) (.tmp 19) 50 50 rfl 5 Tryd.underlying50 s5 p (8 + m % 64) a (64 - m % 64) (64 - m % 64) n cap (by simp [Act.eval, Act.put]) (by simp [Act.eval, Act.put]) (hv (AA ys (m / 64)) B m) 104 HB0.out.1.heap (bv (zs.take k)) (by rw [bv_length, hY]; exact HB0.out.2.2) ((hS.take k hkn).cells a rfl) (by rw [bv_length, hY]; simp [hv, wv, bv, HB0.out.1.lenA, HB0.out.1.lenB]; omega) (bv_one _) k (by rw [bv_length]; exact hY) ?_; intro w1 a1 g1)
      have g2 : wr.grownBy w1 (some p) := ⟨g1.os, g1.tape, g1.output, g1.size, g1.block⟩
      obtain ⟨Bn, hBn⟩ : ∃ Bn, Bn = B.take (m % 64) ++ zs.take k ++ B.drop (m % 64 + (zs.take k).length) := ⟨_, rfl⟩
      have H1 : HB w1 p (AA ys (m / 64)) Bn m := by
        have hb0 := HB0.out.1
        refine ⟨?_, hb0.lenA, ?_, ?_, hb0.size⟩
        · rw [hBn, ← splice_hv _ _ _ _ _ hb0.lenA hb0.lenB (by rw [hY]; exact hk64)]
          exact a1.out
        · have := hb0.lenB
          rw [hBn]
          simp
          omega
        · rw [hBn]
          exact ((hb0.byte.take _).append (hS.byte.take _)).append (hb0.byte.drop _)
      have S1 : Sl w1 (some a) n cap zs := hS.grown g2 hne
      have G1 : w.grownBy w1 (some p) := gro_trans G g2
      have T1 := T.grown g2 hp2
      have HN : Hid (Bn = B.take (m % 64) ++ zs.take k ++ B.drop (m % 64 + (zs.take k).length)) := hBn
      clear a1 g1 g2 G T hS c1 f1 hBn hsl
      have c2 := H1.count
      have f2 := H1.free 72
      have hmk : (m : Int) + k ≤ 18446744073709551615 := by omega
      have hm0 : (0 : Int) ≤ (m : Int) + k := by omega
      have S2 := S1.cut k hkn
      have hne2 : ∀ b, some (if cap = k then a else a.add k) = some b → 0 < n - k → b.block ≠ p := by
        intro b hb _
        obtain rfl := Option.some.inj hb
        split
        · exact hne a rfl (by omega)
        · have := hne a rfl (by omega)
          intro e
          apply this
          rw [← e]
          unfold Addr.add
          split <;> rfl
      obtain ⟨a2, ha2⟩ : ∃ a2, a2 = if cap = k then a else a.add k := ⟨_, rfl⟩
      rw [← ha2] at S2 hne2 hs2
      clear ha2
      have W1 := (H1.setN (m + k) (by omega))
      have hk64' : m % 64 + k = 64 ∨ m % 64 + k < 64 := by omega
      rcases hk64' with hf | hf
      · have ht : (((m : Int) + k).tmod 64 == 0) = true := by
          rw [Int.tmod_eq_emod_of_nonneg hm0]
          simp
          omega
        go_wp2_with (go_at_call 65; refine (mix_any _ p _ _ _ (T1.grown (grown_set (World.grownBy.refl _ _) 72 _) hp2) W1).mono ?_; rintro e w2 ⟨⟨v, rfl⟩, H2, g2⟩)
        go_roundw
        case rel =>
          have hgs : w1.grownBy w2 (some p) := gro_trans (grown_set (World.grownBy.refl w1 _) 72 _) g2
          refine ⟨ys ++ zs.take k, zs.drop k, some a2, n - k, cap - k, ?_, ?_, rfl, S2.grown hgs hne2, hne2, gro_trans G1 hgs⟩
          · have := HE.out
            show bs ++ xs = _
            rw [this, List.append_assoc, List.take_append_drop]
          · have hm := HM.out
            have hN := HN.out
            have h0 := HB0.out
            subst hm
            rw [hN] at H2
            refine HS_full (B := B) ?_ h0.2.1 (by rw [hY]; exact hf) h0.1.lenB
            rw [hY]
            rw [hY] at H2
            exact H2
        case measure => simp [lenOf]; omega
      · have ht : (((m : Int) + k).tmod 64 == 0) = false := by
          rw [Int.tmod_eq_emod_of_nonneg hm0]
          simp
          omega
        go_wp2
        go_roundw
        case rel =>
          have hgs : w1.grownBy (w1.setCell ⟨p, 72, none⟩ (.int .u64 (m + k))) (some p) := grown_set (World.grownBy.refl w1 _) 72 _
          refine ⟨ys ++ zs.take k, zs.drop k, some a2, n - k, cap - k, ?_, ?_, rfl, S2.grown hgs hne2, hne2, gro_trans G1 hgs⟩
          · have := HE.out
            show bs ++ xs = _
            rw [this, List.append_assoc, List.take_append_drop]
          · have hm := HM.out
            have hN := HN.out
            have h0 := HB0.out
            subst hm
            rw [hN] at W1
            refine HS_less (B := B) ?_ h0.2.1 (by rw [hY]; exact hf)
            rw [hY]
            rw [hY] at W1
            exact W1
        case measure => simp [lenOf]; omega
open Go.RowKit
def pe (n : Nat) : Nat := if 64 - n % 64 ≤ 8 then 128 - n % 64 else 64 - n % 64
def tl (e L i : Nat) : List Int := (List.range 72).map fun q => if e ≤ q + i ∧ q < e then ((L / 2 ^ (8 * (e - 1 - q)) % 256 : Nat) : Int) else if q = 0 then 128 else 0
theorem tl_len (e L i : Nat) : (tl e L i).length = 72 := by simp [tl]
theorem tl_zero (e L : Nat) : tl e L 0 = 128 :: List.replicate 71 0 := by
  have h : tl e L 0 = (List.range 72).map fun q => if q = 0 then 128 else 0 := by
    refine List.map_congr_left fun q _ => ?_
    rw [if_neg (by omega)]
  rw [h]
  decide
theorem tl_succ (e L i : Nat) (hi : i < 8) (he : 8 < e) : (tl e L i).set (e - 1 - i) ((L / 2 ^ (8 * i) % 256 : Nat) : Int) = tl e L (i + 1) := by
  refine List.ext_getElem? fun q => ?_
  by_cases hq : q < 72
  · by_cases hj : e - 1 - i = q
    · have h1 : e ≤ q + (i + 1) ∧ q < e := by omega
      have h2 : e - 1 - q = i := by omega
      simp only [tl, hj, List.getElem?_set_self', List.getElem?_map, List.getElem?_range hq, Option.map_some, if_pos h1, h2]
      rfl
    · have h1 : (e ≤ q + (i + 1) ∧ q < e) ↔ (e ≤ q + i ∧ q < e) := by omega
      simp only [tl, List.getElem?_set_ne hj, List.getElem?_map, List.getElem?_range hq, Option.map_some, h1]
  · simp [tl, hq]
theorem tl_byte (e L i : Nat) : Byt (tl e L i) := by
  intro x hx
  simp only [tl, List.mem_map] at hx
  obtain ⟨q, _, rfl⟩ := hx
  split
  · omega
  · split <;> omega
def padL (n : Nat) : List Int := (tl (pe n) (n * 8 % 18446744073709551616) 8).take (pe n)
theorem pe_le (n : Nat) : 8 < pe n ∧ pe n ≤ 72 := by unfold pe; split <;> omega
theorem bv_set (xs : List Int) (j : Nat) (x : Int) : (bv xs).set j (.int .u8 x) = bv (xs.set j x) := by
  simp [bv, List.map_set]
theorem z58 : (Tryd.prog.info? 122).map (fun i => (i.zero, i.size)) = some (some (.agg (List.replicate 72 (Value.int .u8 0)).toArray), 72) := by kernel_rfl
theorem u58 : Tryd.prog.underlying 122 = some (.array (Tryd.prog.arrayLen 122) (Tryd.prog.elem 122)) := by kernel_rfl
theorem al58 : Tryd.prog.arrayLen 122 = 72 := by kernel_rfl
theorem el58 : Tryd.prog.elem 122 = 5 := by kernel_rfl
theorem slice58h (p h : Nat) (hh : h ≤ 72) (w : World) : (Instr.sliceAt 122 (.pointer (some ⟨p, 0, none⟩)) none (some (.int .u64 h)) none).run Tryd.prog w = .ok (.slice (some ⟨p, 0, none⟩) h 72) w := by
  rw [run_sliceAt_array_h w 122 ⟨p, 0, none⟩ u58 .u64 h (by omega) (by rw [al58]; omega), el58, al58, size8]
  simp [slicedAt, Addr.add]
set_option maxRecDepth 100000 in
set_option maxHeartbeats 2000000 in
theorem pad_any (w : World) (p : Nat) (bs : List Int) (hT : Tabs w) (h : HS w p bs) (hp2 : 2 ≤ p) (hl : bs.length + 72 < 18446744073709551616) :
    Calls Tryd.prog 66 #[.pointer (some ⟨p, 0, none⟩)] w fun e w' => (∃ v, e = .returned v) ∧ HS w' p (bs ++ padL bs.length) ∧ w.grownBy w' (some p) := by
  have h2 := hT.two
  have hp := h.lt
  obtain ⟨B, hB, eB⟩ := h
  have HH : Hid (HS w p bs) := ⟨B, hB, eB⟩
  have c1 := hB.count
  clear hB eB
  obtain ⟨m, hm⟩ : ∃ m, m = bs.length := ⟨_, rfl⟩
  have HM : Hid (m = bs.length) := hm
  rw [← hm] at c1 hl
  clear hm
  have he := pe_le m
  have hcase : (8 < 64 - (m : Int) % 64 ∧ 64 - (m : Int) % 64 = ((pe m : Nat) : Int)) ∨ (64 - (m : Int) % 64 ≤ 8 ∧ 64 - (m : Int) % 64 + 64 = ((pe m : Nat) : Int)) := by
    unfold pe
    split <;> omega
  obtain ⟨e, hee⟩ : ∃ e, e = pe m := ⟨_, rfl⟩
  obtain ⟨L, hL⟩ : ∃ L, L = m * 8 % 18446744073709551616 := ⟨_, rfl⟩
  have HL : Hid (IntKind.u64.wrap ((m : Int) * 8) = (L : Int)) := by
    show _ = _
    rw [IntKind.wrap_u64, hL]
    omega
  have HP : Hid (padL m = (tl e L 8).take e) := by rw [hee, hL]; rfl
  rw [← hee] at he hcase
  clear hee hL
  rcases hcase with ⟨hc, ec⟩ | ⟨hc, ec⟩
  all_goals
    go_enter Tryd.func66, Tryd.ntmps66
    go_wp2_with (refine wpList_alloc_named rfl 2 rfl 122 rfl w.heap.size rfl _ 72 z58 ?_; intro w1 a1 s1 g1; have B1 : Below w.heap.size w w1 := (Below.refl _ w).grown g1 (Nat.le_refl _) (by simp); have A1 : Arr w1 w.heap.size 122 (bv (List.replicate 72 0)) := a1; clear g1 a1; have d1 := A1.cell 0; have d2 := A1.free 0; have d3 := (B1.cell (p := ⟨p, 72, none⟩) hp).trans c1; simp only [bv, List.map_replicate, List.getElem?_replicate, Nat.zero_lt_succ, if_true] at d1)
    clear ec
    have A2 := A1.set 0 (.int .u8 128)
    have e2 : (bv (List.replicate 72 0)).set 0 (.int .u8 128) = bv (tl e L 0) := by rw [tl_zero]; rfl
    rw [e2] at A2
    have B2 : Below w.heap.size w (w1.setCell ⟨w.heap.size, 0, none⟩ (.int .u8 128)) := B1.setCell (Nat.le_refl _) _
    have s2 : (w1.setCell ⟨w.heap.size, 0, none⟩ (.int .u8 128)).heap.size = w.heap.size + 1 := by simpa using s1
    clear e2 d1 d2 d3 A1 B1 s1
    generalize w1.setCell ⟨w.heap.size, 0, none⟩ (.int .u8 128) = w2 at A2 B2 s2
    go_loopw [22] (fun i wr => ∃ k : Nat, k ≤ 8 ∧ i = .int .u64 k ∧ Below w.heap.size w wr ∧ Arr wr w.heap.size 122 (bv (tl e L k)) ∧ wr.heap.size = w.heap.size + 1) (fun i _ => 8 - (intOf i).toNat)
    case atStart => exact ⟨0, by omega, rfl, B2, A2, s2⟩
    case round =>
      obtain ⟨k, hk, rfl, B3, A3, s3⟩ := hrel
      by_cases hlt : k < 8
      · have hki : (k : Int) < 8 := by omega
        have i1 : ((e : Int) - 1 - k).toNat = e - 1 - k := by omega
        have i2 : 0 ≤ ((e : Int) - 1 - k) := by omega
        have i3 : ((e : Int) - 1 - k) < 72 := by omega
        have i4 : 0 ≤ ((e : Int) - 1) := by omega
        have c3 := A3.cell (e - 1 - k)
        rw [bv_get _ _ (by rw [tl_len]; omega)] at c3
        have f3 := A3.free (e - 1 - k)
        go_wp2
        go_roundw
        case rel =>
          rw [HL.out]
          have ev : (L : Int) / 2 ^ (8 * k) % 256 = ((L / 2 ^ (8 * k) % 256 : Nat) : Int) := by simp
          rw [ev]
          refine ⟨k + 1, by omega, by go_num, B3.setCell (Nat.le_refl _) _, ?_, by simpa using s3⟩
          have := A3.set (e - 1 - k) (.int .u8 ((L / 2 ^ (8 * k) % 256 : Nat) : Int))
          rw [bv_set, tl_succ e L k hlt he.1] at this
          exact this
        case measure => simp [intOf]; omega
      · obtain rfl : k = 8 := by omega
        have T3 := hT.below B3 h2
        have h3 := HH.out.below B3 hp
        have S3 : Sl wr (some ⟨w.heap.size, 0, none⟩) e 72 ((tl e L 8).take e) := by
          refine ⟨by simp [tl_len]; omega, he.2, by unfold maxLen; omega, fun h => by simp at h, fun a ha i hi => ?_, (tl_byte e L 8).take e⟩
          obtain rfl := Option.some.inj ha
          rw [add_at, Nat.zero_add, A3.cell, bv_get _ _ (by rw [tl_len]; omega)]
          simp [List.getD, hi]
        have hsl := slice58h w.heap.size e he.2
        go_wp2_with (go_at_call 50; refine (add_any wr p bs _ e 72 _ T3 h3 hp2 S3 (fun a ha _ => by obtain rfl := Option.some.inj ha; show w.heap.size ≠ p; omega) (by have := HM.out; rw [S3.len]; omega)).mono ?_; rintro e5 w5 ⟨⟨v, rfl⟩, h5, g5⟩)
        go_end0
        refine ⟨⟨_, rfl⟩, ?_, gro_trans (bel_grown B3 _) g5⟩
        have hm := HM.out
        rw [← hm, HP.out]
        exact h5
end Go.Proofs.YtlgafjalcpjelaaDoor

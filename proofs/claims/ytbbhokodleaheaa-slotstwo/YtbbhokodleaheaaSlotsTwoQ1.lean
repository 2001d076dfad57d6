/-
  Texts in one: SlLog, SlSlotL, HRegB, SlPrep, GNew, GSet, ExSt, SlClone, SlCert, SlBut, SlVote, SlPre.
-/
import Derived.Test.YtbbhokodleaheaaSlotsTwoQFL
import Derived.Test.YtbbhokodleaheaaSlotsTwoQ0
import Derived.Lib.ConvBytes
import Derived.DataElems
import Derived.ArgAppend
import Derived.Deep.Upon
import Derived.Deep.MidRow
import Derived.Lib.SliceRun
namespace Go.Proofs.Ytbbhokodleaheaa
open Go.RowKit
theorem MF.same {w w' : World} {K : TypeId} {b n : Nat} {F : Value → Option Value} (h : MF w K b n F) (e : w'.heap[b]? = w.heap[b]?) : MF w' K b n F := by
  obtain ⟨D, ⟨es, clock, hb, r⟩, h2⟩ := h
  exact ⟨D, ⟨es, clock, e.trans hb, r⟩, h2⟩
structure SB where
  X : Nat
  p : Nat
  q : Nat
  s : SA
  ao : Option Addr
  n : Nat
  cap : Nat
  l : List SA
def SB.rc (b : SB) (x : ST) : List Value := [.bool x.has, .string x.sum, .int .u64 b.s.fr, .slice b.s.b.ao b.s.b.n b.s.b.cap, .slice b.s.tag.ao b.s.tag.n b.s.tag.cap, .pointer (some ⟨b.p, 0, none⟩), .pointer (some ⟨b.q, 0, none⟩)]
def SB.cc (b : SB) (x : ST) : List Value := [.bool x.cert.isSome, .int .u64 (cvw x.cert : Nat), .string (csm x.cert), .slice b.ao b.n b.cap]
def SB.imm (b : SB) (z : Nat) : Prop := b.s.blk z ∨ GLb elS b.ao b.n b.l z
structure SlotAt (w : World) (f : Nat) (b : SB) (x : ST) : Prop where
  mem : SlC w b.X (b.rc x) (b.cc x)
  sok : b.s.ok w
  sv : b.s.v = x.pre
  P : QS w b.p f x.pv
  Q : QS w b.q f x.cv
  L : GL elS w b.ao b.n b.cap b.l
  lv : b.l.map SA.v = ctx x.cert
  sz : x.sum.size ≤ 1000000
  cz : (csm x.cert).size ≤ 1000000
  vz : cvw x.cert < 18446744073709551616
  pz : b.s.b.n ≤ 1000000 ∧ b.s.tag.n ≤ 1000000
  tz : ∀ s ∈ b.l, s.b.n ≤ 1000000 ∧ s.tag.n ≤ 1000000
  ln : b.n ≤ 100
theorem SlotAt.imm_lt {w : World} {f : Nat} {b : SB} {x : ST} (h : SlotAt w f b x) {z : Nat} (hz : b.imm z) : z < w.heap.size :=
  hz.elim (elS_fine.lt _ w z h.sok) (h.L.lt elS_fine)
theorem SlotAt.keep {w w' : World} {f : Nat} {b : SB} {x : ST} (h : SlotAt w f b x) (hX : w'.heap[b.X]? = w.heap[b.X]?) (hp : w'.heap[b.p]? = w.heap[b.p]?) (hq : w'.heap[b.q]? = w.heap[b.q]?) (hi : ∀ z, b.imm z → w'.heap[z]? = w.heap[z]?) : SlotAt w' f b x :=
  { h with
    mem := hX.trans h.mem
    sok := elS_fine.kept b.s w w' h.sok fun z hz => hi z (.inl hz)
    P := h.P.keep hp
    Q := h.Q.keep hq
    L := h.L.kept elS_fine fun z hz => hi z (.inr hz) }
theorem SlotAt.cell {w : World} {f : Nat} {b : SB} {x : ST} (h : SlotAt w f b x) (j : Nat) : w.cell? ⟨b.X, j, none⟩ = (b.rc x ++ b.cc x)[j]? := Arr.cell h.mem j
theorem SlotAt.lt {w : World} {f : Nat} {b : SB} {x : ST} (h : SlotAt w f b x) : b.X < w.heap.size := Arr.lt h.mem
structure LG (w : World) (base L M n : Nat) (g : GT) (F : Value → Option Value) (B : Nat → SB) (ρ : Nat → Nat) : Prop where
  f1 : 1 ≤ g.f
  f4 : g.f ≤ 4
  lowz : g.low ≤ 4611686018427387895
  viewz : g.view ≤ 4611686018427387903
  lc : LC w L g.f g.low g.view M
  mf : MF w 30 M n F
  here : ∀ k x, g.s k = some x → F (.int .u64 (k : Nat)) = some (.pointer (some ⟨(B k).X, 0, none⟩)) ∧ SlotAt w g.f (B k) x
  win : ∀ k x, g.s k = some x → g.low < k ∧ k ≤ g.low + 8
  no : ∀ v, F v ≠ none → ∃ k : Nat, v = .int .u64 (k : Nat) ∧ g.s k ≠ none
  rL : ρ L = 1
  rM : ρ M = 2
  ro : ∀ k x, g.s k = some x → ρ (B k).X = 3 * k + 4 ∧ ρ (B k).p = 3 * k + 5 ∧ ρ (B k).q = 3 * k + 6 ∧ ∀ z, (B k).imm z → ρ z = 0
  lo : ∀ z, z < base → ρ z = 0
structure Stp (base : Nat) (w w' : World) (ρ ρ' : Nat → Nat) : Prop where
  bel : Below base w w'
  role : ∀ z, z < w.heap.size → ρ' z = ρ z
  keep : ∀ z, z < w.heap.size → ρ z = 0 ∨ ρ z = 3 → w'.heap[z]? = w.heap[z]?
theorem Stp.refl (base : Nat) (w : World) (ρ : Nat → Nat) : Stp base w w ρ ρ := ⟨Below.refl _ _, fun _ _ => rfl, fun _ _ _ => rfl⟩
theorem Stp.trans {base : Nat} {w w1 w2 : World} {ρ ρ1 ρ2 : Nat → Nat} (h : Stp base w w1 ρ ρ1) (k : Stp base w1 w2 ρ1 ρ2) : Stp base w w2 ρ ρ2 :=
  ⟨h.bel.trans k.bel, fun z hz => (k.role z (Nat.lt_of_lt_of_le hz h.bel.size)).trans (h.role z hz), fun z hz h0 => (k.keep z (Nat.lt_of_lt_of_le hz h.bel.size) (by rw [h.role z hz]; exact h0)).trans (h.keep z hz h0)⟩
theorem Stp.sl {base : Nat} {w w' : World} {ρ ρ' : Nat → Nat} (h : Stp base w w' ρ ρ') {ao : Option Addr} {n cap : Nat} {xs : List Int} (S : Sl w ao n cap xs) (hr : ∀ z, sblk ao n z → ρ z = 0) : Sl w' ao n cap xs ∧ ∀ z, sblk ao n z → ρ' z = 0 := by
  have lt : ∀ z, sblk ao n z → z < w.heap.size := fun z hz => Sl.blk_lt (b := ⟨ao, n, cap, xs⟩) S hz
  exact ⟨Sl.kept (b := ⟨ao, n, cap, xs⟩) S fun z hz => h.keep z (lt z hz) (.inl (hr z hz)), fun z hz => (h.role z (lt z hz)).trans (hr z hz)⟩
theorem Stp.sa {base : Nat} {w w' : World} {ρ ρ' : Nat → Nat} (h : Stp base w w' ρ ρ') {s : SA} (S : s.ok w) (hr : ∀ z, s.blk z → ρ z = 0) : s.ok w' ∧ ∀ z, s.blk z → ρ' z = 0 :=
  ⟨elS_fine.kept s w w' S fun z hz => h.keep z (elS_fine.lt s w z S hz) (.inl (hr z hz)), fun z hz => (h.role z (elS_fine.lt s w z S hz)).trans (hr z hz)⟩
section
variable {w w' : World} {base L M n : Nat} {g : GT} {F : Value → Option Value} {B : Nat → SB} {ρ : Nat → Nat}
theorem LG.Llt (h : LG w base L M n g F B ρ) : L < w.heap.size := h.lc.lt
theorem LG.baseL (h : LG w base L M n g F B ρ) : base ≤ L := by
  refine Nat.le_of_not_lt fun hl => ?_
  have := h.lo L hl
  rw [h.rL] at this
  cases this
theorem LG.base_of (h : LG w base L M n g F B ρ) {z : Nat} (hz : ρ z ≠ 0) : base ≤ z := Nat.le_of_not_lt fun hl => hz (h.lo z hl)
theorem LG.step (h : LG w base L M n g F B ρ) {n' : Nat} {F' : Value → Option Value} {b' : SB} {x' : ST} {ρ' : Nat → Nat} (k : Nat) (hlow : g.low < k ∧ k ≤ g.low + 8)
    (hρ : ∀ z, z < w.heap.size → ρ' z = ρ z)
    (hk : ∀ z, z < w.heap.size → ρ z ≠ 2 → ρ z ≠ 3 * k + 4 → ρ z ≠ 3 * k + 5 → ρ z ≠ 3 * k + 6 → w'.heap[z]? = w.heap[z]?)
    (mf' : MF w' 30 M n' F') (hF : F' (.int .u64 (k : Nat)) = some (.pointer (some ⟨b'.X, 0, none⟩))) (hF2 : ∀ y, y ≠ .int .u64 (k : Nat) → F' y = F y)
    (sl : SlotAt w' g.f b' x') (rX : ρ' b'.X = 3 * k + 4) (rp : ρ' b'.p = 3 * k + 5) (rq : ρ' b'.q = 3 * k + 6) (ri : ∀ z, b'.imm z → ρ' z = 0) :
    LG w' base L M n' (g.put k x') F' (fun j => if j = k then b' else B j) ρ' := by
  have hb : base ≤ w.heap.size := Nat.le_trans h.baseL (Nat.le_of_lt h.Llt)
  refine { f1 := h.f1, f4 := h.f4, lowz := h.lowz, viewz := h.viewz, lc := ?_, mf := mf', here := fun j y hy => ?_, win := fun j y hy => ?_, no := fun v hv => ?_, rL := (hρ L h.Llt).trans h.rL, rM := (hρ M h.mf.lt).trans h.rM, ro := fun j y hy => ?_, lo := fun z hz => (hρ z (Nat.lt_of_lt_of_le hz hb)).trans (h.lo z hz) }
  · exact (hk L h.Llt (by rw [h.rL]; omega) (by rw [h.rL]; omega) (by rw [h.rL]; omega) (by rw [h.rL]; omega)).trans h.lc
  · by_cases e : j = k
    · subst e
      rw [g.put_same] at hy
      obtain rfl := Option.some.inj hy
      rw [if_pos rfl]
      exact ⟨hF, sl⟩
    · rw [g.put_other _ _ e] at hy
      rw [if_neg e]
      obtain ⟨h1, h2⟩ := h.here j y hy
      obtain ⟨r1, r2, r3, r4⟩ := h.ro j y hy
      refine ⟨(hF2 _ fun q => e ?_).trans h1, h2.keep (hk _ h2.lt ?_ ?_ ?_ ?_) (hk _ h2.P.lt ?_ ?_ ?_ ?_) (hk _ h2.Q.lt ?_ ?_ ?_ ?_) fun z hz => hk z (h2.imm_lt hz) ?_ ?_ ?_ ?_⟩
      · simp only [Value.int.injEq, true_and] at q
        omega
      all_goals first | (rw [r1]; omega) | (rw [r2]; omega) | (rw [r3]; omega) | (rw [r4 z hz]; omega)
  · by_cases e : j = k
    · rw [e]
      exact hlow
    · rw [g.put_other _ _ e] at hy
      exact h.win j y hy
  · by_cases e : v = .int .u64 (k : Nat)
    · exact ⟨k, e, by rw [g.put_same]; simp⟩
    · rw [hF2 v e] at hv
      obtain ⟨j, rfl, hj⟩ := h.no v hv
      exact ⟨j, rfl, by rw [g.put_other _ _ (fun q => e (by rw [q]))]; exact hj⟩
  · by_cases e : j = k
    · subst e
      rw [if_pos rfl]
      exact ⟨rX, rp, rq, ri⟩
    · rw [g.put_other _ _ e] at hy
      rw [if_neg e]
      obtain ⟨h1, h2⟩ := h.here j y hy
      obtain ⟨r1, r2, r3, r4⟩ := h.ro j y hy
      exact ⟨(hρ _ h2.lt).trans r1, (hρ _ h2.P.lt).trans r2, (hρ _ h2.Q.lt).trans r3, fun z hz => (hρ z (h2.imm_lt hz)).trans (r4 z hz)⟩
def rho (w : World) (ρ : Nat → Nat) (z : Nat) : Nat := if z < w.heap.size then ρ z else 0
theorem rho_old {z : Nat} (hz : z < w.heap.size) : rho w ρ z = ρ z := if_pos hz
theorem rho_new {z : Nat} (hz : w.heap.size ≤ z) : rho w ρ z = 0 := if_neg (by omega)
theorem LG.below (h : LG w base L M n g F B ρ) (hb : Below w.heap.size w w') : LG w' base L M n g F B (rho w ρ) ∧ Stp base w w' ρ (rho w ρ) := by
  have hbs : base ≤ w.heap.size := Nat.le_trans h.baseL (Nat.le_of_lt h.Llt)
  refine ⟨{ h with lc := h.lc.below hb, mf := h.mf.same (hb.block M h.mf.lt), here := fun j y hy => ?_, rL := (rho_old h.Llt).trans h.rL, rM := (rho_old h.mf.lt).trans h.rM, ro := fun j y hy => ?_, lo := fun z hz => (rho_old (Nat.lt_of_lt_of_le hz hbs)).trans (h.lo z hz) }, ⟨hb.mono hbs, fun z hz => rho_old hz, fun z hz _ => hb.block z hz⟩⟩
  · obtain ⟨h1, h2⟩ := h.here j y hy
    exact ⟨h1, h2.keep (hb.block _ h2.lt) (hb.block _ h2.P.lt) (hb.block _ h2.Q.lt) fun z hz => hb.block z (h2.imm_lt hz)⟩
  · obtain ⟨h1, h2⟩ := h.here j y hy
    obtain ⟨r1, r2, r3, r4⟩ := h.ro j y hy
    exact ⟨(rho_old h2.lt).trans r1, (rho_old h2.P.lt).trans r2, (rho_old h2.Q.lt).trans r3, fun z hz => (rho_old (h2.imm_lt hz)).trans (r4 z hz)⟩
end
end Go.Proofs.Ytbbhokodleaheaa
namespace Go.Proofs.Ytbbhokodleaheaa
open Go.RowKit
theorem newST_at {w : World} {f X p q : Nat} (hX : SlC w X [.bool false, .string ⟨#[]⟩, .int .u64 0, .slice none 0 0, .slice none 0 0, .pointer (some ⟨p, 0, none⟩), .pointer (some ⟨q, 0, none⟩)] [.bool false, .int .u64 0, .string ⟨#[]⟩, .slice none 0 0])
    (hp : QS w p f noVotes) (hq : QS w q f noVotes) : SlotAt w f ⟨X, p, q, ⟨0, ⟨none, 0, 0, []⟩, ⟨none, 0, 0, []⟩⟩, none, 0, 0, []⟩ newST where
  mem := hX
  sok := ⟨by show 0 < _; omega, Sl.nothing w, Sl.nothing w⟩
  sv := rfl
  P := hp
  Q := hq
  L := GL.nothing _ _
  lv := rfl
  sz := Nat.zero_le _
  cz := Nat.zero_le _
  vz := by show 0 < _; omega
  pz := ⟨Nat.zero_le _, Nat.zero_le _⟩
  tz := fun _ h => absurd h List.not_mem_nil
  ln := Nat.zero_le _
theorem imm_none {X p q z : Nat} : ¬ SB.imm ⟨X, p, q, ⟨0, ⟨none, 0, 0, []⟩, ⟨none, 0, 0, []⟩⟩, none, 0, 0, []⟩ z := by
  rintro ((⟨a, h, _⟩ | ⟨a, h, _⟩) | (⟨a, h, _⟩ | ⟨x, h, _⟩))
  · cases h
  · cases h
  · cases h
  · cases h
theorem LG.none_at {w : World} {base L M n : Nat} {g : GT} {F : Value → Option Value} {B : Nat → SB} {ρ : Nat → Nat} (h : LG w base L M n g F B ρ) {k : Nat} (hk : g.s k = none) : F (.int .u64 (k : Nat)) = none := by
  cases hf : F (.int .u64 (k : Nat)) with
  | none => rfl
  | some v =>
    obtain ⟨j, e, hj⟩ := h.no _ (by rw [hf]; simp)
    simp only [Value.int.injEq, true_and] at e
    obtain rfl : j = k := by omega
    exact absurd hk hj
def SlotPost (w : World) (base L M n : Nat) (g : GT) (ρ : Nat → Nat) (seq : Nat) (e : Ending) (w' : World) : Prop :=
  ∃ n' F' B' ρ', e = .returned (.pointer (some ⟨(B' seq).X, 0, none⟩)) ∧ LG w' base L M n' (g.put seq (g.slot seq)) F' B' ρ' ∧ Stp base w w' ρ ρ' ∧ n' ≤ n + 1
theorem slot_any (w : World) (base L M n : Nat) (g : GT) (F : Value → Option Value) (B : Nat → SB) (ρ : Nat → Nat) (h : LG w base L M n g F B ρ) (hn : n < maxLen) (seq : Nat) (hs : g.low < seq ∧ seq ≤ g.low + 8) :
    Calls Try.prog 50 #[.pointer (some ⟨L, 0, none⟩), .int .u64 (seq : Nat)] w (SlotPost w base L M n g ρ seq) := by
  have lz := h.lowz
  cases hx : g.s seq with
  | some x =>
    obtain ⟨h1, h2⟩ := h.here seq x hx
    refine (slot_there w L g.f g.low g.view M n seq _ F h.lc h.mf (by omega) h1).mono ?_
    rintro e w' ⟨rfl, rfl⟩
    refine ⟨n, F, B, ρ, rfl, ?_, Stp.refl _ _ _, by omega⟩
    have : g.slot seq = x := by unfold GT.slot; rw [hx]; rfl
    rw [this, g.put_slot seq x hx]
    exact h
  | none =>
    refine (slot_none w L g.f g.low g.view M n seq F h.lc h.f1 h.f4 h.mf hn (by omega) (h.none_at hx)).mono ?_
    rintro e w' ⟨X, p, q, F', rfl, hp, hpq, hqX, Q1, Q2, hX, hM, hF, hF2, hG⟩
    have hsz : g.slot seq = newST := by unfold GT.slot; rw [hx]; rfl
    have hb : base ≤ w.heap.size := Nat.le_trans h.baseL (Nat.le_of_lt h.Llt)
    have hML : base ≤ M := h.base_of (by rw [h.rM]; decide)
    have a1 : X ≠ p := by omega
    have a2 : X ≠ q := by omega
    have a3 : p ≠ q := by omega
    refine ⟨n + 1, F', _, fun z => if z < w.heap.size then ρ z else if z = X then 3 * seq + 4 else if z = p then 3 * seq + 5 else if z = q then 3 * seq + 6 else 0, ?_, h.step (b' := ⟨X, p, q, ⟨0, ⟨none, 0, 0, []⟩, ⟨none, 0, 0, []⟩⟩, none, 0, 0, []⟩) seq hs (fun z hz => if_pos hz) (fun z hz r2 _ _ _ => hG.block z hz fun e => r2 ?_) hM hF hF2 ?_ ?_ ?_ ?_ fun z hz => absurd hz imm_none, ⟨⟨hG.os, hG.tape, hG.output, hG.size, fun z hz => hG.block z (by omega) fun e => ?_⟩, fun z hz => if_pos hz, fun z hz h0 => hG.block z hz fun e => ?_⟩, Nat.le_refl _⟩
    · simp only [if_true]
    · obtain rfl := Option.some.inj e
      exact h.rM
    · rw [hsz]
      exact newST_at hX Q1 Q2
    · show (if X < w.heap.size then _ else _) = _
      rw [if_neg (by omega), if_pos rfl]
    · show (if p < w.heap.size then _ else _) = _
      rw [if_neg (by omega), if_neg (fun e => a1 e.symm), if_pos rfl]
    · show (if q < w.heap.size then _ else _) = _
      rw [if_neg (by omega), if_neg (fun e => a2 e.symm), if_neg (fun e => a3 e.symm), if_pos rfl]
    · have := Option.some.inj e
      omega
    · obtain rfl := Option.some.inj e
      rw [h.rM] at h0
      omega
end Go.Proofs.Ytbbhokodleaheaa
namespace Go
section
variable {P : Program} {ops : Array Oper} {S : World → Prop} {Q : Exit → Act → World → Prop} {fuel : Nat} {listed : Array Bool} {a : Act} {w : World}
theorem hr_two {i j : Nat} (hr : Region.ready .any ops listed = [i, j]) (h1 : wpOp P ops (NoPanic Q) i (fun a' w' => S w' ∧ wpAnyH P .any ops (NoPanic Q) S fuel (listed.setIfInBounds i true) a' w') a w)
    (h2 : wpOp P ops (NoPanic Q) j (fun a' w' => S w' ∧ wpAnyH P .any ops (NoPanic Q) S fuel (listed.setIfInBounds j true) a' w') a w) : wpAnyH P .any ops (NoPanic Q) S (fuel + 1) listed a w := by
  refine wpAnyH_all hr (by simp) fun k hk => ?_
  simp only [List.mem_cons, List.not_mem_nil, or_false] at hk
  rcases hk with rfl | rfl
  · exact h1
  · exact h2
end
end Go
namespace Go.Proofs.Ytbbhokodleaheaa
open Go.RowKit
theorem str_sb (s : ByteArray) : strOfNums (sb s) = s := sb_inj (sb_str (sb_byte s))
theorem count_sb (w : World) (p f : Nat) (l : List VT) (h : QS w p f l) (ao : Option Addr) (n cap : Nat) (s : ByteArray) (S : Sl w ao n cap (sb s)) : Calls Try.prog 45 #[.pointer (some ⟨p, 0, none⟩), .slice ao n cap] w fun x w' =>
    x = .returned (.int .i64 (cntV s l : Nat)) ∧ Below w.heap.size w w' := by
  have := count_any w p f l h ao n cap (sb s) S
  rw [str_sb] at this
  exact this
theorem certIn_any (w : World) (f : Nat) (b : SB) (x : ST) (h : SlotAt w f b x) (view : Nat) :
    Calls Try.prog 73 #[.pointer (some ⟨b.X, 0, none⟩), .int .u64 (view : Nat)] w fun e w' => e = .returned (.bool (certIn view x)) ∧ w' = w := by
  have x7 : w.cell? ⟨b.X, 7, none⟩ = some (.bool x.cert.isSome) := h.cell 7
  have x8 : w.cell? ⟨b.X, 8, none⟩ = some (.int .u64 (cvw x.cert : Nat)) := h.cell 8
  have hz := h.vz
  unfold certIn
  clear h
  cases hc : x.cert.isSome with
  | false =>
    rw [hc] at x7
    rw [Bool.false_and]
    go_enter Try.func73, Try.ntmps73
    go_wp2
    go_ret
    exact ⟨rfl, rfl⟩
  | true =>
    rw [hc] at x7
    rw [Bool.true_and]
    by_cases e : cvw x.cert = view
    · have t : ((cvw x.cert : Int) == (view : Int)) = true := by simp; omega
      rw [decide_eq_true e]
      clear e
      go_enter Try.func73, Try.ntmps73
      go_wp2
      go_ret
      exact ⟨rfl, rfl⟩
    · have t : ((cvw x.cert : Int) == (view : Int)) = false := by simp; omega
      rw [decide_eq_false e]
      clear e
      go_enter Try.func73, Try.ntmps73
      go_wp2
      go_ret
      exact ⟨rfl, rfl⟩
set_option maxRecDepth 100000 in
set_option maxHeartbeats 4000000 in
theorem isPrep_any (w : World) (L f low view M : Nat) (hL : LC w L f low view M) (f4 : f ≤ 4) (b : SB) (x : ST) (h : SlotAt w f b x) :
    Calls Try.prog 44 #[.pointer (some ⟨L, 0, none⟩), .pointer (some ⟨b.X, 0, none⟩)] w fun e w' => e = .returned (.bool (prepS f x)) ∧ Below w.heap.size w w' := by
  have HS0 : Hid (∀ V, Below w.heap.size w V → V.cell? ⟨b.X, 0, none⟩ = some (.bool x.has) ∧ V.cell? ⟨b.X, 1, none⟩ = some (.string x.sum) ∧ V.cell? ⟨b.X, 5, none⟩ = some (.pointer (some ⟨b.p, 0, none⟩)) ∧ V.cell? ⟨L, 0, none⟩ = some (.int .i64 (f : Nat))) := fun V hV => by
    have A := Arr.below h.mem hV h.lt
    exact ⟨A.cell 0, A.cell 1, A.cell 5, (hL.below hV).cell 0⟩
  have HQ : Hid (∀ V, Below w.heap.size w V → QS V b.p f x.pv) := fun V hV => h.P.below hV
  have HZ : Hid (x.sum.size ≤ 1000000) := h.sz
  have HF : Hid (∀ c : Bool, x.has = c → prepS f x = (c && decide (2 * f ≤ cntV x.sum x.pv))) := fun c e => by unfold prepS; rw [e]
  have mw : IntKind.i64.wrap (2 * (f : Int)) = 2 * (f : Int) := by rw [IntKind.wrap_i64]; omega
  clear h hL
  cases hh : x.has with
  | false =>
    rw [HF.out _ hh, Bool.false_and]
    rw [hh] at HS0
    clear HF
    go_enter Try.func44, Try.ntmps44
    go_wp2_with fail
    have tHS : Hid (∀ V, Below w.heap.size w V → V.cell? ⟨b.X, 0, none⟩ = some (.bool false) ∧ V.cell? ⟨b.X, 1, none⟩ = some (.string x.sum) ∧ V.cell? ⟨b.X, 5, none⟩ = some (.pointer (some ⟨b.p, 0, none⟩)) ∧ V.cell? ⟨L, 0, none⟩ = some (.int .i64 (f : Nat))) := fun V hV => ⟨(HS0.out V hV).1, (HS0.out V hV).2.1, (HS0.out V hV).2.2.1, (HS0.out V hV).2.2.2⟩
    have tE0 : Below w.heap.size w w.drew := (Below.refl _ _).drew
    refine wp_region_noPanic ?_
    refine wp_region_held_drew (S := fun V => V.cell? ⟨b.X, 0, none⟩ = some (.bool false) ∧ V.cell? ⟨b.X, 1, none⟩ = some (.string x.sum) ∧ V.cell? ⟨b.X, 5, none⟩ = some (.pointer (some ⟨b.p, 0, none⟩)) ∧ V.cell? ⟨L, 0, none⟩ = some (.int .i64 (f : Nat))) (by kernel_rfl) (tHS.out _ tE0) (fun tH0 => ?_)
    obtain ⟨tv0, hv0⟩ : ∃ v, v = w.drew := ⟨_, rfl⟩
    rw [← hv0] at tH0 tE0 ⊢
    clear hv0
    refine hr_take_w 0 (some 5) (.pointer (some ⟨b.X, 0, none⟩)) rfl rfl (by kernel_rfl) (by kernel_rfl) (by kernel_rfl) rfl (fun W hW => by obtain ⟨h0, h1, h2, h3⟩ := hW; go_simp) tH0 ?_
    simp only [FL]
    refine hr_take_w 1 (some 6) (.pointer (some ⟨b.X, 0, none⟩)) rfl rfl (by kernel_rfl) (by kernel_rfl) (by kernel_rfl) rfl (fun W hW => by obtain ⟨h0, h1, h2, h3⟩ := hW; go_simp) tH0 ?_
    simp only [FL]
    refine hr_take_w 2 (some 7) (.pointer (some ⟨b.X, 0, none⟩)) rfl rfl (by kernel_rfl) (by kernel_rfl) (by kernel_rfl) rfl (fun W hW => by obtain ⟨h0, h1, h2, h3⟩ := hW; go_simp) tH0 ?_
    simp only [FL]
    refine hr_take_w 3 (some 8) (.pointer (some ⟨b.X, 0, none⟩)) rfl rfl (by kernel_rfl) (by kernel_rfl) (by kernel_rfl) rfl (fun W hW => by obtain ⟨h0, h1, h2, h3⟩ := hW; go_simp) tH0 ?_
    simp only [FL]
    refine hr_take_w 4 (some 9) (.bool false) rfl rfl (by kernel_rfl) (by kernel_rfl) (by kernel_rfl) rfl (fun W hW => by obtain ⟨h0, h1, h2, h3⟩ := hW; go_simp) tH0 ?_
    simp only [FL]
    refine hr_take_w 5 (some 10) (.bool false) rfl rfl (by kernel_rfl) (by kernel_rfl) (by kernel_rfl) rfl (fun W hW => by obtain ⟨h0, h1, h2, h3⟩ := hW; go_simp) tH0 ?_
    simp only [FL]
    refine hr_none 6 (some 11) rfl rfl (by kernel_rfl) (by kernel_rfl) (by kernel_rfl) rfl tH0 ?_
    simp only [FL]
    refine hr_none 7 (some 12) rfl rfl (by kernel_rfl) (by kernel_rfl) (by kernel_rfl) rfl tH0 ?_
    simp only [FL]
    refine hr_none 8 (some 13) rfl rfl (by kernel_rfl) (by kernel_rfl) (by kernel_rfl) rfl tH0 ?_
    simp only [FL]
    refine hr_none 9 (some 14) rfl rfl (by kernel_rfl) (by kernel_rfl) (by kernel_rfl) rfl tH0 ?_
    simp only [FL]
    refine hr_none 10 (some 15) rfl rfl (by kernel_rfl) (by kernel_rfl) (by kernel_rfl) rfl tH0 ?_
    simp only [FL]
    refine hr_none 11 (some 16) rfl rfl (by kernel_rfl) (by kernel_rfl) (by kernel_rfl) rfl tH0 ?_
    simp only [FL]
    refine hr_none 12 (some 17) rfl rfl (by kernel_rfl) (by kernel_rfl) (by kernel_rfl) rfl tH0 ?_
    simp only [FL]
    refine hr_none 13 (some 18) rfl rfl (by kernel_rfl) (by kernel_rfl) (by kernel_rfl) rfl tH0 ?_
    simp only [FL]
    refine hr_none 14 (some 19) rfl rfl (by kernel_rfl) (by kernel_rfl) (by kernel_rfl) rfl tH0 ?_
    simp only [FL]
    refine hr_none 15 (some 20) rfl rfl (by kernel_rfl) (by kernel_rfl) (by kernel_rfl) rfl tH0 ?_
    simp only [FL]
    refine hr_none 16 (some 21) rfl rfl (by kernel_rfl) (by kernel_rfl) (by kernel_rfl) rfl tH0 ?_
    simp only [FL]
    refine hr_none 17 (some 22) rfl rfl (by kernel_rfl) (by kernel_rfl) (by kernel_rfl) rfl tH0 ?_
    simp only [FL]
    refine hr_none 18 (some 23) rfl rfl (by kernel_rfl) (by kernel_rfl) (by kernel_rfl) rfl tH0 ?_
    simp only [FL]
    refine hr_none 19 (some 24) rfl rfl (by kernel_rfl) (by kernel_rfl) (by kernel_rfl) rfl tH0 ?_
    simp only [FL]
    refine hr_none 20 (some 25) rfl rfl (by kernel_rfl) (by kernel_rfl) (by kernel_rfl) rfl tH0 ?_
    simp only [FL]
    refine hr_none 21 (some 26) rfl rfl (by kernel_rfl) (by kernel_rfl) (by kernel_rfl) rfl tH0 ?_
    simp only [FL]
    refine hr_none 22 (some 27) rfl rfl (by kernel_rfl) (by kernel_rfl) (by kernel_rfl) rfl tH0 ?_
    simp only [FL]
    refine hr_none 23 (some 28) rfl rfl (by kernel_rfl) (by kernel_rfl) (by kernel_rfl) rfl tH0 ?_
    simp only [FL]
    refine hr_take_w 24 (some 29) (.bool false) rfl rfl (by kernel_rfl) (by kernel_rfl) (by kernel_rfl) rfl (fun W hW => by obtain ⟨h0, h1, h2, h3⟩ := hW; go_simp) tH0 ?_
    simp only [FL]
    refine hr_take_w 25 (some 4) (.bool false) rfl rfl (by kernel_rfl) (by kernel_rfl) (by kernel_rfl) rfl (fun W hW => by obtain ⟨h0, h1, h2, h3⟩ := hW; go_simp) tH0 ?_
    simp only [FL]
    refine wpAnyH_done (by kernel_rfl) ?_ _
    refine NoPanic.normal ?_
    go_wp2
    go_ret
    exact ⟨rfl, tE0⟩
  | true =>
    rw [HF.out _ hh, Bool.true_and]
    rw [hh] at HS0
    clear HF
    by_cases c2 : 2 * f ≤ cntV x.sum x.pv
    · have i2 : 2 * (f : Int) ≤ (cntV x.sum x.pv : Int) := by omega
      have d2 : decide (2 * (f : Int) ≤ (cntV x.sum x.pv : Int)) = true := decide_eq_true i2
      rw [decide_eq_true c2]
      go_enter Try.func44, Try.ntmps44
      go_wp2_with fail
      have tHS : Hid (∀ V, Below w.heap.size w V → V.cell? ⟨b.X, 0, none⟩ = some (.bool true) ∧ V.cell? ⟨b.X, 1, none⟩ = some (.string x.sum) ∧ V.cell? ⟨b.X, 5, none⟩ = some (.pointer (some ⟨b.p, 0, none⟩)) ∧ V.cell? ⟨L, 0, none⟩ = some (.int .i64 (f : Nat))) := fun V hV => ⟨(HS0.out V hV).1, (HS0.out V hV).2.1, (HS0.out V hV).2.2.1, (HS0.out V hV).2.2.2⟩
      have tE0 : Below w.heap.size w w.drew := (Below.refl _ _).drew
      refine wp_region_noPanic ?_
      refine wp_region_held_drew (S := fun V => V.cell? ⟨b.X, 0, none⟩ = some (.bool true) ∧ V.cell? ⟨b.X, 1, none⟩ = some (.string x.sum) ∧ V.cell? ⟨b.X, 5, none⟩ = some (.pointer (some ⟨b.p, 0, none⟩)) ∧ V.cell? ⟨L, 0, none⟩ = some (.int .i64 (f : Nat))) (by kernel_rfl) (tHS.out _ tE0) (fun tH0 => ?_)
      obtain ⟨tv0, hv0⟩ : ∃ v, v = w.drew := ⟨_, rfl⟩
      rw [← hv0] at tH0 tE0 ⊢
      clear hv0
      refine hr_take_w 0 (some 5) (.pointer (some ⟨b.X, 0, none⟩)) rfl rfl (by kernel_rfl) (by kernel_rfl) (by kernel_rfl) rfl (fun W hW => by obtain ⟨h0, h1, h2, h3⟩ := hW; go_simp) tH0 ?_
      simp only [FL]
      refine hr_take_w 1 (some 6) (.pointer (some ⟨b.X, 0, none⟩)) rfl rfl (by kernel_rfl) (by kernel_rfl) (by kernel_rfl) rfl (fun W hW => by obtain ⟨h0, h1, h2, h3⟩ := hW; go_simp) tH0 ?_
      simp only [FL]
      refine hr_take_w 2 (some 7) (.pointer (some ⟨b.X, 0, none⟩)) rfl rfl (by kernel_rfl) (by kernel_rfl) (by kernel_rfl) rfl (fun W hW => by obtain ⟨h0, h1, h2, h3⟩ := hW; go_simp) tH0 ?_
      simp only [FL]
      refine hr_take_w 3 (some 8) (.pointer (some ⟨b.X, 0, none⟩)) rfl rfl (by kernel_rfl) (by kernel_rfl) (by kernel_rfl) rfl (fun W hW => by obtain ⟨h0, h1, h2, h3⟩ := hW; go_simp) tH0 ?_
      simp only [FL]
      refine hr_take_w 4 (some 9) (.bool true) rfl rfl (by kernel_rfl) (by kernel_rfl) (by kernel_rfl) rfl (fun W hW => by obtain ⟨h0, h1, h2, h3⟩ := hW; go_simp) tH0 ?_
      simp only [FL]
      refine hr_take_w 5 (some 10) (.bool true) rfl rfl (by kernel_rfl) (by kernel_rfl) (by kernel_rfl) rfl (fun W hW => by obtain ⟨h0, h1, h2, h3⟩ := hW; go_simp) tH0 ?_
      simp only [FL]
      refine hr_take_w 6 (some 11) (.pointer (some ⟨b.X, 0, none⟩)) rfl rfl (by kernel_rfl) (by kernel_rfl) (by kernel_rfl) rfl (fun W hW => by obtain ⟨h0, h1, h2, h3⟩ := hW; go_simp) tH0 ?_
      simp only [FL]
      refine hr_take_w 7 (some 12) (.pointer (some ⟨b.X, 0, none⟩)) rfl rfl (by kernel_rfl) (by kernel_rfl) (by kernel_rfl) rfl (fun W hW => by obtain ⟨h0, h1, h2, h3⟩ := hW; go_simp) tH0 ?_
      simp only [FL]
      refine hr_take_w 8 (some 13) (.pointer (some ⟨b.X, 0, none⟩)) rfl rfl (by kernel_rfl) (by kernel_rfl) (by kernel_rfl) rfl (fun W hW => by obtain ⟨h0, h1, h2, h3⟩ := hW; go_simp) tH0 ?_
      simp only [FL]
      refine hr_take_w 9 (some 14) (.pointer (some ⟨b.X, 5, none⟩)) rfl rfl (by kernel_rfl) (by kernel_rfl) (by kernel_rfl) rfl (fun W hW => by obtain ⟨h0, h1, h2, h3⟩ := hW; go_simp) tH0 ?_
      simp only [FL]
      refine hr_take_w 10 (some 15) (.pointer (some ⟨b.p, 0, none⟩)) rfl rfl (by kernel_rfl) (by kernel_rfl) (by kernel_rfl) rfl (fun W hW => by obtain ⟨h0, h1, h2, h3⟩ := hW; go_simp) tH0 ?_
      simp only [FL]
      refine hr_take_w 11 (some 16) (.pointer (some ⟨b.X, 0, none⟩)) rfl rfl (by kernel_rfl) (by kernel_rfl) (by kernel_rfl) rfl (fun W hW => by obtain ⟨h0, h1, h2, h3⟩ := hW; go_simp) tH0 ?_
      simp only [FL]
      refine hr_take_w 12 (some 17) (.pointer (some ⟨b.X, 0, none⟩)) rfl rfl (by kernel_rfl) (by kernel_rfl) (by kernel_rfl) rfl (fun W hW => by obtain ⟨h0, h1, h2, h3⟩ := hW; go_simp) tH0 ?_
      simp only [FL]
      refine hr_take_w 13 (some 18) (.pointer (some ⟨b.X, 0, none⟩)) rfl rfl (by kernel_rfl) (by kernel_rfl) (by kernel_rfl) rfl (fun W hW => by obtain ⟨h0, h1, h2, h3⟩ := hW; go_simp) tH0 ?_
      simp only [FL]
      refine hr_take_w 14 (some 19) (.pointer (some ⟨b.X, 1, none⟩)) rfl rfl (by kernel_rfl) (by kernel_rfl) (by kernel_rfl) rfl (fun W hW => by obtain ⟨h0, h1, h2, h3⟩ := hW; go_simp) tH0 ?_
      simp only [FL]
      refine hr_take_w 15 (some 20) (.string x.sum) rfl rfl (by kernel_rfl) (by kernel_rfl) (by kernel_rfl) rfl (fun W hW => by obtain ⟨h0, h1, h2, h3⟩ := hW; go_simp) tH0 ?_
      simp only [FL]
      refine hr_take_w 18 (some 23) (.pointer (some ⟨L, 0, none⟩)) rfl rfl (by kernel_rfl) (by kernel_rfl) (by kernel_rfl) rfl (fun W hW => by obtain ⟨h0, h1, h2, h3⟩ := hW; go_simp) tH0 ?_
      simp only [FL]
      refine hr_take_w 19 (some 24) (.pointer (some ⟨L, 0, none⟩)) rfl rfl (by kernel_rfl) (by kernel_rfl) (by kernel_rfl) rfl (fun W hW => by obtain ⟨h0, h1, h2, h3⟩ := hW; go_simp) tH0 ?_
      simp only [FL]
      refine hr_take_w 20 (some 25) (.pointer (some ⟨L, 0, none⟩)) rfl rfl (by kernel_rfl) (by kernel_rfl) (by kernel_rfl) rfl (fun W hW => by obtain ⟨h0, h1, h2, h3⟩ := hW; go_simp) tH0 ?_
      simp only [FL]
      refine hr_take_w 21 (some 26) (.int .i64 (f : Nat)) rfl rfl (by kernel_rfl) (by kernel_rfl) (by kernel_rfl) rfl (fun W hW => by obtain ⟨h0, h1, h2, h3⟩ := hW; go_simp) tH0 ?_
      simp only [FL]
      refine hr_take_w 22 (some 27) (.int .i64 (2 * (f : Int))) rfl rfl (by kernel_rfl) (by kernel_rfl) (by kernel_rfl) rfl (fun W hW => by obtain ⟨h0, h1, h2, h3⟩ := hW; go_simp) tH0 ?_
      simp only [FL]
      refine hr_ex 16 (some 21) rfl rfl (by kernel_rfl) rfl (R := fun v w' => ∃ g c, v = .slice (some ⟨g, 0, none⟩) x.sum.size c ∧ Sl w' (some ⟨g, 0, none⟩) x.sum.size c (sb x.sum) ∧ Below tv0.heap.size tv0 w') (by have hr := Lib.run_convert_string_bytes (P := Try.prog) tv0 9 35 5 x.sum Try.underlying9 Try.underlying35 Try.underlying5; exact ⟨_, _, by go_simp, _, _, rfl, bytesWorld_sl tv0 x.sum (by have := HZ.out; omega), bytesWorld_below tv0 x.sum⟩) ?_
      rintro v tv1 ⟨g, c, rfl, tG0, tC0⟩
      have tE1 := tE0.trans (tC0.mono tE0.size)
      have tH1 := tHS.out tv1 tE1
      refine ⟨tH1, ?_⟩
      simp only [FL]
      refine hr_call_w 17 (some 22) 45 #[.pointer (some ⟨b.p, 0, none⟩), .slice (some ⟨g, 0, none⟩) x.sum.size c] rfl rfl (by kernel_rfl) rfl (by go_simp) (fun v w' => v = .int .i64 (cntV x.sum x.pv : Nat) ∧ Below tv1.heap.size tv1 w') ((count_sb tv1 b.p f x.pv (HQ.out tv1 tE1) _ _ _ x.sum tG0).mono (by
        rintro e w' ⟨rfl, C⟩
        exact ⟨_, rfl, rfl, C⟩)) ?_
      rintro v tv2 ⟨rfl, tC1⟩
      have tE2 := tE1.trans (tC1.mono tE1.size)
      have tH2 := tHS.out tv2 tE2
      refine ⟨tH2, ?_⟩
      simp only [FL]
      refine hr_take_w 23 (some 28) (.bool true) rfl rfl (by kernel_rfl) (by kernel_rfl) (by kernel_rfl) rfl (fun W hW => by obtain ⟨h0, h1, h2, h3⟩ := hW; go_simp) tH2 ?_
      simp only [FL]
      refine hr_take_w 24 (some 29) (.bool true) rfl rfl (by kernel_rfl) (by kernel_rfl) (by kernel_rfl) rfl (fun W hW => by obtain ⟨h0, h1, h2, h3⟩ := hW; go_simp) tH2 ?_
      simp only [FL]
      refine hr_take_w 25 (some 4) (.bool true) rfl rfl (by kernel_rfl) (by kernel_rfl) (by kernel_rfl) rfl (fun W hW => by obtain ⟨h0, h1, h2, h3⟩ := hW; go_simp) tH2 ?_
      simp only [FL]
      refine wpAnyH_done (by kernel_rfl) ?_ _
      refine NoPanic.normal ?_
      go_wp2
      go_ret
      exact ⟨rfl, tE2⟩
    · have i2 : ¬ 2 * (f : Int) ≤ (cntV x.sum x.pv : Int) := by omega
      have d2 : decide (2 * (f : Int) ≤ (cntV x.sum x.pv : Int)) = false := decide_eq_false i2
      rw [decide_eq_false c2]
      go_enter Try.func44, Try.ntmps44
      go_wp2_with fail
      have tHS : Hid (∀ V, Below w.heap.size w V → V.cell? ⟨b.X, 0, none⟩ = some (.bool true) ∧ V.cell? ⟨b.X, 1, none⟩ = some (.string x.sum) ∧ V.cell? ⟨b.X, 5, none⟩ = some (.pointer (some ⟨b.p, 0, none⟩)) ∧ V.cell? ⟨L, 0, none⟩ = some (.int .i64 (f : Nat))) := fun V hV => ⟨(HS0.out V hV).1, (HS0.out V hV).2.1, (HS0.out V hV).2.2.1, (HS0.out V hV).2.2.2⟩
      have tE0 : Below w.heap.size w w.drew := (Below.refl _ _).drew
      refine wp_region_noPanic ?_
      refine wp_region_held_drew (S := fun V => V.cell? ⟨b.X, 0, none⟩ = some (.bool true) ∧ V.cell? ⟨b.X, 1, none⟩ = some (.string x.sum) ∧ V.cell? ⟨b.X, 5, none⟩ = some (.pointer (some ⟨b.p, 0, none⟩)) ∧ V.cell? ⟨L, 0, none⟩ = some (.int .i64 (f : Nat))) (by kernel_rfl) (tHS.out _ tE0) (fun tH0 => ?_)
      obtain ⟨tv0, hv0⟩ : ∃ v, v = w.drew := ⟨_, rfl⟩
      rw [← hv0] at tH0 tE0 ⊢
      clear hv0
      refine hr_take_w 0 (some 5) (.pointer (some ⟨b.X, 0, none⟩)) rfl rfl (by kernel_rfl) (by kernel_rfl) (by kernel_rfl) rfl (fun W hW => by obtain ⟨h0, h1, h2, h3⟩ := hW; go_simp) tH0 ?_
      simp only [FL]
      refine hr_take_w 1 (some 6) (.pointer (some ⟨b.X, 0, none⟩)) rfl rfl (by kernel_rfl) (by kernel_rfl) (by kernel_rfl) rfl (fun W hW => by obtain ⟨h0, h1, h2, h3⟩ := hW; go_simp) tH0 ?_
      simp only [FL]
      refine hr_take_w 2 (some 7) (.pointer (some ⟨b.X, 0, none⟩)) rfl rfl (by kernel_rfl) (by kernel_rfl) (by kernel_rfl) rfl (fun W hW => by obtain ⟨h0, h1, h2, h3⟩ := hW; go_simp) tH0 ?_
      simp only [FL]
      refine hr_take_w 3 (some 8) (.pointer (some ⟨b.X, 0, none⟩)) rfl rfl (by kernel_rfl) (by kernel_rfl) (by kernel_rfl) rfl (fun W hW => by obtain ⟨h0, h1, h2, h3⟩ := hW; go_simp) tH0 ?_
      simp only [FL]
      refine hr_take_w 4 (some 9) (.bool true) rfl rfl (by kernel_rfl) (by kernel_rfl) (by kernel_rfl) rfl (fun W hW => by obtain ⟨h0, h1, h2, h3⟩ := hW; go_simp) tH0 ?_
      simp only [FL]
      refine hr_take_w 5 (some 10) (.bool true) rfl rfl (by kernel_rfl) (by kernel_rfl) (by kernel_rfl) rfl (fun W hW => by obtain ⟨h0, h1, h2, h3⟩ := hW; go_simp) tH0 ?_
      simp only [FL]
      refine hr_take_w 6 (some 11) (.pointer (some ⟨b.X, 0, none⟩)) rfl rfl (by kernel_rfl) (by kernel_rfl) (by kernel_rfl) rfl (fun W hW => by obtain ⟨h0, h1, h2, h3⟩ := hW; go_simp) tH0 ?_
      simp only [FL]
      refine hr_take_w 7 (some 12) (.pointer (some ⟨b.X, 0, none⟩)) rfl rfl (by kernel_rfl) (by kernel_rfl) (by kernel_rfl) rfl (fun W hW => by obtain ⟨h0, h1, h2, h3⟩ := hW; go_simp) tH0 ?_
      simp only [FL]
      refine hr_take_w 8 (some 13) (.pointer (some ⟨b.X, 0, none⟩)) rfl rfl (by kernel_rfl) (by kernel_rfl) (by kernel_rfl) rfl (fun W hW => by obtain ⟨h0, h1, h2, h3⟩ := hW; go_simp) tH0 ?_
      simp only [FL]
      refine hr_take_w 9 (some 14) (.pointer (some ⟨b.X, 5, none⟩)) rfl rfl (by kernel_rfl) (by kernel_rfl) (by kernel_rfl) rfl (fun W hW => by obtain ⟨h0, h1, h2, h3⟩ := hW; go_simp) tH0 ?_
      simp only [FL]
      refine hr_take_w 10 (some 15) (.pointer (some ⟨b.p, 0, none⟩)) rfl rfl (by kernel_rfl) (by kernel_rfl) (by kernel_rfl) rfl (fun W hW => by obtain ⟨h0, h1, h2, h3⟩ := hW; go_simp) tH0 ?_
      simp only [FL]
      refine hr_take_w 11 (some 16) (.pointer (some ⟨b.X, 0, none⟩)) rfl rfl (by kernel_rfl) (by kernel_rfl) (by kernel_rfl) rfl (fun W hW => by obtain ⟨h0, h1, h2, h3⟩ := hW; go_simp) tH0 ?_
      simp only [FL]
      refine hr_take_w 12 (some 17) (.pointer (some ⟨b.X, 0, none⟩)) rfl rfl (by kernel_rfl) (by kernel_rfl) (by kernel_rfl) rfl (fun W hW => by obtain ⟨h0, h1, h2, h3⟩ := hW; go_simp) tH0 ?_
      simp only [FL]
      refine hr_take_w 13 (some 18) (.pointer (some ⟨b.X, 0, none⟩)) rfl rfl (by kernel_rfl) (by kernel_rfl) (by kernel_rfl) rfl (fun W hW => by obtain ⟨h0, h1, h2, h3⟩ := hW; go_simp) tH0 ?_
      simp only [FL]
      refine hr_take_w 14 (some 19) (.pointer (some ⟨b.X, 1, none⟩)) rfl rfl (by kernel_rfl) (by kernel_rfl) (by kernel_rfl) rfl (fun W hW => by obtain ⟨h0, h1, h2, h3⟩ := hW; go_simp) tH0 ?_
      simp only [FL]
      refine hr_take_w 15 (some 20) (.string x.sum) rfl rfl (by kernel_rfl) (by kernel_rfl) (by kernel_rfl) rfl (fun W hW => by obtain ⟨h0, h1, h2, h3⟩ := hW; go_simp) tH0 ?_
      simp only [FL]
      refine hr_take_w 18 (some 23) (.pointer (some ⟨L, 0, none⟩)) rfl rfl (by kernel_rfl) (by kernel_rfl) (by kernel_rfl) rfl (fun W hW => by obtain ⟨h0, h1, h2, h3⟩ := hW; go_simp) tH0 ?_
      simp only [FL]
      refine hr_take_w 19 (some 24) (.pointer (some ⟨L, 0, none⟩)) rfl rfl (by kernel_rfl) (by kernel_rfl) (by kernel_rfl) rfl (fun W hW => by obtain ⟨h0, h1, h2, h3⟩ := hW; go_simp) tH0 ?_
      simp only [FL]
      refine hr_take_w 20 (some 25) (.pointer (some ⟨L, 0, none⟩)) rfl rfl (by kernel_rfl) (by kernel_rfl) (by kernel_rfl) rfl (fun W hW => by obtain ⟨h0, h1, h2, h3⟩ := hW; go_simp) tH0 ?_
      simp only [FL]
      refine hr_take_w 21 (some 26) (.int .i64 (f : Nat)) rfl rfl (by kernel_rfl) (by kernel_rfl) (by kernel_rfl) rfl (fun W hW => by obtain ⟨h0, h1, h2, h3⟩ := hW; go_simp) tH0 ?_
      simp only [FL]
      refine hr_take_w 22 (some 27) (.int .i64 (2 * (f : Int))) rfl rfl (by kernel_rfl) (by kernel_rfl) (by kernel_rfl) rfl (fun W hW => by obtain ⟨h0, h1, h2, h3⟩ := hW; go_simp) tH0 ?_
      simp only [FL]
      refine hr_ex 16 (some 21) rfl rfl (by kernel_rfl) rfl (R := fun v w' => ∃ g c, v = .slice (some ⟨g, 0, none⟩) x.sum.size c ∧ Sl w' (some ⟨g, 0, none⟩) x.sum.size c (sb x.sum) ∧ Below tv0.heap.size tv0 w') (by have hr := Lib.run_convert_string_bytes (P := Try.prog) tv0 9 35 5 x.sum Try.underlying9 Try.underlying35 Try.underlying5; exact ⟨_, _, by go_simp, _, _, rfl, bytesWorld_sl tv0 x.sum (by have := HZ.out; omega), bytesWorld_below tv0 x.sum⟩) ?_
      rintro v tv1 ⟨g, c, rfl, tG0, tC0⟩
      have tE1 := tE0.trans (tC0.mono tE0.size)
      have tH1 := tHS.out tv1 tE1
      refine ⟨tH1, ?_⟩
      simp only [FL]
      refine hr_call_w 17 (some 22) 45 #[.pointer (some ⟨b.p, 0, none⟩), .slice (some ⟨g, 0, none⟩) x.sum.size c] rfl rfl (by kernel_rfl) rfl (by go_simp) (fun v w' => v = .int .i64 (cntV x.sum x.pv : Nat) ∧ Below tv1.heap.size tv1 w') ((count_sb tv1 b.p f x.pv (HQ.out tv1 tE1) _ _ _ x.sum tG0).mono (by
        rintro e w' ⟨rfl, C⟩
        exact ⟨_, rfl, rfl, C⟩)) ?_
      rintro v tv2 ⟨rfl, tC1⟩
      have tE2 := tE1.trans (tC1.mono tE1.size)
      have tH2 := tHS.out tv2 tE2
      refine ⟨tH2, ?_⟩
      simp only [FL]
      refine hr_take_w 23 (some 28) (.bool false) rfl rfl (by kernel_rfl) (by kernel_rfl) (by kernel_rfl) rfl (fun W hW => by obtain ⟨h0, h1, h2, h3⟩ := hW; go_simp) tH2 ?_
      simp only [FL]
      refine hr_take_w 24 (some 29) (.bool false) rfl rfl (by kernel_rfl) (by kernel_rfl) (by kernel_rfl) rfl (fun W hW => by obtain ⟨h0, h1, h2, h3⟩ := hW; go_simp) tH2 ?_
      simp only [FL]
      refine hr_take_w 25 (some 4) (.bool false) rfl rfl (by kernel_rfl) (by kernel_rfl) (by kernel_rfl) rfl (fun W hW => by obtain ⟨h0, h1, h2, h3⟩ := hW; go_simp) tH2 ?_
      simp only [FL]
      refine wpAnyH_done (by kernel_rfl) ?_ _
      refine NoPanic.normal ?_
      go_wp2
      go_ret
      exact ⟨rfl, tE2⟩
end Go.Proofs.Ytbbhokodleaheaa
namespace Go.Proofs.Ytbbhokodleaheaa
open Go.RowKit
def flatE {α : Type} (E : El α) (l : List α) : List Value := (l.map E.c).flatten
variable {α : Type} {E : El α} {w0 w W W' : World} {base : Nat} {v : Value} {l qs : List α} {t s : TypeId} {bytes : Nat} {z : Value}
theorem flatE_app (E : El α) (l m : List α) : flatE E (l ++ m) = flatE E l ++ flatE E m := by simp [flatE]
theorem flatE_one (F : E.Fine) (l : List α) : ∀ u ∈ flatE E l, u.oneCell' = true := by
  intro u hu
  unfold flatE at hu
  obtain ⟨cs, h1, h2⟩ := List.mem_flatten.1 hu
  obtain ⟨c, -, rfl⟩ := List.mem_map.1 h1
  exact F.one c u h2
theorem flatE_len (F : E.Fine) (l : List α) : (flatE E l).length = l.length * E.sz := flat_len E.c E.sz F.len l
theorem GL.flat (F : E.Fine) {ao : Option Addr} {n cap : Nat} (h : GL E w ao n cap qs) {a : Addr} (ha : ao = some a) : ∀ j u, (flatE E qs)[j]? = some u → w.cell? (a.add j) = some u := fun j u hu => by
  have hj := (List.getElem?_eq_some_iff.1 hu).1
  rw [flatE_len F] at hj
  have hz := F.pos
  have hq : j / E.sz < qs.length := (Nat.div_lt_iff_lt_mul hz).2 hj
  have ej : j / E.sz * E.sz + j % E.sz = j := by rw [Nat.mul_comm]; exact Nat.div_add_mod j E.sz
  have hg := flat_get E.c E.sz F.len qs (j / E.sz) (j % E.sz) hq (Nat.mod_lt _ hz)
  rw [ej] at hg
  have := h.cell a ha (j / E.sz) hq (j % E.sz) u (hg.symm.trans hu)
  rw [ej] at this
  exact this
structure GNew (E : El α) (t : TypeId) (w0 W : World) (base : Nat) (v : Value) (l : List α) : Prop where
  row : W.ownsRow base t E.sz v l.length (flatE E l)
  ok : ∀ c ∈ l, E.ok c w0
theorem GNew.gl (F : E.Fine) (h : GNew E t w0 W base v l) (hb : Below w0.heap.size w0 W) : ∃ ao cap, v = .slice ao l.length cap ∧ GL E W ao l.length cap l ∧ ∀ z, sblk ao l.length z → base ≤ z := by
  have hok : ∀ c ∈ l, E.ok c W := fun c hc => F.kept c w0 W (h.ok c hc) fun z hz => hb.block z (F.lt c w0 z (h.ok c hc) hz)
  rcases h.row.2 with ⟨rfl, e⟩ | ⟨g, cap, cur, rfl, a1, a2, a3, a4, a5, a6⟩
  · rw [e]
    have : l = [] := List.eq_nil_of_length_eq_zero e
    subst this
    exact ⟨none, 0, rfl, GL.nothing E W, fun z hz => by obtain ⟨a, ha, _⟩ := hz; cases ha⟩
  · refine ⟨some ⟨g, 0, none⟩, cap, rfl, ⟨rfl, a3, a4, fun h => by simp at h, fun a ha i hi j u hu => ?_, hok⟩, fun z hz => by obtain ⟨a, ha, _, rfl⟩ := hz; cases ha; exact a1⟩
    obtain rfl := Option.some.inj ha
    have hj : j < E.sz := by have := (List.getElem?_eq_some_iff.1 hu).1; rw [F.len] at this; exact this
    refine h.row.cells (g := g) rfl (i * E.sz + j) u ?_
    unfold flatE
    rw [flat_get E.c E.sz F.len l i j hi hj]
    exact hu
theorem src_nil {P : Program} {w : World} {t e : TypeId} {i : TypeInfo} {bo : Option Addr} {c : Nat} (ht : P.underlying t = some (.slice e)) : Src P i.size t (.slice bo 0 c) 0 [] w := by
  refine ⟨.inl ⟨e, ht⟩, fun w' => rfl, ?_, ?_, by simp, by simp⟩ <;> cases bo <;> simp [Builtin.firstCells] <;> rfl
theorem run_appGs (F : E.Fine) (hty : GTy E.sz bytes z t s) (ty : TypeId) (h : GNew E t w0 w base v l) (hb : base ≤ w.heap.size) {bo : Option Addr} {m c : Nat} (hx : GL E w bo m c qs) (hok : ∀ q ∈ qs, E.ok q w0) (hn : (l.length + m) * bytes ≤ 140737488355328) (hm : l.length + m ≤ maxLen) :
    ∃ v' w', (Builtin.append_ #[s, s] ty #[v, .slice bo m c]).run Try.prog w = .ok v' w' ∧ GNew E t w0 w' base v' (l ++ qs) ∧ Below base w w' := by
  obtain ⟨i0, hi, hz0, hz1, hz2⟩ := info_parts hty.info
  have hlen := hx.len
  have key : ∀ d ∈ l ++ qs, E.ok d w0 := fun d hd => by
    rcases List.mem_append.1 hd with hd | hd
    · exact h.ok d hd
    · exact hok d hd
  by_cases h0 : m = 0
  · subst h0
    obtain rfl : qs = [] := List.eq_nil_of_length_eq_zero hlen
    have hv : ∃ ao cap, v = .slice ao l.length cap ∧ l.length ≤ cap := by
      rcases h.row.2 with ⟨rfl, e⟩ | ⟨g, cap, cur, rfl, hg, hh, hle, _⟩
      · rw [e]
        exact ⟨none, 0, rfl, Nat.le_refl _⟩
      · exact ⟨_, cap, rfl, hle⟩
    obtain ⟨ao, cap, rfl, hle⟩ := hv
    refine ⟨_, w, run_append_nothing w s s ty t i0 hty.und hi ao l.length cap hle _ (src_nil hty.und), ⟨?_, key⟩, Below.refl _ _⟩
    simpa using h.row
  · obtain ⟨ad, rfl⟩ : ∃ ad, bo = some ad := by
      cases bo with
      | none => have := (hx.nil rfl).1; omega
      | some ad => exact ⟨ad, rfl⟩
    obtain ⟨v', w', h1, h2, h3, -⟩ := run_append_own (P := Try.prog) w base s ty t i0 _ E.sz bytes hty.und hi hz0 hz1 hz2 hty.zs F.pos v l.length (flatE E l) h.row ad m c (flatE E qs) (by rw [flatE_len F, hlen]) (hx.flat F rfl) (flatE_one F qs) hm hn hb
    refine ⟨v', w', h1, ⟨?_, key⟩, (Below.refl _ w).grown h3 hb (fun k hk => (h.row.lt k hk).1)⟩
    rw [flatE_app, List.length_append, hlen]
    exact h2
theorem run_appG0 (F : E.Fine) (hty : GTy E.sz bytes z t s) (ty : TypeId) {g : Nat} (hbg : base ≤ g) (hg : Arr w g t []) {bo : Option Addr} {m c : Nat} (hx : GL E w bo m c qs) (hok : ∀ q ∈ qs, E.ok q w0) (hn : m * bytes ≤ 140737488355328) (hm : m ≤ 1000000) (hb : base ≤ w.heap.size) :
    ∃ v' w', (Builtin.append_ #[s, s] ty #[.slice (some ⟨g, 0, none⟩) 0 0, .slice bo m c]).run Try.prog w = .ok v' w' ∧ GNew E t w0 w' base v' qs ∧ Below w.heap.size w w' := by
  have hlen := hx.len
  have O : GNew E t w0 w base (.slice (some ⟨g, 0, none⟩) 0 0) ([] : List α) := ⟨⟨by simp [flatE], .inr ⟨g, 0, #[], rfl, hbg, hg, Nat.le_refl _, Nat.zero_le _, by simp, by simp [flatE]⟩⟩, fun _ h => absurd h List.not_mem_nil⟩
  obtain ⟨i0, hi, hz0, hz1, hz2⟩ := info_parts hty.info
  by_cases h0 : m = 0
  · subst h0
    obtain rfl : qs = [] := List.eq_nil_of_length_eq_zero hlen
    exact ⟨_, w, run_append_nothing w s s ty t i0 hty.und hi _ 0 0 (Nat.le_refl _) _ (src_nil hty.und), O, Below.refl _ _⟩
  · obtain ⟨ad, rfl⟩ : ∃ ad, bo = some ad := by
      cases bo with
      | none => have := (hx.nil rfl).1; omega
      | some ad => exact ⟨ad, rfl⟩
    obtain ⟨v', w', hr, h1, -⟩ := run_appGs (w0 := w0) (l := []) F hty ty O hb hx hok (by simpa using hn) (by simp [maxLen]; omega)
    have hr2 := run_append_grow (P := Try.prog) w s ty t i0 _ hty.und hi hz0 ⟨g, 0, none⟩ 0 0 [] (by simp) (fun j v h => by simp at h) ad m c (flatE E qs) (by rw [flatE_len F, hlen, hz1]) (hx.flat F rfl) (by omega) (by omega) (by
        rw [hz2]
        exact growslice_fits (by omega) (by simpa using hn))
    rw [hr] at hr2
    simp only [Result.ok.injEq] at hr2
    obtain ⟨rfl, rfl⟩ := hr2
    exact ⟨_, _, hr, by simpa using h1, (Below.refl _ w).drew.alloc (by simp) _⟩
end Go.Proofs.Ytbbhokodleaheaa
namespace Go.Proofs.Ytbbhokodleaheaa
open Go.RowKit
variable {α : Type} {E : El α} {w0 w W : World} {base : Nat} {v : Value} {l : List α} {t : TypeId}
theorem cells_grown (w : World) (p o : Nat) (vs : List Value) : w.grownBy (w.setCells p o vs) (some p) := by
  induction vs generalizing w o with
  | nil => exact ⟨rfl, rfl, rfl, Nat.le_refl _, fun _ _ _ => rfl⟩
  | cons v vs ih =>
    have h1 : w.grownBy (w.setCell ⟨p, o, none⟩ v) (some p) := grown_set (bel_grown (Below.refl _ w) _) o v
    exact gro_trans h1 (ih _ _)
end Go.Proofs.Ytbbhokodleaheaa
namespace Go.Proofs.Ytbbhokodleaheaa
open Go.RowKit
theorem exec_store {P : Program} {w w' : World} {o : Oper} {a : Act} {t : TypeId} {x y : Operand} {p v : Value} (ho : o.op = .store t x y) (hx : a.eval x = p) (hy : a.eval y = v) (h : (Instr.storeAt t p v).run P w = .ok () w') : (execOp a.eval o).run P w = .ok .skip w' := by
  unfold execOp
  simp only [ho, hx, hy, Sem.run_bind, h, Result.andThen_ok, Sem.run_pure]
def putAt : List Value → Nat → List Value → List Value
  | zs, _, [] => zs
  | zs, o, v :: vs => putAt (zs.set o v) (o + 1) vs
theorem Arr.setAll {g : Nat} {t : TypeId} : ∀ (vs zs : List Value) (o : Nat) (w : World), Arr w g t zs → Arr (w.setCells g o vs) g t (putAt zs o vs)
  | [], _, _, _, h => h
  | v :: vs, zs, o, w, h => Arr.setAll vs (zs.set o v) (o + 1) (w.setCell ⟨g, o, none⟩ v) (h.set o v)
theorem store_row {w : World} {g : Nat} {t : TypeId} {zs cs : List Value} (A : Arr w g t zs) (sz : (Try.prog.info? t).map (·.size) = some cs.length) (hl : zs.length = cs.length) (one : ∀ u ∈ cs, u.oneCell' = true) :
    (Instr.storeAt t (.pointer (some ⟨g, 0, none⟩)) (.agg cs.toArray)).run Try.prog w = .ok () (w.setCells g 0 cs) ∧ w.grownBy (w.setCells g 0 cs) (some g) := by
  refine ⟨run_storeAt_mid w g 0 t cs.toArray (fun j hj => ⟨?_, A.free _⟩) (by simpa using sz) (all_oneCell_toArray one), cells_grown w g 0 cs⟩
  have hj : j < zs.length := by rw [hl]; simpa using hj
  rw [Nat.zero_add, A.cell, List.getElem?_eq_getElem hj]
  rfl
theorem arr_not {w : World} {b base sz n : Nat} {t u : TypeId} {cs xs : List Value} {v : Value} (h : Arr w b t cs) (hne : t ≠ u) (ho : w.ownsRow base u sz v n xs) : v.ownBlock ≠ some b := by
  intro e
  rcases ho.2 with ⟨rfl, _⟩ | ⟨g, cap, cur, rfl, a1, a2, _⟩
  · cases e
  · obtain rfl : g = b := Option.some.inj e
    unfold Arr at h
    rw [h] at a2
    simp only [Option.some.injEq, Obj.cells.injEq] at a2
    exact hne a2.2.1
open Go.RowKit
theorem sgsz : (Try.prog.info? 62).map (·.size) = some 3 := by kernel_rfl
theorem grown_cell {w w' : World} {p b o : Nat} (G : w.grownBy w' (some p)) (hb : b < w.heap.size) (hne : b ≠ p) : w'.cell? ⟨b, o, none⟩ = w.cell? ⟨b, o, none⟩ :=
  World.cell?_of_block (G.block b hb fun e => hne (Option.some.inj e))
theorem sblk_new {w : World} {ro : Option Addr} {n base : Nat} (h : ∀ a, ro = some a → base ≤ a.block ∧ a.block < w.heap.size ∧ a.off = 0 ∧ a.spot = none) : ∀ z, sblk ro n z → base ≤ z := by
  rintro z ⟨a, ha, _, rfl⟩
  exact (h a ha).1
set_option maxHeartbeats 400000 in
set_option maxRecDepth 100000 in
theorem bclone15 (w : World) (ao : Option Addr) (n cap : Nat) (xs : List Int) (h : Sl w ao n cap xs) (hn : n ≤ 1000000) :
    Calls Try.prog 72 #[.slice ao n cap] w fun e w' => ∃ ro rc, e = .returned (.slice ro n rc) ∧ Sl w' ro n rc xs ∧ Below w.heap.size w w' ∧ ∀ z, sblk ro n z → w.heap.size ≤ z := by
  cases ao with
  | none =>
    obtain ⟨rfl, rfl⟩ := h.nil rfl
    obtain rfl : xs = [] := List.eq_nil_of_length_eq_zero h.len
    have hq : ∀ W, _ := fun W => Lib.run_eql_slice_nil (P := Try.prog) W 35 5 none 0 0 0 0 Try.underlying35
    go_enter Try.func72, Try.ntmps72
    go_wp2
    go_ret
    exact ⟨none, 0, rfl, Sl.nothing w, Below.refl _ _, fun z ⟨a, ha, _⟩ => by cases ha⟩
  | some a =>
    have B0 : Below w.heap.size w (w.alloc (.cells #[] 5)) := (Below.refl _ w).alloc (Nat.le_refl _) _
    have h0 := h.below B0
    have o0 : (w.alloc (.cells #[] 5)).ownsRow w.heap.size 5 1 (.slice (some ⟨w.heap.size, 0, none⟩) 0 0) 0 (bv []) := World.ownsRow_made w #[] 0 (Nat.le_refl _) (Nat.zero_le _) rfl
    have hb := h.byte
    have hq : ∀ W, _ := fun W => Lib.run_eql_slice_nil (P := Try.prog) W 35 5 (some a) n cap 0 0 Try.underlying35
    go_enter Try.func72, Try.ntmps72
    go_wp2_with (at_builtin; refine wpList_app rfl _ _ rfl w.heap.size _ _ _ rfl o0 _ _ _ _ rfl h0 (by omega) (by simp) ?_; intro v1 w1 own1 B1)
    simp only [Nat.zero_add, List.nil_append] at own1
    obtain ⟨ro, rc, rfl, S, hbb⟩ := Sl.own own1 hb
    go_wp2
    go_ret
    exact ⟨ro, rc, rfl, S, B0.trans B1, sblk_new hbb⟩
set_option maxRecDepth 100000 in
set_option maxHeartbeats 4000000 in
theorem clone15 (w : World) (s : SA) (h : s.ok w) (hz : s.b.n ≤ 1000000 ∧ s.tag.n ≤ 1000000) :
    Calls Try.prog 51 #[s.val] w fun e w' => ∃ ro rc so sc, e = .returned (.agg #[.int .u64 s.fr, .slice ro s.b.n rc, .slice so s.tag.n sc]) ∧ Sl w' ro s.b.n rc s.b.xs ∧ Sl w' so s.tag.n sc s.tag.xs ∧ Below w.heap.size w w' ∧ (∀ z, sblk ro s.b.n z → w.heap.size ≤ z) ∧ (∀ z, sblk so s.tag.n z → w.heap.size ≤ z) := by
  have HZ : Hid (s.b.n ≤ 1000000 ∧ s.tag.n ≤ 1000000) := hz
  obtain ⟨W1, hW1⟩ : ∃ W1, W1 = (w.alloc (.cells #[.int .u64 s.fr, .slice s.b.ao s.b.n s.b.cap, .slice s.tag.ao s.tag.n s.tag.cap] 62)).alloc (.cells #[.int .u64 0, .slice none 0 0, .slice none 0 0] 62) := ⟨_, rfl⟩
  have b1 : Below w.heap.size w W1 := by rw [hW1]; exact ((Below.refl _ w).alloc (Nat.le_refl _) _).alloc (by simp) _
  have AX : Arr W1 w.heap.size 62 [.int .u64 s.fr, .slice s.b.ao s.b.n s.b.cap, .slice s.tag.ao s.tag.n s.tag.cap] := by
    rw [hW1]
    exact Arr.below (heap_alloc_new w _) ((Below.refl _ _).alloc (Nat.le_refl _) _) (by simp)
  have AY : Arr W1 (w.heap.size + 1) 62 [.int .u64 0, .slice none 0 0, .slice none 0 0] := by
    rw [hW1]
    have e : (w.alloc (.cells #[.int .u64 s.fr, .slice s.b.ao s.b.n s.b.cap, .slice s.tag.ao s.tag.n s.tag.cap] 62)).heap.size = w.heap.size + 1 := by simp
    have := heap_alloc_new (w.alloc (.cells #[.int .u64 s.fr, .slice s.b.ao s.b.n s.b.cap, .slice s.tag.ao s.tag.n s.tag.cap] 62)) (.cells #[.int .u64 0, .slice none 0 0, .slice none 0 0] 62)
    rw [e] at this
    exact this
  have x0 : W1.cell? ⟨w.heap.size, 0, none⟩ = some (.int .u64 s.fr) := AX.cell 0
  have x1 : W1.cell? ⟨w.heap.size, 1, none⟩ = some (.slice s.b.ao s.b.n s.b.cap) := AX.cell 1
  have x2 : W1.cell? ⟨w.heap.size, 2, none⟩ = some (.slice s.tag.ao s.tag.n s.tag.cap) := AX.cell 2
  have HLT : Hid (w.heap.size < W1.heap.size) := AX.lt
  have HOK : Hid (s.ok W1) := h.below b1
  have HBL : Hid (Below w.heap.size w W1) := b1
  have HB : Hid (∀ V, Below W1.heap.size W1 V → Arr V (w.heap.size + 1) 62 [.int .u64 0, .slice none 0 0, .slice none 0 0]) := fun V hV => AY.below hV AY.lt
  have HL2 : Hid (w.heap.size + 1 < W1.heap.size) := AY.lt
  clear AX AY h hz b1
  unfold SA.val
  go_enter Try.func51, Try.ntmps51
  go_wp2_with fail
  trace_state
  rw [← hW1]
  clear hW1
  have HS : Hid (∀ V, Below W1.heap.size W1 V → V.cell? ⟨w.heap.size, 0, none⟩ = some (.int .u64 s.fr) ∧ V.cell? ⟨w.heap.size, 1, none⟩ = some (.slice s.b.ao s.b.n s.b.cap) ∧ V.cell? ⟨w.heap.size, 2, none⟩ = some (.slice s.tag.ao s.tag.n s.tag.cap)) := fun V hV => ⟨(hV.cell (p := ⟨w.heap.size, 0, none⟩) HLT.out).trans x0, (hV.cell (p := ⟨w.heap.size, 1, none⟩) HLT.out).trans x1, (hV.cell (p := ⟨w.heap.size, 2, none⟩) HLT.out).trans x2⟩
  have E0 : Below W1.heap.size W1 W1.drew := (Below.refl _ _).drew
  refine wp_region_noPanic ?_
  refine wp_region_held_drew (S := fun V => V.cell? ⟨w.heap.size, 0, none⟩ = some (.int .u64 s.fr) ∧ V.cell? ⟨w.heap.size, 1, none⟩ = some (.slice s.b.ao s.b.n s.b.cap) ∧ V.cell? ⟨w.heap.size, 2, none⟩ = some (.slice s.tag.ao s.tag.n s.tag.cap)) (by kernel_rfl) (HS.out _ E0) (fun H0 => ?_)
  obtain ⟨v0, hv0⟩ : ∃ v, v = W1.drew := ⟨_, rfl⟩
  rw [← hv0] at H0 E0 ⊢
  clear hv0
  refine hr_take_w 0 (some 3) (.pointer (some ⟨w.heap.size, 0, none⟩)) rfl rfl (by kernel_rfl) (by kernel_rfl) (by kernel_rfl) rfl (fun W hW => by obtain ⟨h0, h1, h2⟩ := hW; go_simp) H0 ?_
  simp only [FL]
  refine hr_take_w 1 (some 4) (.int .u64 s.fr) rfl rfl (by kernel_rfl) (by kernel_rfl) (by kernel_rfl) rfl (fun W hW => by obtain ⟨h0, h1, h2⟩ := hW; go_simp) H0 ?_
  simp only [FL]
  refine hr_take_w 2 (some 5) (.pointer (some ⟨w.heap.size, 1, none⟩)) rfl rfl (by kernel_rfl) (by kernel_rfl) (by kernel_rfl) rfl (fun W hW => by obtain ⟨h0, h1, h2⟩ := hW; go_simp) H0 ?_
  simp only [FL]
  refine hr_take_w 3 (some 6) (.slice s.b.ao s.b.n s.b.cap) rfl rfl (by kernel_rfl) (by kernel_rfl) (by kernel_rfl) rfl (fun W hW => by obtain ⟨h0, h1, h2⟩ := hW; go_simp) H0 ?_
  simp only [FL]
  refine hr_take_w 5 (some 8) (.pointer (some ⟨w.heap.size, 2, none⟩)) rfl rfl (by kernel_rfl) (by kernel_rfl) (by kernel_rfl) rfl (fun W hW => by obtain ⟨h0, h1, h2⟩ := hW; go_simp) H0 ?_
  simp only [FL]
  refine hr_take_w 6 (some 9) (.slice s.tag.ao s.tag.n s.tag.cap) rfl rfl (by kernel_rfl) (by kernel_rfl) (by kernel_rfl) rfl (fun W hW => by obtain ⟨h0, h1, h2⟩ := hW; go_simp) H0 ?_
  simp only [FL]
  · refine hr_call_w 4 (some 7) 72 #[.slice s.b.ao s.b.n s.b.cap] rfl rfl (by kernel_rfl) (by kernel_rfl) (by go_simp) (fun v w' => ∃ ro rc, v = .slice ro s.b.n rc ∧ Sl w' ro s.b.n rc s.b.xs ∧ Below v0.heap.size v0 w' ∧ ∀ z, sblk ro s.b.n z → v0.heap.size ≤ z) ((bclone15 v0 _ _ _ _ (HOK.out.b.below E0) (by have := HZ.out; omega)).mono (by rintro e w' ⟨ro, rc, rfl, h1, h2, h3⟩; exact ⟨_, rfl, ro, rc, rfl, h1, h2, h3⟩)) ?_
    rintro v v1 ⟨ro, rc, rfl, S1, C1, G1⟩
    have E1 := E0.trans (C1.mono E0.size)
    have H1 := HS.out v1 E1
    refine ⟨H1, ?_⟩
    simp only [FL]
    refine hr_call_w 7 (some 10) 72 #[.slice s.tag.ao s.tag.n s.tag.cap] rfl rfl (by kernel_rfl) (by kernel_rfl) (by go_simp) (fun v w' => ∃ ro rc, v = .slice ro s.tag.n rc ∧ Sl w' ro s.tag.n rc s.tag.xs ∧ Below v1.heap.size v1 w' ∧ ∀ z, sblk ro s.tag.n z → v1.heap.size ≤ z) ((bclone15 v1 _ _ _ _ (HOK.out.tag.below E1) (by have := HZ.out; omega)).mono (by rintro e w' ⟨ro, rc, rfl, h1, h2, h3⟩; exact ⟨_, rfl, ro, rc, rfl, h1, h2, h3⟩)) ?_
    rintro v v2 ⟨so, sc, rfl, S2, C2, G2⟩
    have E2 := E1.trans (C2.mono E1.size)
    have H2 := HS.out v2 E2
    have S1 := S1.below C2
    refine ⟨H2, ?_⟩
    simp only [FL]
    refine hr_take_w 8 (some 11) (.agg #[.int .u64 s.fr, .slice ro s.b.n rc, .slice so s.tag.n sc]) rfl rfl (by kernel_rfl) (by kernel_rfl) (by kernel_rfl) rfl (fun W hW => by obtain ⟨h0, h1, h2⟩ := hW; go_simp) H2 ?_
    simp only [FL]
    have AY := HB.out v2 E2
    obtain ⟨st, GR⟩ := store_row AY (cs := [.int .u64 s.fr, .slice ro s.b.n rc, .slice so s.tag.n sc]) sgsz rfl (fun u hu => by simp only [List.mem_cons, List.not_mem_nil, or_false] at hu; rcases hu with rfl | rfl | rfl <;> rfl)
    have AZ : Arr (v2.setCells (w.heap.size + 1) 0 [.int .u64 s.fr, .slice ro s.b.n rc, .slice so s.tag.n sc]) (w.heap.size + 1) 62 [.int .u64 s.fr, .slice ro s.b.n rc, .slice so s.tag.n sc] := AY.setAll [.int .u64 s.fr, .slice ro s.b.n rc, .slice so s.tag.n sc] _ 0 _
    have hlt : w.heap.size < v2.heap.size := Nat.lt_of_lt_of_le HLT.out E2.size
    refine hr_skip 9 none (w' := v2.setCells (w.heap.size + 1) 0 [.int .u64 s.fr, .slice ro s.b.n rc, .slice so s.tag.n sc]) rfl rfl (by kernel_rfl) rfl (exec_store rfl rfl rfl st) ⟨(grown_cell GR hlt (by omega)).trans H2.1, (grown_cell GR hlt (by omega)).trans H2.2.1, (grown_cell GR hlt (by omega)).trans H2.2.2⟩ ?_
    simp only [Act.put]
    refine wpAnyH_done (by kernel_rfl) ?_ _
    refine NoPanic.normal ?_
    go_wp2
    refine bodyPost_ret (v := .agg #[.int .u64 s.fr, .slice ro s.b.n rc, .slice so s.tag.n sc]) (results_cell_row rfl _ _ (w.heap.size + 1) 62 _ _ _ rfl AZ (by rfl) (by rfl) (by rfl)) rfl ?_
    have bb := HBL.out.trans (E2.mono HBL.out.size)
    have l1 : ∀ z, W1.heap.size ≤ z → z ≠ w.heap.size + 1 := fun z hz e => by have := HL2.out; omega
    have gg : Below w.heap.size w (v2.setCells (w.heap.size + 1) 0 [.int .u64 s.fr, .slice ro s.b.n rc, .slice so s.tag.n sc]) := bb.grown GR bb.size (fun j hj => by cases hj; omega)
    have s1 : v0.heap.size ≤ v1.heap.size := C1.size
    have s0 : W1.heap.size ≤ v0.heap.size := E0.size
    have t1 := HL2.out
    exact ⟨ro, rc, so, sc, rfl, Sl.kept (b := ⟨ro, s.b.n, rc, s.b.xs⟩) S1 (fun z hz => GR.block z (Sl.blk_lt (b := ⟨ro, s.b.n, rc, s.b.xs⟩) S1 hz) (fun e => by have := G1 z hz; have := Option.some.inj e; omega)), Sl.kept (b := ⟨so, s.tag.n, sc, s.tag.xs⟩) S2 (fun z hz => GR.block z (Sl.blk_lt (b := ⟨so, s.tag.n, sc, s.tag.xs⟩) S2 hz) (fun e => by have := G2 z hz; have := Option.some.inj e; omega)), gg, fun z hz => by have := G1 z hz; omega, fun z hz => by have := G2 z hz; omega⟩
open Go.RowKit
theorem store_part {w : World} {g o : Nat} {t u : TypeId} {zs cs : List Value} (A : Arr w g t zs) (sz : (Try.prog.info? u).map (·.size) = some cs.length) (hl : o + cs.length ≤ zs.length) (one : ∀ u ∈ cs, u.oneCell' = true) :
    (Instr.storeAt u (.pointer (some ⟨g, o, none⟩)) (.agg cs.toArray)).run Try.prog w = .ok () (w.setCells g o cs) ∧ w.grownBy (w.setCells g o cs) (some g) := by
  refine ⟨run_storeAt_mid w g o u cs.toArray (fun j hj => ⟨?_, A.free _⟩) (by simpa using sz) (all_oneCell_toArray one), cells_grown w g o cs⟩
  have hj : o + j < zs.length := by have : j < cs.length := by simpa using hj
                                    omega
  rw [A.cell, List.getElem?_eq_getElem hj]
  rfl
theorem prfV_mem {s : ByteArray} {y : SV} : ∀ (l : List VT) (i : Nat), y ∈ prfV s i l → ∃ v ∈ l, y.b = sb v.body ∧ y.tag = sb v.tag
  | [], _, h => absurd h List.not_mem_nil
  | v :: l, i, h => by
    unfold prfV at h
    have rc := fun (h : y ∈ prfV s (i + 1) l) => prfV_mem (y := y) l (i + 1) h
    split at h
    · rcases List.mem_cons.1 h with rfl | h
      · exact ⟨v, List.mem_cons_self, rfl, rfl⟩
      · obtain ⟨u, h1, h2⟩ := rc h
        exact ⟨u, List.mem_cons_of_mem _ h1, h2⟩
    · obtain ⟨u, h1, h2⟩ := rc h
      exact ⟨u, List.mem_cons_of_mem _ h1, h2⟩
theorem cesz : (Try.prog.info? 85).map (·.size) = some 4 := by kernel_rfl
theorem made_one (w : World) (s : SA) (h : s.ok w) : GNew elS 62 w (w.alloc (.cells #[.int .u64 s.fr, .slice s.b.ao s.b.n s.b.cap, .slice s.tag.ao s.tag.n s.tag.cap] 62)) w.heap.size (.slice (some ⟨w.heap.size, 0, none⟩) 1 1) [s] :=
  ⟨⟨rfl, .inr ⟨w.heap.size, 1, _, rfl, Nat.le_refl _, heap_alloc_new w _, Nat.le_refl _, by decide, rfl, rfl⟩⟩, fun c hc => by rw [List.mem_singleton.1 hc]; exact h⟩
theorem proof_sb (w : World) (p f : Nat) (l : List VT) (h : QS w p f l) (ao : Option Addr) (m cap : Nat) (s : ByteArray) (S : Sl w ao m cap (sb s)) (n : Nat) (hn : 1 ≤ n) (hc : n ≤ cntV s l) : Calls Try.prog 74 #[.pointer (some ⟨p, 0, none⟩), .slice ao m cap, .int .i64 (n : Nat)] w fun x w' =>
    ∃ ao m cap ys, x = .returned (.slice ao m cap) ∧ GL elS w' ao m cap ys ∧ ys.map SA.v = (prfV s 0 l).take n ∧ Below w.heap.size w w' ∧ ∀ z, GLb elS ao m ys z → w.heap.size ≤ z := by
  have hs := str_sb s
  have := proof_manyF w p f l h ao m cap (sb s) S n hn (by rw [hs]; exact hc)
  rw [hs] at this
  refine this.mono ?_
  rintro x w' ⟨ao, m, cap, ys, h1, h2, h3, h4, h5⟩
  refine ⟨ao, m, cap, ys, h1, h2, ?_, h4, h5⟩
  rw [h3]
  unfold prfN
  rw [if_neg (by omega)]
  rfl
def CertPost (w : World) (base L M n : Nat) (g : GT) (F : Value → Option Value) (ρ : Nat → Nat) (k : Nat) (x : ST) (e : Ending) (w' : World) : Prop :=
  ∃ B' ρ', e = .returned (.tuple #[]) ∧ LG w' base L M n (g.put k (certS g.f g.view x)) F B' ρ' ∧ Stp base w w' ρ ρ'
set_option maxRecDepth 100000 in
set_option maxHeartbeats 4000000 in
theorem certify_yes (w : World) (base L M n : Nat) (g : GT) (F : Value → Option Value) (B : Nat → SB) (ρ : Nat → Nat) (h : LG w base L M n g F B ρ) (k : Nat) (x : ST) (hx : g.s k = some x) (c1 : certIn g.view x = false) (c2 : prepS g.f x = true) :
    Calls Try.prog 52 #[.pointer (some ⟨L, 0, none⟩), .pointer (some ⟨(B k).X, 0, none⟩)] w (CertPost w base L M n g F ρ k x) := by
  obtain ⟨hF, hA⟩ := h.here k x hx
  have HCS : Hid (certS g.f g.view x = { x with cert := some ⟨g.view, x.sum, x.pre :: (prfV x.sum 0 x.pv).take (2 * g.f)⟩ }) := by
    show _ = _
    unfold certS
    rw [c1, c2]
    rfl
  have f1 := h.f1
  have f4 := h.f4
  have C1 := fun V (hV : Below w.heap.size w V) => certIn_any V g.f (B k) x (hA.keep (hV.block _ hA.lt) (hV.block _ hA.P.lt) (hV.block _ hA.Q.lt) fun z hz => hV.block z (hA.imm_lt hz)) g.view
  have C2 := fun V (hV : Below w.heap.size w V) => isPrep_any V L g.f g.low g.view M (h.lc.below hV) f4 (B k) x (hA.keep (hV.block _ hA.lt) (hV.block _ hA.P.lt) (hV.block _ hA.Q.lt) fun z hz => hV.block z (hA.imm_lt hz))
  have HL : Hid (∀ V, Below w.heap.size w V → LC V L g.f g.low g.view M) := fun V hV => h.lc.below hV
  have HX : Hid (∀ V, Below w.heap.size w V → Arr V (B k).X 87 ((B k).rc x ++ (B k).cc x)) := fun V hV => Arr.below hA.mem hV hA.lt
  have HQ : Hid (∀ V, Below w.heap.size w V → QS V (B k).p g.f x.pv) := fun V hV => hA.P.below hV
  have HOK : Hid (∀ V, Below w.heap.size w V → (B k).s.ok V) := fun V hV => hA.sok.below hV
  have HZ : Hid (x.sum.size ≤ 1000000) := hA.sz
  have HC : Hid ((1 ≤ g.f ∧ g.f ≤ 4) ∧ 2 * g.f ≤ cntV x.sum x.pv) := ⟨⟨f1, f4⟩, by
    unfold prepS at c2
    simp at c2
    exact c2.2⟩
  have x2 : w.cell? ⟨L, 2, none⟩ = some (.int .u64 (g.view : Nat)) := h.lc.cell 2
  have HNL : Hid (L ≠ (B k).X) := fun e => by
    have r1 := (h.ro k x hx).1
    rw [← e, h.rL] at r1
    omega
  have HLG : Hid (LG w base L M n g F B ρ ∧ g.s k = some x ∧ SlotAt w g.f (B k) x) := ⟨h, hx, hA⟩
  have mw : IntKind.i64.wrap (2 * (g.f : Int)) = ((2 * g.f : Nat) : Int) := by rw [IntKind.wrap_i64]; omega
  rw [c1] at C1
  rw [c2] at C2
  clear h hF hA hx c1 c2 f1 f4
  go_enter Try.func52, Try.ntmps52
  go_wp2_with (first
    | (go_at_call 73; refine (C1 _ (Below.refl _ _)).mono ?_; rintro e w1 ⟨rfl, hw1⟩; have hw1 := hw1.symm; subst hw1)
    | (go_at_call 44; refine (C2 _ (Below.refl _ _)).mono ?_; rintro e w2 ⟨rfl, EW⟩))
  have tHS : Hid (∀ V, Below w2.heap.size w2 V → V.cell? ⟨(B k).X, 1, none⟩ = some (.string x.sum) ∧ V.cell? ⟨(B k).X, 5, none⟩ = some (.pointer (some ⟨(B k).p, 0, none⟩)) ∧ V.cell? ⟨L, 0, none⟩ = some (.int .i64 (g.f : Nat))) := fun V hV => by have hW := EW.trans (hV.mono EW.size); have K := HX.out V hW; exact ⟨K.cell 1, K.cell 5, (HL.out V hW).cell 0⟩
  have tE0 : Below w2.heap.size w2 w2.drew := (Below.refl _ _).drew
  refine wp_region_noPanic ?_
  refine wp_region_held_drew (S := fun V => V.cell? ⟨(B k).X, 1, none⟩ = some (.string x.sum) ∧ V.cell? ⟨(B k).X, 5, none⟩ = some (.pointer (some ⟨(B k).p, 0, none⟩)) ∧ V.cell? ⟨L, 0, none⟩ = some (.int .i64 (g.f : Nat))) (by kernel_rfl) (tHS.out _ tE0) (fun tH0 => ?_)
  obtain ⟨tv0, hv0⟩ : ∃ v, v = w2.drew := ⟨_, rfl⟩
  rw [← hv0] at tH0 tE0 ⊢
  clear hv0
  refine hr_take_w 0 (some 17) (.pointer (some ⟨(B k).X, 0, none⟩)) rfl rfl (by kernel_rfl) (by kernel_rfl) (by kernel_rfl) rfl (fun W hW => by obtain ⟨h0, h1, h2⟩ := hW; go_simp) tH0 ?_
  simp only [FL]
  refine hr_take_w 1 (some 18) (.pointer (some ⟨(B k).X, 0, none⟩)) rfl rfl (by kernel_rfl) (by kernel_rfl) (by kernel_rfl) rfl (fun W hW => by obtain ⟨h0, h1, h2⟩ := hW; go_simp) tH0 ?_
  simp only [FL]
  refine hr_take_w 2 (some 19) (.pointer (some ⟨(B k).X, 0, none⟩)) rfl rfl (by kernel_rfl) (by kernel_rfl) (by kernel_rfl) rfl (fun W hW => by obtain ⟨h0, h1, h2⟩ := hW; go_simp) tH0 ?_
  simp only [FL]
  refine hr_take_w 3 (some 20) (.pointer (some ⟨(B k).X, 5, none⟩)) rfl rfl (by kernel_rfl) (by kernel_rfl) (by kernel_rfl) rfl (fun W hW => by obtain ⟨h0, h1, h2⟩ := hW; go_simp) tH0 ?_
  simp only [FL]
  refine hr_take_w 4 (some 21) (.pointer (some ⟨(B k).p, 0, none⟩)) rfl rfl (by kernel_rfl) (by kernel_rfl) (by kernel_rfl) rfl (fun W hW => by obtain ⟨h0, h1, h2⟩ := hW; go_simp) tH0 ?_
  simp only [FL]
  refine hr_take_w 5 (some 22) (.pointer (some ⟨(B k).X, 0, none⟩)) rfl rfl (by kernel_rfl) (by kernel_rfl) (by kernel_rfl) rfl (fun W hW => by obtain ⟨h0, h1, h2⟩ := hW; go_simp) tH0 ?_
  simp only [FL]
  refine hr_take_w 6 (some 23) (.pointer (some ⟨(B k).X, 0, none⟩)) rfl rfl (by kernel_rfl) (by kernel_rfl) (by kernel_rfl) rfl (fun W hW => by obtain ⟨h0, h1, h2⟩ := hW; go_simp) tH0 ?_
  simp only [FL]
  refine hr_take_w 7 (some 24) (.pointer (some ⟨(B k).X, 0, none⟩)) rfl rfl (by kernel_rfl) (by kernel_rfl) (by kernel_rfl) rfl (fun W hW => by obtain ⟨h0, h1, h2⟩ := hW; go_simp) tH0 ?_
  simp only [FL]
  refine hr_take_w 8 (some 25) (.pointer (some ⟨(B k).X, 1, none⟩)) rfl rfl (by kernel_rfl) (by kernel_rfl) (by kernel_rfl) rfl (fun W hW => by obtain ⟨h0, h1, h2⟩ := hW; go_simp) tH0 ?_
  simp only [FL]
  refine hr_take_w 9 (some 26) (.string x.sum) rfl rfl (by kernel_rfl) (by kernel_rfl) (by kernel_rfl) rfl (fun W hW => by obtain ⟨h0, h1, h2⟩ := hW; go_simp) tH0 ?_
  simp only [FL]
  refine hr_take_w 11 (some 28) (.pointer (some ⟨L, 0, none⟩)) rfl rfl (by kernel_rfl) (by kernel_rfl) (by kernel_rfl) rfl (fun W hW => by obtain ⟨h0, h1, h2⟩ := hW; go_simp) tH0 ?_
  simp only [FL]
  refine hr_take_w 12 (some 29) (.pointer (some ⟨L, 0, none⟩)) rfl rfl (by kernel_rfl) (by kernel_rfl) (by kernel_rfl) rfl (fun W hW => by obtain ⟨h0, h1, h2⟩ := hW; go_simp) tH0 ?_
  simp only [FL]
  refine hr_take_w 13 (some 30) (.pointer (some ⟨L, 0, none⟩)) rfl rfl (by kernel_rfl) (by kernel_rfl) (by kernel_rfl) rfl (fun W hW => by obtain ⟨h0, h1, h2⟩ := hW; go_simp) tH0 ?_
  simp only [FL]
  refine hr_take_w 14 (some 31) (.int .i64 (g.f : Nat)) rfl rfl (by kernel_rfl) (by kernel_rfl) (by kernel_rfl) rfl (fun W hW => by obtain ⟨h0, h1, h2⟩ := hW; go_simp) tH0 ?_
  simp only [FL]
  refine hr_take_w 15 (some 32) (.int .i64 ((2 * g.f : Nat) : Int)) rfl rfl (by kernel_rfl) (by kernel_rfl) (by kernel_rfl) rfl (fun W hW => by obtain ⟨h0, h1, h2⟩ := hW; go_simp) tH0 ?_
  simp only [FL]
  refine hr_ex 10 (some 27) rfl rfl (by kernel_rfl) rfl (R := fun v w' => ∃ g, v = .slice (some ⟨g, 0, none⟩) x.sum.size (grownCap tv0 x.sum.size 0 5) ∧ Sl w' (some ⟨g, 0, none⟩) x.sum.size (grownCap tv0 x.sum.size 0 5) (sb x.sum) ∧ Below tv0.heap.size tv0 w') (by have hr := Lib.run_convert_string_bytes (P := Try.prog) tv0 9 35 5 x.sum Try.underlying9 Try.underlying35 Try.underlying5; exact ⟨_, _, by go_simp, _, rfl, bytesWorld_sl tv0 x.sum (by have := HZ.out; omega), bytesWorld_below tv0 x.sum⟩) ?_
  rintro v tv1 ⟨cg, rfl, tG0, tC0⟩
  have tE1 := tE0.trans (tC0.mono tE0.size)
  have tH1 := tHS.out tv1 tE1
  refine ⟨tH1, ?_⟩
  simp only [FL]
  refine hr_call_w 16 (some 33) 74 #[.pointer (some ⟨(B k).p, 0, none⟩), .slice (some ⟨cg, 0, none⟩) x.sum.size (grownCap tv0 x.sum.size 0 5), .int .i64 ((2 * g.f : Nat) : Int)] rfl rfl (by kernel_rfl) rfl (by go_simp) (fun v w' => ∃ ao m cap ys, v = .slice ao m cap ∧ (GL elS w' ao m cap ys ∧ ys.map SA.v = (prfV x.sum 0 x.pv).take (2 * g.f) ∧ ∀ z, GLb elS ao m ys z → tv1.heap.size ≤ z) ∧ Below tv1.heap.size tv1 w') ((proof_sb tv1 (B k).p g.f x.pv (HQ.out _ (EW.trans (tE1.mono EW.size))) _ _ _ x.sum tG0 (2 * g.f) (by have := HC.out.1; omega) HC.out.2).mono (by
    rintro e w' ⟨ao, m, cap, ys, rfl, h1, h2, h3, h4⟩
    exact ⟨_, rfl, ao, m, cap, ys, rfl, ⟨h1, h2, h4⟩, h3⟩)) ?_
  rintro v tv2 ⟨ao, m, cap, ys, rfl, ⟨Y1, Y2, Y3⟩, tC1⟩
  have tE2 := tE1.trans (tC1.mono tE1.size)
  have tH2 := tHS.out tv2 tE2
  refine ⟨tH2, ?_⟩
  simp only [FL]
  refine hr_take_w 17 (some 4) (.slice ao m cap) rfl rfl (by kernel_rfl) (by kernel_rfl) (by kernel_rfl) rfl (fun W hW => by obtain ⟨h0, h1, h2⟩ := hW; go_simp) tH2 ?_
  simp only [FL]
  refine wpAnyH_done (by kernel_rfl) ?_ _
  refine NoPanic.normal ?_
  clear C1 C2
  have EX := EW.trans (tE2.mono EW.size)
  go_wp2_with fail
  have uHS : Hid (∀ V, Below tv2.heap.size tv2 V → V.cell? ⟨L, 2, none⟩ = some (.int .u64 (g.view : Nat)) ∧ V.cell? ⟨(B k).X, 1, none⟩ = some (.string x.sum) ∧ V.cell? ⟨(B k).X, 2, none⟩ = some (.int .u64 (B k).s.fr) ∧ V.cell? ⟨(B k).X, 3, none⟩ = some (.slice (B k).s.b.ao (B k).s.b.n (B k).s.b.cap) ∧ V.cell? ⟨(B k).X, 4, none⟩ = some (.slice (B k).s.tag.ao (B k).s.tag.n (B k).s.tag.cap)) := fun V hV => by have hW := EX.trans (hV.mono EX.size); have K := HX.out V hW; exact ⟨(HL.out V hW).cell 2, K.cell 1, K.cell 2, K.cell 3, K.cell 4⟩
  have uE0 : Below tv2.heap.size tv2 tv2.drew := (Below.refl _ _).drew
  refine wp_region_noPanic ?_
  refine wp_region_held_drew (S := fun V => V.cell? ⟨L, 2, none⟩ = some (.int .u64 (g.view : Nat)) ∧ V.cell? ⟨(B k).X, 1, none⟩ = some (.string x.sum) ∧ V.cell? ⟨(B k).X, 2, none⟩ = some (.int .u64 (B k).s.fr) ∧ V.cell? ⟨(B k).X, 3, none⟩ = some (.slice (B k).s.b.ao (B k).s.b.n (B k).s.b.cap) ∧ V.cell? ⟨(B k).X, 4, none⟩ = some (.slice (B k).s.tag.ao (B k).s.tag.n (B k).s.tag.cap)) (by kernel_rfl) (uHS.out _ uE0) (fun uH0 => ?_)
  obtain ⟨uv0, hv0⟩ : ∃ v, v = tv2.drew := ⟨_, rfl⟩
  rw [← hv0] at uH0 uE0 ⊢
  clear hv0
  refine hr_take_w 0 (some 34) (.pointer (some ⟨(B k).X, 0, none⟩)) rfl rfl (by kernel_rfl) (by kernel_rfl) (by kernel_rfl) rfl (fun W hW => by obtain ⟨h0, h1, h2, h3, h4⟩ := hW; go_simp) uH0 ?_
  simp only [FL]
  refine hr_take_w 1 (some 35) (.pointer (some ⟨L, 0, none⟩)) rfl rfl (by kernel_rfl) (by kernel_rfl) (by kernel_rfl) rfl (fun W hW => by obtain ⟨h0, h1, h2, h3, h4⟩ := hW; go_simp) uH0 ?_
  simp only [FL]
  refine hr_take_w 2 (some 36) (.pointer (some ⟨L, 0, none⟩)) rfl rfl (by kernel_rfl) (by kernel_rfl) (by kernel_rfl) rfl (fun W hW => by obtain ⟨h0, h1, h2, h3, h4⟩ := hW; go_simp) uH0 ?_
  simp only [FL]
  refine hr_take_w 3 (some 37) (.pointer (some ⟨L, 2, none⟩)) rfl rfl (by kernel_rfl) (by kernel_rfl) (by kernel_rfl) rfl (fun W hW => by obtain ⟨h0, h1, h2, h3, h4⟩ := hW; go_simp) uH0 ?_
  simp only [FL]
  refine hr_take_w 4 (some 38) (.int .u64 (g.view : Nat)) rfl rfl (by kernel_rfl) (by kernel_rfl) (by kernel_rfl) rfl (fun W hW => by obtain ⟨h0, h1, h2, h3, h4⟩ := hW; go_simp) uH0 ?_
  simp only [FL]
  refine hr_take_w 5 (some 39) (.pointer (some ⟨(B k).X, 0, none⟩)) rfl rfl (by kernel_rfl) (by kernel_rfl) (by kernel_rfl) rfl (fun W hW => by obtain ⟨h0, h1, h2, h3, h4⟩ := hW; go_simp) uH0 ?_
  simp only [FL]
  refine hr_take_w 6 (some 40) (.pointer (some ⟨(B k).X, 0, none⟩)) rfl rfl (by kernel_rfl) (by kernel_rfl) (by kernel_rfl) rfl (fun W hW => by obtain ⟨h0, h1, h2, h3, h4⟩ := hW; go_simp) uH0 ?_
  simp only [FL]
  refine hr_take_w 7 (some 41) (.pointer (some ⟨(B k).X, 0, none⟩)) rfl rfl (by kernel_rfl) (by kernel_rfl) (by kernel_rfl) rfl (fun W hW => by obtain ⟨h0, h1, h2, h3, h4⟩ := hW; go_simp) uH0 ?_
  simp only [FL]
  refine hr_take_w 8 (some 42) (.pointer (some ⟨(B k).X, 1, none⟩)) rfl rfl (by kernel_rfl) (by kernel_rfl) (by kernel_rfl) rfl (fun W hW => by obtain ⟨h0, h1, h2, h3, h4⟩ := hW; go_simp) uH0 ?_
  simp only [FL]
  refine hr_take_w 9 (some 43) (.string x.sum) rfl rfl (by kernel_rfl) (by kernel_rfl) (by kernel_rfl) rfl (fun W hW => by obtain ⟨h0, h1, h2, h3, h4⟩ := hW; go_simp) uH0 ?_
  simp only [FL]
  refine hr_take_w 10 (some 44) (.pointer (some ⟨(B k).X, 0, none⟩)) rfl rfl (by kernel_rfl) (by kernel_rfl) (by kernel_rfl) rfl (fun W hW => by obtain ⟨h0, h1, h2, h3, h4⟩ := hW; go_simp) uH0 ?_
  simp only [FL]
  refine hr_take_w 11 (some 45) (.pointer (some ⟨(B k).X, 0, none⟩)) rfl rfl (by kernel_rfl) (by kernel_rfl) (by kernel_rfl) rfl (fun W hW => by obtain ⟨h0, h1, h2, h3, h4⟩ := hW; go_simp) uH0 ?_
  simp only [FL]
  refine hr_take_w 12 (some 46) (.pointer (some ⟨(B k).X, 0, none⟩)) rfl rfl (by kernel_rfl) (by kernel_rfl) (by kernel_rfl) rfl (fun W hW => by obtain ⟨h0, h1, h2, h3, h4⟩ := hW; go_simp) uH0 ?_
  simp only [FL]
  refine hr_take_w 13 (some 47) (.pointer (some ⟨(B k).X, 2, none⟩)) rfl rfl (by kernel_rfl) (by kernel_rfl) (by kernel_rfl) rfl (fun W hW => by obtain ⟨h0, h1, h2, h3, h4⟩ := hW; go_simp) uH0 ?_
  simp only [FL]
  refine hr_take_w 14 (some 48) (.agg #[.int .u64 (B k).s.fr, .slice (B k).s.b.ao (B k).s.b.n (B k).s.b.cap, .slice (B k).s.tag.ao (B k).s.tag.n (B k).s.tag.cap]) rfl rfl (by kernel_rfl) (by kernel_rfl) (by kernel_rfl) rfl (fun W hW => by obtain ⟨h0, h1, h2, h3, h4⟩ := hW; go_simp) uH0 ?_
  simp only [FL]
  refine hr_take_w 16 (some 50) (.slice ao m cap) rfl rfl (by kernel_rfl) (by kernel_rfl) (by kernel_rfl) rfl (fun W hW => by obtain ⟨h0, h1, h2, h3, h4⟩ := hW; go_simp) uH0 ?_
  simp only [FL]
  refine hr_ex 15 (some 49) rfl rfl (by kernel_rfl) rfl (R := fun v w' => ∃ gb, v = .slice (some ⟨gb, 0, none⟩) 1 1 ∧ (GNew elS 62 uv0 w' uv0.heap.size (.slice (some ⟨gb, 0, none⟩) 1 1) [(B k).s]) ∧ Below uv0.heap.size uv0 w') (⟨_, _, by go_simp, _, rfl, made_one uv0 (B k).s (HOK.out _ (EX.trans (uE0.mono EX.size))), (Below.refl _ _).alloc (Nat.le_refl _) _⟩) ?_
  rintro v uv1 ⟨gb, rfl, GN1, uC0⟩
  have uE1 := uE0.trans (uC0.mono uE0.size)
  have uH1 := uHS.out uv1 uE1
  refine ⟨uH1, ?_⟩
  simp only [FL]
  have Y4 := (Y1.below elS_fine (uE0.trans (uC0.mono uE0.size)))
  have Y5 := Y1.below elS_fine uE0
  have hm8 : m ≤ 8 := by have e1 := congrArg List.length Y2; rw [List.length_map, Y1.len, List.length_take] at e1; have := HC.out.1; omega
  obtain ⟨v9, w9, R9, N9, L9⟩ := run_appGs (w0 := uv0) elS_fine tyS 47 GN1 uC0.size Y4 (fun q hq => Y5.ok q hq) (by simp only [List.length_singleton]; omega) (by simp only [List.length_singleton, maxLen]; omega)
  obtain ⟨ao9, cap9, rfl, GL9, G9⟩ := N9.gl elS_fine (uC0.trans L9)
  have uE9 : Below tv2.heap.size tv2 w9 := uE1.trans (L9.mono uE0.size)
  have uH9 := uHS.out w9 uE9
  refine hr_ex 17 (some 51) rfl rfl (by kernel_rfl) rfl (R := fun v w' => .slice ao9 ((B k).s :: ys).length cap9 = v ∧ w9 = w') ⟨_, w9, by simp [execOp, Act.eval, resolve, invoke, builtin, R9], rfl, rfl⟩ ?_
  rintro v w' ⟨rfl, rfl⟩
  refine ⟨uH9, ?_⟩
  simp only [FL]
  refine hr_take_w 18 (some 52) (.agg #[.bool true, .int .u64 (g.view : Nat), .string x.sum, .slice ao9 ((B k).s :: ys).length cap9]) rfl rfl (by kernel_rfl) (by kernel_rfl) (by kernel_rfl) rfl (fun W hW => by obtain ⟨h0, h1, h2, h3, h4⟩ := hW; go_simp) uH9 ?_
  simp only [FL]
  refine hr_take_w 19 (some 53) (.pointer (some ⟨(B k).X, 0, none⟩)) rfl rfl (by kernel_rfl) (by kernel_rfl) (by kernel_rfl) rfl (fun W hW => by obtain ⟨h0, h1, h2, h3, h4⟩ := hW; go_simp) uH9 ?_
  simp only [FL]
  refine hr_take_w 20 (some 54) (.pointer (some ⟨(B k).X, 7, none⟩)) rfl rfl (by kernel_rfl) (by kernel_rfl) (by kernel_rfl) rfl (fun W hW => by obtain ⟨h0, h1, h2, h3, h4⟩ := hW; go_simp) uH9 ?_
  simp only [FL]
  have EY := EX.trans (uE9.mono EX.size)
  have A9 := HX.out w9 EY
  obtain ⟨st, GR⟩ := store_part A9 (o := 7) (cs := [.bool true, .int .u64 (g.view : Nat), .string x.sum, .slice ao9 ((B k).s :: ys).length cap9]) cesz (Nat.le_refl 11) (fun u hu => by simp only [List.mem_cons, List.not_mem_nil, or_false] at hu; rcases hu with rfl | rfl | rfl | rfl <;> rfl)
  have AZ := A9.setAll [.bool true, .int .u64 (g.view : Nat), .string x.sum, .slice ao9 ((B k).s :: ys).length cap9] _ 7 _
  have nL := HNL.out
  have lX := A9.lt
  refine hr_skip 21 none (w' := w9.setCells (B k).X 7 [.bool true, .int .u64 (g.view : Nat), .string x.sum, .slice ao9 ((B k).s :: ys).length cap9]) rfl rfl (by kernel_rfl) rfl (exec_store rfl rfl rfl st) ⟨(grown_cell GR (LC.lt (HL.out w9 EY)) nL).trans uH9.1, AZ.cell 1, AZ.cell 2, AZ.cell 3, AZ.cell 4⟩ ?_
  simp only [Act.put]
  refine wpAnyH_done (by kernel_rfl) ?_ _
  refine NoPanic.normal ?_
  go_wp2
  go_end0
  obtain ⟨HG, hx, hA⟩ := HLG.out
  have sw : w.heap.size ≤ uv0.heap.size := Nat.le_trans EX.size uE0.size
  have t12 : w.heap.size ≤ tv1.heap.size := Nat.le_trans EW.size tE1.size
  obtain ⟨r1, r2, r3, r4⟩ := HG.ro k x hx
  have bl : ∀ z, z < w.heap.size → z ≠ (B k).X → (w9.setCells (B k).X 7 [.bool true, .int .u64 (g.view : Nat), .string x.sum, .slice ao9 ((B k).s :: ys).length cap9]).heap[z]? = w.heap[z]? := fun z hz hn => (GR.block z (Nat.lt_of_lt_of_le hz EY.size) fun e => hn (Option.some.inj e)).trans (EY.block z hz)
  have imm9 : ∀ z, GLb elS ao9 ((B k).s :: ys).length ((B k).s :: ys) z → z ≠ (B k).X ∧ rho w ρ z = 0 := fun z hz => by
    have new : w.heap.size ≤ z → z ≠ (B k).X ∧ rho w ρ z = 0 := fun hz => ⟨fun e => by have := hA.lt; omega, rho_new hz⟩
    rcases hz with hz | ⟨y, hy, hz⟩
    · exact new (Nat.le_trans sw (G9 z hz))
    · rcases List.mem_cons.1 hy with rfl | hy
      · have h0 := r4 z (.inl hz)
        refine ⟨fun e => by rw [e, r1] at h0; omega, ?_⟩
        rw [rho_old (elS_fine.lt _ w z hA.sok hz)]
        exact h0
      · exact new (Nat.le_trans t12 (Y3 z (.inr ⟨y, hy, hz⟩)))
  have hbs : base ≤ w.heap.size := Nat.le_trans HG.baseL (Nat.le_of_lt HG.Llt)
  have hb7 : Below base w (w9.setCells (B k).X 7 [.bool true, .int .u64 (g.view : Nat), .string x.sum, .slice ao9 ((B k).s :: ys).length cap9]) := (EY.mono hbs).grown GR (Nat.le_trans hbs EY.size) (fun j hj => by cases hj; exact HG.base_of (by rw [r1]; omega))
  have sz9 : w.heap.size ≤ (w9.setCells (B k).X 7 [.bool true, .int .u64 (g.view : Nat), .string x.sum, .slice ao9 ((B k).s :: ys).length cap9]).heap.size := hb7.size
  refine ⟨_, rho w ρ, rfl, HG.step (b' := { B k with ao := ao9, n := ((B k).s :: ys).length, cap := cap9, l := (B k).s :: ys }) k (HG.win k x hx) (fun z hz => rho_old hz) (fun z hz a1 a2 a3 a4 => bl z hz fun e => a2 (by rw [e]; exact r1)) (HG.mf.same (bl M HG.mf.lt fun e => by have r0 := HG.rM; rw [e, r1] at r0; omega)) (HG.here k x hx).1 (fun _ _ => rfl) ?_ ((rho_old hA.lt).trans r1) ((rho_old hA.P.lt).trans r2) ((rho_old hA.Q.lt).trans r3) ?_, ⟨hb7, fun z hz => rho_old hz, fun z hz h0 => bl z hz fun e => by rw [e, r1] at h0; omega⟩⟩
  · rw [HCS.out]
    have sok := elS_fine.kept _ w (w9.setCells (B k).X 7 [.bool true, .int .u64 (g.view : Nat), .string x.sum, .slice ao9 ((B k).s :: ys).length cap9]) hA.sok fun z hz => bl z (elS_fine.lt _ w z hA.sok hz) fun e => by have h0 := r4 z (.inl hz); rw [e, r1] at h0; omega
    have lv : ((B k).s :: ys).map SA.v = x.pre :: (prfV x.sum 0 x.pv).take (2 * g.f) := by rw [List.map_cons, hA.sv, Y2]
    refine ⟨AZ, sok, hA.sv, hA.P.keep (bl _ hA.P.lt fun e => by rw [e, r1] at r2; omega), hA.Q.keep (bl _ hA.Q.lt fun e => by rw [e, r1] at r3; omega), GL9.kept elS_fine fun z hz => GR.block z (GL9.lt elS_fine hz) fun e => (imm9 z hz).1 (Option.some.inj e), lv, hA.sz, hA.sz, ?_, hA.pz, fun s hs => ?_, ?_⟩
    · have := HG.viewz
      show g.view < _
      omega
    · rcases List.mem_cons.1 hs with rfl | hs
      · exact hA.pz
      · have hv : s.v ∈ prfV x.sum 0 x.pv := List.mem_of_mem_take (by rw [← Y2]; exact List.mem_map_of_mem hs)
        obtain ⟨v, hv, e1, e2⟩ := prfV_mem _ _ hv
        have ok := hA.P.ok v hv
        have o := Y1.ok s hs
        have l1 := o.b.len
        have l2 := o.tag.len
        have e1 : s.b.xs = sb v.body := e1
        have e2 : s.tag.xs = sb v.tag := e2
        rw [e1, sb_len] at l1
        rw [e2, sb_len] at l2
        exact ⟨by rw [← l1]; exact ok.body, by rw [← l2]; exact ok.tag⟩
    · show ((B k).s :: ys).length ≤ 100
      have := Y1.len
      rw [List.length_cons]
      omega
  · rintro z (hz | hz)
    · rw [rho_old (elS_fine.lt _ w z hA.sok hz)]
      exact r4 z (.inl hz)
    · exact (imm9 z hz).2
theorem certify_any (w : World) (base L M n : Nat) (g : GT) (F : Value → Option Value) (B : Nat → SB) (ρ : Nat → Nat) (h : LG w base L M n g F B ρ) (k : Nat) (x : ST) (hx : g.s k = some x) :
    Calls Try.prog 52 #[.pointer (some ⟨L, 0, none⟩), .pointer (some ⟨(B k).X, 0, none⟩)] w (CertPost w base L M n g F ρ k x) := by
  obtain ⟨hF, hA⟩ := h.here k x hx
  have C1 := certIn_any w g.f (B k) x hA g.view
  have C2 := isPrep_any w L g.f g.low g.view M h.lc h.f4 (B k) x hA
  have x2 : w.cell? ⟨L, 2, none⟩ = some (.int .u64 (g.view : Nat)) := h.lc.cell 2
  cases c1 : certIn g.view x with
  | true =>
    have HCS : Hid (g.put k (certS g.f g.view x) = g) := by
      show _ = _
      unfold certS
      rw [c1]
      exact g.put_slot k x hx
    have HLG : Hid (LG w base L M n g F B ρ) := h
    rw [c1] at C1
    clear h hF hA hx c1 C2
    go_enter Try.func52, Try.ntmps52
    go_wp2_with (go_at_call 73; refine C1.mono ?_; rintro e w1 ⟨rfl, rfl⟩)
    go_end0
    exact ⟨B, ρ, rfl, by rw [HCS.out]; exact HLG.out, Stp.refl _ _ _⟩
  | false =>
    cases c2 : prepS g.f x with
    | true => exact certify_yes w base L M n g F B ρ h k x hx c1 c2
    | false =>
      have HCS : Hid (g.put k (certS g.f g.view x) = g) := by
        show _ = _
        unfold certS
        rw [c1, c2]
        exact g.put_slot k x hx
      have HLG : Hid (LG w base L M n g F B ρ) := h
      rw [c1] at C1
      rw [c2] at C2
      clear h hF hA hx c1 c2
      go_enter Try.func52, Try.ntmps52
      go_wp2_with (first
        | (go_at_call 73; refine C1.mono ?_; rintro e w1 ⟨rfl, rfl⟩)
        | (go_at_call 44; refine C2.mono ?_; rintro e w2 ⟨rfl, EW⟩))
      go_end0
      obtain ⟨k1, k2⟩ := HLG.out.below EW
      exact ⟨B, _, rfl, by rw [HCS.out]; exact k1, k2⟩
end Go.Proofs.Ytbbhokodleaheaa
namespace Go.Proofs.Ytbbhokodleaheaa
open Go.RowKit
def But (w : World) (X : Nat) (V : World) : Prop := w.heap.size ≤ V.heap.size ∧ ∀ z, z < w.heap.size → z ≠ X → V.heap[z]? = w.heap[z]?
theorem But.of {w V : World} {X : Nat} (h : Below w.heap.size w V) : But w X V := ⟨h.size, fun z hz _ => h.block z hz⟩
theorem But.grown {w V V' : World} {X : Nat} (h : But w X V) (g : V.grownBy V' (some X)) : But w X V' :=
  ⟨Nat.le_trans h.1 g.size, fun z hz hn => (g.block z (Nat.lt_of_lt_of_le hz h.1) fun e => hn (Option.some.inj e)).trans (h.2 z hz hn)⟩
theorem But.cell {w V : World} {X : Nat} (h : But w X V) {b o : Nat} (hb : b < w.heap.size) (hn : b ≠ X) : V.cell? ⟨b, o, none⟩ = w.cell? ⟨b, o, none⟩ := World.cell?_of_block (h.2 b hb hn)
theorem But.sl {w V : World} {X : Nat} (h : But w X V) {ao : Option Addr} {n cap : Nat} {xs : List Int} (S : Sl w ao n cap xs) (hn : ∀ z, sblk ao n z → z ≠ X) : Sl V ao n cap xs :=
  Sl.kept (b := ⟨ao, n, cap, xs⟩) S fun z hz => h.2 z (Sl.blk_lt (b := ⟨ao, n, cap, xs⟩) S hz) (hn z hz)
section
variable {w w' : World} {base L M n : Nat} {g : GT} {F : Value → Option Value} {B : Nat → SB} {ρ : Nat → Nat}
theorem LG.hbs (h : LG w base L M n g F B ρ) : base ≤ w.heap.size := Nat.le_trans h.baseL (Nat.le_of_lt h.Llt)
theorem LG.putPv (h : LG w base L M n g F B ρ) {k : Nat} {x : ST} (hx : g.s k = some x) {l : List VT} (hQ : QS w' (B k).p g.f l) (hG : w.grownBy w' (some (B k).p)) :
    LG w' base L M n (g.put k { x with pv := l }) F (fun j => if j = k then B k else B j) (rho w ρ) ∧ Stp base w w' ρ (rho w ρ) := by
  obtain ⟨h1, h2⟩ := h.here k x hx
  obtain ⟨r1, r2, r3, r4⟩ := h.ro k x hx
  have bl : ∀ z, z < w.heap.size → ρ z ≠ 3 * k + 5 → w'.heap[z]? = w.heap[z]? := fun z hz hn => hG.block z hz fun e => hn (by rw [Option.some.inj e]; exact r2)
  refine ⟨h.step k (h.win k x hx) (fun z hz => rho_old hz) (fun z hz _ _ a3 _ => bl z hz a3) (h.mf.same (bl M h.mf.lt (by rw [h.rM]; omega))) h1 (fun _ _ => rfl) ?_ ((rho_old h2.lt).trans r1) ((rho_old h2.P.lt).trans r2) ((rho_old h2.Q.lt).trans r3) fun z hz => (rho_old (h2.imm_lt hz)).trans (r4 z hz), ⟨⟨hG.os, hG.tape, hG.output, hG.size, fun z hz => bl z (Nat.lt_of_lt_of_le hz h.hbs) (by rw [h.lo z hz]; omega)⟩, fun z hz => rho_old hz, fun z hz h0 => bl z hz (by omega)⟩⟩
  have bi : ∀ z, (B k).imm z → w'.heap[z]? = w.heap[z]? := fun z hz => bl z (h2.imm_lt hz) (by rw [r4 z hz]; omega)
  exact { h2 with
    mem := (bl _ h2.lt (by rw [r1]; omega)).trans h2.mem
    sok := elS_fine.kept _ w w' h2.sok fun z hz => bi z (.inl hz)
    P := hQ
    Q := h2.Q.keep (bl _ h2.Q.lt (by rw [r3]; omega))
    L := h2.L.kept elS_fine fun z hz => bi z (.inr hz) }
theorem LG.putCv (h : LG w base L M n g F B ρ) {k : Nat} {x : ST} (hx : g.s k = some x) {l : List VT} (hQ : QS w' (B k).q g.f l) (hG : w.grownBy w' (some (B k).q)) :
    LG w' base L M n (g.put k { x with cv := l }) F (fun j => if j = k then B k else B j) (rho w ρ) ∧ Stp base w w' ρ (rho w ρ) := by
  obtain ⟨h1, h2⟩ := h.here k x hx
  obtain ⟨r1, r2, r3, r4⟩ := h.ro k x hx
  have bl : ∀ z, z < w.heap.size → ρ z ≠ 3 * k + 6 → w'.heap[z]? = w.heap[z]? := fun z hz hn => hG.block z hz fun e => hn (by rw [Option.some.inj e]; exact r3)
  refine ⟨h.step k (h.win k x hx) (fun z hz => rho_old hz) (fun z hz _ _ _ a4 => bl z hz a4) (h.mf.same (bl M h.mf.lt (by rw [h.rM]; omega))) h1 (fun _ _ => rfl) ?_ ((rho_old h2.lt).trans r1) ((rho_old h2.P.lt).trans r2) ((rho_old h2.Q.lt).trans r3) fun z hz => (rho_old (h2.imm_lt hz)).trans (r4 z hz), ⟨⟨hG.os, hG.tape, hG.output, hG.size, fun z hz => bl z (Nat.lt_of_lt_of_le hz h.hbs) (by rw [h.lo z hz]; omega)⟩, fun z hz => rho_old hz, fun z hz h0 => bl z hz (by omega)⟩⟩
  have bi : ∀ z, (B k).imm z → w'.heap[z]? = w.heap[z]? := fun z hz => bl z (h2.imm_lt hz) (by rw [r4 z hz]; omega)
  exact { h2 with
    mem := (bl _ h2.lt (by rw [r1]; omega)).trans h2.mem
    sok := elS_fine.kept _ w w' h2.sok fun z hz => bi z (.inl hz)
    P := h2.P.keep (bl _ h2.P.lt (by rw [r2]; omega))
    Q := hQ
    L := h2.L.kept elS_fine fun z hz => bi z (.inr hz) }
theorem LG.putPre (h : LG w base L M n g F B ρ) {k : Nat} {x : ST} (hx : g.s k = some x) {s : SA} {sum : ByteArray} (hA : Arr w' (B k).X 87 (({ B k with s := s } : SB).rc { x with has := true, sum := sum, pre := s.v } ++ (B k).cc x))
    (hb : Below base w w') (hG : But w (B k).X w') (hs : s.ok w') (hn : ∀ z, s.blk z → w.heap.size ≤ z) (hz : sum.size ≤ 1000000) (sz : s.b.n ≤ 1000000 ∧ s.tag.n ≤ 1000000) :
    LG w' base L M n (g.put k { x with has := true, sum := sum, pre := s.v }) F (fun j => if j = k then { B k with s := s } else B j) (rho w ρ) ∧ Stp base w w' ρ (rho w ρ) := by
  obtain ⟨h1, h2⟩ := h.here k x hx
  obtain ⟨r1, r2, r3, r4⟩ := h.ro k x hx
  have bl : ∀ z, z < w.heap.size → ρ z ≠ 3 * k + 4 → w'.heap[z]? = w.heap[z]? := fun z hz hn => hG.2 z hz fun e => hn (by rw [e]; exact r1)
  refine ⟨h.step k (h.win k x hx) (fun z hz => rho_old hz) (fun z hz _ a2 _ _ => bl z hz a2) (h.mf.same (bl M h.mf.lt (by rw [h.rM]; omega))) h1 (fun _ _ => rfl) ?_ ((rho_old h2.lt).trans r1) ((rho_old h2.P.lt).trans r2) ((rho_old h2.Q.lt).trans r3) fun z hz => ?_, ⟨hb, fun z hz => rho_old hz, fun z hz h0 => bl z hz (by omega)⟩⟩
  · exact { h2 with
      mem := hA
      sok := hs
      sv := rfl
      P := h2.P.keep (bl _ h2.P.lt (by rw [r2]; omega))
      Q := h2.Q.keep (bl _ h2.Q.lt (by rw [r3]; omega))
      L := h2.L.kept elS_fine fun z hz => bl z (h2.L.lt elS_fine hz) (by rw [r4 z (.inr hz)]; omega)
      sz := hz
      pz := sz }
  · rcases hz with hz | hz
    · exact rho_new (hn z hz)
    · exact (rho_old (h2.L.lt elS_fine hz)).trans (r4 z (.inr hz))
end
end Go.Proofs.Ytbbhokodleaheaa
namespace Go.Proofs.Ytbbhokodleaheaa
open Go.RowKit
theorem jdgS_win {f low fr seq : Nat} (h : jdgS f low fr seq = 0) : low < seq ∧ seq ≤ low + 8 := by
  unfold jdgS at h
  split at h
  · omega
  · omega
def MsgPost (w : World) (base L M n : Nat) (ρ : Nat → Nat) (r : GT × Int) (e : Ending) (w' : World) : Prop :=
  ∃ n' F' B' ρ', e = .returned (.int .i64 r.2) ∧ LG w' base L M n' r.1 F' B' ρ' ∧ Stp base w w' ρ ρ' ∧ n' ≤ n + 1
set_option maxRecDepth 100000 in
set_option maxHeartbeats 4000000 in
theorem prepare_any (w : World) (base L M n : Nat) (g : GT) (F : Value → Option Value) (B : Nat → SB) (ρ : Nat → Nat) (h : LG w base L M n g F B ρ) (hn : n < maxLen) (s : SA) (sok : s.ok w) (sr : ∀ z, s.blk z → ρ z = 0) (sz : s.b.n ≤ 1000000 ∧ s.tag.n ≤ 1000000) (seq : Nat) (hs : seq < 18446744073709551616)
    (ao : Option Addr) (n1 cap : Nat) (xs : List Int) (S : Sl w ao n1 cap xs) (Sr : ∀ z, sblk ao n1 z → ρ z = 0) (n1z : n1 ≤ 1000000) :
    Calls Try.prog 28 #[.pointer (some ⟨L, 0, none⟩), s.val, .int .u64 (seq : Nat), .slice ao n1 cap] w (MsgPost w base L M n ρ (parG g s.v seq (strOfNums xs))) := by
  have hF : Hid (parG g s.v seq (strOfNums xs) = parG g s.v seq (strOfNums xs)) := rfl
  have lz := h.lowz
  have vz := h.viewz
  obtain ⟨W1, hW1⟩ : ∃ W1, W1 = (w.alloc (.cells #[.int .u64 s.fr, .slice s.b.ao s.b.n s.b.cap, .slice s.tag.ao s.tag.n s.tag.cap] 62)) := ⟨_, rfl⟩
  have b1 : Below w.heap.size w W1 := by rw [hW1]; exact (Below.refl _ w).alloc (Nat.le_refl _) _
  have AX : Arr W1 w.heap.size 62 [.int .u64 s.fr, .slice s.b.ao s.b.n s.b.cap, .slice s.tag.ao s.tag.n s.tag.cap] := by rw [hW1]; exact heap_alloc_new w _
  have x0 : W1.cell? ⟨w.heap.size, 0, none⟩ = some (.int .u64 s.fr) := AX.cell 0
  have HA : Hid (Arr W1 w.heap.size 62 [.int .u64 s.fr, .slice s.b.ao s.b.n s.b.cap, .slice s.tag.ao s.tag.n s.tag.cap]) := AX
  obtain ⟨K1, T1⟩ := h.below b1
  have R1 : rho w ρ w.heap.size = 0 := rho_new (Nat.le_refl _)
  have CJ := judge_log W1 L g.f g.low g.view M s.fr seq K1.lc h.f1 h.f4 (by omega) hs
  have HG : Hid (LG W1 base L M n g F B (rho w ρ) ∧ Stp base w W1 ρ (rho w ρ) ∧ rho w ρ w.heap.size = 0) := ⟨K1, T1, R1⟩
  have HS : Hid ((s.ok w ∧ ∀ z, s.blk z → ρ z = 0) ∧ Sl w ao n1 cap xs ∧ ∀ z, sblk ao n1 z → ρ z = 0) := ⟨⟨sok, sr⟩, S, Sr⟩
  have HQ : Hid (g.view < 18446744073709551616 ∧ s.fr < 18446744073709551616) := ⟨by omega, sok.fr⟩
  by_cases cj : jdgS g.f g.low s.fr seq ≠ 0
  · have hv : Hid (parG g s.v seq (strOfNums xs) = (g, jdgS g.f g.low s.fr seq)) := if_pos cj
    have tj : (jdgS g.f g.low s.fr seq != 0) = true := by simpa using cj
    rw [hv.out]
    generalize jdgS g.f g.low s.fr seq = jd at *
    clear h b1 AX K1 T1 R1 sok sr S Sr lz vz cj hF
    unfold SA.val
    go_enter Try.func28, Try.ntmps28
    go_wp2_with fail
    rw [← hW1]
    clear hW1
    go_wp2_with (go_at_call 48; refine CJ.mono ?_; rintro e w1 ⟨rfl, hw1⟩; have hw1 := hw1.symm; subst hw1)
    go_ret
    exact ⟨n, F, B, rho w ρ, rfl, HG.out.1, HG.out.2.1, by omega⟩
  by_cases cp : s.fr = prF g.view g.f
  · have hv : Hid (parG g s.v seq (strOfNums xs) = (g, 18)) := (if_neg cj).trans (if_pos cp)
    have tp : ((s.fr : Int) == (prF g.view g.f : Int)) = true := by simp; omega
    rw [hv.out]
    have tj : (jdgS g.f g.low s.fr seq != 0) = false := by simpa using cj
    generalize jdgS g.f g.low s.fr seq = jd at CJ tj
    clear h b1 AX K1 T1 R1 sok sr S Sr lz vz cj hF cp
    unfold SA.val
    go_enter Try.func28, Try.ntmps28
    go_wp2_with fail
    rw [← hW1]
    clear hW1
    go_wp2_with (go_at_call 48; refine CJ.mono ?_; rintro e w1 ⟨rfl, hw1⟩; have hw1 := hw1.symm; subst hw1)
    have tHS : Hid (∀ V, Below W1.heap.size W1 V → V.cell? ⟨w.heap.size, 0, none⟩ = some (.int .u64 s.fr)) := fun V hV => (Arr.below HA.out hV HA.out.lt).cell 0
    have tE0 : Below W1.heap.size W1 W1.drew := (Below.refl _ _).drew
    refine wp_region_noPanic ?_
    refine wp_region_held_drew (S := fun V => V.cell? ⟨w.heap.size, 0, none⟩ = some (.int .u64 s.fr)) (by kernel_rfl) (tHS.out _ tE0) (fun tH0 => ?_)
    obtain ⟨tv0, hv0⟩ : ∃ v, v = W1.drew := ⟨_, rfl⟩
    rw [← hv0] at tH0 tE0 ⊢
    clear hv0
    refine hr_take_w 0 (some 20) (.pointer (some ⟨w.heap.size, 0, none⟩)) rfl rfl (by kernel_rfl) (by kernel_rfl) (by kernel_rfl) rfl (fun W hW => by go_simp) tH0 ?_
    simp only [FL]
    refine hr_take_w 1 (some 21) (.int .u64 s.fr) rfl rfl (by kernel_rfl) (by kernel_rfl) (by kernel_rfl) rfl (fun W hW => by go_simp) tH0 ?_
    simp only [FL]
    refine hr_take_w 2 (some 22) (.pointer (some ⟨L, 0, none⟩)) rfl rfl (by kernel_rfl) (by kernel_rfl) (by kernel_rfl) rfl (fun W hW => by go_simp) tH0 ?_
    simp only [FL]
    refine hr_call_w 3 (some 23) 49 #[.pointer (some ⟨L, 0, none⟩)] rfl rfl (by kernel_rfl) rfl (by go_simp) (fun v w' => v = .int .u64 (prF g.view g.f : Nat) ∧ Below tv0.heap.size tv0 w') ((primary_log tv0 L g.f g.low g.view M (HG.out.1.lc.below tE0) HQ.out.1).mono (by
      rintro e w' ⟨rfl, C⟩
      exact ⟨_, rfl, rfl, C⟩)) ?_
    rintro v tv1 ⟨rfl, tC0⟩
    have tE1 := tE0.trans (tC0.mono tE0.size)
    have tH1 := tHS.out tv1 tE1
    refine ⟨tH1, ?_⟩
    simp only [FL]
    refine hr_take_w 4 (some 24) (.bool true) rfl rfl (by kernel_rfl) (by kernel_rfl) (by kernel_rfl) rfl (fun W hW => by go_simp) tH1 ?_
    simp only [FL]
    refine wpAnyH_done (by kernel_rfl) ?_ _
    refine NoPanic.normal ?_
    go_wp2
    go_ret
    obtain ⟨K2, T2⟩ := HG.out.1.below tE1
    exact ⟨n, F, B, _, rfl, K2, HG.out.2.1.trans T2, by omega⟩
  have tp : ((s.fr : Int) == (prF g.view g.f : Int)) = false := by simp; omega
  have tj : (jdgS g.f g.low s.fr seq != 0) = false := by simpa using cj
  have cj := Decidable.not_not.1 cj
  by_cases ca : (addPv g s.v seq (strOfNums xs)).2 ≠ 0
  · have hv : Hid (parG g s.v seq (strOfNums xs) = (g.put seq { g.slot seq with pv := (addPv g s.v seq (strOfNums xs)).1 }, (addPv g s.v seq (strOfNums xs)).2)) := (if_neg (not_not_intro cj)).trans ((if_neg cp).trans (if_pos ca))
    have ta : ((addPv g s.v seq (strOfNums xs)).2 != 0) = true := by simpa using ca
    rw [hv.out]
    clear h b1 AX K1 T1 R1 sok sr S Sr lz vz hF cp ca
    unfold SA.val
    go_enter Try.func28, Try.ntmps28
    go_wp2_with fail
    rw [← hW1]
    clear hW1
    go_wp2_with (go_at_call 48; refine CJ.mono ?_; rintro e w1 ⟨rfl, hw1⟩; have hw1 := hw1.symm; subst hw1)
    have tHS : Hid (∀ V, Below W1.heap.size W1 V → V.cell? ⟨w.heap.size, 0, none⟩ = some (.int .u64 s.fr)) := fun V hV => (Arr.below HA.out hV HA.out.lt).cell 0
    have tE0 : Below W1.heap.size W1 W1.drew := (Below.refl _ _).drew
    refine wp_region_noPanic ?_
    refine wp_region_held_drew (S := fun V => V.cell? ⟨w.heap.size, 0, none⟩ = some (.int .u64 s.fr)) (by kernel_rfl) (tHS.out _ tE0) (fun tH0 => ?_)
    obtain ⟨tv0, hv0⟩ : ∃ v, v = W1.drew := ⟨_, rfl⟩
    rw [← hv0] at tH0 tE0 ⊢
    clear hv0
    refine hr_take_w 0 (some 20) (.pointer (some ⟨w.heap.size, 0, none⟩)) rfl rfl (by kernel_rfl) (by kernel_rfl) (by kernel_rfl) rfl (fun W hW => by go_simp) tH0 ?_
    simp only [FL]
    refine hr_take_w 1 (some 21) (.int .u64 s.fr) rfl rfl (by kernel_rfl) (by kernel_rfl) (by kernel_rfl) rfl (fun W hW => by go_simp) tH0 ?_
    simp only [FL]
    refine hr_take_w 2 (some 22) (.pointer (some ⟨L, 0, none⟩)) rfl rfl (by kernel_rfl) (by kernel_rfl) (by kernel_rfl) rfl (fun W hW => by go_simp) tH0 ?_
    simp only [FL]
    refine hr_call_w 3 (some 23) 49 #[.pointer (some ⟨L, 0, none⟩)] rfl rfl (by kernel_rfl) rfl (by go_simp) (fun v w' => v = .int .u64 (prF g.view g.f : Nat) ∧ Below tv0.heap.size tv0 w') ((primary_log tv0 L g.f g.low g.view M (HG.out.1.lc.below tE0) HQ.out.1).mono (by
      rintro e w' ⟨rfl, C⟩
      exact ⟨_, rfl, rfl, C⟩)) ?_
    rintro v tv1 ⟨rfl, tC0⟩
    have tE1 := tE0.trans (tC0.mono tE0.size)
    have tH1 := tHS.out tv1 tE1
    refine ⟨tH1, ?_⟩
    simp only [FL]
    refine hr_take_w 4 (some 24) (.bool false) rfl rfl (by kernel_rfl) (by kernel_rfl) (by kernel_rfl) rfl (fun W hW => by go_simp) tH1 ?_
    simp only [FL]
    refine wpAnyH_done (by kernel_rfl) ?_ _
    refine NoPanic.normal ?_
    obtain ⟨K2, T2⟩ := HG.out.1.below tE1
    have CS := slot_any tv1 base L M n g F B _ K2 hn seq (jdgS_win cj)
    go_wp2_with (go_at_call 50; refine CS.mono ?_; rintro e w3 ⟨n3, F3, B3, ρ3, rfl, K3, T3, hn3⟩)
    have TT := (HG.out.2.1.trans T2).trans T3
    have sok3 := TT.sa HS.out.1.1 HS.out.1.2
    have S3 := TT.sl HS.out.2.1 HS.out.2.2
    obtain ⟨-, HX⟩ := K3.here seq _ (g.put_same _ _)
    obtain ⟨q1, q2, q3, q4⟩ := K3.ro seq _ (g.put_same _ _)
    have AB : Arr w3 w.heap.size 62 [.int .u64 s.fr, .slice s.b.ao s.b.n s.b.cap, .slice s.tag.ao s.tag.n s.tag.cap] := ((T2.trans T3).keep _ HA.out.lt (.inl HG.out.2.2)).trans HA.out
    have rB : ρ3 w.heap.size = 0 := ((T2.trans T3).role _ HA.out.lt).trans HG.out.2.2
    have nXp : (B3 seq).X ≠ (B3 seq).p := fun e => by rw [← e, q1] at q2; omega
    have nXq : (B3 seq).X ≠ (B3 seq).q := fun e => by rw [← e, q1] at q3; omega
    have nBp : w.heap.size ≠ (B3 seq).p := fun e => by rw [← e, rB] at q2; omega
    have nBq : w.heap.size ≠ (B3 seq).q := fun e => by rw [← e, rB] at q3; omega
    have nBX : w.heap.size ≠ (B3 seq).X := fun e => by rw [← e, rB] at q1; omega
    go_wp2_with fail
    have uHS : Hid (∀ V, Below w3.heap.size w3 V → V.cell? ⟨(B3 seq).X, 5, none⟩ = some (.pointer (some ⟨(B3 seq).p, 0, none⟩)) ∧ V.cell? ⟨w.heap.size, 0, none⟩ = some (.int .u64 s.fr) ∧ V.cell? ⟨w.heap.size, 1, none⟩ = some (.slice s.b.ao s.b.n s.b.cap) ∧ V.cell? ⟨w.heap.size, 2, none⟩ = some (.slice s.tag.ao s.tag.n s.tag.cap)) := fun V hV => by have K := Arr.below AB hV AB.lt; exact ⟨(Arr.below HX.mem hV HX.lt).cell 5, K.cell 0, K.cell 1, K.cell 2⟩
    have uE0 : Below w3.heap.size w3 w3.drew := (Below.refl _ _).drew
    refine wp_region_noPanic ?_
    refine wp_region_held_drew (S := fun V => V.cell? ⟨(B3 seq).X, 5, none⟩ = some (.pointer (some ⟨(B3 seq).p, 0, none⟩)) ∧ V.cell? ⟨w.heap.size, 0, none⟩ = some (.int .u64 s.fr) ∧ V.cell? ⟨w.heap.size, 1, none⟩ = some (.slice s.b.ao s.b.n s.b.cap) ∧ V.cell? ⟨w.heap.size, 2, none⟩ = some (.slice s.tag.ao s.tag.n s.tag.cap)) (by kernel_rfl) (uHS.out _ uE0) (fun uH0 => ?_)
    obtain ⟨uv0, hv0⟩ : ∃ v, v = w3.drew := ⟨_, rfl⟩
    rw [← hv0] at uH0 uE0 ⊢
    clear hv0
    refine hr_take_w 0 (some 28) (.pointer (some ⟨(B3 seq).X, 0, none⟩)) rfl rfl (by kernel_rfl) (by kernel_rfl) (by kernel_rfl) rfl (fun W hW => by obtain ⟨h0, h1, h2, h3⟩ := hW; go_simp) uH0 ?_
    simp only [FL]
    refine hr_take_w 1 (some 29) (.pointer (some ⟨(B3 seq).X, 0, none⟩)) rfl rfl (by kernel_rfl) (by kernel_rfl) (by kernel_rfl) rfl (fun W hW => by obtain ⟨h0, h1, h2, h3⟩ := hW; go_simp) uH0 ?_
    simp only [FL]
    refine hr_take_w 2 (some 30) (.pointer (some ⟨(B3 seq).X, 0, none⟩)) rfl rfl (by kernel_rfl) (by kernel_rfl) (by kernel_rfl) rfl (fun W hW => by obtain ⟨h0, h1, h2, h3⟩ := hW; go_simp) uH0 ?_
    simp only [FL]
    refine hr_take_w 3 (some 31) (.pointer (some ⟨(B3 seq).X, 5, none⟩)) rfl rfl (by kernel_rfl) (by kernel_rfl) (by kernel_rfl) rfl (fun W hW => by obtain ⟨h0, h1, h2, h3⟩ := hW; go_simp) uH0 ?_
    simp only [FL]
    refine hr_take_w 4 (some 32) (.pointer (some ⟨(B3 seq).p, 0, none⟩)) rfl rfl (by kernel_rfl) (by kernel_rfl) (by kernel_rfl) rfl (fun W hW => by obtain ⟨h0, h1, h2, h3⟩ := hW; go_simp) uH0 ?_
    simp only [FL]
    refine hr_take_w 5 (some 33) (.agg #[.int .u64 s.fr, .slice s.b.ao s.b.n s.b.cap, .slice s.tag.ao s.tag.n s.tag.cap]) rfl rfl (by kernel_rfl) (by kernel_rfl) (by kernel_rfl) rfl (fun W hW => by obtain ⟨h0, h1, h2, h3⟩ := hW; go_simp) uH0 ?_
    simp only [FL]
    refine hr_take_w 6 (some 34) (.slice ao n1 cap) rfl rfl (by kernel_rfl) (by kernel_rfl) (by kernel_rfl) rfl (fun W hW => by obtain ⟨h0, h1, h2, h3⟩ := hW; go_simp) uH0 ?_
    simp only [FL]
    have S9 := sok3.1.below uE0
    have S8 := S3.1.below uE0
    refine hr_call_w 7 (some 35) 53 #[.pointer (some ⟨(B3 seq).p, 0, none⟩), .agg #[.int .u64 s.fr, .slice s.b.ao s.b.n s.b.cap, .slice s.tag.ao s.tag.n s.tag.cap], .slice ao n1 cap] rfl rfl (by kernel_rfl) rfl (by go_simp) (fun v w' => v = .int .i64 (addPv g s.v seq (strOfNums xs)).2 ∧ QS w' (B3 seq).p g.f (addPv g s.v seq (strOfNums xs)).1 ∧ uv0.grownBy w' (some (B3 seq).p)) ((add_any uv0 (B3 seq).p g.f (g.slot seq).pv (HX.P.below uE0) s.fr HQ.out.2 s.b.ao s.tag.ao ao s.b.n s.b.cap s.tag.n s.tag.cap n1 cap s.b.xs s.tag.xs xs S9.b S9.tag S8 sz.1 sz.2 n1z).mono (by
      rintro e w' ⟨rfl, h1, h2⟩
      exact ⟨_, rfl, rfl, h1, h2⟩)) ?_
    rintro v w5 ⟨rfl, Q5, G5⟩
    refine ⟨⟨(grown_cell G5 (Nat.lt_of_lt_of_le HX.lt uE0.size) nXp).trans uH0.1, (grown_cell G5 (Nat.lt_of_lt_of_le AB.lt uE0.size) nBp).trans uH0.2.1, (grown_cell G5 (Nat.lt_of_lt_of_le AB.lt uE0.size) nBp).trans uH0.2.2.1, (grown_cell G5 (Nat.lt_of_lt_of_le AB.lt uE0.size) nBp).trans uH0.2.2.2⟩, ?_⟩
    simp only [FL]
    refine hr_take_w 8 (some 11) (.int .i64 (addPv g s.v seq (strOfNums xs)).2) rfl rfl (by kernel_rfl) (by kernel_rfl) (by kernel_rfl) rfl (fun W hW => by obtain ⟨h0, h1, h2, h3⟩ := hW; go_simp) ⟨(grown_cell G5 (Nat.lt_of_lt_of_le HX.lt uE0.size) nXp).trans uH0.1, (grown_cell G5 (Nat.lt_of_lt_of_le AB.lt uE0.size) nBp).trans uH0.2.1, (grown_cell G5 (Nat.lt_of_lt_of_le AB.lt uE0.size) nBp).trans uH0.2.2.1, (grown_cell G5 (Nat.lt_of_lt_of_le AB.lt uE0.size) nBp).trans uH0.2.2.2⟩ ?_
    simp only [FL]
    refine wpAnyH_done (by kernel_rfl) ?_ _
    refine NoPanic.normal ?_
    go_wp2
    go_ret
    obtain ⟨K4, T4⟩ := K3.below uE0
    obtain ⟨K5, T5⟩ := K4.putPv (g.put_same _ _) Q5 G5
    rw [g.put_put] at K5
    exact ⟨n3, F3, _, _, rfl, K5, (TT.trans T4).trans T5, hn3⟩
  · have hv : Hid (parG g s.v seq (strOfNums xs) = (g.put seq (certS g.f g.view { g.slot seq with pv := (addPv g s.v seq (strOfNums xs)).1 }), 0)) := (if_neg (not_not_intro cj)).trans ((if_neg cp).trans (if_neg ca))
    have ta : ((addPv g s.v seq (strOfNums xs)).2 != 0) = false := by simpa using ca
    rw [hv.out]
    clear h b1 AX K1 T1 R1 sok sr S Sr lz vz hF cp ca
    unfold SA.val
    go_enter Try.func28, Try.ntmps28
    go_wp2_with fail
    rw [← hW1]
    clear hW1
    go_wp2_with (go_at_call 48; refine CJ.mono ?_; rintro e w1 ⟨rfl, hw1⟩; have hw1 := hw1.symm; subst hw1)
    have tHS : Hid (∀ V, Below W1.heap.size W1 V → V.cell? ⟨w.heap.size, 0, none⟩ = some (.int .u64 s.fr)) := fun V hV => (Arr.below HA.out hV HA.out.lt).cell 0
    have tE0 : Below W1.heap.size W1 W1.drew := (Below.refl _ _).drew
    refine wp_region_noPanic ?_
    refine wp_region_held_drew (S := fun V => V.cell? ⟨w.heap.size, 0, none⟩ = some (.int .u64 s.fr)) (by kernel_rfl) (tHS.out _ tE0) (fun tH0 => ?_)
    obtain ⟨tv0, hv0⟩ : ∃ v, v = W1.drew := ⟨_, rfl⟩
    rw [← hv0] at tH0 tE0 ⊢
    clear hv0
    refine hr_take_w 0 (some 20) (.pointer (some ⟨w.heap.size, 0, none⟩)) rfl rfl (by kernel_rfl) (by kernel_rfl) (by kernel_rfl) rfl (fun W hW => by go_simp) tH0 ?_
    simp only [FL]
    refine hr_take_w 1 (some 21) (.int .u64 s.fr) rfl rfl (by kernel_rfl) (by kernel_rfl) (by kernel_rfl) rfl (fun W hW => by go_simp) tH0 ?_
    simp only [FL]
    refine hr_take_w 2 (some 22) (.pointer (some ⟨L, 0, none⟩)) rfl rfl (by kernel_rfl) (by kernel_rfl) (by kernel_rfl) rfl (fun W hW => by go_simp) tH0 ?_
    simp only [FL]
    refine hr_call_w 3 (some 23) 49 #[.pointer (some ⟨L, 0, none⟩)] rfl rfl (by kernel_rfl) rfl (by go_simp) (fun v w' => v = .int .u64 (prF g.view g.f : Nat) ∧ Below tv0.heap.size tv0 w') ((primary_log tv0 L g.f g.low g.view M (HG.out.1.lc.below tE0) HQ.out.1).mono (by
      rintro e w' ⟨rfl, C⟩
      exact ⟨_, rfl, rfl, C⟩)) ?_
    rintro v tv1 ⟨rfl, tC0⟩
    have tE1 := tE0.trans (tC0.mono tE0.size)
    have tH1 := tHS.out tv1 tE1
    refine ⟨tH1, ?_⟩
    simp only [FL]
    refine hr_take_w 4 (some 24) (.bool false) rfl rfl (by kernel_rfl) (by kernel_rfl) (by kernel_rfl) rfl (fun W hW => by go_simp) tH1 ?_
    simp only [FL]
    refine wpAnyH_done (by kernel_rfl) ?_ _
    refine NoPanic.normal ?_
    obtain ⟨K2, T2⟩ := HG.out.1.below tE1
    have CS := slot_any tv1 base L M n g F B _ K2 hn seq (jdgS_win cj)
    go_wp2_with (go_at_call 50; refine CS.mono ?_; rintro e w3 ⟨n3, F3, B3, ρ3, rfl, K3, T3, hn3⟩)
    have TT := (HG.out.2.1.trans T2).trans T3
    have sok3 := TT.sa HS.out.1.1 HS.out.1.2
    have S3 := TT.sl HS.out.2.1 HS.out.2.2
    obtain ⟨-, HX⟩ := K3.here seq _ (g.put_same _ _)
    obtain ⟨q1, q2, q3, q4⟩ := K3.ro seq _ (g.put_same _ _)
    have AB : Arr w3 w.heap.size 62 [.int .u64 s.fr, .slice s.b.ao s.b.n s.b.cap, .slice s.tag.ao s.tag.n s.tag.cap] := ((T2.trans T3).keep _ HA.out.lt (.inl HG.out.2.2)).trans HA.out
    have rB : ρ3 w.heap.size = 0 := ((T2.trans T3).role _ HA.out.lt).trans HG.out.2.2
    have nXp : (B3 seq).X ≠ (B3 seq).p := fun e => by rw [← e, q1] at q2; omega
    have nXq : (B3 seq).X ≠ (B3 seq).q := fun e => by rw [← e, q1] at q3; omega
    have nBp : w.heap.size ≠ (B3 seq).p := fun e => by rw [← e, rB] at q2; omega
    have nBq : w.heap.size ≠ (B3 seq).q := fun e => by rw [← e, rB] at q3; omega
    have nBX : w.heap.size ≠ (B3 seq).X := fun e => by rw [← e, rB] at q1; omega
    go_wp2_with fail
    have uHS : Hid (∀ V, Below w3.heap.size w3 V → V.cell? ⟨(B3 seq).X, 5, none⟩ = some (.pointer (some ⟨(B3 seq).p, 0, none⟩)) ∧ V.cell? ⟨w.heap.size, 0, none⟩ = some (.int .u64 s.fr) ∧ V.cell? ⟨w.heap.size, 1, none⟩ = some (.slice s.b.ao s.b.n s.b.cap) ∧ V.cell? ⟨w.heap.size, 2, none⟩ = some (.slice s.tag.ao s.tag.n s.tag.cap)) := fun V hV => by have K := Arr.below AB hV AB.lt; exact ⟨(Arr.below HX.mem hV HX.lt).cell 5, K.cell 0, K.cell 1, K.cell 2⟩
    have uE0 : Below w3.heap.size w3 w3.drew := (Below.refl _ _).drew
    refine wp_region_noPanic ?_
    refine wp_region_held_drew (S := fun V => V.cell? ⟨(B3 seq).X, 5, none⟩ = some (.pointer (some ⟨(B3 seq).p, 0, none⟩)) ∧ V.cell? ⟨w.heap.size, 0, none⟩ = some (.int .u64 s.fr) ∧ V.cell? ⟨w.heap.size, 1, none⟩ = some (.slice s.b.ao s.b.n s.b.cap) ∧ V.cell? ⟨w.heap.size, 2, none⟩ = some (.slice s.tag.ao s.tag.n s.tag.cap)) (by kernel_rfl) (uHS.out _ uE0) (fun uH0 => ?_)
    obtain ⟨uv0, hv0⟩ : ∃ v, v = w3.drew := ⟨_, rfl⟩
    rw [← hv0] at uH0 uE0 ⊢
    clear hv0
    refine hr_take_w 0 (some 28) (.pointer (some ⟨(B3 seq).X, 0, none⟩)) rfl rfl (by kernel_rfl) (by kernel_rfl) (by kernel_rfl) rfl (fun W hW => by obtain ⟨h0, h1, h2, h3⟩ := hW; go_simp) uH0 ?_
    simp only [FL]
    refine hr_take_w 1 (some 29) (.pointer (some ⟨(B3 seq).X, 0, none⟩)) rfl rfl (by kernel_rfl) (by kernel_rfl) (by kernel_rfl) rfl (fun W hW => by obtain ⟨h0, h1, h2, h3⟩ := hW; go_simp) uH0 ?_
    simp only [FL]
    refine hr_take_w 2 (some 30) (.pointer (some ⟨(B3 seq).X, 0, none⟩)) rfl rfl (by kernel_rfl) (by kernel_rfl) (by kernel_rfl) rfl (fun W hW => by obtain ⟨h0, h1, h2, h3⟩ := hW; go_simp) uH0 ?_
    simp only [FL]
    refine hr_take_w 3 (some 31) (.pointer (some ⟨(B3 seq).X, 5, none⟩)) rfl rfl (by kernel_rfl) (by kernel_rfl) (by kernel_rfl) rfl (fun W hW => by obtain ⟨h0, h1, h2, h3⟩ := hW; go_simp) uH0 ?_
    simp only [FL]
    refine hr_take_w 4 (some 32) (.pointer (some ⟨(B3 seq).p, 0, none⟩)) rfl rfl (by kernel_rfl) (by kernel_rfl) (by kernel_rfl) rfl (fun W hW => by obtain ⟨h0, h1, h2, h3⟩ := hW; go_simp) uH0 ?_
    simp only [FL]
    refine hr_take_w 5 (some 33) (.agg #[.int .u64 s.fr, .slice s.b.ao s.b.n s.b.cap, .slice s.tag.ao s.tag.n s.tag.cap]) rfl rfl (by kernel_rfl) (by kernel_rfl) (by kernel_rfl) rfl (fun W hW => by obtain ⟨h0, h1, h2, h3⟩ := hW; go_simp) uH0 ?_
    simp only [FL]
    refine hr_take_w 6 (some 34) (.slice ao n1 cap) rfl rfl (by kernel_rfl) (by kernel_rfl) (by kernel_rfl) rfl (fun W hW => by obtain ⟨h0, h1, h2, h3⟩ := hW; go_simp) uH0 ?_
    simp only [FL]
    have S9 := sok3.1.below uE0
    have S8 := S3.1.below uE0
    refine hr_call_w 7 (some 35) 53 #[.pointer (some ⟨(B3 seq).p, 0, none⟩), .agg #[.int .u64 s.fr, .slice s.b.ao s.b.n s.b.cap, .slice s.tag.ao s.tag.n s.tag.cap], .slice ao n1 cap] rfl rfl (by kernel_rfl) rfl (by go_simp) (fun v w' => v = .int .i64 (addPv g s.v seq (strOfNums xs)).2 ∧ QS w' (B3 seq).p g.f (addPv g s.v seq (strOfNums xs)).1 ∧ uv0.grownBy w' (some (B3 seq).p)) ((add_any uv0 (B3 seq).p g.f (g.slot seq).pv (HX.P.below uE0) s.fr HQ.out.2 s.b.ao s.tag.ao ao s.b.n s.b.cap s.tag.n s.tag.cap n1 cap s.b.xs s.tag.xs xs S9.b S9.tag S8 sz.1 sz.2 n1z).mono (by
      rintro e w' ⟨rfl, h1, h2⟩
      exact ⟨_, rfl, rfl, h1, h2⟩)) ?_
    rintro v w5 ⟨rfl, Q5, G5⟩
    refine ⟨⟨(grown_cell G5 (Nat.lt_of_lt_of_le HX.lt uE0.size) nXp).trans uH0.1, (grown_cell G5 (Nat.lt_of_lt_of_le AB.lt uE0.size) nBp).trans uH0.2.1, (grown_cell G5 (Nat.lt_of_lt_of_le AB.lt uE0.size) nBp).trans uH0.2.2.1, (grown_cell G5 (Nat.lt_of_lt_of_le AB.lt uE0.size) nBp).trans uH0.2.2.2⟩, ?_⟩
    simp only [FL]
    refine hr_take_w 8 (some 11) (.int .i64 (addPv g s.v seq (strOfNums xs)).2) rfl rfl (by kernel_rfl) (by kernel_rfl) (by kernel_rfl) rfl (fun W hW => by obtain ⟨h0, h1, h2, h3⟩ := hW; go_simp) ⟨(grown_cell G5 (Nat.lt_of_lt_of_le HX.lt uE0.size) nXp).trans uH0.1, (grown_cell G5 (Nat.lt_of_lt_of_le AB.lt uE0.size) nBp).trans uH0.2.1, (grown_cell G5 (Nat.lt_of_lt_of_le AB.lt uE0.size) nBp).trans uH0.2.2.1, (grown_cell G5 (Nat.lt_of_lt_of_le AB.lt uE0.size) nBp).trans uH0.2.2.2⟩ ?_
    simp only [FL]
    refine wpAnyH_done (by kernel_rfl) ?_ _
    refine NoPanic.normal ?_
    obtain ⟨K4, T4⟩ := K3.below uE0
    obtain ⟨K5, T5⟩ := K4.putPv (g.put_same _ _) Q5 G5
    rw [g.put_put] at K5
    have CC := certify_any w5 base L M n3 _ F3 _ _ K5 seq _ (g.put_same _ _)
    rw [if_pos rfl] at CC
    go_wp2_with (go_at_call 52; refine CC.mono ?_; rintro e w6 ⟨B6, ρ6, rfl, K6, T6⟩)
    go_ret
    rw [g.put_put] at K6
    exact ⟨n3, F3, B6, ρ6, rfl, K6, ((TT.trans T4).trans T5).trans T6, hn3⟩
open Go.RowKit
set_option maxRecDepth 100000 in
set_option maxHeartbeats 4000000 in
theorem pre_any (w : World) (base L M n : Nat) (g : GT) (F : Value → Option Value) (B : Nat → SB) (ρ : Nat → Nat) (h : LG w base L M n g F B ρ) (hn : n < maxLen) (s : SA) (sok : s.ok w) (sr : ∀ z, s.blk z → ρ z = 0) (sz : s.b.n ≤ 1000000 ∧ s.tag.n ≤ 1000000) (seq : Nat) (hs : seq < 18446744073709551616)
    (ao : Option Addr) (n1 cap : Nat) (xs : List Int) (S : Sl w ao n1 cap xs) (Sr : ∀ z, sblk ao n1 z → ρ z = 0) (n1z : n1 ≤ 1000000) :
    Calls Try.prog 27 #[.pointer (some ⟨L, 0, none⟩), s.val, .int .u64 (seq : Nat), .slice ao n1 cap] w (MsgPost w base L M n ρ (preG g s.v seq (strOfNums xs))) := by
  have hF : Hid (preG g s.v seq (strOfNums xs) = preG g s.v seq (strOfNums xs)) := rfl
  have lz := h.lowz
  have vz := h.viewz
  obtain ⟨W1, hW1⟩ : ∃ W1, W1 = (w.alloc (.cells #[.int .u64 s.fr, .slice s.b.ao s.b.n s.b.cap, .slice s.tag.ao s.tag.n s.tag.cap] 62)) := ⟨_, rfl⟩
  have b1 : Below w.heap.size w W1 := by rw [hW1]; exact (Below.refl _ w).alloc (Nat.le_refl _) _
  have AX : Arr W1 w.heap.size 62 [.int .u64 s.fr, .slice s.b.ao s.b.n s.b.cap, .slice s.tag.ao s.tag.n s.tag.cap] := by rw [hW1]; exact heap_alloc_new w _
  have x0 : W1.cell? ⟨w.heap.size, 0, none⟩ = some (.int .u64 s.fr) := AX.cell 0
  have HA : Hid (Arr W1 w.heap.size 62 [.int .u64 s.fr, .slice s.b.ao s.b.n s.b.cap, .slice s.tag.ao s.tag.n s.tag.cap]) := AX
  obtain ⟨K1, T1⟩ := h.below b1
  have R1 : rho w ρ w.heap.size = 0 := rho_new (Nat.le_refl _)
  have CJ := judge_log W1 L g.f g.low g.view M s.fr seq K1.lc h.f1 h.f4 (by omega) hs
  have HG : Hid (LG W1 base L M n g F B (rho w ρ) ∧ Stp base w W1 ρ (rho w ρ) ∧ rho w ρ w.heap.size = 0) := ⟨K1, T1, R1⟩
  have HS : Hid ((s.ok w ∧ ∀ z, s.blk z → ρ z = 0) ∧ Sl w ao n1 cap xs ∧ ∀ z, sblk ao n1 z → ρ z = 0) := ⟨⟨sok, sr⟩, S, Sr⟩
  have HQ : Hid (g.view < 18446744073709551616 ∧ s.fr < 18446744073709551616) := ⟨by omega, sok.fr⟩
  by_cases cj : jdgS g.f g.low s.fr seq ≠ 0
  · have hv : Hid (preG g s.v seq (strOfNums xs) = (g, jdgS g.f g.low s.fr seq)) := if_pos cj
    have tj : (jdgS g.f g.low s.fr seq != 0) = true := by simpa using cj
    rw [hv.out]
    generalize jdgS g.f g.low s.fr seq = jd at *
    clear h b1 AX K1 T1 R1 sok sr S Sr lz vz cj hF
    unfold SA.val
    go_enter Try.func27, Try.ntmps27
    go_wp2_with fail
    rw [← hW1]
    clear hW1
    go_wp2_with (go_at_call 48; refine CJ.mono ?_; rintro e w1 ⟨rfl, hw1⟩; have hw1 := hw1.symm; subst hw1)
    go_ret
    exact ⟨n, F, B, rho w ρ, rfl, HG.out.1, HG.out.2.1, by omega⟩
  have tj : (jdgS g.f g.low s.fr seq != 0) = false := by simpa using cj
  by_cases cp : s.fr ≠ prF g.view g.f
  · have hv : Hid (preG g s.v seq (strOfNums xs) = (g, 18)) := (if_neg cj).trans (if_pos cp)
    have tp : Hid (¬ (s.fr : Int) = (prF g.view g.f : Int)) := by show ¬ _; omega
    rw [hv.out]
    generalize jdgS g.f g.low s.fr seq = jd at CJ tj
    clear h b1 AX K1 T1 R1 sok sr S Sr lz vz hF cp cj
    unfold SA.val
    go_enter Try.func27, Try.ntmps27
    go_wp2_with fail
    rw [← hW1]
    clear hW1
    go_wp2_with (go_at_call 48; refine CJ.mono ?_; rintro e w1 ⟨rfl, hw1⟩; have hw1 := hw1.symm; subst hw1)
    have tHS : Hid (∀ V, Below W1.heap.size W1 V → V.cell? ⟨w.heap.size, 0, none⟩ = some (.int .u64 s.fr)) := fun V hV => (Arr.below HA.out hV HA.out.lt).cell 0
    have tE0 : Below W1.heap.size W1 W1.drew := (Below.refl _ _).drew
    refine wp_region_noPanic ?_
    refine wp_region_held_drew (S := fun V => V.cell? ⟨w.heap.size, 0, none⟩ = some (.int .u64 s.fr)) (by kernel_rfl) (tHS.out _ tE0) (fun tH0 => ?_)
    obtain ⟨tv0, hv0⟩ : ∃ v, v = W1.drew := ⟨_, rfl⟩
    rw [← hv0] at tH0 tE0 ⊢
    clear hv0
    refine hr_take_w 0 (some 19) (.pointer (some ⟨w.heap.size, 0, none⟩)) rfl rfl (by kernel_rfl) (by kernel_rfl) (by kernel_rfl) rfl (fun W hW => by go_simp) tH0 ?_
    simp only [FL]
    refine hr_take_w 1 (some 20) (.int .u64 s.fr) rfl rfl (by kernel_rfl) (by kernel_rfl) (by kernel_rfl) rfl (fun W hW => by go_simp) tH0 ?_
    simp only [FL]
    refine hr_take_w 2 (some 21) (.pointer (some ⟨L, 0, none⟩)) rfl rfl (by kernel_rfl) (by kernel_rfl) (by kernel_rfl) rfl (fun W hW => by go_simp) tH0 ?_
    simp only [FL]
    refine hr_call_w 3 (some 22) 49 #[.pointer (some ⟨L, 0, none⟩)] rfl rfl (by kernel_rfl) rfl (by go_simp) (fun v w' => v = .int .u64 (prF g.view g.f : Nat) ∧ Below tv0.heap.size tv0 w') ((primary_log tv0 L g.f g.low g.view M (HG.out.1.lc.below tE0) HQ.out.1).mono (by
      rintro e w' ⟨rfl, C⟩
      exact ⟨_, rfl, rfl, C⟩)) ?_
    rintro v tv1 ⟨rfl, tC0⟩
    have tE1 := tE0.trans (tC0.mono tE0.size)
    have tH1 := tHS.out tv1 tE1
    refine ⟨tH1, ?_⟩
    simp only [FL]
    refine hr_take_w 4 (some 23) (.bool true) rfl rfl (by kernel_rfl) (by kernel_rfl) (by kernel_rfl) rfl (fun W hW => by go_simp; exact tp.out) tH1 ?_
    simp only [FL]
    refine wpAnyH_done (by kernel_rfl) ?_ _
    refine NoPanic.normal ?_
    go_wp2
    go_ret
    obtain ⟨K2, T2⟩ := HG.out.1.below tE1
    exact ⟨n, F, B, _, rfl, K2, HG.out.2.1.trans T2, by omega⟩
  have tp : Hid ((s.fr : Int) = (prF g.view g.f : Int)) := by show _ = _; omega
  have cj2 := cj
  have cj := Decidable.not_not.1 cj
  cases ch : (g.slot seq).has with
  | true =>
    by_cases ce : (g.slot seq).sum = strOfNums xs
    · have hv : Hid (preG g s.v seq (strOfNums xs) = (g.put seq (g.slot seq), 0)) := (if_neg cj2).trans ((if_neg cp).trans ((if_pos ch).trans (by rw [if_pos ce])))
      have te : ((g.slot seq).sum.toList == (strOfNums xs).toList) = true := by rw [ce]; simp
      rw [hv.out]
      clear h b1 AX K1 T1 R1 sok sr S Sr lz vz hF cp ce cj2
      unfold SA.val
      go_enter Try.func27, Try.ntmps27
      go_wp2_with fail
      rw [← hW1]
      clear hW1
      go_wp2_with (go_at_call 48; refine CJ.mono ?_; rintro e w1 ⟨rfl, hw1⟩; have hw1 := hw1.symm; subst hw1)
      have tHS : Hid (∀ V, Below W1.heap.size W1 V → V.cell? ⟨w.heap.size, 0, none⟩ = some (.int .u64 s.fr)) := fun V hV => (Arr.below HA.out hV HA.out.lt).cell 0
      have tE0 : Below W1.heap.size W1 W1.drew := (Below.refl _ _).drew
      refine wp_region_noPanic ?_
      refine wp_region_held_drew (S := fun V => V.cell? ⟨w.heap.size, 0, none⟩ = some (.int .u64 s.fr)) (by kernel_rfl) (tHS.out _ tE0) (fun tH0 => ?_)
      obtain ⟨tv0, hv0⟩ : ∃ v, v = W1.drew := ⟨_, rfl⟩
      rw [← hv0] at tH0 tE0 ⊢
      clear hv0
      refine hr_take_w 0 (some 19) (.pointer (some ⟨w.heap.size, 0, none⟩)) rfl rfl (by kernel_rfl) (by kernel_rfl) (by kernel_rfl) rfl (fun W hW => by go_simp) tH0 ?_
      simp only [FL]
      refine hr_take_w 1 (some 20) (.int .u64 s.fr) rfl rfl (by kernel_rfl) (by kernel_rfl) (by kernel_rfl) rfl (fun W hW => by go_simp) tH0 ?_
      simp only [FL]
      refine hr_take_w 2 (some 21) (.pointer (some ⟨L, 0, none⟩)) rfl rfl (by kernel_rfl) (by kernel_rfl) (by kernel_rfl) rfl (fun W hW => by go_simp) tH0 ?_
      simp only [FL]
      refine hr_call_w 3 (some 22) 49 #[.pointer (some ⟨L, 0, none⟩)] rfl rfl (by kernel_rfl) rfl (by go_simp) (fun v w' => v = .int .u64 (prF g.view g.f : Nat) ∧ Below tv0.heap.size tv0 w') ((primary_log tv0 L g.f g.low g.view M (HG.out.1.lc.below tE0) HQ.out.1).mono (by
        rintro e w' ⟨rfl, C⟩
        exact ⟨_, rfl, rfl, C⟩)) ?_
      rintro v tv1 ⟨rfl, tC0⟩
      have tE1 := tE0.trans (tC0.mono tE0.size)
      have tH1 := tHS.out tv1 tE1
      refine ⟨tH1, ?_⟩
      simp only [FL]
      refine hr_take_w 4 (some 23) (.bool false) rfl rfl (by kernel_rfl) (by kernel_rfl) (by kernel_rfl) rfl (fun W hW => by go_simp; exact tp.out) tH1 ?_
      simp only [FL]
      refine wpAnyH_done (by kernel_rfl) ?_ _
      refine NoPanic.normal ?_
      obtain ⟨K2, T2⟩ := HG.out.1.below tE1
      have CS := slot_any tv1 base L M n g F B _ K2 hn seq (jdgS_win cj)
      go_wp2_with (go_at_call 50; refine CS.mono ?_; rintro e w3 ⟨n3, F3, B3, ρ3, rfl, K3, T3, hn3⟩)
      have TT := (HG.out.2.1.trans T2).trans T3
      have sok3 := TT.sa HS.out.1.1 HS.out.1.2
      have S3 := TT.sl HS.out.2.1 HS.out.2.2
      obtain ⟨-, HX⟩ := K3.here seq _ (g.put_same _ _)
      obtain ⟨q1, q2, q3, q4⟩ := K3.ro seq _ (g.put_same _ _)
      have AB : Arr w3 w.heap.size 62 [.int .u64 s.fr, .slice s.b.ao s.b.n s.b.cap, .slice s.tag.ao s.tag.n s.tag.cap] := ((T2.trans T3).keep _ HA.out.lt (.inl HG.out.2.2)).trans HA.out
      have rB : ρ3 w.heap.size = 0 := ((T2.trans T3).role _ HA.out.lt).trans HG.out.2.2
      have nBX : w.heap.size ≠ (B3 seq).X := fun e => by rw [← e, rB] at q1; omega
      have nSX : ∀ z, sblk ao n1 z → z ≠ (B3 seq).X := fun z hz e => by have := S3.2 z hz; rw [e, q1] at this; omega
      have hc0 : some (Value.bool (g.slot seq).has) = some (Value.bool true) := by rw [ch]
      go_wp2_with fail
      have uHS : Hid (∀ V, Below w3.heap.size w3 V → V.cell? ⟨(B3 seq).X, 0, none⟩ = some (.bool true) ∧ V.cell? ⟨(B3 seq).X, 1, none⟩ = some (.string (g.slot seq).sum) ∧ (convert 35 9 (.slice ao n1 cap)).run Try.prog V = .ok (.string (strOfNums xs)) V) := fun V hV => by have K := Arr.below HX.mem hV HX.lt; exact ⟨(K.cell 0).trans hc0, K.cell 1, conv_str (S3.1.below hV)⟩
      have uE0 : Below w3.heap.size w3 w3.drew := (Below.refl _ _).drew
      refine wp_region_noPanic ?_
      refine wp_region_held_drew (S := fun V => V.cell? ⟨(B3 seq).X, 0, none⟩ = some (.bool true) ∧ V.cell? ⟨(B3 seq).X, 1, none⟩ = some (.string (g.slot seq).sum) ∧ (convert 35 9 (.slice ao n1 cap)).run Try.prog V = .ok (.string (strOfNums xs)) V) (by kernel_rfl) (uHS.out _ uE0) (fun uH0 => ?_)
      obtain ⟨uv0, hv0⟩ : ∃ v, v = w3.drew := ⟨_, rfl⟩
      rw [← hv0] at uH0 uE0 ⊢
      clear hv0
      refine hr_take_w 0 (some 27) (.pointer (some ⟨(B3 seq).X, 0, none⟩)) rfl rfl (by kernel_rfl) (by kernel_rfl) (by kernel_rfl) rfl (fun W hW => by obtain ⟨h0, h1, h2⟩ := hW; go_simp) uH0 ?_
      simp only [FL]
      refine hr_take_w 1 (some 28) (.pointer (some ⟨(B3 seq).X, 0, none⟩)) rfl rfl (by kernel_rfl) (by kernel_rfl) (by kernel_rfl) rfl (fun W hW => by obtain ⟨h0, h1, h2⟩ := hW; go_simp) uH0 ?_
      simp only [FL]
      refine hr_take_w 2 (some 29) (.pointer (some ⟨(B3 seq).X, 0, none⟩)) rfl rfl (by kernel_rfl) (by kernel_rfl) (by kernel_rfl) rfl (fun W hW => by obtain ⟨h0, h1, h2⟩ := hW; go_simp) uH0 ?_
      simp only [FL]
      refine hr_take_w 3 (some 30) (.pointer (some ⟨(B3 seq).X, 0, none⟩)) rfl rfl (by kernel_rfl) (by kernel_rfl) (by kernel_rfl) rfl (fun W hW => by obtain ⟨h0, h1, h2⟩ := hW; go_simp) uH0 ?_
      simp only [FL]
      refine hr_take_w 4 (some 31) (.bool true) rfl rfl (by kernel_rfl) (by kernel_rfl) (by kernel_rfl) rfl (fun W hW => by obtain ⟨h0, h1, h2⟩ := hW; go_simp) uH0 ?_
      simp only [FL]
      refine hr_take_w 5 (some 32) (.bool true) rfl rfl (by kernel_rfl) (by kernel_rfl) (by kernel_rfl) rfl (fun W hW => by obtain ⟨h0, h1, h2⟩ := hW; go_simp) uH0 ?_
      simp only [FL]
      refine hr_take_w 6 (some 33) (.pointer (some ⟨(B3 seq).X, 0, none⟩)) rfl rfl (by kernel_rfl) (by kernel_rfl) (by kernel_rfl) rfl (fun W hW => by obtain ⟨h0, h1, h2⟩ := hW; go_simp) uH0 ?_
      simp only [FL]
      refine hr_take_w 7 (some 34) (.pointer (some ⟨(B3 seq).X, 0, none⟩)) rfl rfl (by kernel_rfl) (by kernel_rfl) (by kernel_rfl) rfl (fun W hW => by obtain ⟨h0, h1, h2⟩ := hW; go_simp) uH0 ?_
      simp only [FL]
      refine hr_take_w 8 (some 35) (.pointer (some ⟨(B3 seq).X, 0, none⟩)) rfl rfl (by kernel_rfl) (by kernel_rfl) (by kernel_rfl) rfl (fun W hW => by obtain ⟨h0, h1, h2⟩ := hW; go_simp) uH0 ?_
      simp only [FL]
      refine hr_take_w 9 (some 36) (.pointer (some ⟨(B3 seq).X, 1, none⟩)) rfl rfl (by kernel_rfl) (by kernel_rfl) (by kernel_rfl) rfl (fun W hW => by obtain ⟨h0, h1, h2⟩ := hW; go_simp) uH0 ?_
      simp only [FL]
      refine hr_take_w 10 (some 37) (.string (g.slot seq).sum) rfl rfl (by kernel_rfl) (by kernel_rfl) (by kernel_rfl) rfl (fun W hW => by obtain ⟨h0, h1, h2⟩ := hW; go_simp) uH0 ?_
      simp only [FL]
      refine hr_take_w 11 (some 38) (.slice ao n1 cap) rfl rfl (by kernel_rfl) (by kernel_rfl) (by kernel_rfl) rfl (fun W hW => by obtain ⟨h0, h1, h2⟩ := hW; go_simp) uH0 ?_
      simp only [FL]
      refine hr_take_w 12 (some 39) (.string (strOfNums xs)) rfl rfl (by kernel_rfl) (by kernel_rfl) (by kernel_rfl) rfl (fun W hW => by obtain ⟨h0, h1, h2⟩ := hW; go_simp) uH0 ?_
      simp only [FL]
      refine hr_take_w 13 (some 40) (.bool false) rfl rfl (by kernel_rfl) (by kernel_rfl) (by kernel_rfl) rfl (fun W hW => by obtain ⟨h0, h1, h2⟩ := hW; go_simp) uH0 ?_
      simp only [FL]
      refine hr_take_w 14 (some 41) (.bool false) rfl rfl (by kernel_rfl) (by kernel_rfl) (by kernel_rfl) rfl (fun W hW => by obtain ⟨h0, h1, h2⟩ := hW; go_simp) uH0 ?_
      simp only [FL]
      refine wpAnyH_done (by kernel_rfl) ?_ _
      refine NoPanic.normal ?_
      have c0 := uH0.1
      go_wp2
      go_ret
      obtain ⟨K4, T4⟩ := K3.below uE0
      exact ⟨n3, F3, B3, _, rfl, K4, TT.trans T4, hn3⟩
    · have hv : Hid (preG g s.v seq (strOfNums xs) = (g.put seq (g.slot seq), 18)) := (if_neg cj2).trans ((if_neg cp).trans ((if_pos ch).trans (by rw [if_neg ce])))
      have te : ((g.slot seq).sum.toList == (strOfNums xs).toList) = false := toL_ne ce
      rw [hv.out]
      clear h b1 AX K1 T1 R1 sok sr S Sr lz vz hF cp ce cj2
      unfold SA.val
      go_enter Try.func27, Try.ntmps27
      go_wp2_with fail
      rw [← hW1]
      clear hW1
      go_wp2_with (go_at_call 48; refine CJ.mono ?_; rintro e w1 ⟨rfl, hw1⟩; have hw1 := hw1.symm; subst hw1)
      have tHS : Hid (∀ V, Below W1.heap.size W1 V → V.cell? ⟨w.heap.size, 0, none⟩ = some (.int .u64 s.fr)) := fun V hV => (Arr.below HA.out hV HA.out.lt).cell 0
      have tE0 : Below W1.heap.size W1 W1.drew := (Below.refl _ _).drew
      refine wp_region_noPanic ?_
      refine wp_region_held_drew (S := fun V => V.cell? ⟨w.heap.size, 0, none⟩ = some (.int .u64 s.fr)) (by kernel_rfl) (tHS.out _ tE0) (fun tH0 => ?_)
      obtain ⟨tv0, hv0⟩ : ∃ v, v = W1.drew := ⟨_, rfl⟩
      rw [← hv0] at tH0 tE0 ⊢
      clear hv0
      refine hr_take_w 0 (some 19) (.pointer (some ⟨w.heap.size, 0, none⟩)) rfl rfl (by kernel_rfl) (by kernel_rfl) (by kernel_rfl) rfl (fun W hW => by go_simp) tH0 ?_
      simp only [FL]
      refine hr_take_w 1 (some 20) (.int .u64 s.fr) rfl rfl (by kernel_rfl) (by kernel_rfl) (by kernel_rfl) rfl (fun W hW => by go_simp) tH0 ?_
      simp only [FL]
      refine hr_take_w 2 (some 21) (.pointer (some ⟨L, 0, none⟩)) rfl rfl (by kernel_rfl) (by kernel_rfl) (by kernel_rfl) rfl (fun W hW => by go_simp) tH0 ?_
      simp only [FL]
      refine hr_call_w 3 (some 22) 49 #[.pointer (some ⟨L, 0, none⟩)] rfl rfl (by kernel_rfl) rfl (by go_simp) (fun v w' => v = .int .u64 (prF g.view g.f : Nat) ∧ Below tv0.heap.size tv0 w') ((primary_log tv0 L g.f g.low g.view M (HG.out.1.lc.below tE0) HQ.out.1).mono (by
        rintro e w' ⟨rfl, C⟩
        exact ⟨_, rfl, rfl, C⟩)) ?_
      rintro v tv1 ⟨rfl, tC0⟩
      have tE1 := tE0.trans (tC0.mono tE0.size)
      have tH1 := tHS.out tv1 tE1
      refine ⟨tH1, ?_⟩
      simp only [FL]
      refine hr_take_w 4 (some 23) (.bool false) rfl rfl (by kernel_rfl) (by kernel_rfl) (by kernel_rfl) rfl (fun W hW => by go_simp; exact tp.out) tH1 ?_
      simp only [FL]
      refine wpAnyH_done (by kernel_rfl) ?_ _
      refine NoPanic.normal ?_
      obtain ⟨K2, T2⟩ := HG.out.1.below tE1
      have CS := slot_any tv1 base L M n g F B _ K2 hn seq (jdgS_win cj)
      go_wp2_with (go_at_call 50; refine CS.mono ?_; rintro e w3 ⟨n3, F3, B3, ρ3, rfl, K3, T3, hn3⟩)
      have TT := (HG.out.2.1.trans T2).trans T3
      have sok3 := TT.sa HS.out.1.1 HS.out.1.2
      have S3 := TT.sl HS.out.2.1 HS.out.2.2
      obtain ⟨-, HX⟩ := K3.here seq _ (g.put_same _ _)
      obtain ⟨q1, q2, q3, q4⟩ := K3.ro seq _ (g.put_same _ _)
      have AB : Arr w3 w.heap.size 62 [.int .u64 s.fr, .slice s.b.ao s.b.n s.b.cap, .slice s.tag.ao s.tag.n s.tag.cap] := ((T2.trans T3).keep _ HA.out.lt (.inl HG.out.2.2)).trans HA.out
      have rB : ρ3 w.heap.size = 0 := ((T2.trans T3).role _ HA.out.lt).trans HG.out.2.2
      have nBX : w.heap.size ≠ (B3 seq).X := fun e => by rw [← e, rB] at q1; omega
      have nSX : ∀ z, sblk ao n1 z → z ≠ (B3 seq).X := fun z hz e => by have := S3.2 z hz; rw [e, q1] at this; omega
      have hc0 : some (Value.bool (g.slot seq).has) = some (Value.bool true) := by rw [ch]
      go_wp2_with fail
      have uHS : Hid (∀ V, Below w3.heap.size w3 V → V.cell? ⟨(B3 seq).X, 0, none⟩ = some (.bool true) ∧ V.cell? ⟨(B3 seq).X, 1, none⟩ = some (.string (g.slot seq).sum) ∧ (convert 35 9 (.slice ao n1 cap)).run Try.prog V = .ok (.string (strOfNums xs)) V) := fun V hV => by have K := Arr.below HX.mem hV HX.lt; exact ⟨(K.cell 0).trans hc0, K.cell 1, conv_str (S3.1.below hV)⟩
      have uE0 : Below w3.heap.size w3 w3.drew := (Below.refl _ _).drew
      refine wp_region_noPanic ?_
      refine wp_region_held_drew (S := fun V => V.cell? ⟨(B3 seq).X, 0, none⟩ = some (.bool true) ∧ V.cell? ⟨(B3 seq).X, 1, none⟩ = some (.string (g.slot seq).sum) ∧ (convert 35 9 (.slice ao n1 cap)).run Try.prog V = .ok (.string (strOfNums xs)) V) (by kernel_rfl) (uHS.out _ uE0) (fun uH0 => ?_)
      obtain ⟨uv0, hv0⟩ : ∃ v, v = w3.drew := ⟨_, rfl⟩
      rw [← hv0] at uH0 uE0 ⊢
      clear hv0
      refine hr_take_w 0 (some 27) (.pointer (some ⟨(B3 seq).X, 0, none⟩)) rfl rfl (by kernel_rfl) (by kernel_rfl) (by kernel_rfl) rfl (fun W hW => by obtain ⟨h0, h1, h2⟩ := hW; go_simp) uH0 ?_
      simp only [FL]
      refine hr_take_w 1 (some 28) (.pointer (some ⟨(B3 seq).X, 0, none⟩)) rfl rfl (by kernel_rfl) (by kernel_rfl) (by kernel_rfl) rfl (fun W hW => by obtain ⟨h0, h1, h2⟩ := hW; go_simp) uH0 ?_
      simp only [FL]
      refine hr_take_w 2 (some 29) (.pointer (some ⟨(B3 seq).X, 0, none⟩)) rfl rfl (by kernel_rfl) (by kernel_rfl) (by kernel_rfl) rfl (fun W hW => by obtain ⟨h0, h1, h2⟩ := hW; go_simp) uH0 ?_
      simp only [FL]
      refine hr_take_w 3 (some 30) (.pointer (some ⟨(B3 seq).X, 0, none⟩)) rfl rfl (by kernel_rfl) (by kernel_rfl) (by kernel_rfl) rfl (fun W hW => by obtain ⟨h0, h1, h2⟩ := hW; go_simp) uH0 ?_
      simp only [FL]
      refine hr_take_w 4 (some 31) (.bool true) rfl rfl (by kernel_rfl) (by kernel_rfl) (by kernel_rfl) rfl (fun W hW => by obtain ⟨h0, h1, h2⟩ := hW; go_simp) uH0 ?_
      simp only [FL]
      refine hr_take_w 5 (some 32) (.bool true) rfl rfl (by kernel_rfl) (by kernel_rfl) (by kernel_rfl) rfl (fun W hW => by obtain ⟨h0, h1, h2⟩ := hW; go_simp) uH0 ?_
      simp only [FL]
      refine hr_take_w 6 (some 33) (.pointer (some ⟨(B3 seq).X, 0, none⟩)) rfl rfl (by kernel_rfl) (by kernel_rfl) (by kernel_rfl) rfl (fun W hW => by obtain ⟨h0, h1, h2⟩ := hW; go_simp) uH0 ?_
      simp only [FL]
      refine hr_take_w 7 (some 34) (.pointer (some ⟨(B3 seq).X, 0, none⟩)) rfl rfl (by kernel_rfl) (by kernel_rfl) (by kernel_rfl) rfl (fun W hW => by obtain ⟨h0, h1, h2⟩ := hW; go_simp) uH0 ?_
      simp only [FL]
      refine hr_take_w 8 (some 35) (.pointer (some ⟨(B3 seq).X, 0, none⟩)) rfl rfl (by kernel_rfl) (by kernel_rfl) (by kernel_rfl) rfl (fun W hW => by obtain ⟨h0, h1, h2⟩ := hW; go_simp) uH0 ?_
      simp only [FL]
      refine hr_take_w 9 (some 36) (.pointer (some ⟨(B3 seq).X, 1, none⟩)) rfl rfl (by kernel_rfl) (by kernel_rfl) (by kernel_rfl) rfl (fun W hW => by obtain ⟨h0, h1, h2⟩ := hW; go_simp) uH0 ?_
      simp only [FL]
      refine hr_take_w 10 (some 37) (.string (g.slot seq).sum) rfl rfl (by kernel_rfl) (by kernel_rfl) (by kernel_rfl) rfl (fun W hW => by obtain ⟨h0, h1, h2⟩ := hW; go_simp) uH0 ?_
      simp only [FL]
      refine hr_take_w 11 (some 38) (.slice ao n1 cap) rfl rfl (by kernel_rfl) (by kernel_rfl) (by kernel_rfl) rfl (fun W hW => by obtain ⟨h0, h1, h2⟩ := hW; go_simp) uH0 ?_
      simp only [FL]
      refine hr_take_w 12 (some 39) (.string (strOfNums xs)) rfl rfl (by kernel_rfl) (by kernel_rfl) (by kernel_rfl) rfl (fun W hW => by obtain ⟨h0, h1, h2⟩ := hW; go_simp) uH0 ?_
      simp only [FL]
      refine hr_take_w 13 (some 40) (.bool true) rfl rfl (by kernel_rfl) (by kernel_rfl) (by kernel_rfl) rfl (fun W hW => by obtain ⟨h0, h1, h2⟩ := hW; go_simp) uH0 ?_
      simp only [FL]
      refine hr_take_w 14 (some 41) (.bool true) rfl rfl (by kernel_rfl) (by kernel_rfl) (by kernel_rfl) rfl (fun W hW => by obtain ⟨h0, h1, h2⟩ := hW; go_simp) uH0 ?_
      simp only [FL]
      refine wpAnyH_done (by kernel_rfl) ?_ _
      refine NoPanic.normal ?_
      have c0 := uH0.1
      go_wp2
      go_ret
      obtain ⟨K4, T4⟩ := K3.below uE0
      exact ⟨n3, F3, B3, _, rfl, K4, TT.trans T4, hn3⟩
  | false =>
    have hv : Hid (preG g s.v seq (strOfNums xs) = (g.put seq (certS g.f g.view { g.slot seq with has := true, sum := strOfNums xs, pre := s.v }), 0)) := (if_neg cj2).trans ((if_neg cp).trans (if_neg (by rw [ch]; simp)))
    rw [hv.out]
    clear h b1 AX K1 T1 R1 sok sr S Sr lz vz hF cp cj2
    unfold SA.val
    go_enter Try.func27, Try.ntmps27
    go_wp2_with fail
    rw [← hW1]
    clear hW1
    go_wp2_with (go_at_call 48; refine CJ.mono ?_; rintro e w1 ⟨rfl, hw1⟩; have hw1 := hw1.symm; subst hw1)
    have tHS : Hid (∀ V, Below W1.heap.size W1 V → V.cell? ⟨w.heap.size, 0, none⟩ = some (.int .u64 s.fr)) := fun V hV => (Arr.below HA.out hV HA.out.lt).cell 0
    have tE0 : Below W1.heap.size W1 W1.drew := (Below.refl _ _).drew
    refine wp_region_noPanic ?_
    refine wp_region_held_drew (S := fun V => V.cell? ⟨w.heap.size, 0, none⟩ = some (.int .u64 s.fr)) (by kernel_rfl) (tHS.out _ tE0) (fun tH0 => ?_)
    obtain ⟨tv0, hv0⟩ : ∃ v, v = W1.drew := ⟨_, rfl⟩
    rw [← hv0] at tH0 tE0 ⊢
    clear hv0
    refine hr_take_w 0 (some 19) (.pointer (some ⟨w.heap.size, 0, none⟩)) rfl rfl (by kernel_rfl) (by kernel_rfl) (by kernel_rfl) rfl (fun W hW => by go_simp) tH0 ?_
    simp only [FL]
    refine hr_take_w 1 (some 20) (.int .u64 s.fr) rfl rfl (by kernel_rfl) (by kernel_rfl) (by kernel_rfl) rfl (fun W hW => by go_simp) tH0 ?_
    simp only [FL]
    refine hr_take_w 2 (some 21) (.pointer (some ⟨L, 0, none⟩)) rfl rfl (by kernel_rfl) (by kernel_rfl) (by kernel_rfl) rfl (fun W hW => by go_simp) tH0 ?_
    simp only [FL]
    refine hr_call_w 3 (some 22) 49 #[.pointer (some ⟨L, 0, none⟩)] rfl rfl (by kernel_rfl) rfl (by go_simp) (fun v w' => v = .int .u64 (prF g.view g.f : Nat) ∧ Below tv0.heap.size tv0 w') ((primary_log tv0 L g.f g.low g.view M (HG.out.1.lc.below tE0) HQ.out.1).mono (by
      rintro e w' ⟨rfl, C⟩
      exact ⟨_, rfl, rfl, C⟩)) ?_
    rintro v tv1 ⟨rfl, tC0⟩
    have tE1 := tE0.trans (tC0.mono tE0.size)
    have tH1 := tHS.out tv1 tE1
    refine ⟨tH1, ?_⟩
    simp only [FL]
    refine hr_take_w 4 (some 23) (.bool false) rfl rfl (by kernel_rfl) (by kernel_rfl) (by kernel_rfl) rfl (fun W hW => by go_simp; exact tp.out) tH1 ?_
    simp only [FL]
    refine wpAnyH_done (by kernel_rfl) ?_ _
    refine NoPanic.normal ?_
    obtain ⟨K2, T2⟩ := HG.out.1.below tE1
    have CS := slot_any tv1 base L M n g F B _ K2 hn seq (jdgS_win cj)
    go_wp2_with (go_at_call 50; refine CS.mono ?_; rintro e w3 ⟨n3, F3, B3, ρ3, rfl, K3, T3, hn3⟩)
    have TT := (HG.out.2.1.trans T2).trans T3
    have sok3 := TT.sa HS.out.1.1 HS.out.1.2
    have S3 := TT.sl HS.out.2.1 HS.out.2.2
    obtain ⟨-, HX⟩ := K3.here seq _ (g.put_same _ _)
    obtain ⟨q1, q2, q3, q4⟩ := K3.ro seq _ (g.put_same _ _)
    have AB : Arr w3 w.heap.size 62 [.int .u64 s.fr, .slice s.b.ao s.b.n s.b.cap, .slice s.tag.ao s.tag.n s.tag.cap] := ((T2.trans T3).keep _ HA.out.lt (.inl HG.out.2.2)).trans HA.out
    have rB : ρ3 w.heap.size = 0 := ((T2.trans T3).role _ HA.out.lt).trans HG.out.2.2
    have nBX : w.heap.size ≠ (B3 seq).X := fun e => by rw [← e, rB] at q1; omega
    have nSX : ∀ z, sblk ao n1 z → z ≠ (B3 seq).X := fun z hz e => by have := S3.2 z hz; rw [e, q1] at this; omega
    have hc0 : some (Value.bool (g.slot seq).has) = some (Value.bool false) := by rw [ch]
    go_wp2_with fail
    have uHS : Hid (∀ V, Below w3.heap.size w3 V → V.cell? ⟨(B3 seq).X, 0, none⟩ = some (.bool false) ∧ V.cell? ⟨(B3 seq).X, 1, none⟩ = some (.string (g.slot seq).sum) ∧ (convert 35 9 (.slice ao n1 cap)).run Try.prog V = .ok (.string (strOfNums xs)) V) := fun V hV => by have K := Arr.below HX.mem hV HX.lt; exact ⟨(K.cell 0).trans hc0, K.cell 1, conv_str (S3.1.below hV)⟩
    have uE0 : Below w3.heap.size w3 w3.drew := (Below.refl _ _).drew
    refine wp_region_noPanic ?_
    refine wp_region_held_drew (S := fun V => V.cell? ⟨(B3 seq).X, 0, none⟩ = some (.bool false) ∧ V.cell? ⟨(B3 seq).X, 1, none⟩ = some (.string (g.slot seq).sum) ∧ (convert 35 9 (.slice ao n1 cap)).run Try.prog V = .ok (.string (strOfNums xs)) V) (by kernel_rfl) (uHS.out _ uE0) (fun uH0 => ?_)
    obtain ⟨uv0, hv0⟩ : ∃ v, v = w3.drew := ⟨_, rfl⟩
    rw [← hv0] at uH0 uE0 ⊢
    clear hv0
    refine hr_take_w 0 (some 27) (.pointer (some ⟨(B3 seq).X, 0, none⟩)) rfl rfl (by kernel_rfl) (by kernel_rfl) (by kernel_rfl) rfl (fun W hW => by obtain ⟨h0, h1, h2⟩ := hW; go_simp) uH0 ?_
    simp only [FL]
    refine hr_take_w 1 (some 28) (.pointer (some ⟨(B3 seq).X, 0, none⟩)) rfl rfl (by kernel_rfl) (by kernel_rfl) (by kernel_rfl) rfl (fun W hW => by obtain ⟨h0, h1, h2⟩ := hW; go_simp) uH0 ?_
    simp only [FL]
    refine hr_take_w 2 (some 29) (.pointer (some ⟨(B3 seq).X, 0, none⟩)) rfl rfl (by kernel_rfl) (by kernel_rfl) (by kernel_rfl) rfl (fun W hW => by obtain ⟨h0, h1, h2⟩ := hW; go_simp) uH0 ?_
    simp only [FL]
    refine hr_take_w 3 (some 30) (.pointer (some ⟨(B3 seq).X, 0, none⟩)) rfl rfl (by kernel_rfl) (by kernel_rfl) (by kernel_rfl) rfl (fun W hW => by obtain ⟨h0, h1, h2⟩ := hW; go_simp) uH0 ?_
    simp only [FL]
    refine hr_take_w 4 (some 31) (.bool false) rfl rfl (by kernel_rfl) (by kernel_rfl) (by kernel_rfl) rfl (fun W hW => by obtain ⟨h0, h1, h2⟩ := hW; go_simp) uH0 ?_
    simp only [FL]
    refine hr_take_w 5 (some 32) (.bool false) rfl rfl (by kernel_rfl) (by kernel_rfl) (by kernel_rfl) rfl (fun W hW => by obtain ⟨h0, h1, h2⟩ := hW; go_simp) uH0 ?_
    simp only [FL]
    refine hr_none 6 (some 33) rfl rfl (by kernel_rfl) (by kernel_rfl) (by kernel_rfl) rfl uH0 ?_
    simp only [FL]
    refine hr_none 7 (some 34) rfl rfl (by kernel_rfl) (by kernel_rfl) (by kernel_rfl) rfl uH0 ?_
    simp only [FL]
    refine hr_none 8 (some 35) rfl rfl (by kernel_rfl) (by kernel_rfl) (by kernel_rfl) rfl uH0 ?_
    simp only [FL]
    refine hr_none 9 (some 36) rfl rfl (by kernel_rfl) (by kernel_rfl) (by kernel_rfl) rfl uH0 ?_
    simp only [FL]
    refine hr_none 10 (some 37) rfl rfl (by kernel_rfl) (by kernel_rfl) (by kernel_rfl) rfl uH0 ?_
    simp only [FL]
    refine hr_none 11 (some 38) rfl rfl (by kernel_rfl) (by kernel_rfl) (by kernel_rfl) rfl uH0 ?_
    simp only [FL]
    refine hr_none 12 (some 39) rfl rfl (by kernel_rfl) (by kernel_rfl) (by kernel_rfl) rfl uH0 ?_
    simp only [FL]
    refine hr_none 13 (some 40) rfl rfl (by kernel_rfl) (by kernel_rfl) (by kernel_rfl) rfl uH0 ?_
    simp only [FL]
    refine hr_take_w 14 (some 41) (.bool false) rfl rfl (by kernel_rfl) (by kernel_rfl) (by kernel_rfl) rfl (fun W hW => by obtain ⟨h0, h1, h2⟩ := hW; go_simp) uH0 ?_
    simp only [FL]
    refine wpAnyH_done (by kernel_rfl) ?_ _
    refine NoPanic.normal ?_
    have c0 := uH0.1
    go_wp2_with fail
    have HK : Hid (∀ V, But uv0 (B3 seq).X V → V.cell? ⟨w.heap.size, 0, none⟩ = some (.int .u64 s.fr) ∧ V.cell? ⟨w.heap.size, 1, none⟩ = some (.slice s.b.ao s.b.n s.b.cap) ∧ V.cell? ⟨w.heap.size, 2, none⟩ = some (.slice s.tag.ao s.tag.n s.tag.cap) ∧ (convert 35 9 (.slice ao n1 cap)).run Try.prog V = .ok (.string (strOfNums xs)) V) := fun V hV => by
      have K := AB.below uE0 AB.lt
      have hl := Nat.lt_of_lt_of_le AB.lt uE0.size
      exact ⟨(hV.cell hl nBX).trans (K.cell 0), (hV.cell hl nBX).trans (K.cell 1), (hV.cell hl nBX).trans (K.cell 2), conv_str (hV.sl (S3.1.below uE0) nSX)⟩
    have xE00 : Below uv0.heap.size uv0 uv0.drew := (Below.refl _ _).drew
    refine wp_region_noPanic ?_
    refine wp_region_held_drew (S := fun V => But uv0 (B3 seq).X V) (by kernel_rfl) (But.of xE00) (fun xH0 => ?_)
    obtain ⟨xv0, hv0⟩ : ∃ v, v = uv0.drew := ⟨_, rfl⟩
    rw [← hv0] at xE00 xH0 ⊢
    clear hv0
    refine hr_take_w 0 (some 48) (.pointer (some ⟨(B3 seq).X, 0, none⟩)) rfl rfl (by kernel_rfl) (by kernel_rfl) (by kernel_rfl) rfl (fun W hW => by obtain ⟨h0, h1, h2, h3⟩ := HK.out W hW; go_simp) xH0 ?_
    simp only [FL]
    refine hr_take_w 1 (some 49) (.pointer (some ⟨(B3 seq).X, 0, none⟩)) rfl rfl (by kernel_rfl) (by kernel_rfl) (by kernel_rfl) rfl (fun W hW => by obtain ⟨h0, h1, h2, h3⟩ := HK.out W hW; go_simp) xH0 ?_
    simp only [FL]
    refine hr_take_w 2 (some 50) (.pointer (some ⟨(B3 seq).X, 0, none⟩)) rfl rfl (by kernel_rfl) (by kernel_rfl) (by kernel_rfl) rfl (fun W hW => by obtain ⟨h0, h1, h2, h3⟩ := HK.out W hW; go_simp) xH0 ?_
    simp only [FL]
    refine hr_take_w 3 (some 51) (.slice ao n1 cap) rfl rfl (by kernel_rfl) (by kernel_rfl) (by kernel_rfl) rfl (fun W hW => by obtain ⟨h0, h1, h2, h3⟩ := HK.out W hW; go_simp) xH0 ?_
    simp only [FL]
    refine hr_take_w 4 (some 52) (.string (strOfNums xs)) rfl rfl (by kernel_rfl) (by kernel_rfl) (by kernel_rfl) rfl (fun W hW => by obtain ⟨h0, h1, h2, h3⟩ := HK.out W hW; go_simp) xH0 ?_
    simp only [FL]
    refine hr_take_w 5 (some 53) (.agg #[.int .u64 s.fr, .slice s.b.ao s.b.n s.b.cap, .slice s.tag.ao s.tag.n s.tag.cap]) rfl rfl (by kernel_rfl) (by kernel_rfl) (by kernel_rfl) rfl (fun W hW => by obtain ⟨h0, h1, h2, h3⟩ := HK.out W hW; go_simp) xH0 ?_
    simp only [FL]
    have sok4 := sok3.1.below (uE0.trans (xE00.mono uE0.size))
    refine hr_call_w 6 (some 54) 51 #[.agg #[.int .u64 s.fr, .slice s.b.ao s.b.n s.b.cap, .slice s.tag.ao s.tag.n s.tag.cap]] rfl rfl (by kernel_rfl) rfl (by go_simp) (fun v w' => ∃ ro rc so sc, v = .agg #[.int .u64 s.fr, .slice ro s.b.n rc, .slice so s.tag.n sc] ∧ SA.ok ⟨s.fr, ⟨ro, s.b.n, rc, s.b.xs⟩, ⟨so, s.tag.n, sc, s.tag.xs⟩⟩ w' ∧ Below xv0.heap.size xv0 w' ∧ ∀ z, SA.blk ⟨s.fr, ⟨ro, s.b.n, rc, s.b.xs⟩, ⟨so, s.tag.n, sc, s.tag.xs⟩⟩ z → xv0.heap.size ≤ z) ((clone15 xv0 s sok4 sz).mono (by
      rintro e w' ⟨ro, rc, so, sc, rfl, h1, h2, h3, h4, h5⟩
      exact ⟨_, rfl, ro, rc, so, sc, rfl, ⟨HQ.out.2, h1, h2⟩, h3, fun z hz => hz.elim (h4 z) (h5 z)⟩)) ?_
    rintro v xv1 ⟨ro, rc, so, sc, rfl, OK1, xC1, N1⟩
    have xE1 : Below uv0.heap.size uv0 xv1 := xE00.trans (xC1.mono xE00.size)
    have xH1 := But.of (X := (B3 seq).X) xE1
    have A1 := Arr.below HX.mem (uE0.trans (xE1.mono uE0.size)) HX.lt
    have x0 : xv1.cell? ⟨(B3 seq).X, 0, none⟩ = some (.bool (g.slot seq).has) := A1.cell 0
    have y0 := A1.free 0
    refine ⟨xH1, ?_⟩
    simp only [FL]
    refine hr_take_w 7 (some 55) (.pointer (some ⟨(B3 seq).X, 0, none⟩)) rfl rfl (by kernel_rfl) (by kernel_rfl) (by kernel_rfl) rfl (fun W hW => by obtain ⟨h0, h1, h2, h3⟩ := HK.out W hW; go_simp) xH1 ?_
    simp only [FL]
    refine hr_take_w 8 (some 56) (.pointer (some ⟨(B3 seq).X, 0, none⟩)) rfl rfl (by kernel_rfl) (by kernel_rfl) (by kernel_rfl) rfl (fun W hW => by obtain ⟨h0, h1, h2, h3⟩ := HK.out W hW; go_simp) xH1 ?_
    simp only [FL]
    refine hr_take_w 9 (some 57) (.pointer (some ⟨(B3 seq).X, 0, none⟩)) rfl rfl (by kernel_rfl) (by kernel_rfl) (by kernel_rfl) rfl (fun W hW => by obtain ⟨h0, h1, h2, h3⟩ := HK.out W hW; go_simp) xH1 ?_
    simp only [FL]
    have g0 := But.grown xH1 (grown_set (bel_grown (Below.refl _ xv1) (some (B3 seq).X)) 0 (.bool true))
    have A2 := A1.set 0 (.bool true)
    obtain ⟨xv2, hxv2⟩ : ∃ v, v = xv1.setCell ⟨(B3 seq).X, 0, none⟩ (.bool true) := ⟨_, rfl⟩
    have G2 : xv1.grownBy xv2 (some (B3 seq).X) := by rw [hxv2]; exact grown_set (bel_grown (Below.refl _ xv1) (some (B3 seq).X)) 0 (.bool true)
    rw [← hxv2] at g0 A2
    refine hr_skip 10 none (w' := xv2) rfl rfl (by kernel_rfl) rfl (by rw [hxv2]; go_simp) g0 ?_
    simp only [Act.put]
    refine hr_take_w 11 (some 58) (.pointer (some ⟨(B3 seq).X, 0, none⟩)) rfl rfl (by kernel_rfl) (by kernel_rfl) (by kernel_rfl) rfl (fun W hW => by obtain ⟨h0, h1, h2, h3⟩ := HK.out W hW; go_simp) g0 ?_
    simp only [FL]
    refine hr_take_w 12 (some 59) (.pointer (some ⟨(B3 seq).X, 0, none⟩)) rfl rfl (by kernel_rfl) (by kernel_rfl) (by kernel_rfl) rfl (fun W hW => by obtain ⟨h0, h1, h2, h3⟩ := HK.out W hW; go_simp) g0 ?_
    simp only [FL]
    refine hr_take_w 13 (some 60) (.pointer (some ⟨(B3 seq).X, 1, none⟩)) rfl rfl (by kernel_rfl) (by kernel_rfl) (by kernel_rfl) rfl (fun W hW => by obtain ⟨h0, h1, h2, h3⟩ := HK.out W hW; go_simp) g0 ?_
    simp only [FL]
    have x1 : xv2.cell? ⟨(B3 seq).X, 1, none⟩ = some (.string (g.slot seq).sum) := A2.cell 1
    have y1 := A2.free 1
    have g1 := But.grown g0 (grown_set (bel_grown (Below.refl _ xv2) (some (B3 seq).X)) 1 (.string (strOfNums xs)))
    have A3 := A2.set 1 (.string (strOfNums xs))
    obtain ⟨xv3, hxv3⟩ : ∃ v, v = xv2.setCell ⟨(B3 seq).X, 1, none⟩ (.string (strOfNums xs)) := ⟨_, rfl⟩
    have G3 : xv2.grownBy xv3 (some (B3 seq).X) := by rw [hxv3]; exact grown_set (bel_grown (Below.refl _ xv2) (some (B3 seq).X)) 1 (.string (strOfNums xs))
    rw [← hxv3] at g1 A3
    refine hr_skip 14 none (w' := xv3) rfl rfl (by kernel_rfl) rfl (by rw [hxv3]; clear hxv3 hxv2; go_simp) g1 ?_
    simp only [Act.put]
    refine hr_take_w 15 (some 61) (.pointer (some ⟨(B3 seq).X, 0, none⟩)) rfl rfl (by kernel_rfl) (by kernel_rfl) (by kernel_rfl) rfl (fun W hW => by obtain ⟨h0, h1, h2, h3⟩ := HK.out W hW; go_simp) g1 ?_
    simp only [FL]
    refine hr_take_w 16 (some 62) (.pointer (some ⟨(B3 seq).X, 0, none⟩)) rfl rfl (by kernel_rfl) (by kernel_rfl) (by kernel_rfl) rfl (fun W hW => by obtain ⟨h0, h1, h2, h3⟩ := HK.out W hW; go_simp) g1 ?_
    simp only [FL]
    refine hr_take_w 17 (some 63) (.pointer (some ⟨(B3 seq).X, 2, none⟩)) rfl rfl (by kernel_rfl) (by kernel_rfl) (by kernel_rfl) rfl (fun W hW => by obtain ⟨h0, h1, h2, h3⟩ := HK.out W hW; go_simp) g1 ?_
    simp only [FL]
    obtain ⟨st, G4⟩ := store_part A3 (o := 2) (cs := [.int .u64 s.fr, .slice ro s.b.n rc, .slice so s.tag.n sc]) sgsz (Nat.le_add_right 5 6) (fun u hu => by simp only [List.mem_cons, List.not_mem_nil, or_false] at hu; rcases hu with rfl | rfl | rfl <;> rfl)
    have A4 := A3.setAll [.int .u64 s.fr, .slice ro s.b.n rc, .slice so s.tag.n sc] _ 2 _
    have g2 := But.grown g1 G4
    refine hr_skip 18 none (w' := xv3.setCells (B3 seq).X 2 [.int .u64 s.fr, .slice ro s.b.n rc, .slice so s.tag.n sc]) rfl rfl (by kernel_rfl) rfl (exec_store rfl rfl rfl st) g2 ?_
    simp only [Act.put]
    refine wpAnyH_done (by kernel_rfl) ?_ _
    refine NoPanic.normal ?_
    obtain ⟨K4, T4⟩ := K3.below uE0
    have hbs := K4.hbs
    have bX : base ≤ (B3 seq).X := K3.base_of (by rw [q1]; omega)
    have e4 : Below base uv0 (xv3.setCells (B3 seq).X 2 [.int .u64 s.fr, .slice ro s.b.n rc, .slice so s.tag.n sc]) := (((xE1.mono hbs).grown G2 (Nat.le_trans hbs xE1.size) (fun j hj => by cases hj; exact bX)).grown G3 (Nat.le_trans (Nat.le_trans hbs xE1.size) G2.size) (fun j hj => by cases hj; exact bX)).grown G4 (Nat.le_trans (Nat.le_trans (Nat.le_trans hbs xE1.size) G2.size) G3.size) (fun j hj => by cases hj; exact bX)
    have OK5 : SA.ok ⟨s.fr, ⟨ro, s.b.n, rc, s.b.xs⟩, ⟨so, s.tag.n, sc, s.tag.xs⟩⟩ (xv3.setCells (B3 seq).X 2 [.int .u64 s.fr, .slice ro s.b.n rc, .slice so s.tag.n sc]) := by
      refine elS_fine.kept _ xv1 _ OK1 fun z hz => ?_
      have h1 := N1 z hz
      have h2 := HX.lt
      have h3 := uE0.size
      have h4 := xE00.size
      have hl : z < xv1.heap.size := elS_fine.lt _ xv1 z OK1 hz
      have hne : some z ≠ some (B3 seq).X := fun e => by have := Option.some.inj e; omega
      exact ((G4.block z (Nat.lt_of_lt_of_le hl (Nat.le_trans G2.size G3.size)) hne).trans (G3.block z (Nat.lt_of_lt_of_le hl G2.size) hne)).trans (G2.block z hl hne)
    obtain ⟨K5, T5⟩ := K4.putPre (s := ⟨s.fr, ⟨ro, s.b.n, rc, s.b.xs⟩, ⟨so, s.tag.n, sc, s.tag.xs⟩⟩) (sum := strOfNums xs) (g.put_same _ _) A4 e4 g2 OK5 (fun z hz => Nat.le_trans xE00.size (N1 z hz)) (by rw [strOfNums_size, S3.1.len]; exact n1z) sz
    rw [g.put_put] at K5
    have CC := certify_any _ base L M n3 _ F3 _ _ K5 seq _ (g.put_same _ _)
    rw [if_pos rfl] at CC
    clear x0 y0 x1 y1 hxv2 hxv3
    go_wp2_with (go_at_call 52; refine CC.mono ?_; rintro e w6 ⟨B6, ρ6, rfl, K6, T6⟩)
    go_ret
    rw [g.put_put] at K6
    exact ⟨n3, F3, B6, ρ6, rfl, K6, ((TT.trans T4).trans T5).trans T6, hn3⟩
end Go.Proofs.Ytbbhokodleaheaa

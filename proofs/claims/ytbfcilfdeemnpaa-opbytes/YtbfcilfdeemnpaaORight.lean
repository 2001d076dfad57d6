/-
  Which operations, requests and results are right; what is read of bytes. No program is named here.
-/
import Derived.Test.YtbfcilfdeemnpaaOMath
namespace Go.Proofs.Ytbfcilfdeemnpaa
open Go.RowKit

def noTxt : ByteArray := ⟨#[]⟩
/-- What an operation of its kind has use for. -/
def onlyS (o : SO) : SO :=
  if o.kind = 1 then { o with to := noTxt, want := [], has := false }
  else if o.kind = 2 then { o with to := noTxt, value := [], want := [], has := false }
  else if o.kind = 3 ∨ o.kind = 7 then { o with time := 0, to := noTxt, value := [], want := [], has := false }
  else if o.kind = 5 then { o with to := noTxt, want := if o.has then o.want else [] }
  else if o.kind = 8 then { o with fam := noTxt, qual := noTxt, time := 0, value := [], want := [], has := false }
  else { o with fam := noTxt, qual := noTxt, time := 0, to := noTxt, value := [], want := [], has := false }
/-- Are they the same? -/
def sameS (a b : SO) : Bool := decide (a.kind = b.kind ∧ a.row = b.row ∧ a.fam = b.fam ∧ a.qual = b.qual ∧ a.time = b.time ∧ a.to = b.to ∧ a.value = b.value ∧ a.want = b.want ∧ a.has = b.has)
theorem sameS_iff (a b : SO) : sameS a b = true ↔ a = b := by
  constructor
  · intro h
    obtain ⟨h1, h2, h3, h4, h5, h6, h7, h8, h9⟩ := of_decide_eq_true h
    cases a
    cases b
    simp only at h1 h2 h3 h4 h5 h6 h7 h8 h9
    subst h1 h2 h3 h4 h5 h6 h7 h8 h9
    rfl
  · rintro rfl
    exact decide_eq_true ⟨rfl, rfl, rfl, rfl, rfl, rfl, rfl, rfl, rfl⟩
def keyR (o : SO) : Bool := decide (1 ≤ o.row.size ∧ o.row.size ≤ 32 ∧ 1 ≤ o.fam.size ∧ o.fam.size ≤ 32 ∧ o.qual.size ≤ 32)
def rowR (o : SO) : Bool := decide (1 ≤ o.row.size ∧ o.row.size ≤ 32)
/-- Is it right, its parts aside, of which there are n? -/
def leaf (o : SO) (n : Nat) : Bool :=
  decide (sameS o (onlyS o) = true ∧ (o.kind = 6 ∨ n = 0) ∧ o.value.length ≤ 256 ∧ o.want.length ≤ 256) &&
  (if o.kind = 1 ∨ o.kind = 2 ∨ o.kind = 3 ∨ o.kind = 5 ∨ o.kind = 7 then keyR o
   else if o.kind = 4 then rowR o
   else if o.kind = 6 then rowR o && decide (1 ≤ n ∧ n ≤ 8)
   else if o.kind = 8 then decide (o.row.size ≤ 32 ∧ o.to.size ≤ 32)
   else false)
def partR (o : SO) (s : SN) : Bool := decide (1 ≤ s.1.kind ∧ s.1.kind ≤ 4) && leaf s.1 s.2 && decide (s.1.row = o.row)
def rightO (o : SO) (subs : List SN) : Bool := leaf o subs.length && (decide (o.kind ≠ 6) || subs.all (partR o))
def rightP (p : OP) : Bool := rightO p.1 (p.2.map fun s => (s, 0))
/-- What comes as bytes and numbers at all. -/
def SO.wf (o : SO) : Prop := o.time < 18446744073709551616 ∧ Byt o.value ∧ Byt o.want

theorem leaf_kind {o : SO} {n : Nat} (h : leaf o n = true) : 1 ≤ o.kind ∧ o.kind ≤ 8 := by
  unfold leaf at h
  obtain ⟨_, h⟩ := Bool.and_eq_true_iff.1 h
  by_cases c1 : o.kind = 1 ∨ o.kind = 2 ∨ o.kind = 3 ∨ o.kind = 5 ∨ o.kind = 7
  · omega
  · rw [if_neg c1] at h
    by_cases c2 : o.kind = 4
    · omega
    · rw [if_neg c2] at h
      by_cases c3 : o.kind = 6
      · omega
      · rw [if_neg c3] at h
        by_cases c4 : o.kind = 8
        · omega
        · rw [if_neg c4] at h
          simp at h
theorem leaf_fits {o : SO} {n : Nat} (h : leaf o n = true) (hw : o.wf) : o.fits := by
  have hk := leaf_kind h
  unfold leaf at h
  obtain ⟨h1, h2⟩ := Bool.and_eq_true_iff.1 h
  obtain ⟨e, hn, hv, hwn⟩ := of_decide_eq_true h1
  have e := (sameS_iff _ _).1 e
  have z : noTxt.size = 0 := rfl
  have ht : o.to.size ≤ 32 ∧ (o.kind ≠ 8 → o.to = noTxt) := by
    have e2 : o.to = (onlyS o).to := by rw [← e]
    by_cases c : o.kind = 8
    · refine ⟨?_, fun x => absurd c x⟩
      rw [if_neg (by omega), if_neg (by omega), if_neg (by omega), if_pos c] at h2
      exact (of_decide_eq_true h2).2
    · have : (onlyS o).to = noTxt := by
        unfold onlyS
        split
        · rfl
        · split
          · rfl
          · split
            · rfl
            · split
              · rfl
              · rfl
      rw [this] at e2
      exact ⟨by rw [e2, z]; omega, fun _ => e2⟩
  have hr : o.row.size ≤ 32 ∧ o.fam.size ≤ 32 ∧ o.qual.size ≤ 32 := by
    by_cases c1 : o.kind = 1 ∨ o.kind = 2 ∨ o.kind = 3 ∨ o.kind = 5 ∨ o.kind = 7
    · rw [if_pos c1] at h2
      have := of_decide_eq_true h2
      omega
    · have ef : o.fam = (onlyS o).fam := by rw [← e]
      have eq : o.qual = (onlyS o).qual := by rw [← e]
      have e3 : (onlyS o).fam = noTxt ∧ (onlyS o).qual = noTxt := by
        unfold onlyS
        rw [if_neg (by omega), if_neg (by omega), if_neg (by omega), if_neg (by omega)]
        split
        · exact ⟨rfl, rfl⟩
        · exact ⟨rfl, rfl⟩
      rw [e3.1] at ef
      rw [e3.2] at eq
      rw [ef, eq, z]
      refine ⟨?_, by omega, by omega⟩
      rw [if_neg c1] at h2
      by_cases c2 : o.kind = 4
      · rw [if_pos c2] at h2
        exact (of_decide_eq_true h2).2
      · rw [if_neg c2] at h2
        by_cases c3 : o.kind = 6
        · rw [if_pos c3] at h2
          exact (of_decide_eq_true (Bool.and_eq_true_iff.1 h2).1).2
        · rw [if_neg c3] at h2
          by_cases c4 : o.kind = 8
          · rw [if_pos c4] at h2
            exact (of_decide_eq_true h2).1
          · rw [if_neg c4] at h2
            simp at h2
  exact ⟨by omega, hr.1, hr.2.1, hr.2.2, hw.1, ht.1, ⟨hv, hw.2.1⟩, ⟨hwn, hw.2.2⟩⟩
/-- A right operation's parts have none. -/
theorem right_flat {o : SO} {subs : List SN} (h : rightO o subs = true) : subs = subs.map fun s => (s.1, 0) := by
  unfold rightO at h
  obtain ⟨h1, h2⟩ := Bool.and_eq_true_iff.1 h
  by_cases c : o.kind = 6
  · rw [decide_eq_false (by omega), Bool.false_or, List.all_eq_true] at h2
    refine (List.map_id subs).symm.trans (List.map_congr_left fun s hs => ?_)
    have := h2 s hs
    unfold partR at this
    obtain ⟨h3, _⟩ := Bool.and_eq_true_iff.1 this
    obtain ⟨h3, h4⟩ := Bool.and_eq_true_iff.1 h3
    have hk := of_decide_eq_true h3
    unfold leaf at h4
    have := (of_decide_eq_true (Bool.and_eq_true_iff.1 h4).1).2.1
    obtain ⟨s, n⟩ := s
    simp only at this hk
    rw [show n = 0 by omega]
    rfl
  · unfold leaf at h1
    have := (of_decide_eq_true (Bool.and_eq_true_iff.1 h1).1).2.1
    have h0 : subs.length = 0 := by omega
    rw [List.eq_nil_of_length_eq_zero h0]
    rfl
theorem rightP_of {o : SO} {subs : List SN} (h : rightO o subs = true) : rightP (o, subs.map Prod.fst) = true := by
  unfold rightP
  rw [List.map_map, ← h]
  congr 1
  exact (right_flat h).symm
theorem rightP_fits {p : OP} (h : rightP p = true) (h0 : p.1.wf) (h1 : ∀ s ∈ p.2, s.wf) : p.fits := by
  unfold rightP rightO at h
  obtain ⟨a, b⟩ := Bool.and_eq_true_iff.1 h
  rw [List.length_map] at a
  refine ⟨leaf_fits a h0, ?_, ?_⟩
  · unfold leaf at a
    obtain ⟨a1, a2⟩ := Bool.and_eq_true_iff.1 a
    have hn := (of_decide_eq_true a1).2.1
    by_cases c : p.1.kind = 6
    · rw [if_neg (by omega), if_neg (by omega), if_pos c] at a2
      exact (of_decide_eq_true (Bool.and_eq_true_iff.1 a2).2).2
    · omega
  · intro s hs
    by_cases c : p.1.kind = 6
    · rw [decide_eq_false (by omega), Bool.false_or, List.all_eq_true] at b
      have := b (s, 0) (List.mem_map.2 ⟨s, hs, rfl⟩)
      unfold partR at this
      obtain ⟨h3, _⟩ := Bool.and_eq_true_iff.1 this
      exact leaf_fits (Bool.and_eq_true_iff.1 h3).2 (h1 s hs)
    · unfold leaf at a
      have hn := (of_decide_eq_true (Bool.and_eq_true_iff.1 a).1).2.1
      have h0 : p.2.length = 0 := by omega
      rw [List.eq_nil_of_length_eq_zero h0] at hs
      simp at hs

/-- What is read of bytes: a kind that is not 0, or a thing. -/
def rdAll {α : Type} (P : List Int → Rs α) (kind : α → Int) (b : List Int) : Sum Int α :=
  match P b with
  | .inl k => .inl k
  | .inr (v, rest) => if rest = [] then (if kind v = 0 then .inr v else .inl (kind v)) else .inl 3
theorem rdAll_put {α : Type} {P : List Int → Rs α} {f : α → List Int} {ok : α → Prop} (h : Good P f ok) (kind : α → Int) (v : α) (hv : ok v) (hk : kind v = 0) : rdAll P kind (f v) = .inr v := by
  unfold rdAll
  have := h.put v [] hv
  rw [List.append_nil] at this
  rw [this]
  simp [hk]
theorem rdAll_back {α : Type} {P : List Int → Rs α} {f : α → List Int} {ok : α → Prop} (h : Good P f ok) (kind : α → Int) {b : List Int} {v : α} (hb : Byt b) (hr : rdAll P kind b = .inr v) : b = f v ∧ ok v ∧ kind v = 0 := by
  unfold rdAll at hr
  match e : P b, hr with
  | .inl k, hr => simp at hr
  | .inr (u, rest), hr =>
    simp only at hr
    by_cases c : rest = []
    · rw [if_pos c] at hr
      by_cases d : kind u = 0
      · rw [if_pos d] at hr
        obtain rfl := Sum.inr.inj hr
        obtain ⟨x, o⟩ := h.back b u rest hb e
        rw [c, List.append_nil] at x
        exact ⟨x, o, d⟩
      · rw [if_neg d] at hr; simp at hr
    · rw [if_neg c] at hr; simp at hr
theorem rdAll_cut {α : Type} {P : List Int → Rs α} {f : α → List Int} {ok : α → Prop} (h : Good P f ok) (kind : α → Int) {b : List Int} {v : α} (hb : Byt b) (hr : rdAll P kind b = .inr v) (c : Nat) (hc : c < b.length) : rdAll P kind (b.take c) = .inl 2 := by
  obtain ⟨e, o, _⟩ := rdAll_back h kind hb hr
  rw [e] at hc ⊢
  unfold rdAll
  rw [h.cut v c o hc]
def kindP (p : OP) : Int := if rightP p then 0 else 6
def kindQ (q : QV) : Int := if q.1 = 0 ∨ q.2.1 = 0 then 1 else kindP q.2.2
def cellR (c : CV) : Bool := decide (1 ≤ c.row.size ∧ c.row.size ≤ 32 ∧ 1 ≤ c.fam.size ∧ c.fam.size ≤ 32 ∧ c.qual.size ≤ 32 ∧ c.value.length ≤ 256)
def rightR (r : RV) : Bool := decide (0 ≤ r.e ∧ r.e ≤ 18 ∧ r.cells.length ≤ 16) && r.cells.all cellR
def kindR (r : RV) : Int := if rightR r then 0 else 1
def rdO : List Int → Sum Int OP := rdAll pP kindP
def rdQ : List Int → Sum Int QV := rdAll pQ kindQ
def rdR : List Int → Sum Int RV := rdAll pR kindR
def CV.wf (c : CV) : Prop := c.time < 18446744073709551616 ∧ Byt c.value
theorem rightR_fits {r : RV} (h : rightR r = true) (hw : ∀ c ∈ r.cells, c.wf) : r.fits := by
  unfold rightR at h
  obtain ⟨h1, h2⟩ := Bool.and_eq_true_iff.1 h
  have h1 := of_decide_eq_true h1
  rw [List.all_eq_true] at h2
  refine ⟨by omega, h1.2.2, fun c hc => ?_⟩
  have := of_decide_eq_true (h2 c hc)
  exact ⟨this.2.1, this.2.2.2.1, this.2.2.2.2.1, (hw c hc).1, this.2.2.2.2.2, (hw c hc).2⟩
end Go.Proofs.Ytbfcilfdeemnpaa

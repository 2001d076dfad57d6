/-
  The program's votes, and the reference's: the same.
-/
import Derived.Test.YtghemebgkhopnaaQuProof
import Derived.Test.YtghemebgkhopnaaQuOnceM
import Derived.Test.YtghemebgkhopnaaQuAddV
import Derived.Test.YtghemebgkhopnaaQrAdd
import Derived.Test.YtghemebgkhopnaaQrProof
namespace Go.Proofs.Ytghemebgkhopnaa
open Go.RowKit

def VA.rv (v : VA) : SV × List Int := (v.s.v, v.word.xs)
/-- The votes that there are, rising. -/
def rvs : Nat → List VT → List (SV × List Int)
  | _, [] => []
  | i, v :: l => if v.is = true then (⟨i + 1, sb v.body, sb v.tag⟩, sb v.word) :: rvs (i + 1) l else rvs (i + 1) l
theorem rvs_t {i : Nat} {v : VT} {l : List VT} (h : v.is = true) : rvs i (v :: l) = (⟨i + 1, sb v.body, sb v.tag⟩, sb v.word) :: rvs (i + 1) l := by rw [rvs, if_pos h]
theorem rvs_f {i : Nat} {v : VT} {l : List VT} (h : v.is = false) : rvs i (v :: l) = rvs (i + 1) l := by rw [rvs, if_neg (by rw [h]; simp)]
theorem rvs_app : ∀ (a b : List VT) (i : Nat), rvs i (a ++ b) = rvs i a ++ rvs (i + a.length) b
  | [], b, i => by simp [rvs]
  | v :: a, b, i => by
    have ih := rvs_app a b (i + 1)
    have e : i + (v :: a).length = i + 1 + a.length := by simp; omega
    rw [List.cons_append, e]
    cases h : v.is with
    | true => rw [rvs_t h, rvs_t h, ih, List.cons_append]
    | false => rw [rvs_f h, rvs_f h, ih]
theorem rvs_fr : ∀ (l : List VT) (i : Nat), ∀ p ∈ rvs i l, i < p.1.fr ∧ p.1.fr ≤ i + l.length
  | [], _, p, hp => by simp [rvs] at hp
  | v :: l, i, p, hp => by
    cases h : v.is with
    | true =>
      rw [rvs_t h] at hp
      rcases List.mem_cons.1 hp with rfl | hp
      · simp
      · have := rvs_fr l (i + 1) p hp
        simp
        omega
    | false =>
      rw [rvs_f h] at hp
      have := rvs_fr l (i + 1) p hp
      simp
      omega
theorem sb_iff {ws : List Int} (h : Byt ws) (s : ByteArray) : sb s = ws ↔ s = strOfNums ws := ⟨fun e => by rw [← e, str_sb], fun e => by rw [e, sb_str h]⟩
theorem prf_rvs {ws : List Int} (h : Byt ws) : ∀ (l : List VT) (i : Nat), ((rvs i l).filter fun p => decide (p.2 = ws)).map (·.1) = prfV (strOfNums ws) i l
  | [], _ => rfl
  | v :: l, i => by
    have ih := prf_rvs h l (i + 1)
    cases hv : v.is with
    | true =>
      rw [rvs_t hv]
      unfold prfV
      by_cases e : v.word = strOfNums ws
      · have f1 : v.fo (strOfNums ws) = true := by unfold VT.fo; rw [hv, e]; simp
        rw [if_pos f1, List.filter_cons, if_pos (by simpa using (sb_iff h _).2 e), List.map_cons, ih]
      · have f1 : ¬ v.fo (strOfNums ws) = true := by unfold VT.fo; rw [hv]; simpa using e
        rw [if_neg f1, List.filter_cons, if_neg (by simpa using fun q => e ((sb_iff h _).1 q)), ih]
    | false =>
      have f1 : ¬ v.fo (strOfNums ws) = true := by unfold VT.fo; rw [hv]; simp
      rw [rvs_f hv]
      unfold prfV
      rw [if_neg f1, ih]
theorem forW_prf {l : List VA} {L : List VT} (R : l.map VA.rv = rvs 0 L) {ws : List Int} (h : Byt ws) : ((forW ws l).map VA.s).map SA.v = prfV (strOfNums ws) 0 L := by
  rw [← prf_rvs h L 0, ← R, List.filter_map, List.map_map, List.map_map]
  rfl
theorem forW_cnt {l : List VA} {L : List VT} (R : l.map VA.rv = rvs 0 L) {ws : List Int} (h : Byt ws) : (forW ws l).length = cntV (strOfNums ws) L := by
  have := congrArg List.length (forW_prf R h)
  rw [List.length_map, List.length_map, prfV_len] at this
  exact this
theorem find_rvs (c : ByteArray → Nat) (n : Int) : ∀ (l : List VT) (i : Nat), ((rvs i l).find? fun p => decide (n ≤ (c (strOfNums p.2) : Int))).map (·.2) = (l.find? fun v => v.is && decide (n ≤ (c v.word : Int))).map fun v => sb v.word
  | [], _ => rfl
  | v :: l, i => by
    have ih := find_rvs c n l (i + 1)
    cases hv : v.is with
    | true =>
      rw [rvs_t hv, List.find?_cons, List.find?_cons, str_sb, hv, Bool.true_and]
      by_cases q : n ≤ (c v.word : Int)
      · rw [decide_eq_true q]
        rfl
      · rw [decide_eq_false q]
        exact ih
    | false =>
      rw [rvs_f hv, List.find?_cons, hv, Bool.false_and]
      exact ih
theorem find_votes {l : List VA} {L : List VT} (R : l.map VA.rv = rvs 0 L) (hb : ∀ v ∈ l, Byt v.word.xs) (n : Int) : (l.find? (enF l n)).map (fun v => v.word.xs) = (enV L n).map sb := by
  have e1 : l.find? (enF l n) = l.find? (fun v => decide (n ≤ (cntV (strOfNums v.word.xs) L : Int))) := by
    have : ∀ m : List VA, (∀ v ∈ m, Byt v.word.xs) → m.find? (enF l n) = m.find? (fun v => decide (n ≤ (cntV (strOfNums v.word.xs) L : Int))) := fun m => by
      induction m with
      | nil => intro _; rfl
      | cons v m ih =>
        intro hm
        have e : enF l n v = decide (n ≤ (cntV (strOfNums v.word.xs) L : Int)) := by unfold enF; rw [forW_cnt R (hm v List.mem_cons_self)]
        rw [List.find?_cons, List.find?_cons, e, ih fun u hu => hm u (List.mem_cons_of_mem _ hu)]
    exact this l hb
  have e2 := find_rvs (fun s => cntV s L) n L 0
  rw [← R, List.find?_map, Option.map_map] at e2
  rw [e1]
  unfold enV
  rw [Option.map_map]
  exact e2
theorem add_both {l : List VA} {L : List VT} (R : l.map VA.rv = rvs 0 L) {f : Nat} (f4 : f ≤ 4) (hL : L.length = 13) (y : VA) (b1 : Byt y.word.xs) (b2 : Byt y.s.b.xs) (b3 : Byt y.s.tag.xs) :
    (insV f l y).2 = (addV f L y.s.fr ⟨true, strOfNums y.word.xs, strOfNums y.s.b.xs, strOfNums y.s.tag.xs⟩).2 ∧ (insV f l y).1.map VA.rv = rvs 0 (addV f L y.s.fr ⟨true, strOfNums y.word.xs, strOfNums y.s.b.xs, strOfNums y.s.tag.xs⟩).1 := by
  by_cases ho : y.s.fr = 0 ∨ 3 * f + 1 < y.s.fr
  · rw [insV_out ho, addV_out ho]
    exact ⟨rfl, R⟩
  · obtain ⟨k, hk⟩ : ∃ k, y.s.fr = k + 1 := ⟨y.s.fr - 1, by omega⟩
    have hk3 : k < 3 * f + 1 := by omega
    have hkl : k < L.length := by omega
    have eL : L = L.take k ++ L[k] :: L.drop (k + 1) := by rw [← List.drop_eq_getElem_cons hkl, List.take_append_drop]
    have hA : (L.take k).length = k := by rw [List.length_take]; omega
    obtain ⟨A, hAe⟩ : ∃ A, A = rvs 0 (L.take k) := ⟨_, rfl⟩
    have hfr : ∀ p ∈ A, p.1.fr < y.s.fr := fun p hp => by
      rw [hAe] at hp
      have := rvs_fr _ _ p hp
      omega
    have R2 : l.map VA.rv = A ++ rvs k (L[k] :: L.drop (k + 1)) := by
      rw [R]
      conv => lhs; rw [eL]
      rw [rvs_app, hA, Nat.zero_add, ← hAe]
    have hal : A.length ≤ l.length := by
      have := congrArg List.length R2
      rw [List.length_map, List.length_append] at this
      omega
    have hT : (l.take A.length).map VA.rv = A := by rw [List.map_take, R2, List.take_left]
    have hD : (l.drop A.length).map VA.rv = rvs k (L[k] :: L.drop (k + 1)) := by rw [List.map_drop, R2, List.drop_left]
    have h1 : ∀ z ∈ l.take A.length, z.s.fr < y.s.fr := fun z hz => by
      have : z.rv ∈ A := by rw [← hT]; exact List.mem_map_of_mem hz
      exact hfr _ this
    rw [hk]
    cases hi : L[k].is with
    | true =>
      rw [rvs_t hi] at hD
      have ha : A.length < l.length := by
        have := congrArg List.length hD
        rw [List.length_map, List.length_drop, List.length_cons] at this
        omega
      have h2 : l[A.length].s.fr = y.s.fr := by
        rw [List.drop_eq_getElem_cons ha, List.map_cons] at hD
        have e := (List.cons.inj hD).1
        have := congrArg (fun p => p.1.fr) e
        rw [hk]
        exact this
      rw [insV_same ho _ ha h1 h2, addV_again hk3 hkl hi]
      exact ⟨rfl, R⟩
    | false =>
      rw [rvs_f hi] at hD
      have h2 : ∀ h : A.length < l.length, y.s.fr < l[A.length].s.fr := fun ha => by
        have hm : l[A.length].rv ∈ rvs (k + 1) (L.drop (k + 1)) := by
          rw [← hD, List.drop_eq_getElem_cons ha, List.map_cons]
          exact List.mem_cons_self
        have := rvs_fr _ _ _ hm
        rw [hk]
        exact this.1
      rw [insV_new ho _ hal h1 h2, addV_ok hk3 hkl hi]
      refine ⟨rfl, ?_⟩
      have eS : L.set k ⟨true, strOfNums y.word.xs, strOfNums y.s.b.xs, strOfNums y.s.tag.xs⟩ = L.take k ++ ⟨true, strOfNums y.word.xs, strOfNums y.s.b.xs, strOfNums y.s.tag.xs⟩ :: L.drop (k + 1) := List.set_eq_take_append_cons_drop .. ▸ by rw [if_pos hkl]
      show (l.take A.length ++ [y] ++ l.drop A.length).map VA.rv = rvs 0 (L.set k _)
      rw [eS, rvs_app, hA, Nat.zero_add, ← hAe, rvs_t rfl, List.map_append, List.map_append, hT, hD, sb_str b1, sb_str b2, sb_str b3, List.append_assoc]
      congr 1
      show [y.rv] ++ _ = _
      unfold VA.rv SA.v
      rw [hk]
      rfl
theorem rvs_none : rvs 0 noVotes = [] := by rfl
theorem p_cell {w : World} {p f : Nat} {L : List VT} (h : QS w p f L) {a : Addr} (ha : a.block = p) {v : Value} (hv : w.cell? a = some v) : (∀ n, v ≠ .int .u64 n) ∧ (∀ n, v ≠ .int .u8 n) := by
  obtain ⟨b, o, s⟩ := a
  have hs := World.cell?_spot hv
  simp only at ha hs
  subst ha hs
  rw [h.mem.cell] at hv
  rcases List.mem_cons.1 (List.mem_of_getElem? hv) with e | e
  · subst e
    exact ⟨fun n q => by simp at q, fun n q => by simp at q⟩
  · unfold cellsV at e
    obtain ⟨cs, h1, h2⟩ := List.mem_flatten.1 e
    obtain ⟨u, -, rfl⟩ := List.mem_map.1 h1
    unfold VT.cells at h2
    simp only [List.mem_cons, List.not_mem_nil, or_false] at h2
    rcases h2 with rfl | rfl | rfl | rfl <;> exact ⟨fun n q => by simp at q, fun n q => by simp at q⟩
theorem sl_off {w : World} {p f : Nat} {L : List VT} (h : QS w p f L) {b : Bs} (S : Sl w b.ao b.n b.cap b.xs) {z : Nat} (hz : b.blk z) : z ≠ p := by
  obtain ⟨a, ha, hn, rfl⟩ := hz
  intro e
  have hb : (a.add 0).block = a.block := by unfold Addr.add; split <;> rfl
  exact (p_cell h (hb.trans e) (S.cell a ha 0 hn)).2 _ rfl
theorem gl_off {w : World} {p f : Nat} {L : List VT} (h : QS w p f L) {ao : Option Addr} {n cap : Nat} {l : List VA} (G : GL elV w ao n cap l) {z : Nat} (hz : GLb elV ao n l z) : z ≠ p := by
  rcases hz with ⟨a, ha, hn, rfl⟩ | ⟨x, hx, hz⟩
  · intro e
    have hl := G.len
    have hb : (a.add (0 * elV.sz + 0)).block = a.block := by unfold Addr.add; split <;> rfl
    have hc := G.cell a ha 0 (by omega) 0 _ rfl
    exact (p_cell h (hb.trans e) hc).1 _ rfl
  · have xok : VA.ok x w := G.ok x hx
    rcases hz with (hz | hz) | hz
    · exact sl_off h xok.s.b hz
    · exact sl_off h xok.s.tag hz
    · exact sl_off h xok.word hz
theorem gl_grown {w w' : World} {p f : Nat} {L : List VT} (h : QS w p f L) (hg : w.grownBy w' (some p)) {ao : Option Addr} {n cap : Nat} {l : List VA} (G : GL elV w ao n cap l) : GL elV w' ao n cap l :=
  G.kept elV_fine fun z hz => hg.block z (G.lt elV_fine hz) (fun e => gl_off h G hz (Option.some.inj e))
theorem enough_all (w : World) (p f : Nat) (l : List VT) (h : QS w p f l) (n : Int) : Calls Try.prog 23 #[.pointer (some ⟨p, 0, none⟩), .int .i64 n] w fun x w' =>
    ∃ ao m cap ys b, x = .returned (.tuple #[.slice ao m cap, .bool b]) ∧ Sl w' ao m cap ys ∧ Below w.heap.size w w' ∧ Hid (if n < 1 then b = false ∧ ys = [] else (b = (enV l n).isSome ∧ ys = ((enV l n).map sb).getD [])) := by
  by_cases hn : n < 1
  · refine (enough_low w p n hn).mono ?_
    rintro x w' ⟨rfl, rfl⟩
    exact ⟨none, 0, 0, [], false, rfl, Sl.nothing _, Below.refl _ _, by show ite _ _ _; rw [if_pos hn]; exact ⟨rfl, rfl⟩⟩
  · refine (enough_any w p f l h n (by omega)).mono ?_
    rintro x w' ⟨ao, m, cap, ys, b, rfl, S, B, H⟩
    refine ⟨ao, m, cap, ys, b, rfl, S, B, ?_⟩
    show ite _ _ _
    rw [if_neg hn]
    rcases H.out with ⟨rfl, rfl, e⟩ | ⟨s, rfl, rfl, e⟩ <;> rw [e] <;> exact ⟨rfl, rfl⟩
theorem proof_all (w : World) (p f : Nat) (l : List VT) (h : QS w p f l) (ao : Option Addr) (m cap : Nat) (xs : List Int) (S : Sl w ao m cap xs) (n : Int) : Calls Try.prog 27 #[.pointer (some ⟨p, 0, none⟩), .slice ao m cap, .int .i64 n] w (PfPost w (strOfNums xs) l n) := by
  by_cases hn : n < 1
  · exact proof_low w _ _ _ l n hn
  · by_cases hc : (cntV (strOfNums xs) l : Int) < n
    · exact proof_few w p f l h ao m cap xs S n (by omega) hc
    · obtain ⟨k, rfl⟩ : ∃ k : Nat, n = k := ⟨n.toNat, by omega⟩
      exact proof_many w p f l h ao m cap xs S k (by omega) (by omega)
end Go.Proofs.Ytghemebgkhopnaa

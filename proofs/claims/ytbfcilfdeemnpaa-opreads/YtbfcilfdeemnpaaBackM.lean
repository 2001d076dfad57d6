/-
  What was put and read again: light, and the same. 
-/
import Derived.Test.YtbfcilfdeemnpaaPRdO
import Derived.Test.YtbfcilfdeemnpaaPRdR
import Derived.Test.YtbfcilfdeemnpaaRReqs
import Derived.Test.YtbfcilfdeemnpaaPResult
namespace Go.Proofs.Ytbfcilfdeemnpaa
open Go.RowKit

/-- Parts that have none. -/
def lift1 (d : Nat) (y : OA) : OD (d + 1) := (y, ([] : List (OD d)))
def liftD (d : Nat) (o : OA) (l : List OA) : OD (d + 2) := (o, l.map (lift1 d))
theorem read_OW {w : World} {o : OA} {l : List OA} (d : Nat) (ho : o.ok w) (hl : OWL w 0 o.so o.sn o.sc l) (hz : ∀ y ∈ l, y.sn = 0) : OW w (d + 2) (liftD d o l) := by
  refine ⟨ho, ?_, fun a ha i hi j v hv => ?_, fun y hy => ?_⟩
  · show (l.map (lift1 d)).length = o.sn
    rw [List.length_map]
    exact hl.len
  · have hi2 : i < l.length := by
      have : i < (l.map (lift1 d)).length := hi
      simpa using this
    refine hl.cell a ha i hi2 j v ?_
    have e : (liftD d o l).2[i] = lift1 d l[i] := by
      show (l.map (lift1 d))[i]'_ = _
      exact List.getElem_map _
    rw [e] at hv
    exact hv
  · obtain ⟨z, hzl, rfl⟩ := List.mem_map.1 (show y ∈ l.map (lift1 d) from hy)
    have h1 : OA.ok z w := hl.ok z hzl
    exact ⟨h1, (hz z hzl).symm, fun _ _ _ hi => absurd hi (Nat.not_lt_zero _), fun _ h => absurd h List.not_mem_nil⟩
theorem fits_light {o : OA} {w : World} (h : o.s.fits) (ho : o.ok w) (hs : o.sn ≤ 12) : fitsL o = true := by
  have h1 : o.row.size ≤ 32 := h.row
  have h2 : o.fam.size ≤ 32 := h.fam
  have h3 : o.qual.size ≤ 32 := h.qual
  have h4 : o.to.size ≤ 32 := h.to
  have h5 : o.va.xs.length ≤ 256 := h.value.1
  have h6 : o.wa.xs.length ≤ 256 := h.want.1
  have h7 := ho.va.len
  have h8 := ho.wa.len
  exact decide_eq_true ⟨by omega, by omega, by omega, hs⟩
theorem read_light {w : World} {o : OA} {l : List OA} (d : Nat) (ho : o.ok w) (hl : OWL w 0 o.so o.sn o.sc l) (hz : ∀ y ∈ l, y.sn = 0) (hf : OP.fits (o.s, l.map OA.s)) : lightD (d + 2) (liftD d o l) = true := by
  obtain ⟨f1, f2, f3⟩ := hf
  simp only [List.length_map] at f2
  have hlen : l.length = o.sn := hl.len
  show (fitsL o && (l.map (lift1 d)).all (lightD (d + 1))) = true
  rw [fits_light f1 ho (by omega), Bool.true_and, List.all_eq_true]
  intro y hy
  obtain ⟨z, hzl, rfl⟩ := List.mem_map.1 hy
  have h1 : OA.ok z w := hl.ok z hzl
  show (fitsL z && ([] : List (OD d)).all (lightD d)) = true
  rw [fits_light (f3 _ (List.mem_map.2 ⟨z, hzl, rfl⟩)) h1 (by rw [hz z hzl]; omega)]
  rfl
theorem same_parts (d : Nat) : ∀ (l : List OA) (pl : List (OD (d + 1))), l.map OA.s = (pl.map (topD (d + 1))).map OA.s → (∀ x ∈ pl, x.2 = []) → sameL (sameD (d + 1)) (l.map (lift1 d)) pl = true
  | [], [], _, _ => rfl
  | [], _ :: _, h, _ => by simp at h
  | _ :: _, [], h, _ => by simp at h
  | a :: l, x :: pl, h, hz => by
    simp only [List.map_cons, List.cons.injEq] at h
    have h1 := same_parts d l pl h.2 (fun y hy => hz y (List.mem_cons_of_mem _ hy))
    have h2 : x.2 = [] := hz x (List.mem_cons_self ..)
    have h3 : a.s = x.1.s := h.1
    show ((sameS a.s x.1.s && sameL (sameD d) ([] : List (OD d)) x.2) && sameL (sameD (d + 1)) (l.map (lift1 d)) pl) = true
    rw [h1, h2, h3, sameS_self]
    rfl
theorem read_same {d : Nat} {o p : OA} {l : List OA} {pl : List (OD (d + 1))} (h : ((p.s, (pl.map (topD (d + 1))).map OA.s) : OP) = (o.s, l.map OA.s)) (hz : ∀ x ∈ pl, x.2 = []) : sameD (d + 2) (liftD d o l) ((p, pl) : OA × List (OD (d + 1))) = true := by
  simp only [Prod.mk.injEq] at h
  show (sameS o.s p.s && sameL (sameD (d + 1)) (l.map (lift1 d)) pl) = true
  rw [same_parts d l pl h.2.symm hz, h.1, sameS_self]
  rfl
/-- Of a right operation. -/
theorem right_back {w : World} {d : Nat} {o : OA} {pl : List (OD (d + 1))} {l : List OA} (he : l = pl.map (topD (d + 1))) (h : OW w (d + 2) ((o, pl) : OA × List (OD (d + 1)))) (hr : rightO o.s (l.map sn0) = true) :
    OP.fits (o.s, l.map OA.s) ∧ kindP (o.s, l.map OA.s) = 0 ∧ (∀ x ∈ pl, x.2 = []) ∧ (putP (o.s, l.map OA.s)).length ≤ 8000 := by
  have hok : ∀ x ∈ l, OA.ok x w := fun x hx => by
    rw [he] at hx
    obtain ⟨y, hy, rfl⟩ := List.mem_map.1 hx
    exact (h.2.2.2 y hy).top
  obtain ⟨f1, f2, f3, f4⟩ := right_parts hr h.1 hok
  have ff : OP.fits (o.s, l.map OA.s) := ⟨f1, by simpa using f2, fun s hs => by
    obtain ⟨x, hx, rfl⟩ := List.mem_map.1 hs
    exact f3 x hx⟩
  refine ⟨ff, ?_, ?_, ?_⟩
  · rw [kind_read f4, hr]
    rfl
  · intro x hx
    have h1 : (topD (d + 1) x).sn = 0 := f4 _ (by rw [he]; exact List.mem_map.2 ⟨x, hx, rfl⟩)
    have h2 := (h.2.2.2 x hx).2.1
    have h3 : x.1.sn = 0 := h1
    rw [h3] at h2
    exact List.length_eq_zero_iff.1 h2
  · rw [← putA_P]
    unfold putA
    have g1 := putS_len f1 (n := l.length) (by omega)
    have g2 : ∀ k : List OA, (∀ x ∈ k, x.s.fits) → ((k.map fun x => putS x.s 0).flatten).length ≤ 800 * k.length := by
      intro k
      induction k with
      | nil => intro _; simp
      | cons a k ih =>
        intro hk
        have i1 := ih (fun x hx => hk x (List.mem_cons_of_mem _ hx))
        have i2 := putS_len (hk a (List.mem_cons_self ..)) (n := 0) (by omega)
        simp only [List.map_cons, List.flatten_cons, List.length_append, List.length_cons]
        omega
    have g3 := g2 l f3
    rw [List.length_append]
    omega
/-- Of a right result. -/
theorem res_back {w : World} {e : Int} {l : List CA} {m : Bool} (hr : rightR (resR e l m) = true) (hl : ∀ c ∈ l, c.ok w) : rdR (putR (resR e l m)) = .inr (resR e l m) ∧ (putR (resR e l m)).length ≤ 8000 := by
  have hf := rightR_fits hr (fun c hc => by
    obtain ⟨x, hx, rfl⟩ := List.mem_map.1 hc
    exact (hl x hx).wf)
  refine ⟨rdAll_put good_r kindR _ hf (by unfold kindR; rw [hr]; rfl), ?_⟩
  obtain ⟨h1, h2, h3⟩ := right_cells hr hl
  have g2 : ∀ k : List CA, (∀ c ∈ k, c.key.fits ∧ c.va.xs.length ≤ 256) → ((k.map fun c => putC c.c).flatten).length ≤ 410 * k.length := by
    intro k
    induction k with
    | nil => intro _; simp
    | cons a k ih =>
      intro hk
      have i1 := ih (fun x hx => hk x (List.mem_cons_of_mem _ hx))
      have i0 := hk a (List.mem_cons_self ..)
      have i2 := putC_len i0.1 i0.2
      simp only [List.map_cons, List.flatten_cons, List.length_append, List.length_cons]
      omega
  have g3 := g2 l h3
  have g4 := enc_length (n := e.toNat) (by omega)
  have g5 := enc_length (n := l.length) (by omega)
  have g6 := enb_len m
  rw [putR_res]
  simp only [List.length_append]
  omega
theorem op_back {w : World} {d : Nat} {o : OA} {pl : List (OD (d + 1))} {l : List OA} (he : l = pl.map (topD (d + 1))) (h : OW w (d + 2) ((o, pl) : OA × List (OD (d + 1)))) (hr : rightO o.s (l.map sn0) = true) :
    rdO (putA o l) = .inr (o.s, l.map OA.s) ∧ (putA o l).length ≤ 8000 := by
  obtain ⟨h1, h2, _, h4⟩ := right_back he h hr
  rw [putA_P]
  exact ⟨rdAll_put good_p kindP _ h1 h2, h4⟩
theorem req_back {w : World} {d cl st : Nat} {o : OA} {pl : List (OD (d + 1))} {l : List OA} (hcl : cl < 18446744073709551616) (hst : st < 18446744073709551616) (he : l = pl.map (topD (d + 1))) (h : OW w (d + 2) ((o, pl) : OA × List (OD (d + 1)))) (hk : kq cl st (rightO o.s (l.map sn0)) = 0) :
    rdQ (enc cl ++ (enc st ++ putA o l)) = .inr (cl, st, (o.s, l.map OA.s)) ∧ (enc cl ++ (enc st ++ putA o l)).length ≤ 9000 := by
  obtain ⟨z1, z2, hr⟩ := kq_zero hk
  obtain ⟨h1, h2, _, h4⟩ := right_back he h hr
  have g1 := enc_length hcl
  have g2 := enc_length hst
  rw [putA_P]
  refine ⟨rdAll_put good_q kindQ (cl, st, (o.s, l.map OA.s)) ⟨hcl, hst, h1⟩ ?_, ?_⟩
  · unfold kindQ
    rw [if_neg (by simp only; omega)]
    exact h2
  · simp only [List.length_append]
    omega
end Go.Proofs.Ytbfcilfdeemnpaa

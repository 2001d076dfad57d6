/-
  The reference's Form.
-/
import Derived.Test.YtmedheecimglkaaDoorOfM
import Derived.Test.YtmedheecimglkaaDoorRefForms
namespace Go.Proofs.YtmedheecimglkaaDoor
open Go.RowKit

theorem formL_byte (s : ByteArray) (ps : List Part) (hs : s.size ≤ 1000000) (hn : ps.length ≤ 1000000) (h : ∀ q ∈ ps, Byt q.xs ∧ q.xs.length ≤ 1000000) : Byt (formL (sb s) (pxs ps)) := by
  unfold formL
  rw [sb_len, pxs_len]
  refine ((Byt.append (enc_byte (by omega)) (sb_byte s)).append (enc_byte (by omega))).append (fmP_byte _ fun x hx => ?_)
  obtain ⟨q, hq, rfl⟩ := List.mem_map.1 hx
  exact ⟨(h q hq).1, by have := (h q hq).2; omega⟩

set_option maxRecDepth 100000 in
set_option maxHeartbeats 4000000 in
theorem rform_any (w : World) (s : ByteArray) (ao : Option Addr) (n cap : Nat) (ps : List Part) (hP : PL w ao n cap ps) (hs : s.size ≤ 1000000) (hn : n ≤ 1000000) (hq : ∀ q ∈ ps, q.n ≤ 1000000) :
    Calls Tryd.prog 88 #[.string s, .slice ao n cap] w fun e w' => ∃ v, e = .returned v ∧ w'.ownsRow w.heap.size 5 1 v (formL (sb s) (pxs ps)).length (bv (formL (sb s) (pxs ps))) ∧ Below w.heap.size w w' := by
  have hl := hP.len
  have hni : (n : Int) ≤ 1000000 := by omega
  have hsl := sb_len s
  have es := enc_length (n := s.size) (by omega)
  have en := enc_length (n := n) (by omega)
  have hby : Byt (formL (sb s) (pxs ps)) := formL_byte s ps hs (by omega) (fun q hq' => ⟨(hP.sl q hq').byte, by rw [(hP.sl q hq').len]; exact hq q hq'⟩)
  go_enter Tryd.func88, Tryd.ntmps88
  go_wp2_with (first
    | (refine wpList_conv_bytes rfl (.tmp 7) rfl s rfl (by omega) ?_; intro g2 c2 w2 hg2 S2 B2; have s2 := B2.size; clear hg2)
    | (go_at_call 61; refine (rBytes_any w2 none _ 0 0 s.size c2 [] _ (Sl.nothing w2) S2 (by omega)).mono ?_; rintro e w3 ⟨v3, rfl, own3, C3⟩; simp only [List.nil_append, Nat.zero_add] at own3; obtain ⟨fo, fc, rfl, S3, -⟩ := Sl.own own3 (Byt.append (enc_byte (by omega)) (sb_byte s)); have B3 : Below w.heap.size w w3 := B2.trans (C3.mono (by omega)); have s3 := C3.size; clear C3 own3 S2 B2)
    | (go_at_call 60; refine (rUint_any w3 fo _ fc n _ S3 (by omega) (by omega)).mono ?_; rintro e w4 ⟨v4, rfl, own4, C4⟩; have B4 : Below w.heap.size w w4 := B3.trans (C4.mono (by omega)); have s4 := C4.size; clear C4 S3 B3))
  obtain ⟨F, hF⟩ : ∃ F, F = enc s.size ++ sb s ++ enc n := ⟨_, rfl⟩
  have hFl : F.length = (enc s.size).length + s.size + (enc n).length := by rw [hF]; simp [hsl]; omega
  have hFb : Byt F := by rw [hF]; exact (Byt.append (enc_byte (by omega)) (sb_byte s)).append (enc_byte (by omega))
  have HF : Hid (formL (sb s) (pxs ps) = F ++ fmP (pxs ps)) := by
    show _ = _
    rw [hF, formL, hsl, pxs_len, hl]
  rw [← hF, ← hFl] at own4
  have own4' := own_base own4 (base' := w.heap.size) (by omega)
  clear hF hsl own4
  go_wp2_with fail
  go_loopw [5, 6] (fun v i wr => ∃ k : Nat, k ≤ n ∧ i = .int .i64 k ∧ Below w.heap.size w wr ∧ wr.ownsRow w.heap.size 5 1 v (F ++ fmP (pxs (ps.take k))).length (bv (F ++ fmP (pxs (ps.take k))))) (fun _ i _ => n - (intOf i).toNat)
  case atStart => exact ⟨0, by omega, rfl, B4, by simpa [pxs, fmP] using own4'⟩
  case round =>
    clear own4' B4
    obtain ⟨k, hk, rfl, B7, own7⟩ := hrel
    have t7 := B7.size
    by_cases hlt : k < n
    · have hki : (k : Int) < (n : Int) := by omega
      have hkl : k < ps.length := by omega
      obtain ⟨ab, aof, rfl, hc⟩ := (hP.below B7).at (by omega)
      have c1 := hc k hkl
      have S1 := (hP.below B7).sl ps[k] (List.getElem_mem hkl)
      have HX : Hid (fmP (pxs (ps.take (k + 1))) = fmP (pxs (ps.take k)) ++ (enc ps[k].n ++ ps[k].xs)) := by
        show _ = _
        rw [pxs_take ps k hkl, fmP_snoc, S1.len]
      have hqn := hq ps[k] (List.getElem_mem hkl)
      have hFM : (fmP (pxs (ps.take k))).length ≤ k * (1000000 + 10) := by
        refine Nat.le_trans (fmP_le _ 1000000 (by omega) (fun x hx => ?_)) ?_
        · obtain ⟨q, hq', rfl⟩ := List.mem_map.1 hx
          rw [(hP.sl q (List.mem_of_mem_take hq')).len]
          exact hq q (List.mem_of_mem_take hq')
        · rw [pxs_len, List.length_take]
          exact Nat.mul_le_mul_right _ (by omega)
      have hFb7 : Byt (F ++ fmP (pxs (ps.take k))) := hFb.append (fmP_byte _ fun x hx => by
        obtain ⟨q, hq', rfl⟩ := List.mem_map.1 hx
        have := hP.sl q (List.mem_of_mem_take hq')
        exact ⟨this.byte, by have := this.len; have := hq q (List.mem_of_mem_take hq'); omega⟩)
      obtain ⟨q, hqe⟩ : ∃ q, q = ps[k] := ⟨_, rfl⟩
      rw [← hqe] at c1 S1 HX hqn
      clear hqe hc
      have hql := S1.len
      have eq := enc_length (n := q.n) (by omega)
      have hGl : (F ++ fmP (pxs (ps.take k))).length ≤ 2000000 * 1000010 := by simp; omega
      obtain ⟨G, hG⟩ : ∃ G, G = F ++ fmP (pxs (ps.take k)) := ⟨_, rfl⟩
      rw [← hG] at own7 hFb7 hGl
      have HG : Hid (G = F ++ fmP (pxs (ps.take k))) := hG
      clear hG
      unfold Part.val at c1
      obtain ⟨fo, fc, rfl, S7, -⟩ := Sl.own own7 hFb7
      go_wp2_with (go_at_call 61; refine (rBytes_any wr fo q.ao G.length fc q.n q.cap G q.xs S7 S1 (by omega)).mono ?_; rintro e w8 ⟨v8, rfl, own8, C8⟩; have B8 : Below w.heap.size w w8 := B7.trans (C8.mono (by omega)); clear C8 own7 S7 S1)
      go_roundw
      case rel =>
        refine ⟨k + 1, by omega, by go_num, B8, ?_⟩
        rw [HX.out, ← List.append_assoc F, ← HG.out]
        have el : (G ++ (enc q.n ++ q.xs)).length = G.length + (enc q.n).length + q.n := by simp [hql]; omega
        rw [el, ← List.append_assoc]
        exact own_base own8 t7
      case measure => simp [intOf]; omega
    · have hge : (n : Int) ≤ (k : Int) := by omega
      have e : ps.take k = ps := List.take_of_length_le (by omega)
      rw [e] at own7
      clear e
      go_wp2_with fail
      go_ret
      refine ⟨_, rfl, ?_, B7⟩
      rw [HF.out]
      exact own7

end Go.Proofs.YtmedheecimglkaaDoor

/-
  The reference's Read of a chunk.
-/
import Derived.Test.YtkmkmekhodcioaaGreatDoorChunkLaysZ8
import Derived.Test.YtkmkmekhodcioaaGreatDoorChunkLaysZ10
import Derived.Test.YtkmkmekhodcioaaGreatDoorChunkLaysZ2
namespace Go.Proofs.YtkmkmekhodcioaaGreatDoor
open Go.RowKit

theorem itR_eq (xs : List Int) (k : Int) : itR xs k = (⟨(bytesT xs k 256).1, (bytesT (bytesT xs k 256).2.1 (bytesT xs k 256).2.2 1024).1⟩, (bytesT (bytesT xs k 256).2.1 (bytesT xs k 256).2.2 1024).2) := rfl
/-- What stands against items, asked one by one. -/
theorem kindCk_each {l : List It} : kindCk l = 0 ↔ l ≠ [] ∧ ∀ i (h : i < l.length), l[i].k ≠ [] ∧ (0 < i → cmpL l[i - 1].k l[i].k < 0) := by
  constructor
  · intro h
    obtain ⟨h1, h2, h3⟩ := kindCk_ok h
    refine ⟨h1, fun i hi => ⟨h3 _ (List.getElem_mem hi), fun hp => ?_⟩⟩
    have := (rises_at l).1 ((rises_srt l).2 h2) (i - 1) (by omega)
    simpa [show i - 1 + 1 = i by omega] using this
  · rintro ⟨h1, h2⟩
    refine kindCk_of h1 ((rises_srt l).1 ((rises_at l).2 fun j hj => ?_)) fun x hx => ?_
    · have := (h2 (j + 1) hj).2 (by omega)
      simpa using this
    · obtain ⟨i, hi, rfl⟩ := List.mem_iff_getElem.1 hx
      exact (h2 i hi).1
theorem kindCk_two (l : List It) : kindCk l = 0 ∨ kindCk l = 3 := by
  unfold kindCk
  split
  · exact .inl rfl
  · exact .inr rfl
theorem new_readerC (w : World) (t : TypeId) (L : Nat) (bo : Option Addr) (n c : Nat) (xs : List Int) (hsl : Sl w bo n c xs) (hlt : ∀ a, bo = some a → 0 < n → a.block < L) (hL : L ≤ w.heap.size) (hn : n ≤ 1000000) :
    R (w.alloc (.cells #[.slice bo n c, .int .i64 0] t)) w.heap.size L xs 0 := by
  refine ⟨bo, n, c, ?_, ?_, ?_, ?_, hsl.below ((Below.refl _ w).alloc (Nat.le_refl _) _), hlt, hL, hn⟩
  · go_simp
  · go_simp
  · go_simp
  · go_simp
structure RCkPost (w : World) (L : Nat) (t : Sum Int (List It)) (e : Ending) (w' : World) : Prop where
  bad : ∀ k, t = .inl k → e = .returned (.tuple #[.slice none 0 0, .int .i64 k]) ∧ k ≠ 0
  good : ∀ l, t = .inr l → ∃ ao n cap ps, e = .returned (.tuple #[.slice ao n cap, .int .i64 0]) ∧ IL w' ao n cap ps ∧ ps.map IP.it = l ∧ ∀ q ∈ ps, ∀ x, q.blk x → x < L
  bel : Below w.heap.size w w'

set_option maxHeartbeats 16000000 in
set_option maxRecDepth 100000 in
theorem rckread_low (w : World) (L : Nat) (ao : Option Addr) (n cap : Nat) (xs : List Int) (h : Sl w ao n cap xs) (hlt : ∀ a, ao = some a → 0 < n → a.block < L) (hLw : L ≤ w.heap.size) (hn : n ≤ 1000000) :
    Calls Tryz.prog 19 #[.slice ao n cap] w (RCkPost w L (rdCk xs)) := by
  have HRD : Hid (rdCk xs = rdT chR kindCk xs) := rdCk_R xs
  obtain ⟨w1, hw1⟩ : ∃ W, W = w.alloc (.cells #[.slice ao n cap, .int .i64 0] 82) := ⟨_, rfl⟩
  have B1 : Below w.heap.size w w1 := by rw [hw1]; exact (Below.refl _ _).alloc (Nat.le_refl _) _
  have R1 : R w1 w.heap.size L xs 0 := by rw [hw1]; exact new_readerC w _ L ao n cap xs h hlt hLw hn
  obtain ⟨p, hp⟩ : ∃ p, p = w.heap.size := ⟨_, rfl⟩
  have HP : Hid (p = w.heap.size) := hp
  rw [← hp] at R1
  have hpw : w.heap.size ≤ p := by omega
  have hLp : L ≤ p := by omega
  clear h hlt
  go_enter Tryz.func19, Tryz.ntmps19
  go_wp2_with fail
  rw [← hw1, ← hp]
  clear hw1 hp
  refine (rInt_any w1 p L xs 0 64 (by decide) R1.byte R1).mono ?_
  rintro e w2 ⟨rfl, R2, G2⟩
  obtain ⟨r, hr⟩ : ∃ r, r = intT xs 0 64 := ⟨_, rfl⟩
  have ER : Hid (r = intT xs 0 64) := hr
  have Z2 : r.1 ≤ 64 := by
    rw [hr]
    have := (int_same (xs := xs) (ys := xs) (k := 0) (fun _ => rfl) 64).1
    rw [this]
    exact intS_le _ _ 64
  rw [← hr] at R2 ⊢
  have hpl : p < w1.heap.size := by obtain ⟨_, _, _, hR⟩ := R1; exact hR.plt
  have B2 : Below w.heap.size w w2 := B1.trans (below_grown G2 B1.size hpw)
  have hpl2 : p < w2.heap.size := by have := G2.size; omega
  obtain ⟨M, hM⟩ : ∃ M, M = w2.heap.size := ⟨_, rfl⟩
  have inv0 : CkInvL w 0 p L M (fun m => stopT itR m r.2.1 r.2.2) w2 (.slice none 0 0) [] := ⟨R2, ⟨rfl, .inl ⟨rfl, rfl⟩⟩, fun _ h => by simp at h, fun _ h => by simp at h, fun _ h => by simp at h, rfl, B2, hpw, by omega, by omega⟩
  clear hr R1 R2 B1 B2 G2 hpl hpl2 hM
  go_wp2_with fail
  go_loopw [6, 7] (fun v i wr => ∃ ps : List IP, i = .int .i64 (ps.length : Nat) ∧ ps.length ≤ r.1 ∧ CkInvL w 0 p L M (fun m => stopT itR m r.2.1 r.2.2) wr v ps ∧ Hid (∀ q ∈ ps, ∀ x, q.blk x → x < L)) (fun _ i _ => r.1 - (intOf i).toNat)
  case atStart => exact ⟨[], rfl, Nat.zero_le _, inv0, fun _ h => by simp at h⟩
  case round =>
    clear inv0
    obtain ⟨ps, rfl, hle, inv, HLW⟩ := hrel
    obtain ⟨ao1, cap1, rfl, hIL⟩ := inv.row
    obtain ⟨k, hk⟩ : ∃ k, k = ps.length := ⟨_, rfl⟩
    have HK : Hid (k = ps.length) := hk
    obtain ⟨T, hT⟩ : ∃ T, T = stopT itR ps.length r.2.1 r.2.2 := ⟨_, rfl⟩
    have R0 : R wr p L T.2.1 T.2.2 := by rw [hT]; exact inv.rd
    have ck := R0.kind
    by_cases hgo : ps.length < r.1 ∧ T.2.2 = 0
    · obtain ⟨hlt, hT0⟩ := hgo
      rw [← hk] at hlt ⊢
      have hki : (k : Int) < (r.1 : Int) := by omega
      clear hIL
      have HI : Hid (CkInvL w 0 p L M (fun m => stopT itR m r.2.1 r.2.2) wr (.slice ao1 ps.length cap1) ps) := inv
      have HT : Hid (T = stopT itR ps.length r.2.1 r.2.2) := hT
      rw [hT0] at ck
      have HT0 : Hid (T.2.2 = 0) := hT0
      have hpos := inv.pos
      obtain ⟨X, hX⟩ : ∃ X, X = wr.heap.size := ⟨_, rfl⟩
      obtain ⟨V0, hV0⟩ : ∃ W, W = wr.alloc (.cells #[.slice none 0 0, .slice none 0 0] 43) := ⟨_, rfl⟩
      have C0 : Below wr.heap.size wr V0 := by rw [hV0]; exact (Below.refl _ _).alloc (Nat.le_refl _) _
      have X0 : Arr V0 X 43 [.slice none 0 0, .slice none 0 0] := by rw [hV0, hX]; exact heap_alloc_new wr _
      have RV0 := R0.below C0
      have hXp : p < X := by rw [hX]; omega
      clear inv hT hk hT0
      go_wp2_with fail
      rw [← hV0, ← hX]
      have HX : Hid (X = wr.heap.size) := hX
      clear hV0 hX
      refine (rBytes_low V0 p L T.2.1 T.2.2 256 (by decide) RV0).mono ?_
      rintro e V1 ⟨k0, kn, kc, rfl, S1, L1, RV1, G1⟩
      obtain ⟨t1, ht1⟩ : ∃ t, t = bytesT T.2.1 T.2.2 256 := ⟨_, rfl⟩
      have HT1 : Hid (t1 = bytesT T.2.1 T.2.2 256) := ht1
      rw [← ht1] at S1 RV1
      have X1 : Arr V1 X 43 [.slice none 0 0, .slice none 0 0] := X0.grown G1 (by simp; omega)
      have e1 : ∃ u, V1.cell? ⟨X, 0, none⟩ = some u := ⟨_, X1.cell 0⟩
      have f1 : V1.frozen? ⟨X, 0, none⟩ = false := frozen_of_row _ _ 0 _ _ X1
      have x10 : V1.cell? ⟨X, 0, none⟩ = some (.slice none 0 0) := X1.cell 0
      obtain ⟨V2, hV2⟩ : ∃ W, W = V1.setCell ⟨X, 0, none⟩ (.slice k0 kn kc) := ⟨_, rfl⟩
      have X2 : Arr V2 X 43 [.slice k0 kn kc, .slice none 0 0] := by rw [hV2]; exact X1.set 0 _
      have G2 : V1.grownBy V2 (some X) := by rw [hV2]; exact grown_setCell _ _ _ _
      have RV2 : R V2 p L t1.2.1 t1.2.2 := RV1.keep (by omega) (by omega) G2
      have S2 : Sl V2 k0 kn kc t1.1 := S1.keep L1 (by omega) G2
      clear RV0 ht1 e1
      go_wp2_with fail
      rw [← hV2]
      clear hV2 x10 f1
      refine (rBytes_low V2 p L t1.2.1 t1.2.2 1024 (by decide) RV2).mono ?_
      rintro e V3 ⟨v0, vn, vc, rfl, S3, L3, RV3, G3⟩
      obtain ⟨t2, ht2⟩ : ∃ t, t = bytesT t1.2.1 t1.2.2 1024 := ⟨_, rfl⟩
      have HT2 : Hid (t2 = bytesT t1.2.1 t1.2.2 1024) := ht2
      rw [← ht2] at S3 RV3
      have X3 : Arr V3 X 43 [.slice k0 kn kc, .slice none 0 0] := X2.grown G3 (by simp; omega)
      have f3 : V3.frozen? ⟨X, 1, none⟩ = false := frozen_of_row _ _ 1 _ _ X3
      have x31 : V3.cell? ⟨X, 1, none⟩ = some (.slice none 0 0) := X3.cell 1
      obtain ⟨V4, hV4⟩ : ∃ W, W = V3.setCell ⟨X, 1, none⟩ (.slice v0 vn vc) := ⟨_, rfl⟩
      have X4 : Arr V4 X 43 [.slice k0 kn kc, .slice v0 vn vc] := by rw [hV4]; exact X3.set 1 _
      have G4 : V3.grownBy V4 (some X) := by rw [hV4]; exact grown_setCell _ _ _ _
      have RV4 : R V4 p L t2.2.1 t2.2.2 := RV3.keep (by omega) (by omega) G4
      have S4 : Sl V4 v0 vn vc t2.1 := S3.keep L3 (by omega) G4
      have S5 : Sl V4 k0 kn kc t1.1 := (S2.keepNe (fun a ha hp => by have := L1 a ha hp; omega) G3).keep L1 (by omega) G4
      have x40 : V4.cell? ⟨X, 0, none⟩ = some (.slice k0 kn kc) := X4.cell 0
      have x41 : V4.cell? ⟨X, 1, none⟩ = some (.slice v0 vn vc) := X4.cell 1
      obtain ⟨q, hq⟩ : ∃ q : IP, q = ⟨⟨k0, kn, kc, t1.1⟩, ⟨v0, vn, vc, t2.1⟩⟩ := ⟨_, rfl⟩
      have hqo : q.ok V4 := by rw [hq]; exact ⟨S5, S4⟩
      have hlow : ∀ x, q.blk x → x < L := by
        intro x hx
        rw [hq] at hx
        rcases hx with ⟨a, ha, hp, rfl⟩ | ⟨a, ha, hp, rfl⟩
        · exact L1 a ha hp
        · exact L3 a ha hp
      have hfar : ∀ x, q.blk x → x ≠ p ∧ (Value.slice ao1 ps.length cap1).ownBlock ≠ some x := by
        intro x hx
        have := hlow x hx
        refine ⟨by omega, fun e => ?_⟩
        have := (HI.out.own.lt x e).1
        omega
      have GG : wr.grownBy V4 (some p) := by
        have s0 := C0.size
        have s1 := G1.size
        have s2 := G2.size
        have s3 := G3.size
        refine ⟨?_, ?_, ?_, by have := G4.size; omega, fun b hb hne => ?_⟩
        · rw [G4.os, G3.os, G2.os, G1.os, C0.os]
        · rw [G4.tape, G3.tape, G2.tape, G1.tape, C0.tape]
        · rw [G4.output, G3.output, G2.output, G1.output, C0.output]
        · have hbX : some b ≠ some X := fun e => by have := Option.some.inj e; have := HX.out; omega
          rw [G4.block b (by omega) hbX, G3.block b (by omega) hne, G2.block b (by omega) hbX, G1.block b (by omega) hne, C0.block b hb]
      have hit : q.it = (itR T.2.1 T.2.2).1 := by
        rw [itR_eq, ← HT1.out, ← HT2.out, hq]
        rfl
      have hsn := stopT_snoc itR ps.length r.2.1 r.2.2 (by rw [← HT.out]; exact HT0.out)
      rw [← HT.out, ← hit] at hsn
      have hrest : (itR T.2.1 T.2.2).2 = t2.2 := by rw [itR_eq, ← HT1.out, ← HT2.out]
      rw [hrest] at hsn
      have hfin : ∀ ty c, ∃ v' V5, (Builtin.append_ #[30, 30] ty #[.slice ao1 ps.length cap1, .slice (some ⟨V4.heap.size, 0, none⟩) 1 c]).run Tryz.prog (V4.alloc (.cells #[q.k.val, q.v.val] 43)) = .ok v' V5 ∧ CkInvL w 0 p L M (fun m => stopT itR m r.2.1 r.2.2) V5 v' (ps ++ [q]) := fun ty c =>
        HI.out.step GG hqo hfar (fun _ _ => Nat.zero_le _) (by simp only [hsn, ← HT.out]) (by simp only [hsn]; exact RV4) (by have := HK.out; omega) rfl ty c
      have hql : (Value.slice k0 kn kc = q.k.val) ∧ (Value.slice v0 vn vc = q.v.val) := by rw [hq]; exact ⟨rfl, rfl⟩
      obtain ⟨v', V5, hrun, inv5⟩ := hfin 30 1
      rw [← hql.1, ← hql.2] at hrun
      rw [← HK.out] at hrun
      have HF : Hid (CkInvL w 0 p L M (fun m => stopT itR m r.2.1 r.2.2) V5 v' (ps ++ [q])) := inv5
      have hs4 : V4.heap.size = V3.heap.size := by rw [hV4]; simp
      have HRUN : Hid ((Builtin.append_ #[30, 30] 30 #[.slice ao1 k cap1, .slice (some ⟨V3.heap.size, 0, none⟩) 1 1]).run Tryz.prog ((V3.setCell ⟨X, 1, none⟩ (.slice v0 vn vc)).alloc (.cells #[.slice k0 kn kc, .slice v0 vn vc] 43)) = .ok v' V5) := by
        show _ = _
        rw [← hV4, ← hs4]
        exact hrun
      rw [hV4] at x40 x41
      have HLQ : Hid (∀ y ∈ ps ++ [q], ∀ x, y.blk x → x < L) := fun y hy => by
        rcases List.mem_append.1 hy with hy | hy
        · exact HLW.out y hy
        · rw [List.mem_singleton.1 hy]
          exact hlow
      clear hfin hql inv5 hrun S1 S2 S3 S4 S5 L1 L3 RV1 RV2 RV3 RV4 G1 G2 G3 G4 GG hqo hlow hfar hit hsn hrest ht2 hq C0 X0 X1 X2 X3 X4 R0 ck hs4 hV4
      go_wp2_with (at_builtin; refine wpList_appR rfl _ _ _ _ rfl _ _ _ rfl rfl HRUN.out ?_)
      go_roundw
      case rel => exact ⟨ps ++ [q], by rw [List.length_append, ← HK.out]; go_num, by rw [List.length_append]; have := HK.out; simp only [List.length_cons, List.length_nil]; omega, HF.out, HLQ.out⟩
      case measure => simp [intOf]; omega
    · have HEND : Hid (stopT itR r.1 r.2.1 r.2.2 = T) := by
        show _ = _
        by_cases hz : T.2.2 = 0
        · have : ps.length = r.1 := by
            by_cases hc : ps.length < r.1
            · exact absurd ⟨hc, hz⟩ hgo
            · omega
          rw [← this, hT]
        · rw [hT]
          exact stopT_halt itR ps.length r.1 r.2.1 r.2.2 hle (by rw [← hT]; exact hz)
      have HL : Hid (ps.map IP.it = T.1) := by show _ = _; rw [hT]; exact inv.thr
      have hB := inv.bel
      have HFUL : Hid (T.2.2 = 0 → ps.length = r.1) := fun hz => by
        by_cases hc : ps.length < r.1
        · exact absurd ⟨hc, hz⟩ hgo
        · omega
      have HOR : Hid (rdCk xs = if doneS T.2.1 T.2.2 = 0 then (if kindCk (ps.map IP.it) = 0 then .inr (ps.map IP.it) else .inl (kindCk (ps.map IP.it))) else .inl (doneS T.2.1 T.2.2)) := by
        show _ = _
        rw [HRD.out, HL.out]
        unfold rdT
        have e : chR xs 0 = T := by
          show ((stopT itR (intT xs 0 64).1 (intT xs 0 64).2.1 (intT xs 0 64).2.2).1, (stopT itR (intT xs 0 64).1 (intT xs 0 64).2.1 (intT xs 0 64).2.2).2) = _
          rw [← ER.out, HEND.out]
        rw [e]
      have CD := rDone_any wr p L T.2.1 T.2.2 R0
      obtain ⟨d, hd⟩ : ∃ d, d = doneS T.2.1 T.2.2 := ⟨_, rfl⟩
      have HD : Hid (d = doneS T.2.1 T.2.2) := hd
      rw [← hd] at HOR CD
      have HIL : Hid (IL wr ao1 k cap1 ps) := by show IL _ _ _ _ _; rw [hk]; exact hIL
      have HPL : Hid (r.1 ≤ 64) := Z2
      have hkr : k ≤ r.1 := by omega
      rw [← hk]
      clear inv hT hd hIL hk hle R0
      by_cases hdz : d = 0
      · have HZ : Hid (k = r.1) := by
          show _ = _
          rw [HK.out]
          refine HFUL.out ?_
          have h1 := HD.out
          rw [hdz] at h1
          by_cases hz : T.2.2 = 0
          · exact hz
          · unfold doneS at h1
            rw [if_neg hz] at h1
            exact absurd h1.symm hz
        subst hdz
        have hge : ¬ (k : Int) < (r.1 : Int) := by have := HZ.out; omega
        have HOR2 : Hid (rdCk xs = if kindCk (ps.map IP.it) = 0 then .inr (ps.map IP.it) else .inl (kindCk (ps.map IP.it))) := by
          show _ = _
          rw [HOR.out, if_pos rfl]
        clear HOR hgo
        go_wp2_with fail
        refine CD.mono ?_
        rintro e w3 ⟨rfl, hw⟩
        obtain rfl := hw.symm
        clear CD
        go_wp2_with fail
        obtain ⟨wo, rfl⟩ : ∃ W, W = wr := ⟨wr, rfl⟩
        go_loopw [10] (fun ix wq => ∃ i : Nat, i ≤ k ∧ ix = .int .i64 i ∧ Hid (∀ y (h : y < ps.length), y < i → ps[y].k.xs ≠ [] ∧ (0 < y → cmpL ps[y - 1].k.xs ps[y].k.xs < 0)) ∧ Below wo.heap.size wo wq) (fun ix _ => k - (intOf ix).toNat)
        case atStart => exact ⟨0, Nat.zero_le _, rfl, fun y _ hy => by omega, Below.refl _ _⟩
        case round =>
          obtain ⟨i, hik, rfl, HJ, hBq⟩ := hrel
          have hkl : k = ps.length := HK.out
          by_cases hlt : i < k
          · have hii : (i : Int) < (k : Int) := by omega
            have hil : i < ps.length := by omega
            have ILq := HIL.out.below hBq
            obtain ⟨b, off, rfl, hc⟩ := ILq.at (by omega)
            have c1 := (hc i hil).1
            have SQ := ILq.sl ps[i] (List.getElem_mem hil)
            have HQE : Hid (∀ (h : i < ps.length), ps[i] = ps[i]) := fun _ => rfl
            obtain ⟨q, hq⟩ : ∃ q, q = ps[i] := ⟨_, rfl⟩
            have HQ : Hid (q = ps[i]) := hq
            rw [← hq] at c1 SQ
            unfold Part.val at c1
            have hqn := SQ.1.len
            by_cases he : q.k.n = 0
            · have heb : ((q.k.n : Int) == 0) = true := by simp [he]
              have HR : Hid (rdCk xs = .inl 3) := by
                show _ = _
                have hk3 : kindCk (ps.map IP.it) = 3 := by
                  rcases kindCk_two (ps.map IP.it) with h | h
                  · have := ((kindCk_each.1 h).2 i (by simpa using hil)).1
                    rw [List.getElem_map, ← HQ.out] at this
                    exact absurd (show q.it.k = [] from List.eq_nil_of_length_eq_zero (by show q.k.xs.length = 0; omega)) this
                  · exact h
                rw [HOR2.out, hk3]
                rfl
              clear hc hq hkl SQ hqn he HQE ILq
              go_wp2_with fail
              have HS : Hid (∀ V, Below wr.heap.size wr V → V.cell? ⟨b, off + i * 2, none⟩ = some (.slice q.k.ao q.k.n q.k.cap)) := fun V hV => (hV.cell (World.block_lt_of_cell? _ _ c1)).trans c1
              have E0 : Below wr.heap.size wr wr.drew := (Below.refl _ _).drew
              refine wp_region_noPanic ?_
              refine wp_region_held_drew (S := fun V => V.cell? ⟨b, off + i * 2, none⟩ = some (.slice q.k.ao q.k.n q.k.cap)) (by kernel_rfl) (HS.out _ E0) (fun H0 => ?_)
              obtain ⟨v0, hv0⟩ : ∃ v, v = wr.drew := ⟨_, rfl⟩
              rw [← hv0] at H0 E0 ⊢
              clear hv0
              refine hr_take_w 0 (some 50) (.slice (some ⟨b, off, none⟩) k cap1) rfl rfl (by kernel_rfl) (by kernel_rfl) (by kernel_rfl) rfl (fun W hW => by go_simp) H0 ?_
              simp only [Act.put, List.setIfInBounds_toArray, List.set_cons_zero, List.set_cons_succ]
              refine hr_take_w 1 (some 51) (.int .i64 i) rfl rfl (by kernel_rfl) (by kernel_rfl) (by kernel_rfl) rfl (fun W hW => by go_simp) H0 ?_
              simp only [Act.put, List.setIfInBounds_toArray, List.set_cons_zero, List.set_cons_succ]
              refine hr_take_w 2 (some 52) (.pointer (some ⟨b, off + i * 2, none⟩)) rfl rfl (by kernel_rfl) (by kernel_rfl) (by kernel_rfl) rfl (fun W hW => by go_simp) H0 ?_
              simp only [Act.put, List.setIfInBounds_toArray, List.set_cons_zero, List.set_cons_succ]
              refine hr_take_w 3 (some 53) (.pointer (some ⟨b, off + i * 2, none⟩)) rfl rfl (by kernel_rfl) (by kernel_rfl) (by kernel_rfl) rfl (fun W hW => by go_simp) H0 ?_
              simp only [Act.put, List.setIfInBounds_toArray, List.set_cons_zero, List.set_cons_succ]
              refine hr_take_w 4 (some 54) (.slice q.k.ao q.k.n q.k.cap) rfl rfl (by kernel_rfl) (by kernel_rfl) (by kernel_rfl) rfl (fun W hW => by go_simp) H0 ?_
              simp only [Act.put, List.setIfInBounds_toArray, List.set_cons_zero, List.set_cons_succ]
              refine hr_take_w 5 (some 55) (.int .i64 q.k.n) rfl rfl (by kernel_rfl) (by kernel_rfl) (by kernel_rfl) rfl (fun W hW => by go_simp) H0 ?_
              simp only [Act.put, List.setIfInBounds_toArray, List.set_cons_zero, List.set_cons_succ]
              refine hr_take_w 6 (some 56) (.bool true) rfl rfl (by kernel_rfl) (by kernel_rfl) (by kernel_rfl) rfl (fun W hW => by go_simp) H0 ?_
              simp only [Act.put, List.setIfInBounds_toArray, List.set_cons_zero, List.set_cons_succ]
              refine hr_take_w 7 (some 57) (.bool true) rfl rfl (by kernel_rfl) (by kernel_rfl) (by kernel_rfl) rfl (fun W hW => by go_simp) H0 ?_
              simp only [Act.put, List.setIfInBounds_toArray, List.set_cons_zero, List.set_cons_succ]
              refine hr_none 8 (some 58) rfl rfl (by kernel_rfl) (by kernel_rfl) (by kernel_rfl) rfl H0 ?_
              simp only [Act.put, List.setIfInBounds_toArray, List.set_cons_zero, List.set_cons_succ]
              refine hr_none 9 (some 59) rfl rfl (by kernel_rfl) (by kernel_rfl) (by kernel_rfl) rfl H0 ?_
              simp only [Act.put, List.setIfInBounds_toArray, List.set_cons_zero, List.set_cons_succ]
              refine hr_none 10 (some 60) rfl rfl (by kernel_rfl) (by kernel_rfl) (by kernel_rfl) rfl H0 ?_
              simp only [Act.put, List.setIfInBounds_toArray, List.set_cons_zero, List.set_cons_succ]
              refine hr_none 11 (some 61) rfl rfl (by kernel_rfl) (by kernel_rfl) (by kernel_rfl) rfl H0 ?_
              simp only [Act.put, List.setIfInBounds_toArray, List.set_cons_zero, List.set_cons_succ]
              refine hr_none 12 (some 62) rfl rfl (by kernel_rfl) (by kernel_rfl) (by kernel_rfl) rfl H0 ?_
              simp only [Act.put, List.setIfInBounds_toArray, List.set_cons_zero, List.set_cons_succ]
              refine hr_none 13 (some 63) rfl rfl (by kernel_rfl) (by kernel_rfl) (by kernel_rfl) rfl H0 ?_
              simp only [Act.put, List.setIfInBounds_toArray, List.set_cons_zero, List.set_cons_succ]
              refine hr_none 14 (some 64) rfl rfl (by kernel_rfl) (by kernel_rfl) (by kernel_rfl) rfl H0 ?_
              simp only [Act.put, List.setIfInBounds_toArray, List.set_cons_zero, List.set_cons_succ]
              refine hr_none 15 (some 65) rfl rfl (by kernel_rfl) (by kernel_rfl) (by kernel_rfl) rfl H0 ?_
              simp only [Act.put, List.setIfInBounds_toArray, List.set_cons_zero, List.set_cons_succ]
              refine hr_none 16 (some 66) rfl rfl (by kernel_rfl) (by kernel_rfl) (by kernel_rfl) rfl H0 ?_
              simp only [Act.put, List.setIfInBounds_toArray, List.set_cons_zero, List.set_cons_succ]
              refine hr_none 17 (some 67) rfl rfl (by kernel_rfl) (by kernel_rfl) (by kernel_rfl) rfl H0 ?_
              simp only [Act.put, List.setIfInBounds_toArray, List.set_cons_zero, List.set_cons_succ]
              refine hr_none 18 (some 68) rfl rfl (by kernel_rfl) (by kernel_rfl) (by kernel_rfl) rfl H0 ?_
              simp only [Act.put, List.setIfInBounds_toArray, List.set_cons_zero, List.set_cons_succ]
              refine hr_none 19 (some 69) rfl rfl (by kernel_rfl) (by kernel_rfl) (by kernel_rfl) rfl H0 ?_
              simp only [Act.put, List.setIfInBounds_toArray, List.set_cons_zero, List.set_cons_succ]
              refine hr_none 20 (some 70) rfl rfl (by kernel_rfl) (by kernel_rfl) (by kernel_rfl) rfl H0 ?_
              simp only [Act.put, List.setIfInBounds_toArray, List.set_cons_zero, List.set_cons_succ]
              refine hr_none 21 (some 71) rfl rfl (by kernel_rfl) (by kernel_rfl) (by kernel_rfl) rfl H0 ?_
              simp only [Act.put, List.setIfInBounds_toArray, List.set_cons_zero, List.set_cons_succ]
              refine hr_none 22 (some 72) rfl rfl (by kernel_rfl) (by kernel_rfl) (by kernel_rfl) rfl H0 ?_
              simp only [Act.put, List.setIfInBounds_toArray, List.set_cons_zero, List.set_cons_succ]
              refine hr_none 23 (some 73) rfl rfl (by kernel_rfl) (by kernel_rfl) (by kernel_rfl) rfl H0 ?_
              simp only [Act.put, List.setIfInBounds_toArray, List.set_cons_zero, List.set_cons_succ]
              refine hr_none 24 (some 74) rfl rfl (by kernel_rfl) (by kernel_rfl) (by kernel_rfl) rfl H0 ?_
              simp only [Act.put, List.setIfInBounds_toArray, List.set_cons_zero, List.set_cons_succ]
              refine hr_take_w 25 (some 75) (.bool true) rfl rfl (by kernel_rfl) (by kernel_rfl) (by kernel_rfl) rfl (fun W hW => by go_simp) H0 ?_
              simp only [Act.put, List.setIfInBounds_toArray, List.set_cons_zero, List.set_cons_succ]
              refine wpAnyH_done (by kernel_rfl) ?_ _
              refine NoPanic.normal ?_
              have B2 := hB.trans ((hBq.trans (E0.mono hBq.size)).mono hB.size)
              go_wp2
              go_ret2
              refine ⟨fun z hz => ?_, fun l hl => ?_, B2⟩
              · rw [HR.out] at hz
                obtain rfl := Sum.inl.inj hz
                exact ⟨rfl, by decide⟩
              · rw [HR.out] at hl
                cases hl
            have heb : ((q.k.n : Int) == 0) = false := by simp [he]
            have HNE : Hid (q.k.xs ≠ []) := fun e => he (by rw [← hqn, e]; rfl)
            by_cases h0 : i = 0
            · subst h0
              rw [Nat.zero_mul, Nat.add_zero] at c1
              clear hc hq hkl SQ hqn he HQE ILq
              go_wp2_with fail
              have HS : Hid (∀ V, Below wr.heap.size wr V → V.cell? ⟨b, off, none⟩ = some (.slice q.k.ao q.k.n q.k.cap)) := fun V hV => (hV.cell (World.block_lt_of_cell? _ _ c1)).trans c1
              have E0 : Below wr.heap.size wr wr.drew := (Below.refl _ _).drew
              refine wp_region_noPanic ?_
              refine wp_region_held_drew (S := fun V => V.cell? ⟨b, off, none⟩ = some (.slice q.k.ao q.k.n q.k.cap)) (by kernel_rfl) (HS.out _ E0) (fun H0 => ?_)
              obtain ⟨v0, hv0⟩ : ∃ v, v = wr.drew := ⟨_, rfl⟩
              rw [← hv0] at H0 E0 ⊢
              clear hv0
              refine hr_take_w 0 (some 50) (.slice (some ⟨b, off, none⟩) k cap1) rfl rfl (by kernel_rfl) (by kernel_rfl) (by kernel_rfl) rfl (fun W hW => by go_simp) H0 ?_
              simp only [Act.put, List.setIfInBounds_toArray, List.set_cons_zero, List.set_cons_succ]
              refine hr_take_w 1 (some 51) (.int .i64 ((0 : Nat) : Int)) rfl rfl (by kernel_rfl) (by kernel_rfl) (by kernel_rfl) rfl (fun W hW => by go_simp) H0 ?_
              simp only [Act.put, List.setIfInBounds_toArray, List.set_cons_zero, List.set_cons_succ]
              refine hr_take_w 2 (some 52) (.pointer (some ⟨b, off, none⟩)) rfl rfl (by kernel_rfl) (by kernel_rfl) (by kernel_rfl) rfl (fun W hW => by go_simp) H0 ?_
              simp only [Act.put, List.setIfInBounds_toArray, List.set_cons_zero, List.set_cons_succ]
              refine hr_take_w 3 (some 53) (.pointer (some ⟨b, off, none⟩)) rfl rfl (by kernel_rfl) (by kernel_rfl) (by kernel_rfl) rfl (fun W hW => by go_simp) H0 ?_
              simp only [Act.put, List.setIfInBounds_toArray, List.set_cons_zero, List.set_cons_succ]
              refine hr_take_w 4 (some 54) (.slice q.k.ao q.k.n q.k.cap) rfl rfl (by kernel_rfl) (by kernel_rfl) (by kernel_rfl) rfl (fun W hW => by go_simp) H0 ?_
              simp only [Act.put, List.setIfInBounds_toArray, List.set_cons_zero, List.set_cons_succ]
              refine hr_take_w 5 (some 55) (.int .i64 q.k.n) rfl rfl (by kernel_rfl) (by kernel_rfl) (by kernel_rfl) rfl (fun W hW => by go_simp) H0 ?_
              simp only [Act.put, List.setIfInBounds_toArray, List.set_cons_zero, List.set_cons_succ]
              refine hr_take_w 6 (some 56) (.bool false) rfl rfl (by kernel_rfl) (by kernel_rfl) (by kernel_rfl) rfl (fun W hW => by go_simp) H0 ?_
              simp only [Act.put, List.setIfInBounds_toArray, List.set_cons_zero, List.set_cons_succ]
              refine hr_take_w 7 (some 57) (.bool false) rfl rfl (by kernel_rfl) (by kernel_rfl) (by kernel_rfl) rfl (fun W hW => by go_simp) H0 ?_
              simp only [Act.put, List.setIfInBounds_toArray, List.set_cons_zero, List.set_cons_succ]
              refine hr_take_w 8 (some 58) (.int .i64 ((0 : Nat) : Int)) rfl rfl (by kernel_rfl) (by kernel_rfl) (by kernel_rfl) rfl (fun W hW => by go_simp) H0 ?_
              simp only [Act.put, List.setIfInBounds_toArray, List.set_cons_zero, List.set_cons_succ]
              refine hr_take_w 9 (some 59) (.bool false) rfl rfl (by kernel_rfl) (by kernel_rfl) (by kernel_rfl) rfl (fun W hW => by go_simp) H0 ?_
              simp only [Act.put, List.setIfInBounds_toArray, List.set_cons_zero, List.set_cons_succ]
              refine hr_take_w 10 (some 60) (.bool false) rfl rfl (by kernel_rfl) (by kernel_rfl) (by kernel_rfl) rfl (fun W hW => by go_simp) H0 ?_
              simp only [Act.put, List.setIfInBounds_toArray, List.set_cons_zero, List.set_cons_succ]
              refine hr_none 11 (some 61) rfl rfl (by kernel_rfl) (by kernel_rfl) (by kernel_rfl) rfl H0 ?_
              simp only [Act.put, List.setIfInBounds_toArray, List.set_cons_zero, List.set_cons_succ]
              refine hr_none 12 (some 62) rfl rfl (by kernel_rfl) (by kernel_rfl) (by kernel_rfl) rfl H0 ?_
              simp only [Act.put, List.setIfInBounds_toArray, List.set_cons_zero, List.set_cons_succ]
              refine hr_none 13 (some 63) rfl rfl (by kernel_rfl) (by kernel_rfl) (by kernel_rfl) rfl H0 ?_
              simp only [Act.put, List.setIfInBounds_toArray, List.set_cons_zero, List.set_cons_succ]
              refine hr_none 14 (some 64) rfl rfl (by kernel_rfl) (by kernel_rfl) (by kernel_rfl) rfl H0 ?_
              simp only [Act.put, List.setIfInBounds_toArray, List.set_cons_zero, List.set_cons_succ]
              refine hr_none 15 (some 65) rfl rfl (by kernel_rfl) (by kernel_rfl) (by kernel_rfl) rfl H0 ?_
              simp only [Act.put, List.setIfInBounds_toArray, List.set_cons_zero, List.set_cons_succ]
              refine hr_none 16 (some 66) rfl rfl (by kernel_rfl) (by kernel_rfl) (by kernel_rfl) rfl H0 ?_
              simp only [Act.put, List.setIfInBounds_toArray, List.set_cons_zero, List.set_cons_succ]
              refine hr_none 17 (some 67) rfl rfl (by kernel_rfl) (by kernel_rfl) (by kernel_rfl) rfl H0 ?_
              simp only [Act.put, List.setIfInBounds_toArray, List.set_cons_zero, List.set_cons_succ]
              refine hr_none 18 (some 68) rfl rfl (by kernel_rfl) (by kernel_rfl) (by kernel_rfl) rfl H0 ?_
              simp only [Act.put, List.setIfInBounds_toArray, List.set_cons_zero, List.set_cons_succ]
              refine hr_none 19 (some 69) rfl rfl (by kernel_rfl) (by kernel_rfl) (by kernel_rfl) rfl H0 ?_
              simp only [Act.put, List.setIfInBounds_toArray, List.set_cons_zero, List.set_cons_succ]
              refine hr_none 20 (some 70) rfl rfl (by kernel_rfl) (by kernel_rfl) (by kernel_rfl) rfl H0 ?_
              simp only [Act.put, List.setIfInBounds_toArray, List.set_cons_zero, List.set_cons_succ]
              refine hr_none 21 (some 71) rfl rfl (by kernel_rfl) (by kernel_rfl) (by kernel_rfl) rfl H0 ?_
              simp only [Act.put, List.setIfInBounds_toArray, List.set_cons_zero, List.set_cons_succ]
              refine hr_none 22 (some 72) rfl rfl (by kernel_rfl) (by kernel_rfl) (by kernel_rfl) rfl H0 ?_
              simp only [Act.put, List.setIfInBounds_toArray, List.set_cons_zero, List.set_cons_succ]
              refine hr_none 23 (some 73) rfl rfl (by kernel_rfl) (by kernel_rfl) (by kernel_rfl) rfl H0 ?_
              simp only [Act.put, List.setIfInBounds_toArray, List.set_cons_zero, List.set_cons_succ]
              refine hr_take_w 24 (some 74) (.bool false) rfl rfl (by kernel_rfl) (by kernel_rfl) (by kernel_rfl) rfl (fun W hW => by go_simp) H0 ?_
              simp only [Act.put, List.setIfInBounds_toArray, List.set_cons_zero, List.set_cons_succ]
              refine hr_take_w 25 (some 75) (.bool false) rfl rfl (by kernel_rfl) (by kernel_rfl) (by kernel_rfl) rfl (fun W hW => by go_simp) H0 ?_
              simp only [Act.put, List.setIfInBounds_toArray, List.set_cons_zero, List.set_cons_succ]
              refine wpAnyH_done (by kernel_rfl) ?_ _
              refine NoPanic.normal ?_
              clear c1
              go_wp2
              go_roundw
              case rel =>
                refine ⟨1, by omega, by go_num, fun y hy hy1 => ?_, hBq.trans (E0.mono hBq.size)⟩
                obtain rfl : y = 0 := by omega
                rw [← HQ.out]
                exact ⟨HNE.out, fun h => by omega⟩
              case measure => simp [intOf]; omega
            · obtain ⟨j, hj⟩ : ∃ j, i = j + 1 := ⟨i - 1, by omega⟩
              have hjl : j < ps.length := by omega
              have hji : (j : Int) < (k : Int) := by omega
              have hj0 : (0 : Int) ≤ (j : Int) := by omega
              have hi0 : (0 : Int) < (i : Int) := by omega
              have d1 := (hc j hjl).1
              have SP := ILq.sl ps[j] (List.getElem_mem hjl)
              obtain ⟨p', hp'⟩ : ∃ p, p = ps[j] := ⟨_, rfl⟩
              have HPE : Hid (p' = ps[j]) := hp'
              rw [← hp'] at d1 SP
              unfold Part.val at d1
              have HWR : Hid (IntKind.i64.wrap ((i : Int) - 1) = (j : Int)) := by
                show _ = _
                rw [show (i : Int) - 1 = (j : Int) by omega]
                exact wrap_nat (by omega)
              have HIJ : Hid (i - 1 = j) := by show _ = _; omega
              have CB : ∀ V, Below wr.heap.size wr V → Calls Tryz.prog 20 #[.slice p'.k.ao p'.k.n p'.k.cap, .slice q.k.ao q.k.n q.k.cap] V fun e w' => e = .returned (.bool (decide (cmpL p'.k.xs q.k.xs < 0))) ∧ Below V.heap.size V w' := fun V hV => rbelow_any V _ _ _ _ _ _ _ _ (SP.1.below hV) (SQ.1.below hV)
              clear hc hq hp' hkl SQ SP hqn he HQE ILq h0 hj
              by_cases hcm : cmpL p'.k.xs q.k.xs < 0
              · rw [decide_eq_true hcm] at CB
                have HCM : Hid (cmpL p'.k.xs q.k.xs < 0) := hcm
                clear hcm
                go_wp2_with fail
                have HS : Hid (∀ V, Below wr.heap.size wr V → V.cell? ⟨b, off + i * 2, none⟩ = some (.slice q.k.ao q.k.n q.k.cap) ∧ V.cell? ⟨b, off + j * 2, none⟩ = some (.slice p'.k.ao p'.k.n p'.k.cap)) := fun V hV => ⟨(hV.cell (World.block_lt_of_cell? _ _ c1)).trans c1, (hV.cell (World.block_lt_of_cell? _ _ d1)).trans d1⟩
                have E0 : Below wr.heap.size wr wr.drew := (Below.refl _ _).drew
                refine wp_region_noPanic ?_
                refine wp_region_held_drew (S := fun V => V.cell? ⟨b, off + i * 2, none⟩ = some (.slice q.k.ao q.k.n q.k.cap) ∧ V.cell? ⟨b, off + j * 2, none⟩ = some (.slice p'.k.ao p'.k.n p'.k.cap)) (by kernel_rfl) (HS.out _ E0) (fun H0 => ?_)
                obtain ⟨v0, hv0⟩ : ∃ v, v = wr.drew := ⟨_, rfl⟩
                rw [← hv0] at H0 E0 ⊢
                clear hv0
                refine hr_take_w 0 (some 50) (.slice (some ⟨b, off, none⟩) k cap1) rfl rfl (by kernel_rfl) (by kernel_rfl) (by kernel_rfl) rfl (fun W hW => by obtain ⟨h0, h1⟩ := hW; go_simp) H0 ?_
                simp only [Act.put, List.setIfInBounds_toArray, List.set_cons_zero, List.set_cons_succ]
                refine hr_take_w 1 (some 51) (.int .i64 i) rfl rfl (by kernel_rfl) (by kernel_rfl) (by kernel_rfl) rfl (fun W hW => by obtain ⟨h0, h1⟩ := hW; go_simp) H0 ?_
                simp only [Act.put, List.setIfInBounds_toArray, List.set_cons_zero, List.set_cons_succ]
                refine hr_take_w 2 (some 52) (.pointer (some ⟨b, off + i * 2, none⟩)) rfl rfl (by kernel_rfl) (by kernel_rfl) (by kernel_rfl) rfl (fun W hW => by obtain ⟨h0, h1⟩ := hW; go_simp) H0 ?_
                simp only [Act.put, List.setIfInBounds_toArray, List.set_cons_zero, List.set_cons_succ]
                refine hr_take_w 3 (some 53) (.pointer (some ⟨b, off + i * 2, none⟩)) rfl rfl (by kernel_rfl) (by kernel_rfl) (by kernel_rfl) rfl (fun W hW => by obtain ⟨h0, h1⟩ := hW; go_simp) H0 ?_
                simp only [Act.put, List.setIfInBounds_toArray, List.set_cons_zero, List.set_cons_succ]
                refine hr_take_w 4 (some 54) (.slice q.k.ao q.k.n q.k.cap) rfl rfl (by kernel_rfl) (by kernel_rfl) (by kernel_rfl) rfl (fun W hW => by obtain ⟨h0, h1⟩ := hW; go_simp) H0 ?_
                simp only [Act.put, List.setIfInBounds_toArray, List.set_cons_zero, List.set_cons_succ]
                refine hr_take_w 5 (some 55) (.int .i64 q.k.n) rfl rfl (by kernel_rfl) (by kernel_rfl) (by kernel_rfl) rfl (fun W hW => by obtain ⟨h0, h1⟩ := hW; go_simp) H0 ?_
                simp only [Act.put, List.setIfInBounds_toArray, List.set_cons_zero, List.set_cons_succ]
                refine hr_take_w 6 (some 56) (.bool false) rfl rfl (by kernel_rfl) (by kernel_rfl) (by kernel_rfl) rfl (fun W hW => by obtain ⟨h0, h1⟩ := hW; go_simp) H0 ?_
                simp only [Act.put, List.setIfInBounds_toArray, List.set_cons_zero, List.set_cons_succ]
                refine hr_take_w 7 (some 57) (.bool false) rfl rfl (by kernel_rfl) (by kernel_rfl) (by kernel_rfl) rfl (fun W hW => by obtain ⟨h0, h1⟩ := hW; go_simp) H0 ?_
                simp only [Act.put, List.setIfInBounds_toArray, List.set_cons_zero, List.set_cons_succ]
                refine hr_take_w 8 (some 58) (.int .i64 i) rfl rfl (by kernel_rfl) (by kernel_rfl) (by kernel_rfl) rfl (fun W hW => by obtain ⟨h0, h1⟩ := hW; go_simp) H0 ?_
                simp only [Act.put, List.setIfInBounds_toArray, List.set_cons_zero, List.set_cons_succ]
                refine hr_take_w 9 (some 59) (.bool true) rfl rfl (by kernel_rfl) (by kernel_rfl) (by kernel_rfl) rfl (fun W hW => by obtain ⟨h0, h1⟩ := hW; go_simp; omega) H0 ?_
                simp only [Act.put, List.setIfInBounds_toArray, List.set_cons_zero, List.set_cons_succ]
                refine hr_take_w 10 (some 60) (.bool true) rfl rfl (by kernel_rfl) (by kernel_rfl) (by kernel_rfl) rfl (fun W hW => by obtain ⟨h0, h1⟩ := hW; go_simp) H0 ?_
                simp only [Act.put, List.setIfInBounds_toArray, List.set_cons_zero, List.set_cons_succ]
                refine hr_take_w 11 (some 61) (.slice (some ⟨b, off, none⟩) k cap1) rfl rfl (by kernel_rfl) (by kernel_rfl) (by kernel_rfl) rfl (fun W hW => by obtain ⟨h0, h1⟩ := hW; go_simp) H0 ?_
                simp only [Act.put, List.setIfInBounds_toArray, List.set_cons_zero, List.set_cons_succ]
                refine hr_take_w 12 (some 62) (.int .i64 i) rfl rfl (by kernel_rfl) (by kernel_rfl) (by kernel_rfl) rfl (fun W hW => by obtain ⟨h0, h1⟩ := hW; go_simp) H0 ?_
                simp only [Act.put, List.setIfInBounds_toArray, List.set_cons_zero, List.set_cons_succ]
                refine hr_take_w 13 (some 63) (.int .i64 j) rfl rfl (by kernel_rfl) (by kernel_rfl) (by kernel_rfl) rfl (fun W hW => by obtain ⟨h0, h1⟩ := hW; go_simp; exact HWR.out) H0 ?_
                simp only [Act.put, List.setIfInBounds_toArray, List.set_cons_zero, List.set_cons_succ]
                refine hr_take_w 14 (some 64) (.pointer (some ⟨b, off + j * 2, none⟩)) rfl rfl (by kernel_rfl) (by kernel_rfl) (by kernel_rfl) rfl (fun W hW => by obtain ⟨h0, h1⟩ := hW; go_simp) H0 ?_
                simp only [Act.put, List.setIfInBounds_toArray, List.set_cons_zero, List.set_cons_succ]
                refine hr_take_w 15 (some 65) (.pointer (some ⟨b, off + j * 2, none⟩)) rfl rfl (by kernel_rfl) (by kernel_rfl) (by kernel_rfl) rfl (fun W hW => by obtain ⟨h0, h1⟩ := hW; go_simp) H0 ?_
                simp only [Act.put, List.setIfInBounds_toArray, List.set_cons_zero, List.set_cons_succ]
                refine hr_take_w 16 (some 66) (.slice p'.k.ao p'.k.n p'.k.cap) rfl rfl (by kernel_rfl) (by kernel_rfl) (by kernel_rfl) rfl (fun W hW => by obtain ⟨h0, h1⟩ := hW; go_simp) H0 ?_
                simp only [Act.put, List.setIfInBounds_toArray, List.set_cons_zero, List.set_cons_succ]
                refine hr_take_w 17 (some 67) (.slice (some ⟨b, off, none⟩) k cap1) rfl rfl (by kernel_rfl) (by kernel_rfl) (by kernel_rfl) rfl (fun W hW => by obtain ⟨h0, h1⟩ := hW; go_simp) H0 ?_
                simp only [Act.put, List.setIfInBounds_toArray, List.set_cons_zero, List.set_cons_succ]
                refine hr_take_w 18 (some 68) (.int .i64 i) rfl rfl (by kernel_rfl) (by kernel_rfl) (by kernel_rfl) rfl (fun W hW => by obtain ⟨h0, h1⟩ := hW; go_simp) H0 ?_
                simp only [Act.put, List.setIfInBounds_toArray, List.set_cons_zero, List.set_cons_succ]
                refine hr_take_w 19 (some 69) (.pointer (some ⟨b, off + i * 2, none⟩)) rfl rfl (by kernel_rfl) (by kernel_rfl) (by kernel_rfl) rfl (fun W hW => by obtain ⟨h0, h1⟩ := hW; go_simp) H0 ?_
                simp only [Act.put, List.setIfInBounds_toArray, List.set_cons_zero, List.set_cons_succ]
                refine hr_take_w 20 (some 70) (.pointer (some ⟨b, off + i * 2, none⟩)) rfl rfl (by kernel_rfl) (by kernel_rfl) (by kernel_rfl) rfl (fun W hW => by obtain ⟨h0, h1⟩ := hW; go_simp) H0 ?_
                simp only [Act.put, List.setIfInBounds_toArray, List.set_cons_zero, List.set_cons_succ]
                refine hr_take_w 21 (some 71) (.slice q.k.ao q.k.n q.k.cap) rfl rfl (by kernel_rfl) (by kernel_rfl) (by kernel_rfl) rfl (fun W hW => by obtain ⟨h0, h1⟩ := hW; go_simp) H0 ?_
                simp only [Act.put, List.setIfInBounds_toArray, List.set_cons_zero, List.set_cons_succ]
                refine hr_call_w 22 (some 72) 20 #[.slice p'.k.ao p'.k.n p'.k.cap, .slice q.k.ao q.k.n q.k.cap] rfl rfl (by kernel_rfl) rfl (by go_simp) (fun v w' => v = .bool true ∧ Below v0.heap.size v0 w') ((CB v0 E0).mono (by
                  rintro e w' ⟨rfl, C⟩
                  exact ⟨_, rfl, rfl, C⟩)) ?_
                rintro v v1 ⟨rfl, C0⟩
                have E1 := E0.trans (C0.mono E0.size)
                have H1 := HS.out v1 E1
                refine ⟨H1, ?_⟩
                simp only [Act.put, List.setIfInBounds_toArray, List.set_cons_zero, List.set_cons_succ]
                refine hr_take_w 23 (some 73) (.bool false) rfl rfl (by kernel_rfl) (by kernel_rfl) (by kernel_rfl) rfl (fun W hW => by obtain ⟨h0, h1⟩ := hW; go_simp) H1 ?_
                simp only [Act.put, List.setIfInBounds_toArray, List.set_cons_zero, List.set_cons_succ]
                refine hr_take_w 24 (some 74) (.bool false) rfl rfl (by kernel_rfl) (by kernel_rfl) (by kernel_rfl) rfl (fun W hW => by obtain ⟨h0, h1⟩ := hW; go_simp) H1 ?_
                simp only [Act.put, List.setIfInBounds_toArray, List.set_cons_zero, List.set_cons_succ]
                refine hr_take_w 25 (some 75) (.bool false) rfl rfl (by kernel_rfl) (by kernel_rfl) (by kernel_rfl) rfl (fun W hW => by obtain ⟨h0, h1⟩ := hW; go_simp) H1 ?_
                simp only [Act.put, List.setIfInBounds_toArray, List.set_cons_zero, List.set_cons_succ]
                refine wpAnyH_done (by kernel_rfl) ?_ _
                refine NoPanic.normal ?_
                clear CB c1 d1
                go_wp2
                go_roundw
                case rel =>
                  refine ⟨i + 1, by omega, by go_num, fun y hy hy1 => ?_, hBq.trans (E1.mono hBq.size)⟩
                  by_cases hyi : y = i
                  · subst hyi
                    rw [← HQ.out]
                    refine ⟨HNE.out, fun _ => ?_⟩
                    have := HCM.out
                    rw [HPE.out] at this
                    simp only [HIJ.out]
                    exact this
                  · exact HJ.out y hy (by omega)
                case measure => simp [intOf]; omega
              · rw [decide_eq_false hcm] at CB
                have HR : Hid (rdCk xs = .inl 3) := by
                  show _ = _
                  have hk3 : kindCk (ps.map IP.it) = 3 := by
                    rcases kindCk_two (ps.map IP.it) with h | h
                    · have := ((kindCk_each.1 h).2 i (by simpa using hil)).2 (by omega)
                      simp only [List.getElem_map, HIJ.out] at this
                      rw [← HQ.out, ← HPE.out] at this
                      exact absurd this hcm
                    · exact h
                  rw [HOR2.out, hk3]
                  rfl
                clear hcm
                go_wp2_with fail
                have HS : Hid (∀ V, Below wr.heap.size wr V → V.cell? ⟨b, off + i * 2, none⟩ = some (.slice q.k.ao q.k.n q.k.cap) ∧ V.cell? ⟨b, off + j * 2, none⟩ = some (.slice p'.k.ao p'.k.n p'.k.cap)) := fun V hV => ⟨(hV.cell (World.block_lt_of_cell? _ _ c1)).trans c1, (hV.cell (World.block_lt_of_cell? _ _ d1)).trans d1⟩
                have E0 : Below wr.heap.size wr wr.drew := (Below.refl _ _).drew
                refine wp_region_noPanic ?_
                refine wp_region_held_drew (S := fun V => V.cell? ⟨b, off + i * 2, none⟩ = some (.slice q.k.ao q.k.n q.k.cap) ∧ V.cell? ⟨b, off + j * 2, none⟩ = some (.slice p'.k.ao p'.k.n p'.k.cap)) (by kernel_rfl) (HS.out _ E0) (fun H0 => ?_)
                obtain ⟨v0, hv0⟩ : ∃ v, v = wr.drew := ⟨_, rfl⟩
                rw [← hv0] at H0 E0 ⊢
                clear hv0
                refine hr_take_w 0 (some 50) (.slice (some ⟨b, off, none⟩) k cap1) rfl rfl (by kernel_rfl) (by kernel_rfl) (by kernel_rfl) rfl (fun W hW => by obtain ⟨h0, h1⟩ := hW; go_simp) H0 ?_
                simp only [Act.put, List.setIfInBounds_toArray, List.set_cons_zero, List.set_cons_succ]
                refine hr_take_w 1 (some 51) (.int .i64 i) rfl rfl (by kernel_rfl) (by kernel_rfl) (by kernel_rfl) rfl (fun W hW => by obtain ⟨h0, h1⟩ := hW; go_simp) H0 ?_
                simp only [Act.put, List.setIfInBounds_toArray, List.set_cons_zero, List.set_cons_succ]
                refine hr_take_w 2 (some 52) (.pointer (some ⟨b, off + i * 2, none⟩)) rfl rfl (by kernel_rfl) (by kernel_rfl) (by kernel_rfl) rfl (fun W hW => by obtain ⟨h0, h1⟩ := hW; go_simp) H0 ?_
                simp only [Act.put, List.setIfInBounds_toArray, List.set_cons_zero, List.set_cons_succ]
                refine hr_take_w 3 (some 53) (.pointer (some ⟨b, off + i * 2, none⟩)) rfl rfl (by kernel_rfl) (by kernel_rfl) (by kernel_rfl) rfl (fun W hW => by obtain ⟨h0, h1⟩ := hW; go_simp) H0 ?_
                simp only [Act.put, List.setIfInBounds_toArray, List.set_cons_zero, List.set_cons_succ]
                refine hr_take_w 4 (some 54) (.slice q.k.ao q.k.n q.k.cap) rfl rfl (by kernel_rfl) (by kernel_rfl) (by kernel_rfl) rfl (fun W hW => by obtain ⟨h0, h1⟩ := hW; go_simp) H0 ?_
                simp only [Act.put, List.setIfInBounds_toArray, List.set_cons_zero, List.set_cons_succ]
                refine hr_take_w 5 (some 55) (.int .i64 q.k.n) rfl rfl (by kernel_rfl) (by kernel_rfl) (by kernel_rfl) rfl (fun W hW => by obtain ⟨h0, h1⟩ := hW; go_simp) H0 ?_
                simp only [Act.put, List.setIfInBounds_toArray, List.set_cons_zero, List.set_cons_succ]
                refine hr_take_w 6 (some 56) (.bool false) rfl rfl (by kernel_rfl) (by kernel_rfl) (by kernel_rfl) rfl (fun W hW => by obtain ⟨h0, h1⟩ := hW; go_simp) H0 ?_
                simp only [Act.put, List.setIfInBounds_toArray, List.set_cons_zero, List.set_cons_succ]
                refine hr_take_w 7 (some 57) (.bool false) rfl rfl (by kernel_rfl) (by kernel_rfl) (by kernel_rfl) rfl (fun W hW => by obtain ⟨h0, h1⟩ := hW; go_simp) H0 ?_
                simp only [Act.put, List.setIfInBounds_toArray, List.set_cons_zero, List.set_cons_succ]
                refine hr_take_w 8 (some 58) (.int .i64 i) rfl rfl (by kernel_rfl) (by kernel_rfl) (by kernel_rfl) rfl (fun W hW => by obtain ⟨h0, h1⟩ := hW; go_simp) H0 ?_
                simp only [Act.put, List.setIfInBounds_toArray, List.set_cons_zero, List.set_cons_succ]
                refine hr_take_w 9 (some 59) (.bool true) rfl rfl (by kernel_rfl) (by kernel_rfl) (by kernel_rfl) rfl (fun W hW => by obtain ⟨h0, h1⟩ := hW; go_simp; omega) H0 ?_
                simp only [Act.put, List.setIfInBounds_toArray, List.set_cons_zero, List.set_cons_succ]
                refine hr_take_w 10 (some 60) (.bool true) rfl rfl (by kernel_rfl) (by kernel_rfl) (by kernel_rfl) rfl (fun W hW => by obtain ⟨h0, h1⟩ := hW; go_simp) H0 ?_
                simp only [Act.put, List.setIfInBounds_toArray, List.set_cons_zero, List.set_cons_succ]
                refine hr_take_w 11 (some 61) (.slice (some ⟨b, off, none⟩) k cap1) rfl rfl (by kernel_rfl) (by kernel_rfl) (by kernel_rfl) rfl (fun W hW => by obtain ⟨h0, h1⟩ := hW; go_simp) H0 ?_
                simp only [Act.put, List.setIfInBounds_toArray, List.set_cons_zero, List.set_cons_succ]
                refine hr_take_w 12 (some 62) (.int .i64 i) rfl rfl (by kernel_rfl) (by kernel_rfl) (by kernel_rfl) rfl (fun W hW => by obtain ⟨h0, h1⟩ := hW; go_simp) H0 ?_
                simp only [Act.put, List.setIfInBounds_toArray, List.set_cons_zero, List.set_cons_succ]
                refine hr_take_w 13 (some 63) (.int .i64 j) rfl rfl (by kernel_rfl) (by kernel_rfl) (by kernel_rfl) rfl (fun W hW => by obtain ⟨h0, h1⟩ := hW; go_simp; exact HWR.out) H0 ?_
                simp only [Act.put, List.setIfInBounds_toArray, List.set_cons_zero, List.set_cons_succ]
                refine hr_take_w 14 (some 64) (.pointer (some ⟨b, off + j * 2, none⟩)) rfl rfl (by kernel_rfl) (by kernel_rfl) (by kernel_rfl) rfl (fun W hW => by obtain ⟨h0, h1⟩ := hW; go_simp) H0 ?_
                simp only [Act.put, List.setIfInBounds_toArray, List.set_cons_zero, List.set_cons_succ]
                refine hr_take_w 15 (some 65) (.pointer (some ⟨b, off + j * 2, none⟩)) rfl rfl (by kernel_rfl) (by kernel_rfl) (by kernel_rfl) rfl (fun W hW => by obtain ⟨h0, h1⟩ := hW; go_simp) H0 ?_
                simp only [Act.put, List.setIfInBounds_toArray, List.set_cons_zero, List.set_cons_succ]
                refine hr_take_w 16 (some 66) (.slice p'.k.ao p'.k.n p'.k.cap) rfl rfl (by kernel_rfl) (by kernel_rfl) (by kernel_rfl) rfl (fun W hW => by obtain ⟨h0, h1⟩ := hW; go_simp) H0 ?_
                simp only [Act.put, List.setIfInBounds_toArray, List.set_cons_zero, List.set_cons_succ]
                refine hr_take_w 17 (some 67) (.slice (some ⟨b, off, none⟩) k cap1) rfl rfl (by kernel_rfl) (by kernel_rfl) (by kernel_rfl) rfl (fun W hW => by obtain ⟨h0, h1⟩ := hW; go_simp) H0 ?_
                simp only [Act.put, List.setIfInBounds_toArray, List.set_cons_zero, List.set_cons_succ]
                refine hr_take_w 18 (some 68) (.int .i64 i) rfl rfl (by kernel_rfl) (by kernel_rfl) (by kernel_rfl) rfl (fun W hW => by obtain ⟨h0, h1⟩ := hW; go_simp) H0 ?_
                simp only [Act.put, List.setIfInBounds_toArray, List.set_cons_zero, List.set_cons_succ]
                refine hr_take_w 19 (some 69) (.pointer (some ⟨b, off + i * 2, none⟩)) rfl rfl (by kernel_rfl) (by kernel_rfl) (by kernel_rfl) rfl (fun W hW => by obtain ⟨h0, h1⟩ := hW; go_simp) H0 ?_
                simp only [Act.put, List.setIfInBounds_toArray, List.set_cons_zero, List.set_cons_succ]
                refine hr_take_w 20 (some 70) (.pointer (some ⟨b, off + i * 2, none⟩)) rfl rfl (by kernel_rfl) (by kernel_rfl) (by kernel_rfl) rfl (fun W hW => by obtain ⟨h0, h1⟩ := hW; go_simp) H0 ?_
                simp only [Act.put, List.setIfInBounds_toArray, List.set_cons_zero, List.set_cons_succ]
                refine hr_take_w 21 (some 71) (.slice q.k.ao q.k.n q.k.cap) rfl rfl (by kernel_rfl) (by kernel_rfl) (by kernel_rfl) rfl (fun W hW => by obtain ⟨h0, h1⟩ := hW; go_simp) H0 ?_
                simp only [Act.put, List.setIfInBounds_toArray, List.set_cons_zero, List.set_cons_succ]
                refine hr_call_w 22 (some 72) 20 #[.slice p'.k.ao p'.k.n p'.k.cap, .slice q.k.ao q.k.n q.k.cap] rfl rfl (by kernel_rfl) rfl (by go_simp) (fun v w' => v = .bool false ∧ Below v0.heap.size v0 w') ((CB v0 E0).mono (by
                  rintro e w' ⟨rfl, C⟩
                  exact ⟨_, rfl, rfl, C⟩)) ?_
                rintro v v1 ⟨rfl, C0⟩
                have E1 := E0.trans (C0.mono E0.size)
                have H1 := HS.out v1 E1
                refine ⟨H1, ?_⟩
                simp only [Act.put, List.setIfInBounds_toArray, List.set_cons_zero, List.set_cons_succ]
                refine hr_take_w 23 (some 73) (.bool true) rfl rfl (by kernel_rfl) (by kernel_rfl) (by kernel_rfl) rfl (fun W hW => by obtain ⟨h0, h1⟩ := hW; go_simp) H1 ?_
                simp only [Act.put, List.setIfInBounds_toArray, List.set_cons_zero, List.set_cons_succ]
                refine hr_take_w 24 (some 74) (.bool true) rfl rfl (by kernel_rfl) (by kernel_rfl) (by kernel_rfl) rfl (fun W hW => by obtain ⟨h0, h1⟩ := hW; go_simp) H1 ?_
                simp only [Act.put, List.setIfInBounds_toArray, List.set_cons_zero, List.set_cons_succ]
                refine hr_take_w 25 (some 75) (.bool true) rfl rfl (by kernel_rfl) (by kernel_rfl) (by kernel_rfl) rfl (fun W hW => by obtain ⟨h0, h1⟩ := hW; go_simp) H1 ?_
                simp only [Act.put, List.setIfInBounds_toArray, List.set_cons_zero, List.set_cons_succ]
                refine wpAnyH_done (by kernel_rfl) ?_ _
                refine NoPanic.normal ?_
                clear CB c1 d1
                have B2 := hB.trans ((hBq.trans (E1.mono hBq.size)).mono hB.size)
                go_wp2
                go_ret2
                refine ⟨fun z hz => ?_, fun l hl => ?_, B2⟩
                · rw [HR.out] at hz
                  obtain rfl := Sum.inl.inj hz
                  exact ⟨rfl, by decide⟩
                · rw [HR.out] at hl
                  cases hl
          · have hge2 : ¬ (i : Int) < (k : Int) := by omega
            have B2 := hB.trans (hBq.mono hB.size)
            have HALL : Hid (∀ y (h : y < ps.length), ps[y].k.xs ≠ [] ∧ (0 < y → cmpL ps[y - 1].k.xs ps[y].k.xs < 0)) := fun y hy => HJ.out y hy (by omega)
            by_cases hr0 : r.1 = 0
            · have hrb : ((r.1 : Int) == 0) = true := by simp [hr0]
              have HR : Hid (rdCk xs = .inl 3) := by
                show _ = _
                have hps : ps = [] := List.eq_nil_of_length_eq_zero (by have := HZ.out; omega)
                rw [HOR2.out, hps]
                rfl
              clear hr0 hkl
              go_wp2
              go_ret2
              refine ⟨fun z hz => ?_, fun l hl => ?_, B2⟩
              · rw [HR.out] at hz
                obtain rfl := Sum.inl.inj hz
                exact ⟨rfl, by decide⟩
              · rw [HR.out] at hl
                cases hl
            · have hrb : ((r.1 : Int) == 0) = false := by simp [hr0]
              have HR : Hid (rdCk xs = .inr (ps.map IP.it)) := by
                show _ = _
                have hk0 : kindCk (ps.map IP.it) = 0 := by
                  refine kindCk_each.2 ⟨fun e => hr0 ?_, fun y hy => ?_⟩
                  · have := congrArg List.length e
                    rw [List.length_map, List.length_nil] at this
                    have := HZ.out
                    omega
                  · simp only [List.length_map] at hy
                    simp only [List.getElem_map]
                    exact HALL.out y hy
                rw [HOR2.out, if_pos hk0]
              have IL2 := HIL.out.below hBq
              clear hr0 hkl
              go_wp2
              go_ret2
              refine ⟨fun z hz => ?_, fun l hl => ?_, B2⟩
              · rw [HR.out] at hz
                cases hz
              · rw [HR.out] at hl
                obtain rfl := Sum.inr.inj hl
                exact ⟨_, _, _, ps, rfl, IL2, rfl, HLW.out⟩
      · have hdb : (d != 0) = true := by simp [hdz]
        have HOK : Hid (rdCk xs = .inl d ∧ d ≠ 0) := ⟨by rw [HOR.out, if_neg hdz], hdz⟩
        clear HOR hdz
        by_cases hlt : k < r.1
        · have hki : (k : Int) < (r.1 : Int) := by omega
          have hqz : (T.2.2 == 0) = false := by
            have : ¬ T.2.2 = 0 := fun hz => hgo ⟨by have := HK.out; omega, hz⟩
            simp [this]
          clear hgo
          go_wp2_with fail
          refine CD.mono ?_
          rintro e w3 ⟨rfl, hw⟩
          obtain rfl := hw.symm
          clear CD
          go_wp2
          go_ret2
          refine ⟨fun q hq => ?_, fun l hl => ?_, hB⟩
          · rw [HOK.out.1] at hq
            obtain rfl := Sum.inl.inj hq
            exact ⟨rfl, HOK.out.2⟩
          · rw [HOK.out.1] at hl
            cases hl
        · have hki : ¬ (k : Int) < (r.1 : Int) := by omega
          clear hgo
          go_wp2_with fail
          refine CD.mono ?_
          rintro e w3 ⟨rfl, hw⟩
          obtain rfl := hw.symm
          clear CD
          go_wp2
          go_ret2
          refine ⟨fun q hq => ?_, fun l hl => ?_, hB⟩
          · rw [HOK.out.1] at hq
            obtain rfl := Sum.inl.inj hq
            exact ⟨rfl, HOK.out.2⟩
          · rw [HOK.out.1] at hl
            cases hl
theorem rckread_any (w : World) (ao : Option Addr) (n cap : Nat) (xs : List Int) (h : Sl w ao n cap xs) (hn : n ≤ 1000000) :
    Calls Tryz.prog 19 #[.slice ao n cap] w (RCkPost w w.heap.size (rdCk xs)) := rckread_low w w.heap.size ao n cap xs h h.lt (Nat.le_refl _) hn
end Go.Proofs.YtkmkmekhodcioaaGreatDoor

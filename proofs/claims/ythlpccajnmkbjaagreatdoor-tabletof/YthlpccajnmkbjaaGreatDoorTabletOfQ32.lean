/-
  Texts in one: PRootN, PHash, TbRoot, RbRoot.
-/
import Derived.Test.YthlpccajnmkbjaaGreatDoorTabletOfQFL
import Derived.Test.YthlpccajnmkbjaaGreatDoorTabletOfQ30
import Derived.Test.YthlpccajnmkbjaaGreatDoorTabletOfQ6
import Derived.Test.YthlpccajnmkbjaaGreatDoorTabletOfQ16
import Derived.Test.YthlpccajnmkbjaaGreatDoorTabletOfQ29
import Derived.Test.YthlpccajnmkbjaaGreatDoorTabletOfQ9
import Derived.BigQuiet
import Derived.Test.YthlpccajnmkbjaaGreatDoorTabletOfQ8
import Derived.Test.YthlpccajnmkbjaaGreatDoorTabletOfQ3
import Derived.Test.YthlpccajnmkbjaaGreatDoorTabletOfQ22
import Derived.Test.YthlpccajnmkbjaaGreatDoorTabletOfQ18
import Derived.Test.YthlpccajnmkbjaaGreatDoorTabletOfQ27
import Derived.Test.YthlpccajnmkbjaaGreatDoorTabletOfQ31
import Derived.Test.YthlpccajnmkbjaaGreatDoorTabletOfQ26
namespace Go.Proofs.YthlpccajnmkbjaaGreatDoor
open Go.RowKit
def emptyL : List Int := [101, 109, 112, 116, 121]
theorem emptyL_byte : Byt emptyL := by
  intro x hx
  simp [emptyL] at hx
  omega
set_option maxHeartbeats 1000000 in
set_option maxRecDepth 100000 in
theorem hashNil_any (w : World) (m : Value) (hT : Tabs w) :
    Calls Tryz.prog 90 #[.pointer none, m] w fun e w' => ∃ v, e = .returned v ∧ w'.ownsRow w.heap.size 5 1 v 32 (bv (sumL emptyL)) ∧ Below w.heap.size w w' := by
  have h2 := hT.two
  have B0 : Below w.heap.size w (w.alloc (.cells (bv emptyL).toArray 5 (5, 6))) := (Below.refl _ w).alloc (Nat.le_refl _) _
  have S0 := Sl.const w emptyL (5, 6) emptyL_byte (by simp [emptyL, maxLen])
  have kc0 := Lib.run_convert_bytes_const (P := Tryz.prog) w 40 5 #[.int .u8 101, .int .u8 109, .int .u8 112, .int .u8 116, .int .u8 121] 5 5 Tryz.underlying40 Tryz.underlying5
  have CS := sum_any _ _ 5 5 emptyL (hT.below B0 h2) S0
  go_enter Tryz.func90, Tryz.ntmps90
  go_wp2_with fail
  refine CS.mono ?_
  rintro e w1 ⟨v, rfl, o, C⟩
  go_wp2
  go_ret
  exact ⟨_, rfl, own_base o B0.size, B0.trans (C.mono B0.size)⟩
open Go.RowKit
theorem nodeInfo : (Tryz.prog.info? 151).map (fun i => i.size) = some 4 := by kernel_rfl
theorem zero_b (w : World) : (zeroValue 40).run Tryz.prog w = .ok (.slice none 0 0) w := by
  obtain ⟨i0, hi, hz0, hz1, hz2⟩ := info_parts kinfo
  simp [zeroValue, typeInfo, hi, hz0]
def foundV (b : Nat) (F : List (Nat × Value)) : Value := ((findB b F 0).map Prod.snd).getD (.slice none 0 0)
theorem look_two {w : World} {m : Nat} {F : List (Nat × Value)} (h : PM w m F) (b : Nat) (hb : Ordi w b) :
    (Instr.lookup 129 (.map (some m)) (.pointer (some ⟨b, 0, none⟩)) true).run Tryz.prog w = .ok (.tuple #[foundV b F, .bool (findB b F 0).isSome]) w := by
  have hI := nodeInfo
  cases hi : Tryz.prog.info? 151 with
  | none => rw [hi] at hI; simp at hI
  | some j =>
    rw [hi] at hI
    have := h.look (P := Tryz.prog) Tryz.underlying129 Tryz.underlying92 hi (by simp at hI; omega) (zero_b w) b hb true
    simpa [foundV] using this
theorem look_one {w : World} {m : Nat} {F : List (Nat × Value)} (h : PM w m F) (b : Nat) (hb : Ordi w b) :
    (Instr.lookup 129 (.map (some m)) (.pointer (some ⟨b, 0, none⟩)) false).run Tryz.prog w = .ok (foundV b F) w := by
  have hI := nodeInfo
  cases hi : Tryz.prog.info? 151 with
  | none => rw [hi] at hI; simp at hI
  | some j =>
    rw [hi] at hI
    have := h.look (P := Tryz.prog) Tryz.underlying129 Tryz.underlying92 hi (by simp at hI; omega) (zero_b w) b hb false
    simpa [foundV] using this
theorem put_new7 {w : World} {m : Nat} {F : List (Nat × Value)} (h : PM w m F) (b : Nat) (hb : Ordi w b) (v : Value) (hN : ∀ p ∈ F, p.1 ≠ b) :
    ∃ w', (Instr.mapUpdate 129 (.map (some m)) (.pointer (some ⟨b, 0, none⟩)) v).run Tryz.prog w = .ok () w' ∧ PM w' m (F ++ [(b, v)]) ∧ w.grownBy w' (some m) := by
  have hI := nodeInfo
  cases hi : Tryz.prog.info? 151 with
  | none => rw [hi] at hI; simp at hI
  | some j =>
    rw [hi] at hI
    exact h.new (P := Tryz.prog) Tryz.underlying129 Tryz.underlying92 hi (by simp at hI; omega) b hb v hN
theorem put_old7 {w : World} {m : Nat} {F : List (Nat × Value)} (h : PM w m F) (b : Nat) (hb : Ordi w b) (v : Value) (k : Nat) (u : Value) (hf : findB b F 0 = some (k, u)) (hkl : k < F.length) (hkF : F[k].1 = b) :
    ∃ w', (Instr.mapUpdate 129 (.map (some m)) (.pointer (some ⟨b, 0, none⟩)) v).run Tryz.prog w = .ok () w' ∧ PM w' m (F.set k (b, v)) ∧ w.grownBy w' (some m) := by
  have hI := nodeInfo
  cases hi : Tryz.prog.info? 151 with
  | none => rw [hi] at hI; simp at hI
  | some j =>
    rw [hi] at hI
    exact h.old (P := Tryz.prog) Tryz.underlying129 Tryz.underlying92 hi (by simp at hI; omega) b hb v k u hf hkl hkF
theorem found_at {b k : Nat} {F : List (Nat × Value)} (hn : (F.map Prod.fst).Nodup) (hk : k < F.length) {v : Value} (hF : F[k] = (b, v)) : foundV b F = v := by
  unfold foundV
  rcases findB_at b F 0 with ⟨-, h⟩ | ⟨k', v', hk', e, h⟩
  · exact absurd (by rw [hF]) (h F[k] (List.getElem_mem hk))
  · have hkk : k' = k := by
      have h1 : (F.map Prod.fst)[k']'(by simpa using hk') = (F.map Prod.fst)[k]'(by simpa using hk) := by simp [h, hF]
      exact (List.getElem_inj (h₀ := by simpa using hk') (h₁ := by simpa using hk) hn).1 h1
    subst hkk
    rw [e]
    rw [hF] at h
    simp only [Option.map_some, Option.getD_some]
    exact (Prod.mk.inj h).2.symm
theorem HI.begin {w0 W W' : World} {m b : Nat} {F : List (Nat × Value)} {P : List (Nat × List It)} {l : List It} {v : Value} (h : HI w0 W m F P) (hN : ∀ p ∈ F, p.1 ≠ b) (ht : T w0 (ptrB b) l) (pm : PM W' m (F ++ [(b, v)])) (hg : W.grownBy W' (some m)) : HI w0 W' m (F ++ [(b, v)]) ((b, l) :: P) := by
  have kc := KC.grown h.pm hg
  refine ⟨grown_trans h.g hg, h.m0, pm, ?_, fun p hp => ?_, fun q hq => ?_⟩
  · rw [List.map_append, List.nodup_append]
    refine ⟨h.nd, by simp, fun x hx y hy e => ?_⟩
    obtain ⟨p, hp, rfl⟩ := List.mem_map.1 hx
    have hy : y = b := by simpa using hy
    exact hN p hp (e.trans hy)
  · rcases List.mem_append.1 hp with hp | hp
    · rcases h.ent p hp with ⟨q, hq, e⟩ | ⟨l', ao, cap, h1, h2, h3⟩
      · exact .inl ⟨q, List.mem_cons_of_mem _ hq, e⟩
      · exact .inr ⟨l', ao, cap, h1, h2, h3.kc kc⟩
    · rw [List.mem_singleton.1 hp]
      exact .inl ⟨(b, l), List.mem_cons_self .., rfl⟩
  · rcases List.mem_cons.1 hq with rfl | hq
    · exact ht
    · exact h.prg q hq
theorem HI.finish {w0 W W' : World} {m b k : Nat} {F : List (Nat × Value)} {P : List (Nat × List It)} {l : List It} {ao : Option Addr} {cap : Nat} (h : HI w0 W m F ((b, l) :: P)) (hk : k < F.length) (hF : F[k].1 = b) (hs : SlT W ⟨ao, 32, cap, hashI l⟩) (pm : PM W' m (F.set k (b, .slice ao 32 cap))) (hg : W.grownBy W' (some m)) : HI w0 W' m (F.set k (b, .slice ao 32 cap)) P := by
  have kc := KC.grown h.pm hg
  have ht := h.prg (b, l) (List.mem_cons_self ..)
  have hmap : (F.set k (b, Value.slice ao 32 cap)).map Prod.fst = F.map Prod.fst := by
    rw [List.map_set]
    refine List.ext_getElem (by simp) fun i h1 h2 => ?_
    rw [List.getElem_set]
    split
    · rename_i e
      subst e
      simp [hF]
    · rfl
  refine ⟨grown_trans h.g hg, h.m0, pm, by rw [hmap]; exact h.nd, fun p hp => ?_, fun q hq => h.prg q (List.mem_cons_of_mem _ hq)⟩
  obtain ⟨i, hi, rfl⟩ := List.mem_iff_getElem.1 hp
  have hi' : i < F.length := by simpa using hi
  rw [List.getElem_set]
  by_cases e : k = i
  · rw [if_pos e]
    exact .inr ⟨l, ao, cap, ht, rfl, hs.kc kc⟩
  · rw [if_neg e]
    rcases h.ent F[i] (List.getElem_mem hi') with ⟨q, hq, eq⟩ | ⟨l', ao', cap', h1, h2, h3⟩
    · rcases List.mem_cons.1 hq with rfl | hq
      · exfalso
        have h1 : (F.map Prod.fst)[k]'(by simpa using hk) = (F.map Prod.fst)[i]'(by simpa using hi') := by simp [hF, ← eq]
        exact e ((List.getElem_inj (h₀ := by simpa using hk) (h₁ := by simpa using hi') h.nd).1 h1)
      · exact .inl ⟨q, hq, eq⟩
    · exact .inr ⟨l', ao', cap', h1, h2, h3.kc kc⟩
set_option maxHeartbeats 8000000 in
set_option maxRecDepth 100000 in
theorem hash_nil (n : Nat) (w0 W : World) (m : Nat) (l : List It) (F : List (Nat × Value)) (P : List (Nat × List It)) (hl : l = []) (hI : HI w0 W m F P) (hT : Tabs w0) (_ : n = n) : Calls Tryz.prog 90 #[.pointer none, .map (some m)] W (HashPost w0 W m F P l) := by
  subst hl
  refine (hashNil_any W (.map (some m)) (hT.kc hI.kc)).mono ?_
  rintro e W' ⟨v, rfl, own, B⟩
  obtain ⟨ao, cap, rfl, S⟩ := SlT.own own (sumL_byte _)
  exact ⟨ao, cap, F, rfl, S, hI.below B, fun p hp => ⟨p, hp, rfl⟩, grown_below B⟩
set_option maxHeartbeats 8000000 in
set_option maxRecDepth 100000 in
theorem hash_node (n : Nat) (IH : HashOk n) (w0 W : World) (m : Nat) (d : Nd) (l : List It) (segs : List (List It)) (xs : List It) (F : List (Nat × Value)) (P : List (Nat × List It)) (hN : Nod w0 l d segs xs) (hln : l.length ≤ n + 1) (hI : HI w0 W m F P) (hP : ∀ q ∈ P, l.length < q.2.length) (hT : Tabs w0) (hz : Szs l) :
    Calls Tryz.prog 90 #[.pointer (some ⟨d.b, 0, none⟩), .map (some m)] W (HashPost w0 W m F P l) := by
  have ht : T w0 (ptrB d.b) l := T.of hN
  have hO : Ordi w0 d.b := hN.ok.uf
  have L1 := look_two hI.pm d.b (hO.kc hI.kc)
  have HP : Hid (∀ q ∈ P, l.length < q.2.length) := hP
  rcases findB_at d.b F 0 with ⟨e, hno⟩ | ⟨k, u, hk, e, hF⟩
  · rw [e] at L1
    have hv0 : foundV d.b F = .slice none 0 0 := by unfold foundV; rw [e]; rfl
    rw [hv0] at L1
    have CS := sumT W none 0 0 [] (hT.kc hI.kc) (Sl.nothing W)
    have HNO : Hid (∀ p ∈ F, p.1 ≠ d.b) := hno
    have HI0 : Hid (HI w0 W m F P) := hI
    have HT0 : Hid (T w0 (ptrB d.b) l) := ht
    have HN : Hid (Nod w0 l d segs xs) := hN
    have HTb : Hid (Tabs w0) := hT
    have HZ : Hid (Szs l) := hz
    have HO : Hid (Ordi w0 d.b) := hO
    have HIH : Hid (HashOk n) := IH
    have nk := hN.nk
    have nv := hN.nv
    have nc := hN.nc
    have hx1 : xs.length ≤ 10000 := by have := hN.many; have := hz.1; omega
    have HL : Hid (d.ks.length = xs.length ∧ d.vs.length = xs.length ∧ d.cs.length = xs.length + 1) := ⟨nk, nv, nc⟩
    clear hv0 e hno hI ht hN hT hz hO IH nk nv nc hP
    go_enter Tryz.func90, Tryz.ntmps90
    go_wp2_with fail
    refine CS.mono ?_
    rintro e W1 ⟨s0, sc0, rfl, S0, C1⟩
    have I1 := HI0.out.below C1
    obtain ⟨W2, hput, pm2, g2⟩ := put_new7 I1.pm d.b (HO.out.kc I1.kc) (.slice s0 32 sc0) HNO.out
    have I2 := I1.begin HNO.out HT0.out pm2 g2
    have hG2 := grown_trans (grown_below C1) g2
    have K2 := I2.kc
    have c1 := K2.cell HN.out.ok.c1
    have c2 := K2.cell HN.out.ok.c2
    have c3 := K2.cell HN.out.ok.c3
    rw [HL.out.1] at c1
    rw [HL.out.2.1] at c2
    rw [HL.out.2.2] at c3
    obtain ⟨x, hx⟩ : ∃ x, x = xs.length := ⟨_, rfl⟩
    rw [← hx] at c1 c2 c3 hx1
    have hwr : IntKind.i64.wrap ((x : Int) + 1) = (x : Int) + 1 := by
      have := wrap_nat (k := x + 1) (by omega)
      simpa using this
    have hxx : (((x + 1 : Nat) : Int) == (x : Int) + 1) = true := by simp
    clear CS L1 I1 pm2 g2 K2 S0 C1 hx
    go_wp2_with fail
    go_quiet (fail)
    have D2 := below_drewN W2 nq W2.heap.size
    obtain ⟨V, hV⟩ : ∃ V, V = W2.drewN nq := ⟨_, rfl⟩
    rw [← hV] at D2 ⊢
    have IV := I2.below D2
    have hGV := grown_keep hG2 D2 hG2.size
    have CF := formOf_any n HIH.out w0 V m d l segs xs _ _ HN.out hln IV (fun q hq => by
      rcases List.mem_cons.1 hq with rfl | hq
      · exact Nat.le_refl _
      · exact Nat.le_of_lt (HP.out q hq)) HTb.out HZ.out
    unfold Nd.ptr at CF
    clear hV hput c1 c2 c3 hwr hxx D2 I2 IV hG2
    go_wp2_with fail
    refine CF.mono ?_
    rintro e W3 ⟨fo, fn, fc, F3, rfl, S3, I3, kf3, G3⟩
    have hG3 := grown_trans hGV G3
    have CS := sumT W3 fo fn fc _ (HTb.out.kc I3.kc) S3.1
    rw [← hashI_node HN.out.shp] at CS
    have HKF : Hid (∀ p ∈ F ++ [(d.b, Value.slice s0 32 sc0)], ∃ q ∈ F3, q.1 = p.1) := kf3
    have HI3 : Hid (HI w0 W3 m F3 ((d.b, l) :: P)) := I3
    clear CF S3 I3 kf3 G3 hGV
    go_wp2_with fail
    refine CS.mono ?_
    rintro e W4 ⟨s1, sc1, rfl, S4, C4⟩
    have I4 := HI3.out.below C4
    have hG4 := grown_keep hG3 C4 hG3.size
    obtain ⟨k, u, hk, hf, hF⟩ : ∃ (k : Nat) (u : Value) (h : k < F3.length), findB d.b F3 0 = some (k, u) ∧ F3[k] = (d.b, u) := by
      rcases findB_at d.b F3 0 with ⟨-, hno⟩ | ⟨k, u, hk, e, hF⟩
      · obtain ⟨q, hq, e⟩ := HKF.out (d.b, Value.slice s0 32 sc0) (by simp)
        exact absurd e (hno q hq)
      · exact ⟨k, u, hk, by rw [e, Nat.zero_add], hF⟩
    have hF1 : F3[k].1 = d.b := by rw [hF]
    obtain ⟨W5, hput, pm5, g5⟩ := put_old7 I4.pm d.b (HO.out.kc I4.kc) (.slice s1 32 sc1) k u hf hk hF1
    have I5 := I4.finish hk hF1 S4 pm5 g5
    have S5 := S4.kc (KC.grown I4.pm g5)
    have hG5 := grown_trans hG4 g5
    have L5 := look_one I5.pm d.b (HO.out.kc I5.kc)
    rw [found_at I5.nd (k := k) (b := d.b) (v := .slice s1 32 sc1) (by simpa using hk) (by simp)] at L5
    have HKF5 : Hid (∀ p ∈ F, ∃ q ∈ F3.set k (d.b, Value.slice s1 32 sc1), q.1 = p.1) := fun p hp => by
      obtain ⟨q, hq, e⟩ := HKF.out p (List.mem_append_left _ hp)
      obtain ⟨i, hi, rfl⟩ := List.mem_iff_getElem.1 hq
      refine ⟨(F3.set k (d.b, Value.slice s1 32 sc1))[i]'(by simpa using hi), List.getElem_mem _, ?_⟩
      rw [List.getElem_set]
      split
      · rename_i ek
        subst ek
        rw [← e, hF1]
      · exact e
    have HI5 : Hid (HI w0 W5 m (F3.set k (d.b, Value.slice s1 32 sc1)) P) := I5
    clear CS S4 C4 I4 hf hF hF1 pm5 g5 I5 hG4 hG3
    go_wp2
    go_ret
    exact ⟨s1, sc1, _, rfl, S5, HI5.out, HKF5.out, hG5⟩
  · have hmem : (d.b, u) ∈ F := by rw [← hF]; exact List.getElem_mem hk
    have hv : foundV d.b F = u := found_at hI.nd hk hF
    rw [hv, e] at L1
    rcases hI.ent (d.b, u) hmem with ⟨q, hq, eq⟩ | ⟨l', ao, cap, h1, h2, h3⟩
    · exfalso
      have h4 := hI.prg q hq
      rw [eq] at h4
      have h5 := T.inj l.length (ptrB d.b) l q.2 (Nat.le_refl _) ht h4
      have h6 := hP q hq
      rw [← h5] at h6
      omega
    · have h5 := T.inj l.length (ptrB d.b) l l' (Nat.le_refl _) ht h1
      subst h5
      have h2 : u = .slice ao 32 cap := h2
      subst h2
      have HI0 : Hid (HI w0 W m F P) := hI
      clear hmem hv e hF hI h1 ht hO hN hT hz hP IH
      go_enter Tryz.func90, Tryz.ntmps90
      go_wp2
      go_ret
      exact ⟨ao, cap, F, rfl, h3, HI0.out, fun p hp => ⟨p, hp, rfl⟩, World.grownBy.refl _ _⟩
theorem hash_fuel : ∀ n, HashOk n := by
  intro n
  induction n with
  | zero =>
    intro w0 W m v l F P hl ht hI _ hT _
    obtain rfl : l = [] := List.eq_nil_of_length_eq_zero (by omega)
    rcases ht.is with ⟨-, rfl⟩ | ⟨d, segs, xs, -, hN⟩
    · exact hash_nil 0 w0 W m [] F P rfl hI hT rfl
    · have h1 := hN.shp.pos
      have h2 := hN.many
      rw [List.length_nil] at h2
      omega
  | succ n ih =>
    intro w0 W m v l F P hl ht hI hP hT hz
    rcases ht.is with ⟨e, rfl⟩ | ⟨d, segs, xs, rfl, hN⟩
    · exact hash_nil 0 w0 W m l F P e hI hT rfl
    · exact hash_node n ih w0 W m d l segs xs F P hN hl hI hP hT hz
def RootPost (w : World) (l : List It) (e : Ending) (w' : World) : Prop := ∃ ao cap, e = .returned (.slice ao 32 cap) ∧ SlT w' ⟨ao, 32, cap, hashI l⟩ ∧ Below w.heap.size w w'
set_option maxHeartbeats 1000000 in
set_option maxRecDepth 100000 in
theorem thash_any (w : World) (v : Value) (l : List It) (h : T w v l) (hT : Tabs w) (hz : Szs l) : Calls Tryz.prog 53 #[v] w (RootPost w l) := by
  have h2 := hT.two
  have hmm := @run_makeMap Tryz.prog
  have B1 : Below w.heap.size w (w.alloc (.map #[] 0)) := (Below.refl _ w).alloc (Nat.le_refl _) _
  have pm : PM (w.alloc (.map #[] 0)) w.heap.size [] := ⟨#[], 0, heap_alloc_new w _, rfl, fun i hi => by simp at hi, fun _ h => by simp at h⟩
  have CH := hash_fuel l.length (w.alloc (.map #[] 0)) (w.alloc (.map #[] 0)) w.heap.size v l [] [] (Nat.le_refl _) (h.below B1) ⟨World.grownBy.refl _ _, ⟨_, pm⟩, pm, by simp, fun _ h => by simp at h, fun _ h => by simp at h⟩ (fun _ h => by simp at h) (hT.below B1 h2) hz
  obtain ⟨po, rfl⟩ := h.ptr
  clear pm h
  go_enter Tryz.func53, Tryz.ntmps53
  go_wp2_with fail
  refine CH.mono ?_
  rintro e w2 ⟨ao, cap, F', rfl, S, -, -, G⟩
  have B2 : Below w.heap.size w w2 := B1.trans (below_grown G B1.size (Nat.le_refl _))
  go_wp2
  go_ret
  exact ⟨ao, cap, rfl, S, B2⟩
set_option maxHeartbeats 1000000 in
set_option maxRecDepth 100000 in
theorem root_any (w : World) (v : Value) (l : List It) (h : TT w v l) (hT : Tabs w) (hz : Szs l) : Calls Tryz.prog 23 #[v] w (RootPost w l) := by
  have CS := shared_at w w v l h (Below.refl _ _)
  obtain ⟨po, rfl⟩ := h.ptr
  go_enter Tryz.func23, Tryz.ntmps23
  go_wp2_with fail
  refine CS.mono ?_
  rintro e w1 ⟨q, rfl, hq, hw⟩
  obtain rfl := hw.symm
  have CH := thash_any w (.pointer q) l hq hT hz
  clear CS
  go_wp2_with fail
  refine CH.mono ?_
  rintro e w2 ⟨ao, cap, rfl, S, B⟩
  go_wp2
  go_ret
  exact ⟨ao, cap, rfl, S, B⟩
open Go.RowKit
def wdTab : ByteArray := { data := #[116, 97, 98, 108, 101, 116] }
def rootT (f t : ByteArray) (cs : List CV) : List Int := sumL (formL (sb wdTab) [sb f, sb t, hashI (cs.map itm)])
theorem CGood.szs {cs : List CV} (h : CGood cs) (hn : cs.length ≤ 1000) : Szs (cs.map itm) := by
  refine ⟨by rw [List.length_map]; omega, fun x hx => ?_⟩
  obtain ⟨c, hc, rfl⟩ := List.mem_map.1 hx
  have h1 := keyL_le (h c hc).right
  have h2 := itV_len c
  have h3 := (h c hc).val
  exact ⟨Nat.le_trans h1 (by omega), by show (itV c).length ≤ 1000000; omega⟩
set_option maxHeartbeats 4000000 in
set_option maxRecDepth 100000 in
theorem troot_any (w : World) (p : Nat) (f t : ByteArray) (cs : List CV) (hTb : Tabs w) (hT : TB w p f t cs) (hg : CGood cs) (hn : cs.length ≤ 1000) (hf : f.size ≤ 32) (ht : t.size ≤ 32) :
    Calls Tryz.prog 20 #[.pointer (some ⟨p, 0, none⟩)] w fun e w' => ∃ ao cap, e = .returned (.slice ao 32 cap) ∧ Sl w' ao 32 cap (rootT f t cs) ∧ Below w.heap.size w w' := by
  have t2 := hTb.two
  obtain ⟨u, A0, T0⟩ := hT
  have c0 : w.cell? ⟨p, 0, none⟩ = some (.string f) := Arr.cell A0 0
  have c1 : w.cell? ⟨p, 1, none⟩ = some (.string t) := Arr.cell A0 1
  have c2 : w.cell? ⟨p, 2, none⟩ = some (.pointer u) := Arr.cell A0 2
  have CR : Hid (∀ V, Below w.heap.size w V → Calls Tryz.prog 23 #[.pointer u] V fun e w' => ∃ ro rc, e = .returned (.slice ro 32 rc) ∧ Sl w' ro 32 rc (hashI (cs.map itm)) ∧ Below V.heap.size V w') := fun V hV => by
    refine (root_any V (.pointer u) (cs.map itm) (T0.below hV) (hTb.below hV t2) (hg.szs hn)).mono ?_
    rintro e w' ⟨ao, cap, rfl, S, B⟩
    exact ⟨ao, cap, rfl, S.1, B⟩
  have CO : Hid (∀ V, Below w.heap.size w V → ∀ (a : Option Addr) (g1 k1 g2 k2 : Nat) (ro : Option Addr) (rc : Nat), PL V a 3 3 [⟨some ⟨g1, 0, none⟩, f.size, k1, sb f⟩, ⟨some ⟨g2, 0, none⟩, t.size, k2, sb t⟩, ⟨ro, 32, rc, hashI (cs.map itm)⟩] → Calls Tryz.prog 51 #[.string { data := #[116, 97, 98, 108, 101, 116] }, .slice a 3 3] V fun e w' => ∃ so sc, e = .returned (.slice so 32 sc) ∧ Sl w' so 32 sc (rootT f t cs) ∧ Below V.heap.size V w') := fun V hV a g1 k1 g2 k2 ro rc P3 => by
    refine (of_any V wdTab a 3 3 _ P3 (hTb.below hV t2) (by decide) (by omega) (fun q hq => by
      simp only [List.mem_cons, List.not_mem_nil, or_false] at hq
      rcases hq with rfl | rfl | rfl <;> simp only <;> omega)).mono ?_
    rintro e w' ⟨v, rfl, own, B⟩
    obtain ⟨so, sc, rfl, S, -⟩ := Sl.own own (sumL_byte _)
    exact ⟨so, sc, rfl, S, B⟩
  clear A0 T0 hg hTb
  go_enter Tryz.func20, Tryz.ntmps20
  go_wp2
  have zHS : Hid (∀ V, Below w.heap.size w V → V.cell? ⟨p, 0, none⟩ = some (.string f) ∧ V.cell? ⟨p, 1, none⟩ = some (.string t) ∧ V.cell? ⟨p, 2, none⟩ = some (.pointer u)) := fun V hV => ⟨(hV.cell (World.block_lt_of_cell? _ _ c0)).trans c0, (hV.cell (World.block_lt_of_cell? _ _ c1)).trans c1, (hV.cell (World.block_lt_of_cell? _ _ c2)).trans c2⟩
  have zE0 : Below w.heap.size w w.drew := (Below.refl _ _).drew
  refine wp_region_noPanic ?_
  refine wp_region_held_drew (S := fun V => V.cell? ⟨p, 0, none⟩ = some (.string f) ∧ V.cell? ⟨p, 1, none⟩ = some (.string t) ∧ V.cell? ⟨p, 2, none⟩ = some (.pointer u)) (by kernel_rfl) (zHS.out _ zE0) (fun zH0 => ?_)
  obtain ⟨zv0, hv0⟩ : ∃ v, v = w.drew := ⟨_, rfl⟩
  rw [← hv0] at zH0 zE0 ⊢
  clear hv0
  refine hr_take_w 0 (some 5) (.pointer (some ⟨p, 0, none⟩)) rfl rfl (by kernel_rfl) (by kernel_rfl) (by kernel_rfl) rfl (fun W hW => by obtain ⟨h0, h1, h2⟩ := hW; go_simp) zH0 ?_
  simp only [FL]
  refine hr_take_w 1 (some 6) (.pointer (some ⟨p, 0, none⟩)) rfl rfl (by kernel_rfl) (by kernel_rfl) (by kernel_rfl) rfl (fun W hW => by obtain ⟨h0, h1, h2⟩ := hW; go_simp) zH0 ?_
  simp only [FL]
  refine hr_take_w 2 (some 7) (.pointer (some ⟨p, 0, none⟩)) rfl rfl (by kernel_rfl) (by kernel_rfl) (by kernel_rfl) rfl (fun W hW => by obtain ⟨h0, h1, h2⟩ := hW; go_simp) zH0 ?_
  simp only [FL]
  refine hr_take_w 3 (some 8) (.string f) rfl rfl (by kernel_rfl) (by kernel_rfl) (by kernel_rfl) rfl (fun W hW => by obtain ⟨h0, h1, h2⟩ := hW; go_simp) zH0 ?_
  simp only [FL]
  refine hr_take_w 5 (some 10) (.pointer (some ⟨p, 0, none⟩)) rfl rfl (by kernel_rfl) (by kernel_rfl) (by kernel_rfl) rfl (fun W hW => by obtain ⟨h0, h1, h2⟩ := hW; go_simp) zH0 ?_
  simp only [FL]
  refine hr_take_w 6 (some 11) (.pointer (some ⟨p, 0, none⟩)) rfl rfl (by kernel_rfl) (by kernel_rfl) (by kernel_rfl) rfl (fun W hW => by obtain ⟨h0, h1, h2⟩ := hW; go_simp) zH0 ?_
  simp only [FL]
  refine hr_take_w 7 (some 12) (.pointer (some ⟨p, 1, none⟩)) rfl rfl (by kernel_rfl) (by kernel_rfl) (by kernel_rfl) rfl (fun W hW => by obtain ⟨h0, h1, h2⟩ := hW; go_simp) zH0 ?_
  simp only [FL]
  refine hr_take_w 8 (some 13) (.string t) rfl rfl (by kernel_rfl) (by kernel_rfl) (by kernel_rfl) rfl (fun W hW => by obtain ⟨h0, h1, h2⟩ := hW; go_simp) zH0 ?_
  simp only [FL]
  refine hr_take_w 10 (some 15) (.pointer (some ⟨p, 0, none⟩)) rfl rfl (by kernel_rfl) (by kernel_rfl) (by kernel_rfl) rfl (fun W hW => by obtain ⟨h0, h1, h2⟩ := hW; go_simp) zH0 ?_
  simp only [FL]
  refine hr_take_w 11 (some 16) (.pointer (some ⟨p, 0, none⟩)) rfl rfl (by kernel_rfl) (by kernel_rfl) (by kernel_rfl) rfl (fun W hW => by obtain ⟨h0, h1, h2⟩ := hW; go_simp) zH0 ?_
  simp only [FL]
  refine hr_take_w 12 (some 17) (.pointer (some ⟨p, 2, none⟩)) rfl rfl (by kernel_rfl) (by kernel_rfl) (by kernel_rfl) rfl (fun W hW => by obtain ⟨h0, h1, h2⟩ := hW; go_simp) zH0 ?_
  simp only [FL]
  refine hr_take_w 13 (some 18) (.pointer u) rfl rfl (by kernel_rfl) (by kernel_rfl) (by kernel_rfl) rfl (fun W hW => by obtain ⟨h0, h1, h2⟩ := hW; go_simp) zH0 ?_
  simp only [FL]
  refine wpAnyH_effto 3 (fun zi zv zw => (zi = 4 → ∃ g c, zv = .slice (some ⟨g, 0, none⟩) f.size c ∧ Sl zw (some ⟨g, 0, none⟩) f.size c (sb f)) ∧ (zi = 9 → ∃ g c, zv = .slice (some ⟨g, 0, none⟩) t.size c ∧ Sl zw (some ⟨g, 0, none⟩) t.size c (sb t)) ∧ (zi = 14 → ∃ ro rc, zv = .slice ro 32 rc ∧ Sl zw ro 32 rc (hashI (cs.map itm)))) [(4, 9), (9, 14), (14, 19)] 22 (by kernel_rfl) (by decide) (by decide) rfl ?_ (fun W hW => zHS.out W (zE0.trans (hW.mono zE0.size))) ?_ ?_
  · intro zi v w w' h hb
    refine ⟨fun e => ?_, fun e => ?_, fun e => ?_⟩
    · have h := h.1 e
      obtain ⟨g, c, h1, h2⟩ := h
      exact ⟨g, c, h1, h2.below hb⟩
    · have h := h.2.1 e
      obtain ⟨g, c, h1, h2⟩ := h
      exact ⟨g, c, h1, h2.below hb⟩
    · have h := h.2.2 e
      obtain ⟨ro, rc, h1, h2⟩ := h
      exact ⟨ro, rc, h1, h2.below hb⟩
  · intro zp zhi o a w ho hs hb hdep
    have zEB := zE0.trans (hb.mono zE0.size)
    simp only [List.mem_cons, List.not_mem_nil, or_false] at zhi
    rcases zhi with rfl | rfl | rfl
    · obtain rfl : _ = o := Option.some.inj (show some _ = some o from ho)
      have t8 : a.tmps[8]? = some (.string f) := hs.get 8 (by kernel_rfl) rfl
      have hr := Lib.run_convert_string_bytes (P := Tryz.prog) w 9 40 5 f Tryz.underlying9 Tryz.underlying40 Tryz.underlying5
      exact .inl ⟨_, _, by go_simp, ⟨fun _ => ⟨_, _, rfl, bytesWorld_sl w f (by omega)⟩, fun e => absurd e (by decide), fun e => absurd e (by decide)⟩, bytesWorld_below w f⟩
    · obtain rfl : _ = o := Option.some.inj (show some _ = some o from ho)
      have t13 : a.tmps[13]? = some (.string t) := hs.get 13 (by kernel_rfl) rfl
      have hr := Lib.run_convert_string_bytes (P := Tryz.prog) w 9 40 5 t Tryz.underlying9 Tryz.underlying40 Tryz.underlying5
      exact .inl ⟨_, _, by go_simp, ⟨fun e => absurd e (by decide), fun _ => ⟨_, _, rfl, bytesWorld_sl w t (by omega)⟩, fun e => absurd e (by decide)⟩, bytesWorld_below w t⟩
    · obtain rfl : _ = o := Option.some.inj (show some _ = some o from ho)
      have t18 : a.tmps[18]? = some (.pointer u) := hs.get 18 (by kernel_rfl) rfl
      refine .inr ⟨23, #[.pointer u], by go_simp, (CR.out w zEB).mono ?_⟩
      rintro e w' ⟨ro, rc, rfl, S1, C⟩
      exact ⟨_, rfl, ⟨fun e => absurd e (by decide), fun e => absurd e (by decide), fun _ => ⟨ro, rc, rfl, S1⟩⟩, C⟩
  intro zf zv1 hb hh
  have zE1 := zE0.trans (hb.mono zE0.size)
  obtain ⟨g1, k1, e4, S1⟩ := (hh (4, 9) (by simp)).1 rfl
  obtain ⟨g2, k2, e9, S2⟩ := (hh (9, 14) (by simp)).2.1 rfl
  obtain ⟨ro, rc, e14, S3⟩ := (hh (14, 19) (by simp)).2.2 rfl
  clear hh hb
  simp only [putL, List.foldl_cons, List.foldl_nil, e4, e9, e14]
  clear e4 e9 e14
  simp only [FL]
  refine hr_ex 15 (some 20) rfl rfl (by kernel_rfl) rfl (R := fun v w' => ∃ g, v = .slice (some ⟨g, 0, none⟩) 3 3 ∧ VL w' (some ⟨g, 0, none⟩) 3 3 [.slice (some ⟨g1, 0, none⟩) f.size k1, .slice (some ⟨g2, 0, none⟩) t.size k2, .slice ro 32 rc] ∧ Below zv1.heap.size zv1 w') (⟨_, _, by go_simp, _, rfl, VL.new zv1 [.slice (some ⟨g1, 0, none⟩) f.size k1, .slice (some ⟨g2, 0, none⟩) t.size k2, .slice ro 32 rc] 40 (by simp [maxLen]), (Below.refl _ _).alloc (Nat.le_refl _) _⟩) ?_
  rintro v zv2 ⟨zg1, rfl, zG1, zC1⟩
  have zE2 := zE1.trans (zC1.mono zE1.size)
  have zH2 := zHS.out zv2 zE2
  have S1 := S1.below zC1
  have S2 := S2.below zC1
  have S3 := S3.below zC1
  refine ⟨zH2, ?_⟩
  simp only [FL]
  have P3 : PL zv2 (some ⟨zg1, 0, none⟩) 3 3 [⟨some ⟨g1, 0, none⟩, f.size, k1, sb f⟩, ⟨some ⟨g2, 0, none⟩, t.size, k2, sb t⟩, ⟨ro, 32, rc, hashI (cs.map itm)⟩] := ⟨rfl, Nat.le_refl _, by decide, fun h => by simp at h, fun a ha i hi => match i, hi with | 0, _ => zG1.cell a ha 0 (by simp) | 1, _ => zG1.cell a ha 1 (by simp) | 2, _ => zG1.cell a ha 2 (by simp) | n + 3, h => absurd h (by simp), fun q hq => by
    simp only [List.mem_cons, List.not_mem_nil, or_false] at hq
    rcases hq with rfl | rfl | rfl
    · exact S1
    · exact S2
    · exact S3⟩
  refine hr_call_w 16 (some 21) 51 #[.string { data := #[116, 97, 98, 108, 101, 116] }, .slice (some ⟨zg1, 0, none⟩) 3 3] rfl rfl (by kernel_rfl) rfl (by go_simp) (fun v w' => ∃ dq dc, v = .slice dq 32 dc ∧ Sl w' dq 32 dc (rootT f t cs) ∧ Below zv2.heap.size zv2 w') ((CO.out zv2 zE2 _ _ _ _ _ _ _ P3).mono (by
    rintro e w' ⟨dq, dc, rfl, F, C⟩
    exact ⟨_, rfl, dq, dc, rfl, F, C⟩)) ?_
  rintro v zv3 ⟨dq, dc, rfl, zF2, zC2⟩
  have zE3 := zE2.trans (zC2.mono zE2.size)
  have zH3 := zHS.out zv3 zE3
  refine ⟨zH3, ?_⟩
  simp only [FL]
  refine hr_take_w 17 (some 2) (.slice dq 32 dc) rfl rfl (by kernel_rfl) (by kernel_rfl) (by kernel_rfl) rfl (fun W hW => by obtain ⟨h0, h1, h2⟩ := hW; go_simp) zH3 ?_
  simp only [FL]
  refine wpAnyH_done (by kernel_rfl) ?_ _
  refine NoPanic.normal ?_
  go_wp2
  go_ret
  exact ⟨dq, dc, rfl, zF2, zE3⟩
open Go.RowKit
theorem wpList_appIT {w : World} {ops : Array Oper} {rest : List Oper} {o : Oper} {a : Act} {Q : Exit → Act → World → Prop} (hgd : o.guard = none) (s x : Operand)
    (ho : o.op = .call { callee := .builtin .append, args := #[s, x], argTypes := #[56, 56] })
    (base : Nat) (v : Value) (ps : List IP) (hs : a.eval s = v) (hown : w.ownsRow base 101 2 v ps.length (flatI ps))
    (g c : Nat) (q : IP) (hx : a.eval x = .slice (some ⟨g, 0, none⟩) 1 c) (hc : w.heap[g]? = some (.cells #[q.k.val, q.v.val] 101)) (hn : ps.length ≤ 1000000) (hbase : base ≤ w.heap.size)
    (h : ∀ v' w', w'.ownsRow base 101 2 v' (ps ++ [q]).length (flatI (ps ++ [q])) → KpB w w' → Below base w w' → wpList Tryz.prog ops Q rest (a.put o.dst v') w') : wpList Tryz.prog ops Q (o :: rest) a w := by
  obtain ⟨i0, hi, hz0, hz1, hz2⟩ := info_parts itemInfo
  refine wpList_append_own w hgd s x 56 ho base 101 i0 _ 2 48 Tryz.underlying56 hi hz0 hz1 hz2 rfl (by decide) v ps.length (flatI ps) hs hown ⟨g, 0, none⟩ 1 c [q.k.val, q.v.val] hx rfl
    (fun j u hu => by
      rw [Addr.add_lit, Nat.zero_add, cell_of_row w g j _ _ _ hc]
      simpa using hu) (fun u hu => by
      simp only [List.mem_cons, List.not_mem_nil, or_false] at hu
      rcases hu with rfl | rfl <;> rfl) (by unfold maxLen; omega) (by omega) hbase ?_
  intro v' w' h1 h2 _
  rw [← flatI_snoc] at h1
  exact h v' w' (by rw [List.length_append]; exact h1) (KpB.row hown (by decide) h2) ((Below.refl _ w).grown h2 hbase (fun k hk => (hown.lt k hk).1))
def RItPost (w : World) (l : List It) (e : Ending) (w' : World) : Prop := ∃ bo bm bc ps, e = .returned (.slice bo bm bc) ∧ IL w' bo bm bc ps ∧ ps.map IP.it = l ∧ Below w.heap.size w w'
theorem itK_good {c : CA} (h : c.c.good) : c.key.isRight = true ∧ itK c = keyL c.c.kv := by
  have h1 : c.key.isRight = true := by
    rw [KA.isRight_kv]
    exact decide_eq_true h.right
  refine ⟨h1, ?_⟩
  unfold itK
  rw [h1]
  rfl
set_option maxHeartbeats 4000000 in
set_option maxRecDepth 100000 in
theorem ritems10_any (w : World) (f t : ByteArray) (ao : Option Addr) (n cap : Nat) (l : List CA) (L : CL w ao n cap l) (hg : CGood (l.map CA.c)) (hn : n ≤ 1000) :
    Calls Tryz.prog 26 #[.agg #[.string f, .string t, .slice ao n cap]] w (RItPost w ((l.map CA.c).map itm)) := by
  have hl1 := Nat.le_of_eq L.len
  have hl2 := Nat.le_of_eq L.len.symm
  obtain ⟨W1, hW1⟩ : ∃ V, V = w.alloc (.cells #[.string f, .string t, .slice ao n cap] 32) := ⟨_, rfl⟩
  have C1 : Below w.heap.size w W1 := by rw [hW1]; exact (Below.refl _ _).alloc (Nat.le_refl _) _
  have K1 : Arr W1 w.heap.size 32 [.string f, .string t, .slice ao n cap] := by rw [hW1]; exact heap_alloc_new w _
  have HG : Hid (CGood (l.map CA.c)) := hg
  clear hg
  go_enter Tryz.func26, Tryz.ntmps26
  go_wp2
  rw [← hW1]
  clear hW1
  have L1 := L.below C1
  go_loopw [3, 4] (fun v i wr => ∃ (j : Nat) (ps : List IP), j ≤ n ∧ i = .int .i64 j ∧ wr.ownsRow W1.heap.size 101 2 v ps.length (flatI ps) ∧ (∀ q ∈ ps, SlT wr q.k ∧ SlT wr q.v) ∧ Hid (ps.map IP.it = ((l.take j).map CA.c).map itm) ∧ Below W1.heap.size W1 wr) (fun _ i _ => n - (intOf i).toNat)
  case atStart => exact ⟨0, [], Nat.zero_le _, rfl, World.ownsRow_nil _ _ _ _, fun _ h => by simp at h, rfl, Below.refl _ _⟩
  case round =>
    obtain ⟨j, ps, hj, rfl, O0, S0, HM, B1⟩ := hrel
    have K2 := arr_below K1 B1
    have c2 : wr.cell? ⟨w.heap.size, 2, none⟩ = some (.slice ao n cap) := K2.cell 2
    have hpl : ps.length ≤ 1000 := by
      have h := congrArg List.length HM.out
      simp only [List.length_map, List.length_take] at h
      omega
    obtain ⟨vo, vn, vc, hve⟩ : ∃ vo vn vc, _ = Value.slice vo vn vc := own_slice3 O0
    subst hve
    by_cases hlt : j < n
    · have hjl : j < l.length := by omega
      have hji : (j : Int) < (n : Int) := by omega
      obtain ⟨b, off, ea, hc⟩ := L1.at (by omega)
      have X := (hc j hjl).below B1
      have hok := (L1.ok _ (List.getElem_mem hjl)).below B1
      have HTK : Hid ((l.take (j + 1)).map CA.c = (l.take j).map CA.c ++ [l[j].c]) := by
        show _ = _
        rw [List.take_succ_eq_append_getElem hjl, List.map_append]
        rfl
      have hgd := HG.out l[j].c (List.mem_map.2 ⟨_, List.getElem_mem hjl, rfl⟩)
      obtain ⟨c, hce⟩ : ∃ c, c = l[j] := ⟨_, rfl⟩
      rw [← hce] at X hok HTK hgd
      subst ea
      obtain ⟨x0, x1, x2, x3, x4, x5⟩ := X
      obtain ⟨g1, g2⟩ := itK_good hgd
      have CI := ritemT_any wr c hok (by
        have h1 := hok.va.len
        have h2 : c.va.xs.length ≤ 256 := hgd.val
        omega) g1
      rw [g2] at CI
      unfold CA.val at CI
      clear K2 hc hce L1 g1 g2
      go_wp2_with fail
      refine CI.mono ?_
      rintro e w4 ⟨ko, kn, kc, uo, un, uc, rfl, TK, TV, C4⟩
      clear CI
      have O4 := own_below O0 C4
      have B4 := B1.trans (C4.mono B1.size)
      have bs := B4.size
      have BA : Below w4.heap.size w4 (w4.alloc (.cells #[.slice ko kn kc, .slice uo un uc] 101)) := (Below.refl _ _).alloc (Nat.le_refl _) _
      have O5 := own_below O4 BA
      have HN := heap_alloc_new w4 (.cells #[.slice ko kn kc, .slice uo un uc] 101)
      have BAs := BA.size
      have KA4 := KpB.below BA
      have S4 : Hid (∀ q ∈ ps, SlT w4 q.k ∧ SlT w4 q.v) := fun q hq => ⟨(S0 q hq).1.kp (KpB.below C4), (S0 q hq).2.kp (KpB.below C4)⟩
      clear O0 O4 S0 x0 x1 x2 x3 x4 x5 c2
      go_wp2_with (at_builtin; refine wpList_appIT rfl _ _ rfl W1.heap.size _ ps rfl O5 _ _ ⟨⟨ko, kn, kc, keyL c.c.kv⟩, ⟨uo, un, uc, itV c.c⟩⟩ rfl HN (by omega) (by omega) ?_; intro v6 w6 O6 K6 B6; obtain ⟨vo6, vn6, vc6, hv6⟩ := own_slice3 O6; subst hv6)
      have B7 := B4.trans ((BA.mono bs).trans B6)
      have KK : KpB w4 w6 := fun bb cur hb => K6 bb cur (KA4 bb cur hb)
      go_roundw
      case rel => exact ⟨j + 1, ps ++ [⟨⟨ko, kn, kc, keyL c.c.kv⟩, ⟨uo, un, uc, itV c.c⟩⟩], by omega, by go_num, O6, fun q hq => by
          rcases List.mem_append.1 hq with hq | hq
          · exact ⟨(S4.out q hq).1.kp KK, (S4.out q hq).2.kp KK⟩
          · rw [List.mem_singleton.1 hq]; exact ⟨TK.kp KK, TV.kp KK⟩, by
          show _ = _
          rw [HTK.out, List.map_append, List.map_append, HM.out]
          rfl, B7⟩
      case measure => simp [intOf]; omega
    · have hge : ¬ (j : Int) < (n : Int) := by omega
      have HT : Hid ((l.take j).map CA.c = l.map CA.c) := by show _ = _; rw [List.take_of_length_le (by omega)]
      obtain ⟨ao2, cap2, hv, I2⟩ := own_items O0 (fun q hq => ⟨(S0 q hq).1.1, (S0 q hq).2.1⟩)
      have I3 : IL wr vo vn vc ps := by
        simp only [Value.slice.injEq] at hv
        obtain ⟨e1, e2, e3⟩ := hv
        rw [e1, e2, e3]
        exact I2
      clear hv I2 O0
      go_wp2
      go_ret
      exact ⟨_, _, _, ps, rfl, I3, by rw [HM.out, HT.out, List.map_map], C1.trans (B1.mono C1.size)⟩
set_option maxHeartbeats 4000000 in
set_option maxRecDepth 100000 in
theorem rroot10_any (w : World) (f t : ByteArray) (ao : Option Addr) (n cap : Nat) (l : List CA) (L : CL w ao n cap l) (hg : CGood (l.map CA.c)) (hn : n ≤ 100) (hf : f.size ≤ 32) (ht : t.size ≤ 32) :
    Calls Tryz.prog 21 #[.agg #[.string f, .string t, .slice ao n cap]] w fun e w' => ∃ so sc, e = .returned (.slice so 32 sc) ∧ Sl w' so 32 sc (rootT f t (l.map CA.c)) ∧ Below w.heap.size w w' := by
  have hln := L.len
  obtain ⟨cs, hcs⟩ : ∃ cs, cs = l.map CA.c := ⟨_, rfl⟩
  have hcn : cs.length = n := by rw [hcs, List.length_map]; exact hln
  obtain ⟨W1, hW1⟩ : ∃ V, V = w.alloc (.cells #[.string f, .string t, .slice ao n cap] 32) := ⟨_, rfl⟩
  have C1 : Below w.heap.size w W1 := by rw [hW1]; exact (Below.refl _ _).alloc (Nat.le_refl _) _
  have K1 : Arr W1 w.heap.size 32 [.string f, .string t, .slice ao n cap] := by rw [hW1]; exact heap_alloc_new w _
  have c0 : W1.cell? ⟨w.heap.size, 0, none⟩ = some (.string f) := K1.cell 0
  have c1 : W1.cell? ⟨w.heap.size, 1, none⟩ = some (.string t) := K1.cell 1
  have c2 : W1.cell? ⟨w.heap.size, 2, none⟩ = some (.slice ao n cap) := K1.cell 2
  have L1 := L.below C1
  rw [← hcs] at hg ⊢
  have hk : ∀ x ∈ cs.map itm, x.k.length ≤ 256 ∧ x.v.length ≤ 257 := fun x hx => by
    obtain ⟨c, hc, rfl⟩ := List.mem_map.1 hx
    have h1 := keyL_le (hg c hc).right
    have h2 := itV_len c
    have h3 := (hg c hc).val
    exact ⟨h1, by show (itV c).length ≤ 257; omega⟩
  have HCI : Hid (∀ V, Below W1.heap.size W1 V → Calls Tryz.prog 26 #[.agg #[.string f, .string t, .slice ao n cap]] V fun e w' => ∃ bo bm bc ps, e = .returned (.slice bo bm bc) ∧ IL w' bo bm bc ps ∧ ps.map IP.it = cs.map itm ∧ bm ≤ 100 ∧ Below V.heap.size V w') := fun V hV => by
    refine (ritems10_any V f t ao n cap l (L1.below hV) (by rw [← hcs]; exact hg) (by omega)).mono ?_
    rintro e w' ⟨bo, bm, bc, ps, rfl, h1, h2, B⟩
    rw [← hcs] at h2
    refine ⟨bo, bm, bc, ps, rfl, h1, h2, ?_, B⟩
    have := congrArg List.length h2
    rw [List.length_map, List.length_map, h1.len] at this
    omega
  have HCS : Hid (∀ V bo bm bc (ps : List IP), IL V bo bm bc ps → ps.map IP.it = cs.map itm → bm ≤ 100 → Calls Tryz.prog 25 #[.slice bo bm bc] V fun e w' => ∃ sp, e = .returned (.pointer sp) ∧ T w' (.pointer sp) (cs.map itm) ∧ Below V.heap.size V w') := fun V bo bm bc ps h1 h2 h3 => by
    refine (rshape_fuel V bm V bo bm bc ps h1 (fun q hq => ⟨h1.sl q hq, ?_⟩) (Below.refl _ _) (by omega) (Nat.le_refl _)).mono ?_
    · have hm : q.it ∈ cs.map itm := by rw [← h2]; exact List.mem_map.2 ⟨q, hq, rfl⟩
      have h4 := (hk _ hm).1
      have h5 := (h1.sl q hq).1.len
      have h6 : q.k.xs.length ≤ 256 := h4
      omega
    · rintro e w' ⟨sp, rfl, hO, B⟩
      rw [h2] at hO
      exact ⟨sp, rfl, hO.now, B⟩
  have HCH : Hid (∀ V sp, T V (.pointer sp) (cs.map itm) → Calls Tryz.prog 24 #[.pointer sp] V fun e w' => ∃ ro rc, e = .returned (.slice ro 32 rc) ∧ Sl w' ro 32 rc (hashI (cs.map itm)) ∧ Below V.heap.size V w') := fun V sp h => by
    refine (rhash_fuel _ V (.pointer sp) (cs.map itm) h ⟨by rw [List.length_map]; omega, fun x hx => ⟨(hk x hx).1, by have := (hk x hx).2; omega⟩⟩ (Nat.le_refl _)).mono ?_
    rintro e w' ⟨ro, rc, rfl, S, B⟩
    exact ⟨ro, rc, rfl, S.1, B⟩
  have HCO : Hid (∀ V (a : Option Addr) (g1 k1 g2 k2 : Nat) (ro : Option Addr) (rc : Nat), PL V a 3 3 [⟨some ⟨g1, 0, none⟩, f.size, k1, sb f⟩, ⟨some ⟨g2, 0, none⟩, t.size, k2, sb t⟩, ⟨ro, 32, rc, hashI (cs.map itm)⟩] → Calls Tryz.prog 52 #[.string { data := #[116, 97, 98, 108, 101, 116] }, .slice a 3 3] V fun e w' => ∃ so sc, e = .returned (.slice so 32 sc) ∧ Sl w' so 32 sc (rootT f t cs) ∧ Below V.heap.size V w') := fun V a g1 k1 g2 k2 ro rc P3 => by
    have hfl : (formL (sb wdTab) (pxs [⟨some ⟨g1, 0, none⟩, f.size, k1, sb f⟩, ⟨some ⟨g2, 0, none⟩, t.size, k2, sb t⟩, ⟨ro, 32, rc, hashI (cs.map itm)⟩])).length ≤ 100000 := by
      have h3 : (hashI (cs.map itm)).length = 32 := (P3.sl ⟨ro, 32, rc, hashI (cs.map itm)⟩ (by simp)).len
      have h1 := sb_len f
      have h2 := sb_len t
      have e1 := enc_length (n := (sb f).length) (by omega)
      have e2 := enc_length (n := (sb t).length) (by omega)
      have e3 := enc_length (n := (hashI (cs.map itm)).length) (by omega)
      have e4 := enc_length (n := (sb wdTab).length) (by rw [sb_len]; decide)
      have e5 := enc_length (n := 0 + 1 + 1 + 1) (by omega)
      have h6 : (sb wdTab).length = 6 := by rw [sb_len]; rfl
      simp only [formL, fmP, pxs, List.map_cons, List.map_nil, List.flatMap_cons, List.flatMap_nil, List.length_append, List.length_cons, List.length_nil]
      omega
    refine (rof_any V wdTab a 3 3 _ P3 (by decide) (by omega) (fun q hq => by
      simp only [List.mem_cons, List.not_mem_nil, or_false] at hq
      rcases hq with rfl | rfl | rfl <;> simp only <;> omega) hfl).mono ?_
    rintro e w' ⟨v, rfl, own, B⟩
    obtain ⟨so, sc, rfl, S, -⟩ := Sl.own own (sumL_byte _)
    exact ⟨so, sc, rfl, S, B⟩
  clear hk hg L L1 hcs hcn hln K1
  go_enter Tryz.func21, Tryz.ntmps21
  go_wp2
  rw [← hW1]
  clear hW1
  have zHS : Hid (∀ V, Below W1.heap.size W1 V → V.cell? ⟨w.heap.size, 0, none⟩ = some (.string f) ∧ V.cell? ⟨w.heap.size, 1, none⟩ = some (.string t) ∧ V.cell? ⟨w.heap.size, 2, none⟩ = some (.slice ao n cap)) := fun V hV => ⟨(hV.cell (World.block_lt_of_cell? _ _ c0)).trans c0, (hV.cell (World.block_lt_of_cell? _ _ c1)).trans c1, (hV.cell (World.block_lt_of_cell? _ _ c2)).trans c2⟩
  have zE0 : Below W1.heap.size W1 W1.drew := (Below.refl _ _).drew
  refine wp_region_noPanic ?_
  refine wp_region_held_drew (S := fun V => V.cell? ⟨w.heap.size, 0, none⟩ = some (.string f) ∧ V.cell? ⟨w.heap.size, 1, none⟩ = some (.string t) ∧ V.cell? ⟨w.heap.size, 2, none⟩ = some (.slice ao n cap)) (by kernel_rfl) (zHS.out _ zE0) (fun zH0 => ?_)
  obtain ⟨zv0, hv0⟩ : ∃ v, v = W1.drew := ⟨_, rfl⟩
  rw [← hv0] at zH0 zE0 ⊢
  clear hv0
  refine hr_take_w 0 (some 3) (.pointer (some ⟨w.heap.size, 0, none⟩)) rfl rfl (by kernel_rfl) (by kernel_rfl) (by kernel_rfl) rfl (fun W hW => by obtain ⟨h0, h1, h2⟩ := hW; go_simp) zH0 ?_
  simp only [FL]
  refine hr_take_w 1 (some 4) (.string f) rfl rfl (by kernel_rfl) (by kernel_rfl) (by kernel_rfl) rfl (fun W hW => by obtain ⟨h0, h1, h2⟩ := hW; go_simp) zH0 ?_
  simp only [FL]
  refine hr_take_w 3 (some 6) (.pointer (some ⟨w.heap.size, 1, none⟩)) rfl rfl (by kernel_rfl) (by kernel_rfl) (by kernel_rfl) rfl (fun W hW => by obtain ⟨h0, h1, h2⟩ := hW; go_simp) zH0 ?_
  simp only [FL]
  refine hr_take_w 4 (some 7) (.string t) rfl rfl (by kernel_rfl) (by kernel_rfl) (by kernel_rfl) rfl (fun W hW => by obtain ⟨h0, h1, h2⟩ := hW; go_simp) zH0 ?_
  simp only [FL]
  refine hr_take_w 6 (some 9) (.agg #[.string f, .string t, .slice ao n cap]) rfl rfl (by kernel_rfl) (by kernel_rfl) (by kernel_rfl) rfl (fun W hW => by obtain ⟨h0, h1, h2⟩ := hW; go_simp) zH0 ?_
  simp only [FL]
  refine wpAnyH_effto 3 (fun zi zv zw => (zi = 2 → ∃ g c, zv = .slice (some ⟨g, 0, none⟩) f.size c ∧ Sl zw (some ⟨g, 0, none⟩) f.size c (sb f)) ∧ (zi = 5 → ∃ g c, zv = .slice (some ⟨g, 0, none⟩) t.size c ∧ Sl zw (some ⟨g, 0, none⟩) t.size c (sb t)) ∧ (zi = 7 → ∃ bo bm bc ps, zv = .slice bo bm bc ∧ IL zw bo bm bc ps ∧ ps.map IP.it = cs.map itm ∧ bm ≤ 100) ∧ (zi = 8 → ∃ sp, zv = .pointer sp ∧ T zw (.pointer sp) (cs.map itm)) ∧ (zi = 9 → ∃ ro rc, zv = .slice ro 32 rc ∧ Sl zw ro 32 rc (hashI (cs.map itm)))) [(2, 5), (5, 8), (7, 10), (8, 11), (9, 12)] 15 (by kernel_rfl) (by decide) (by decide) rfl ?_ (fun W hW => zHS.out W (zE0.trans (hW.mono zE0.size))) ?_ ?_
  · intro zi v w w' h hb
    refine ⟨fun e => ?_, fun e => ?_, fun e => ?_, fun e => ?_, fun e => ?_⟩
    · have h := h.1 e
      obtain ⟨g, c, h1, h2⟩ := h
      exact ⟨g, c, h1, h2.below hb⟩
    · have h := h.2.1 e
      obtain ⟨g, c, h1, h2⟩ := h
      exact ⟨g, c, h1, h2.below hb⟩
    · have h := h.2.2.1 e
      obtain ⟨bo, bm, bc, ps, h1, h2, h3, h4⟩ := h
      exact ⟨bo, bm, bc, ps, h1, h2.below hb, h3, h4⟩
    · have h := h.2.2.2.1 e
      obtain ⟨sp, h1, h2⟩ := h
      exact ⟨sp, h1, h2.below hb⟩
    · have h := h.2.2.2.2 e
      obtain ⟨ro, rc, h1, h2⟩ := h
      exact ⟨ro, rc, h1, h2.below hb⟩
  · intro zp zhi o a w ho hs hb hdep
    have zEB := zE0.trans (hb.mono zE0.size)
    simp only [List.mem_cons, List.not_mem_nil, or_false] at zhi
    rcases zhi with rfl | rfl | rfl | rfl | rfl
    · obtain rfl : _ = o := Option.some.inj (show some _ = some o from ho)
      have t4 : a.tmps[4]? = some (.string f) := hs.get 4 (by kernel_rfl) rfl
      have hr := Lib.run_convert_string_bytes (P := Tryz.prog) w 9 40 5 f Tryz.underlying9 Tryz.underlying40 Tryz.underlying5
      exact .inl ⟨_, _, by go_simp, ⟨fun _ => ⟨_, _, rfl, bytesWorld_sl w f (by omega)⟩, fun e => absurd e (by decide), fun e => absurd e (by decide), fun e => absurd e (by decide), fun e => absurd e (by decide)⟩, bytesWorld_below w f⟩
    · obtain rfl : _ = o := Option.some.inj (show some _ = some o from ho)
      have t7 : a.tmps[7]? = some (.string t) := hs.get 7 (by kernel_rfl) rfl
      have hr := Lib.run_convert_string_bytes (P := Tryz.prog) w 9 40 5 t Tryz.underlying9 Tryz.underlying40 Tryz.underlying5
      exact .inl ⟨_, _, by go_simp, ⟨fun e => absurd e (by decide), fun _ => ⟨_, _, rfl, bytesWorld_sl w t (by omega)⟩, fun e => absurd e (by decide), fun e => absurd e (by decide), fun e => absurd e (by decide)⟩, bytesWorld_below w t⟩
    · obtain rfl : _ = o := Option.some.inj (show some _ = some o from ho)
      have t9 : a.tmps[9]? = some (.agg #[.string f, .string t, .slice ao n cap]) := hs.get 9 (by kernel_rfl) rfl
      refine .inr ⟨26, #[.agg #[.string f, .string t, .slice ao n cap]], by go_simp, (HCI.out w zEB).mono ?_⟩
      rintro e w' ⟨bo, bm, bc, ps, rfl, h1, h2, h3, C⟩
      exact ⟨_, rfl, ⟨fun e => absurd e (by decide), fun e => absurd e (by decide), fun _ => ⟨bo, bm, bc, ps, rfl, h1, h2, h3⟩, fun e => absurd e (by decide), fun e => absurd e (by decide)⟩, C⟩
    · obtain rfl : _ = o := Option.some.inj (show some _ = some o from ho)
      obtain ⟨x10, t10, f10⟩ := (hdep 7 (by kernel_rfl)).at 10 (by kernel_rfl)
      replace f10 := f10.2.2.1 rfl
      obtain ⟨bo, bm, bc, ps, rfl, h1, h2, h3⟩ := f10
      refine .inr ⟨25, #[.slice bo bm bc], by go_simp, (HCS.out w bo bm bc ps h1 h2 h3).mono ?_⟩
      rintro e w' ⟨sp, rfl, h4, C⟩
      exact ⟨_, rfl, ⟨fun e => absurd e (by decide), fun e => absurd e (by decide), fun e => absurd e (by decide), fun _ => ⟨sp, rfl, h4⟩, fun e => absurd e (by decide)⟩, C⟩
    · obtain rfl : _ = o := Option.some.inj (show some _ = some o from ho)
      obtain ⟨x11, t11, f11⟩ := (hdep 8 (by kernel_rfl)).at 11 (by kernel_rfl)
      replace f11 := f11.2.2.2.1 rfl
      obtain ⟨sp, rfl, h1⟩ := f11
      refine .inr ⟨24, #[.pointer sp], by go_simp, (HCH.out w sp h1).mono ?_⟩
      rintro e w' ⟨ro, rc, rfl, h2, C⟩
      exact ⟨_, rfl, ⟨fun e => absurd e (by decide), fun e => absurd e (by decide), fun e => absurd e (by decide), fun e => absurd e (by decide), fun _ => ⟨ro, rc, rfl, h2⟩⟩, C⟩
  intro zf zv1 hb hh
  have zE1 := zE0.trans (hb.mono zE0.size)
  obtain ⟨g1, k1, e2, S1⟩ := (hh (2, 5) (by simp)).1 rfl
  obtain ⟨g2, k2, e5, S2⟩ := (hh (5, 8) (by simp)).2.1 rfl
  obtain ⟨ro, rc, e9, S3⟩ := (hh (9, 12) (by simp)).2.2.2.2 rfl
  clear hh hb
  simp only [putL, List.foldl_cons, List.foldl_nil, e2, e5, e9]
  clear e2 e5 e9
  simp only [FL]
  refine hr_ex 10 (some 13) rfl rfl (by kernel_rfl) rfl (R := fun v w' => ∃ g, v = .slice (some ⟨g, 0, none⟩) 3 3 ∧ VL w' (some ⟨g, 0, none⟩) 3 3 [.slice (some ⟨g1, 0, none⟩) f.size k1, .slice (some ⟨g2, 0, none⟩) t.size k2, .slice ro 32 rc] ∧ Below zv1.heap.size zv1 w') (⟨_, _, by go_simp, _, rfl, VL.new zv1 [.slice (some ⟨g1, 0, none⟩) f.size k1, .slice (some ⟨g2, 0, none⟩) t.size k2, .slice ro 32 rc] 40 (by simp [maxLen]), (Below.refl _ _).alloc (Nat.le_refl _) _⟩) ?_
  rintro v zv2 ⟨zg1, rfl, zG1, zC1⟩
  have zE2 := zE1.trans (zC1.mono zE1.size)
  have zH2 := zHS.out zv2 zE2
  have S1 := S1.below zC1
  have S2 := S2.below zC1
  have S3 := S3.below zC1
  refine ⟨zH2, ?_⟩
  simp only [FL]
  have P3 : PL zv2 (some ⟨zg1, 0, none⟩) 3 3 [⟨some ⟨g1, 0, none⟩, f.size, k1, sb f⟩, ⟨some ⟨g2, 0, none⟩, t.size, k2, sb t⟩, ⟨ro, 32, rc, hashI (cs.map itm)⟩] := ⟨rfl, Nat.le_refl _, by decide, fun h => by simp at h, fun a ha i hi => match i, hi with | 0, _ => zG1.cell a ha 0 (by simp) | 1, _ => zG1.cell a ha 1 (by simp) | 2, _ => zG1.cell a ha 2 (by simp) | n + 3, h => absurd h (by simp), fun q hq => by
    simp only [List.mem_cons, List.not_mem_nil, or_false] at hq
    rcases hq with rfl | rfl | rfl
    · exact S1
    · exact S2
    · exact S3⟩
  refine hr_call_w 11 (some 14) 52 #[.string { data := #[116, 97, 98, 108, 101, 116] }, .slice (some ⟨zg1, 0, none⟩) 3 3] rfl rfl (by kernel_rfl) rfl (by go_simp) (fun v w' => ∃ dq dc, v = .slice dq 32 dc ∧ Sl w' dq 32 dc (rootT f t cs) ∧ Below zv2.heap.size zv2 w') ((HCO.out zv2 _ _ _ _ _ _ _ P3).mono (by
    rintro e w' ⟨dq, dc, rfl, F, C⟩
    exact ⟨_, rfl, dq, dc, rfl, F, C⟩)) ?_
  rintro v zv3 ⟨dq, dc, rfl, zF2, zC2⟩
  have zE3 := zE2.trans (zC2.mono zE2.size)
  have zH3 := zHS.out zv3 zE3
  refine ⟨zH3, ?_⟩
  simp only [FL]
  refine hr_take_w 12 (some 2) (.slice dq 32 dc) rfl rfl (by kernel_rfl) (by kernel_rfl) (by kernel_rfl) rfl (fun W hW => by obtain ⟨h0, h1, h2⟩ := hW; go_simp) zH3 ?_
  simp only [FL]
  refine wpAnyH_done (by kernel_rfl) ?_ _
  refine NoPanic.normal ?_
  go_wp2
  go_ret
  exact ⟨dq, dc, rfl, zF2, C1.trans (zE3.mono C1.size)⟩
end Go.Proofs.YthlpccajnmkbjaaGreatDoor

/-
  Texts in one: PItems, TbMem, PNames, PVal, CCells, PAdd, CBe, PName, PBytes.
-/
import Derived.Test.YtlljmhcgjkolpaaGreatDoorSplitCutsQ6
import Derived.Test.YtlljmhcgjkolpaaGreatDoorSplitCutsQ0
import Derived.Test.YtlljmhcgjkolpaaGreatDoorSplitCutsQ3
import Derived.Test.YtlljmhcgjkolpaaGreatDoorSplitCutsQ4
import Derived.Deep.RegionLaw
import Derived.ChangeAlike
import Derived.Laws.Bits64b
namespace Go.Proofs.YtlljmhcgjkolpaaGreatDoor
open Go.RowKit
def btw (a b : List Int) (l : List It) : List It := (ge a l).filter fun x => decide (cmpL x.k b < 0)
theorem Srt.ofGe {l : List It} (h : Srt l) (k : List Int) : Srt (ge k l) := List.Pairwise.filter _ h
theorem low_all {F : List It} {b : List Int} (h : ∀ x ∈ F, cmpL x.k b < 0) : (F.filter fun x => decide (cmpL x.k b < 0)) = F := List.filter_eq_self.2 fun x hx => decide_eq_true (h x hx)
theorem low_stop {F pre post : List It} {x : It} {b : List Int} (hs : Srt F) (e : pre ++ x :: post = F) (h : ∀ z ∈ pre, cmpL z.k b < 0) (hx : ¬ cmpL x.k b < 0) : (F.filter fun x => decide (cmpL x.k b < 0)) = pre := by
  subst e
  have h2 : ∀ z ∈ x :: post, ¬ cmpL z.k b < 0 := fun z hz => by
    rcases List.mem_cons.1 hz with rfl | hz
    · exact hx
    · intro hlt
      exact hx (cmpL_lt_trans _ _ _ (hs.app.2.1.cons.1 z hz) hlt)
  rw [List.filter_append, low_all h, List.filter_eq_nil_iff.2 fun z hz => by simpa using h2 z hz, List.append_nil]
theorem low_go {F pre post : List It} {x : It} {b : List Int} (e : pre ++ x :: post = F) (h : ∀ z ∈ pre, cmpL z.k b < 0) (hx : cmpL x.k b < 0) : ∃ r, (F.filter fun x => decide (cmpL x.k b < 0)) = pre ++ x :: r := by
  subst e
  refine ⟨post.filter fun x => decide (cmpL x.k b < 0), ?_⟩
  rw [List.filter_append, low_all h, List.filter_cons, if_pos (by simpa using hx)]
theorem belowDrewN {B : Nat} {a w : World} (h : Below B a w) (q : Nat) : Below B a (w.drewN q) := ⟨h.os, h.tape, h.output, h.size, h.block⟩
def ItemsPost (w : World) (l : List It) (a b : List Int) (m : Int) (e : Ending) (w' : World) : Prop := ∃ ao n cap ps t, e = .returned (.tuple #[.slice ao n cap, .bool t]) ∧ IL w' ao n cap ps ∧ ps.map IP.it = (btw a b l).take m.toNat ∧ t = decide (m.toNat < (btw a b l).length) ∧ Below w.heap.size w w'
set_option maxHeartbeats 4000000 in
set_option maxRecDepth 100000 in
theorem titems_any (w : World) (v : Value) (l : List It) (lo hi : List Int) (xo ho : Option Addr) (xn xc hn hc : Nat) (m : Int) (h : TT w v l) (hs : Srt l) (hx : Sl w xo xn xc lo) (hh : Sl w ho hn hc hi) (hl : l.length ≤ 50000) (hsz : ∀ x ∈ l, x.k.length ≤ 1000000 ∧ x.v.length ≤ 1000000) :
    Calls Tryz.prog 88 #[v, .slice xo xn xc, .slice ho hn hc, .int .i64 m] w (ItemsPost w l lo hi m) := by
  obtain ⟨Wa, hWa⟩ : ∃ W, W = w.alloc (.cells #[.slice ho hn hc] 25) := ⟨_, rfl⟩
  obtain ⟨Wb, hWb⟩ : ∃ W, W = Wa.alloc (.cells #[.int .i64 m] 3) := ⟨_, rfl⟩
  obtain ⟨Wc, hWc⟩ : ∃ W, W = Wb.alloc (.cells #[.slice none 0 0] 121) := ⟨_, rfl⟩
  obtain ⟨Wd, hWd⟩ : ∃ W, W = Wc.alloc (.cells #[.bool false] 4) := ⟨_, rfl⟩
  have Ba : Below w.heap.size w Wa := by rw [hWa]; exact (Below.refl _ w).alloc (Nat.le_refl _) _
  have Bb : Below Wa.heap.size Wa Wb := by rw [hWb]; exact (Below.refl _ Wa).alloc (Nat.le_refl _) _
  have Bc : Below Wb.heap.size Wb Wc := by rw [hWc]; exact (Below.refl _ Wb).alloc (Nat.le_refl _) _
  have Bd : Below Wc.heap.size Wc Wd := by rw [hWd]; exact (Below.refl _ Wc).alloc (Nat.le_refl _) _
  have sa : Wa.heap.size = w.heap.size + 1 := by rw [hWa]; exact Array.size_push ..
  have sb : Wb.heap.size = w.heap.size + 2 := by rw [hWb]; exact (Array.size_push ..).trans (by rw [sa])
  have sc : Wc.heap.size = w.heap.size + 3 := by rw [hWc]; exact (Array.size_push ..).trans (by rw [sb])
  have A1 : Arr Wa w.heap.size 25 [.slice ho hn hc] := by rw [hWa]; exact heap_alloc_new w _
  have A2 : Arr Wb (w.heap.size + 1) 3 [.int .i64 m] := by rw [hWb, ← sa]; exact heap_alloc_new Wa _
  have A3 : Arr Wc (w.heap.size + 2) 121 [.slice none 0 0] := by rw [hWc, ← sb]; exact heap_alloc_new Wb _
  have A4 : Arr Wd (w.heap.size + 3) 4 [.bool false] := by rw [hWd, ← sc]; exact heap_alloc_new Wc _
  have A3 := arr_below A3 Bd
  have A2 := arr_below (arr_below A2 Bc) Bd
  have A1 := arr_below (arr_below (arr_below A1 Bb) Bc) Bd
  have B0 : Below w.heap.size w Wd := ((Ba.trans (Bb.mono Ba.size)).trans (Bc.mono (by omega))).trans (Bd.mono (by omega))
  have L0 : LI Wd (w.heap.size + 2) w.heap.size [] (.slice none 0 0) [] := ⟨A3, World.ownsRow_nil Wd _ _ 2, rfl, fun _ h => by simp at h⟩
  have CS := shared_at w Wd v l h B0
  obtain ⟨po, rfl⟩ := h.ptr
  clear Ba Bb Bc Bd sa sb sc A3
  go_enter Tryz.func88, Tryz.ntmps88
  go_wp2_with fail
  rw [← hWa, ← hWb, ← hWc, ← hWd]
  clear hWa hWb hWc hWd
  refine CS.mono ?_
  rintro e w1 ⟨q, rfl, hT, hw1⟩
  obtain rfl := hw1.symm
  clear CS
  have CW := walk_fuel w 123 #[.pointer (some ⟨w.heap.size, 0, none⟩), .pointer (some ⟨w.heap.size + 2, 0, none⟩), .pointer (some ⟨w.heap.size + 1, 0, none⟩), .pointer (some ⟨w.heap.size + 3, 0, none⟩)] (enters_of Tryz.func123 (by kernel_rfl) rfl)
    (ItI w w.heap.size (.slice ho hn hc) m hi) (ItS w w.heap.size m hi (ge lo l)) (fun x => x.k.length ≤ 1000000 ∧ x.v.length ≤ 1000000) (ge lo l)
    (fun _ _ h => h.1) (fun _ h => h.1) (fun pre W W' h hb => h.below hb) lo xo xn xc hx
    (fun pre W k y x hI hok hF _ hk hy sk sy => itm_any w w.heap.size ho hn hc m hi (ge lo l) pre W k y x rfl hh hI hF hk hy sk sy (by rw [← sk.len, hk]; exact hok.1) (by rw [← sy.len, hy]; exact hok.2) (by
      obtain ⟨post, e⟩ := hF
      have := congrArg List.length e
      have h2 := List.length_filter_le (fun x : It => decide (¬ cmpL x.k lo < 0)) l
      have h3 : (ge lo l).length ≤ l.length := h2
      simp only [List.length_append, List.length_cons] at this
      omega))
    l.length l (.pointer q) [] [] Wd (Nat.le_refl _) (by simp) hT hs hsz (by omega) ⟨B0, A1, A2, A4, ⟨_, _, L0⟩, fun _ h => by simp at h, Nat.zero_le _, Nat.zero_le _⟩
  rw [List.nil_append] at CW
  clear hT A1 A2 A4 L0
  go_wp2_with fail
  refine CW.mono ?_
  clear CW
  rintro e w2 (⟨rfl, hb, -, -, a4, ⟨u, ps, L⟩, hlow, hlen, -⟩ | ⟨rfl, hb, t, pre, x, post, e, a4, ⟨u, ps, L⟩, hlow, hlen, hd⟩)
  · obtain ⟨ao, cap, rfl, hI⟩ := L.slice
    have c3 : w2.cell? ⟨w.heap.size + 1 + 1, 0, none⟩ = some (.slice ao ps.length cap) := L.arr.cell 0
    have c4 : w2.cell? ⟨w.heap.size + 1 + 1 + 1, 0, none⟩ = some (.bool false) := a4.cell 0
    have E := low_all hlow
    have HE : Hid (btw lo hi l = ge lo l) := E
    clear E
    go_wp2_with fail
    go_quiet (fail)
    go_wp2
    go_ret2
    refine ⟨ao, ps.length, cap, ps, false, rfl, hI.below (belowDrewN (Below.refl _ w2) _), ?_, ?_, belowDrewN hb _⟩
    · rw [L.its, HE.out, List.take_of_length_le hlen]
    · rw [HE.out]
      exact (decide_eq_false (by omega)).symm
  · obtain ⟨ao, cap, rfl, hI⟩ := L.slice
    have c3 : w2.cell? ⟨w.heap.size + 1 + 1, 0, none⟩ = some (.slice ao ps.length cap) := L.arr.cell 0
    have c4 : w2.cell? ⟨w.heap.size + 1 + 1 + 1, 0, none⟩ = some (.bool t) := a4.cell 0
    have HE : Hid ((btw lo hi l).take m.toNat = pre ∧ t = decide (m.toNat < (btw lo hi l).length)) := by
      rcases hd with ⟨rfl, hx⟩ | ⟨rfl, hx, hm⟩
      · have E : btw lo hi l = pre := low_stop (hs.ofGe lo) e hlow hx
        exact ⟨by rw [E, List.take_of_length_le hlen], by rw [E]; exact (decide_eq_false (by omega)).symm⟩
      · obtain ⟨r, E⟩ := low_go e hlow hx
        have E : btw lo hi l = pre ++ x :: r := E
        have hml : m.toNat = pre.length := by omega
        exact ⟨by rw [E, hml, List.take_left'  rfl], by rw [E, hml]; exact (decide_eq_true (by simp)).symm⟩
    clear hd e hlow
    go_wp2_with fail
    go_quiet (fail)
    go_wp2
    go_ret2
    exact ⟨ao, ps.length, cap, ps, t, rfl, hI.below (belowDrewN (Below.refl _ w2) _), by rw [L.its]; exact HE.out.1.symm, HE.out.2, belowDrewN hb _⟩
open Go.RowKit
def TbC (w : World) (p : Nat) (f t : ByteArray) (u : Option Addr) : Prop := Arr w p 87 [.string f, .string t, .pointer u]
def Wr (p : Nat) (w w' : World) : Prop := w.grownBy w' (some p)
theorem Wr.refl (p : Nat) (w : World) : Wr p w w := World.grownBy.refl w _
theorem Wr.of {p : Nat} {w w' : World} (h : Below w.heap.size w w') : Wr p w w' := ⟨h.os, h.tape, h.output, h.size, fun b hb _ => h.block b hb⟩
theorem Wr.size {p : Nat} {w w' : World} (h : Wr p w w') : w.heap.size ≤ w'.heap.size := World.grownBy.size h
theorem Wr.trans {p : Nat} {a b c : World} (h : Wr p a b) (k : Wr p b c) : Wr p a c :=
  ⟨k.os.trans h.os, k.tape.trans h.tape, k.output.trans h.output, Nat.le_trans h.size k.size, fun i hi hn => (World.grownBy.block k i (Nat.lt_of_lt_of_le hi h.size) hn).trans (World.grownBy.block h i hi hn)⟩
theorem Wr.set {p : Nat} {a b : World} (h : Wr p a b) (j : Nat) (v : Value) : Wr p a (b.setCell ⟨p, j, none⟩ v) := grown_set h j v
theorem Wr.below {p B : Nat} {a w w' : World} (h : Below B a w) (k : Wr p w w') (hB : B ≤ w.heap.size) (hp : B ≤ p) : Below B a w' := h.grown k hB (fun i hi => by cases hi; exact hp)
theorem Wr.block {p : Nat} {w w' : World} (h : Wr p w w') (b : Nat) (hb : b < w.heap.size) (hne : b ≠ p) : w'.heap[b]? = w.heap[b]? := World.grownBy.block h b hb (fun e => hne (by cases e; rfl))
theorem Wr.alloc {p : Nat} {a b : World} (h : Wr p a b) (o : Obj) : Wr p a (b.alloc o) := h.trans (Wr.of ((Below.refl _ b).alloc (Nat.le_refl _) o))
theorem Sl.wr {w w' : World} {p : Nat} {t : TypeId} {cs : List Value} (h : Arr w p t cs) (hc : ∀ v ∈ cs, ∀ n, v ≠ .int .u8 n) (k : Wr p w w') {ao : Option Addr} {n cap : Nat} {xs : List Int} (S : Sl w ao n cap xs) : Sl w' ao n cap xs := by
  refine ⟨S.len, S.le, S.mx, S.nil, fun a ha i hi => ?_, S.byte⟩
  have h0 := S.cell a ha i hi
  have hne : (a.add i).block ≠ p := fun e => by
    generalize a.add i = ad at h0 e
    obtain ⟨b, off, spot⟩ := ad
    obtain rfl : b = p := e
    have hs : spot = none := World.cell?_spot h0
    subst hs
    rw [Arr.cell h off] at h0
    exact hc _ (List.mem_of_getElem? h0) _ rfl
  rw [← h0]
  exact World.cell?_of_block (k.block _ (World.block_lt_of_cell? w _ h0) hne)
section
variable {w w' : World} {p : Nat} {f t : ByteArray} {u : Option Addr}
theorem add_block (a : Addr) (i : Nat) : (a.add i).block = a.block := by unfold Addr.add; split <;> rfl
theorem TbC.ne (h : TbC w p f t u) {a : Addr} {v : Value} (hc : w.cell? a = some v) (h1 : ∀ s, v ≠ .string s) (h2 : ∀ q, v ≠ .pointer q) : a.block ≠ p := fun e => by
  obtain ⟨b, off, spot⟩ := a
  obtain rfl : b = p := e
  have hs : spot = none := World.cell?_spot hc
  subst hs
  rw [Arr.cell h off] at hc
  match off, hc with
  | 0, hc => exact h1 f (by simpa using hc.symm)
  | 1, hc => exact h1 t (by simpa using hc.symm)
  | 2, hc => exact h2 u (by simpa using hc.symm)
  | _ + 3, hc => simp at hc
theorem Wr.cell (k : Wr p w w') {a : Addr} {v : Value} (hc : w.cell? a = some v) (hne : a.block ≠ p) : w'.cell? a = some v := by
  rw [← hc]
  exact World.cell?_of_block (k.block _ (World.block_lt_of_cell? w _ hc) hne)
theorem Sl.tb (h : TbC w p f t u) (k : Wr p w w') {ao : Option Addr} {n cap : Nat} {xs : List Int} (S : Sl w ao n cap xs) : Sl w' ao n cap xs :=
  ⟨S.len, S.le, S.mx, S.nil, fun a ha i hi => k.cell (S.cell a ha i hi) (h.ne (S.cell a ha i hi) (by simp) (by simp)), S.byte⟩
theorem KL.tb (h : TbC w p f t u) (k : Wr p w w') {ao : Option Addr} {n cap : Nat} {ps : List Part} (S : KL w ao n cap ps) : KL w' ao n cap ps :=
  ⟨⟨S.vl.len, S.vl.le, S.vl.mx, S.vl.nil, fun a ha i hi => by
    have hc := S.vl.cell a ha i hi
    refine k.cell hc (h.ne hc ?_ ?_) <;> · rw [List.getElem_map]; simp [Part.val]⟩, fun q hq => (S.sl q hq).tb h k⟩
theorem VL.tb (h : TbC w p f t u) (k : Wr p w w') {ao : Option Addr} {n cap : Nat} {vs : List Value} (S : VL w ao n cap vs) (hn : 2 ≤ n) (hp : ∀ v ∈ vs, ∃ q, v = .pointer q) : VL w' ao n cap vs := by
  have hl := S.len
  obtain ⟨b, off, rfl, hc⟩ := S.at (by omega)
  have hne : b ≠ p := fun e => by
    subst e
    have c0 := hc 0 (by omega)
    have c1 := hc 1 (by omega)
    rw [Arr.cell h] at c0 c1
    obtain ⟨q0, e0⟩ := hp vs[0] (List.getElem_mem _)
    rw [e0] at c0
    match off, c0, c1 with
    | 0, c0, _ => simp at c0
    | 1, c0, _ => simp at c0
    | 2, _, c1 => simp at c1
    | _ + 3, c0, _ => simp at c0
  exact ⟨S.len, S.le, S.mx, S.nil, fun a ha i hi => k.cell (S.cell a ha i hi) (by rw [add_block]; cases ha; exact hne)⟩
theorem Nd.ok.tb (h : TbC w p f t u) (k : Wr p w w') {d : Nd} (S : d.ok w) (hn : 2 ≤ d.cs.length) (hp : ∀ v ∈ d.cs, ∃ q, v = .pointer q) : d.ok w' := by
  have hne : d.b ≠ p := h.ne S.c0 (by simp) (by simp)
  have hb := k.block d.b S.lt hne
  exact ⟨k.cell S.c0 hne, k.cell S.c1 hne, k.cell S.c2 hne, k.cell S.c3 hne, S.kl.tb h k, S.vl.tb h k, S.cl.tb h k hn hp, by obtain ⟨c, t, e⟩ := S.uf; exact ⟨c, t, hb.trans e⟩⟩
theorem TN.ptr' {w : World} : ∀ (n : Nat) (v : Value) (l : List It), TN w n v l → ∃ q, v = .pointer q
  | 0, _, _, hT => ⟨_, hT.2⟩
  | _ + 1, _, _, hT => by
    rcases hT with hT | ⟨d, segs, xs, rfl, _⟩
    · exact ⟨_, hT.2⟩
    · exact ⟨_, rfl⟩
theorem TN.tb (h : TbC w p f t u) (k : Wr p w w') : ∀ (n : Nat) (v : Value) (l : List It), TN w n v l → TN w' n v l
  | 0, _, _, hT => hT
  | n + 1, v, l, hT => by
    rcases hT with hT | ⟨d, segs, xs, rfl, hok, hs, e1, e2, e3, hk⟩
    · exact .inl hT
    · have h1 := hs.pos
      have h2 := hs.len
      refine .inr ⟨d, segs, xs, rfl, hok.tb h k (by omega) (fun v hv => ?_), hs, e1, e2, e3, fun i s hi => ?_⟩
      · obtain ⟨i, hi, rfl⟩ := List.mem_iff_getElem.1 hv
        obtain ⟨y, hy, hT⟩ := hk i segs[i] (List.getElem?_eq_getElem (by omega))
        rw [List.getElem?_eq_getElem hi] at hy
        rw [Option.some.inj hy]
        exact TN.ptr' n _ _ hT
      · obtain ⟨y, hy, ht⟩ := hk i s hi
        exact ⟨y, hy, TN.tb h k n y s ht⟩
theorem T.tb (h : TbC w p f t u) (k : Wr p w w') {v : Value} {l : List It} (hT : T w v l) : T w' v l := TN.tb h k _ v l hT
theorem TT.tb (h : TbC w p f t u) (k : Wr p w w') {v : Value} {l : List It} (hT : TT w v l) : TT w' v l := by
  rcases hT with hT | ⟨b, y, rfl, hc, ht, hl⟩
  · exact .inl hT
  · refine .inr ⟨b, y, rfl, k.cell hc (fun e => ?_), ht.tb h k, hl⟩
    obtain rfl : b = p := e
    rw [Arr.cell h] at hc
    obtain ⟨q, rfl⟩ := TN.ptr' _ _ _ ht
    simp at hc
end
def TB (w : World) (p : Nat) (f t : ByteArray) (cs : List CV) : Prop := ∃ u, TbC w p f t u ∧ TT w (.pointer u) (cs.map itm)
theorem TB.below {w w' : World} {p : Nat} {f t : ByteArray} {cs : List CV} (h : TB w p f t cs) (hb : Below w.heap.size w w') : TB w' p f t cs := by
  obtain ⟨u, h1, h2⟩ := h
  exact ⟨u, arr_below h1 hb, h2.below hb⟩
theorem TB.lt {w : World} {p : Nat} {f t : ByteArray} {cs : List CV} (h : TB w p f t cs) : p < w.heap.size := by
  obtain ⟨u, h1, h2⟩ := h
  exact Arr.lt h1
theorem btw_rows (a b : ByteArray) (cs : List CV) (hg : CGood cs) : btw (nm (sb a)) (hiL (sb b)) (cs.map itm) = (cs.filter fun c => inRows a b c.row).map itm := by
  unfold btw ge
  rw [List.filter_filter, List.filter_map]
  congr 1
  refine List.filter_congr fun c hc => ?_
  have hk := CV.kvByt (hg c hc).time
  show (decide (cmpL (keyL c.kv) (hiL (sb b)) < 0) && decide (¬ cmpL (keyL c.kv) (nm (sb a)) < 0)) = inRows a b c.row
  have e1 : (cmpL (keyL c.kv) (nm (sb a)) < 0) ↔ cmpL (sb c.row) (sb a) < 0 := keyL_below c.kv (sb a) hk (sb_byte a)
  have e2 : (cmpL (keyL c.kv) (hiL (sb b)) < 0) ↔ (b.size = 0 ∨ cmpL (sb c.row) (sb b) < 0) := by
    unfold hiL
    by_cases hz : b.size = 0
    · rw [if_pos (sb_nil hz)]
      refine ⟨fun _ => .inl hz, fun _ => ?_⟩
      have hr : (sb c.row).length ≤ 32 := (hg c hc).right.2.1
      have := nm_top (sb c.row) (nm (sb c.fam) ++ (nm (sb c.qual) ++ beL 8 c.time)) 32 (sb_byte _) hr
      have e : keyL c.kv = nm (sb c.row) ++ (nm (sb c.fam) ++ (nm (sb c.qual) ++ beL 8 c.time)) := rfl
      rw [e, this]
      decide
    · rw [if_neg (fun h => hz (by rw [← sb_len, h]; rfl)), keyL_below c.kv (sb b) hk (sb_byte b)]
      exact ⟨.inr, fun h => h.resolve_left hz⟩
  unfold inRows
  rw [Bool.eq_iff_iff]
  simp only [Bool.and_eq_true, decide_eq_true_eq, e1, e2]
  exact And.comm
structure Dull (cs : List Value) : Prop where
  u8 : ∀ n, Value.int .u8 n ∉ cs
  ptr : ∀ x, Value.pointer x ∉ cs
  sl : ∀ a n c, Value.slice a n c ∈ cs → n = 0
  node : ∀ L, cs[0]? = some (.int .i64 L) → ∀ a n c, cs[2]? ≠ some (.slice a n c)
section
variable {w w' : World} {q : Nat} {ty : TypeId} {cs : List Value}
theorem Wr.off (h : Arr w q ty cs) (k : Wr q w w') {a : Addr} {v : Value} (hc : w.cell? a = some v) (hv : v ∉ cs) : w'.cell? a = some v ∧ a.block ≠ q := by
  have hne : a.block ≠ q := fun e => by
    obtain ⟨b, off, spot⟩ := a
    obtain rfl : b = q := e
    have hs : spot = none := World.cell?_spot hc
    subst hs
    rw [Arr.cell h off] at hc
    exact hv (List.mem_of_getElem? hc)
  exact ⟨k.cell hc hne, hne⟩
theorem Sl.dull (h : Arr w q ty cs) (D : Dull cs) (k : Wr q w w') {ao : Option Addr} {n cap : Nat} {xs : List Int} (S : Sl w ao n cap xs) : Sl w' ao n cap xs :=
  ⟨S.len, S.le, S.mx, S.nil, fun a ha i hi => (k.off h (S.cell a ha i hi) (D.u8 _)).1, S.byte⟩
theorem KL.dull (h : Arr w q ty cs) (D : Dull cs) (k : Wr q w w') {ao : Option Addr} {n cap : Nat} {ps : List Part} (S : KL w ao n cap ps) (hne : ∀ y ∈ ps, y.xs ≠ []) : KL w' ao n cap ps :=
  ⟨⟨S.vl.len, S.vl.le, S.vl.mx, S.vl.nil, fun a ha i hi => by
    have hc := S.vl.cell a ha i hi
    refine (k.off h hc fun hm => ?_).1
    have hi' : i < ps.length := by simpa using hi
    rw [List.getElem_map] at hm
    have h0 := D.sl _ _ _ hm
    have h1 := (S.sl _ (List.getElem_mem hi')).len
    exact hne _ (List.getElem_mem hi') (List.eq_nil_of_length_eq_zero (h1.trans h0))⟩, fun y hy => (S.sl y hy).dull h D k⟩
theorem VL.dull (h : Arr w q ty cs) (D : Dull cs) (k : Wr q w w') {ao : Option Addr} {n cap : Nat} {vs : List Value} (S : VL w ao n cap vs) (hp : ∀ v ∈ vs, ∃ x, v = .pointer x) : VL w' ao n cap vs :=
  ⟨S.len, S.le, S.mx, S.nil, fun a ha i hi => (k.off h (S.cell a ha i hi) (by obtain ⟨x, e⟩ := hp _ (List.getElem_mem hi); rw [e]; exact D.ptr x)).1⟩
theorem TN.dull (h : Arr w q ty cs) (D : Dull cs) (k : Wr q w w') : ∀ (n : Nat) (v : Value) (l : List It), (∀ x ∈ l, x.k ≠ [] ∧ x.v ≠ []) → TN w n v l → TN w' n v l
  | 0, _, _, _, hT => hT
  | n + 1, v, l, hne, hT => by
    rcases hT with hT | ⟨d, segs, xs, rfl, hok, hs, e1, e2, e3, hk⟩
    · exact .inl hT
    · have hkp : ∀ y ∈ d.ks, y.xs ≠ [] := fun y hy => by
        have : y.xs ∈ xs.map It.k := by rw [← e1]; exact List.mem_map.2 ⟨y, hy, rfl⟩
        obtain ⟨x, hx, ex⟩ := List.mem_map.1 this
        rw [← ex]
        exact (hne x (hs.key x hx)).1
      have hvp : ∀ y ∈ d.vs, y.xs ≠ [] := fun y hy => by
        have : y.xs ∈ xs.map It.v := by rw [← e2]; exact List.mem_map.2 ⟨y, hy, rfl⟩
        obtain ⟨x, hx, ex⟩ := List.mem_map.1 this
        rw [← ex]
        exact (hne x (hs.key x hx)).2
      have hnb : d.b ≠ q := fun e => by
        have c0 := hok.c0
        have c2 := hok.c2
        rw [e, Arr.cell h] at c0 c2
        exact D.node _ c0 _ _ _ c2
      have hcp : ∀ v ∈ d.cs, ∃ x, v = .pointer x := fun v hv => by
        obtain ⟨i, hi, rfl⟩ := List.mem_iff_getElem.1 hv
        obtain ⟨y, hy, hT⟩ := hk i segs[i] (List.getElem?_eq_getElem (by omega))
        rw [List.getElem?_eq_getElem hi] at hy
        rw [Option.some.inj hy]
        exact TN.ptr' n _ _ hT
      have hb := k.block d.b hok.lt hnb
      refine .inr ⟨d, segs, xs, rfl, ⟨k.cell hok.c0 hnb, k.cell hok.c1 hnb, k.cell hok.c2 hnb, k.cell hok.c3 hnb, hok.kl.dull h D k hkp, hok.vl.dull h D k hvp, hok.cl.dull h D k hcp, by obtain ⟨c, t, e⟩ := hok.uf; exact ⟨c, t, hb.trans e⟩⟩, hs, e1, e2, e3, fun i s hi => ?_⟩
      obtain ⟨y, hy, ht⟩ := hk i s hi
      exact ⟨y, hy, TN.dull h D k n y s (fun x hx => hne x (hs.seg s (List.mem_of_getElem? hi) x hx)) ht⟩
theorem TT.dull (h : Arr w q ty cs) (D : Dull cs) (k : Wr q w w') {v : Value} {l : List It} (hne : ∀ x ∈ l, x.k ≠ [] ∧ x.v ≠ []) (hT : TT w v l) : TT w' v l := by
  rcases hT with hT | ⟨b, y, rfl, hc, ht, hl⟩
  · exact .inl hT
  · obtain ⟨x, rfl⟩ := TN.ptr' _ _ _ ht
    exact .inr ⟨b, _, rfl, (k.off h hc (D.ptr x)).1, TN.dull h D k _ _ l hne ht, hl⟩
end
theorem itm_ne (c : CV) : (itm c).k ≠ [] ∧ (itm c).v ≠ [] := by
  constructor
  · intro e
    have := keyL_len c.kv
    rw [show keyL c.kv = (itm c).k from rfl, e] at this
    simp at this
  · show itV c ≠ []
    unfold itV
    split <;> simp
theorem TB.dull {w w' : World} {p q : Nat} {f t : ByteArray} {ds : List CV} {ty : TypeId} {cs : List Value} (h : Arr w q ty cs) (D : Dull cs) (k : Wr q w w') (hne : p ≠ q) (hT : TB w p f t ds) : TB w' p f t ds := by
  obtain ⟨u, a1, a2⟩ := hT
  refine ⟨u, (k.block p (Arr.lt a1) hne).trans a1, a2.dull h D k fun x hx => ?_⟩
  obtain ⟨c, -, rfl⟩ := List.mem_map.1 hx
  exact itm_ne c
open Go.RowKit
theorem toE (s : ByteArray) : s.toList.isEmpty = decide (s.size = 0) := by
  rw [ByteArray.toList_eq]
  unfold ByteArray.size
  cases h : s.data.toList with
  | nil =>
    have h2 := congrArg List.length h
    have h3 : s.data.size = 0 := by simpa using h2
    simp [h3]
  | cons a t =>
    have h2 := congrArg List.length h
    have h3 : s.data.size ≠ 0 := by
      intro h4
      rw [Array.length_toList, h4, List.length_cons] at h2
      omega
    exact (decide_eq_false h3).symm
def KA.nv (k : KA) : Value := .agg #[.string k.row, .string k.fam, .string k.qual]
set_option maxRecDepth 100000 in
set_option maxHeartbeats 2000000 in
theorem pnames_any (w : World) (k : KA) :
    Calls Tryz.prog 100 #[k.val] w fun e w' => e = .returned k.nv ∧ Below w.heap.size w w' := by
  have B : Below w.heap.size w ((w.alloc (Obj.cells #[.string k.row, .string k.fam, .string k.qual, .int .u64 k.time] 24)).alloc (Obj.cells #[.string k.row, .string k.fam, .string k.qual] 139)) := ((Below.refl _ w).alloc (Nat.le_refl _) _).alloc (by simp) _
  unfold KA.val KA.nv
  go_enter Tryz.func100, Tryz.ntmps100
  go_wp2
  exact bodyPost_ret (v := .agg #[.string k.row, .string k.fam, .string k.qual]) (by simp [results, Tryz.results100, go_sem]) rfl ⟨rfl, B⟩
set_option maxRecDepth 100000 in
set_option maxHeartbeats 2000000 in
theorem pright_any (w : World) (k : KA) :
    Calls Tryz.prog 62 #[k.val] w fun e w' => e = .returned (.int .i64 k.kind) ∧ Below w.heap.size w w' := by
  have B0 : Below w.heap.size w (w.alloc (Obj.cells #[.string k.row, .string k.fam, .string k.qual, .int .u64 k.time] 24)) := (Below.refl _ w).alloc (Nat.le_refl _) _
  have K0 : ∀ i, (w.alloc (Obj.cells #[.string k.row, .string k.fam, .string k.qual, .int .u64 k.time] 24)).cell? ⟨w.heap.size, i, none⟩ = #[Value.string k.row, .string k.fam, .string k.qual, .int .u64 k.time][i]? := fun i => World.cell?_alloc_at _ _ _ _ rfl
  have no : Hid (∀ (_ : ¬ (1 ≤ k.row.size ∧ k.row.size ≤ 32 ∧ 1 ≤ k.fam.size ∧ k.fam.size ≤ 32 ∧ k.qual.size ≤ 32)), k.kind = 5) := fun h => by
    unfold KA.kind KA.isRight
    rw [decide_eq_false h]
    rfl
  have yes : Hid (∀ (_ : (1 ≤ k.row.size ∧ k.row.size ≤ 32 ∧ 1 ≤ k.fam.size ∧ k.fam.size ≤ 32 ∧ k.qual.size ≤ 32)), k.kind = 0) := fun h => by
    unfold KA.kind KA.isRight
    rw [decide_eq_true h]
    rfl
  obtain ⟨N, hN⟩ : ∃ N, N = w.heap.size := ⟨_, rfl⟩
  unfold KA.val
  go_enter Tryz.func62, Tryz.ntmps62
  go_wp2_with fail
  obtain ⟨w1, hw1⟩ : ∃ W, W = (w.alloc (Obj.cells #[.string k.row, .string k.fam, .string k.qual, .int .u64 k.time] 24)) := ⟨_, rfl⟩
  have z1 : w1.heap.size = w.heap.size + 1 := by rw [hw1]; simp
  rw [← hw1] at B0 K0 ⊢
  refine (pnames_any w1 k).mono ?_
  rintro e w2 ⟨rfl, C2⟩
  have B2 := B0.trans (C2.mono B0.size)
  have q0 : w2.cell? ⟨N, 0, none⟩ = some (.string k.row) := (C2.cell (by show N < _; omega)).trans ((hN ▸ K0 0 :))
  have q1 : w2.cell? ⟨N, 1, none⟩ = some (.string k.fam) := (C2.cell (by show N < _; omega)).trans ((hN ▸ K0 1 :))
  unfold KA.nv
  rw [← hN]
  have i0 : ∀ w, (Instr.index 139 (.agg #[.string k.row, .string k.fam, .string k.qual]) (.int .i64 0)).run Tryz.prog w = .ok (.string k.row) w := fun _ => by kernel_rfl
  have i1 : ∀ w, (Instr.index 139 (.agg #[.string k.row, .string k.fam, .string k.qual]) (.int .i64 1)).run Tryz.prog w = .ok (.string k.fam) w := fun _ => by kernel_rfl
  have i2 : ∀ w, (Instr.index 139 (.agg #[.string k.row, .string k.fam, .string k.qual]) (.int .i64 2)).run Tryz.prog w = .ok (.string k.qual) w := fun _ => by kernel_rfl
  clear hN z1 hw1 K0 B0 C2
  go_wp2_with fail
  go_loopw [4, 7] (fun s i wr => wr = w2 ∧ ∃ j : Nat, i = .int .i64 j ∧ j ≤ 3 ∧ (0 < j → k.row.size ≤ 32) ∧ (1 < j → k.fam.size ≤ 32) ∧ (2 < j → k.qual.size ≤ 32)) (fun _ i _ => 3 - (intOf i).toNat)
  case atStart => exact ⟨rfl, 0, rfl, by omega, by omega, by omega, by omega⟩
  case round =>
    obtain ⟨rfl, j, rfl, hj, h1, h2, h3⟩ := hrel
    obtain rfl | rfl | rfl | rfl : j = 0 ∨ j = 1 ∨ j = 2 ∨ j = 3 := by omega
    · by_cases l : 32 < k.row.size
      · have il : (32 : Int) < (k.row.size : Int) := by omega
        have hv : Hid (k.kind = 5) := no.out (by omega)
        go_wp2
        go_ret
        exact ⟨by rw [hv.out] <;> rfl, B2⟩
      · have il : (k.row.size : Int) ≤ 32 := by omega
        go_wp2
        go_roundw
        case rel => exact ⟨trivial, 1, rfl, by omega, by omega, by omega, by omega⟩
        case measure => simp [intOf]
    · by_cases l : 32 < k.fam.size
      · have il : (32 : Int) < (k.fam.size : Int) := by omega
        have hv : Hid (k.kind = 5) := no.out (by omega)
        go_wp2
        go_ret
        exact ⟨by rw [hv.out] <;> rfl, B2⟩
      · have il : (k.fam.size : Int) ≤ 32 := by omega
        go_wp2
        go_roundw
        case rel => exact ⟨trivial, 2, rfl, by omega, by omega, by omega, by omega⟩
        case measure => simp [intOf]
    · by_cases l : 32 < k.qual.size
      · have il : (32 : Int) < (k.qual.size : Int) := by omega
        have hv : Hid (k.kind = 5) := no.out (by omega)
        go_wp2
        go_ret
        exact ⟨by rw [hv.out] <;> rfl, B2⟩
      · have il : (k.qual.size : Int) ≤ 32 := by omega
        go_wp2
        go_roundw
        case rel => exact ⟨trivial, 3, rfl, by omega, by omega, by omega, by omega⟩
        case measure => simp [intOf]
    · by_cases r0 : k.row.size = 0
      · have e0 : k.row.toList.isEmpty = true := by rw [toE]; exact decide_eq_true r0
        have hv : Hid (k.kind = 5) := no.out (by omega)
        go_wp2
        go_ret
        exact ⟨by rw [hv.out] <;> rfl, B2⟩
      · have e0 : k.row.toList.isEmpty = false := by rw [toE]; exact decide_eq_false r0
        by_cases f0 : k.fam.size = 0
        · have e2 : k.fam.toList.isEmpty = true := by rw [toE]; exact decide_eq_true f0
          have hv : Hid (k.kind = 5) := no.out (by omega)
          go_wp2
          go_ret
          exact ⟨by rw [hv.out] <;> rfl, B2⟩
        · have e2 : k.fam.toList.isEmpty = false := by rw [toE]; exact decide_eq_false f0
          have hv : Hid (k.kind = 0) := yes.out (by omega)
          go_wp2
          go_ret
          exact ⟨by rw [hv.out] <;> rfl, B2⟩
open Go.RowKit
theorem pequal_any (w : World) (ao bo : Option Addr) (n cap m cap2 : Nat) (xs ys : List Int) (h : Sl w ao n cap xs) (h2 : Sl w bo m cap2 ys) :
    Calls Tryz.prog 111 #[.slice ao n cap, .slice bo m cap2] w fun e w' => e = .returned (.bool (decide (xs = ys))) ∧ w' = w := by
  have c1 := conv_str h
  have c2 := conv_str h2
  by_cases e : xs = ys
  · subst e
    rw [decide_eq_true rfl]
    go_enter Tryz.func111, Tryz.ntmps111
    go_wp2
    go_ret
    exact ⟨rfl, rfl⟩
  · have i : ((strOfNums xs).toList == (strOfNums ys).toList) = false := toL_ne fun q => e (by rw [← sb_str h.byte, q, sb_str h2.byte])
    rw [decide_eq_false e]
    go_enter Tryz.func111, Tryz.ntmps111
    go_wp2
    go_ret
    exact ⟨rfl, rfl⟩
open Go.RowKit
structure CX (V : World) (b p : Nat) (c : CA) : Prop where
  c0 : V.cell? ⟨b, p, none⟩ = some (.string c.row)
  c1 : V.cell? ⟨b, p + 1, none⟩ = some (.string c.fam)
  c2 : V.cell? ⟨b, p + 2, none⟩ = some (.string c.qual)
  c3 : V.cell? ⟨b, p + 3, none⟩ = some (.int .u64 c.time)
  c4 : V.cell? ⟨b, p + 4, none⟩ = some (.slice c.va.ao c.va.n c.va.cap)
  c5 : V.cell? ⟨b, p + 5, none⟩ = some (.bool c.gone)
theorem CX.below {V V' : World} {b p : Nat} {c : CA} (h : CX V b p c) (hb : Below V.heap.size V V') : CX V' b p c :=
  have k : ∀ a v, V.cell? a = some v → V'.cell? a = some v := fun _ _ hc => (hb.cell (World.block_lt_of_cell? V _ hc)).trans hc
  ⟨k _ _ h.c0, k _ _ h.c1, k _ _ h.c2, k _ _ h.c3, k _ _ h.c4, k _ _ h.c5⟩
theorem CL.at {w : World} {ao : Option Addr} {n cap : Nat} {l : List CA} (h : CL w ao n cap l) (hn : 0 < n) :
    ∃ b off, ao = some ⟨b, off, none⟩ ∧ ∀ i (hi : i < l.length), CX w b (off + i * 6) l[i] := by
  have hl := h.len
  cases ao with
  | none => have := (h.nil rfl).1; omega
  | some a =>
    obtain ⟨b, off, spot⟩ := a
    have hc := h.cell _ rfl 0 (by omega) 0 _ rfl
    have hs : spot = none := by simpa [Addr.add] using World.cell?_spot hc
    subst hs
    refine ⟨b, off, rfl, fun i hi => ?_⟩
    have k : ∀ j v, l[i].cells[j]? = some v → w.cell? ⟨b, off + i * 6 + j, none⟩ = some v := fun j v hv => by
      have := h.cell _ rfl i hi j v hv
      rw [Addr.add_lit] at this
      rw [Nat.add_assoc]
      exact this
    exact ⟨k 0 _ rfl, k 1 _ rfl, k 2 _ rfl, k 3 _ rfl, k 4 _ rfl, k 5 _ rfl⟩
def resV (e : Int) (ao : Option Addr) (n cap : Nat) (m : Bool) : Value := .agg #[.int .i64 e, .slice ao n cap, .bool m]
def CA.key (c : CA) : KA := ⟨c.row, c.fam, c.qual, c.time⟩
def RC (V : World) (p : Nat) (e : Int) (ao : Option Addr) (n cap : Nat) (m : Bool) : Prop := V.heap[p]? = some (.cells #[.int .i64 e, .slice ao n cap, .bool m] 43)
theorem RC.lt {V : World} {p : Nat} {e : Int} {ao : Option Addr} {n cap : Nat} {m : Bool} (h : RC V p e ao n cap m) : p < V.heap.size := (Array.getElem?_eq_some_iff.1 h).1
theorem RC.keep {V V' : World} {p : Nat} {e : Int} {ao : Option Addr} {n cap : Nat} {m : Bool} (h : RC V p e ao n cap m) (hb : Below V.heap.size V V') : RC V' p e ao n cap m := (hb.block p h.lt).trans h
theorem RC.c1 {V : World} {p : Nat} {e : Int} {ao : Option Addr} {n cap : Nat} {m : Bool} (h : RC V p e ao n cap m) : V.cell? ⟨p, 1, none⟩ = some (.slice ao n cap) := cell_of_row V p 1 _ _ _ h
theorem all_take_succ {α : Type} (p : α → Bool) {l : List α} {k : Nat} (hk : k < l.length) (h : (l.take k).all p = true) : (l.take (k + 1)).all p = p l[k] := by
  rw [List.take_succ_eq_append_getElem hk, List.all_append, h]
  simp
open Go.RowKit
theorem step_app {ops : Array Oper} {o : Oper} {a : Act} {w : World} {K : Act → World → Prop} {Q : Exit → Act → World → Prop} {E : Prop} (hgd : o.guard = none) (s x : Operand)
    (ho : o.op = .call { callee := .builtin .append, args := #[s, x], argTypes := #[25, 25] })
    (base : Nat) (v : Value) (n : Nat) (xs : List Int) (hs : a.eval s = v) (hown : w.ownsRow base 5 1 v n (bv xs))
    (ad : Addr) (m c : Nat) (ys : List Int) (hx : a.eval x = .slice (some ad) m c) (hsl : Sl w (some ad) m c ys) (hb : n + m ≤ 140737488355328) (hbase : base ≤ w.heap.size)
    (h : ∀ v' w', w'.ownsRow base 5 1 v' (n + m) (bv (xs ++ ys)) → w.grownBy w' v.ownBlock → K (a.put o.dst v') w') :
    if Region.wanted o (yielded ops a.tmps) = true then Oper.wp Tryz.prog o a w K Q else E := by
  obtain ⟨i0, hi, hz0, hz1, hz2⟩ := info_parts u8info
  have hw : Region.wanted o (yielded ops a.tmps) = true := by simp [Region.wanted, hgd]
  rw [if_pos hw]
  refine wp_append_own w s x 25 ho base 5 i0 (.int .u8 0) 1 1 Tryz.underlying25 hi hz0 hz1 hz2 rfl (by decide) v n (bv xs) hs hown ad m c (bv ys) hx (by rw [bv_length, hsl.len, Nat.mul_one]) (hsl.cells ad rfl) (bv_one ys) (by unfold maxLen; omega) (by omega) hbase ?_
  intro v' w' h1 h2 _
  rw [← bv_append] at h1
  exact h v' w' h1 h2
set_option maxHeartbeats 4000000 in
set_option maxRecDepth 100000 in
theorem padd_any (w : World) (pb pl base : Nat) (v : Value) (n : Nat) (xs : List Int) (L m : Nat)
    (hb : w.heap[pb]? = some (.cells #[v] 25)) (hl : w.heap[pl]? = some (.cells #[.int .u64 L] 22)) (O : w.ownsRow base 5 1 v n (bv xs)) (hpb : pb < base) (hbase : base ≤ w.heap.size) (hn : n ≤ 1000000) (hm : m ≤ 7) (hxs : Byt xs) (s : Int) (hs : s = 8 * (m : Int)) :
    Calls Tryz.prog 134 #[.int .i64 s, .pointer (some ⟨pb, 0, none⟩), .pointer (some ⟨pl, 0, none⟩)] w fun e w' =>
      e = .returned (.tuple #[]) ∧ ∃ v', w'.heap[pb]? = some (.cells #[v'] 25) ∧ w'.heap[pl]? = some (.cells #[.int .u64 L] 22) ∧ w'.ownsRow base 5 1 v' (n + 1) (bv (xs ++ [((L / 256 ^ m % 256 : Nat) : Int)])) ∧ Below pb w w' := by
  subst hs
  have q1 : w.cell? ⟨pb, 0, none⟩ = some v := by rw [cell_of_row w pb 0 _ _ _ hb]; rfl
  have q2 : w.cell? ⟨pl, 0, none⟩ = some (.int .u64 L) := by rw [cell_of_row w pl 0 _ _ _ hl]; rfl
  have hlt : pb < w.heap.size := (Array.getElem?_eq_some_iff.1 hb).1
  have hll : pl < w.heap.size := (Array.getElem?_eq_some_iff.1 hl).1
  have n1 : some pb ≠ v.ownBlock := fun e => by have := (O.lt _ e.symm).1; omega
  have n2 : some pl ≠ v.ownBlock := fun e => by
    rcases O.2 with ⟨rfl, _⟩ | ⟨g, cap, cur, rfl, _, hh, _⟩
    · simp [Value.ownBlock] at e
    · simp only [Value.ownBlock, Option.some.injEq] at e
      subst e
      rw [hl] at hh
      simp at hh
  obtain ⟨x, hx⟩ : ∃ x, x = L / 256 ^ m % 256 := ⟨_, rfl⟩
  have hx8 : x < 256 := by rw [hx]; exact Nat.mod_lt _ (by omega)
  obtain ⟨y, hy⟩ : ∃ y, y = IntKind.u8.wrap ((L : Int) / 2 ^ (8 * (m : Int)).toNat) := ⟨_, rfl⟩
  have hxe : Hid (y = (x : Int)) := by
    show _ = _
    rw [hy, hx]
    have h2 : (2 : Nat) ^ (8 * m) = 256 ^ m := by rw [Nat.pow_mul]
    have h3 : (8 * (m : Int)).toNat = 8 * m := by omega
    rw [← h2, h3, IntKind.wrap_u8]
    push_cast
    rfl
  have hy8 : 0 ≤ y ∧ y ≤ 255 := by have := hxe.out; omega
  have hy' := hy.symm
  have hz : (8 * (m : Int)).toNat < 64 := by omega
  clear hy
  rw [← hx]
  clear hx
  have HB : Hid (w.heap[pb]? = some (.cells #[v] 25)) := hb
  have HL : Hid (w.heap[pl]? = some (.cells #[.int .u64 L] 22)) := hl
  have HN1 : Hid (some pb ≠ v.ownBlock) := n1
  have HN2 : Hid (some pl ≠ v.ownBlock) := n2
  clear hb hl n1 n2
  have BX : Byt (xs ++ [y]) := hxs.append (by intro z hz; simp at hz; omega)
  go_enter Tryz.func134, Tryz.ntmps134
  go_wp2
  go_region_law (refine step_app rfl (.tmp 4) (.tmp 9) rfl base v n xs rfl (by exact O.alloc _) _ 1 1 [y] rfl (by exact (Sl.one w y hy8).below (Below.refl _ _).drew) (by omega) (by simp; omega) ?_; intro v2 w2 O2 G2; obtain ⟨so, sc, hv2, S2, -⟩ := Sl.own O2 BX; have e2 : w2.heap[pb]? = some (.cells #[v] 25) := (G2.block pb (by simp; omega) HN1.out).trans ((heap_alloc_old w _ hlt).trans HB.out); subst hv2; have c2 := cell_of_row w2 pb 0 _ _ _ e2; have f2 := frozen_of_row w2 pb 0 _ _ e2)
  all_goals
    have e3 : w2.heap[pl]? = some (.cells #[.int .u64 L] 22) := (G2.block pl (by simp; omega) HN2.out).trans ((heap_alloc_old w _ hll).trans HL.out)
    have ne : pl ≠ pb := fun e => by rw [e, e2] at e3; simp at e3
    have z2 := G2.size
    have O3 : (w2.setCell ⟨pb, 0, none⟩ (.slice so (n + 1) sc)).ownsRow base 5 1 (.slice so (n + 1) sc) (n + 1) (bv (xs ++ [(x : Int)])) := by
      rw [← hxe.out]
      refine O2.kept (row := some pb) ⟨rfl, rfl, rfl, by simp, fun k _ hk => heap_setCell_other w2 _ k _ (fun e => hk (by rw [e]))⟩ (.inr fun e => ?_)
      have := (O2.lt _ e).1
      omega
    have B2 : Below pb w (w2.setCell ⟨pb, 0, none⟩ (.slice so (n + 1) sc)) := by
      refine ((((Below.refl pb w).alloc (by omega) _).drew.grown G2 (by simp; omega) (fun k hk => ?_)).setCell ?_ _)
      · have := (O.lt k hk).1
        omega
      · exact Nat.le_refl _
    go_wp2
    go_end0
    refine ⟨rfl, _, ?_, ?_, O3, B2⟩
    · rw [heap_setCell_same w2 pb 0 _ _ _ e2]; rfl
    · rw [heap_setCell_other w2 _ pl _ ne]; exact e3
open Go.RowKit
theorem beL_take : ∀ n T j, j < n → (beL n T).take (j + 1) = (beL n T).take j ++ [255 - ((T / 256 ^ (n - 1 - j) % 256 : Nat) : Int)]
  | 0, _, _, h => by omega
  | n + 1, T, 0, _ => by simp [beL]
  | n + 1, T, j + 1, h => by
    rw [beL, List.take_succ_cons, List.take_succ_cons, beL_take n T j (by omega), List.cons_append]
    rw [show n + 1 - 1 - (j + 1) = n - 1 - j by omega]
open Go.RowKit
set_option maxHeartbeats 2000000 in
set_option maxRecDepth 100000 in
theorem pname_any (w : World) (base : Nat) (v : Value) (n : Nat) (xs : List Int) (s : ByteArray) (hown : w.ownsRow base 5 1 v n (bv xs)) (hbase : base ≤ w.heap.size) (hn : n ≤ 1000000) (hs : s.size ≤ 1000000) :
    Calls Tryz.prog 120 #[v, .string s] w fun e w' =>
      ∃ v', e = .returned v' ∧ w'.ownsRow base 5 1 v' (n + (nm (sb s)).length) (bv (xs ++ nm (sb s))) ∧ Below base w w' := by
  go_enter Tryz.func120, Tryz.ntmps120
  go_wp2_with fail
  go_loopw [0, 8] (fun b i wr => ∃ k : Nat, k ≤ s.size ∧ i = .int .i64 k ∧ wr.ownsRow base 5 1 b (n + (esc ((sb s).take k)).length) (bv (xs ++ esc ((sb s).take k))) ∧ Below base w wr) (fun _ i _ => s.size - (intOf i).toNat)
  case atStart => exact ⟨0, by omega, rfl, by simpa [esc] using hown, Below.refl _ _⟩
  case round =>
    clear hown
    obtain ⟨k, hk, rfl, O, B⟩ := hrel
    have hsz := B.size
    have hl : (esc ((sb s).take k)).length ≤ 2 * k := by
      have h1 := esc_len ((sb s).take k)
      have h2 : ((sb s).take k).length ≤ k := by simp; omega
      omega
    by_cases l1 : k < s.size
    · have i1 : (k : Int) < (s.size : Int) := by omega
      obtain ⟨x, hx⟩ : ∃ x : Nat, x = s[k].toNat := ⟨_, rfl⟩
      have hx8 : x < 256 := by rw [hx]; exact s[k].toNat_lt
      have r1 : ∀ W : World, (Instr.index 9 (.string s) (.int .i64 k)).run Tryz.prog W = .ok (.int .u8 x) W := fun W => by
        rw [run_index_string W _ s _ _ Tryz.underlying9, dif_pos ⟨by omega, i1⟩, hx]
        rfl
      have ht : Hid (esc ((sb s).take (k + 1)) = esc ((sb s).take k) ++ (if (x : Int) = 0 then [0, 255] else [(x : Int)])) := by
        show _ = _
        rw [sb_take s k l1, esc_append, ← hx]
        simp [esc]
      clear hx
      obtain ⟨p, hp⟩ : ∃ p, p = esc ((sb s).take k) := ⟨_, rfl⟩
      rw [← hp] at O hl ht
      clear hp
      by_cases hz : x = 0
      · subst hz
        go_wp2_with (first
          | (at_builtin; refine wpList_app rfl (.tmp 11) (.tmp 15) rfl base _ _ _ rfl (O.alloc _) _ 1 1 [0] rfl (Sl.one wr _ (by omega)) (by omega) (by simp; omega) ?_; intro v2 w2 O2 C2; have D2 : Below base w w2 := (B.alloc (by omega) _).trans C2; have s2 := D2.size; clear C2 O)
          | (at_builtin; refine wpList_app rfl (.tmp 21) (.tmp 22) rfl base _ _ _ rfl (O2.alloc _) _ 1 1 [255] rfl (Sl.one w2 _ (by omega)) (by omega) (by simp; omega) ?_; intro v3 w3 O3 C3; have D3 : Below base w w3 := (D2.alloc (by omega) _).trans C3; clear C3 O2))
        have O4 : w3.ownsRow base 5 1 v3 (n + (esc ((sb s).take (k + 1))).length) (bv (xs ++ esc ((sb s).take (k + 1)))) := by
          rw [ht.out]
          simpa [Nat.add_assoc] using O3
        go_roundw
        case rel => exact ⟨k + 1, by omega, by go_num, O4, D3⟩
        case measure => simp [intOf]; omega
      · have f1 : ((x : Int) == 0) = false := by simp; omega
        have hz' : ¬ (x : Int) = 0 := by omega
        go_wp2_with (at_builtin; refine wpList_app rfl (.tmp 11) (.tmp 15) rfl base _ _ _ rfl (O.alloc _) _ 1 1 [(x : Int)] rfl (Sl.one wr _ (by omega)) (by omega) (by simp; omega) ?_; intro v2 w2 O2 C2; have D2 : Below base w w2 := (B.alloc (by omega) _).trans C2; clear C2 O)
        have O4 : w2.ownsRow base 5 1 v2 (n + (esc ((sb s).take (k + 1))).length) (bv (xs ++ esc ((sb s).take (k + 1)))) := by
          rw [ht.out, if_neg hz']
          simpa [Nat.add_assoc] using O2
        go_roundw
        case rel => exact ⟨k + 1, by omega, by go_num, O4, D2⟩
        case measure => simp [intOf]; omega
    · have i1 : (s.size : Int) ≤ (k : Int) := by omega
      have ht : (sb s).take k = sb s := List.take_of_length_le (by rw [sb_len]; omega)
      rw [ht] at O hl
      clear ht
      go_wp2_with (at_builtin; refine wpList_app rfl (.tmp 25) (.tmp 26) rfl base _ _ _ rfl (O.alloc _) _ 2 2 [0, 1] rfl (Sl.new wr [0, 1] (by intro y hy; simp at hy; omega) (by simp [maxLen])) (by omega) (by simp; omega) ?_; intro v2 w2 O2 C2; have D2 : Below base w w2 := (B.alloc (by omega) _).trans C2; clear C2 O)
      have O3 : w2.ownsRow base 5 1 v2 (n + (nm (sb s)).length) (bv (xs ++ nm (sb s))) := by
        rw [nm_esc]
        simpa [Nat.add_assoc] using O2
      clear O2
      go_ret
      exact ⟨v2, rfl, O3, D2⟩
open Go.RowKit
theorem lack_byte (T m : Nat) (hT : T < 18446744073709551616) (hm : m ≤ 7) : (18446744073709551615 - T) / 256 ^ m % 256 = 255 - T / 256 ^ m % 256 := by
  obtain rfl | rfl | rfl | rfl | rfl | rfl | rfl | rfl : m = 0 ∨ m = 1 ∨ m = 2 ∨ m = 3 ∨ m = 4 ∨ m = 5 ∨ m = 6 ∨ m = 7 := by omega
  all_goals simp only [Nat.reducePow]
  all_goals omega
def KA.pre (k : KA) (j : Nat) : List Int := (if 0 < j then nm (sb k.row) else []) ++ ((if 1 < j then nm (sb k.fam) else []) ++ (if 2 < j then nm (sb k.qual) else []))
theorem KA.pre_len {k : KA} (hr : k.isRight = true) (j : Nat) : (k.pre j).length ≤ 300 := by
  have hsz := of_decide_eq_true hr
  have l1 := (nm_len (sb k.row)).2
  have l2 := (nm_len (sb k.fam)).2
  have l3 := (nm_len (sb k.qual)).2
  rw [sb_len] at l1 l2 l3
  unfold KA.pre
  rw [List.length_append, List.length_append]
  split <;> split <;> split <;> simp <;> omega
theorem KA.pre_byt (k : KA) (j : Nat) : Byt (k.pre j) := by
  have h1 := nm_byte _ (sb_byte k.row)
  have h2 := nm_byte _ (sb_byte k.fam)
  have h3 := nm_byte _ (sb_byte k.qual)
  have h0 : Byt [] := fun x hx => by simp at hx
  unfold KA.pre
  refine Byt.append ?_ (Byt.append ?_ ?_)
  all_goals split
  all_goals assumption
theorem KA.names_at {k : KA} (hr : k.isRight = true) (j : Nat) (hj : j < 3) : ∃ s : ByteArray, (∀ W : World, (Instr.index 139 (.agg #[.string k.row, .string k.fam, .string k.qual]) (.int .i64 j)).run Tryz.prog W = .ok (.string s) W) ∧ k.pre (j + 1) = k.pre j ++ nm (sb s) ∧ s.size ≤ 32 := by
  have hsz := of_decide_eq_true hr
  obtain rfl | rfl | rfl : j = 0 ∨ j = 1 ∨ j = 2 := by omega
  · exact ⟨k.row, fun _ => by kernel_rfl, by simp [KA.pre], by omega⟩
  · exact ⟨k.fam, fun _ => by kernel_rfl, by simp [KA.pre], by omega⟩
  · exact ⟨k.qual, fun _ => by kernel_rfl, by simp [KA.pre], by omega⟩
set_option maxHeartbeats 4000000 in
set_option maxRecDepth 100000 in
theorem pbytes_any (w : World) (k : KA) (hk : k.ok) (hr : k.isRight = true) :
    Calls Tryz.prog 101 #[k.val] w fun e w' => ∃ ao n c, e = .returned (.tuple #[.slice ao n c, .int .i64 0]) ∧ Sl w' ao n c (keyL k.kv) ∧ Below w.heap.size w w' := by
  have B1' : Below w.heap.size w (w.alloc (Obj.cells #[.string k.row, .string k.fam, .string k.qual, .int .u64 k.time] 24)) := (Below.refl _ w).alloc (Nat.le_refl _) _
  have K1' : ∀ i, (w.alloc (Obj.cells #[.string k.row, .string k.fam, .string k.qual, .int .u64 k.time] 24)).cell? ⟨w.heap.size, i, none⟩ = #[Value.string k.row, .string k.fam, .string k.qual, .int .u64 k.time][i]? := fun i => World.cell?_alloc_at _ _ _ _ rfl
  have hk0 : k.kind = 0 := by unfold KA.kind; rw [hr]; rfl
  have hti := hk.time
  obtain ⟨N, hN⟩ : ∃ N, N = w.heap.size := ⟨_, rfl⟩
  unfold KA.val
  go_enter Tryz.func101, Tryz.ntmps101
  go_wp2_with fail
  refine (pright_any _ k).mono ?_
  obtain ⟨w1, hw1⟩ : ∃ W, W = (w.alloc (Obj.cells #[.string k.row, .string k.fam, .string k.qual, .int .u64 k.time] 24)) := ⟨_, rfl⟩
  have z1 : w1.heap.size = w.heap.size + 1 := by rw [hw1]; simp
  rw [← hw1] at B1' K1' ⊢
  have B1 : Below w.heap.size w w1 := B1'
  rw [← hN] at K1'
  have HK : Hid (∀ V, Below w1.heap.size w1 V → ∀ i, V.cell? ⟨N, i, none⟩ = #[Value.string k.row, .string k.fam, .string k.qual, .int .u64 k.time][i]?) := by
    intro V hV i
    rw [hV.cell (by show N < _; omega)]
    exact K1' i
  clear hw1 B1' K1'
  rintro e w2 ⟨rfl, C2⟩
  rw [hk0, ← hN]
  have hNl : N < w1.heap.size := by omega
  have b1 := B1.size
  clear hk0 hN z1
  have s2 := C2.size
  have q2 : ∀ i, (w2.alloc (Obj.cells #[.slice none 0 0] 25)).cell? ⟨N, i, none⟩ = #[Value.string k.row, .string k.fam, .string k.qual, .int .u64 k.time][i]? := HK.out _ (C2.alloc (by omega) _)
  have r0 := q2 0
  have r1 := q2 1
  have r2 := q2 2
  have r3 := q2 3
  simp at r0 r1 r2 r3
  clear q2
  go_wp2_with fail
  refine (pnames_any _ k).mono ?_
  clear r0 r1 r2 r3
  obtain ⟨w3, hw3⟩ : ∃ W, W = w2.alloc (Obj.cells #[.slice none 0 0] 25) := ⟨_, rfl⟩
  obtain ⟨pb, hpb⟩ : ∃ p, p = w2.heap.size := ⟨_, rfl⟩
  have e3 : w3.heap[pb]? = some (.cells #[.slice none 0 0] 25) := by rw [hw3, hpb]; exact heap_alloc_new w2 _
  have z3 : w3.heap.size = pb + 1 := by rw [hw3, hpb]; simp
  have E3 : Below w1.heap.size w1 w3 := by rw [hw3]; exact C2.alloc (by omega) _
  rw [← hw3, ← hpb]
  have s3 : w1.heap.size ≤ pb := by omega
  clear hw3 hpb C2 s2
  rintro e w4 ⟨rfl, C4⟩
  have e4 : w4.heap[pb]? = some (.cells #[.slice none 0 0] 25) := (C4.block pb (by omega)).trans e3
  have E4 : Below w1.heap.size w1 w4 := E3.trans (C4.mono E3.size)
  have s4 := C4.size
  have z4 : pb + 1 ≤ w4.heap.size := by omega
  have HT : Hid (∀ V, Below pb w4 V → V.cell? ⟨N, 3, none⟩ = some (.int .u64 k.time)) := fun V hV => (hV.cell (by show N < pb; omega)).trans (HK.out w4 E4 3)
  have HW : Hid (∀ V, Below pb w4 V → Below w.heap.size w V) := fun V hV => B1.trans ((E4.trans (hV.mono s3)).mono b1)
  clear HK E3 e3 s4 C4 E4 B1 z3 hNl
  unfold KA.nv
  go_wp2_with fail
  have at0 : w4.ownsRow (pb + 1) 5 1 (.slice none 0 0) (k.pre 0).length (bv (k.pre 0)) := World.ownsRow_nil _ _ _ _
  have HE4 : Hid (w4.heap[pb]? = some (.cells #[.slice none 0 0] 25)) := e4
  clear e4
  go_loopw [7, 18] (fun _ i wr => ∃ (j : Nat) (v : Value), j ≤ 3 ∧ i = .int .i64 j ∧ wr.heap[pb]? = some (.cells #[v] 25) ∧ wr.ownsRow (pb + 1) 5 1 v (k.pre j).length (bv (k.pre j)) ∧ Below pb w4 wr) (fun _ i _ => 3 - (intOf i).toNat)
  case atStart => exact ⟨0, _, by omega, rfl, HE4.out, at0, Below.refl _ _⟩
  case round =>
    clear at0 HE4
    obtain ⟨j, v, hj, rfl, hv, O, B⟩ := hrel
    have bs := B.size
    have ple := KA.pre_len hr j
    by_cases l : j < 3
    · have il : (j : Int) < 3 := by omega
      obtain ⟨s, hidx, hpre, hs⟩ := KA.names_at hr j l
      have HP : Hid (k.pre (j + 1) = k.pre j ++ nm (sb s)) := hpre
      clear hpre
      have c0 : wr.cell? ⟨pb, 0, none⟩ = some v := by rw [cell_of_row wr pb 0 _ _ _ hv]; rfl
      go_wp2_with fail
      refine (pname_any wr (pb + 1) v _ _ s O (by omega) (by omega) (by omega)).mono ?_
      rintro e w5 ⟨v5, rfl, O5, C5⟩
      have e5 : w5.heap[pb]? = some (.cells #[v] 25) := (C5.block pb (by omega)).trans hv
      have c5 := cell_of_row w5 pb 0 _ _ _ e5
      have f5 := frozen_of_row w5 pb 0 _ _ e5
      have len : (k.pre j).length + (nm (sb s)).length = (k.pre (j + 1)).length := by rw [HP.out, List.length_append]
      rw [len, ← HP.out] at O5
      obtain ⟨so, sc, rfl, S5, -⟩ := Sl.own O5 (KA.pre_byt k (j + 1))
      have D5 : Below pb w4 (w5.setCell ⟨pb, 0, none⟩ (.slice so (k.pre (j + 1)).length sc)) := (B.trans (C5.mono (by omega))).setCell (Nat.le_refl _) _
      have O6 : (w5.setCell ⟨pb, 0, none⟩ (.slice so (k.pre (j + 1)).length sc)).ownsRow (pb + 1) 5 1 (.slice so (k.pre (j + 1)).length sc) (k.pre (j + 1)).length (bv (k.pre (j + 1))) := by
        refine O5.kept (row := some pb) ⟨rfl, rfl, rfl, by simp, fun k _ hk => heap_setCell_other w5 _ k _ (fun e => hk (by rw [e]))⟩ (.inr fun e => ?_)
        have := (O5.lt _ e).1
        omega
      have h6 : (w5.setCell ⟨pb, 0, none⟩ (.slice so (k.pre (j + 1)).length sc)).heap[pb]? = some (.cells #[.slice so (k.pre (j + 1)).length sc] 25) := by rw [heap_setCell_same w5 pb 0 _ _ _ e5]; rfl
      clear O5 S5 len O hv c0 B C5 hidx HP
      go_wp2
      go_roundw
      case rel => exact ⟨j + 1, _, by omega, by go_num, h6, O6, D5⟩
      case measure => simp [intOf]; omega
    · obtain rfl : j = 3 := by omega
      have t0 := HT.out wr B
      go_wp2_with fail
      obtain ⟨L, hL⟩ : ∃ L : Nat, L = 18446744073709551615 - k.time := ⟨_, rfl⟩
      have hLi : 18446744073709551615 - (k.time : Int) = (L : Int) := by omega
      obtain ⟨p, hp⟩ : ∃ p, p = wr.heap.size := ⟨_, rfl⟩
      obtain ⟨w6, hw6⟩ : ∃ W, W = wr.alloc (Obj.cells #[Value.int IntKind.u64 (L : Int)] 22) := ⟨_, rfl⟩
      rw [hLi, ← hw6, ← hp]
      have e6 : w6.heap[pb]? = some (.cells #[v] 25) := by rw [hw6, heap_alloc_old wr _ (by omega)]; exact hv
      have l6 : w6.heap[p]? = some (.cells #[.int .u64 (L : Int)] 22) := by rw [hw6, hp]; exact heap_alloc_new wr _
      have O6 : w6.ownsRow (pb + 1) 5 1 v (k.pre 3).length (bv (k.pre 3)) := by rw [hw6]; exact O.alloc _
      have B6 : Below pb w4 w6 := by rw [hw6]; exact B.alloc (by omega) _
      have HL : Hid (L = 18446744073709551615 - k.time) := hL
      have HE6 : Hid (w6.heap[pb]? = some (.cells #[v] 25)) := e6
      have HL6 : Hid (w6.heap[p]? = some (.cells #[.int .u64 (L : Int)] 22)) := l6
      have O6' : w6.ownsRow (pb + 1) 5 1 v ((k.pre 3).length + 0) (bv (k.pre 3 ++ (beL 8 k.time).take 0)) := by simpa using O6
      clear hL hLi hw6 hp O hv t0 B e6 l6 O6
      go_loopw [10, 29] (fun _ i wr => ∃ (j : Nat) (v : Value), j ≤ 8 ∧ i = .int .i64 j ∧ wr.heap[pb]? = some (.cells #[v] 25) ∧ wr.heap[p]? = some (.cells #[.int .u64 (L : Int)] 22) ∧ wr.ownsRow (pb + 1) 5 1 v ((k.pre 3).length + j) (bv (k.pre 3 ++ (beL 8 k.time).take j)) ∧ Below pb w4 wr) (fun _ i _ => 8 - (intOf i).toNat)
      case atStart => exact ⟨0, _, by omega, rfl, HE6.out, HL6.out, O6', B6⟩
      case round =>
        clear O6' HE6 HL6 B6 bs
        obtain ⟨j, v7, hj7, rfl, h7, l7, O7, B7⟩ := hrel
        have bs := B7.size
        by_cases l : j < 8
        · have il : (j : Int) < 8 := by omega
          have ht : Hid ((beL 8 k.time).take (j + 1) = (beL 8 k.time).take j ++ [((L / 256 ^ (7 - j) % 256 : Nat) : Int)]) := by
            show _ = _
            have hb := lack_byte k.time (7 - j) hti (by omega)
            have hx8 : k.time / 256 ^ (7 - j) % 256 < 256 := Nat.mod_lt _ (by omega)
            rw [HL.out, hb, beL_take 8 k.time j l]
            congr 2
            show (255 : Int) - ((k.time / 256 ^ (7 - j) % 256 : Nat) : Int) = _
            omega
          have hby : Byt (k.pre 3 ++ (beL 8 k.time).take j) := (KA.pre_byt k 3).append ((beL_byte 8 k.time).take j)
          go_wp2_with fail
          refine (padd_any wr pb p (pb + 1) v7 _ _ L (7 - j) h7 l7 O7 (by omega) (by omega) (by omega) (by omega) hby _ (by omega)).mono ?_
          rintro e w8 ⟨rfl, v8, h8, l8, O8, C8⟩
          have B8 : Below pb w4 w8 := B7.trans C8
          have O9 : w8.ownsRow (pb + 1) 5 1 v8 ((k.pre 3).length + (j + 1)) (bv (k.pre 3 ++ (beL 8 k.time).take (j + 1))) := by
            rw [ht.out, ← List.append_assoc]
            exact O8
          clear h7 l7 O7 B7 O8 C8 ht
          go_wp2
          go_roundw
          case rel => first | exact ⟨j + 1, _, by omega, by go_num, h8, l8, O9, B8⟩ | ((repeat apply Exists.intro); exact ⟨⟨j + 1, _, by omega, by go_num, h8, l8, O9, B8⟩, rfl⟩)
          case measure => simp [intOf]; omega
        · obtain rfl : j = 8 := by omega
          have ht : (beL 8 k.time).take 8 = beL 8 k.time := List.take_of_length_le (by rw [beL_len]; omega)
          have hkey : k.pre 3 ++ beL 8 k.time = keyL k.kv := by
            simp [KA.pre, keyL, KA.kv, List.append_assoc]
          rw [ht, hkey] at O7
          obtain ⟨go, gc, rfl, S9, -⟩ := Sl.own O7 (keyL_byte _ (KA.kv_byt hk))
          have c0 : wr.cell? ⟨pb, 0, none⟩ = some _ := cell_of_row wr pb 0 _ _ _ h7
          have BF := HW.out wr B7
          clear ht hkey O7 HL h7 l7 B7
          go_wp2
          go_ret2
          exact ⟨_, _, _, rfl, S9, BF⟩
set_option maxHeartbeats 2000000 in
set_option maxRecDepth 100000 in
theorem pbytes_bad (w : World) (k : KA) (hr : k.isRight = false) :
    Calls Tryz.prog 101 #[k.val] w fun e w' => e = .returned (.tuple #[.slice none 0 0, .int .i64 5]) ∧ Below w.heap.size w w' := by
  have B1 : Below w.heap.size w (w.alloc (Obj.cells #[.string k.row, .string k.fam, .string k.qual, .int .u64 k.time] 24)) := (Below.refl _ w).alloc (Nat.le_refl _) _
  have hk0 : k.kind = 5 := by unfold KA.kind; rw [hr]; rfl
  unfold KA.val
  go_enter Tryz.func101, Tryz.ntmps101
  go_wp2_with fail
  refine (pright_any _ k).mono ?_
  rintro e w2 ⟨rfl, C2⟩
  rw [hk0]
  clear hk0
  have B2 := B1.trans (C2.mono B1.size)
  go_wp2
  go_ret2
  exact ⟨rfl, B2⟩
end Go.Proofs.YtlljmhcgjkolpaaGreatDoor

/-
  Texts in one: Dig, TDefs, TNode, HRegA, HRegC, PCompare, PPlace, TKids, PSmall, OMem.
-/
import Derived.RangeFuncBox
import Derived.RangeFuncLeaves
import Derived.Shelf.Abstract
import Derived.OwnWalkIn
import Derived.TacticsInMore
import Derived.LoopNIn
import Derived.LoopIn
import Derived.Maps.AppendAt
import Derived.Test.YtlljmhcgjkolpaaGreatDoorSplitCutsQ0
import Derived.Test.YtlljmhcgjkolpaaGreatDoorSplitCutsQ2
import Derived.Deep.RegionHeld3
import Derived.Lib.Bytealg
import Derived.BigQuiet
import Derived.Lib.SliceRun
namespace Go.Proofs.YtlljmhcgjkolpaaGreatDoor
open Go.RowKit Go.Shelf
attribute [local go_sem] Oper.semAt_some
def dg (x : Int) : Int := if x < 10 then 48 + x else 87 + x
def hexL (xs : List Int) : List Int := xs.flatMap fun x => [dg (x / 16), dg (x % 16)]
theorem hexL_succ (xs : List Int) (k : Nat) (h : k < xs.length) : hexL (xs.take (k + 1)) = hexL (xs.take k) ++ [dg (xs.getD k 0 / 16)] ++ [dg (xs.getD k 0 % 16)] := by
  have e : xs.getD k 0 = xs[k] := by simp [List.getD, h]
  unfold hexL
  rw [List.take_add_one, List.getElem?_eq_getElem h, List.flatMap_append, e]
  simp
theorem hexL_len (xs : List Int) : (hexL xs).length = 2 * xs.length := by
  induction xs with
  | nil => rfl
  | cons x xs ih => simp only [hexL, List.flatMap_cons, List.length_append, List.length_cons, List.length_nil] at *; omega
theorem hexL_take_len (xs : List Int) (k : Nat) (h : k ≤ xs.length) : (hexL (xs.take k)).length = 2 * k := by
  rw [hexL_len, List.length_take]; omega
theorem hexL_pre (xs : List Int) (k : Nat) : hexL (xs.take k) <+: hexL xs := by
  refine ⟨hexL (xs.drop k), ?_⟩
  unfold hexL
  rw [← List.flatMap_append, List.take_append_drop]
theorem digitKey : ∀ n : Nat, (h : n < 16) → ((((⟨#[48, 49, 50, 51, 52, 53, 54, 55, 56, 57, 97, 98, 99, 100, 101, 102]⟩ : ByteArray)[n]'h).toNat : Nat) : Int) = dg n := by decide
theorem digitAt (x : Int) (h : 0 ≤ x ∧ x < 16) (w : World) : (Instr.index 9 (.string ⟨#[48, 49, 50, 51, 52, 53, 54, 55, 56, 57, 97, 98, 99, 100, 101, 102]⟩) (.int .u8 x)).run Tryz.prog w = .ok (.int .u8 (dg x)) w := by
  obtain ⟨n, rfl⟩ := Int.eq_ofNat_of_zero_le h.1
  rw [run_index_string _ _ _ _ _ Tryz.underlying9, dif_pos ⟨h.1, h.2⟩]
  have := digitKey n (by omega)
  rw [← this]
  rfl
set_option maxRecDepth 100000 in
set_option maxHeartbeats 2000000 in
theorem digits1_in (F : Fence) (n : Nat) (h6 : F.fn 171) (hro : F.round = none) (hn : 1 ≤ n) (l Bn n₀ : Nat) (ao : Option Addr) (m cap : Nat) (xs : List Int) (J Jx : List Int → World → Prop)
    (hY : ∀ pre x W, J pre W → pre.length < (hexL xs).length → YieldAt F (n - 1) Tryz.prog l #[.int .u8 x] W fun e W' =>
      (e = .returned (.bool true) ∧ J (pre ++ [x]) W' ∧ Below n₀ W W') ∨ (e = .returned (.bool false) ∧ Jx (pre ++ [x]) W'))
    (W : World) (hBn : W.cell? ⟨Bn, 0, none⟩ = some (.slice ao m cap)) (hL : Sl W ao m cap xs) (hlow : ∀ a, ao = some a → 0 < m → a.block < n₀) (h0 : J [] W) :
    CallsIn F n Tryz.prog 171 #[.func (.yield l) #[] #[], .pointer (some ⟨Bn, 0, none⟩)] W fun e W' => (∃ v, e = .returned v) ∧
      ((∃ ys, ys = hexL xs ∧ J ys W') ∨ (∃ pre, pre <+: hexL xs ∧ Jx pre W')) := by
  have hmx := hL.mx
  have hle := hL.le
  have hln := hL.len
  unfold maxLen at hmx
  refine callsIn_of_wp Tryz.func171 rfl h6 ?_ hro
  simp only [Tryz.ntmps171, List.size_toArray, List.length_cons, List.length_nil, Nat.reduceAdd, Nat.reduceSub, Array.replicate_succ, Array.replicate_zero, List.push_toArray, List.append_toArray, List.nil_append, List.cons_append]
  gi_wp2
  gi_loopw [7] (fun i wr => ∃ k : Nat, k ≤ m ∧ i = .int .i64 k ∧ Below n₀ W wr ∧ J (hexL (xs.take k)) wr) (fun i _ => m - (intOf i).toNat)
  case atStart => exact ⟨0, by omega, rfl, Below.refl _ _, h0⟩
  case round =>
    obtain ⟨k, hk, rfl, hB, hJ⟩ := hrel
    by_cases hlt : k < m
    · have hki : (k : Int) < (m : Int) := by omega
      obtain ⟨a, rfl⟩ : ∃ a, ao = some a := by
        cases ao with
        | none => exact absurd (hL.nil rfl).1 (by omega)
        | some a => exact ⟨a, rfl⟩
      have c0 := hL.cell a rfl k hlt
      have hab : (a.add k).block = a.block := by unfold Addr.add; split <;> rfl
      have c1 : wr.cell? (a.add k) = some (.int .u8 (xs.getD k 0)) := (hB.cell (by rw [hab]; exact hlow a rfl (by omega))).trans c0
      have hb := hL.byte.at k
      have hbe : xs[k]?.getD 0 = xs.getD k 0 := rfl
      rw [hbe] at hb
      have HS : Hid (hexL (xs.take (k + 1)) = hexL (xs.take k) ++ [dg (xs.getD k 0 / 16)] ++ [dg (xs.getD k 0 % 16)]) := hexL_succ xs k (by omega)
      have hpl := hexL_take_len xs k (by omega)
      have hal := hexL_len xs
      have hpre := hexL_pre xs (k + 1)
      rw [HS.out] at hpre
      obtain ⟨x, hx⟩ : ∃ x, x = xs.getD k 0 := ⟨_, rfl⟩
      rw [← hx] at c1 hb HS hpre
      clear hbe c0 hab hx
      have hd1 := digitAt (x / 16) (by omega)
      have hd2 := digitAt (x % 16) (by omega)
      obtain ⟨fn, tmps, assign, body, hy, hR⟩ := hY (hexL (xs.take k)) (dg (x / 16)) wr hJ (by omega)
      gi_wp2
      refine hR.mono ?_
      clear hR hy
      rintro e W3 (⟨rfl, hJ3, hk3⟩ | ⟨rfl, hJx3⟩)
      · obtain ⟨fn2, tmps2, assign2, body2, hy2, hR2⟩ := hY (hexL (xs.take k) ++ [dg (x / 16)]) (dg (x % 16)) W3 hJ3 (by rw [List.length_append, hpl, List.length_singleton]; omega)
        gi_wp2
        refine hR2.mono ?_
        clear hR2 hy2
        rintro e W4 (⟨rfl, hJ4, hk4⟩ | ⟨rfl, hJx4⟩)
        · gi_wp2
          go_roundw
          case rel => exact ⟨k + 1, by omega, by go_num, (hB.trans hk3).trans hk4, by rw [HS.out]; exact hJ4⟩
          case measure => simp [intOf]; omega
        · gi_wp2
          refine bodyPost_ret (results_none rfl _ _ _) rfl ?_
          exact ⟨⟨_, rfl⟩, .inr ⟨_, hpre, hJx4⟩⟩
      · gi_wp2
        refine ⟨fun _ h => (by cases h), ?_⟩
        gi_wp2
        refine bodyPost_ret (results_none rfl _ _ _) rfl ?_
        exact ⟨⟨_, rfl⟩, .inr ⟨_, (List.prefix_append _ _).trans hpre, hJx3⟩⟩
    · have hge : (m : Int) ≤ (k : Int) := by omega
      have e : xs.take k = xs := List.take_of_length_le (by omega)
      rw [e] at hJ
      clear e
      gi_wp2
      go_end0
      exact ⟨⟨_, rfl⟩, .inl ⟨_, rfl, hJ⟩⟩
set_option maxHeartbeats 1000000 in
theorem digits_in (F : Fence) (n : Nat) (h5 : F.fn 158) (hro : F.round = none) (v : Value) (ao : Option Addr) (m cap : Nat) (hv : v = .slice ao m cap) (w : World) :
    CallsIn F n Tryz.prog 158 #[v] w fun e w' => e = .returned (.func (.func 171) #[] #[.pointer (some ⟨w.heap.size, 0, none⟩)]) ∧ w' = w.alloc (.cells #[v] 25) := by
  subst hv
  refine callsIn_of_wp Tryz.func158 rfl h5 ?_ hro
  simp only [Tryz.ntmps158, List.size_toArray, List.length_cons, List.length_nil, Nat.reduceAdd, Nat.reduceSub, Array.replicate_succ, Array.replicate_zero, List.push_toArray, List.append_toArray, List.nil_append, List.cons_append]
  gi_wp2
  go_ret
  exact ⟨rfl, rfl⟩
theorem digits_stops (F : Fence) (n : Nat) (h6 : F.fn 171) (hro : F.round = none) (hn : 1 ≤ n) (Bn n₀ : Nat) (ao : Option Addr) (m cap : Nat) (xs : List Int) (w : World) (hBn : Bn < w.heap.size)
    (hc : w.cell? ⟨Bn, 0, none⟩ = some (.slice ao m cap)) (hL : Sl w ao m cap xs) (hlow : ∀ a, ao = some a → 0 < m → a.block < n₀) :
    SeqStopsK F n Tryz.prog 171 #[.pointer (some ⟨Bn, 0, none⟩)] (fun x : Int => #[Value.int .u8 x]) (Below n₀) (fun ys => ys = hexL xs) (fun pre => pre <+: hexL xs) (hexL xs).length w := fun l J Jx W hW _ _ hY h0 =>
  digits1_in F n h6 hro hn l Bn n₀ ao m cap xs J Jx hY W ((hW.cell (p := ⟨Bn, 0, none⟩) hBn).trans hc) (hL.below hW) hlow h0
open Go.RowKit
def lvS : ByteArray := ⟨#[108, 101, 118, 101, 108]⟩
def lev (k : List Int) : Nat := ((hexL (sumL (formL (sb lvS) [k]))).takeWhile fun c => c == 48).length
theorem takeWhile_le {α : Type} (p : α → Bool) : ∀ l : List α, (l.takeWhile p).length ≤ l.length
  | [] => by simp
  | a :: l => by
    rw [List.takeWhile_cons]
    split
    · have := takeWhile_le p l
      simp only [List.length_cons]
      omega
    · simp
theorem lev_le (k : List Int) : lev k ≤ 64 := by
  refine Nat.le_trans (takeWhile_le _ _) ?_
  rw [hexL_len, sumL_len]
  decide
structure Nd where
  b : Nat
  L : Nat
  ko : Option Addr
  kc : Nat
  vo : Option Addr
  vc : Nat
  co : Option Addr
  cc : Nat
  ks : List Part
  vs : List Part
  cs : List Value
def Nd.ptr (d : Nd) : Value := .pointer (some ⟨d.b, 0, none⟩)
structure Nd.ok (w : World) (d : Nd) : Prop where
  c0 : w.cell? ⟨d.b, 0, none⟩ = some (.int .i64 d.L)
  c1 : w.cell? ⟨d.b, 1, none⟩ = some (.slice d.ko d.ks.length d.kc)
  c2 : w.cell? ⟨d.b, 2, none⟩ = some (.slice d.vo d.vs.length d.vc)
  c3 : w.cell? ⟨d.b, 3, none⟩ = some (.slice d.co d.cs.length d.cc)
  kl : KL w d.ko d.ks.length d.kc d.ks
  vl : KL w d.vo d.vs.length d.vc d.vs
  cl : VL w d.co d.cs.length d.cc d.cs
  uf : ∃ (c : Array Value) (t : TypeId), w.heap[d.b]? = some (.cells c t (0, 0))
theorem Nd.ok.lt {w : World} {d : Nd} (h : d.ok w) : d.b < w.heap.size := World.block_lt_of_cell? w _ h.c0
theorem Nd.ok.below {w w' : World} {d : Nd} (h : d.ok w) (hb : Below w.heap.size w w') : d.ok w' :=
  ⟨(hb.cell (p := ⟨d.b, 0, none⟩) h.lt).trans h.c0, (hb.cell (p := ⟨d.b, 1, none⟩) h.lt).trans h.c1, (hb.cell (p := ⟨d.b, 2, none⟩) h.lt).trans h.c2, (hb.cell (p := ⟨d.b, 3, none⟩) h.lt).trans h.c3, h.kl.below hb, h.vl.below hb, h.cl.below hb, by obtain ⟨c, t, e⟩ := h.uf; exact ⟨c, t, (hb.block d.b h.lt).trans e⟩⟩
def TN (w : World) : Nat → Value → List It → Prop
  | 0, v, l => l = [] ∧ v = .pointer none
  | n + 1, v, l => (l = [] ∧ v = .pointer none) ∨ ∃ (d : Nd) (segs : List (List It)) (xs : List It), v = d.ptr ∧ d.ok w ∧ Shp lev l d.L segs xs ∧ d.ks.map Part.xs = xs.map It.k ∧ d.vs.map Part.xs = xs.map It.v ∧ d.cs.length = segs.length ∧
      ∀ (i : Nat) (s : List It), segs[i]? = some s → ∃ u, d.cs[i]? = some u ∧ TN w n u s
def T (w : World) (v : Value) (l : List It) : Prop := TN w l.length v l
theorem TN.re {w : World} : ∀ (n m : Nat) (v : Value) (l : List It), TN w n v l → l.length ≤ m → TN w m v l
  | 0, 0, _, _, h, _ => h
  | 0, m + 1, _, _, h, _ => .inl h
  | n + 1, 0, v, l, h, hm => by
    rcases h with h | ⟨d, segs, xs, rfl, hok, hs, _⟩
    · exact h
    · have h1 := hs.pos
      have h2 := hs.key xs[0] (List.getElem_mem h1)
      have : l = [] := List.eq_nil_of_length_eq_zero (by omega)
      rw [this] at h2
      simp at h2
  | n + 1, m + 1, v, l, h, hm => by
    rcases h with h | ⟨d, segs, xs, rfl, hok, hs, e1, e2, e3, hk⟩
    · exact .inl h
    · refine .inr ⟨d, segs, xs, rfl, hok, hs, e1, e2, e3, fun i s hi => ?_⟩
      obtain ⟨u, hu, ht⟩ := hk i s hi
      have := hs.shorter s (List.mem_of_getElem? hi)
      exact ⟨u, hu, TN.re n m u s ht (by omega)⟩
structure Nod (w : World) (l : List It) (d : Nd) (segs : List (List It)) (xs : List It) : Prop where
  ok : d.ok w
  shp : Shp lev l d.L segs xs
  ek : d.ks.map Part.xs = xs.map It.k
  ev : d.vs.map Part.xs = xs.map It.v
  ec : d.cs.length = segs.length
  kid : ∀ (i : Nat) (s : List It), segs[i]? = some s → ∃ u, d.cs[i]? = some u ∧ T w u s
theorem T.nil (w : World) : T w (.pointer none) [] := ⟨rfl, rfl⟩
theorem T.of {w : World} {l : List It} {d : Nd} {segs : List (List It)} {xs : List It} (h : Nod w l d segs xs) : T w d.ptr l := by
  have hp : 0 < l.length := by
    have h0 := h.shp.pos
    have h2 := h.shp.key xs[0] (List.getElem_mem h0)
    cases l with
    | nil => simp at h2
    | cons a l => simp
  unfold T
  obtain ⟨m, hm⟩ : ∃ m, l.length = m + 1 := ⟨l.length - 1, by omega⟩
  rw [hm]
  refine .inr ⟨d, segs, xs, rfl, h.ok, h.shp, h.ek, h.ev, h.ec, fun i s hi => ?_⟩
  obtain ⟨u, hu, ht⟩ := h.kid i s hi
  have := h.shp.shorter s (List.mem_of_getElem? hi)
  exact ⟨u, hu, TN.re _ m u s ht (by omega)⟩
theorem T.is {w : World} {v : Value} {l : List It} (h : T w v l) : (l = [] ∧ v = .pointer none) ∨ ∃ d segs xs, v = d.ptr ∧ Nod w l d segs xs := by
  have h' := TN.re _ (l.length + 1) v l h (by omega)
  rcases h' with h' | ⟨d, segs, xs, rfl, hok, hs, e1, e2, e3, hk⟩
  · exact .inl h'
  · refine .inr ⟨d, segs, xs, rfl, hok, hs, e1, e2, e3, fun i s hi => ?_⟩
    obtain ⟨u, hu, ht⟩ := hk i s hi
    exact ⟨u, hu, TN.re _ s.length u s ht (Nat.le_refl _)⟩
theorem T.one {w : World} {v : Value} {l : List It} (h : T w v l) : v.oneCell' = true := by
  rcases h.is with ⟨_, rfl⟩ | ⟨d, segs, xs, rfl, _⟩ <;> rfl
theorem TN.below {w w' : World} (hb : Below w.heap.size w w') : ∀ (n : Nat) (v : Value) (l : List It), TN w n v l → TN w' n v l
  | 0, _, _, h => h
  | n + 1, v, l, h => by
    rcases h with h | ⟨d, segs, xs, rfl, hok, hs, e1, e2, e3, hk⟩
    · exact .inl h
    · refine .inr ⟨d, segs, xs, rfl, hok.below hb, hs, e1, e2, e3, fun i s hi => ?_⟩
      obtain ⟨u, hu, ht⟩ := hk i s hi
      exact ⟨u, hu, TN.below hb n u s ht⟩
theorem T.below {w w' : World} {v : Value} {l : List It} (h : T w v l) (hb : Below w.heap.size w w') : T w' v l := TN.below hb _ v l h
theorem Nod.below {w w' : World} {l : List It} {d : Nd} {segs : List (List It)} {xs : List It} (h : Nod w l d segs xs) (hb : Below w.heap.size w w') : Nod w' l d segs xs :=
  ⟨h.ok.below hb, h.shp, h.ek, h.ev, h.ec, fun i s hi => by obtain ⟨u, hu, ht⟩ := h.kid i s hi; exact ⟨u, hu, ht.below hb⟩⟩
section
variable {w : World} {l : List It} {d : Nd} {segs : List (List It)} {xs : List It}
theorem Nod.nk (h : Nod w l d segs xs) : d.ks.length = xs.length := by simpa using congrArg List.length h.ek
theorem Nod.nv (h : Nod w l d segs xs) : d.vs.length = xs.length := by simpa using congrArg List.length h.ev
theorem Nod.nc (h : Nod w l d segs xs) : d.cs.length = xs.length + 1 := by rw [h.ec, h.shp.len]
theorem Nod.many (h : Nod w l d segs xs) : xs.length ≤ l.length := by
  have h0 : 0 < segs.length := by have := h.shp.len; omega
  have := weave_len segs xs h.shp.len segs[0] (List.getElem_mem h0)
  rw [h.shp.eq]
  omega
theorem Nod.one (h : Nod w l d segs xs) : ∀ u ∈ d.cs, u.oneCell' = true := fun u hu => by
  obtain ⟨i, hi, rfl⟩ := List.mem_iff_getElem.1 hu
  have hs : i < segs.length := by rw [← h.ec]; exact hi
  obtain ⟨u, hu, ht⟩ := h.kid i segs[i] (List.getElem?_eq_getElem hs)
  rw [List.getElem?_eq_getElem hi] at hu
  rw [Option.some.inj hu]
  exact ht.one
theorem Nod.kidAt (h : Nod w l d segs xs) (i : Nat) (hi : i ≤ xs.length) : ∃ b off s u, d.co = some ⟨b, off, none⟩ ∧ segs[i]? = some s ∧ d.cs[i]? = some u ∧ w.cell? ⟨b, off + i, none⟩ = some u ∧ T w u s ∧ s.length < l.length := by
  have hc := h.nc
  have hs : i < segs.length := by have := h.shp.len; omega
  obtain ⟨b, off, e, hcl⟩ := h.ok.cl.at (by omega)
  obtain ⟨u, hu, ht⟩ := h.kid i segs[i] (List.getElem?_eq_getElem hs)
  obtain ⟨hlt, hu'⟩ := List.getElem?_eq_some_iff.1 hu
  exact ⟨b, off, segs[i], u, e, List.getElem?_eq_getElem hs, hu, by rw [hcl i hlt, hu'], ht, h.shp.shorter _ (List.getElem_mem hs)⟩
end
theorem Nod.make {w : World} {g : Nat} {l : List It} {L : Nat} {ko vo co : Option Addr} {kn kc vn vc cn cc : Nat} {t : TypeId} {ks vs : List Part} {cs : List Value} {segs : List (List It)} {xs : List It}
    (hg : w.heap[g]? = some (.cells #[.int .i64 L, .slice ko kn kc, .slice vo vn vc, .slice co cn cc] t))
    (hk : KL w ko kn kc ks) (hv : KL w vo vn vc vs) (hc : VL w co cn cc cs) (hs : Shp lev l L segs xs) (ek : ks.map Part.xs = xs.map It.k) (ev : vs.map Part.xs = xs.map It.v) (ec : cs.length = segs.length)
    (kid : ∀ (i : Nat) (s : List It), segs[i]? = some s → ∃ u, cs[i]? = some u ∧ T w u s) : T w (.pointer (some ⟨g, 0, Option.none⟩)) l := by
  have e1 := hk.len
  have e2 := hv.len
  have e3 := hc.len
  subst e1 e2 e3
  exact T.of (d := ⟨g, L, ko, kc, vo, vc, co, cc, ks, vs, cs⟩) ⟨⟨cell_of_row w g 0 _ _ _ hg, cell_of_row w g 1 _ _ _ hg, cell_of_row w g 2 _ _ _ hg, cell_of_row w g 3 _ _ _ hg, hk, hv, hc, _, _, hg⟩, hs, ek, ev, ec, kid⟩
theorem weave_mid (P Q : List (List It)) (s : List It) (ys zs : List It) (h : P.length = ys.length) (h2 : Q.length = zs.length) : weave (P ++ s :: Q) (ys ++ zs) = wvA P ys ++ (s ++ weave ([] :: Q) zs) := by
  rw [weave_app _ _ _ _ h]
  congr 1
  cases zs with
  | nil =>
    obtain rfl : Q = [] := List.eq_nil_of_length_eq_zero h2
    simp [weave]
  | cons z zs => simp [weave]
theorem Shp.of {lv : List Int → Nat} {l : List It} {L : Nat} {P Q : List (List It)} {s ys zs : List It} (h : P.length = ys.length) (h2 : Q.length = zs.length) (hp : 0 < ys.length + zs.length) (e : l = wvA P ys ++ (s ++ weave ([] :: Q) zs))
    (ty : ∀ x ∈ ys, lv x.k = L) (tz : ∀ x ∈ zs, lv x.k = L) (lP : ∀ t ∈ P, ∀ x ∈ t, lv x.k < L) (lQ : ∀ t ∈ Q, ∀ x ∈ t, lv x.k < L) (ls : ∀ x ∈ s, lv x.k < L) : Shp lv l L (P ++ s :: Q) (ys ++ zs) := by
  refine ⟨by simp; omega, by simp; omega, by rw [e, weave_mid P Q s ys zs h h2], fun x hx => ?_, fun t ht => ?_⟩
  · rcases List.mem_append.1 hx with hx | hx
    · exact ty x hx
    · exact tz x hx
  · rcases List.mem_append.1 ht with ht | ht
    · exact lP t ht
    · rcases List.mem_cons.1 ht with rfl | ht
      · exact ls
      · exact lQ t ht
structure Cut (lv : List Int → Nat) (l : List It) (L : Nat) (segs : List (List It)) (xs : List It) (i : Nat) (s A B : List It) : Prop where
  seg : segs[i]? = some s
  le : i ≤ xs.length
  es : segs = segs.take i ++ s :: segs.drop (i + 1)
  eA : A = wvA (segs.take i) (xs.take i)
  eB : B = weave ([] :: segs.drop (i + 1)) (xs.drop i)
  el : l = A ++ (s ++ B)
  l1 : (segs.take i).length = (xs.take i).length
  l2 : (segs.drop (i + 1)).length = (xs.drop i).length
  ty : ∀ x ∈ xs.take i, lv x.k = L
  tz : ∀ x ∈ xs.drop i, lv x.k = L
  lP : ∀ t ∈ segs.take i, ∀ x ∈ t, lv x.k < L
  lQ : ∀ t ∈ segs.drop (i + 1), ∀ x ∈ t, lv x.k < L
  ls : ∀ x ∈ s, lv x.k < L
theorem Shp.cut {lv : List Int → Nat} {l : List It} {L : Nat} {segs : List (List It)} {xs : List It} (h : Shp lv l L segs xs) (i : Nat) (hi : i ≤ xs.length) : ∃ s A B, Cut lv l L segs xs i s A B := by
  obtain ⟨s, h1, h2, h3⟩ := h.at i hi
  have hl := h.len
  exact ⟨s, _, _, h1, hi, h2, rfl, rfl, h3, by simp; omega, by simp; omega, fun x hx => h.top x (List.mem_of_mem_take hx), fun x hx => h.top x (List.mem_of_mem_drop hx), fun t ht => h.low t (List.mem_of_mem_take ht), fun t ht => h.low t (List.mem_of_mem_drop ht), h.low s (List.mem_of_getElem? h1)⟩
section
variable {lv : List Int → Nat} {l : List It} {L : Nat} {segs : List (List It)} {xs : List It} {i : Nat} {s A B : List It}
theorem Cut.set (c : Cut lv l L segs xs i s A B) (hp : 0 < xs.length) {s' : List It} (ls : ∀ x ∈ s', lv x.k < L) : Shp lv (A ++ (s' ++ B)) L (segs.take i ++ s' :: segs.drop (i + 1)) xs := by
  have := Shp.of (l := A ++ (s' ++ B)) (s := s') c.l1 c.l2 (by simp; have := c.le; omega) (by rw [c.eA, c.eB]) c.ty c.tz c.lP c.lQ ls
  rwa [List.take_append_drop] at this
theorem Cut.front (c : Cut lv l L segs xs i s A B) (hi : 0 < i) {s' : List It} (ls : ∀ x ∈ s', lv x.k < L) : Shp lv (A ++ s') L (segs.take i ++ [s']) (xs.take i) := by
  have := Shp.of (l := A ++ s') (Q := []) (zs := []) (s := s') c.l1 rfl (by simp; have := c.le; omega) (by simp [weave, c.eA]) c.ty (by simp) c.lP (by simp) ls
  simpa using this
theorem Cut.back (c : Cut lv l L segs xs i s A B) (hi : i < xs.length) {s' : List It} (ls : ∀ x ∈ s', lv x.k < L) : Shp lv (s' ++ B) L (s' :: segs.drop (i + 1)) (xs.drop i) := by
  have := Shp.of (l := s' ++ B) (P := []) (ys := []) (s := s') rfl c.l2 (by simp; omega) (by simp [wvA, c.eB]) (by simp) c.tz (by simp) c.lQ ls
  simpa using this
theorem Cut.more (c : Cut lv l L segs xs i s A B) {x : It} (hx : lv x.k = L) {s1 s2 : List It} (h1 : ∀ x ∈ s1, lv x.k < L) (h2 : ∀ x ∈ s2, lv x.k < L) :
    Shp lv (A ++ (s1 ++ x :: (s2 ++ B))) L (segs.take i ++ s1 :: s2 :: segs.drop (i + 1)) (xs.take i ++ x :: xs.drop i) := by
  refine Shp.of (l := A ++ (s1 ++ x :: (s2 ++ B))) (Q := s2 :: segs.drop (i + 1)) (zs := x :: xs.drop i) (s := s1) c.l1 (by have := c.l2; simp only [List.length_cons]; omega) (by simp only [List.length_cons]; omega) ?_ c.ty ?_ c.lP ?_ h1
  · have e : weave (s2 :: segs.drop (i + 1)) (xs.drop i) = s2 ++ B := by
      have := weave_mid [] (segs.drop (i + 1)) s2 [] (xs.drop i) rfl c.l2
      simp only [List.nil_append, wvA] at this
      rw [this, c.eB]
    rw [c.eA]
    simp only [weave, List.nil_append, e]
  · intro y hy
    rcases List.mem_cons.1 hy with rfl | hy
    · exact hx
    · exact c.tz y hy
  · intro t ht
    rcases List.mem_cons.1 ht with rfl | ht
    · exact h2
    · exact c.lQ t ht
theorem Cut.next (c : Cut lv l L segs xs i s A B) (hi : i < xs.length) : ∃ t Q, segs.drop (i + 1) = t :: Q ∧ Q = segs.drop (i + 2) ∧ Q.length = (xs.drop (i + 1)).length ∧ (∀ x ∈ t, lv x.k < L) ∧ B = xs[i] :: (t ++ weave ([] :: Q) (xs.drop (i + 1))) := by
  have hl := c.l2
  have e : xs.drop i = xs[i] :: xs.drop (i + 1) := List.drop_eq_getElem_cons hi
  cases hd : segs.drop (i + 1) with
  | nil =>
    rw [hd] at hl
    simp at hl
    omega
  | cons t Q =>
    have hQ : Q = segs.drop (i + 2) := by
      have := congrArg (List.drop 1) hd
      rw [List.drop_drop] at this
      simpa using this.symm
    have hl2 : Q.length = (xs.drop (i + 1)).length := by rw [hd] at hl; simp at hl ⊢; omega
    refine ⟨t, Q, rfl, hQ, hl2, c.lQ t (by rw [hd]; exact List.mem_cons_self ..), ?_⟩
    have h3 := weave_mid [] Q t [] (xs.drop (i + 1)) rfl hl2
    simp only [List.nil_append, wvA] at h3
    rw [c.eB, hd, e]
    simp only [weave, List.nil_append, h3]
theorem Cut.swap (c : Cut lv l L segs xs i s A B) (hi : i < xs.length) {x : It} (hx : lv x.k = L) : ∃ B', B = xs[i] :: B' ∧ Shp lv (A ++ (s ++ x :: B')) L segs (xs.take i ++ x :: xs.drop (i + 1)) := by
  obtain ⟨t, Q, hd, -, hl, ht, hB⟩ := c.next hi
  refine ⟨_, hB, ?_⟩
  have hQ : ∀ u ∈ Q, ∀ x ∈ u, lv x.k < L := fun u hu => c.lQ u (by rw [hd]; exact List.mem_cons_of_mem _ hu)
  have e : segs = segs.take i ++ s :: (t :: Q) := by rw [← hd]; exact c.es
  have := Shp.of (l := A ++ (s ++ x :: (t ++ weave ([] :: Q) (xs.drop (i + 1))))) (P := segs.take i) (ys := xs.take i) (Q := t :: Q) (zs := x :: xs.drop (i + 1)) (s := s) (L := L) (lv := lv) c.l1 (by simp only [List.length_cons]; omega) (by simp only [List.length_cons]; omega)
    (by
      rw [c.eA]
      have h3 := weave_mid [] Q t [] (xs.drop (i + 1)) rfl hl
      simp only [List.nil_append, wvA] at h3
      simp only [weave, List.nil_append, h3]) c.ty
    (by
      intro y hy
      rcases List.mem_cons.1 hy with rfl | hy
      · exact hx
      · exact c.tz y (by rw [List.drop_eq_getElem_cons hi]; exact List.mem_cons_of_mem _ hy)) c.lP
    (by
      intro u hu
      rcases List.mem_cons.1 hu with rfl | hu
      · exact ht
      · exact hQ u hu) c.ls
  rw [← e] at this
  exact this
theorem Cut.key (c : Cut lv l L segs xs i s A B) (hs : Srt l) {key : List Int} (hlo : ∀ j (h : j < xs.length), j < i → cmpL xs[j].k key < 0) (hhi : ∀ j (h : j < xs.length), i ≤ j → ¬ cmpL xs[j].k key < 0) :
    (∀ x ∈ A, cmpL x.k key < 0) ∧ (∀ x ∈ B, ¬ cmpL x.k key < 0) ∧ ((∀ h : i < xs.length, xs[i].k ≠ key) → ∀ x ∈ B, cmpL key x.k < 0) := by
  have hle := c.le
  have hl1 := c.l1
  rw [c.el] at hs
  obtain ⟨hA, hsB, hAB⟩ := hs.app
  obtain ⟨hs', hB, -⟩ := hsB.app
  refine ⟨?_, ?_⟩
  · rcases Nat.eq_zero_or_pos i with rfl | hp
    · rw [c.eA]
      simp [wvA]
    · obtain ⟨j, rfl⟩ : ∃ j, i = j + 1 := ⟨i - 1, by omega⟩
      have hj : j < xs.length := by omega
      have hjs : j < segs.length := by simp at hl1; omega
      have e : A = wvA (segs.take j) (xs.take j) ++ (segs[j] ++ [xs[j]]) := by
        rw [c.eA, List.take_add_one, List.take_add_one, List.getElem?_eq_getElem hj, List.getElem?_eq_getElem hjs, wvA_app _ _ _ _ (by simp; omega)]
        simp [wvA]
      intro x hx
      have hk := hlo j hj (by omega)
      rw [e, ← List.append_assoc] at hA
      obtain ⟨-, -, h3⟩ := hA.app
      rw [e, ← List.append_assoc] at hx
      rcases List.mem_append.1 hx with hx | hx
      · exact cmpL_lt_trans _ _ _ (h3 x hx _ (List.mem_singleton.2 rfl)) hk
      · rw [List.mem_singleton.1 hx]
        exact hk
  · rcases Nat.lt_or_ge i xs.length with hi | hi
    · obtain ⟨t, Q, hd, -, hl, ht, e⟩ := c.next hi
      have hk := hhi i hi (Nat.le_refl _)
      rw [e] at hB ⊢
      obtain ⟨h3, -⟩ := hB.cons
      constructor
      · intro x hx
        rcases List.mem_cons.1 hx with rfl | hx
        · exact hk
        · intro h4
          exact hk (cmpL_lt_trans _ _ _ (h3 x hx) h4)
      · intro hne x hx
        have h5 : cmpL key xs[i].k < 0 := by
          rcases cmpL_total xs[i].k key with h | h | h
          · exact absurd h hk
          · exact absurd h (hne hi)
          · exact h
        rcases List.mem_cons.1 hx with rfl | hx
        · exact h5
        · exact cmpL_lt_trans _ _ _ h5 (h3 x hx)
    · have : xs.drop i = [] := List.drop_eq_nil_of_le hi
      have e : B = [] := by rw [c.eB, this]; rfl
      rw [e]
      simp
end
theorem lo_mid {A s B : List It} {key : List Int} (hA : ∀ x ∈ A, cmpL x.k key < 0) (hB : ∀ x ∈ B, ¬ cmpL x.k key < 0) : lo key (A ++ (s ++ B)) = A ++ lo key s := by
  rw [lo_append, lo_append, lo_all hA, lo_none hB, List.append_nil]
theorem hi_mid {A s B : List It} {key : List Int} (hA : ∀ x ∈ A, cmpL x.k key < 0) (hB : ∀ x ∈ B, cmpL key x.k < 0) : hi key (A ++ (s ++ B)) = hi key s ++ B := by
  rw [hi_append, hi_append, hi_all hB, hi_none (fun x hx => cmpL_asym (hA x hx)), List.nil_append]
theorem ins_mid {A s B : List It} {x : It} (hA : ∀ y ∈ A, cmpL y.k x.k < 0) (hB : ∀ y ∈ B, cmpL x.k y.k < 0) : ins (A ++ (s ++ B)) x = A ++ (ins s x ++ B) := by
  unfold ins
  rw [lo_mid hA (fun y hy => cmpL_asym (hB y hy)), hi_mid hA hB]
  simp
theorem ins_at {l A B : List It} {x y : It} (h : Srt l) (e : l = A ++ y :: B) (hk : y.k = x.k) : ins l x = A ++ x :: B := by
  obtain ⟨h1, h2⟩ := h.split e
  unfold ins
  rw [← hk, h1, h2]
theorem ins_lev {lv : List Int → Nat} {l : List It} {x : It} {L : Nat} (h : ∀ y ∈ l, lv y.k < L) (hx : lv x.k < L) : ∀ y ∈ ins l x, lv y.k < L := by
  intro y hy
  rcases List.mem_append.1 hy with hy | hy
  · exact h y (mem_lo.1 hy).1
  · rcases List.mem_cons.1 hy with rfl | hy
    · exact hx
    · exact h y (mem_hi.1 hy).1
theorem Shp.single {lv : List Int → Nat} {s1 s2 : List It} {x : It} {L : Nat} (hx : lv x.k = L) (h1 : ∀ y ∈ s1, lv y.k < L) (h2 : ∀ y ∈ s2, lv y.k < L) : Shp lv (s1 ++ x :: s2) L [s1, s2] [x] := by
  refine ⟨rfl, by simp, by simp [weave], fun y hy => by rw [List.mem_singleton.1 hy]; exact hx, fun t ht => ?_⟩
  rcases List.mem_cons.1 ht with rfl | ht
  · exact h1
  · rw [List.mem_singleton.1 ht]
    exact h2
theorem Shp.rise {lv : List Int → Nat} {l : List It} {L : Nat} {segs : List (List It)} {xs : List It} (h : Shp lv l L segs xs) (hs : Srt l) : Srt xs := by
  rw [h.unique.2.2]
  exact List.Pairwise.filter _ hs
end Go.Proofs.YtlljmhcgjkolpaaGreatDoor
namespace Go
section
variable {P : Program} {ops : Array Oper} {S : World → Prop} {Q : Exit → Act → World → Prop} {fuel : Nat} {listed : Array Bool} {a : Act} {w : World}
theorem hr_take (i : Nat) (d : Option Tmp) (v : Value) {oi : Oper} (hi : ops[i]? = some oi) (hd : oi.dst = d) (hs : Region.noSelect ops = true) (hf : Region.free .any ops listed i = true) (hr : (Region.ready .any ops listed).contains i = true)
    (hg : oi.guard = none) (hrun : ∀ W, S W → (execOp a.eval oi).run P W = .ok (.value v) W) (hS : S w) (h : wpAnyH P .any ops (NoPanic Q) S fuel (listed.setIfInBounds i true) (a.put d v) w) : wpAnyH P .any ops (NoPanic Q) S (fuel + 1) listed a w :=
  wpAnyH_take hi hs hf hr (fun _ _ _ h => h) (.inl ⟨by simp [Region.wanted, hg], hrun⟩) hS (by rw [hd]; exact h)
theorem hr_take_w (i : Nat) (d : Option Tmp) (v : Value) {oi : Oper} (hi : ops[i]? = some oi) (hd : oi.dst = d) (hs : Region.noSelect ops = true) (hf : Region.free .any ops listed i = true) (hr : (Region.ready .any ops listed).contains i = true)
    (hw : Region.wanted oi (yielded ops a.tmps) = true) (hrun : ∀ W, S W → (execOp a.eval oi).run P W = .ok (.value v) W) (hS : S w) (h : wpAnyH P .any ops (NoPanic Q) S fuel (listed.setIfInBounds i true) (a.put d v) w) : wpAnyH P .any ops (NoPanic Q) S (fuel + 1) listed a w :=
  wpAnyH_take hi hs hf hr (fun _ _ _ h => h) (.inl ⟨hw, hrun⟩) hS (by rw [hd]; exact h)
theorem hr_none (i : Nat) (d : Option Tmp) {oi : Oper} (hi : ops[i]? = some oi) (hd : oi.dst = d) (hs : Region.noSelect ops = true) (hf : Region.free .any ops listed i = true) (hr : (Region.ready .any ops listed).contains i = true)
    (hw : Region.wanted oi (yielded ops a.tmps) = false) (hS : S w) (h : wpAnyH P .any ops (NoPanic Q) S fuel (listed.setIfInBounds i true) (a.put d undef) w) : wpAnyH P .any ops (NoPanic Q) S (fuel + 1) listed a w :=
  wpAnyH_take hi hs hf hr (fun _ _ _ h => h) (.inr ⟨hw, rfl⟩) hS (by rw [hd]; exact h)
theorem hr_do (i : Nat) (d : Option Tmp) (v : Value) {oi : Oper} {w' : World} (hi : ops[i]? = some oi) (hd : oi.dst = d) (hr : Region.ready .any ops listed = [i]) (hg : oi.guard = none) (hrun : (execOp a.eval oi).run P w = .ok (.value v) w') (hS : S w')
    (h : wpAnyH P .any ops (NoPanic Q) S fuel (listed.setIfInBounds i true) (a.put d v) w') : wpAnyH P .any ops (NoPanic Q) S (fuel + 1) listed a w := by
  refine wpAnyH_all hr (by simp) fun j hj => ?_
  obtain rfl := List.mem_singleton.1 hj
  have hw : Region.wanted oi (yielded ops a.tmps) = true := by simp [Region.wanted, hg]
  unfold wpOp
  simp only [hi, hw, if_true, Oper.wp, hrun, Oper.upon, hd]
  exact .inl ⟨hS, h⟩
theorem hr_skip (i : Nat) (d : Option Tmp) {oi : Oper} {w' : World} (hi : ops[i]? = some oi) (hd : oi.dst = d) (hr : Region.ready .any ops listed = [i]) (hg : oi.guard = none) (hrun : (execOp a.eval oi).run P w = .ok .skip w') (hS : S w')
    (h : wpAnyH P .any ops (NoPanic Q) S fuel (listed.setIfInBounds i true) (a.put d undef) w') : wpAnyH P .any ops (NoPanic Q) S (fuel + 1) listed a w := by
  refine wpAnyH_all hr (by simp) fun j hj => ?_
  obtain rfl := List.mem_singleton.1 hj
  have hw : Region.wanted oi (yielded ops a.tmps) = true := by simp [Region.wanted, hg]
  unfold wpOp
  simp only [hi, hw, if_true, Oper.wp, hrun, Oper.upon, hd]
  exact .inl ⟨hS, h⟩
theorem hr_call_w (i : Nat) (d : Option Tmp) {oi : Oper} (f : FuncId) (args : Array Value) (hi : ops[i]? = some oi) (hd : oi.dst = d) (hr : Region.ready .any ops listed = [i]) (hw : Region.wanted oi (yielded ops a.tmps) = true) (hrun : (execOp a.eval oi).run P w = .ok (.enter f args) w)
    (R : Value → World → Prop) (hc : Calls P f args w fun e w' => ∃ v, e = .returned v ∧ R v w')
    (h : ∀ v w', R v w' → S w' ∧ wpAnyH P .any ops (NoPanic Q) S fuel (listed.setIfInBounds i true) (a.put d v) w') : wpAnyH P .any ops (NoPanic Q) S (fuel + 1) listed a w := by
  refine wpAnyH_all hr (by simp) fun j hj => ?_
  obtain rfl := List.mem_singleton.1 hj
  unfold wpOp
  simp only [hi, hw, if_true, Oper.wp, hrun, Oper.upon, hd]
  refine .inl (hc.mono ?_)
  rintro e w' ⟨v, rfl, hR⟩
  exact h v w' hR
end
end Go
namespace Go
section
variable {P : Program} {ops : Array Oper} {S : World → Prop} {Q : Exit → Act → World → Prop} {fuel : Nat} {listed : Array Bool} {a : Act} {w : World}
theorem hr_ex (i : Nat) (d : Option Tmp) {oi : Oper} {R : Value → World → Prop} (hi : ops[i]? = some oi) (hd : oi.dst = d) (hr : Region.ready .any ops listed = [i]) (hw : Region.wanted oi (yielded ops a.tmps) = true)
    (hrun : ∃ v w', (execOp a.eval oi).run P w = .ok (.value v) w' ∧ R v w')
    (h : ∀ v w', R v w' → S w' ∧ wpAnyH P .any ops (NoPanic Q) S fuel (listed.setIfInBounds i true) (a.put d v) w') : wpAnyH P .any ops (NoPanic Q) S (fuel + 1) listed a w := by
  refine wpAnyH_all hr (by simp) fun j hj => ?_
  obtain rfl := List.mem_singleton.1 hj
  obtain ⟨v, w', hrun, hR⟩ := hrun
  unfold wpOp
  simp only [hi, hw, if_true, Oper.wp, hrun, Oper.upon, hd]
  exact .inl (h v w' hR)
theorem op_ex (i : Nat) (d : Option Tmp) {oi : Oper} {R : Value → World → Prop} (hi : ops[i]? = some oi) (hd : oi.dst = d) (hw : Region.wanted oi (yielded ops a.tmps) = true)
    (hrun : ∃ v w', (execOp a.eval oi).run P w = .ok (.value v) w' ∧ R v w')
    (h : ∀ v w', R v w' → S w' ∧ wpAnyH P .any ops (NoPanic Q) S fuel (listed.setIfInBounds i true) (a.put d v) w') : wpOp P ops (NoPanic Q) i (fun a' w' => S w' ∧ wpAnyH P .any ops (NoPanic Q) S fuel (listed.setIfInBounds i true) a' w') a w := by
  obtain ⟨v, w', hrun, hR⟩ := hrun
  unfold wpOp
  simp only [hi, hw, if_true, Oper.wp, hrun, Oper.upon, hd]
  exact .inl (h v w' hR)
theorem op_calls (i : Nat) (d : Option Tmp) {oi : Oper} (f : FuncId) (args : Array Value) (hi : ops[i]? = some oi) (hd : oi.dst = d) (hw : Region.wanted oi (yielded ops a.tmps) = true) (hrun : (execOp a.eval oi).run P w = .ok (.enter f args) w)
    (R : Value → World → Prop) (hc : Calls P f args w fun e w' => ∃ v, e = .returned v ∧ R v w')
    (h : ∀ v w', R v w' → S w' ∧ wpAnyH P .any ops (NoPanic Q) S fuel (listed.setIfInBounds i true) (a.put d v) w') : wpOp P ops (NoPanic Q) i (fun a' w' => S w' ∧ wpAnyH P .any ops (NoPanic Q) S fuel (listed.setIfInBounds i true) a' w') a w := by
  unfold wpOp
  simp only [hi, hw, if_true, Oper.wp, hrun, Oper.upon, hd]
  refine .inl (hc.mono ?_)
  rintro e w' ⟨v, rfl, hR⟩
  exact h v w' hR
theorem hr_any {rs : List Nat} (hr : Region.ready .any ops listed = rs) (hne : rs ≠ []) (h : ∀ i ∈ rs, wpOp P ops (NoPanic Q) i (fun a' w' => S w' ∧ wpAnyH P .any ops (NoPanic Q) S fuel (listed.setIfInBounds i true) a' w') a w) : wpAnyH P .any ops (NoPanic Q) S (fuel + 1) listed a w :=
  wpAnyH_all hr hne h
end
end Go
namespace Go.Proofs.YtlljmhcgjkolpaaGreatDoor
open Go.RowKit
theorem Addr.add_nought (a : Addr) : a.add 0 = a := by
  obtain ⟨b, o, s⟩ := a
  cases s <;> simp [Addr.add]
theorem run_front {P : Program} {W : World} {t e : TypeId} {ao : Option Addr} {n cap i c : Nat} (ht : P.underlying t = some (.slice e)) (h1 : i ≤ c) (h2 : c ≤ cap) (hs : ∀ w, (sizeOf e).run P w = .ok 1 w) :
    (Instr.sliceAt t (.slice ao n cap) none (some (.int .i64 (i : Nat))) (some (.int .i64 (c : Nat)))).run P W = .ok (.slice ao i c) W := by
  have he : P.elem t = e := by simp [Program.elem, ht]
  rw [run_sliceAt_slice W t _ _ _ _ (by rw [he]; exact ht), run_slice_hm W t ao n cap (by rw [he]; exact ht) .i64 .i64 i c (by omega) (by omega) (by omega), he, hs]
  simp only [Result.andThen_ok, sliced, Int.toNat_natCast, Nat.zero_mul, Nat.sub_zero]
  cases ao with
  | none => simp
  | some a => simp [Addr.add_nought]
theorem run_upto {P : Program} {W : World} {t e : TypeId} {ao : Option Addr} {n cap i : Nat} (ht : P.underlying t = some (.slice e)) (h1 : i ≤ cap) (hs : ∀ w, (sizeOf e).run P w = .ok 1 w) :
    (Instr.sliceAt t (.slice ao n cap) none (some (.int .i64 (i : Nat))) none).run P W = .ok (.slice ao i cap) W := by
  have he : P.elem t = e := by simp [Program.elem, ht]
  rw [run_sliceAt_slice W t _ _ _ _ (by rw [he]; exact ht), run_slice_h W t ao n cap (by rw [he]; exact ht) .i64 i (by omega) (by omega), he, hs]
  simp only [Result.andThen_ok, sliced, Int.toNat_natCast, Nat.zero_mul, Nat.sub_zero]
  cases ao with
  | none => simp
  | some a => simp [Addr.add_nought]
def bk (ao : Option Addr) (cap j : Nat) : Option Addr := if cap = j then ao else ao.map (·.add j)
theorem run_back {P : Program} {W : World} {t e : TypeId} {ao : Option Addr} {n cap j : Nat} (ht : P.underlying t = some (.slice e)) (h1 : j ≤ n) (hs : ∀ w, (sizeOf e).run P w = .ok 1 w) :
    (Instr.sliceAt t (.slice ao n cap) (some (.int .i64 (j : Nat))) none none).run P W = .ok (.slice (bk ao cap j) (n - j) (cap - j)) W := by
  have he : P.elem t = e := by simp [Program.elem, ht]
  rw [run_sliceAt_slice W t _ _ _ _ (by rw [he]; exact ht), run_slice_l W t ao n cap (by rw [he]; exact ht) .i64 j (by omega) (by omega), he, hs]
  simp only [Result.andThen_ok, sliced, Int.toNat_natCast, Nat.mul_one, bk]
theorem VL.from {w : World} {ao : Option Addr} {n cap : Nat} {vs : List Value} (h : VL w ao n cap vs) (j : Nat) (hj : j ≤ n) : VL w (bk ao cap j) (n - j) (cap - j) (vs.drop j) := by
  cases ao with
  | some a => 
    have := h.back j hj
    unfold bk
    by_cases hc : cap = j
    · rw [if_pos hc] at this ⊢
      exact this
    · rw [if_neg hc] at this ⊢
      exact this
  | none =>
    obtain ⟨rfl, rfl⟩ := h.nil rfl
    obtain rfl : j = 0 := by omega
    obtain rfl : vs = [] := List.eq_nil_of_length_eq_zero h.len
    exact VL.nothing w
theorem size1 (e : TypeId) (h : (Tryz.prog.info? e).map (·.size) = some 1) (w : World) : (sizeOf e).run Tryz.prog w = .ok 1 w := by
  cases hi : Tryz.prog.info? e with
  | none => rw [hi] at h; simp at h
  | some i =>
    rw [hi] at h
    simp only [Option.map_some, Option.some.injEq] at h
    simp [sizeOf, typeInfo, hi, h]
open Go.RowKit
theorem sb_push (s : ByteArray) (b : UInt8) : sb (s.push b) = sb s ++ [(b.toNat : Int)] := by
  simp [sb, ByteArray.push]
theorem load_bytes {w : World} : ∀ (n : Nat) (a : Addr) (xs : List Int) (acc : ByteArray), xs.length = n → Byt xs → (∀ i, i < n → w.cell? (a.add i) = some (.int .u8 (xs.getD i 0))) →
    ∃ s, (Extern.Bytes.loadBytes a n acc).run Tryz.prog w = .ok s w ∧ sb s = sb acc ++ xs
  | 0, a, xs, acc, hl, _, _ => by
    obtain rfl : xs = [] := List.eq_nil_of_length_eq_zero hl
    exact ⟨acc, rfl, by simp⟩
  | n + 1, a, [], acc, hl, _, _ => by simp at hl
  | n + 1, a, x :: xs, acc, hl, hb, hc => by
    have h0 := hc 0 (by omega)
    rw [Addr.add_nought] at h0
    have hx := hb x (List.mem_cons_self ..)
    obtain ⟨s, h1, h2⟩ := load_bytes n (a.add 1) xs (acc.push x.toNat.toUInt8) (by simpa using hl) (fun y hy => hb y (List.mem_cons_of_mem _ hy)) (fun i hi => by
      have := hc (i + 1) (by omega)
      rw [Addr.add_add, Nat.add_comm 1 i, this]
      simp)
    refine ⟨s, ?_, ?_⟩
    · have h0' : w.cell? a = some (.int .u8 x) := by simpa using h0
      unfold Extern.Bytes.loadBytes
      simp only [Sem.run_bind, run_load, h0', Result.andThen_ok]
      exact h1
    · rw [h2, sb_push, List.append_assoc]
      congr 1
      simp
      omega
theorem cmp_sb (a b : List UInt8) : Lib.compareBytes a b = cmpL (a.map fun c => (c.toNat : Int)) (b.map fun c => (c.toNat : Int)) := by
  induction a generalizing b with
  | nil => cases b <;> rfl
  | cons x a ih =>
    cases b with
    | nil => rfl
    | cons y b =>
      have hxy : x < y ↔ (x.toNat : Int) < y.toNat := by rw [UInt8.lt_iff_toNat_lt]; omega
      have hyx : y < x ↔ (y.toNat : Int) < x.toNat := by rw [UInt8.lt_iff_toNat_lt]; omega
      simp only [Lib.compareBytes, List.map_cons, cmpL, ih]
      by_cases h1 : x < y
      · have := hxy.1 h1
        rw [if_pos h1, if_neg (by omega), if_pos (by omega)]
      · rw [if_neg h1]
        by_cases h2 : y < x
        · have := hyx.1 h2
          rw [if_pos h2, if_neg (by omega), if_neg (by omega)]
        · have h3 : ¬ (x.toNat : Int) < y.toNat := fun h => h1 (hxy.2 h)
          have h4 : ¬ (y.toNat : Int) < x.toNat := fun h => h2 (hyx.2 h)
          rw [if_neg h2, if_pos (by omega)]
theorem bytes_of {w : World} {ao : Option Addr} {n cap : Nat} {xs : List Int} (h : Sl w ao n cap xs) : ∃ s, (Extern.Bytes.bytesOf (.slice ao n cap)).run Tryz.prog w = .ok s w ∧ sb s = xs := by
  cases ao with
  | none =>
    obtain ⟨rfl, rfl⟩ := h.nil rfl
    obtain rfl : xs = [] := List.eq_nil_of_length_eq_zero h.len
    exact ⟨_, rfl, rfl⟩
  | some a =>
    obtain ⟨s, h1, h2⟩ := load_bytes n a xs .empty h.len h.byte (h.cell a rfl)
    exact ⟨s, h1, by rw [h2]; rfl⟩
theorem bcmp_any (w : World) (ao bo : Option Addr) (n cap m cap2 : Nat) (xs ys : List Int) (h : Sl w ao n cap xs) (h2 : Sl w bo m cap2 ys) :
    Calls Tryz.prog 124 #[.slice ao n cap, .slice bo m cap2] w fun e w' => e = .returned (.int .i64 (cmpL xs ys)) ∧ w' = w := by
  have hcall : (callFunc 151 #[.slice ao n cap, .slice bo m cap2]).run Tryz.prog w = .ok (.value (.int .i64 (cmpL xs ys))) w := by
    rw [run_callFunc_extern Tryz.func151 (by kernel_rfl) (by kernel_rfl) (by kernel_rfl) (e := Extern.BytealgCompare.compare) (by kernel_rfl)]
    obtain ⟨s, h3, h4⟩ := bytes_of h
    obtain ⟨t, h5, h6⟩ := bytes_of h2
    have e : (Extern.BytealgCompare.compare #[.slice ao n cap, .slice bo m cap2]).run Tryz.prog w = .ok (.int .i64 (cmpL xs ys)) w := by
      change Sem.run Tryz.prog (do pure (goInt (Extern.BytealgCompare.cmp (← Extern.Bytes.bytesOf (.slice ao n cap)) (← Extern.Bytes.bytesOf (.slice bo m cap2))))) w = _
      simp only [Sem.run_bind, h3, h5, Sem.run_pure, Result.andThen]
      rw [Lib.cmp_eq, cmp_sb, ← h4, ← h6]
      rfl
    rw [e]
    rfl
  go_enter Tryz.func124, Tryz.ntmps124
  go_wp2
  go_ret
  exact ⟨rfl, rfl⟩
open Go.RowKit
structure At (ks : List Part) (key : List Int) (i : Nat) (b : Bool) : Prop where
  le : i ≤ ks.length
  lo : ∀ j (h : j < ks.length), j < i → cmpL ks[j].xs key < 0
  hi : ∀ j (h : j < ks.length), i ≤ j → ¬ cmpL ks[j].xs key < 0
  eq : b = true ↔ ∃ h : i < ks.length, ks[i].xs = key
def Found (w : World) (ks : List Part) (key : List Int) (e : Ending) (w' : World) : Prop := ∃ (i : Nat) (b : Bool), e = .returned (.tuple #[.int .i64 (i : Nat), .bool b]) ∧ At ks key i b ∧ Below w.heap.size w w'
set_option maxHeartbeats 1000000 in
set_option maxRecDepth 100000 in
theorem bsf_any (w : World) (ko xo : Option Addr) (n kc m xc : Nat) (ks : List Part) (key : List Int) (h : KL w ko n kc ks) (hx : Sl w xo m xc key) (hs : ks.Pairwise fun a b => cmpL a.xs b.xs < 0) (hn : n ≤ 1000000) :
    Calls Tryz.prog 157 #[.slice ko n kc, .slice xo m xc, .func (.func 124) #[] #[]] w (Found w ks key) := by
  have hl := h.len
  have hni : (n : Int) ≤ 1000000 := by omega
  go_enter Tryz.func157, Tryz.ntmps157
  go_wp2
  go_loopw [9, 10] (fun a b wr => ∃ i j : Nat, i ≤ j ∧ j ≤ n ∧ a = .int .i64 i ∧ b = .int .i64 j ∧ wr = w ∧ (∀ t (h : t < ks.length), t < i → cmpL ks[t].xs key < 0) ∧ (∀ t (h : t < ks.length), j ≤ t → ¬ cmpL ks[t].xs key < 0)) (fun a b _ => (intOf b).toNat - (intOf a).toNat)
  case atStart => exact ⟨0, n, Nat.zero_le _, Nat.le_refl _, rfl, rfl, rfl, fun t _ ht => by omega, fun t h1 h2 => by omega⟩
  case round =>
    obtain ⟨i, j, hij, hj, rfl, rfl, rfl, h1, h2⟩ := hrel
    by_cases hlt : i < j
    · have hlt' : (i : Int) < (j : Int) := by omega
      obtain ⟨b, off, rfl, hc⟩ := h.vl.at (by omega)
      have c1 := hc ((i + j) / 2) (by simp; omega)
      have S1 := h.sl (ks[(i + j) / 2]'(by omega)) (List.getElem_mem _)
      obtain ⟨q, hq⟩ : ∃ q, q = ks[(i + j) / 2]'(by omega) := ⟨_, rfl⟩
      have H1 : Hid (∀ t (h : t < ks.length), t < i → cmpL ks[t].xs key < 0) := h1
      have H2 : Hid (∀ t (h : t < ks.length), j ≤ t → ¬ cmpL ks[t].xs key < 0) := h2
      simp only [List.getElem_map] at c1
      rw [← hq] at S1 c1
      have HQ : Hid (q = ks[(i + j) / 2]'(by omega)) := hq
      clear hq hc h1 h2
      unfold Part.val at c1
      go_wp2_with (go_at_call 124; refine (bcmp_any wr q.ao xo q.n q.cap m xc q.xs key S1 hx).mono ?_; rintro e w2 ⟨rfl, hw⟩; obtain rfl := hw.symm; obtain ⟨c, hcq⟩ : ∃ c, c = cmpL q.xs key := ⟨_, rfl⟩; rw [← hcq]; have HC : Hid (c = cmpL q.xs key) := hcq; clear hcq)
      · have hneg : c < 0 := by assumption
        go_roundw
        case rel =>
          refine ⟨(i + j) / 2 + 1, j, by omega, hj, by go_num, rfl, trivial, fun t ht hti => ?_, fun t ht htj => by have := H2.out t ht htj; omega⟩
          have hq := HQ.out
          have hc := HC.out
          by_cases hth : t = (i + j) / 2
          · subst hth
            rw [← hq, ← hc]
            exact hneg
          · have h3 := List.pairwise_iff_getElem.1 hs t ((i + j) / 2) ht (by omega) (by omega)
            rw [← hq] at h3
            exact cmpL_lt_trans _ _ _ h3 (by rw [← hc]; exact hneg)
        case measure => simp [intOf]; omega
      · have hpos : ¬ c < 0 := by omega
        go_roundw
        case rel =>
          refine ⟨i, (i + j) / 2, by omega, by omega, rfl, by go_num, trivial, H1.out, fun t ht hti => ?_⟩
          have hq := HQ.out
          have hc := HC.out
          by_cases hth : t = (i + j) / 2
          · subst hth
            rw [← hq, ← hc]
            exact hpos
          · intro h4
            have h3 := List.pairwise_iff_getElem.1 hs ((i + j) / 2) t (by omega) ht (by omega)
            rw [← hq] at h3
            have := cmpL_lt_trans _ _ _ h3 h4
            rw [← hc] at this
            exact hpos this
        case measure => simp [intOf]; omega
    · obtain rfl : i = j := by omega
      have H1 : Hid (∀ t (h : t < ks.length), t < i → cmpL ks[t].xs key < 0) := h1
      have H2 : Hid (∀ t (h : t < ks.length), i ≤ t → ¬ cmpL ks[t].xs key < 0) := h2
      clear h1 h2
      by_cases hin : i < n
      · have hin' : (i : Int) < (n : Int) := by omega
        obtain ⟨b, off, rfl, hc⟩ := h.vl.at (by omega)
        have c1 := hc i (by simp; omega)
        have hil : i < ks.length := by omega
        have S1 := h.sl ks[i] (List.getElem_mem hil)
        obtain ⟨q, hq⟩ : ∃ q, q = ks[i] := ⟨_, rfl⟩
        simp only [List.getElem_map] at c1
        rw [← hq] at S1 c1
        have HQ : Hid (q = ks[i]) := hq
        clear hq hc
        unfold Part.val at c1
        go_wp2_with (go_at_call 124; refine (bcmp_any wr q.ao xo q.n q.cap m xc q.xs key S1 hx).mono ?_; rintro e w2 ⟨rfl, hw⟩; obtain rfl := hw.symm; obtain ⟨c, hcq⟩ : ∃ c, c = cmpL q.xs key := ⟨_, rfl⟩; rw [← hcq]; have HC : Hid (c = cmpL q.xs key) := hcq; clear hcq)
        go_ret2
        refine ⟨i, _, rfl, ⟨by omega, H1.out, fun j h k => by have := H2.out j h k; omega, ?_⟩, Below.refl _ _⟩
        have hq := HQ.out
        have hc := HC.out
        constructor
        · intro hb
          have : c = 0 := by simpa using hb
          exact ⟨hil, by rw [← hq]; exact cmpL_eq _ _ (by rw [← hc]; exact this)⟩
        · rintro ⟨_, he⟩
          rw [← hq] at he
          have : c = 0 := by rw [hc, he]; exact cmpL_self _
          simpa using this
      · have hin' : ¬ (i : Int) < (n : Int) := by omega
        go_wp2
        go_ret2
        refine ⟨i, false, rfl, ⟨by omega, H1.out, fun j h k => by have := H2.out j h k; omega, ?_⟩, Below.refl _ _⟩
        constructor
        · intro hb
          simp at hb
        · rintro ⟨hb, _⟩
          omega
theorem place_any (w : World) (d : Nd) (h : d.ok w) (xo : Option Addr) (m xc : Nat) (key : List Int) (hx : Sl w xo m xc key) (hs : d.ks.Pairwise fun a b => cmpL a.xs b.xs < 0) (hn : d.ks.length ≤ 1000000) :
    Calls Tryz.prog 136 #[d.ptr, .slice xo m xc] w (Found w d.ks key) := by
  have c1 := h.c1
  have hk := h.kl
  unfold Nd.ptr
  go_enter Tryz.func136, Tryz.ntmps136
  go_wp2_with fail
  refine (bsf_any w d.ko xo d.ks.length d.kc m xc d.ks key hk hx hs hn).mono ?_
  rintro e w' ⟨i, b, rfl, hat, hb⟩
  go_wp2
  go_ret2
  exact ⟨i, b, rfl, hat, hb⟩
open Go.RowKit
structure Kids (w : World) (cs : List Value) (segs : List (List It)) : Prop where
  len : cs.length = segs.length
  kid : ∀ (i : Nat) (s : List It), segs[i]? = some s → ∃ u, cs[i]? = some u ∧ T w u s
section
variable {w w' : World} {cs ds : List Value} {segs regs : List (List It)}
theorem Kids.below (h : Kids w cs segs) (hb : Below w.heap.size w w') : Kids w' cs segs := ⟨h.len, fun i s hi => by obtain ⟨u, hu, ht⟩ := h.kid i s hi; exact ⟨u, hu, ht.below hb⟩⟩
theorem Kids.app (h : Kids w cs segs) (k : Kids w ds regs) : Kids w (cs ++ ds) (segs ++ regs) := by
  have hl := h.len
  refine ⟨by rw [List.length_append, List.length_append, h.len, k.len], fun i s hi => ?_⟩
  by_cases hlt : i < segs.length
  · rw [List.getElem?_append_left hlt] at hi
    rw [List.getElem?_append_left (by omega)]
    exact h.kid i s hi
  · rw [List.getElem?_append_right (by omega)] at hi
    rw [List.getElem?_append_right (by omega), hl]
    exact k.kid _ s hi
theorem Kids.one {u : Value} {s : List It} (h : T w u s) : Kids w [u] [s] := ⟨rfl, fun i t hi => by
  cases i with
  | zero => simp at hi; subst hi; exact ⟨u, rfl, h⟩
  | succ i => simp at hi⟩
theorem Kids.cons {u : Value} {s : List It} (h : T w u s) (k : Kids w cs segs) : Kids w (u :: cs) (s :: segs) := (Kids.one h).app k
theorem Kids.take (h : Kids w cs segs) (n : Nat) : Kids w (cs.take n) (segs.take n) := by
  refine ⟨by simp [h.len], fun i s hi => ?_⟩
  rw [List.getElem?_take] at hi ⊢
  split at hi
  · rename_i hlt
    rw [if_pos hlt]
    exact h.kid i s hi
  · simp at hi
theorem Kids.drop (h : Kids w cs segs) (n : Nat) : Kids w (cs.drop n) (segs.drop n) := by
  refine ⟨by simp [h.len], fun i s hi => ?_⟩
  rw [List.getElem?_drop] at hi ⊢
  exact h.kid _ s hi
end
theorem Nod.kids {w : World} {l : List It} {d : Nd} {segs : List (List It)} {xs : List It} (h : Nod w l d segs xs) : Kids w d.cs segs := ⟨h.ec, h.kid⟩
theorem KL.of {w : World} {ao : Option Addr} {n cap : Nat} {vs : List Value} {ps : List Part} (h : VL w ao n cap vs) (e : vs = ps.map Part.val) (hs : ∀ q ∈ ps, Sl w q.ao q.n q.cap q.xs) : KL w ao n cap ps := ⟨by rw [← e]; exact h, hs⟩
theorem KL.front {w : World} {ao : Option Addr} {n cap : Nat} {ps : List Part} (h : KL w ao n cap ps) (i c : Nat) (hi : i ≤ n) (hc : i ≤ c) (hcc : c ≤ cap) : KL w ao i c (ps.take i) :=
  ⟨by rw [List.map_take]; exact h.vl.front i c hi hc hcc, fun q hq => h.sl q (List.mem_of_mem_take hq)⟩
theorem KL.from {w : World} {ao : Option Addr} {n cap : Nat} {ps : List Part} (h : KL w ao n cap ps) (j : Nat) (hj : j ≤ n) : KL w (bk ao cap j) (n - j) (cap - j) (ps.drop j) :=
  ⟨by rw [List.map_drop]; exact h.vl.from j hj, fun q hq => h.sl q (List.mem_of_mem_drop hq)⟩
theorem T.ptr {w : World} {v : Value} {l : List It} (h : T w v l) : ∃ po, v = .pointer po := by
  rcases h.is with ⟨_, rfl⟩ | ⟨d, segs, xs, rfl, _⟩
  · exact ⟨_, rfl⟩
  · exact ⟨_, rfl⟩
theorem wrap_nat {k : Nat} (h : k ≤ 1000000000) : IntKind.i64.wrap (k : Int) = k := by
  simp [IntKind.wrap, IntKind.bits, IntKind.signed]
  omega
def RetT (w : World) (l : List It) (e : Ending) (w' : World) : Prop := ∃ v, e = .returned v ∧ T w' v l ∧ Below w.heap.size w w'
theorem T.make {w : World} {g : Nat} {l : List It} {L : Nat} {ko vo co : Option Addr} {kn kc vn vc cn cc : Nat} {t : TypeId} {ks vs : List Part} {cs : List Value} {segs : List (List It)} {xs : List It}
    (hg : w.heap[g]? = some (.cells #[.int .i64 L, .slice ko kn kc, .slice vo vn vc, .slice co cn cc] t))
    (hk : KL w ko kn kc ks) (hv : KL w vo vn vc vs) (hc : VL w co cn cc cs) (hs : Shp lev l L segs xs) (ek : ks.map Part.xs = xs.map It.k) (ev : vs.map Part.xs = xs.map It.v) (kid : Kids w cs segs) : T w (.pointer (some ⟨g, 0, Option.none⟩)) l :=
  Nod.make hg hk hv hc hs ek ev kid.len kid.kid
section
variable {w : World} {l : List It} {d : Nd} {segs : List (List It)} {xs : List It}
theorem Nod.rise (h : Nod w l d segs xs) (hs : Srt l) : d.ks.Pairwise fun a b => cmpL a.xs b.xs < 0 := by
  have h1 : (xs.map It.k).Pairwise fun a b => cmpL a b < 0 := List.pairwise_map.2 (h.shp.rise hs)
  rw [← h.ek] at h1
  exact List.pairwise_map.1 h1
theorem Nod.keyAt (h : Nod w l d segs xs) (i : Nat) (hk : i < d.ks.length) (hx : i < xs.length) : d.ks[i].xs = xs[i].k := by
  have := congrArg (·[i]?) h.ek
  simpa [hk, hx] using this
theorem Nod.valAt (h : Nod w l d segs xs) (i : Nat) (hk : i < d.vs.length) (hx : i < xs.length) : d.vs[i].xs = xs[i].v := by
  have := congrArg (·[i]?) h.ev
  simpa [hk, hx] using this
theorem Nod.found (h : Nod w l d segs xs) (hs : Srt l) {key : List Int} {i : Nat} {b : Bool} (ha : At d.ks key i b) : ∃ s A B, Cut lev l d.L segs xs i s A B ∧ (∀ x ∈ A, cmpL x.k key < 0) ∧ (∀ x ∈ B, ¬ cmpL x.k key < 0) ∧
    (b = false → ∀ x ∈ B, cmpL key x.k < 0) ∧ (b = true → ∃ hi : i < xs.length, xs[i].k = key) := by
  have hn := h.nk
  obtain ⟨s, A, B, c⟩ := h.shp.cut i (by have := ha.le; omega)
  obtain ⟨h1, h2, h3⟩ := c.key hs (key := key) (fun j hj hji => by rw [← h.keyAt j (by omega) hj]; exact ha.lo j (by omega) hji) (fun j hj hij => by rw [← h.keyAt j (by omega) hj]; exact ha.hi j (by omega) hij)
  refine ⟨s, A, B, c, h1, h2, fun hb => h3 fun hi he => ?_, fun hb => ?_⟩
  · have : b = true := ha.eq.2 ⟨by omega, by rw [h.keyAt i (by omega) hi]; exact he⟩
    rw [hb] at this
    simp at this
  · obtain ⟨hi, he⟩ := ha.eq.1 hb
    exact ⟨by omega, by rw [← h.keyAt i hi (by omega)]; exact he⟩
end
open Go.RowKit
theorem own_nothing (w : World) : (w.alloc (.cells #[] 5)).ownsRow w.heap.size 5 1 (.slice (some ⟨w.heap.size, 0, none⟩) 0 0) 0 (bv []) :=
  World.ownsRow_made w #[] 0 (Nat.le_refl _) (Nat.zero_le _) rfl
def RetB (w : World) (n : Nat) (xs : List Int) (e : Ending) (w' : World) : Prop := ∃ ro rc, e = .returned (.slice ro n rc) ∧ Sl w' ro n rc xs ∧ Below w.heap.size w w'
set_option maxHeartbeats 400000 in
set_option maxRecDepth 100000 in
theorem own_any (w : World) (ao : Option Addr) (n cap : Nat) (xs : List Int) (h : Sl w ao n cap xs) (hn : n ≤ 1000000) :
    Calls Tryz.prog 106 #[.slice ao n cap] w (RetB w n xs) := by
  have B0 : Below w.heap.size w (w.alloc (.cells #[] 5)) := (Below.refl _ w).alloc (Nat.le_refl _) _
  have h0 := h.below B0
  have o0 := own_nothing w
  have hb := h.byte
  go_enter Tryz.func106, Tryz.ntmps106
  go_wp2_with (at_builtin; refine wpList_app rfl _ _ rfl w.heap.size _ _ _ rfl o0 _ _ _ _ rfl h0 (by omega) (by simp) ?_; intro v1 w1 own1 B1)
  simp only [Nat.zero_add, List.nil_append] at own1
  obtain ⟨ro, rc, rfl, S, -⟩ := Sl.own own1 hb
  go_wp2
  go_ret
  exact ⟨ro, rc, rfl, S, B0.trans B1⟩
def TT (w : World) (v : Value) (l : List It) : Prop := (v = .pointer none ∧ l = []) ∨ ∃ b u, v = .pointer (some ⟨b, 0, none⟩) ∧ w.cell? ⟨b, 0, none⟩ = some u ∧ T w u l ∧ l ≠ []
theorem TT.nil (w : World) : TT w (.pointer none) [] := .inl ⟨rfl, rfl⟩
theorem TT.below {w w' : World} {v : Value} {l : List It} (h : TT w v l) (hb : Below w.heap.size w w') : TT w' v l := by
  rcases h with h | ⟨b, u, rfl, hc, ht, hl⟩
  · exact .inl h
  · exact .inr ⟨b, u, rfl, (hb.cell (World.block_lt_of_cell? _ _ hc)).trans hc, ht.below hb, hl⟩
theorem TT.ptr {w : World} {v : Value} {l : List It} (h : TT w v l) : ∃ po, v = .pointer po := by
  rcases h with ⟨rfl, _⟩ | ⟨b, u, rfl, _⟩
  · exact ⟨_, rfl⟩
  · exact ⟨_, rfl⟩
def RetTT (w : World) (l : List It) (e : Ending) (w' : World) : Prop := ∃ v, e = .returned v ∧ TT w' v l ∧ Below w.heap.size w w'
set_option maxHeartbeats 400000 in
set_option maxRecDepth 100000 in
theorem treeOf_any (w : World) (v : Value) (l : List It) (h : T w v l) : Calls Tryz.prog 103 #[v] w (RetTT w l) := by
  rcases h.is with ⟨rfl, rfl⟩ | ⟨d, segs, xs, rfl, hN⟩
  · go_enter Tryz.func103, Tryz.ntmps103
    go_wp2
    go_ret
    exact ⟨_, rfl, TT.nil _, Below.refl _ _⟩
  · have hne : l ≠ [] := by
      intro e
      subst e
      have h0 := hN.shp.pos
      have := hN.shp.key xs[0] (List.getElem_mem h0)
      simp at this
    unfold Nd.ptr at h ⊢
    go_enter Tryz.func103, Tryz.ntmps103
    go_wp2
    go_ret
    have B : Below w.heap.size w (w.alloc (.cells #[.pointer (some ⟨d.b, 0, none⟩)] 172)) := (Below.refl _ w).alloc (Nat.le_refl _) _
    exact ⟨_, rfl, .inr ⟨_, _, rfl, cell_one_new _ _ _ 0 _ (by simp), h.below B, hne⟩, B⟩
open Go.RowKit
structure Bs where
  ao : Option Addr
  n : Nat
  cap : Nat
  xs : List Int
end Go.Proofs.YtlljmhcgjkolpaaGreatDoor

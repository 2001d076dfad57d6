/-
  Rows of whatever elements that a call makes out of others: parts of a list, append of one element, of a list. What the elements hang on lies in an elder world.
-/
import Derived.Test.YtghemebgkhopnaaGRow
import Derived.Test.YtghemebgkhopnaaDCells
import Derived.DataElems
import Derived.ArgAppend
import Derived.Deep.Upon
namespace Go.Proofs.Ytghemebgkhopnaa
open Go.RowKit

def flatE {α : Type} (E : El α) (l : List α) : List Value := (l.map E.c).flatten
variable {α : Type} {E : El α} {w0 w W W' : World} {base : Nat} {v : Value} {l qs : List α} {t s : TypeId} {bytes : Nat} {z : Value}
theorem flatE_app (E : El α) (l m : List α) : flatE E (l ++ m) = flatE E l ++ flatE E m := by simp [flatE]
theorem flatE_one (F : E.Fine) (l : List α) : ∀ u ∈ flatE E l, u.oneCell' = true := by
  intro u hu
  unfold flatE at hu
  obtain ⟨cs, h1, h2⟩ := List.mem_flatten.1 hu
  obtain ⟨c, -, rfl⟩ := List.mem_map.1 h1
  exact F.one c u h2
theorem flatE_len (F : E.Fine) (l : List α) : (flatE E l).length = l.length * E.sz := flat_len E.c E.sz F.len l
theorem grow_bel {n : Nat} {e : TypeId} {size : Nat} {xs : List Value} (h : W.ownsRow base e size v n xs) (hb : Below W.heap.size W W') : W'.ownsRow base e size v n xs :=
  own_kept h fun g hg => hb.block g (h.lt g hg).2
/-- The cells of a list that a slice reads as. -/
theorem GL.flat (F : E.Fine) {ao : Option Addr} {n cap : Nat} (h : GL E w ao n cap qs) {a : Addr} (ha : ao = some a) : ∀ j u, (flatE E qs)[j]? = some u → w.cell? (a.add j) = some u := fun j u hu => by
  have hj := (List.getElem?_eq_some_iff.1 hu).1
  rw [flatE_len F] at hj
  have hz := F.pos
  have hq : j / E.sz < qs.length := (Nat.div_lt_iff_lt_mul hz).2 hj
  have ej : j / E.sz * E.sz + j % E.sz = j := by rw [Nat.mul_comm]; exact Nat.div_add_mod j E.sz
  have hg := flat_get E.c E.sz F.len qs (j / E.sz) (j % E.sz) hq (Nat.mod_lt _ hz)
  rw [ej] at hg
  have := h.cell a ha (j / E.sz) hq (j % E.sz) u (hg.symm.trans hu)
  rw [ej] at this
  exact this
/-- A row of the call's own. -/
structure GNew (E : El α) (t : TypeId) (w0 W : World) (base : Nat) (v : Value) (l : List α) : Prop where
  row : W.ownsRow base t E.sz v l.length (flatE E l)
  ok : ∀ c ∈ l, E.ok c w0
theorem GNew.nil (E : El α) (t : TypeId) (w0 W : World) (base : Nat) : GNew E t w0 W base (.slice none 0 0) [] := ⟨World.ownsRow_nil _ _ _ _, fun _ h => absurd h List.not_mem_nil⟩
theorem GNew.below (h : GNew E t w0 W base v l) (hb : Below W.heap.size W W') : GNew E t w0 W' base v l := ⟨grow_bel h.row hb, h.ok⟩
theorem GNew.slice (h : GNew E t w0 W base v l) : ∃ ao n cap, v = .slice ao n cap := by
  rcases h.row.2 with ⟨rfl, e⟩ | ⟨g, cap, cur, rfl, _⟩
  · exact ⟨none, 0, 0, rfl⟩
  · exact ⟨_, _, cap, rfl⟩
theorem GNew.gl (F : E.Fine) (h : GNew E t w0 W base v l) (hb : Below w0.heap.size w0 W) : ∃ ao cap, v = .slice ao l.length cap ∧ GL E W ao l.length cap l ∧ ∀ z, sblk ao l.length z → base ≤ z := by
  have hok : ∀ c ∈ l, E.ok c W := fun c hc => F.kept c w0 W (h.ok c hc) fun z hz => hb.block z (F.lt c w0 z (h.ok c hc) hz)
  rcases h.row.2 with ⟨rfl, e⟩ | ⟨g, cap, cur, rfl, a1, a2, a3, a4, a5, a6⟩
  · rw [e]
    have : l = [] := List.eq_nil_of_length_eq_zero e
    subst this
    exact ⟨none, 0, rfl, GL.nothing E W, fun z hz => by obtain ⟨a, ha, _⟩ := hz; cases ha⟩
  · refine ⟨some ⟨g, 0, none⟩, cap, rfl, ⟨rfl, a3, a4, fun h => by simp at h, fun a ha i hi j u hu => ?_, hok⟩, fun z hz => by obtain ⟨a, ha, _, rfl⟩ := hz; cases ha; exact a1⟩
    obtain rfl := Option.some.inj ha
    have hj : j < E.sz := by have := (List.getElem?_eq_some_iff.1 hu).1; rw [F.len] at this; exact this
    refine h.row.cells (g := g) rfl (i * E.sz + j) u ?_
    unfold flatE
    rw [flat_get E.c E.sz F.len l i j hi hj]
    exact hu
theorem src_nil {P : Program} {w : World} {t e : TypeId} {i : TypeInfo} {bo : Option Addr} {c : Nat} (ht : P.underlying t = some (.slice e)) : Src P i.size t (.slice bo 0 c) 0 [] w := by
  refine ⟨.inl ⟨e, ht⟩, fun w' => rfl, ?_, ?_, by simp, by simp⟩ <;> cases bo <;> simp [Builtin.firstCells] <;> rfl
/-- append of a list. -/
theorem run_appGs (F : E.Fine) (hty : GTy E.sz bytes z t s) (ty : TypeId) (h : GNew E t w0 w base v l) (hb : base ≤ w.heap.size) {bo : Option Addr} {m c : Nat} (hx : GL E w bo m c qs) (hok : ∀ q ∈ qs, E.ok q w0) (hn : (l.length + m) * bytes ≤ 140737488355328) (hm : l.length + m ≤ maxLen) :
    ∃ v' w', (Builtin.append_ #[s, s] ty #[v, .slice bo m c]).run Try.prog w = .ok v' w' ∧ GNew E t w0 w' base v' (l ++ qs) ∧ Below base w w' := by
  obtain ⟨i0, hi, hz0, hz1, hz2⟩ := info_parts hty.info
  have hlen := hx.len
  have key : ∀ d ∈ l ++ qs, E.ok d w0 := fun d hd => by
    rcases List.mem_append.1 hd with hd | hd
    · exact h.ok d hd
    · exact hok d hd
  by_cases h0 : m = 0
  · subst h0
    obtain rfl : qs = [] := List.eq_nil_of_length_eq_zero hlen
    have hv : ∃ ao cap, v = .slice ao l.length cap ∧ l.length ≤ cap := by
      rcases h.row.2 with ⟨rfl, e⟩ | ⟨g, cap, cur, rfl, hg, hh, hle, _⟩
      · rw [e]
        exact ⟨none, 0, rfl, Nat.le_refl _⟩
      · exact ⟨_, cap, rfl, hle⟩
    obtain ⟨ao, cap, rfl, hle⟩ := hv
    refine ⟨_, w, run_append_nothing w s s ty t i0 hty.und hi ao l.length cap hle _ (src_nil hty.und), ⟨?_, key⟩, Below.refl _ _⟩
    simpa using h.row
  · obtain ⟨ad, rfl⟩ : ∃ ad, bo = some ad := by
      cases bo with
      | none => have := (hx.nil rfl).1; omega
      | some ad => exact ⟨ad, rfl⟩
    obtain ⟨v', w', h1, h2, h3, -⟩ := run_append_own (P := Try.prog) w base s ty t i0 _ E.sz bytes hty.und hi hz0 hz1 hz2 hty.zs F.pos v l.length (flatE E l) h.row ad m c (flatE E qs) (by rw [flatE_len F, hlen]) (hx.flat F rfl) (flatE_one F qs) hm hn hb
    refine ⟨v', w', h1, ⟨?_, key⟩, (Below.refl _ w).grown h3 hb (fun k hk => (h.row.lt k hk).1)⟩
    rw [flatE_app, List.length_append, hlen]
    exact h2
/-- append of one. -/
theorem run_appG1 (F : E.Fine) (hty : GTy E.sz bytes z t s) (ty : TypeId) (h : GNew E t w0 w base v l) (hb : base ≤ w.heap.size) {ad : Addr} {cp : Nat} {y : α} (hG : ∀ j u, (E.c y)[j]? = some u → w.cell? (ad.add j) = some u) (hok : E.ok y w0) (hn : (l.length + 1) * bytes ≤ 140737488355328) (hm : l.length + 1 ≤ maxLen) :
    ∃ v' w', (Builtin.append_ #[s, s] ty #[v, .slice (some ad) 1 cp]).run Try.prog w = .ok v' w' ∧ GNew E t w0 w' base v' (l ++ [y]) ∧ Below base w w' := by
  obtain ⟨i0, hi, hz0, hz1, hz2⟩ := info_parts hty.info
  obtain ⟨v', w', h1, h2, h3, -⟩ := run_append_own (P := Try.prog) w base s ty t i0 _ E.sz bytes hty.und hi hz0 hz1 hz2 hty.zs F.pos v l.length (flatE E l) h.row ad 1 cp (E.c y) (by rw [F.len, Nat.one_mul]) hG (F.one y) hm hn hb
  refine ⟨v', w', h1, ⟨?_, fun d hd => ?_⟩, (Below.refl _ w).grown h3 hb (fun k hk => (h.row.lt k hk).1)⟩
  · have e : flatE E (l ++ [y]) = flatE E l ++ E.c y := by simp [flatE]
    rw [e, List.length_append]
    exact h2
  · rcases List.mem_append.1 hd with hd | hd
    · exact h.ok d hd
    · rw [List.mem_singleton.1 hd]; exact hok
/-- append of a list to an empty one without room: nothing that lay there has turned. -/
theorem run_appG0 (F : E.Fine) (hty : GTy E.sz bytes z t s) (ty : TypeId) {g : Nat} (hbg : base ≤ g) (hg : Arr w g t []) {bo : Option Addr} {m c : Nat} (hx : GL E w bo m c qs) (hok : ∀ q ∈ qs, E.ok q w0) (hn : m * bytes ≤ 140737488355328) (hm : m ≤ 1000000) (hb : base ≤ w.heap.size) :
    ∃ v' w', (Builtin.append_ #[s, s] ty #[.slice (some ⟨g, 0, none⟩) 0 0, .slice bo m c]).run Try.prog w = .ok v' w' ∧ GNew E t w0 w' base v' qs ∧ Below w.heap.size w w' := by
  have hlen := hx.len
  have O : GNew E t w0 w base (.slice (some ⟨g, 0, none⟩) 0 0) ([] : List α) := ⟨⟨by simp [flatE], .inr ⟨g, 0, #[], rfl, hbg, hg, Nat.le_refl _, Nat.zero_le _, by simp, by simp [flatE]⟩⟩, fun _ h => absurd h List.not_mem_nil⟩
  obtain ⟨i0, hi, hz0, hz1, hz2⟩ := info_parts hty.info
  by_cases h0 : m = 0
  · subst h0
    obtain rfl : qs = [] := List.eq_nil_of_length_eq_zero hlen
    exact ⟨_, w, run_append_nothing w s s ty t i0 hty.und hi _ 0 0 (Nat.le_refl _) _ (src_nil hty.und), O, Below.refl _ _⟩
  · obtain ⟨ad, rfl⟩ : ∃ ad, bo = some ad := by
      cases bo with
      | none => have := (hx.nil rfl).1; omega
      | some ad => exact ⟨ad, rfl⟩
    obtain ⟨v', w', hr, h1, -⟩ := run_appGs (w0 := w0) (l := []) F hty ty O hb hx hok (by simpa using hn) (by simp [maxLen]; omega)
    have hr2 := run_append_grow (P := Try.prog) w s ty t i0 _ hty.und hi hz0 ⟨g, 0, none⟩ 0 0 [] (by simp) (fun j v h => by simp at h) ad m c (flatE E qs) (by rw [flatE_len F, hlen, hz1]) (hx.flat F rfl) (by omega) (by omega) (by
        rw [hz2]
        exact growslice_fits (by omega) (by simpa using hn))
    rw [hr] at hr2
    simp only [Result.ok.injEq] at hr2
    obtain ⟨rfl, rfl⟩ := hr2
    exact ⟨_, _, hr, by simpa using h1, (Below.refl _ w).drew.alloc (by simp) _⟩
theorem GL.front {ao : Option Addr} {n cap : Nat} (h : GL E w ao n cap l) (i : Nat) (hi : i ≤ n) : GL E w ao i cap (l.take i) := by
  have h1 := h.len
  refine ⟨by simp; omega, Nat.le_trans hi h.le, h.mx, fun hn => ?_, fun a ha j hj k v hv => ?_, fun c hc => h.ok c (List.mem_of_mem_take hc)⟩
  · have := h.nil hn
    omega
  · simp only [List.length_take] at hj
    rw [List.getElem_take] at hv
    exact h.cell a ha j (by omega) k v hv
/-- Where l[j:] lies. -/
def bkG (sz : Nat) (ao : Option Addr) (cap j : Nat) : Option Addr := if cap = j then ao else ao.map (·.add (j * sz))
theorem GL.from {ao : Option Addr} {n cap : Nat} (h : GL E w ao n cap l) (j : Nat) (hj : j ≤ n) : GL E w (bkG E.sz ao cap j) (n - j) (cap - j) (l.drop j) := by
  have h1 := h.len
  have h2 := h.mx
  have h3 := h.le
  refine ⟨by simp; omega, by omega, by omega, fun hn => ?_, fun b hb i hi k v hv => ?_, fun q hq => h.ok q (List.mem_of_mem_drop hq)⟩
  · unfold bkG at hn
    by_cases hc : cap = j
    · omega
    · rw [if_neg hc] at hn
      have := h.nil (by simpa using hn)
      omega
  · simp only [List.length_drop] at hi
    have hc : cap ≠ j := by omega
    unfold bkG at hb
    rw [if_neg hc] at hb
    cases ao with
    | none => simp at hb
    | some a =>
      have hb' : a.add (j * E.sz) = b := by simpa using hb
      rw [List.getElem_drop] at hv
      have := h.cell a rfl (j + i) (by omega) k v hv
      rw [← hb', Addr.add_add]
      have e : j * E.sz + (i * E.sz + k) = (j + i) * E.sz + k := by rw [Nat.add_mul]; omega
      rw [e]
      exact this
theorem run_uptoG {sl e : TypeId} (ht : Try.prog.underlying sl = some (.slice e)) {sz : Nat} (hsz : ∀ V, (sizeOf e).run Try.prog V = .ok sz V) {ao : Option Addr} {n cap i : Nat} (h2 : i ≤ cap) :
    (Instr.sliceAt sl (.slice ao n cap) none (some (.int .i64 (i : Nat))) none).run Try.prog W = .ok (.slice ao i cap) W := by
  have he : Try.prog.elem sl = e := by simp [Program.elem, ht]
  have hs : Try.prog.underlying sl = some (.slice (Try.prog.elem sl)) := by rw [he]; exact ht
  have h0 : ∀ a : Addr, a.add 0 = a := fun a => by unfold Addr.add; cases a with | mk b o s => cases s <;> simp
  rw [run_sliceAt_slice W sl _ _ _ _ hs, run_slice_h W sl ao n cap hs .i64 i (by omega) (by omega), he, hsz]
  simp only [Result.andThen_ok, sliced, Int.toNat_natCast, Nat.zero_mul, Nat.sub_zero]
  cases ao with
  | none => simp
  | some a => simp [h0]
theorem run_backG {sl e : TypeId} (ht : Try.prog.underlying sl = some (.slice e)) {sz : Nat} (hsz : ∀ V, (sizeOf e).run Try.prog V = .ok sz V) {ao : Option Addr} {n cap j : Nat} (h1 : j ≤ n) :
    (Instr.sliceAt sl (.slice ao n cap) (some (.int .i64 (j : Nat))) none none).run Try.prog W = .ok (.slice (bkG sz ao cap j) (n - j) (cap - j)) W := by
  have he : Try.prog.elem sl = e := by simp [Program.elem, ht]
  have hs : Try.prog.underlying sl = some (.slice (Try.prog.elem sl)) := by rw [he]; exact ht
  rw [run_sliceAt_slice W sl _ _ _ _ hs, run_slice_l W sl ao n cap hs .i64 j (by omega) (by omega), he, hsz]
  simp only [Result.andThen_ok, sliced, Int.toNat_natCast, bkG]
end Go.Proofs.Ytghemebgkhopnaa

/-
  Texts in one: Read, PRd, MgMath, MgRd, MgMem, AppG, MethL, MgRdM, MgBuf, PRes, PResult, HRegX.
-/
import Derived.Test.YtcgphdipfekccaaGreatDoorMessageOrderQ3
import Derived.Test.YtcgphdipfekccaaGreatDoorMessageOrderQ4
import Derived.Test.YtcgphdipfekccaaGreatDoorMessageOrderQ9
import Derived.Test.YtcgphdipfekccaaGreatDoorMessageOrderQ11
import Derived.Test.YtcgphdipfekccaaGreatDoorMessageOrderQ0
import Derived.Test.YtcgphdipfekccaaGreatDoorMessageOrderQ1
import Derived.Maps.AppendAt
namespace Go.Proofs.YtcgphdipfekccaaGreatDoor
open Go.RowKit
set_option maxHeartbeats 400000 in
theorem clone_any (w : World) (ao : Option Addr) (n cap : Nat) (xs : List Int) (h : Sl w ao n cap xs) (hr : n ≤ 140737488355328) :
    Calls Tryz.prog 46 #[.slice ao n cap] w fun e w' => ∃ v, e = .returned v ∧ w'.ownsRow w.heap.size 5 1 v n (bv xs) ∧ Below w.heap.size w w' := by
  have hA := h.below ((Below.refl w.heap.size w).alloc (Nat.le_refl _) (.cells #[] 5))
  have hO := own_empty w
  have hq : ∀ W, (binOp .eql 28 (.slice ao n cap) (.slice none 0 0)).run Tryz.prog W = .ok (.bool ao.isNone) W := fun W => Lib.run_eql_slice_nil W _ _ ao n cap 0 0 Tryz.underlying28
  cases ao with
  | none =>
    obtain ⟨rfl, rfl⟩ := h.nil rfl
    obtain rfl : xs = [] := List.eq_nil_of_length_eq_zero h.len
    go_enter Tryz.func46, Tryz.ntmps46
    go_wp2
    go_ret
    exact ⟨_, rfl, World.ownsRow_nil _ _ _ _, Below.refl _ _⟩
  | some a =>
    go_enter Tryz.func46, Tryz.ntmps46
    go_wp2_with (at_builtin; refine wpList_app rfl _ _ rfl w.heap.size _ _ _ rfl hO _ _ _ _ rfl hA (by omega) (by simp) ?_; intro v1 w1 hown1 hb1)
    simp only [Nat.zero_add, List.nil_append] at hown1
    have hb2 := ((Below.refl w.heap.size w).alloc (Nat.le_refl _) _).trans hb1
    clear hb1 hO hA hq
    go_ret
    exact ⟨v1, rfl, hown1, hb2⟩
theorem new_reader (w : World) (t : TypeId) (bo : Option Addr) (n c : Nat) (xs : List Int) (hsl : Sl w bo n c xs) (hlt : ∀ a, bo = some a → 0 < n → a.block < w.heap.size) (hn : n ≤ 1000000) :
    R (w.alloc (.cells #[.slice bo n c, .int .i64 0] t)) w.heap.size w.heap.size xs 0 := by
  refine ⟨bo, n, c, ?_, ?_, ?_, ?_, hsl.below ((Below.refl _ w).alloc (Nat.le_refl _) _), hlt, Nat.le_refl _, hn⟩
  · go_simp
  · go_simp
  · go_simp
  · go_simp
set_option maxHeartbeats 400000 in
theorem read_any (w : World) (ao : Option Addr) (n cap : Nat) (xs : List Int) (h : Sl w ao n cap xs) (hr : n ≤ 1000000) :
    Calls Tryz.prog 23 #[.slice ao n cap] w fun e w' => ∃ p, e = .returned (.pointer (some ⟨p, 0, none⟩)) ∧ w.heap.size ≤ p ∧ R w' p p xs 0 ∧ Below w.heap.size w w' := by
  go_enter Tryz.func23, Tryz.ntmps23
  go_wp2_with fail
  refine (clone_any w ao n cap xs h (by omega)).mono ?_
  rintro e w1 ⟨v1, rfl, hown1, hb1⟩
  obtain ⟨bo, c2, rfl, hsl, hbo⟩ := Sl.own hown1 h.byte
  have hs := hb1.size
  have hfin := new_reader w1 90 bo n c2 xs hsl (fun a ha _ => (hbo a ha).2.1) hr
  have hb2 := hb1.alloc hs (.cells #[.slice bo n c2, .int .i64 0] 90)
  clear hown1 hsl hbo hb1
  go_wp2
  go_ret
  exact ⟨w1.heap.size, rfl, hs, hfin, hb2⟩
open Go.RowKit
theorem ttake_leaf (w : World) (p L : Nat) (xs : List Int) (k : Int) (h : R w p L xs k) : Calls Tryz.prog 70 #[.pointer (some ⟨p, 0, none⟩), .int .i64 0] w (TakePost 0 w p L 0 xs k) :=
  ttake_gen 0 (by omega) w p L xs k h (fun h => absurd rfl h)
theorem ttake_any (w : World) (p L : Nat) (xs : List Int) (k : Int) (h : R w p L xs k) : Calls Tryz.prog 70 #[.pointer (some ⟨p, 0, none⟩), .int .i64 8] w (TakePost 0 w p L 8 xs k) :=
  ttake_gen 8 (by omega) w p L xs k h (fun _ V ys q hR => ttake_leaf V p L ys q hR)
theorem OWL.kept {w w' : World} {o : OA} {l : List OA} (h : OWL w 0 o.so o.sn o.sc l) (hk : ∀ x, (o.sblk x ∨ ∃ y ∈ l, y.blks x) → w'.heap[x]? = w.heap[x]?) : OWL w' 0 o.so o.sn o.sc l := by
  refine ⟨h.len, h.le, h.mx, h.nil, fun a ha i hi j v hv => ?_, fun y hy => ?_⟩
  · have hb : (a.add (i * 10 + j)).block = a.block := by unfold Addr.add; split <;> rfl
    rw [← h.cell a ha i hi j v hv]
    exact World.cell?_of_block (by rw [hb]; exact hk _ (.inl ⟨a, ha, by have := h.len; omega, rfl⟩))
  · have hy1 : OA.ok y w := h.ok y hy
    exact hy1.kept fun x hx => hk x (.inr ⟨y, hy, hx⟩)
theorem repT_flat : ∀ (n : Nat) (xs : List Int) (k : Int), ∀ z ∈ (repT (sT 0) n xs k).1, z.2 = 0
  | 0, _, _, z, hz => by simp [repT] at hz
  | n + 1, xs, k, z, hz => by
    rcases List.mem_cons.1 hz with rfl | hz
    · have : (sT 0 xs k).1.2 ≤ 0 := intS_le _ _ 0
      omega
    · exact repT_flat n _ _ z hz
def OpRead (F s : Nat) (w' : World) (v : Value) (t : OP) : Prop :=
  ∃ (o : OA) (l : List OA), v = o.val ∧ o.ok w' ∧ OWL w' 0 o.so o.sn o.sc l ∧ (∀ x, (o.blks x ∨ o.sblk x ∨ ∃ y ∈ l, y.blks x) → x < F ∨ s ≤ x) ∧ t = (o.s, l.map OA.s) ∧ ∀ y ∈ l, y.sn = 0
theorem take_op {F : Nat} {w w' : World} {p L : Nat} {xs : List Int} {k : Int} {e : Ending} (h : TakePost F w p L 8 xs k e w') : ∃ v, e = .returned v ∧ OpRead F w.heap.size w' v (opTh xs k).1 ∧ Left w p L (opTh xs k).2 w' := by
  obtain ⟨o, l, e1, ok, OL, far, hs, hl, hle⟩ := h
  refine ⟨_, e1, ⟨o, l, rfl, ok, OL, far, ?_, ?_⟩, hle⟩
  · show (((sT 8 xs k).1.1, (repT (sT 0) (sT 8 xs k).1.2 (sT 8 xs k).2.1 (sT 8 xs k).2.2).1.map Prod.fst) : OP) = _
    rw [← hl, ← hs, List.map_map]
    rfl
  · intro y hy
    have := repT_flat (sT 8 xs k).1.2 (sT 8 xs k).2.1 (sT 8 xs k).2.2 (sn0 y) (by rw [← hl]; exact List.mem_map.2 ⟨y, hy, rfl⟩)
    exact this
theorem kind_read {o : OA} {l : List OA} (h : ∀ y ∈ l, y.sn = 0) : kindP (o.s, l.map OA.s) = kindO (rightO o.s (l.map sn0)) := by
  unfold kindP rightP kindO
  have e : (l.map OA.s).map (fun s => (s, 0)) = l.map sn0 := by
    rw [List.map_map]
    refine List.map_congr_left fun y hy => ?_
    show (y.s, 0) = (y.s, y.sn)
    rw [h y hy]
  rw [e]
theorem kindq_read {o : OA} {l : List OA} (cl st : Nat) (h : ∀ y ∈ l, y.sn = 0) : kindQ (cl, st, (o.s, l.map OA.s)) = kq cl st (rightO o.s (l.map sn0)) := by
  unfold kindQ kq
  simp only
  rw [kind_read h]
open Go.RowKit
structure Fair {α : Type} (P : List Int → Rs α) (f : α → List Int) (ok : α → Prop) : Prop where
  put : ∀ v rest, ok v → P (f v ++ rest) = .inr (v, rest)
  back : ∀ xs v rest, Byt xs → P xs = .inr (v, rest) → xs = f v ++ rest ∧ ok v
theorem Good.fair {α : Type} {P : List Int → Rs α} {f : α → List Int} {ok : α → Prop} (h : Good P f ok) : Fair P f ok := ⟨h.put, h.back⟩
theorem Fair.andThen {α β : Type} {P : List Int → Rs α} {Q : α → List Int → Rs β} {f : α → List Int} {g : α → β → List Int} {okP : α → Prop} {okQ : α → β → Prop} (h : Fair P f okP) (k : ∀ a, okP a → Fair (Q a) (g a) (okQ a)) :
    Fair (andThen P Q) (fun p => f p.1 ++ g p.1 p.2) (fun p => okP p.1 ∧ okQ p.1 p.2) := by
  refine ⟨?_, ?_⟩
  · rintro ⟨a, b⟩ rest ⟨h1, h2⟩
    unfold Go.Proofs.YtcgphdipfekccaaGreatDoor.andThen
    simp only [List.append_assoc]
    rw [h.put a _ h1]
    simp only [then_]
    rw [(k a h1).put b _ h2]
  · rintro xs ⟨a, b⟩ rest hb hx
    obtain ⟨a', r', e1, hx⟩ := then_good hx
    obtain ⟨b', r'', e2, hx⟩ := then_good hx
    simp only [Sum.inr.injEq, Prod.mk.injEq] at hx
    obtain ⟨⟨rfl, rfl⟩, rfl⟩ := hx
    obtain ⟨x1, o1⟩ := h.back xs _ _ hb e1
    subst x1
    obtain ⟨x2, o2⟩ := (k _ o1).back _ _ _ (byt_right hb) e2
    refine ⟨?_, o1, o2⟩
    rw [x2, List.append_assoc]
theorem Fair.map {α β : Type} {P : List Int → Rs α} {f : α → List Int} {ok : α → Prop} (h : Fair P f ok) (t : α → β) (u : β → α) (ok' : β → Prop) (h1 : ∀ b, ok' b → t (u b) = b ∧ ok (u b)) (h2 : ∀ a, ok a → u (t a) = a ∧ ok' (t a)) :
    Fair (fun xs => dress t (P xs)) (fun b => f (u b)) ok' := by
  refine ⟨?_, ?_⟩
  · intro b rest hb
    simp only [h.put _ rest (h1 b hb).2, dress, (h1 b hb).1]
  · intro xs b rest hx hb
    obtain ⟨a, e, rfl⟩ := dress_good hb
    obtain ⟨x1, o1⟩ := h.back xs a rest hx e
    rw [(h2 a o1).1]
    exact ⟨x1, (h2 a o1).2⟩
theorem Fair.only {α : Type} {P : List Int → Rs α} {f g : α → List Int} {ok ok' : α → Prop} (h : Fair P f ok) (hk : ∀ a, ok a ↔ ok' a) (hf : ∀ a, ok a → f a = g a) : Fair P g ok' := by
  refine ⟨?_, ?_⟩
  · intro v rest hv
    rw [← hf v ((hk v).2 hv)]
    exact h.put v rest ((hk v).2 hv)
  · intro xs v rest hb hx
    obtain ⟨e, o⟩ := h.back xs v rest hb hx
    rw [← hf v o]
    exact ⟨e, (hk v).1 o⟩
theorem Fair.rep {α : Type} {P : List Int → Rs α} {f : α → List Int} {ok : α → Prop} (h : Fair P f ok) : ∀ n, Fair (pRep P n) (fun l => (l.map f).flatten) (fun l => l.length = n ∧ ∀ a ∈ l, ok a)
  | 0 => by
    refine ⟨?_, ?_⟩
    · rintro l rest ⟨h1, _⟩
      obtain rfl := List.eq_nil_of_length_eq_zero h1
      rfl
    · rintro xs l rest _ hx
      simp only [pRep, Sum.inr.injEq, Prod.mk.injEq] at hx
      obtain ⟨rfl, rfl⟩ := hx
      simp
  | n + 1 => by
    have ih := h.rep n
    refine ⟨?_, ?_⟩
    · rintro l rest ⟨h1, h2⟩
      cases l with
      | nil => simp at h1
      | cons a l =>
        simp only [List.map_cons, List.flatten_cons, List.append_assoc]
        unfold pRep
        rw [h.put a _ (h2 a (List.mem_cons_self ..))]
        simp only [then_]
        have := ih.put l rest ⟨by simpa using h1, fun x hx => h2 x (List.mem_cons_of_mem _ hx)⟩
        rw [this]
    · rintro xs l rest hb hx
      obtain ⟨a, r', e1, hx⟩ := then_good hx
      obtain ⟨l', r'', e2, hx⟩ := then_good hx
      simp only [Sum.inr.injEq, Prod.mk.injEq] at hx
      obtain ⟨rfl, rfl⟩ := hx
      obtain ⟨x1, o1⟩ := h.back xs a r' hb e1
      subst x1
      obtain ⟨x2, o2, o3⟩ := ih.back _ _ _ (byt_right hb) e2
      refine ⟨?_, by simp [o2], ?_⟩
      · rw [x2]; simp
      · intro x hx
        rcases List.mem_cons.1 hx with rfl | hx
        · exact o1
        · exact o3 x hx
def pList {α : Type} (P : List Int → Rs α) (most : Nat) (xs : List Int) : Rs (List α) := dress Prod.snd (andThen (pInt most) (fun n => pRep P n) xs)
def putLs {α : Type} (f : α → List Int) (l : List α) : List Int := enc l.length ++ (l.map f).flatten
theorem Fair.list {α : Type} {P : List Int → Rs α} {f : α → List Int} {ok : α → Prop} (h : Fair P f ok) (most : Nat) (hm : most < 18446744073709551616) : Fair (pList P most) (putLs f) (fun l => l.length ≤ most ∧ ∀ a ∈ l, ok a) := by
  have h0 := (good_int most hm).fair.andThen (Q := fun n => pRep P n) (g := fun _ l => (l.map f).flatten) (okQ := fun n l => l.length = n ∧ ∀ a ∈ l, ok a) (fun n _ => h.rep n)
  refine (h0.map Prod.snd (fun l => (l.length, l)) _ ?_ ?_).only (fun _ => Iff.rfl) (fun _ _ => rfl)
  · rintro l ⟨h1, h2⟩
    exact ⟨rfl, h1, rfl, h2⟩
  · rintro ⟨n, l⟩ ⟨h1, h2, h3⟩
    simp only at h1 h2 h3
    subst h2
    exact ⟨rfl, h1, h3⟩
def listT {α : Type} (f : Th α) (most : Nat) : Th (List α) := mapT Prod.snd (andD (intT' most) fun n => repT f n)
theorem Thr.list {α : Type} {P : List Int → Rs α} {f : Th α} (h : Thr P f) (most : Nat) : Thr (pList P most) (listT f most) := ((thr_int most).dep fun n => h.rep n).map Prod.snd
theorem pBytes_put {most : Nat} {l : List Int} (rest : List Int) (h1 : l.length ≤ most) (h2 : l.length < 18446744073709551616) : pBytes most (byts l ++ rest) = .inr (l, rest) := by
  unfold pBytes pInt byts
  rw [List.append_assoc, good_uint.put _ _ h2]
  simp only [then_]
  rw [if_neg (by omega)]
  simp
theorem pBytes_back {most : Nat} {xs l rest : List Int} (hb : Byt xs) (h : pBytes most xs = .inr (l, rest)) : xs = byts l ++ rest ∧ Byt l ∧ l.length < 18446744073709551616 ∧ Byt rest := by
  obtain ⟨n, r, e1, h⟩ := then_good h
  obtain ⟨n', r', e2, e3⟩ := then_good e1
  by_cases c : most < n'
  · rw [if_pos c] at e3; simp at e3
  rw [if_neg c] at e3
  simp only [Sum.inr.injEq, Prod.mk.injEq] at e3
  obtain ⟨rfl, rfl⟩ := e3
  obtain ⟨x1, o1⟩ := good_uint.back xs _ _ hb e2
  by_cases d : r'.length < n'
  · rw [if_pos d] at h; simp at h
  rw [if_neg d] at h
  simp only [Sum.inr.injEq, Prod.mk.injEq] at h
  obtain ⟨rfl, rfl⟩ := h
  have e : (r'.take n').length = n' := by rw [List.length_take]; omega
  have b1 : Byt r' := by rw [x1] at hb; exact byt_right hb
  refine ⟨?_, b1.take n', by rw [e]; exact o1, b1.drop n'⟩
  unfold byts
  rw [e, List.append_assoc, List.take_append_drop]
  exact x1
def pNest {α : Type} (rd : List Int → Sum Int α) (xs : List Int) : Rs α := then_ (pBytes xs.length xs) fun bs r => match rd bs with
  | .inl k => .inl k
  | .inr v => .inr (v, r)
def okN {α : Type} (rd : List Int → Sum Int α) (g : α → List Int) (v : α) : Prop := rd (g v) = .inr v ∧ Byt (g v) ∧ (g v).length < 18446744073709551616
theorem fair_nest {α : Type} {rd : List Int → Sum Int α} {g : α → List Int} (hback : ∀ bs v, Byt bs → rd bs = .inr v → bs = g v) : Fair (pNest rd) (fun v => byts (g v)) (okN rd g) := by
  refine ⟨?_, ?_⟩
  · rintro v rest ⟨h1, h2, h3⟩
    unfold pNest
    rw [pBytes_put rest (by unfold byts; simp only [List.length_append]; omega) h3]
    simp only [then_]
    rw [h1]
  · intro xs v rest hb hx
    obtain ⟨bs, r, e1, hx⟩ := then_good hx
    obtain ⟨x1, b1, l1, b2⟩ := pBytes_back hb e1
    match e : rd bs, hx with
    | .inl k, hx => simp at hx
    | .inr u, hx =>
      simp only [Sum.inr.injEq, Prod.mk.injEq] at hx
      obtain ⟨rfl, rfl⟩ := hx
      have e2 := hback bs u b1 e
      subst e2
      exact ⟨x1, e, b1, l1⟩
def flS (xs : List Int) (k q : Int) : List Int × Int := if k = 0 then (if q = 0 then (xs, 0) else ([], q)) else (xs, k)
theorem flS_bad (xs : List Int) {q : Int} (h : q ≠ 0) : flS xs 0 q = ([], q) := by unfold flS; rw [if_pos rfl, if_neg h]
def kindN {α : Type} (t : Sum Int α) : Int := match t with
  | .inl k => k
  | .inr _ => 0
def valN {α : Type} (z : α) (t : Sum Int α) : α := match t with
  | .inl _ => z
  | .inr v => v
def nestT {α : Type} (z : α) (rd : List Int → Sum Int α) : Th α := fun xs k => (valN z (rd (bytesS xs k xs.length).1), flS (bytesS xs k xs.length).2.1 (bytesS xs k xs.length).2.2 (kindN (rd (bytesS xs k xs.length).1)))
theorem thr_nest {α : Type} (z : α) {rd : List Int → Sum Int α} (hrd : ∀ bs k, rd bs = .inl k → k ≠ 0) : Thr (pNest rd) (nestT z rd) := by
  refine ⟨?_, ?_, ?_⟩
  · intro xs v r hx
    obtain ⟨bs, r', e1, hx⟩ := then_good hx
    have e2 := (bytesS_ok e1).1
    unfold nestT
    rw [e2]
    match e : rd bs, hx with
    | .inl k, hx => simp at hx
    | .inr u, hx =>
      simp only [Sum.inr.injEq, Prod.mk.injEq] at hx
      obtain ⟨rfl, rfl⟩ := hx
      simp only [valN, kindN, flS, if_true]
  · intro xs q hx
    unfold nestT
    unfold pNest then_ at hx
    match e : pBytes xs.length xs, hx with
    | .inl q', hx =>
      obtain rfl := Sum.inl.inj hx
      obtain ⟨e1, e2⟩ := bytesS_bad e
      rw [e1]
      simp only [flS, if_neg e2]
      exact ⟨trivial, e2⟩
    | .inr (bs, r), hx =>
      rw [(bytesS_ok e).1]
      simp only at hx ⊢
      match e' : rd bs, hx with
      | .inl q', hx =>
        simp only [Sum.inl.injEq] at hx
        subst hx
        have hq := hrd bs q' e'
        show (flS r 0 q').2 = q' ∧ q' ≠ 0
        rw [flS_bad r hq]
        exact ⟨rfl, hq⟩
      | .inr u, hx => simp at hx
  · intro xs k hk
    show (flS (bytesS xs k xs.length).2.1 (bytesS xs k xs.length).2.2 (kindN (rd (bytesS xs k xs.length).1))).2 = k
    rw [bytesS_stuck hk]
    simp only [flS, if_neg hk]
structure PV where
  cl : Nat
  st : Nat
  vw : Nat
  r : RV
structure BV where
  kind : Int
  view : Nat
  seq : Nat
  sum : List Int
  reqs : List QV
  rep : PV
  cert : List SV
  sets : List (List SV)
def zPV : PV := ⟨0, 0, 0, ⟨0, [], false⟩⟩
def putV (s : SV) : List Int := enc s.fr ++ (byts s.b ++ byts s.tag)
def putPV (p : PV) : List Int := enc p.cl ++ (enc p.st ++ (enc p.vw ++ byts (putR p.r)))
def putB (x : BV) : List Int := enc x.kind.toNat ++ (enc x.view ++ (enc x.seq ++ (byts x.sum ++ (putLs (fun q => byts (putQ q)) x.reqs ++ ((if x.kind = 5 then putPV x.rep else []) ++ (putLs putV x.cert ++ putLs (putLs putV) x.sets))))))
def okV (s : SV) : Prop := s.fr < 18446744073709551616 ∧ (s.b.length ≤ 65536 ∧ Byt s.b) ∧ (s.tag.length ≤ 32 ∧ Byt s.tag)
def toV (r : Nat × List Int × List Int) : SV := ⟨r.1, r.2.1, r.2.2⟩
def pV (xs : List Int) : Rs SV := dress toV (andThen pUint (fun _ => andThen (pBytes 65536) fun _ => pBytes 32) xs)
theorem fair_v : Fair pV putV okV := by
  have h := good_uint.fair.andThen fun _ _ => (good_bytes 65536 (by decide)).fair.andThen fun _ _ => (good_bytes 32 (by decide)).fair
  refine (h.map toV (fun s => (s.fr, s.b, s.tag)) okV ?_ ?_).only (fun _ => Iff.rfl) (fun _ _ => rfl)
  · rintro ⟨a, b, c⟩ h
    exact ⟨rfl, h⟩
  · rintro ⟨a, b, c⟩ h
    exact ⟨rfl, h⟩
def vT : Th SV := mapT toV (andT uintS (andT (byT 65536) (byT 32)))
theorem thr_v : Thr pV vT := (thr_uint.andThen ((thr_bytes 65536).andThen (thr_bytes 32))).map toV
def pVs : List Int → Rs (List SV) := pList pV 16
def vsT : Th (List SV) := listT vT 16
theorem thr_vs : Thr pVs vsT := thr_v.list 16
def okVs (l : List SV) : Prop := l.length ≤ 16 ∧ ∀ s ∈ l, okV s
theorem fair_vs : Fair pVs (putLs putV) okVs := fair_v.list 16 (by decide)
def toPV (r : Nat × Nat × Nat × RV) : PV := ⟨r.1, r.2.1, r.2.2.1, r.2.2.2⟩
def pPV1 (xs : List Int) : Rs PV := dress toPV (andThen pUint (fun _ => andThen pUint fun _ => andThen pUint fun _ => pNest rdR) xs)
def okPV1 (p : PV) : Prop := p.cl < 18446744073709551616 ∧ p.st < 18446744073709551616 ∧ p.vw < 18446744073709551616 ∧ okN rdR putR p.r
theorem rdR_back (bs : List Int) (v : RV) (hb : Byt bs) (h : rdR bs = .inr v) : bs = putR v := (rdAll_back good_r kindR hb h).1
theorem rdQ_back (bs : List Int) (v : QV) (hb : Byt bs) (h : rdQ bs = .inr v) : bs = putQ v := (rdAll_back good_q kindQ hb h).1
theorem fair_pv1 : Fair pPV1 putPV okPV1 := by
  have h := good_uint.fair.andThen fun _ _ => good_uint.fair.andThen fun _ _ => good_uint.fair.andThen fun _ _ => fair_nest rdR_back
  refine (h.map toPV (fun p => (p.cl, p.st, p.vw, p.r)) okPV1 ?_ ?_).only (fun _ => Iff.rfl) (fun _ _ => rfl)
  · rintro ⟨a, b, c, d⟩ h
    exact ⟨rfl, h⟩
  · rintro ⟨a, b, c, d⟩ h
    exact ⟨rfl, h⟩
theorem rdAll_ne {α : Type} {P : List Int → Rs α} {f : Th α} (h : Thr P f) {kind : α → Int} (bs : List Int) (k : Int) (e : rdAll P kind bs = .inl k) : k ≠ 0 := by
  rw [rd_thr h] at e
  unfold rdT at e
  by_cases c : doneS (f bs 0).2.1 (f bs 0).2.2 = 0
  · rw [if_pos c] at e
    by_cases d : kind (f bs 0).1 = 0
    · rw [if_pos d] at e; simp at e
    · rw [if_neg d] at e
      rw [← Sum.inl.inj e]
      exact d
  · rw [if_neg c] at e
    rw [← Sum.inl.inj e]
    exact c
open Go.RowKit
def zQV : QV := (0, 0, (⟨0, ⟨#[]⟩, ⟨#[]⟩, ⟨#[]⟩, 0, ⟨#[]⟩, [], [], false⟩, []))
def zR0 : RV := ⟨0, [], false⟩
def pPV (k : Nat) : List Int → Rs PV := if k = 5 then pPV1 else fun xs => .inr (zPV, xs)
def okPV (k : Nat) (p : PV) : Prop := if k = 5 then okPV1 p else p = zPV
theorem fair_pv (k : Nat) : Fair (pPV k) (fun p => if k = 5 then putPV p else []) (okPV k) := by
  unfold pPV okPV
  by_cases h : k = 5
  · simp only [if_pos h]
    exact fair_pv1
  · simp only [if_neg h]
    refine ⟨?_, ?_⟩
    · rintro v rest rfl
      rfl
    · intro xs v rest _ hx
      simp only [Sum.inr.injEq, Prod.mk.injEq] at hx
      obtain ⟨rfl, rfl⟩ := hx
      exact ⟨rfl, rfl⟩
def pvT1 : Th PV := mapT toPV (andT uintS (andT uintS (andT uintS (nestT zR0 rdR))))
def pvT (k : Nat) : Th PV := if k = 5 then pvT1 else fun xs q => (zPV, xs, q)
theorem thr_pv (hr : ∀ bs k, rdR bs = .inl k → k ≠ 0) (k : Nat) : Thr (pPV k) (pvT k) := by
  unfold pPV pvT
  by_cases h : k = 5
  · simp only [if_pos h]
    exact (thr_uint.andThen (thr_uint.andThen (thr_uint.andThen (thr_nest zR0 hr)))).map toPV
  · simp only [if_neg h]
    refine ⟨?_, ?_, ?_⟩
    · intro xs v r hx
      simp only [Sum.inr.injEq, Prod.mk.injEq] at hx
      obtain ⟨rfl, rfl⟩ := hx
      rfl
    · intro xs q hx
      simp at hx
    · intro xs q _
      rfl
abbrev RawB := Nat × Nat × Nat × List Int × List QV × PV × List SV × List (List SV)
def toB (r : RawB) : BV := ⟨(r.1 : Int), r.2.1, r.2.2.1, r.2.2.2.1, r.2.2.2.2.1, r.2.2.2.2.2.1, r.2.2.2.2.2.2.1, r.2.2.2.2.2.2.2⟩
def ofB (x : BV) : RawB := (x.kind.toNat, x.view, x.seq, x.sum, x.reqs, x.rep, x.cert, x.sets)
def pQs : List Int → Rs (List QV) := pList (pNest rdQ) 1
def pSs : List Int → Rs (List (List SV)) := pList pVs 16
def pB (xs : List Int) : Rs BV := dress toB (andThen (pInt 14) (fun k => andThen pUint fun _ => andThen pUint fun _ => andThen (pBytes 32) fun _ => andThen pQs fun _ => andThen (pPV k) fun _ => andThen pVs fun _ => pSs) xs)
structure okB (x : BV) : Prop where
  kind : 0 ≤ x.kind ∧ x.kind ≤ 14
  view : x.view < 18446744073709551616
  seq : x.seq < 18446744073709551616
  sum : x.sum.length ≤ 32 ∧ Byt x.sum
  reqs : x.reqs.length ≤ 1 ∧ ∀ q ∈ x.reqs, okN rdQ putQ q
  rep : okPV x.kind.toNat x.rep
  cert : okVs x.cert
  sets : x.sets.length ≤ 16 ∧ ∀ l ∈ x.sets, okVs l
theorem fair_b : Fair pB putB okB := by
  have h := (good_int 14 (by decide)).fair.andThen (Q := fun k => andThen pUint fun _ => andThen pUint fun _ => andThen (pBytes 32) fun _ => andThen pQs fun _ => andThen (pPV k) fun _ => andThen pVs fun _ => pSs) fun k _ => good_uint.fair.andThen fun _ _ => good_uint.fair.andThen fun _ _ => (good_bytes 32 (by decide)).fair.andThen fun _ _ => ((fair_nest rdQ_back).list 1 (by decide)).andThen fun _ _ => (fair_pv k).andThen fun _ _ => fair_vs.andThen fun _ _ => fair_vs.list 16 (by decide)
  refine (h.map toB ofB okB ?_ ?_).only (fun _ => Iff.rfl) ?_
  · rintro x hx
    have hk := hx.kind
    refine ⟨?_, by show x.kind.toNat ≤ 14; omega, hx.view, hx.seq, hx.sum, hx.reqs, hx.rep, hx.cert, hx.sets⟩
    unfold toB ofB
    simp only [Int.toNat_of_nonneg hk.1]
  · rintro ⟨k, a, b, c, d, e, f, g⟩ ⟨h1, h2, h3, h4, h5, h6, h7, h8⟩
    refine ⟨?_, ⟨by show (0 : Int) ≤ (k : Int); omega, by show (k : Int) ≤ 14; simp only at h1; omega⟩, h2, h3, h4, h5, ?_, h7, h8⟩
    · unfold toB ofB
      simp
    · show okPV ((k : Int)).toNat e
      rw [Int.toNat_natCast]
      exact h6
  · intro x hx
    have hk := hx.kind
    unfold putB ofB byts
    have : (x.kind.toNat = 5) = (x.kind = 5) := propext ⟨fun _ => by omega, fun _ => by omega⟩
    simp only [this]
def qsT : Th (List QV) := listT (nestT zQV rdQ) 1
def ssT : Th (List (List SV)) := listT vsT 16
def bT : Th BV := mapT toB (andD (intT' 14) fun k => andT uintS (andT uintS (andT (byT 32) (andT qsT (andT (pvT k) (andT vsT ssT))))))
theorem rdQ_ne (bs : List Int) (k : Int) (e : rdQ bs = .inl k) : k ≠ 0 := rdAll_ne thr_q bs k e
theorem thr_b (hr : ∀ bs k, rdR bs = .inl k → k ≠ 0) : Thr pB bT :=
  ((thr_int 14).dep fun k => thr_uint.andThen (thr_uint.andThen ((thr_bytes 32).andThen (((thr_nest zQV rdQ_ne).list 1).andThen ((thr_pv hr k).andThen (thr_vs.andThen (thr_vs.list 16))))))).map toB
structure HV where
  view : Nat
  seq : Nat
  sum : Nat
  reqs : Nat
  cert : Nat
  sets : Nat
  rep : Bool
def shpOk (k : Int) (h : HV) : Bool :=
  if k = 1 ∨ k = 13 then decide (h.view = 0 ∧ h.seq = 0 ∧ h.sum = 0 ∧ h.reqs = 1 ∧ h.cert = 0 ∧ h.sets = 0) && !h.rep
  else if k = 2 ∨ k = 3 ∨ k = 4 then decide (h.view ≤ 4611686018427387903 ∧ h.seq ≤ 4611686018427387903 ∧ h.sum = 32 ∧ h.reqs = 0 ∧ h.cert = 0 ∧ h.sets = 0) && !h.rep
  else if k = 5 then decide (h.view = 0 ∧ h.seq = 0 ∧ h.sum = 0 ∧ h.reqs = 0 ∧ h.cert = 0 ∧ h.sets = 0) && h.rep
  else if k = 6 then decide (h.view = 0 ∧ h.seq ≤ 4611686018427387903 ∧ h.sum = 32 ∧ h.reqs = 0 ∧ h.cert = 0 ∧ h.sets = 0) && !h.rep
  else if k = 7 then decide (h.view ≤ 4611686018427387903 ∧ h.seq ≤ 4611686018427387903 ∧ h.sum = 0 ∧ h.reqs = 0 ∧ h.cert ≤ 16 ∧ h.sets ≤ 16) && !h.rep
  else if k = 8 then decide (h.view ≤ 4611686018427387903 ∧ h.seq = 0 ∧ h.sum = 0 ∧ h.reqs = 0 ∧ h.cert ≤ 16 ∧ h.sets = 1) && !h.rep
  else if k = 9 then decide (h.view = 0 ∧ h.seq ≤ 4611686018427387903 ∧ h.sum = 0 ∧ h.reqs = 0 ∧ h.cert = 0 ∧ h.sets = 0) && !h.rep
  else if k = 10 then decide (h.view = 0 ∧ h.seq ≤ 4611686018427387903 ∧ h.sum = 32 ∧ h.reqs = 0 ∧ h.cert = 1 ∧ h.sets = 0) && !h.rep
  else if k = 11 then decide (h.view = 0 ∧ h.seq = 0 ∧ h.sum = 32 ∧ h.reqs = 0 ∧ h.cert = 0 ∧ h.sets = 0) && !h.rep
  else if k = 12 then decide (h.view = 0 ∧ h.seq = 0 ∧ h.sum = 0 ∧ h.reqs = 0 ∧ h.cert ≤ 4 ∧ h.sets = 0) && !h.rep
  else if k = 14 then decide (h.view = 0 ∧ h.seq ≤ 4611686018427387903 ∧ h.sum = 0 ∧ h.reqs = 0 ∧ h.cert = 3 ∧ h.sets = 0) && !h.rep
  else false
def sgnd (fr b tag : Nat) : Bool := decide (fr ≠ 0 ∧ b ≤ 16384 ∧ tag = 32)
def plain (fr b tag : Nat) : Bool := decide (fr = 0 ∧ b ≤ 65536 ∧ tag = 0)
def txOk (k : Int) (fr b tag : Nat) : Bool := if k = 10 ∨ k = 14 then plain fr b tag else sgnd fr b tag
theorem shp_kind {k : Int} {h : HV} (e : shpOk k h = true) : 1 ≤ k ∧ k ≤ 14 := by
  unfold shpOk at e
  by_cases c : 1 ≤ k ∧ k ≤ 14
  · exact c
  · simp only [show ¬ (k = 1 ∨ k = 13) by omega, show ¬ (k = 2 ∨ k = 3 ∨ k = 4) by omega, show ¬ k = 5 by omega, show ¬ k = 6 by omega, show ¬ k = 7 by omega, show ¬ k = 8 by omega, show ¬ k = 9 by omega, show ¬ k = 10 by omega, show ¬ k = 11 by omega, show ¬ k = 12 by omega, show ¬ k = 14 by omega, if_false] at e
    cases e
open Go.RowKit
structure QM where
  cl : Nat
  st : Nat
  o : OA
  l : List OA
def QM.cells (q : QM) : List Value := [.int .u64 q.cl, .int .u64 q.st, .int .i64 q.o.kind, .string q.o.row, .string q.o.fam, .string q.o.qual, .int .u64 q.o.time, .string q.o.to, .slice q.o.va.ao q.o.va.n q.o.va.cap, .slice q.o.wa.ao q.o.wa.n q.o.wa.cap, .bool q.o.has, .slice q.o.so q.o.sn q.o.sc]
structure QM.ok (q : QM) (w : World) : Prop where
  cl : q.cl < 18446744073709551616
  st : q.st < 18446744073709551616
  o : q.o.ok w
  l : OWL w 0 q.o.so q.o.sn q.o.sc q.l
def QM.blk (q : QM) (z : Nat) : Prop := q.o.blks z ∨ q.o.sblk z ∨ ∃ y ∈ q.l, y.blks z
def QM.v (q : QM) : QV := (q.cl, q.st, (q.o.s, q.l.map OA.s))
def elQ : El QM := ⟨QM.cells, 12, QM.ok, QM.blk⟩
theorem OA.ok.blks_lt {o : OA} {w : World} (h : o.ok w) {z : Nat} (hz : o.blks z) : z < w.heap.size := by
  rcases hz with hz | hz
  · exact h.va.blk_lt hz
  · exact h.wa.blk_lt hz
theorem elQ_fine : elQ.Fine := by
  refine ⟨fun _ => rfl, by decide, fun x u hu => ?_, fun x w w' h hk => ⟨h.cl, h.st, h.o.kept fun z hz => hk z (.inl hz), h.l.kept fun z hz => hk z (.inr hz)⟩, fun x w z h hz => ?_⟩
  · have hu : u ∈ x.cells := hu
    unfold QM.cells at hu
    simp only [List.mem_cons, List.not_mem_nil, or_false] at hu
    rcases hu with rfl | rfl | rfl | rfl | rfl | rfl | rfl | rfl | rfl | rfl | rfl | rfl <;> rfl
  · rcases hz with hz | hz | ⟨y, hy, hz⟩
    · exact h.o.blks_lt hz
    · obtain ⟨a, ha, hn, rfl⟩ := hz
      have hl := h.l.len
      have h0 := h.l.cell a ha 0 (by omega) 0 _ rfl
      have hlt := World.block_lt_of_cell? w _ h0
      have hb : (a.add (0 * 10 + 0)).block = a.block := by unfold Addr.add; split <;> rfl
      rw [hb] at hlt
      exact hlt
    · have : OA.ok y w := h.l.ok y hy
      exact this.blks_lt hz
structure QX (V : World) (b p : Nat) (q : QM) : Prop where
  c0 : V.cell? ⟨b, p, none⟩ = some (.int .u64 q.cl)
  c1 : V.cell? ⟨b, p + 1, none⟩ = some (.int .u64 q.st)
  c2 : V.cell? ⟨b, p + 2, none⟩ = some (.int .i64 q.o.kind)
  c3 : V.cell? ⟨b, p + 3, none⟩ = some (.string q.o.row)
  c4 : V.cell? ⟨b, p + 4, none⟩ = some (.string q.o.fam)
  c5 : V.cell? ⟨b, p + 5, none⟩ = some (.string q.o.qual)
  c6 : V.cell? ⟨b, p + 6, none⟩ = some (.int .u64 q.o.time)
  c7 : V.cell? ⟨b, p + 7, none⟩ = some (.string q.o.to)
  c8 : V.cell? ⟨b, p + 8, none⟩ = some (.slice q.o.va.ao q.o.va.n q.o.va.cap)
  c9 : V.cell? ⟨b, p + 9, none⟩ = some (.slice q.o.wa.ao q.o.wa.n q.o.wa.cap)
  c10 : V.cell? ⟨b, p + 10, none⟩ = some (.bool q.o.has)
  c11 : V.cell? ⟨b, p + 11, none⟩ = some (.slice q.o.so q.o.sn q.o.sc)
theorem GL.atQ {w : World} {ao : Option Addr} {n cap : Nat} {l : List QM} (h : GL elQ w ao n cap l) (hn : 0 < n) :
    ∃ b off, ao = some ⟨b, off, none⟩ ∧ ∀ i (hi : i < l.length), QX w b (off + i * 12) l[i] := by
  obtain ⟨b, off, e, k⟩ := h.pl elQ_fine hn
  exact ⟨b, off, e, fun i hi => ⟨k i hi 0 _ rfl, k i hi 1 _ rfl, k i hi 2 _ rfl, k i hi 3 _ rfl, k i hi 4 _ rfl, k i hi 5 _ rfl, k i hi 6 _ rfl, k i hi 7 _ rfl, k i hi 8 _ rfl, k i hi 9 _ rfl, k i hi 10 _ rfl, k i hi 11 _ rfl⟩⟩
structure BM where
  kind : Int
  view : Nat
  seq : Nat
  sum : Bs
  q : LS QM
  cl : Nat
  st : Nat
  vw : Nat
  e : Int
  c : LS CA
  more : Bool
  s : LS SA
  t : LS (LS SA)
def BM.val (x : BM) : Value := .agg #[.int .i64 x.kind, .int .u64 x.view, .int .u64 x.seq, .slice x.sum.ao x.sum.n x.sum.cap, .slice x.q.ao x.q.n x.q.cap, .int .u64 x.cl, .int .u64 x.st, .int .u64 x.vw, .int .i64 x.e, .slice x.c.ao x.c.n x.c.cap, .bool x.more, .slice x.s.ao x.s.n x.s.cap, .slice x.t.ao x.t.n x.t.cap]
structure BM.ok (x : BM) (w : World) : Prop where
  kind : -9223372036854775808 ≤ x.kind ∧ x.kind ≤ 9223372036854775807
  view : x.view < 18446744073709551616
  seq : x.seq < 18446744073709551616
  sum : Sl w x.sum.ao x.sum.n x.sum.cap x.sum.xs
  q : GL elQ w x.q.ao x.q.n x.q.cap x.q.l
  cl : x.cl < 18446744073709551616
  st : x.st < 18446744073709551616
  vw : x.vw < 18446744073709551616
  e : -9223372036854775808 ≤ x.e ∧ x.e ≤ 9223372036854775807
  c : CL w x.c.ao x.c.n x.c.cap x.c.l
  s : GL elS w x.s.ao x.s.n x.s.cap x.s.l
  t : GL elS.lists w x.t.ao x.t.n x.t.cap x.t.l
theorem BM.ok.below {x : BM} {w w' : World} (h : x.ok w) (hb : Below w.heap.size w w') : x.ok w' :=
  ⟨h.kind, h.view, h.seq, h.sum.below hb, h.q.below elQ_fine hb, h.cl, h.st, h.vw, h.e, h.c.below hb, h.s.below elS_fine hb, h.t.below elS_fine.lists hb⟩
def BM.v (x : BM) : BV := ⟨x.kind, x.view, x.seq, x.sum.xs, x.q.l.map QM.v, ⟨x.cl, x.st, x.vw, resR x.e x.c.l x.more⟩, x.s.l.map SA.v, x.t.l.map fun s => s.l.map SA.v⟩
def BC (V : World) (p : Nat) (x : BM) : Prop := V.heap[p]? = some (.cells #[.int .i64 x.kind, .int .u64 x.view, .int .u64 x.seq, .slice x.sum.ao x.sum.n x.sum.cap, .slice x.q.ao x.q.n x.q.cap, .int .u64 x.cl, .int .u64 x.st, .int .u64 x.vw, .int .i64 x.e, .slice x.c.ao x.c.n x.c.cap, .bool x.more, .slice x.s.ao x.s.n x.s.cap, .slice x.t.ao x.t.n x.t.cap] 50)
theorem BC.lt {V : World} {p : Nat} {x : BM} (h : BC V p x) : p < V.heap.size := (Array.getElem?_eq_some_iff.1 h).1
theorem BC.keep {V V' : World} {p : Nat} {x : BM} (h : BC V p x) (hb : Below V.heap.size V V') : BC V' p x := (hb.block p h.lt).trans h
structure BCs (V : World) (p : Nat) (x : BM) : Prop where
  c0 : V.cell? ⟨p, 0, none⟩ = some (.int .i64 x.kind)
  c1 : V.cell? ⟨p, 1, none⟩ = some (.int .u64 x.view)
  c2 : V.cell? ⟨p, 2, none⟩ = some (.int .u64 x.seq)
  c3 : V.cell? ⟨p, 3, none⟩ = some (.slice x.sum.ao x.sum.n x.sum.cap)
  c4 : V.cell? ⟨p, 4, none⟩ = some (.slice x.q.ao x.q.n x.q.cap)
  c5 : V.cell? ⟨p, 5, none⟩ = some (.int .u64 x.cl)
  c6 : V.cell? ⟨p, 6, none⟩ = some (.int .u64 x.st)
  c7 : V.cell? ⟨p, 7, none⟩ = some (.int .u64 x.vw)
  c8 : V.cell? ⟨p, 8, none⟩ = some (.int .i64 x.e)
  c9 : V.cell? ⟨p, 9, none⟩ = some (.slice x.c.ao x.c.n x.c.cap)
  c10 : V.cell? ⟨p, 10, none⟩ = some (.bool x.more)
  c11 : V.cell? ⟨p, 11, none⟩ = some (.slice x.s.ao x.s.n x.s.cap)
  c12 : V.cell? ⟨p, 12, none⟩ = some (.slice x.t.ao x.t.n x.t.cap)
theorem BC.cs {V : World} {p : Nat} {x : BM} (h : BC V p x) : BCs V p x :=
  ⟨cell_of_row V p 0 _ _ _ h, cell_of_row V p 1 _ _ _ h, cell_of_row V p 2 _ _ _ h, cell_of_row V p 3 _ _ _ h, cell_of_row V p 4 _ _ _ h, cell_of_row V p 5 _ _ _ h, cell_of_row V p 6 _ _ _ h, cell_of_row V p 7 _ _ _ h, cell_of_row V p 8 _ _ _ h, cell_of_row V p 9 _ _ _ h, cell_of_row V p 10 _ _ _ h, cell_of_row V p 11 _ _ _ h, cell_of_row V p 12 _ _ _ h⟩
def BM.rz (x : BM) : Bool := decide (x.cl = 0 ∧ x.st = 0 ∧ x.vw = 0 ∧ x.e = 0 ∧ x.c.n = 0) && !x.more
def BM.hv (x : BM) : HV := ⟨x.view, x.seq, x.sum.n, x.q.n, x.s.n, x.t.n, !x.rz⟩
def reqBad (k : Int) (q : QM) : Bool := decide (kq q.cl q.st (rightO q.o.s (q.l.map sn0)) ≠ 0) || (decide (k = 13) && decide (q.o.kind ≠ 7 ∧ q.o.kind ≠ 8))
def SA.sg (s : SA) : Bool := sgnd s.fr s.b.n s.tag.n
def SA.pl (s : SA) : Bool := plain s.fr s.b.n s.tag.n
def SA.tx (k : Int) (s : SA) : Bool := txOk k s.fr s.b.n s.tag.n
def setBad (s : LS SA) : Bool := decide (16 < s.n) || s.l.any fun x => !x.sg
def repOk (x : BM) : Bool := decide (x.kind ≠ 5) || (rightR (resR x.e x.c.l x.more) && decide (x.cl ≠ 0 ∧ x.st ≠ 0 ∧ x.vw ≤ 4611686018427387903))
def rightM (x : BM) : Bool := shpOk x.kind x.hv && (!(x.q.l.any (reqBad x.kind)) && (repOk x && (!(x.s.l.any fun s => !s.tx x.kind) && !(x.t.l.any setBad))))
open Go.RowKit
theorem wpList_append_run {P : Program} {w w' : World} {v v' u : Value} {sl : TypeId} {ops : Array Oper} {rest : List Oper} {o : Oper} {a : Act} {Q : Exit → Act → World → Prop} (hgd : o.guard = none) (s x : Operand)
    (ho : o.op = .call { callee := .builtin .append, args := #[s, x], argTypes := #[sl, sl] }) (hs : a.eval s = v) (hx : a.eval x = u) (hr : (Builtin.append_ #[sl, sl] o.type #[v, u]).run P w = .ok v' w')
    (K : wpList P ops Q rest (a.put o.dst v') w') : wpList P ops Q (o :: rest) a w := by
  refine wpList_plain hgd fun K' hK => ?_
  unfold Oper.wp execOp
  simp only [ho, resolve, invoke, builtin, Sem.run_bind, Sem.run_pure, Result.andThen_ok, List.map_toArray, List.map_cons, List.map_nil, hs, hx, hr]
  exact hK _ _ K
theorem wpList_appG {α : Type} {E : El α} (F : E.Fine) {bytes : Nat} {zv : Value} {t sl : TypeId} (hty : GTy E.sz bytes zv t sl) {w : World} {ops : Array Oper} {rest : List Oper} {o : Oper} {a : Act} {Q : Exit → Act → World → Prop} (hgd : o.guard = none) (s x : Operand)
    (ho : o.op = .call { callee := .builtin .append, args := #[s, x], argTypes := #[sl, sl] }) {base : Nat} {v : Value} {ys : List α} (h : GI E t w base v ys) (hs : a.eval s = v) {ad : Addr} {cp : Nat} (hx : a.eval x = .slice (some ad) 1 cp) {y : α}
    (hG : ∀ j u, (E.c y)[j]? = some u → w.cell? (ad.add j) = some u) (he : E.ok y w) (hf : ∀ x, E.blk y x → v.ownBlock ≠ some x) (hn : (ys.length + 1) * bytes ≤ 140737488355328) (hm : ys.length + 1 ≤ maxLen) (hbase : base ≤ w.heap.size)
    (K : ∀ v' w', GI E t w' base v' (ys ++ [y]) → Below base w w' → wpList Tryz.prog ops Q rest (a.put o.dst v') w') : wpList Tryz.prog ops Q (o :: rest) a w := by
  obtain ⟨v', w', hr, h2, h3, _, _⟩ := h.app F hty o.type hG he hf hn hm hbase
  exact wpList_append_run hgd s x ho hs hx hr (K v' w' h2 h3)
theorem tyS : GTy elS.sz 56 (.agg #[.int .u64 0, .slice none 0 0, .slice none 0 0]) 87 47 := ⟨by kernel_rfl, rfl, Tryz.underlying47⟩
open Go.RowKit
theorem left_any (w : World) (p L : Nat) (xs : List Int) (k : Int) (h : R w p L xs k) : Calls Tryz.prog 52 #[.pointer (some ⟨p, 0, none⟩)] w fun e w' => e = .returned (.int .i64 (if k = 0 then (xs.length : Int) else 0)) ∧ w' = w := by
  obtain ⟨ao, n, cap, hr⟩ := h
  have h0 := hr.c0
  have h1 := hr.c1
  have hl := hr.sl.len
  clear hr
  by_cases hk : k = 0
  · rw [if_pos hk]
    subst hl hk
    go_enter Tryz.func52, Tryz.ntmps52
    go_wp2_with (go_at_call 47; refine (failed_any _ p 0 h1).mono ?_; rintro e w' ⟨rfl, rfl⟩)
    go_ret
    exact ⟨rfl, rfl⟩
  · rw [if_neg hk]
    have hb : (k != 0) = true := by simp [hk]
    clear hk
    go_enter Tryz.func52, Tryz.ntmps52
    go_wp2_with (go_at_call 47; refine (failed_any _ p k h1).mono ?_; rintro e w' ⟨rfl, rfl⟩)
    go_ret
    exact ⟨rfl, rfl⟩
open Go.RowKit
theorem R.lowM {W W' : World} {rp B : Nat} {xs : List Int} {k : Int} (h : R W rp rp xs k) (hb : Below B W W') (hB : rp < B) : R W' rp rp xs k := by
  obtain ⟨ao, n, cap, r⟩ := h
  have hbk := hb.block rp hB
  refine ⟨ao, n, cap, (World.cell?_of_block (a := ⟨rp, 0, none⟩) hbk).trans r.c0, (World.cell?_of_block (a := ⟨rp, 1, none⟩) hbk).trans r.c1, (World.frozen?_of_block (a := ⟨rp, 0, none⟩) hbk).trans r.f0, (World.frozen?_of_block (a := ⟨rp, 1, none⟩) hbk).trans r.f1, ?_, r.low, r.le, r.sm⟩
  exact Sl.kept (b := ⟨ao, n, cap, _⟩) r.sl (fun x hx => by
    obtain ⟨a, ha, hn, rfl⟩ := hx
    have hl1 := r.low a ha hn
    exact hb.block _ (by omega))
theorem fail_gm (w : World) (p L : Nat) (xs : List Int) (k q : Int) (h : R w p L xs k) : Calls Tryz.prog 48 #[.pointer (some ⟨p, 0, none⟩), .int .i64 q] w fun e w' => e = .returned (.tuple #[]) ∧ R w' p L (flS xs k q).1 (flS xs k q).2 ∧ w.grownBy w' (some p) := by
  by_cases hk : k = 0
  · by_cases hq : q = 0
    · have hf : flS xs k q = (xs, k) := by unfold flS; rw [if_pos hk, if_pos hq, hk]
      rw [hf]
      obtain ⟨ao, n, cap, hr⟩ := h
      refine (fail_not w p k q hr.c1 (.inr hq)).mono ?_
      rintro e w' ⟨rfl, rfl⟩
      exact ⟨rfl, ⟨ao, n, cap, hr⟩, World.grownBy.refl _ _⟩
    · have hf : flS xs k q = ([], q) := by unfold flS; rw [if_pos hk, if_neg hq]
      rw [hf]
      subst hk
      exact fail_any w p L xs q h hq
  · have hf : flS xs k q = (xs, k) := by unfold flS; rw [if_neg hk]
    rw [hf]
    obtain ⟨ao, n, cap, hr⟩ := h
    refine (fail_not w p k q hr.c1 (.inl hk)).mono ?_
    rintro e w' ⟨rfl, rfl⟩
    exact ⟨rfl, ⟨ao, n, cap, hr⟩, World.grownBy.refl _ _⟩
theorem gtrans {a b c : World} {p : Nat} (h : a.grownBy b (some p)) (k : b.grownBy c (some p)) : a.grownBy c (some p) :=
  ⟨k.os.trans h.os, k.tape.trans h.tape, k.output.trans h.output, Nat.le_trans h.size k.size, fun z hz hne => (k.block z (Nat.lt_of_lt_of_le hz h.size) hne).trans (h.block z hz hne)⟩
theorem gthen {a b c : World} {p : Nat} (h : a.grownBy b (some p)) (k : Below a.heap.size b c) : a.grownBy c (some p) := ⟨k.os.trans h.os, k.tape.trans h.tape, k.output.trans h.output, Nat.le_trans h.size k.size, fun z hz hne => (k.block z hz).trans (h.block z hz hne)⟩
theorem gbelow {a b : World} (p : Nat) (h : Below a.heap.size a b) : a.grownBy b (some p) := ⟨h.os, h.tape, h.output, h.size, fun z hz _ => h.block z hz⟩
theorem GI.rdr {α : Type} {E : El α} (F : E.Fine) {t : TypeId} {W W' : World} {base : Nat} {v : Value} {ys : List α} (h : GI E t W base v ys) (hl : ∀ y ∈ ys, ∀ z, E.blk y z → base ≤ z) {p : Nat} (hp : p < base) (hg : W.grownBy W' (some p)) : GI E t W' base v ys :=
  h.kept F fun z hz => hg.block z (h.lt F hz) (fun e => by
    have e := Option.some.inj e
    rcases hz with hz | ⟨y, hy, hz⟩
    · have := (h.own.lt z hz).1
      omega
    · have := hl y hy z hz
      omega)
def TxsPost (w : World) (p : Nat) (xs : List Int) (k : Int) (e : Ending) (w' : World) : Prop :=
  ∃ (ao : Option Addr) (n cap : Nat) (l : List SA), e = .returned (.slice ao n cap) ∧ GL elS w' ao n cap l ∧ l.map SA.v = (vsT xs k).1 ∧ R w' p p (vsT xs k).2.1 (vsT xs k).2.2 ∧ w.grownBy w' (some p) ∧ ∀ z, GLb elS ao n l z → w.heap.size ≤ z
set_option maxRecDepth 100000 in
set_option maxHeartbeats 4000000 in
theorem takeTexts_any (w : World) (p : Nat) (xs : List Int) (k : Int) (h : R w p p xs k) :
    Calls Tryz.prog 29 #[.pointer (some ⟨p, 0, none⟩)] w (TxsPost w p xs k) := by
  have hp := h.plt.1
  have CI := int_any w p p xs k 16 (by omega) h.byte h
  have HV : Hid (vsT xs k = repT vT (intS xs k 16).1 (intS xs k 16).2.1 (intS xs k 16).2.2) := rfl
  have hc16 := intS_le xs k 16
  have e16 : ((16 : Nat) : Int) = 16 := rfl
  rw [e16] at hc16
  clear e16
  go_enter Tryz.func29, Tryz.ntmps29
  go_wp2_with fail
  refine CI.mono ?_
  rintro e w1 ⟨rfl, R1, G1⟩
  generalize intS xs k 16 = c at HV hc16 R1 ⊢
  obtain ⟨cn, cxs, ck⟩ := c
  simp only at HV hc16 R1 ⊢
  have hci : (cn : Int) ≤ 16 := by omega
  clear CI h
  go_wp2_with fail
  go_loopw [3, 6] (fun v' i wr => ∃ (j : Nat) (v : Value) (ys : List SA), j ≤ cn ∧ i = .int .i64 j ∧ v = v' ∧ GI elS 87 wr w.heap.size v ys ∧ Hid (ys.map SA.v = (repT vT j cxs ck).1) ∧ ys.length = j ∧ R wr p p (repT vT j cxs ck).2.1 (repT vT j cxs ck).2.2 ∧ w.grownBy wr (some p) ∧ Hid (∀ y ∈ ys, ∀ z, elS.blk y z → w.heap.size ≤ z)) (fun _ i _ => cn - (intOf i).toNat)
  case atStart => exact ⟨0, _, [], Nat.zero_le _, rfl, rfl, GI.nil _ _ _ _, rfl, rfl, R1, G1, fun _ h => absurd h List.not_mem_nil⟩
  case round =>
    clear R1 G1
    obtain ⟨j, v, ys, hj, rfl, rfl, GR, HY, hyl, RR, GG, HL⟩ := hrel
    have hsz := GG.size
    by_cases hlt : j < cn
    · have hji : (j : Int) < (cn : Int) := by omega
      have HS : Hid (repT vT (j + 1) cxs ck = ((repT vT j cxs ck).1 ++ [(vT (repT vT j cxs ck).2.1 (repT vT j cxs ck).2.2).1], (vT (repT vT j cxs ck).2.1 (repT vT j cxs ck).2.2).2)) := repT_snoc vT j cxs ck
      generalize repT vT j cxs ck = s at HY RR HS
      obtain ⟨sl, sx, sk⟩ := s
      simp only at HY RR HS
      have HT : Hid (vT sx sk = (⟨(uintS sx sk).1, (bytesS (uintS sx sk).2.1 (uintS sx sk).2.2 65536).1, (bytesS (bytesS (uintS sx sk).2.1 (uintS sx sk).2.2 65536).2.1 (bytesS (uintS sx sk).2.1 (uintS sx sk).2.2 65536).2.2 32).1⟩, (bytesS (bytesS (uintS sx sk).2.1 (uintS sx sk).2.2 65536).2.1 (bytesS (uintS sx sk).2.1 (uintS sx sk).2.2 65536).2.2 32).2)) := rfl
      have CU := uint_any wr p p sx sk RR
      have vlt : Hid (∀ z, v.ownBlock = some z → z < wr.heap.size) := fun z hz => (GR.own.lt z hz).2
      have hlt1 := uintS_lt (k := sk) RR.byte
      go_wp2_with fail
      refine CU.mono ?_
      rintro e w2 ⟨rfl, R2, G2⟩
      generalize uintS sx sk = r1 at HT hlt1 R2 ⊢
      have GR := GR.rdr elS_fine HL.out hp G2
      have GG := gtrans GG G2
      have s1 := G2.size
      clear CU G2 RR
      have CB := bytes_any w2 p p r1.2.1 r1.2.2 65536 (by omega) R2
      go_wp2_with fail
      refine CB.mono ?_
      rintro e w3 ⟨bo, bn, bc, rfl, S3, F3, R3, G3⟩
      generalize bytesS r1.2.1 r1.2.2 65536 = r2 at HT S3 R3
      have GR := GR.rdr elS_fine HL.out hp G3
      have s2 := s1
      have s1 := Nat.le_trans s1 G3.size
      have GG := gtrans GG G3
      clear CB G3 R2
      have CC := bytes_any w3 p p r2.2.1 r2.2.2 32 (by omega) R3
      go_wp2_with fail
      refine CC.mono ?_
      rintro e w4 ⟨to, tn, tc, rfl, S4, F4, R4, G4⟩
      generalize bytesS r2.2.1 r2.2.2 32 = r3 at HT S4 R4
      have GR := GR.rdr elS_fine HL.out hp G4
      have S3 : Sl w4 bo bn bc r2.1 := S3.keepNe (fun a ha _ e => by have := F3 a ha; have := GG.size; omega) G4
      have s3 := s1
      have GG := gtrans GG G4
      clear CC G4 R3 s1
      obtain ⟨y, hy⟩ : ∃ y : SA, y = ⟨r1.1, ⟨bo, bn, bc, r2.1⟩, ⟨to, tn, tc, r3.1⟩⟩ := ⟨_, rfl⟩
      have C5 : Below w4.heap.size w4 (w4.alloc (.cells #[.int .u64 r1.1, .slice bo bn bc, .slice to tn tc] 87)) := (Below.refl _ _).alloc (Nat.le_refl _) _
      have K5 : (w4.alloc (.cells #[.int .u64 r1.1, .slice bo bn bc, .slice to tn tc] 87)).heap[w4.heap.size]? = some (.cells #[.int .u64 r1.1, .slice bo bn bc, .slice to tn tc] 87) := heap_alloc_new _ _
      have yok : y.ok w4 := by rw [hy]; exact ⟨hlt1, S3, S4⟩
      have HYF : Hid (∀ z, elS.blk y z → w.heap.size ≤ z ∧ v.ownBlock ≠ some z) := fun z hz => by
        rw [hy] at hz
        have hlow : wr.heap.size ≤ z := by
          rcases hz with ⟨a, ha, _, rfl⟩ | ⟨a, ha, _, rfl⟩
          · exact Nat.le_trans s2 (F3 a ha)
          · exact Nat.le_trans s3 (F4 a ha)
        exact ⟨Nat.le_trans hsz hlow, fun e => by have := vlt.out z e; omega⟩
      have HG : Hid (∀ j u, (elS.c y)[j]? = some u → (w4.alloc (.cells #[.int .u64 r1.1, .slice bo bn bc, .slice to tn tc] 87)).cell? ((⟨w4.heap.size, 0, none⟩ : Addr).add j) = some u) := fun j u hu => by
        rw [Addr.add_lit, Nat.zero_add, cell_of_row _ _ j _ _ _ K5]
        rw [hy] at hu
        simpa [elS, SA.cells] using hu
      have hyv : y.v = ⟨r1.1, r2.1, r3.1⟩ := by rw [hy]; rfl
      have HYV : Hid ((ys ++ [y]).map SA.v = (repT vT (j + 1) cxs ck).1) := by
        show _ = _
        rw [HS.out, HT.out, List.map_append, HY.out]
        simp only [List.map_cons, List.map_nil, hyv]
      have HSR : Hid ((repT vT (j + 1) cxs ck).2 = r3.2) := by
        show _ = _
        rw [HS.out, HT.out]
      have HL2 : Hid (∀ u ∈ ys ++ [y], ∀ z, elS.blk u z → w.heap.size ≤ z) := fun u hu z hz => by
        rcases List.mem_append.1 hu with hu | hu
        · exact HL.out u hu z hz
        · rw [List.mem_singleton.1 hu] at hz
          exact (HYF.out z hz).1
      have GR5 := GR.below elS_fine C5
      have yok5 : elS.ok y (w4.alloc (.cells #[.int .u64 r1.1, .slice bo bn bc, .slice to tn tc] 87)) := yok.below C5
      have R5 := R4.below C5
      have GG5 := gtrans GG (gbelow p C5)
      have hb5 := GG5.size
      clear hy hyv HS HT HY HL S3 S4 F3 F4 R4 K5 yok s2 s3 GR C5 vlt
      go_wp2_with (refine wpList_appG elS_fine tyS rfl (.tmp 8) (.tmp 16) rfl GR5 rfl rfl HG.out yok5 (fun z hz => (HYF.out z hz).2) (by omega) (by unfold maxLen; omega) hb5 ?_; intro v6 w6 GR6 B6)
      have R6 := R5.lowM B6 hp
      have GG6 : w.grownBy w6 (some p) := gthen GG5 B6
      go_roundw
      case rel => exact ⟨j + 1, v6, ys ++ [y], by omega, by go_num, rfl, GR6, HYV, by simp [hyl], by rw [HSR.out]; exact R6, GG6, HL2⟩
      case measure => simp [intOf]; omega
    · have hge : (cn : Int) ≤ (j : Int) := by omega
      obtain rfl : j = cn := by omega
      obtain ⟨ao, cap, rfl, GLx, hlo⟩ := GR.gl elS_fine
      have HF : Hid (∀ z, GLb elS ao ys.length ys z → w.heap.size ≤ z) := fun z hz => by
        rcases hz with hz | ⟨y, hy, hz⟩
        · exact hlo z hz
        · exact HL.out y hy z hz
      clear hlo HL
      go_wp2
      go_ret
      exact ⟨ao, _, cap, ys, rfl, GLx, by rw [HV.out]; exact HY.out, by rw [HV.out]; exact RR, GG, HF.out⟩
open Go.RowKit
structure Buf (w : World) (base : Nat) (v : Value) (xs : List Int) : Prop where
  own : w.ownsRow base 5 1 v xs.length (bv xs)
  byt : Byt xs
structure Bst (w : World) (v : Value) (w' : World) (v' : Value) : Prop where
  gr : w.grownBy w' v.ownBlock
  at' : ∀ g, v'.ownBlock = some g → v.ownBlock = some g ∨ w.heap.size ≤ g
theorem bel_gr {w w' : World} (h : Below w.heap.size w w') (r : Option Nat) : w.grownBy w' r := ⟨h.os, h.tape, h.output, h.size, fun k hk _ => h.block k hk⟩
theorem Bst.refl (w : World) (v : Value) : Bst w v w v := ⟨bel_gr (Below.refl _ w) _, fun _ h => .inl h⟩
theorem Bst.trans {w w1 w2 : World} {v v1 v2 : Value} (h : Bst w v w1 v1) (k : Bst w1 v1 w2 v2) : Bst w v w2 v2 :=
  ⟨⟨k.gr.os.trans h.gr.os, k.gr.tape.trans h.gr.tape, k.gr.output.trans h.gr.output, Nat.le_trans h.gr.size k.gr.size, fun z hz hne => (k.gr.block z (Nat.lt_of_lt_of_le hz h.gr.size) (fun e => by
    rcases h.at' z e.symm with c | c
    · exact hne c.symm
    · omega)).trans (h.gr.block z hz hne)⟩, fun g hg => by
    rcases k.at' g hg with c | c
    · exact h.at' g c
    · exact .inr (Nat.le_trans h.gr.size c)⟩
theorem Bst.below {w w1 : World} (h : Below w.heap.size w w1) (v : Value) : Bst w v w1 v := ⟨bel_gr h _, fun _ h => .inl h⟩
theorem Bst.block {w w' : World} {v v' : Value} (h : Bst w v w' v') {z : Nat} (hz : z < w.heap.size) (hne : v.ownBlock ≠ some z) : w'.heap[z]? = w.heap[z]? := h.gr.block z hz (fun e => hne e.symm)
theorem Bst.off {w w' : World} {v v' : Value} (h : Bst w v w' v') {z : Nat} (hz : z < w.heap.size) (hne : v.ownBlock ≠ some z) : v'.ownBlock ≠ some z := fun e => by
  rcases h.at' z e with c | c
  · exact hne c
  · omega
theorem Buf.nil (w : World) (base : Nat) : Buf w base (.slice none 0 0) [] := ⟨World.ownsRow_nil _ _ _ _, fun _ h => by cases h⟩
theorem Buf.bel {w w' : World} {base : Nat} {v v' : Value} {xs : List Int} (h : Buf w base v xs) (k : Bst w v w' v') (hb : base ≤ w.heap.size) : Below base w w' := (Below.refl _ w).grown k.gr hb (fun z hz => (h.own.lt z hz).1)
theorem Buf.below {w w' : World} {base : Nat} {v : Value} {xs : List Int} (h : Buf w base v xs) (hb : Below w.heap.size w w') : Buf w' base v xs := ⟨own_kept h.own fun g hg => hb.block g (h.own.lt g hg).2, h.byt⟩
theorem Buf.lt {w : World} {base : Nat} {v : Value} {xs : List Int} (h : Buf w base v xs) {z : Nat} (hz : v.ownBlock = some z) : base ≤ z ∧ z < w.heap.size := h.own.lt z hz
theorem Buf.new {w : World} {base : Nat} {v : Value} {xs : List Int} (h : Buf w base v xs) {z : Nat} (hz : w.heap.size ≤ z) : v.ownBlock ≠ some z := fun e => by have := (h.lt e).2; omega
def BufPost (w : World) (base : Nat) (v : Value) (zs : List Int) (e : Ending) (w' : World) : Prop := ∃ v', e = .returned v' ∧ Buf w' base v' zs ∧ Bst w v w' v'
theorem wpList_appB {w : World} {ops : Array Oper} {rest : List Oper} {o : Oper} {a : Act} {Q : Exit → Act → World → Prop} (hgd : o.guard = none) (s x : Operand)
    (ho : o.op = .call { callee := .builtin .append, args := #[s, x], argTypes := #[28, 28] })
    (base : Nat) (v : Value) (xs : List Int) (hs : a.eval s = v) (hown : Buf w base v xs)
    (bo : Option Addr) (m c : Nat) (ys : List Int) (hx : a.eval x = .slice bo m c) (hsl : Sl w bo m c ys) (hb : xs.length + m ≤ 140737488355328) (hbase : base ≤ w.heap.size)
    (h : ∀ v' w', Buf w' base v' (xs ++ ys) → Bst w v w' v' → wpList Tryz.prog ops Q rest (a.put o.dst v') w') : wpList Tryz.prog ops Q (o :: rest) a w := by
  obtain ⟨i0, hi, hz0, hz1, hz2⟩ := info_parts u8info
  cases bo with
  | some ad =>
    refine wpList_append_own_at w hgd s x 28 ho base 5 i0 (.int .u8 0) 1 1 Tryz.underlying28 hi hz0 hz1 hz2 rfl (by decide) v xs.length (bv xs) hs hown.own ad m c (bv ys) hx (by rw [bv_length, hsl.len, Nat.mul_one]) (hsl.cells ad rfl) (bv_one ys) (by unfold maxLen; omega) (by omega) hbase ?_
    intro v' w' h1 h2 _ h4
    rw [← bv_append] at h1
    refine h v' w' ⟨by rw [List.length_append, hsl.len]; exact h1, hown.byt.append hsl.byte⟩ ⟨h2, fun g hg => ?_⟩
    rcases h4 with h4 | h4
    · exact .inl (h4 ▸ hg)
    · rw [h4] at hg
      exact .inr (Nat.le_of_eq (Option.some.inj hg))
  | none =>
    obtain ⟨rfl, rfl⟩ := hsl.nil rfl
    obtain rfl : ys = [] := List.eq_nil_of_length_eq_zero hsl.len
    refine wpList_append_own_none hgd s x 28 ho base 5 i0 1 Tryz.underlying28 hi v xs.length (bv xs) hs hown.own hx ?_
    exact h v w (by simpa using hown) (Bst.refl _ _)
open Go.RowKit
set_option maxRecDepth 100000 in
set_option maxHeartbeats 8000000 in
theorem prr_any (w : World) (e : Int) (ao : Option Addr) (n cap : Nat) (l : List CA) (m : Bool) (L : CL w ao n cap l) :
    Calls Tryz.prog 69 #[resV e ao n cap m] w fun x w' => x = .returned (.int .i64 (kindR (resR e l m))) ∧ Below w.heap.size w w' := by
  have hl : l.length = n := L.len
  have B : Below w.heap.size w (w.alloc (Obj.cells #[.int .i64 e, .slice ao n cap, .bool m] 44)) := (Below.refl _ w).alloc (Nat.le_refl _) _
  have K : RC (w.alloc (Obj.cells #[.int .i64 e, .slice ao n cap, .bool m] 44)) w.heap.size e ao n cap m := heap_alloc_new w _
  have L1 := L.below B
  unfold resV
  by_cases c0 : e < 0
  · have i0 : decide (e < 0) = true := by simp; omega
    have hv : Hid (rightR (resR e l m) = false) := resR_no e l m (by omega)
    clear L L1 K hl c0
    go_enter Tryz.func69, Tryz.ntmps69
    go_wp2
    go_ret
    exact ⟨by unfold kindR; rw [hv.out] <;> rfl, B⟩
  have i0 : decide (e < 0) = false := by simp; omega
  by_cases c1 : 18 < e
  · have i1 : decide (18 < e) = true := by simp; omega
    have hv : Hid (rightR (resR e l m) = false) := resR_no e l m (by omega)
    clear L L1 K hl c0 c1
    go_enter Tryz.func69, Tryz.ntmps69
    go_wp2
    go_ret
    exact ⟨by unfold kindR; rw [hv.out] <;> rfl, B⟩
  have i1 : decide (18 < e) = false := by simp; omega
  by_cases c2 : 16 < n
  · have i2 : decide ((16 : Int) < (n : Int)) = true := by simp; omega
    have hv : Hid (rightR (resR e l m) = false) := resR_no e l m (by omega)
    clear L L1 K hl c0 c1 c2
    go_enter Tryz.func69, Tryz.ntmps69
    go_wp2
    go_ret
    exact ⟨by unfold kindR; rw [hv.out] <;> rfl, B⟩
  have i2 : decide ((16 : Int) < (n : Int)) = false := by simp; omega
  have HV : Hid (rightR (resR e l m) = l.all fun c => cellR c.c) := resR_all e l m (by omega)
  have hn16 : n ≤ 16 := by omega
  clear c0 c1 c2 L
  go_enter Tryz.func69, Tryz.ntmps69
  go_wp2_with fail
  obtain ⟨w1, hw1⟩ : ∃ W, W = w.alloc (Obj.cells #[.int .i64 e, .slice ao n cap, .bool m] 44) := ⟨_, rfl⟩
  rw [← hw1] at B K L1 ⊢
  clear hw1
  go_loopw [4, 22] (fun _ i wr => ∃ k : Nat, k ≤ n ∧ i = .int .i64 k ∧ Below w.heap.size w wr ∧ Below w1.heap.size w1 wr ∧ (l.take k).all (fun c => cellR c.c) = true) (fun _ i _ => n - (intOf i).toNat)
  case atStart => exact ⟨0, Nat.zero_le _, rfl, B, Below.refl _ _, rfl⟩
  case round =>
    clear B
    obtain ⟨k, hk, rfl, B, C1, hall⟩ := hrel
    have HA : Hid ((l.take k).all (fun c => cellR c.c) = true) := hall
    have K1 := K.keep C1
    clear hall K
    by_cases hlt : k < n
    · obtain ⟨b, off, rfl, hc⟩ := L1.at (by omega)
      have hkl : k < l.length := by omega
      have X := (hc k hkl).below C1
      have hok : (l[k]).ok wr := (L1.ok _ (List.getElem_mem hkl)).below C1
      have i6 : (k : Int) < (n : Int) := by omega
      have HT : Hid ((l.take (k + 1)).all (fun c => cellR c.c) = cellR l[k].c) := by
        show _ = _
        exact all_take_succ (fun c : CA => cellR c.c) hkl HA.out
      have HL : Hid (cellR l[k].c = false → rightR (resR e l m) = false) := fun hb => by
        rw [HV.out, List.all_eq_false]
        exact ⟨_, List.getElem_mem hkl, by rw [hb]; simp⟩
      obtain ⟨c, hx⟩ : ∃ c : CA, c = l[k] := ⟨_, rfl⟩
      rw [← hx] at hok HT HL X
      clear hx hc HA
      have hcr := cellR_ok hok
      have HX : Hid (∀ V, Below wr.heap.size wr V → CX V b (off + k * 6) c) := fun V hV => X.below hV
      obtain ⟨q0, q1, q2, q3, q4, q5⟩ := X
      have r1 := K1.c1
      have Bc : Below wr.heap.size wr (wr.alloc (Obj.cells #[.string c.row, .string c.fam, .string c.qual, .int .u64 c.time, .slice c.va.ao c.va.n c.va.cap, .bool c.gone] 119)) := (Below.refl _ _).alloc (Nat.le_refl _) _
      have Kc : (wr.alloc (Obj.cells #[.string c.row, .string c.fam, .string c.qual, .int .u64 c.time, .slice c.va.ao c.va.n c.va.cap, .bool c.gone] 119)).heap[wr.heap.size]? = some (.cells #[.string c.row, .string c.fam, .string c.qual, .int .u64 c.time, .slice c.va.ao c.va.n c.va.cap, .bool c.gone] 119) := heap_alloc_new wr _
      cases kr : c.key.isRight with
      | false =>
        have hr : c.key.kind = 5 := by unfold KA.kind; rw [kr]; rfl
        have hv : Hid (rightR (resR e l m) = false) := HL.out (by rw [hcr, kr]; rfl)
        go_wp2_with (go_at_call 87; (refine (pright_any _ c.key).mono ?_; rintro x w2 ⟨rfl, C⟩; have E2 := Bc.trans (C.mono Bc.size); have D : Below w.heap.size w w2 := B.trans (E2.mono B.size); have D1 := C1.trans (E2.mono C1.size); have z4 : w2.cell? ⟨wr.heap.size, 4, none⟩ = some (.slice c.va.ao c.va.n c.va.cap) := (C.cell (by simp)).trans (cell_of_row _ wr.heap.size 4 _ _ _ Kc); have zlt : wr.heap.size < w2.heap.size := (by have := C.size; simp at this; omega); rw [hr]; clear q0 q1 q2 q3 q4 q5 r1 C))
        go_ret
        exact ⟨by unfold kindR; rw [hv.out] <;> rfl, D⟩
      | true =>
        have hr : c.key.kind = 0 := by unfold KA.kind; rw [kr]; rfl
        cases dv : decide (c.va.n ≤ 256) with
        | false =>
          have hv : Hid (rightR (resR e l m) = false) := HL.out (by rw [hcr, kr, dv]; rfl)
          go_wp2_with (first | (go_at_call 87; (refine (pright_any _ c.key).mono ?_; rintro x w2 ⟨rfl, C⟩; have E2 := Bc.trans (C.mono Bc.size); have D : Below w.heap.size w w2 := B.trans (E2.mono B.size); have D1 := C1.trans (E2.mono C1.size); have z4 : w2.cell? ⟨wr.heap.size, 4, none⟩ = some (.slice c.va.ao c.va.n c.va.cap) := (C.cell (by simp)).trans (cell_of_row _ wr.heap.size 4 _ _ _ Kc); have zlt : wr.heap.size < w2.heap.size := (by have := C.size; simp at this; omega); rw [hr]; clear q0 q1 q2 q3 q4 q5 r1 C)) | (go_at_call 88; refine (pvalue_any _ _ _ _).mono ?_; rintro e w' ⟨rfl, rfl⟩; rw [dv]))
          go_ret
          exact ⟨by unfold kindR; rw [hv.out] <;> rfl, D⟩
        | true =>
          have hcc : Hid (cellR c.c = true) := by show _ = _; rw [hcr, kr, dv]; rfl
          go_wp2_with (first | (go_at_call 87; (refine (pright_any _ c.key).mono ?_; rintro x w2 ⟨rfl, C⟩; have E2 := Bc.trans (C.mono Bc.size); have D : Below w.heap.size w w2 := B.trans (E2.mono B.size); have D1 := C1.trans (E2.mono C1.size); have z4 : w2.cell? ⟨wr.heap.size, 4, none⟩ = some (.slice c.va.ao c.va.n c.va.cap) := (C.cell (by simp)).trans (cell_of_row _ wr.heap.size 4 _ _ _ Kc); have zlt : wr.heap.size < w2.heap.size := (by have := C.size; simp at this; omega); rw [hr]; clear q0 q1 q2 q3 q4 q5 r1 C)) | (go_at_call 88; refine (pvalue_any _ _ _ _).mono ?_; rintro e w' ⟨rfl, rfl⟩; rw [dv]))
          go_roundw
          case rel => exact ⟨k + 1, by omega, by go_num, D, D1, by rw [HT.out, hcc.out]⟩
          case measure => simp [intOf]; omega
    · have i6 : (n : Int) ≤ (k : Int) := by omega
      have hv : Hid (rightR (resR e l m) = true) := by
        show _ = _
        rw [HV.out, ← HA.out, List.take_of_length_le (by omega)]
      have r1 := K1.c1
      go_wp2
      go_ret
      exact ⟨by unfold kindR; rw [hv.out] <;> rfl, B⟩
open Go.RowKit
theorem putC_key (c : CA) : putC c.c = putK c.key ++ (byts c.va.xs ++ enb c.gone) := by
  unfold putC putK CA.key CA.c
  simp only [List.append_assoc]
theorem putC_len {c : CA} (hk : c.key.fits) (hv : c.va.xs.length ≤ 256) : (putC c.c).length ≤ 410 := by
  rw [putC_key]
  have := putK_len hk
  have := byts_len hv
  have := enb_len c.gone
  simp only [List.length_append]
  omega
theorem putR_res (e : Int) (l : List CA) (m : Bool) : putR (resR e l m) = enc e.toNat ++ (enc l.length ++ ((l.map fun c => putC c.c).flatten ++ enb m)) := by
  unfold putR resR
  simp only [List.length_map, List.map_map]
  rfl
theorem right_cells {e : Int} {l : List CA} {m : Bool} {w : World} (h : rightR (resR e l m) = true) (hl : ∀ c ∈ l, c.ok w) : (0 ≤ e ∧ e ≤ 18) ∧ l.length ≤ 16 ∧ ∀ c ∈ l, c.key.fits ∧ c.va.xs.length ≤ 256 := by
  have h0 := h
  unfold rightR at h0
  have h1 := of_decide_eq_true (Bool.and_eq_true_iff.1 h0).1
  have h2 := rightR_fits h (fun c hc => by
    obtain ⟨x, hx, rfl⟩ := List.mem_map.1 hc
    exact (hl x hx).wf)
  obtain ⟨_, h3, h4⟩ := h2
  have h1 : 0 ≤ e ∧ e ≤ 18 ∧ (l.map CA.c).length ≤ 16 := h1
  refine ⟨⟨h1.1, h1.2.1⟩, by simpa [resR] using h3, fun c hc => ?_⟩
  have h5 := h4 c.c (List.mem_map.2 ⟨c, hc, rfl⟩)
  exact ⟨⟨h5.row, h5.fam, h5.qual, h5.time⟩, h5.value.1⟩
def ResPost (w : World) (r : RV) (e : Ending) (w' : World) : Prop :=
  (∃ bo k c, e = .returned (.tuple #[.slice bo k c, .int .i64 (kindR r)]) ∧ Sl w' bo k c (if rightR r then putR r else [])) ∧ Below w.heap.size w w'
set_option maxRecDepth 100000 in
set_option maxHeartbeats 8000000 in
theorem presult_any (w : World) (e : Int) (ao : Option Addr) (n cap : Nat) (l : List CA) (m : Bool) (L : CL w ao n cap l) :
    Calls Tryz.prog 45 #[resV e ao n cap m] w (ResPost w (resR e l m)) := by
  have hl : l.length = n := L.len
  have B : Below w.heap.size w (w.alloc (Obj.cells #[.int .i64 e, .slice ao n cap, .bool m] 44)) := (Below.refl _ w).alloc (Nat.le_refl _) _
  have K : RC (w.alloc (Obj.cells #[.int .i64 e, .slice ao n cap, .bool m] 44)) w.heap.size e ao n cap m := heap_alloc_new w _
  have L1 := L.below B
  have hp : rightR (resR e l m) = true → (0 ≤ e ∧ e ≤ 18) ∧ l.length ≤ 16 ∧ ∀ c ∈ l, c.key.fits ∧ c.va.xs.length ≤ 256 := fun q => right_cells q L.ok
  clear L
  unfold resV
  go_enter Tryz.func45, Tryz.ntmps45
  go_wp2_with fail
  obtain ⟨w1, hw1⟩ : ∃ W, W = w.alloc (Obj.cells #[.int .i64 e, .slice ao n cap, .bool m] 44) := ⟨_, rfl⟩
  obtain ⟨N, hN⟩ : ∃ N, N = w.heap.size := ⟨_, rfl⟩
  rw [← hw1] at B K L1 ⊢
  rw [← hN] at B K ⊢
  have HN : Hid (N = w.heap.size) := hN
  clear hw1 hN
  refine (prr_any w1 e ao n cap l m L1).mono ?_
  rintro x w2 ⟨rfl, C⟩
  have K2 := K.keep C
  have B2 := B.trans (C.mono (by have := B.size; have := K.lt; omega))
  have L2 := L1.below C
  clear C K B L1
  cases hb : rightR (resR e l m) with
  | false =>
    have hk : kindR (resR e l m) = 1 := by unfold kindR; rw [hb]; rfl
    rw [hk]
    go_wp2
    go_ret2
    exact ⟨⟨none, 0, 0, by rw [hk] <;> rfl, by rw [hb]; exact Sl.nothing _⟩, by rw [← HN.out]; exact B2⟩
  | true =>
    have hk : kindR (resR e l m) = 0 := by unfold kindR; rw [hb]; rfl
    rw [hk]
    obtain ⟨⟨e0, e18⟩, l16, hcf⟩ := hp hb
    clear hp
    have r0 := K2.c0
    have r1 := K2.c1
    have r2 := K2.c2
    go_wp2_with fail
    clear r0 r1 r2
    refine (fUintI w2 none 0 0 e [] (Sl.nothing _) (by omega) e0 (by omega)).mono ?_
    rintro x w3 ⟨b3, m3, c3, rfl, S3, C⟩
    have K3 := K2.keep C
    have B3 := B2.trans (C.mono (by have := B2.size; have := K2.lt; omega))
    have L3 := L2.below C
    clear C K2 B2 L2
    have l3 := S3.len
    have g0 := enc_length (n := e.toNat) (by omega)
    have g1 := enc_length (n := n) (by omega)
    simp only [List.length_append, List.length_nil] at l3
    have r0 := K3.c0
    have r1 := K3.c1
    have r2 := K3.c2
    go_wp2_with fail
    clear r0 r1 r2
    refine (fUint w3 b3 m3 c3 n _ S3 (by omega) (by omega)).mono ?_
    rintro x w4 ⟨b4, m4, c4, rfl, S4, C⟩
    have K4 := K3.keep C
    have B4 := B3.trans (C.mono (by have := B3.size; have := K3.lt; omega))
    have L4 := L3.below C
    clear C K3 B3 L3
    have l4 := S4.len
    simp only [List.length_append, List.length_nil] at l4
    have m4b : m4 ≤ 20 := by omega
    clear l3 l4 S3 g0 g1
    rw [List.nil_append] at S4
    have r1 := K4.c1
    go_wp2_with fail
    clear r1
    go_loopw [5, 7, 26] (fun b _ i wr => ∃ (k : Nat) (bo : Option Addr) (m c : Nat), k ≤ n ∧ i = .int .i64 k ∧ b = .slice bo m c ∧ Sl wr bo m c (enc e.toNat ++ enc n ++ ((l.take k).map fun c => putC c.c).flatten) ∧ m ≤ 20 + 410 * k ∧ Below N w wr ∧ Below w4.heap.size w4 wr) (fun _ _ i _ => n - (intOf i).toNat)
    case atStart => exact ⟨0, b4, m4, c4, Nat.zero_le _, rfl, rfl, by simpa using S4, by omega, B4, Below.refl _ _⟩
    case round =>
      clear S4 B4
      obtain ⟨k, bo, m1, c1, hk1, rfl, rfl, S, hm, B, C⟩ := hrel
      have K5 := K4.keep C
      clear K4
      by_cases hlt : k < n
      · obtain ⟨b, off, ea, hc⟩ := L4.at (by omega)
        have hkl : k < l.length := by omega
        have X := (hc k hkl).below C
        have hok : (l[k]).ok wr := (L4.ok _ (List.getElem_mem hkl)).below C
        have hcf1 := hcf _ (List.getElem_mem hkl)
        have i6 : (k : Int) < (n : Int) := by omega
        have HT : Hid (((l.take (k + 1)).map fun c => putC c.c).flatten = ((l.take k).map fun c => putC c.c).flatten ++ putC l[k].c) := by
          show _ = _
          rw [List.take_succ_eq_append_getElem hkl, List.map_append, List.flatten_append]
          simp
        obtain ⟨c, hx⟩ : ∃ c : CA, c = l[k] := ⟨_, rfl⟩
        obtain ⟨p, hp⟩ : ∃ p, p = ((l.take k).map fun c => putC c.c).flatten := ⟨_, rfl⟩
        rw [← hx] at hok HT X hcf1
        rw [← hp] at S HT
        clear hx hc hp
        rw [ea]
        clear ea
        obtain ⟨u0, hu0⟩ : ∃ V, V = wr.alloc (Obj.cells #[.string c.row, .string c.fam, .string c.qual, .int .u64 c.time, .slice c.va.ao c.va.n c.va.cap, .bool c.gone] 119) := ⟨_, rfl⟩
        obtain ⟨M, hM⟩ : ∃ M, M = wr.heap.size := ⟨_, rfl⟩
        have U0 : Below wr.heap.size wr u0 := by rw [hu0]; exact (Below.refl _ _).alloc (Nat.le_refl _) _
        have KU : u0.heap[M]? = some (.cells #[.string c.row, .string c.fam, .string c.qual, .int .u64 c.time, .slice c.va.ao c.va.n c.va.cap, .bool c.gone] 119) := by rw [hu0, hM]; exact heap_alloc_new wr _
        have HC : Hid (∀ V, Below u0.heap.size u0 V → V.cell? ⟨M, 0, none⟩ = some (.string c.row) ∧ V.cell? ⟨M, 1, none⟩ = some (.string c.fam) ∧ V.cell? ⟨M, 2, none⟩ = some (.string c.qual) ∧ V.cell? ⟨M, 3, none⟩ = some (.int .u64 c.time) ∧ V.cell? ⟨M, 4, none⟩ = some (.slice c.va.ao c.va.n c.va.cap) ∧ V.cell? ⟨M, 5, none⟩ = some (.bool c.gone)) := fun V hV => by
          have q := (hV.block M ((Array.getElem?_eq_some_iff.1 KU).1)).trans KU
          exact ⟨cell_of_row V M 0 _ _ _ q, cell_of_row V M 1 _ _ _ q, cell_of_row V M 2 _ _ _ q, cell_of_row V M 3 _ _ _ q, cell_of_row V M 4 _ _ _ q, cell_of_row V M 5 _ _ _ q⟩
        have sU := S.below U0
        have hokU := hok.below U0
        have BU := B.trans (U0.mono (by have := B.size; have := HN.out; omega))
        have DU := C.trans (U0.mono C.size)
        have lS := S.len
        have g1 := putK_len hcf1.1
        have g2 := byts_len hcf1.2
        have g3 := enb_len c.gone
        simp only [List.length_append] at lS
        obtain ⟨q0, q1, q2, q3, q4, q5⟩ := X
        go_wp2_with fail
        rw [← hu0, ← hM]
        clear hu0 hM q0 q1 q2 q3 q4 q5 KU S
        refine (pkey_any u0 bo m1 c1 _ sU (by omega) c.key hcf1.1).mono ?_
        rintro x w5 ⟨b5, m5, c5, rfl, S5, C5⟩
        have A5 : Below u0.heap.size u0 w5 := C5
        have l5 := S5.len
        simp only [List.length_append] at l5
        obtain ⟨q0, q1, q2, q3, q4, q5⟩ := HC.out w5 A5
        go_wp2_with fail
        clear q0 q1 q2 q3 q4 q5 C5
        refine (fBytes w5 b5 _ m5 c5 _ _ _ _ S5 (hokU.below A5).va (by omega) (by have := hokU.va.len; omega)).mono ?_
        rintro x w6 ⟨b6, m6, c6, rfl, S6, C6⟩
        have A6 := A5.trans (C6.mono A5.size)
        have l6 := S6.len
        simp only [List.length_append] at l6
        obtain ⟨q0, q1, q2, q3, q4, q5⟩ := HC.out w6 A6
        go_wp2_with fail
        clear q0 q1 q2 q3 q4 q5 C6
        refine (fBool w6 b6 m6 c6 c.gone _ S6 (by omega)).mono ?_
        rintro x w7 ⟨b7, m7, c7, rfl, S7, C7⟩
        have A7 := A6.trans (C7.mono A6.size)
        have l7 := S7.len
        simp only [List.length_append] at l7
        have m7b : m7 ≤ 20 + 410 * (k + 1) := by omega
        have B7 := BU.trans (A7.mono (by have := BU.size; have := HN.out; omega))
        have D7 := DU.trans (A7.mono DU.size)
        have fin : enc e.toNat ++ enc n ++ p ++ putK c.key ++ byts c.va.xs ++ enb c.gone = enc e.toNat ++ enc n ++ (p ++ putC c.c) := by
          rw [putC_key]
          simp only [List.append_assoc]
        rw [fin] at S7
        clear C7 l5 l6 l7 lS S5 S6 sU
        go_wp2
        go_roundw
        case rel => exact ⟨k + 1, b7, m7, c7, by omega, by go_num, rfl, by rw [HT.out]; exact S7, m7b, B7, D7⟩
        case measure => simp [intOf]; omega
      · have i6 : (n : Int) ≤ (k : Int) := by omega
        rw [List.take_of_length_le (by omega)] at S
        have r2 := K5.c2
        go_wp2_with fail
        clear r2
        refine (fBool wr bo m1 c1 m _ S (by omega)).mono ?_
        rintro x w5 ⟨b5, m5, c5, rfl, S5, C5⟩
        have B5 := B.trans (C5.mono (by have := B.size; have := HN.out; omega))
        go_wp2
        go_ret2
        refine ⟨⟨b5, m5, c5, by rw [hk] <;> rfl, ?_⟩, by rw [← HN.out]; exact B5⟩
        rw [if_pos hb, putR_res, hl]
        simpa only [List.append_assoc] using S5
end Go.Proofs.YtcgphdipfekccaaGreatDoor
namespace Go
section
variable {P : Program} {ops : Array Oper} {S : World → Prop} {Q : Exit → Act → World → Prop} {fuel : Nat} {listed : Array Bool} {a : Act} {w : World}
theorem hr_ex (i : Nat) (d : Option Tmp) {oi : Oper} {R : Value → World → Prop} (hi : ops[i]? = some oi) (hd : oi.dst = d) (hr : Region.ready .any ops listed = [i]) (hw : Region.wanted oi (yielded ops a.tmps) = true)
    (hrun : ∃ v w', (execOp a.eval oi).run P w = .ok (.value v) w' ∧ R v w')
    (h : ∀ v w', R v w' → S w' ∧ wpAnyH P .any ops (NoPanic Q) S fuel (listed.setIfInBounds i true) (a.put d v) w') : wpAnyH P .any ops (NoPanic Q) S (fuel + 1) listed a w := by
  refine wpAnyH_all hr (by simp) fun j hj => ?_
  obtain rfl := List.mem_singleton.1 hj
  obtain ⟨v, w', hrun, hR⟩ := hrun
  unfold wpOp
  simp only [hi, hw, if_true, Oper.wp, hrun, Oper.upon, hd]
  exact .inl (h v w' hR)
theorem op_ex (i : Nat) (d : Option Tmp) {oi : Oper} {R : Value → World → Prop} (hi : ops[i]? = some oi) (hd : oi.dst = d) (hw : Region.wanted oi (yielded ops a.tmps) = true)
    (hrun : ∃ v w', (execOp a.eval oi).run P w = .ok (.value v) w' ∧ R v w')
    (h : ∀ v w', R v w' → S w' ∧ wpAnyH P .any ops (NoPanic Q) S fuel (listed.setIfInBounds i true) (a.put d v) w') : wpOp P ops (NoPanic Q) i (fun a' w' => S w' ∧ wpAnyH P .any ops (NoPanic Q) S fuel (listed.setIfInBounds i true) a' w') a w := by
  obtain ⟨v, w', hrun, hR⟩ := hrun
  unfold wpOp
  simp only [hi, hw, if_true, Oper.wp, hrun, Oper.upon, hd]
  exact .inl (h v w' hR)
theorem op_calls (i : Nat) (d : Option Tmp) {oi : Oper} (f : FuncId) (args : Array Value) (hi : ops[i]? = some oi) (hd : oi.dst = d) (hw : Region.wanted oi (yielded ops a.tmps) = true) (hrun : (execOp a.eval oi).run P w = .ok (.enter f args) w)
    (R : Value → World → Prop) (hc : Calls P f args w fun e w' => ∃ v, e = .returned v ∧ R v w')
    (h : ∀ v w', R v w' → S w' ∧ wpAnyH P .any ops (NoPanic Q) S fuel (listed.setIfInBounds i true) (a.put d v) w') : wpOp P ops (NoPanic Q) i (fun a' w' => S w' ∧ wpAnyH P .any ops (NoPanic Q) S fuel (listed.setIfInBounds i true) a' w') a w := by
  unfold wpOp
  simp only [hi, hw, if_true, Oper.wp, hrun, Oper.upon, hd]
  refine .inl (hc.mono ?_)
  rintro e w' ⟨v, rfl, hR⟩
  exact h v w' hR
end
end Go

/-
  Texts in one: Read, PRd, MgMath, MgRd, MgMem, MgVal, MgOwnD.
-/
import Derived.Test.YtcgphdipfekccaaMessageBackQ4
import Derived.Test.YtcgphdipfekccaaMessageBackQ5
import Derived.Test.YtcgphdipfekccaaMessageBackQ10
import Derived.Test.YtcgphdipfekccaaMessageBackQ12
import Derived.Test.YtcgphdipfekccaaMessageBackQ0
import Derived.Test.YtcgphdipfekccaaMessageBackQ2
namespace Go.Proofs.Ytcgphdipfekccaa
open Go.RowKit
set_option maxHeartbeats 400000 in
theorem clone_any (w : World) (ao : Option Addr) (n cap : Nat) (xs : List Int) (h : Sl w ao n cap xs) (hr : n ≤ 140737488355328) :
    Calls Try.prog 40 #[.slice ao n cap] w fun e w' => ∃ v, e = .returned v ∧ w'.ownsRow w.heap.size 5 1 v n (bv xs) ∧ Below w.heap.size w w' := by
  have hA := h.below ((Below.refl w.heap.size w).alloc (Nat.le_refl _) (.cells #[] 5))
  have hO := own_empty w
  have hq : ∀ W, (binOp .eql 23 (.slice ao n cap) (.slice none 0 0)).run Try.prog W = .ok (.bool ao.isNone) W := fun W => Lib.run_eql_slice_nil W _ _ ao n cap 0 0 Try.underlying23
  cases ao with
  | none =>
    obtain ⟨rfl, rfl⟩ := h.nil rfl
    obtain rfl : xs = [] := List.eq_nil_of_length_eq_zero h.len
    go_enter Try.func40, Try.ntmps40
    go_wp2
    go_ret
    exact ⟨_, rfl, World.ownsRow_nil _ _ _ _, Below.refl _ _⟩
  | some a =>
    go_enter Try.func40, Try.ntmps40
    go_wp2_with (at_builtin; refine wpList_app rfl _ _ rfl w.heap.size _ _ _ rfl hO _ _ _ _ rfl hA (by omega) (by simp) ?_; intro v1 w1 hown1 hb1)
    simp only [Nat.zero_add, List.nil_append] at hown1
    have hb2 := ((Below.refl w.heap.size w).alloc (Nat.le_refl _) _).trans hb1
    clear hb1 hO hA hq
    go_ret
    exact ⟨v1, rfl, hown1, hb2⟩
theorem new_reader (w : World) (t : TypeId) (bo : Option Addr) (n c : Nat) (xs : List Int) (hsl : Sl w bo n c xs) (hlt : ∀ a, bo = some a → 0 < n → a.block < w.heap.size) (hn : n ≤ 1000000) :
    R (w.alloc (.cells #[.slice bo n c, .int .i64 0] t)) w.heap.size w.heap.size xs 0 := by
  refine ⟨bo, n, c, ?_, ?_, ?_, ?_, hsl.below ((Below.refl _ w).alloc (Nat.le_refl _) _), hlt, Nat.le_refl _, hn⟩
  · go_simp
  · go_simp
  · go_simp
  · go_simp
set_option maxHeartbeats 400000 in
theorem read_any (w : World) (ao : Option Addr) (n cap : Nat) (xs : List Int) (h : Sl w ao n cap xs) (hr : n ≤ 1000000) :
    Calls Try.prog 22 #[.slice ao n cap] w fun e w' => ∃ p, e = .returned (.pointer (some ⟨p, 0, none⟩)) ∧ w.heap.size ≤ p ∧ R w' p p xs 0 ∧ Below w.heap.size w w' := by
  go_enter Try.func22, Try.ntmps22
  go_wp2_with fail
  refine (clone_any w ao n cap xs h (by omega)).mono ?_
  rintro e w1 ⟨v1, rfl, hown1, hb1⟩
  obtain ⟨bo, c2, rfl, hsl, hbo⟩ := Sl.own hown1 h.byte
  have hs := hb1.size
  have hfin := new_reader w1 92 bo n c2 xs hsl (fun a ha _ => (hbo a ha).2.1) hr
  have hb2 := hb1.alloc hs (.cells #[.slice bo n c2, .int .i64 0] 92)
  clear hown1 hsl hbo hb1
  go_wp2
  go_ret
  exact ⟨w1.heap.size, rfl, hs, hfin, hb2⟩
open Go.RowKit
theorem ttake_leaf (w : World) (p L : Nat) (xs : List Int) (k : Int) (h : R w p L xs k) : Calls Try.prog 63 #[.pointer (some ⟨p, 0, none⟩), .int .i64 0] w (TakePost 0 w p L 0 xs k) :=
  ttake_gen 0 (by omega) w p L xs k h (fun h => absurd rfl h)
theorem ttake_any (w : World) (p L : Nat) (xs : List Int) (k : Int) (h : R w p L xs k) : Calls Try.prog 63 #[.pointer (some ⟨p, 0, none⟩), .int .i64 8] w (TakePost 0 w p L 8 xs k) :=
  ttake_gen 8 (by omega) w p L xs k h (fun _ V ys q hR => ttake_leaf V p L ys q hR)
theorem OWL.kept {w w' : World} {o : OA} {l : List OA} (h : OWL w 0 o.so o.sn o.sc l) (hk : ∀ x, (o.sblk x ∨ ∃ y ∈ l, y.blks x) → w'.heap[x]? = w.heap[x]?) : OWL w' 0 o.so o.sn o.sc l := by
  refine ⟨h.len, h.le, h.mx, h.nil, fun a ha i hi j v hv => ?_, fun y hy => ?_⟩
  · have hb : (a.add (i * 10 + j)).block = a.block := by unfold Addr.add; split <;> rfl
    rw [← h.cell a ha i hi j v hv]
    exact World.cell?_of_block (by rw [hb]; exact hk _ (.inl ⟨a, ha, by have := h.len; omega, rfl⟩))
  · have hy1 : OA.ok y w := h.ok y hy
    exact hy1.kept fun x hx => hk x (.inr ⟨y, hy, hx⟩)
theorem repT_flat : ∀ (n : Nat) (xs : List Int) (k : Int), ∀ z ∈ (repT (sT 0) n xs k).1, z.2 = 0
  | 0, _, _, z, hz => by simp [repT] at hz
  | n + 1, xs, k, z, hz => by
    rcases List.mem_cons.1 hz with rfl | hz
    · have : (sT 0 xs k).1.2 ≤ 0 := intS_le _ _ 0
      omega
    · exact repT_flat n _ _ z hz
def OpRead (F s : Nat) (w' : World) (v : Value) (t : OP) : Prop :=
  ∃ (o : OA) (l : List OA), v = o.val ∧ o.ok w' ∧ OWL w' 0 o.so o.sn o.sc l ∧ (∀ x, (o.blks x ∨ o.sblk x ∨ ∃ y ∈ l, y.blks x) → x < F ∨ s ≤ x) ∧ t = (o.s, l.map OA.s) ∧ ∀ y ∈ l, y.sn = 0
theorem take_op {F : Nat} {w w' : World} {p L : Nat} {xs : List Int} {k : Int} {e : Ending} (h : TakePost F w p L 8 xs k e w') : ∃ v, e = .returned v ∧ OpRead F w.heap.size w' v (opTh xs k).1 ∧ Left w p L (opTh xs k).2 w' := by
  obtain ⟨o, l, e1, ok, OL, far, hs, hl, hle⟩ := h
  refine ⟨_, e1, ⟨o, l, rfl, ok, OL, far, ?_, ?_⟩, hle⟩
  · show (((sT 8 xs k).1.1, (repT (sT 0) (sT 8 xs k).1.2 (sT 8 xs k).2.1 (sT 8 xs k).2.2).1.map Prod.fst) : OP) = _
    rw [← hl, ← hs, List.map_map]
    rfl
  · intro y hy
    have := repT_flat (sT 8 xs k).1.2 (sT 8 xs k).2.1 (sT 8 xs k).2.2 (sn0 y) (by rw [← hl]; exact List.mem_map.2 ⟨y, hy, rfl⟩)
    exact this
theorem kind_read {o : OA} {l : List OA} (h : ∀ y ∈ l, y.sn = 0) : kindP (o.s, l.map OA.s) = kindO (rightO o.s (l.map sn0)) := by
  unfold kindP rightP kindO
  have e : (l.map OA.s).map (fun s => (s, 0)) = l.map sn0 := by
    rw [List.map_map]
    refine List.map_congr_left fun y hy => ?_
    show (y.s, 0) = (y.s, y.sn)
    rw [h y hy]
  rw [e]
theorem kindq_read {o : OA} {l : List OA} (cl st : Nat) (h : ∀ y ∈ l, y.sn = 0) : kindQ (cl, st, (o.s, l.map OA.s)) = kq cl st (rightO o.s (l.map sn0)) := by
  unfold kindQ kq
  simp only
  rw [kind_read h]
open Go.RowKit
structure Fair {α : Type} (P : List Int → Rs α) (f : α → List Int) (ok : α → Prop) : Prop where
  put : ∀ v rest, ok v → P (f v ++ rest) = .inr (v, rest)
  back : ∀ xs v rest, Byt xs → P xs = .inr (v, rest) → xs = f v ++ rest ∧ ok v
theorem Good.fair {α : Type} {P : List Int → Rs α} {f : α → List Int} {ok : α → Prop} (h : Good P f ok) : Fair P f ok := ⟨h.put, h.back⟩
theorem Fair.andThen {α β : Type} {P : List Int → Rs α} {Q : α → List Int → Rs β} {f : α → List Int} {g : α → β → List Int} {okP : α → Prop} {okQ : α → β → Prop} (h : Fair P f okP) (k : ∀ a, okP a → Fair (Q a) (g a) (okQ a)) :
    Fair (andThen P Q) (fun p => f p.1 ++ g p.1 p.2) (fun p => okP p.1 ∧ okQ p.1 p.2) := by
  refine ⟨?_, ?_⟩
  · rintro ⟨a, b⟩ rest ⟨h1, h2⟩
    unfold Go.Proofs.Ytcgphdipfekccaa.andThen
    simp only [List.append_assoc]
    rw [h.put a _ h1]
    simp only [then_]
    rw [(k a h1).put b _ h2]
  · rintro xs ⟨a, b⟩ rest hb hx
    obtain ⟨a', r', e1, hx⟩ := then_good hx
    obtain ⟨b', r'', e2, hx⟩ := then_good hx
    simp only [Sum.inr.injEq, Prod.mk.injEq] at hx
    obtain ⟨⟨rfl, rfl⟩, rfl⟩ := hx
    obtain ⟨x1, o1⟩ := h.back xs _ _ hb e1
    subst x1
    obtain ⟨x2, o2⟩ := (k _ o1).back _ _ _ (byt_right hb) e2
    refine ⟨?_, o1, o2⟩
    rw [x2, List.append_assoc]
theorem Fair.map {α β : Type} {P : List Int → Rs α} {f : α → List Int} {ok : α → Prop} (h : Fair P f ok) (t : α → β) (u : β → α) (ok' : β → Prop) (h1 : ∀ b, ok' b → t (u b) = b ∧ ok (u b)) (h2 : ∀ a, ok a → u (t a) = a ∧ ok' (t a)) :
    Fair (fun xs => dress t (P xs)) (fun b => f (u b)) ok' := by
  refine ⟨?_, ?_⟩
  · intro b rest hb
    simp only [h.put _ rest (h1 b hb).2, dress, (h1 b hb).1]
  · intro xs b rest hx hb
    obtain ⟨a, e, rfl⟩ := dress_good hb
    obtain ⟨x1, o1⟩ := h.back xs a rest hx e
    rw [(h2 a o1).1]
    exact ⟨x1, (h2 a o1).2⟩
theorem Fair.only {α : Type} {P : List Int → Rs α} {f g : α → List Int} {ok ok' : α → Prop} (h : Fair P f ok) (hk : ∀ a, ok a ↔ ok' a) (hf : ∀ a, ok a → f a = g a) : Fair P g ok' := by
  refine ⟨?_, ?_⟩
  · intro v rest hv
    rw [← hf v ((hk v).2 hv)]
    exact h.put v rest ((hk v).2 hv)
  · intro xs v rest hb hx
    obtain ⟨e, o⟩ := h.back xs v rest hb hx
    rw [← hf v o]
    exact ⟨e, (hk v).1 o⟩
theorem Fair.rep {α : Type} {P : List Int → Rs α} {f : α → List Int} {ok : α → Prop} (h : Fair P f ok) : ∀ n, Fair (pRep P n) (fun l => (l.map f).flatten) (fun l => l.length = n ∧ ∀ a ∈ l, ok a)
  | 0 => by
    refine ⟨?_, ?_⟩
    · rintro l rest ⟨h1, _⟩
      obtain rfl := List.eq_nil_of_length_eq_zero h1
      rfl
    · rintro xs l rest _ hx
      simp only [pRep, Sum.inr.injEq, Prod.mk.injEq] at hx
      obtain ⟨rfl, rfl⟩ := hx
      simp
  | n + 1 => by
    have ih := h.rep n
    refine ⟨?_, ?_⟩
    · rintro l rest ⟨h1, h2⟩
      cases l with
      | nil => simp at h1
      | cons a l =>
        simp only [List.map_cons, List.flatten_cons, List.append_assoc]
        unfold pRep
        rw [h.put a _ (h2 a (List.mem_cons_self ..))]
        simp only [then_]
        have := ih.put l rest ⟨by simpa using h1, fun x hx => h2 x (List.mem_cons_of_mem _ hx)⟩
        rw [this]
    · rintro xs l rest hb hx
      obtain ⟨a, r', e1, hx⟩ := then_good hx
      obtain ⟨l', r'', e2, hx⟩ := then_good hx
      simp only [Sum.inr.injEq, Prod.mk.injEq] at hx
      obtain ⟨rfl, rfl⟩ := hx
      obtain ⟨x1, o1⟩ := h.back xs a r' hb e1
      subst x1
      obtain ⟨x2, o2, o3⟩ := ih.back _ _ _ (byt_right hb) e2
      refine ⟨?_, by simp [o2], ?_⟩
      · rw [x2]; simp
      · intro x hx
        rcases List.mem_cons.1 hx with rfl | hx
        · exact o1
        · exact o3 x hx
def pList {α : Type} (P : List Int → Rs α) (most : Nat) (xs : List Int) : Rs (List α) := dress Prod.snd (andThen (pInt most) (fun n => pRep P n) xs)
def putLs {α : Type} (f : α → List Int) (l : List α) : List Int := enc l.length ++ (l.map f).flatten
theorem Fair.list {α : Type} {P : List Int → Rs α} {f : α → List Int} {ok : α → Prop} (h : Fair P f ok) (most : Nat) (hm : most < 18446744073709551616) : Fair (pList P most) (putLs f) (fun l => l.length ≤ most ∧ ∀ a ∈ l, ok a) := by
  have h0 := (good_int most hm).fair.andThen (Q := fun n => pRep P n) (g := fun _ l => (l.map f).flatten) (okQ := fun n l => l.length = n ∧ ∀ a ∈ l, ok a) (fun n _ => h.rep n)
  refine (h0.map Prod.snd (fun l => (l.length, l)) _ ?_ ?_).only (fun _ => Iff.rfl) (fun _ _ => rfl)
  · rintro l ⟨h1, h2⟩
    exact ⟨rfl, h1, rfl, h2⟩
  · rintro ⟨n, l⟩ ⟨h1, h2, h3⟩
    simp only at h1 h2 h3
    subst h2
    exact ⟨rfl, h1, h3⟩
def listT {α : Type} (f : Th α) (most : Nat) : Th (List α) := mapT Prod.snd (andD (intT' most) fun n => repT f n)
theorem Thr.list {α : Type} {P : List Int → Rs α} {f : Th α} (h : Thr P f) (most : Nat) : Thr (pList P most) (listT f most) := ((thr_int most).dep fun n => h.rep n).map Prod.snd
theorem pBytes_put {most : Nat} {l : List Int} (rest : List Int) (h1 : l.length ≤ most) (h2 : l.length < 18446744073709551616) : pBytes most (byts l ++ rest) = .inr (l, rest) := by
  unfold pBytes pInt byts
  rw [List.append_assoc, good_uint.put _ _ h2]
  simp only [then_]
  rw [if_neg (by omega)]
  simp
theorem pBytes_back {most : Nat} {xs l rest : List Int} (hb : Byt xs) (h : pBytes most xs = .inr (l, rest)) : xs = byts l ++ rest ∧ Byt l ∧ l.length < 18446744073709551616 ∧ Byt rest := by
  obtain ⟨n, r, e1, h⟩ := then_good h
  obtain ⟨n', r', e2, e3⟩ := then_good e1
  by_cases c : most < n'
  · rw [if_pos c] at e3; simp at e3
  rw [if_neg c] at e3
  simp only [Sum.inr.injEq, Prod.mk.injEq] at e3
  obtain ⟨rfl, rfl⟩ := e3
  obtain ⟨x1, o1⟩ := good_uint.back xs _ _ hb e2
  by_cases d : r'.length < n'
  · rw [if_pos d] at h; simp at h
  rw [if_neg d] at h
  simp only [Sum.inr.injEq, Prod.mk.injEq] at h
  obtain ⟨rfl, rfl⟩ := h
  have e : (r'.take n').length = n' := by rw [List.length_take]; omega
  have b1 : Byt r' := by rw [x1] at hb; exact byt_right hb
  refine ⟨?_, b1.take n', by rw [e]; exact o1, b1.drop n'⟩
  unfold byts
  rw [e, List.append_assoc, List.take_append_drop]
  exact x1
def pNest {α : Type} (rd : List Int → Sum Int α) (xs : List Int) : Rs α := then_ (pBytes xs.length xs) fun bs r => match rd bs with
  | .inl k => .inl k
  | .inr v => .inr (v, r)
def okN {α : Type} (rd : List Int → Sum Int α) (g : α → List Int) (v : α) : Prop := rd (g v) = .inr v ∧ Byt (g v) ∧ (g v).length < 18446744073709551616
theorem fair_nest {α : Type} {rd : List Int → Sum Int α} {g : α → List Int} (hback : ∀ bs v, Byt bs → rd bs = .inr v → bs = g v) : Fair (pNest rd) (fun v => byts (g v)) (okN rd g) := by
  refine ⟨?_, ?_⟩
  · rintro v rest ⟨h1, h2, h3⟩
    unfold pNest
    rw [pBytes_put rest (by unfold byts; simp only [List.length_append]; omega) h3]
    simp only [then_]
    rw [h1]
  · intro xs v rest hb hx
    obtain ⟨bs, r, e1, hx⟩ := then_good hx
    obtain ⟨x1, b1, l1, b2⟩ := pBytes_back hb e1
    match e : rd bs, hx with
    | .inl k, hx => simp at hx
    | .inr u, hx =>
      simp only [Sum.inr.injEq, Prod.mk.injEq] at hx
      obtain ⟨rfl, rfl⟩ := hx
      have e2 := hback bs u b1 e
      subst e2
      exact ⟨x1, e, b1, l1⟩
def flS (xs : List Int) (k q : Int) : List Int × Int := if k = 0 then (if q = 0 then (xs, 0) else ([], q)) else (xs, k)
theorem flS_bad (xs : List Int) {q : Int} (h : q ≠ 0) : flS xs 0 q = ([], q) := by unfold flS; rw [if_pos rfl, if_neg h]
def kindN {α : Type} (t : Sum Int α) : Int := match t with
  | .inl k => k
  | .inr _ => 0
def valN {α : Type} (z : α) (t : Sum Int α) : α := match t with
  | .inl _ => z
  | .inr v => v
def nestT {α : Type} (z : α) (rd : List Int → Sum Int α) : Th α := fun xs k => (valN z (rd (bytesS xs k xs.length).1), flS (bytesS xs k xs.length).2.1 (bytesS xs k xs.length).2.2 (kindN (rd (bytesS xs k xs.length).1)))
theorem thr_nest {α : Type} (z : α) {rd : List Int → Sum Int α} (hrd : ∀ bs k, rd bs = .inl k → k ≠ 0) : Thr (pNest rd) (nestT z rd) := by
  refine ⟨?_, ?_, ?_⟩
  · intro xs v r hx
    obtain ⟨bs, r', e1, hx⟩ := then_good hx
    have e2 := (bytesS_ok e1).1
    unfold nestT
    rw [e2]
    match e : rd bs, hx with
    | .inl k, hx => simp at hx
    | .inr u, hx =>
      simp only [Sum.inr.injEq, Prod.mk.injEq] at hx
      obtain ⟨rfl, rfl⟩ := hx
      simp only [valN, kindN, flS, if_true]
  · intro xs q hx
    unfold nestT
    unfold pNest then_ at hx
    match e : pBytes xs.length xs, hx with
    | .inl q', hx =>
      obtain rfl := Sum.inl.inj hx
      obtain ⟨e1, e2⟩ := bytesS_bad e
      rw [e1]
      simp only [flS, if_neg e2]
      exact ⟨trivial, e2⟩
    | .inr (bs, r), hx =>
      rw [(bytesS_ok e).1]
      simp only at hx ⊢
      match e' : rd bs, hx with
      | .inl q', hx =>
        simp only [Sum.inl.injEq] at hx
        subst hx
        have hq := hrd bs q' e'
        show (flS r 0 q').2 = q' ∧ q' ≠ 0
        rw [flS_bad r hq]
        exact ⟨rfl, hq⟩
      | .inr u, hx => simp at hx
  · intro xs k hk
    show (flS (bytesS xs k xs.length).2.1 (bytesS xs k xs.length).2.2 (kindN (rd (bytesS xs k xs.length).1))).2 = k
    rw [bytesS_stuck hk]
    simp only [flS, if_neg hk]
structure PV where
  cl : Nat
  st : Nat
  vw : Nat
  r : RV
structure BV where
  kind : Int
  view : Nat
  seq : Nat
  sum : List Int
  reqs : List QV
  rep : PV
  cert : List SV
  sets : List (List SV)
def zPV : PV := ⟨0, 0, 0, ⟨0, [], false⟩⟩
def putV (s : SV) : List Int := enc s.fr ++ (byts s.b ++ byts s.tag)
def putPV (p : PV) : List Int := enc p.cl ++ (enc p.st ++ (enc p.vw ++ byts (putR p.r)))
def putB (x : BV) : List Int := enc x.kind.toNat ++ (enc x.view ++ (enc x.seq ++ (byts x.sum ++ (putLs (fun q => byts (putQ q)) x.reqs ++ ((if x.kind = 5 then putPV x.rep else []) ++ (putLs putV x.cert ++ putLs (putLs putV) x.sets))))))
def okV (s : SV) : Prop := s.fr < 18446744073709551616 ∧ (s.b.length ≤ 65536 ∧ Byt s.b) ∧ (s.tag.length ≤ 32 ∧ Byt s.tag)
def toV (r : Nat × List Int × List Int) : SV := ⟨r.1, r.2.1, r.2.2⟩
def pV (xs : List Int) : Rs SV := dress toV (andThen pUint (fun _ => andThen (pBytes 65536) fun _ => pBytes 32) xs)
theorem fair_v : Fair pV putV okV := by
  have h := good_uint.fair.andThen fun _ _ => (good_bytes 65536 (by decide)).fair.andThen fun _ _ => (good_bytes 32 (by decide)).fair
  refine (h.map toV (fun s => (s.fr, s.b, s.tag)) okV ?_ ?_).only (fun _ => Iff.rfl) (fun _ _ => rfl)
  · rintro ⟨a, b, c⟩ h
    exact ⟨rfl, h⟩
  · rintro ⟨a, b, c⟩ h
    exact ⟨rfl, h⟩
def vT : Th SV := mapT toV (andT uintS (andT (byT 65536) (byT 32)))
theorem thr_v : Thr pV vT := (thr_uint.andThen ((thr_bytes 65536).andThen (thr_bytes 32))).map toV
def pVs : List Int → Rs (List SV) := pList pV 16
def vsT : Th (List SV) := listT vT 16
theorem thr_vs : Thr pVs vsT := thr_v.list 16
def okVs (l : List SV) : Prop := l.length ≤ 16 ∧ ∀ s ∈ l, okV s
theorem fair_vs : Fair pVs (putLs putV) okVs := fair_v.list 16 (by decide)
def toPV (r : Nat × Nat × Nat × RV) : PV := ⟨r.1, r.2.1, r.2.2.1, r.2.2.2⟩
def pPV1 (xs : List Int) : Rs PV := dress toPV (andThen pUint (fun _ => andThen pUint fun _ => andThen pUint fun _ => pNest rdR) xs)
def okPV1 (p : PV) : Prop := p.cl < 18446744073709551616 ∧ p.st < 18446744073709551616 ∧ p.vw < 18446744073709551616 ∧ okN rdR putR p.r
theorem rdR_back (bs : List Int) (v : RV) (hb : Byt bs) (h : rdR bs = .inr v) : bs = putR v := (rdAll_back good_r kindR hb h).1
theorem rdQ_back (bs : List Int) (v : QV) (hb : Byt bs) (h : rdQ bs = .inr v) : bs = putQ v := (rdAll_back good_q kindQ hb h).1
theorem fair_pv1 : Fair pPV1 putPV okPV1 := by
  have h := good_uint.fair.andThen fun _ _ => good_uint.fair.andThen fun _ _ => good_uint.fair.andThen fun _ _ => fair_nest rdR_back
  refine (h.map toPV (fun p => (p.cl, p.st, p.vw, p.r)) okPV1 ?_ ?_).only (fun _ => Iff.rfl) (fun _ _ => rfl)
  · rintro ⟨a, b, c, d⟩ h
    exact ⟨rfl, h⟩
  · rintro ⟨a, b, c, d⟩ h
    exact ⟨rfl, h⟩
theorem rdAll_ne {α : Type} {P : List Int → Rs α} {f : Th α} (h : Thr P f) {kind : α → Int} (bs : List Int) (k : Int) (e : rdAll P kind bs = .inl k) : k ≠ 0 := by
  rw [rd_thr h] at e
  unfold rdT at e
  by_cases c : doneS (f bs 0).2.1 (f bs 0).2.2 = 0
  · rw [if_pos c] at e
    by_cases d : kind (f bs 0).1 = 0
    · rw [if_pos d] at e; simp at e
    · rw [if_neg d] at e
      rw [← Sum.inl.inj e]
      exact d
  · rw [if_neg c] at e
    rw [← Sum.inl.inj e]
    exact c
open Go.RowKit
def zQV : QV := (0, 0, (⟨0, ⟨#[]⟩, ⟨#[]⟩, ⟨#[]⟩, 0, ⟨#[]⟩, [], [], false⟩, []))
def zR0 : RV := ⟨0, [], false⟩
def pPV (k : Nat) : List Int → Rs PV := if k = 5 then pPV1 else fun xs => .inr (zPV, xs)
def okPV (k : Nat) (p : PV) : Prop := if k = 5 then okPV1 p else p = zPV
theorem fair_pv (k : Nat) : Fair (pPV k) (fun p => if k = 5 then putPV p else []) (okPV k) := by
  unfold pPV okPV
  by_cases h : k = 5
  · simp only [if_pos h]
    exact fair_pv1
  · simp only [if_neg h]
    refine ⟨?_, ?_⟩
    · rintro v rest rfl
      rfl
    · intro xs v rest _ hx
      simp only [Sum.inr.injEq, Prod.mk.injEq] at hx
      obtain ⟨rfl, rfl⟩ := hx
      exact ⟨rfl, rfl⟩
def pvT1 : Th PV := mapT toPV (andT uintS (andT uintS (andT uintS (nestT zR0 rdR))))
def pvT (k : Nat) : Th PV := if k = 5 then pvT1 else fun xs q => (zPV, xs, q)
theorem thr_pv (hr : ∀ bs k, rdR bs = .inl k → k ≠ 0) (k : Nat) : Thr (pPV k) (pvT k) := by
  unfold pPV pvT
  by_cases h : k = 5
  · simp only [if_pos h]
    exact (thr_uint.andThen (thr_uint.andThen (thr_uint.andThen (thr_nest zR0 hr)))).map toPV
  · simp only [if_neg h]
    refine ⟨?_, ?_, ?_⟩
    · intro xs v r hx
      simp only [Sum.inr.injEq, Prod.mk.injEq] at hx
      obtain ⟨rfl, rfl⟩ := hx
      rfl
    · intro xs q hx
      simp at hx
    · intro xs q _
      rfl
abbrev RawB := Nat × Nat × Nat × List Int × List QV × PV × List SV × List (List SV)
def toB (r : RawB) : BV := ⟨(r.1 : Int), r.2.1, r.2.2.1, r.2.2.2.1, r.2.2.2.2.1, r.2.2.2.2.2.1, r.2.2.2.2.2.2.1, r.2.2.2.2.2.2.2⟩
def ofB (x : BV) : RawB := (x.kind.toNat, x.view, x.seq, x.sum, x.reqs, x.rep, x.cert, x.sets)
def pQs : List Int → Rs (List QV) := pList (pNest rdQ) 1
def pSs : List Int → Rs (List (List SV)) := pList pVs 16
def pB (xs : List Int) : Rs BV := dress toB (andThen (pInt 14) (fun k => andThen pUint fun _ => andThen pUint fun _ => andThen (pBytes 32) fun _ => andThen pQs fun _ => andThen (pPV k) fun _ => andThen pVs fun _ => pSs) xs)
structure okB (x : BV) : Prop where
  kind : 0 ≤ x.kind ∧ x.kind ≤ 14
  view : x.view < 18446744073709551616
  seq : x.seq < 18446744073709551616
  sum : x.sum.length ≤ 32 ∧ Byt x.sum
  reqs : x.reqs.length ≤ 1 ∧ ∀ q ∈ x.reqs, okN rdQ putQ q
  rep : okPV x.kind.toNat x.rep
  cert : okVs x.cert
  sets : x.sets.length ≤ 16 ∧ ∀ l ∈ x.sets, okVs l
theorem fair_b : Fair pB putB okB := by
  have h := (good_int 14 (by decide)).fair.andThen (Q := fun k => andThen pUint fun _ => andThen pUint fun _ => andThen (pBytes 32) fun _ => andThen pQs fun _ => andThen (pPV k) fun _ => andThen pVs fun _ => pSs) fun k _ => good_uint.fair.andThen fun _ _ => good_uint.fair.andThen fun _ _ => (good_bytes 32 (by decide)).fair.andThen fun _ _ => ((fair_nest rdQ_back).list 1 (by decide)).andThen fun _ _ => (fair_pv k).andThen fun _ _ => fair_vs.andThen fun _ _ => fair_vs.list 16 (by decide)
  refine (h.map toB ofB okB ?_ ?_).only (fun _ => Iff.rfl) ?_
  · rintro x hx
    have hk := hx.kind
    refine ⟨?_, by show x.kind.toNat ≤ 14; omega, hx.view, hx.seq, hx.sum, hx.reqs, hx.rep, hx.cert, hx.sets⟩
    unfold toB ofB
    simp only [Int.toNat_of_nonneg hk.1]
  · rintro ⟨k, a, b, c, d, e, f, g⟩ ⟨h1, h2, h3, h4, h5, h6, h7, h8⟩
    refine ⟨?_, ⟨by show (0 : Int) ≤ (k : Int); omega, by show (k : Int) ≤ 14; simp only at h1; omega⟩, h2, h3, h4, h5, ?_, h7, h8⟩
    · unfold toB ofB
      simp
    · show okPV ((k : Int)).toNat e
      rw [Int.toNat_natCast]
      exact h6
  · intro x hx
    have hk := hx.kind
    unfold putB ofB byts
    have : (x.kind.toNat = 5) = (x.kind = 5) := propext ⟨fun _ => by omega, fun _ => by omega⟩
    simp only [this]
def qsT : Th (List QV) := listT (nestT zQV rdQ) 1
def ssT : Th (List (List SV)) := listT vsT 16
def bT : Th BV := mapT toB (andD (intT' 14) fun k => andT uintS (andT uintS (andT (byT 32) (andT qsT (andT (pvT k) (andT vsT ssT))))))
theorem rdQ_ne (bs : List Int) (k : Int) (e : rdQ bs = .inl k) : k ≠ 0 := rdAll_ne thr_q bs k e
theorem thr_b (hr : ∀ bs k, rdR bs = .inl k → k ≠ 0) : Thr pB bT :=
  ((thr_int 14).dep fun k => thr_uint.andThen (thr_uint.andThen ((thr_bytes 32).andThen (((thr_nest zQV rdQ_ne).list 1).andThen ((thr_pv hr k).andThen (thr_vs.andThen (thr_vs.list 16))))))).map toB
structure HV where
  view : Nat
  seq : Nat
  sum : Nat
  reqs : Nat
  cert : Nat
  sets : Nat
  rep : Bool
def shpOk (k : Int) (h : HV) : Bool :=
  if k = 1 ∨ k = 13 then decide (h.view = 0 ∧ h.seq = 0 ∧ h.sum = 0 ∧ h.reqs = 1 ∧ h.cert = 0 ∧ h.sets = 0) && !h.rep
  else if k = 2 ∨ k = 3 ∨ k = 4 then decide (h.view ≤ 4611686018427387903 ∧ h.seq ≤ 4611686018427387903 ∧ h.sum = 32 ∧ h.reqs = 0 ∧ h.cert = 0 ∧ h.sets = 0) && !h.rep
  else if k = 5 then decide (h.view = 0 ∧ h.seq = 0 ∧ h.sum = 0 ∧ h.reqs = 0 ∧ h.cert = 0 ∧ h.sets = 0) && h.rep
  else if k = 6 then decide (h.view = 0 ∧ h.seq ≤ 4611686018427387903 ∧ h.sum = 32 ∧ h.reqs = 0 ∧ h.cert = 0 ∧ h.sets = 0) && !h.rep
  else if k = 7 then decide (h.view ≤ 4611686018427387903 ∧ h.seq ≤ 4611686018427387903 ∧ h.sum = 0 ∧ h.reqs = 0 ∧ h.cert ≤ 16 ∧ h.sets ≤ 16) && !h.rep
  else if k = 8 then decide (h.view ≤ 4611686018427387903 ∧ h.seq = 0 ∧ h.sum = 0 ∧ h.reqs = 0 ∧ h.cert ≤ 16 ∧ h.sets = 1) && !h.rep
  else if k = 9 then decide (h.view = 0 ∧ h.seq ≤ 4611686018427387903 ∧ h.sum = 0 ∧ h.reqs = 0 ∧ h.cert = 0 ∧ h.sets = 0) && !h.rep
  else if k = 10 then decide (h.view = 0 ∧ h.seq ≤ 4611686018427387903 ∧ h.sum = 32 ∧ h.reqs = 0 ∧ h.cert = 1 ∧ h.sets = 0) && !h.rep
  else if k = 11 then decide (h.view = 0 ∧ h.seq = 0 ∧ h.sum = 32 ∧ h.reqs = 0 ∧ h.cert = 0 ∧ h.sets = 0) && !h.rep
  else if k = 12 then decide (h.view = 0 ∧ h.seq = 0 ∧ h.sum = 0 ∧ h.reqs = 0 ∧ h.cert ≤ 4 ∧ h.sets = 0) && !h.rep
  else if k = 14 then decide (h.view = 0 ∧ h.seq ≤ 4611686018427387903 ∧ h.sum = 0 ∧ h.reqs = 0 ∧ h.cert = 3 ∧ h.sets = 0) && !h.rep
  else false
def sgnd (fr b tag : Nat) : Bool := decide (fr ≠ 0 ∧ b ≤ 16384 ∧ tag = 32)
def plain (fr b tag : Nat) : Bool := decide (fr = 0 ∧ b ≤ 65536 ∧ tag = 0)
def txOk (k : Int) (fr b tag : Nat) : Bool := if k = 10 ∨ k = 14 then plain fr b tag else sgnd fr b tag
theorem shp_kind {k : Int} {h : HV} (e : shpOk k h = true) : 1 ≤ k ∧ k ≤ 14 := by
  unfold shpOk at e
  by_cases c : 1 ≤ k ∧ k ≤ 14
  · exact c
  · simp only [show ¬ (k = 1 ∨ k = 13) by omega, show ¬ (k = 2 ∨ k = 3 ∨ k = 4) by omega, show ¬ k = 5 by omega, show ¬ k = 6 by omega, show ¬ k = 7 by omega, show ¬ k = 8 by omega, show ¬ k = 9 by omega, show ¬ k = 10 by omega, show ¬ k = 11 by omega, show ¬ k = 12 by omega, show ¬ k = 14 by omega, if_false] at e
    cases e
open Go.RowKit
structure QM where
  cl : Nat
  st : Nat
  o : OA
  l : List OA
def QM.cells (q : QM) : List Value := [.int .u64 q.cl, .int .u64 q.st, .int .i64 q.o.kind, .string q.o.row, .string q.o.fam, .string q.o.qual, .int .u64 q.o.time, .string q.o.to, .slice q.o.va.ao q.o.va.n q.o.va.cap, .slice q.o.wa.ao q.o.wa.n q.o.wa.cap, .bool q.o.has, .slice q.o.so q.o.sn q.o.sc]
structure QM.ok (q : QM) (w : World) : Prop where
  cl : q.cl < 18446744073709551616
  st : q.st < 18446744073709551616
  o : q.o.ok w
  l : OWL w 0 q.o.so q.o.sn q.o.sc q.l
def QM.blk (q : QM) (z : Nat) : Prop := q.o.blks z ∨ q.o.sblk z ∨ ∃ y ∈ q.l, y.blks z
def QM.v (q : QM) : QV := (q.cl, q.st, (q.o.s, q.l.map OA.s))
def elQ : El QM := ⟨QM.cells, 12, QM.ok, QM.blk⟩
theorem OA.ok.blks_lt {o : OA} {w : World} (h : o.ok w) {z : Nat} (hz : o.blks z) : z < w.heap.size := by
  rcases hz with hz | hz
  · exact h.va.blk_lt hz
  · exact h.wa.blk_lt hz
theorem elQ_fine : elQ.Fine := by
  refine ⟨fun _ => rfl, by decide, fun x u hu => ?_, fun x w w' h hk => ⟨h.cl, h.st, h.o.kept fun z hz => hk z (.inl hz), h.l.kept fun z hz => hk z (.inr hz)⟩, fun x w z h hz => ?_⟩
  · have hu : u ∈ x.cells := hu
    unfold QM.cells at hu
    simp only [List.mem_cons, List.not_mem_nil, or_false] at hu
    rcases hu with rfl | rfl | rfl | rfl | rfl | rfl | rfl | rfl | rfl | rfl | rfl | rfl <;> rfl
  · rcases hz with hz | hz | ⟨y, hy, hz⟩
    · exact h.o.blks_lt hz
    · obtain ⟨a, ha, hn, rfl⟩ := hz
      have hl := h.l.len
      have h0 := h.l.cell a ha 0 (by omega) 0 _ rfl
      have hlt := World.block_lt_of_cell? w _ h0
      have hb : (a.add (0 * 10 + 0)).block = a.block := by unfold Addr.add; split <;> rfl
      rw [hb] at hlt
      exact hlt
    · have : OA.ok y w := h.l.ok y hy
      exact this.blks_lt hz
structure QX (V : World) (b p : Nat) (q : QM) : Prop where
  c0 : V.cell? ⟨b, p, none⟩ = some (.int .u64 q.cl)
  c1 : V.cell? ⟨b, p + 1, none⟩ = some (.int .u64 q.st)
  c2 : V.cell? ⟨b, p + 2, none⟩ = some (.int .i64 q.o.kind)
  c3 : V.cell? ⟨b, p + 3, none⟩ = some (.string q.o.row)
  c4 : V.cell? ⟨b, p + 4, none⟩ = some (.string q.o.fam)
  c5 : V.cell? ⟨b, p + 5, none⟩ = some (.string q.o.qual)
  c6 : V.cell? ⟨b, p + 6, none⟩ = some (.int .u64 q.o.time)
  c7 : V.cell? ⟨b, p + 7, none⟩ = some (.string q.o.to)
  c8 : V.cell? ⟨b, p + 8, none⟩ = some (.slice q.o.va.ao q.o.va.n q.o.va.cap)
  c9 : V.cell? ⟨b, p + 9, none⟩ = some (.slice q.o.wa.ao q.o.wa.n q.o.wa.cap)
  c10 : V.cell? ⟨b, p + 10, none⟩ = some (.bool q.o.has)
  c11 : V.cell? ⟨b, p + 11, none⟩ = some (.slice q.o.so q.o.sn q.o.sc)
theorem GL.atQ {w : World} {ao : Option Addr} {n cap : Nat} {l : List QM} (h : GL elQ w ao n cap l) (hn : 0 < n) :
    ∃ b off, ao = some ⟨b, off, none⟩ ∧ ∀ i (hi : i < l.length), QX w b (off + i * 12) l[i] := by
  obtain ⟨b, off, e, k⟩ := h.pl elQ_fine hn
  exact ⟨b, off, e, fun i hi => ⟨k i hi 0 _ rfl, k i hi 1 _ rfl, k i hi 2 _ rfl, k i hi 3 _ rfl, k i hi 4 _ rfl, k i hi 5 _ rfl, k i hi 6 _ rfl, k i hi 7 _ rfl, k i hi 8 _ rfl, k i hi 9 _ rfl, k i hi 10 _ rfl, k i hi 11 _ rfl⟩⟩
structure BM where
  kind : Int
  view : Nat
  seq : Nat
  sum : Bs
  q : LS QM
  cl : Nat
  st : Nat
  vw : Nat
  e : Int
  c : LS CA
  more : Bool
  s : LS SA
  t : LS (LS SA)
def BM.cells (x : BM) : List Value := [.int .i64 x.kind, .int .u64 x.view, .int .u64 x.seq, .slice x.sum.ao x.sum.n x.sum.cap, .slice x.q.ao x.q.n x.q.cap, .int .u64 x.cl, .int .u64 x.st, .int .u64 x.vw, .int .i64 x.e, .slice x.c.ao x.c.n x.c.cap, .bool x.more, .slice x.s.ao x.s.n x.s.cap, .slice x.t.ao x.t.n x.t.cap]
def BM.val (x : BM) : Value := .agg #[.int .i64 x.kind, .int .u64 x.view, .int .u64 x.seq, .slice x.sum.ao x.sum.n x.sum.cap, .slice x.q.ao x.q.n x.q.cap, .int .u64 x.cl, .int .u64 x.st, .int .u64 x.vw, .int .i64 x.e, .slice x.c.ao x.c.n x.c.cap, .bool x.more, .slice x.s.ao x.s.n x.s.cap, .slice x.t.ao x.t.n x.t.cap]
structure BM.ok (x : BM) (w : World) : Prop where
  kind : -9223372036854775808 ≤ x.kind ∧ x.kind ≤ 9223372036854775807
  view : x.view < 18446744073709551616
  seq : x.seq < 18446744073709551616
  sum : Sl w x.sum.ao x.sum.n x.sum.cap x.sum.xs
  q : GL elQ w x.q.ao x.q.n x.q.cap x.q.l
  cl : x.cl < 18446744073709551616
  st : x.st < 18446744073709551616
  vw : x.vw < 18446744073709551616
  e : -9223372036854775808 ≤ x.e ∧ x.e ≤ 9223372036854775807
  c : CL w x.c.ao x.c.n x.c.cap x.c.l
  s : GL elS w x.s.ao x.s.n x.s.cap x.s.l
  t : GL elS.lists w x.t.ao x.t.n x.t.cap x.t.l
theorem BM.ok.below {x : BM} {w w' : World} (h : x.ok w) (hb : Below w.heap.size w w') : x.ok w' :=
  ⟨h.kind, h.view, h.seq, h.sum.below hb, h.q.below elQ_fine hb, h.cl, h.st, h.vw, h.e, h.c.below hb, h.s.below elS_fine hb, h.t.below elS_fine.lists hb⟩
def BM.v (x : BM) : BV := ⟨x.kind, x.view, x.seq, x.sum.xs, x.q.l.map QM.v, ⟨x.cl, x.st, x.vw, resR x.e x.c.l x.more⟩, x.s.l.map SA.v, x.t.l.map fun s => s.l.map SA.v⟩
def BC (V : World) (p : Nat) (x : BM) : Prop := V.heap[p]? = some (.cells #[.int .i64 x.kind, .int .u64 x.view, .int .u64 x.seq, .slice x.sum.ao x.sum.n x.sum.cap, .slice x.q.ao x.q.n x.q.cap, .int .u64 x.cl, .int .u64 x.st, .int .u64 x.vw, .int .i64 x.e, .slice x.c.ao x.c.n x.c.cap, .bool x.more, .slice x.s.ao x.s.n x.s.cap, .slice x.t.ao x.t.n x.t.cap] 42)
theorem BC.lt {V : World} {p : Nat} {x : BM} (h : BC V p x) : p < V.heap.size := (Array.getElem?_eq_some_iff.1 h).1
theorem BC.keep {V V' : World} {p : Nat} {x : BM} (h : BC V p x) (hb : Below V.heap.size V V') : BC V' p x := (hb.block p h.lt).trans h
structure BCs (V : World) (p : Nat) (x : BM) : Prop where
  c0 : V.cell? ⟨p, 0, none⟩ = some (.int .i64 x.kind)
  c1 : V.cell? ⟨p, 1, none⟩ = some (.int .u64 x.view)
  c2 : V.cell? ⟨p, 2, none⟩ = some (.int .u64 x.seq)
  c3 : V.cell? ⟨p, 3, none⟩ = some (.slice x.sum.ao x.sum.n x.sum.cap)
  c4 : V.cell? ⟨p, 4, none⟩ = some (.slice x.q.ao x.q.n x.q.cap)
  c5 : V.cell? ⟨p, 5, none⟩ = some (.int .u64 x.cl)
  c6 : V.cell? ⟨p, 6, none⟩ = some (.int .u64 x.st)
  c7 : V.cell? ⟨p, 7, none⟩ = some (.int .u64 x.vw)
  c8 : V.cell? ⟨p, 8, none⟩ = some (.int .i64 x.e)
  c9 : V.cell? ⟨p, 9, none⟩ = some (.slice x.c.ao x.c.n x.c.cap)
  c10 : V.cell? ⟨p, 10, none⟩ = some (.bool x.more)
  c11 : V.cell? ⟨p, 11, none⟩ = some (.slice x.s.ao x.s.n x.s.cap)
  c12 : V.cell? ⟨p, 12, none⟩ = some (.slice x.t.ao x.t.n x.t.cap)
theorem BC.cs {V : World} {p : Nat} {x : BM} (h : BC V p x) : BCs V p x :=
  ⟨cell_of_row V p 0 _ _ _ h, cell_of_row V p 1 _ _ _ h, cell_of_row V p 2 _ _ _ h, cell_of_row V p 3 _ _ _ h, cell_of_row V p 4 _ _ _ h, cell_of_row V p 5 _ _ _ h, cell_of_row V p 6 _ _ _ h, cell_of_row V p 7 _ _ _ h, cell_of_row V p 8 _ _ _ h, cell_of_row V p 9 _ _ _ h, cell_of_row V p 10 _ _ _ h, cell_of_row V p 11 _ _ _ h, cell_of_row V p 12 _ _ _ h⟩
def BM.rz (x : BM) : Bool := decide (x.cl = 0 ∧ x.st = 0 ∧ x.vw = 0 ∧ x.e = 0 ∧ x.c.n = 0) && !x.more
def BM.hv (x : BM) : HV := ⟨x.view, x.seq, x.sum.n, x.q.n, x.s.n, x.t.n, !x.rz⟩
def reqBad (k : Int) (q : QM) : Bool := decide (kq q.cl q.st (rightO q.o.s (q.l.map sn0)) ≠ 0) || (decide (k = 13) && decide (q.o.kind ≠ 7 ∧ q.o.kind ≠ 8))
def SA.sg (s : SA) : Bool := sgnd s.fr s.b.n s.tag.n
def SA.pl (s : SA) : Bool := plain s.fr s.b.n s.tag.n
def SA.tx (k : Int) (s : SA) : Bool := txOk k s.fr s.b.n s.tag.n
def setBad (s : LS SA) : Bool := decide (16 < s.n) || s.l.any fun x => !x.sg
def repOk (x : BM) : Bool := decide (x.kind ≠ 5) || (rightR (resR x.e x.c.l x.more) && decide (x.cl ≠ 0 ∧ x.st ≠ 0 ∧ x.vw ≤ 4611686018427387903))
def rightM (x : BM) : Bool := shpOk x.kind x.hv && (!(x.q.l.any (reqBad x.kind)) && (repOk x && (!(x.s.l.any fun s => !s.tx x.kind) && !(x.t.l.any setBad))))
open Go.RowKit
def rzV (p : PV) : Bool := decide (p.cl = 0 ∧ p.st = 0 ∧ p.vw = 0 ∧ p.r.e = 0 ∧ p.r.cells.length = 0) && !p.r.more
def badV (k : Int) (q : QV) : Bool := decide (kindQ q ≠ 0) || (decide (k = 13) && decide (q.2.2.1.kind ≠ 7 ∧ q.2.2.1.kind ≠ 8))
def txV (k : Int) (s : SV) : Bool := txOk k s.fr s.b.length s.tag.length
def setV (l : List SV) : Bool := decide (16 < l.length) || l.any fun s => !(sgnd s.fr s.b.length s.tag.length)
def repV (x : BV) : Bool := decide (x.kind ≠ 5) || (rightR x.rep.r && decide (x.rep.cl ≠ 0 ∧ x.rep.st ≠ 0 ∧ x.rep.vw ≤ 4611686018427387903))
def rightV (x : BV) : Bool := shpOk x.kind ⟨x.view, x.seq, x.sum.length, x.reqs.length, x.cert.length, x.sets.length, !(rzV x.rep)⟩ && (!(x.reqs.any (badV x.kind)) && (repV x && (!(x.cert.any fun s => !(txV x.kind s)) && !(x.sets.any setV))))
theorem any_map_on {α β : Type} (f : α → β) (p : β → Bool) (q : α → Bool) : ∀ l : List α, (∀ a ∈ l, p (f a) = q a) → (l.map f).any p = l.any q
  | [], _ => rfl
  | a :: l, h => by
    rw [List.map_cons, List.any_cons, List.any_cons, h a (List.mem_cons_self ..), any_map_on f p q l (fun b hb => h b (List.mem_cons_of_mem _ hb))]
theorem rightM_v {x : BM} {w : World} (h : x.ok w) (fl : ∀ q ∈ x.q.l, ∀ y ∈ q.l, y.sn = 0) : rightM x = rightV x.v := by
  unfold rightM rightV
  have e1 : x.hv = ⟨x.v.view, x.v.seq, x.v.sum.length, x.v.reqs.length, x.v.cert.length, x.v.sets.length, !(rzV x.v.rep)⟩ := by
    unfold BM.hv BM.v
    simp only [List.length_map, h.sum.len, h.q.len, h.s.len, h.t.len, HV.mk.injEq, true_and, Bool.not_eq_eq_eq_not, Bool.not_not]
    unfold BM.rz rzV
    have : (resR x.e x.c.l x.more).cells.length = x.c.n := by
      show (x.c.l.map CA.c).length = _
      rw [List.length_map, h.c.len]
    simp only [this]
    rfl
  have e2 : (x.v.reqs.any (badV x.v.kind)) = x.q.l.any (reqBad x.kind) := any_map_on QM.v _ _ _ fun q hq => by
    unfold badV reqBad
    have := kindq_read (o := q.o) q.cl q.st (fl q hq)
    show (decide (kindQ (q.cl, q.st, (q.o.s, q.l.map OA.s)) ≠ 0) || _) = _
    rw [this]
    rfl
  have e3 : (x.v.cert.any fun s => !(txV x.v.kind s)) = x.s.l.any fun s => !(s.tx x.kind) := any_map_on SA.v _ _ _ fun s hs => by
    have h1 := (h.s.ok s hs).b.len
    have h2 := (h.s.ok s hs).tag.len
    show (!(txOk x.kind s.fr s.b.xs.length s.tag.xs.length)) = _
    rw [h1, h2]
    rfl
  have e4 : x.v.sets.any setV = x.t.l.any setBad := any_map_on (fun s : LS SA => s.l.map SA.v) _ _ _ fun t ht => by
    have ht' : GL elS w t.ao t.n t.cap t.l := h.t.ok t ht
    unfold setV setBad
    rw [List.length_map, ht'.len]
    congr 1
    refine any_map_on SA.v _ _ _ fun s hs => ?_
    have h1 := (ht'.ok s hs).b.len
    have h2 := (ht'.ok s hs).tag.len
    show (!(sgnd s.fr s.b.xs.length s.tag.xs.length)) = _
    rw [h1, h2]
    rfl
  rw [e2, e3, e4, ← e1]
  rfl
open Go.RowKit
def lsV (s : LS SA) : Nat × List SA := (s.n, s.l)
def ownB (x : BM) (so : Option Addr) (sc : Nat) (vo : Option Addr) (vc : Nat) (ys : List (LS SA)) : BM := { x with s := ⟨so, x.s.n, sc, x.s.l⟩, t := ⟨vo, x.t.n, vc, ys⟩ }
def OwnPost (w : World) (x : BM) (e : Ending) (w' : World) : Prop :=
  ∃ so sc vo vc ys, e = .returned (ownB x so sc vo vc ys).val ∧ (ownB x so sc vo vc ys).ok w' ∧ ys.map lsV = x.t.l.map lsV ∧ Below w.heap.size w w'
theorem own_v {x : BM} {so : Option Addr} {sc : Nat} {vo : Option Addr} {vc : Nat} {ys : List (LS SA)} (h : ys.map lsV = x.t.l.map lsV) : (ownB x so sc vo vc ys).v = x.v := by
  have e : ys.map (fun s : LS SA => s.l.map SA.v) = x.t.l.map (fun s : LS SA => s.l.map SA.v) := by
    have := congrArg (List.map fun p : Nat × List SA => p.2.map SA.v) h
    rw [List.map_map, List.map_map] at this
    exact this
  unfold BM.v ownB
  simp only [e]
theorem own_right {x : BM} {so : Option Addr} {sc : Nat} {vo : Option Addr} {vc : Nat} {ys : List (LS SA)} (h : ys.map lsV = x.t.l.map lsV) : rightM (ownB x so sc vo vc ys) = rightM x := by
  have e : ys.any setBad = x.t.l.any setBad := by
    have e1 := any_map_on lsV (fun p : Nat × List SA => decide (16 < p.1) || p.2.any fun x => !x.sg) setBad ys (fun _ _ => rfl)
    have e2 := any_map_on lsV (fun p : Nat × List SA => decide (16 < p.1) || p.2.any fun x => !x.sg) setBad x.t.l (fun _ _ => rfl)
    rw [← e1, ← e2, h]
  unfold rightM
  show (_ && (_ && (_ && (_ && !(ys.any setBad))))) = _
  rw [e]
  rfl
end Go.Proofs.Ytcgphdipfekccaa

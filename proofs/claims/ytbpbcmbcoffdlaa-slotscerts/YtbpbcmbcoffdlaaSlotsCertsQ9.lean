/-
  Texts in one: SlInv, SlAlive, SlLT, SlCI, SlLU, SlCL, QrNum, Same.
-/
import Derived.Test.YtbpbcmbcoffdlaaSlotsCertsQ7
import Derived.Test.YtbpbcmbcoffdlaaSlotsCertsQ8
import Derived.Test.YtbpbcmbcoffdlaaSlotsCertsQ5
import Derived.Test.YtbpbcmbcoffdlaaSlotsCertsQ6
import Derived.Test.YtbpbcmbcoffdlaaSlotsCertsQ2
import Derived.Lib.SmallJoins
import Derived.Test.YtbpbcmbcoffdlaaSlotsCertsQ0
import Derived.Test.YtbpbcmbcoffdlaaSlotsCertsQ1
import Derived.Deep.QuietTactic
import Derived.BigQuiet
namespace Go.Proofs.Ytbpbcmbcoffdlaa
structure SI (g : GT) : Prop where
  pc : ∀ k x, g.s k = some x → prepS g.f x = true → certIn g.view x = true
  cv : ∀ k x c, g.s k = some x → x.cert = some c → c.view ≤ g.view ∧ (c.view = g.view → x.has = true ∧ c.sum = x.sum)
def CLe (x x' : ST) : Prop := ∀ c, x.cert = some c → ∃ c', x'.cert = some c' ∧ c.view ≤ c'.view ∧ (c.view = c'.view → c.sum = c'.sum)
theorem CLe.refl (x : ST) : CLe x x := fun c h => ⟨c, h, Nat.le_refl _, fun _ => rfl⟩
theorem CLe.eq {x x' : ST} (h : x'.cert = x.cert) : CLe x x' := fun c hc => ⟨c, by rw [h]; exact hc, Nat.le_refl _, fun _ => rfl⟩
structure Step (g g' : GT) : Prop where
  f : g'.f = g.f
  low : g.low ≤ g'.low
  view : g.view ≤ g'.view
  c : ∀ k x, g.s k = some x → x.cert.isSome = true → g'.low < k → ∃ x', g'.s k = some x' ∧ CLe x x'
theorem Step.refl (g : GT) : Step g g := ⟨rfl, Nat.le_refl _, Nat.le_refl _, fun _ x h _ _ => ⟨x, h, CLe.refl x⟩⟩
theorem certIn_iff {v : Nat} {x : ST} : certIn v x = true ↔ ∃ c, x.cert = some c ∧ c.view = v := by
  unfold certIn cvw
  cases x.cert with
  | none => simp
  | some c => simp
theorem certS_cases (f v : Nat) (x : ST) : (certS f v x = x ∧ (prepS f x = true → certIn v x = true)) ∨ (certS f v x = { x with cert := some ⟨v, x.sum, x.pre :: (prfV x.sum 0 x.pv).take (2 * f)⟩ } ∧ certIn v x = false ∧ prepS f x = true) := by
  unfold certS
  cases h1 : certIn v x with
  | true => exact .inl ⟨by simp, fun _ => rfl⟩
  | false =>
    cases h2 : prepS f x with
    | false => exact .inl ⟨by simp, fun h => by cases h⟩
    | true => exact .inr ⟨by simp, rfl, rfl⟩
structure SO (f v : Nat) (x : ST) : Prop where
  pc : prepS f x = true → certIn v x = true
  cv : ∀ c, x.cert = some c → c.view ≤ v ∧ (c.view = v → x.has = true ∧ c.sum = x.sum)
theorem SO.new (f v : Nat) : SO f v newST := ⟨fun h => (by simp [prepS, newST] at h), fun _ h => (by cases h)⟩
theorem SI.at {g : GT} (h : SI g) (k : Nat) : SO g.f g.view (g.slot k) := by
  unfold GT.slot
  cases hs : g.s k with
  | none => exact SO.new _ _
  | some x => exact ⟨h.pc k x hs, fun c hc => h.cv k x c hs hc⟩
theorem SO.cert {f v : Nat} {x y : ST} (h : SO f v x) (hc : y.cert = x.cert) (hh : x.has = true → y.has = true ∧ y.sum = x.sum) : SO f v (certS f v y) := by
  have base : ∀ c, y.cert = some c → c.view ≤ v ∧ (c.view = v → y.has = true ∧ c.sum = y.sum) := fun c e => by
    rw [hc] at e
    obtain ⟨h1, h2⟩ := h.cv c e
    refine ⟨h1, fun q => ?_⟩
    obtain ⟨h3, h4⟩ := h2 q
    obtain ⟨h5, h6⟩ := hh h3
    exact ⟨h5, h4.trans h6.symm⟩
  rcases certS_cases f v y with ⟨e, h1⟩ | ⟨e, h1, h2⟩
  · rw [e]
    exact ⟨h1, base⟩
  · rw [e]
    refine ⟨fun _ => certIn_iff.2 ⟨_, rfl, rfl⟩, fun c q => ?_⟩
    obtain rfl := Option.some.inj q
    refine ⟨Nat.le_refl _, fun _ => ⟨?_, rfl⟩⟩
    unfold prepS at h2
    simp only [Bool.and_eq_true] at h2
    exact h2.1
theorem certS_le {f v : Nat} {x y : ST} (h : SO f v x) (hc : y.cert = x.cert) : CLe x (certS f v y) := by
  rcases certS_cases f v y with ⟨e, h1⟩ | ⟨e, h1, h2⟩
  · rw [e]
    exact CLe.eq hc
  · rw [e]
    intro c q
    refine ⟨_, rfl, (h.cv c q).1, fun q2 => ?_⟩
    have : certIn v y = true := certIn_iff.2 ⟨c, hc.trans q, q2⟩
    rw [h1] at this
    cases this
theorem SI.put {g : GT} (h : SI g) (k : Nat) {y : ST} (hy : SO g.f g.view y) : SI (g.put k y) := by
  refine ⟨fun j x hx => ?_, fun j x c hx => ?_⟩
  · by_cases e : j = k
    · subst e
      rw [g.put_same] at hx
      obtain rfl := Option.some.inj hx
      exact hy.pc
    · rw [g.put_other _ _ e] at hx
      exact h.pc j x hx
  · by_cases e : j = k
    · subst e
      rw [g.put_same] at hx
      obtain rfl := Option.some.inj hx
      exact hy.cv c
    · rw [g.put_other _ _ e] at hx
      exact h.cv j x c hx
theorem Step.put {g : GT} (k : Nat) {y : ST} (hy : CLe (g.slot k) y) : Step g (g.put k y) := by
  refine ⟨rfl, Nat.le_refl _, Nat.le_refl _, fun j x hx _ _ => ?_⟩
  by_cases e : j = k
  · subst e
    refine ⟨y, g.put_same _ _, ?_⟩
    have : g.slot j = x := by unfold GT.slot; rw [hx]; rfl
    rw [this] at hy
    exact hy
  · exact ⟨x, (g.put_other _ _ e).trans hx, CLe.refl x⟩
theorem addV_same {f : Nat} {l : List VT} {fr : Nat} {v : VT} (h : (addV f l fr v).2 ≠ 0) : (addV f l fr v).1 = l := by
  unfold addV at h ⊢
  repeat' split
  all_goals first | rfl | (exfalso; simp_all)
theorem SO.par {f v : Nat} {x : ST} (h : SO f v x) (l : List VT) (hl : l = x.pv) : SO f v { x with pv := l } := by
  subst hl
  exact h
theorem SO.com {f v : Nat} {x : ST} (h : SO f v x) (l : List VT) : SO f v { x with cv := l } := ⟨h.pc, h.cv⟩
theorem pre_inv {g : GT} (h : SI g) (sv : SV) (seq : Nat) (sum : ByteArray) : SI (preG g sv seq sum).1 ∧ Step g (preG g sv seq sum).1 := by
  unfold preG
  split
  · exact ⟨h, Step.refl g⟩
  split
  · exact ⟨h, Step.refl g⟩
  split
  · exact ⟨h.put seq (h.at seq), Step.put seq (CLe.refl _)⟩
  · rename_i hn
    exact ⟨h.put seq ((h.at seq).cert rfl fun e => absurd e hn), Step.put seq (certS_le (h.at seq) rfl)⟩
theorem par_inv {g : GT} (h : SI g) (sv : SV) (seq : Nat) (sum : ByteArray) : SI (parG g sv seq sum).1 ∧ Step g (parG g sv seq sum).1 := by
  unfold parG
  split
  · exact ⟨h, Step.refl g⟩
  split
  · exact ⟨h, Step.refl g⟩
  split
  · rename_i hn
    exact ⟨h.put seq ((h.at seq).par _ (addV_same hn)), Step.put seq (CLe.eq rfl)⟩
  · exact ⟨h.put seq ((h.at seq).cert rfl fun e => ⟨e, rfl⟩), Step.put seq (certS_le (h.at seq) rfl)⟩
theorem com_inv {g : GT} (h : SI g) (sv : SV) (seq : Nat) (sum : ByteArray) : SI (comG g sv seq sum).1 ∧ Step g (comG g sv seq sum).1 := by
  unfold comG
  split
  · exact ⟨h, Step.refl g⟩
  · exact ⟨h.put seq ((h.at seq).com _), Step.put seq (CLe.eq rfl)⟩
theorem ent_inv {g : GT} (h : SI g) (v : Nat) : SI (entG g v).1 ∧ Step g (entG g v).1 := by
  unfold entG
  split
  · exact ⟨h, Step.refl g⟩
  split
  · exact ⟨h, Step.refl g⟩
  · rename_i h1 h2
    have inv : ∀ k x, (g.s k).bind turnS = some x → ∃ y, g.s k = some y ∧ y.cert.isSome = true ∧ x = { newST with cert := y.cert } := fun k x hx => by
      cases hs : g.s k with
      | none => rw [hs] at hx; cases hx
      | some y =>
        rw [hs] at hx
        have hx : turnS y = some x := hx
        unfold turnS at hx
        split at hx
        · rename_i hc
          exact ⟨y, rfl, hc, (Option.some.inj hx).symm⟩
        · cases hx
    refine ⟨⟨fun k x hx hp => ?_, fun k x c hx hc => ?_⟩, ⟨rfl, Nat.le_refl _, Nat.le_of_lt (Nat.lt_of_not_le h2), fun k x hx hc _ => ⟨{ newST with cert := x.cert }, ?_, CLe.eq rfl⟩⟩⟩
    · obtain ⟨y, _, _, rfl⟩ := inv k x hx
      cases hp
    · obtain ⟨y, h3, h4, rfl⟩ := inv k x hx
      have h5 := (h.cv k y c h3 hc).1
      have h6 := Nat.lt_of_not_le h2
      exact ⟨by show c.view ≤ v; omega, fun e => by have e : c.view = v := e; omega⟩
    · show (g.s k).bind turnS = _
      rw [hx]
      show turnS x = _
      unfold turnS
      rw [if_pos hc]
theorem adv_inv {g : GT} (h : SI g) (l : Nat) : SI (advG g l).1 ∧ Step g (advG g l).1 := by
  unfold advG
  split
  · exact ⟨h, Step.refl g⟩
  · rename_i h1
    have inv : ∀ k x, (if k ≤ l then none else g.s k) = some x → g.s k = some x := fun k x hx => by
      split at hx
      · cases hx
      · exact hx
    refine ⟨⟨fun k x hx hp => h.pc k x (inv k x hx) hp, fun k x c hx hc => h.cv k x c (inv k x hx) hc⟩, ⟨rfl, by show g.low ≤ l; omega, Nat.le_refl _, fun k x hx _ hk => ⟨x, ?_, CLe.refl x⟩⟩⟩
    have hk : l < k := hk
    show (if k ≤ l then none else g.s k) = some x
    rw [if_neg (by omega)]
    exact hx
theorem one_inv {g : GT} (h : SI g) (o : OA) : SI (oneG g o).1 ∧ Step g (oneG g o).1 := by
  unfold oneG
  repeat' split
  · exact pre_inv h _ _ _
  · exact par_inv h _ _ _
  · exact com_inv h _ _ _
  · exact ent_inv h _
  · exact adv_inv h _
  · exact ⟨h, Step.refl g⟩
theorem newG_inv (f : Nat) : SI (newG f) := ⟨fun _ _ h => (by cases h), fun _ _ _ h => (by cases h)⟩
open Go.RowKit
theorem sl_mark15 (w : World) (c : Int) (h : 0 ≤ c ∧ c ≤ 255) : Sl (w.alloc (.cells #[.int .u8 c] 5 (1, 2))) (some ⟨w.heap.size, 0, none⟩) 1 1 [c] := by
  refine ⟨rfl, Nat.le_refl _, by decide, fun h => by simp at h, fun a ha i hi => ?_, fun x hx => by simp at hx; omega⟩
  obtain rfl := Option.some.inj ha
  obtain rfl : i = 0 := by omega
  rw [Addr.add_lit, World.cell?_alloc_mark]
  rfl
theorem LG.made {w w' : World} {f : Nat} (h1 : 1 ≤ f) (h4 : f ≤ 4) (hL : LC w' (w.heap.size + 1) f 0 0 w.heap.size) (hM : MF w' 30 w.heap.size 0 (fun _ => none)) :
    LG w' w.heap.size (w.heap.size + 1) w.heap.size 0 (newG f) (fun _ => none) (fun _ => ⟨0, 0, 0, ⟨0, ⟨none, 0, 0, []⟩, ⟨none, 0, 0, []⟩⟩, none, 0, 0, []⟩) (fun z => if z = w.heap.size + 1 then 1 else if z = w.heap.size then 2 else 0) where
  f1 := h1
  f4 := h4
  lowz := Nat.zero_le _
  viewz := Nat.zero_le _
  lc := hL
  mf := hM
  here := fun _ _ h => by cases h
  win := fun _ _ h => by cases h
  no := fun _ h => absurd rfl h
  rL := if_pos rfl
  rM := by rw [if_neg (by omega), if_pos rfl]
  ro := fun _ _ h => by cases h
  lo := fun z hz => by rw [if_neg (by omega), if_neg (by omega)]
def svE (a : Nat) : SV := ⟨a, [], []⟩
def saE (a : Nat) : SA := ⟨a, ⟨none, 0, 0, []⟩, ⟨none, 0, 0, []⟩⟩
theorem saE_ok (w : World) (a : Nat) (h : a < 18446744073709551616) : (saE a).ok w := ⟨h, Sl.nothing w, Sl.nothing w⟩
theorem saE_blk (a z : Nat) : ¬ (saE a).blk z := by
  rintro (⟨b, h, _⟩ | ⟨b, h, _⟩) <;> cases h
def xx : ByteArray := strOfNums [120]
def gA : GT := (preG (newG 1) (svE 1) 1 xx).1
def gB : GT := (parG gA (svE 2) 1 xx).1
def gC : GT := (parG gB (svE 3) 1 xx).1
theorem al1 : (preG (newG 1) (svE 1) 1 xx).2 = 0 := by decide
theorem al2 : (parG gA (svE 2) 1 xx).2 = 0 := by decide
theorem al3 : preO gB 1 = false := by decide
theorem al4 : (parG gB (svE 3) 1 xx).2 = 0 := by decide
theorem al5 : preO gC 1 = true := by decide
theorem al6 : (certsG gC).length = 1 := by decide
set_option maxRecDepth 100000 in
set_option maxHeartbeats 4000000 in
theorem alive15 (w : World) : Calls Try.prog 10 #[] w fun e w' => e = .returned (.bool true) ∧ Below w.heap.size w w' := by
  have kc := fun (w : World) (C : Array Value) (n c g : Nat) (hg : g = w.heap.size) => Joins.run_convert_bytes_const_at (P := Try.prog) w 35 5 C n c g hg Try.underlying35 Try.underlying5
  have CN := slNew_good w 1 (by omega) (by omega)
  go_enter Try.func10, Try.ntmps10
  go_wp2_with fail
  refine CN.mono ?_
  rintro x w1 ⟨rfl, hL, hM, C1⟩
  have K1 := LG.made (by omega) (by omega) hL hM
  clear CN hL hM
  have D2 : Below w1.heap.size w1 (w1.alloc (.cells #[.int .u8 120] 5 (1, 2))) := (Below.refl _ _).alloc (Nat.le_refl _) _
  obtain ⟨K2, T2⟩ := K1.below D2
  have CA := pre_any _ _ _ _ _ _ _ _ _ K2 (by decide) (saE 1) (saE_ok _ 1 (by omega)) (fun z hz => absurd hz (saE_blk 1 z)) ⟨by decide, by decide⟩ 1 (by omega) _ 1 1 [120] (sl_mark15 w1 120 (by omega)) (fun z ⟨a, ha, _, e⟩ => by cases ha; rw [← e]; exact rho_new (Nat.le_refl _)) (by omega)
  unfold MsgPost at CA
  rw [show (saE 1).v = svE 1 from rfl, show strOfNums [120] = xx from rfl, al1] at CA
  go_wp2_with fail
  refine CA.mono ?_
  rintro x w3 ⟨n3, F3, B3, ρ3, rfl, K3, T3, h3⟩
  have E3 := (C1.trans T2.bel).trans T3.bel
  clear CA K1 K2 D2 T2 T3 C1
  change LG w3 _ _ _ _ gA _ _ _ at K3
  have D4 : Below w3.heap.size w3 (w3.alloc (.cells #[.int .u8 120] 5 (1, 2))) := (Below.refl _ _).alloc (Nat.le_refl _) _
  obtain ⟨K4, T4⟩ := K3.below D4
  have CA := prepare_any _ _ _ _ _ _ _ _ _ K4 (by unfold maxLen; omega) (saE 2) (saE_ok _ 2 (by omega)) (fun z hz => absurd hz (saE_blk 2 z)) ⟨by decide, by decide⟩ 1 (by omega) _ 1 1 [120] (sl_mark15 w3 120 (by omega)) (fun z ⟨a, ha, _, e⟩ => by cases ha; rw [← e]; exact rho_new (Nat.le_refl _)) (by omega)
  unfold MsgPost at CA
  rw [show (saE 2).v = svE 2 from rfl, show strOfNums [120] = xx from rfl, al2] at CA
  go_wp2_with fail
  refine CA.mono ?_
  rintro x w5 ⟨n5, F5, B5, ρ5, rfl, K5, T5, h5⟩
  have E5 := (E3.trans T4.bel).trans T5.bel
  clear CA K3 K4 D4 T4 T5 E3
  change LG w5 _ _ _ _ gB _ _ _ at K5
  have CP := prep_any15 _ _ _ _ _ _ _ _ _ K5 1 (by omega)
  rw [al3] at CP
  go_wp2_with fail
  refine CP.mono ?_
  rintro x w6 ⟨rfl, C6⟩
  obtain ⟨K6, T6⟩ := K5.below C6
  have D7 : Below w6.heap.size w6 (w6.alloc (.cells #[.int .u8 120] 5 (1, 2))) := (Below.refl _ _).alloc (Nat.le_refl _) _
  obtain ⟨K7, T7⟩ := K6.below D7
  have CA := prepare_any _ _ _ _ _ _ _ _ _ K7 (by unfold maxLen; omega) (saE 3) (saE_ok _ 3 (by omega)) (fun z hz => absurd hz (saE_blk 3 z)) ⟨by decide, by decide⟩ 1 (by omega) _ 1 1 [120] (sl_mark15 w6 120 (by omega)) (fun z ⟨a, ha, _, e⟩ => by cases ha; rw [← e]; exact rho_new (Nat.le_refl _)) (by omega)
  unfold MsgPost at CA
  rw [show (saE 3).v = svE 3 from rfl, show strOfNums [120] = xx from rfl, al4] at CA
  have E7 := (E5.trans T6.bel).trans T7.bel
  clear CP K5 C6 K6 D7 T6 T7 E5
  go_wp2_with fail
  refine CA.mono ?_
  rintro x w8 ⟨n8, F8, B8, ρ8, rfl, K8, T8, h8⟩
  change LG w8 _ _ _ _ gC _ _ _ at K8
  have E8 := E7.trans T8.bel
  have CP := prep_any15 _ _ _ _ _ _ _ _ _ K8 1 (by omega)
  rw [al5] at CP
  clear CA K7 T8 E7
  go_wp2_with fail
  refine CP.mono ?_
  rintro x w9 ⟨rfl, C9⟩
  obtain ⟨K9, T9⟩ := K8.below C9
  have E9 := E8.trans T9.bel
  have CC := certs_any15 _ _ _ _ _ _ _ _ _ K9 (by omega)
  clear CP K8 C9 K9 T9 E8
  unfold CertsPost at CC
  rw [al6] at CC
  have HS := E9.size
  go_wp2_with (go_at_call 15; refine CC.mono ?_; rintro e w10 ⟨ao, cap, ls, rfl, -, -, C10⟩)
  go_ret
  exact ⟨rfl, E9.trans (C10.mono HS)⟩
end Go.Proofs.Ytbpbcmbcoffdlaa
namespace Go.Proofs.Ytbpbcmbcoffdlaa
open Go.RowKit
def LT (w0 : World) (L M n : Nat) (g : GT) (w : World) : Prop := ∃ n' F B ρ, n' ≤ n ∧ LG w w0.heap.size L M n' g F B ρ ∧ Below w0.heap.size w0 w
section
variable {w0 w w' : World} {L M n : Nat} {g : GT}
theorem LT.below (h : LT w0 L M n g w) (hb : Below w.heap.size w w') : LT w0 L M n g w' := by
  obtain ⟨n', F, B, ρ, h1, h2, h3⟩ := h
  obtain ⟨h4, h5⟩ := h2.below hb
  exact ⟨n', F, B, _, h1, h4, h3.trans h5.bel⟩
theorem LT.bel (h : LT w0 L M n g w) : Below w0.heap.size w0 w := by
  obtain ⟨_, _, _, _, _, _, h3⟩ := h
  exact h3
theorem LT.lowz (h : LT w0 L M n g w) : g.low ≤ 4611686018427387895 := by
  obtain ⟨_, _, _, _, _, h2, _⟩ := h
  exact h2.lowz
theorem LT.lowC (h : LT w0 L M n g w) : Calls Try.prog 24 #[.pointer (some ⟨L, 0, none⟩)] w fun x w' => x = .returned (.int .u64 (g.low : Nat)) ∧ w' = w := by
  obtain ⟨_, _, _, _, _, h2, _⟩ := h
  exact slLow_log w L _ _ _ M h2.lc
theorem LT.certsC (h : LT w0 L M n g w) (hn : n ≤ 1000000) : Calls Try.prog 15 #[.pointer (some ⟨L, 0, none⟩)] w (CertsPost w g) := by
  obtain ⟨n', F, B, ρ, h1, h2, _⟩ := h
  exact certs_any15 w _ L M n' g F B ρ h2 (by omega)
theorem LT.oneC (h : LT w0 L M n g w) (hn : n < maxLen) (o : OA) (ok : o.ok w0) (hz : o.b.n ≤ 1000000) :
    Calls Try.prog 12 #[.pointer (some ⟨L, 0, none⟩), .agg #[.int .i64 o.k, .int .u64 (o.fr : Nat), .int .u64 (o.seq : Nat), .slice o.b.ao o.b.n o.b.cap]] w fun e w' => e = .returned (.int .i64 (oneG g o).2) ∧ LT w0 L M (n + 1) (oneG g o).1 w' := by
  obtain ⟨n', F, B, ρ, h1, h2, h3⟩ := h
  refine (one_any w _ L M n' g F B ρ h2 (by omega) o (elO_fine.kept o w0 w ok fun z hz => h3.block z (elO_fine.lt o w0 z ok hz)) (fun z hz => h2.lo z (elO_fine.lt o w0 z ok hz)) hz).mono ?_
  rintro e w' ⟨n5, F5, B5, ρ5, rfl, K5, T5, h5⟩
  exact ⟨rfl, n5, F5, B5, ρ5, by omega, K5, h3.trans T5.bel⟩
end
theorem OX.below {V V' : World} {b p : Nat} {o : OA} (h : OX V b p o) (hb : Below V.heap.size V V') : OX V' b p o :=
  ⟨(hb.cell (World.block_lt_of_cell? _ _ h.c0)).trans h.c0, (hb.cell (World.block_lt_of_cell? _ _ h.c1)).trans h.c1, (hb.cell (World.block_lt_of_cell? _ _ h.c2)).trans h.c2, (hb.cell (World.block_lt_of_cell? _ _ h.c3)).trans h.c3⟩
theorem certsG_len (g : GT) : (certsG g).length ≤ 8 := by
  unfold certsG
  exact Nat.le_trans (List.length_filterMap_le _ _) (keysG_len g)
theorem LT.made {w w' : World} {f : Nat} (h1 : 1 ≤ f) (h4 : f ≤ 4) (hL : LC w' (w.heap.size + 1) f 0 0 w.heap.size) (hM : MF w' 30 w.heap.size 0 (fun _ => none)) (hb : Below w.heap.size w w') : LT w (w.heap.size + 1) w.heap.size 0 (newG f) w' :=
  ⟨0, _, _, _, Nat.le_refl _, LG.made h1 h4 hL hM, hb⟩
end Go.Proofs.Ytbpbcmbcoffdlaa
namespace Go.Proofs.Ytbpbcmbcoffdlaa
open Go.RowKit
theorem strSb (s : ByteArray) : strOfNums (sb s) = s := sb_inj (sb_str (sb_byte s))
structure CI (f : Nat) (c : CT) : Prop where
  len : c.texts.length = 2 * f + 1
  tag : ∀ t ∈ c.texts, t.tag = sb c.sum
  run : ∃ p r, c.texts = p :: r ∧ p.fr = prF c.view f ∧ (∀ t ∈ r, t.fr ≠ p.fr) ∧ r.Pairwise fun a b => a.fr < b.fr
structure CO (f v : Nat) (x : ST) : Prop where
  pre : x.has = true → x.pre.fr = prF v f ∧ x.pre.tag = sb x.sum
  pv : ∀ k vt, x.pv[k]? = some vt → vt.is = true → vt.tag = vt.word ∧ k + 1 ≠ prF v f
  ct : ∀ c, x.cert = some c → CI f c
theorem prfV_of {s : ByteArray} {t : SV} : ∀ (l : List VT) (i : Nat), t ∈ prfV s i l → ∃ k vt, l[k]? = some vt ∧ vt.is = true ∧ vt.word = s ∧ t.fr = i + k + 1 ∧ t.tag = sb vt.tag
  | [], _, h => absurd h List.not_mem_nil
  | v :: l, i, h => by
    unfold prfV at h
    by_cases hf : v.fo s = true
    · rw [if_pos hf] at h
      rcases List.mem_cons.1 h with rfl | h
      · unfold VT.fo at hf
        simp only [Bool.and_eq_true, decide_eq_true_eq] at hf
        exact ⟨0, v, rfl, hf.1, hf.2, rfl, rfl⟩
      · obtain ⟨k, vt, h1, h2, h3, h4, h5⟩ := prfV_of l (i + 1) h
        exact ⟨k + 1, vt, h1, h2, h3, by omega, h5⟩
    · rw [if_neg hf] at h
      obtain ⟨k, vt, h1, h2, h3, h4, h5⟩ := prfV_of l (i + 1) h
      exact ⟨k + 1, vt, h1, h2, h3, by omega, h5⟩
theorem prfV_up {s : ByteArray} : ∀ (l : List VT) (i : Nat), (prfV s i l).Pairwise fun a b => a.fr < b.fr
  | [], _ => List.Pairwise.nil
  | v :: l, i => by
    unfold prfV
    by_cases hf : v.fo s = true
    · rw [if_pos hf]
      refine List.Pairwise.cons (fun t ht => ?_) (prfV_up l (i + 1))
      obtain ⟨k, vt, _, _, _, h4, _⟩ := prfV_of l (i + 1) ht
      show i + 1 < t.fr
      omega
    · rw [if_neg hf]
      exact prfV_up l (i + 1)
theorem CO.new (f v : Nat) : CO f v newST := by
  refine ⟨fun h => (by cases h), fun k vt h hi => ?_, fun _ h => (by cases h)⟩
  have h : noVotes[k]? = some vt := h
  unfold noVotes at h
  rw [List.getElem?_replicate] at h
  split at h
  · obtain rfl := Option.some.inj h
    cases hi
  · cases h
theorem CO.cert {f v : Nat} {x : ST} (h : CO f v x) : CO f v (certS f v x) := by
  rcases certS_cases f v x with ⟨e, _⟩ | ⟨e, _, h2⟩
  · rw [e]
    exact h
  · rw [e]
    refine ⟨h.pre, h.pv, fun c q => ?_⟩
    obtain rfl := Option.some.inj q
    unfold prepS at h2
    simp only [Bool.and_eq_true, decide_eq_true_eq] at h2
    obtain ⟨h3, h4⟩ := h2
    obtain ⟨h5, h6⟩ := h.pre h3
    have hl := prfV_len x.sum x.pv 0
    refine ⟨?_, fun t ht => ?_, x.pre, _, rfl, h5, fun t ht => ?_, (prfV_up x.pv 0).sublist (List.take_sublist _ _)⟩
    · show (x.pre :: (prfV x.sum 0 x.pv).take (2 * f)).length = _
      rw [List.length_cons, List.length_take, hl]
      omega
    · rcases List.mem_cons.1 ht with rfl | ht
      · exact h6
      · obtain ⟨k, vt, a1, a2, a3, _, a5⟩ := prfV_of x.pv 0 (List.mem_of_mem_take ht)
        rw [a5, (h.pv k vt a1 a2).1, a3]
    · obtain ⟨k, vt, a1, a2, _, a4, _⟩ := prfV_of x.pv 0 (List.mem_of_mem_take ht)
      have := (h.pv k vt a1 a2).2
      rw [h5]
      omega
def CG (g : GT) : Prop := ∀ k x, g.s k = some x → CO g.f g.view x
theorem CG.at {g : GT} (h : CG g) (k : Nat) : CO g.f g.view (g.slot k) := by
  unfold GT.slot
  cases hs : g.s k with
  | none => exact CO.new _ _
  | some x => exact h k x hs
theorem CG.put {g : GT} (h : CG g) (k : Nat) {y : ST} (hy : CO g.f g.view y) : CG (g.put k y) := fun j x hx => by
  by_cases e : j = k
  · subst e
    rw [g.put_same] at hx
    obtain rfl := Option.some.inj hx
    exact hy
  · rw [g.put_other _ _ e] at hx
    exact h j x hx
theorem pre_cg {g : GT} (h : CG g) (sv : SV) (seq : Nat) (sum : ByteArray) (ht : sv.tag = sb sum) : CG (preG g sv seq sum).1 := by
  unfold preG
  split
  · exact h
  split
  · exact h
  rename_i hp
  have hp : sv.fr = prF g.view g.f := Decidable.of_not_not hp
  split
  · exact h.put seq (h.at seq)
  · refine h.put seq (CO.cert ⟨fun _ => ⟨hp, ht⟩, (h.at seq).pv, (h.at seq).ct⟩)
theorem addV_at {f : Nat} {l : List VT} {fr : Nat} {v : VT} {k : Nat} {vt : VT} (h : (addV f l fr v).1[k]? = some vt) : l[k]? = some vt ∨ (vt = v ∧ k + 1 = fr) := by
  unfold addV at h
  split at h
  · exact .inl h
  split at h
  · exact .inl h
  · rename_i h0 _
    have h : (l.set (fr - 1) v)[k]? = some vt := h
    rw [List.getElem?_set] at h
    split at h
    · split at h
      · obtain rfl := Option.some.inj h
        exact .inr ⟨rfl, by omega⟩
      · cases h
    · exact .inl h
theorem par_cg {g : GT} (h : CG g) (sv : SV) (seq : Nat) (sum : ByteArray) (ht : sv.tag = sb sum) : CG (parG g sv seq sum).1 := by
  have key : ∀ (hp : ¬ sv.fr = prF g.view g.f), CO g.f g.view { g.slot seq with pv := (addPv g sv seq sum).1 } := fun hp => by
    refine ⟨(h.at seq).pre, fun k vt hk hi => ?_, (h.at seq).ct⟩
    have hk : (addPv g sv seq sum).1[k]? = some vt := hk
    unfold addPv at hk
    rcases addV_at hk with hk | ⟨rfl, hk⟩
    · exact (h.at seq).pv k vt hk hi
    · refine ⟨?_, fun e => hp (by omega)⟩
      show strOfNums sv.tag = sum
      rw [ht, strSb]
  unfold parG
  split
  · exact h
  split
  · exact h
  rename_i hp
  split
  · exact h.put seq (key hp)
  · exact h.put seq (key hp).cert
theorem com_cg {g : GT} (h : CG g) (sv : SV) (seq : Nat) (sum : ByteArray) : CG (comG g sv seq sum).1 := by
  unfold comG
  split
  · exact h
  · exact h.put seq ⟨(h.at seq).pre, (h.at seq).pv, (h.at seq).ct⟩
theorem ent_cg {g : GT} (h : CG g) (v : Nat) : CG (entG g v).1 := by
  unfold entG
  split
  · exact h
  split
  · exact h
  · intro k x hx
    have hx : (g.s k).bind turnS = some x := hx
    cases hs : g.s k with
    | none => rw [hs] at hx; cases hx
    | some y =>
      rw [hs] at hx
      have hx : turnS y = some x := hx
      unfold turnS at hx
      split at hx
      · obtain rfl := Option.some.inj hx
        exact ⟨(CO.new _ _).pre, (CO.new g.f v).pv, fun c hc => (h k y hs).ct c hc⟩
      · cases hx
theorem adv_cg {g : GT} (h : CG g) (l : Nat) : CG (advG g l).1 := by
  unfold advG
  split
  · exact h
  · intro k x hx
    have hx : (if k ≤ l then none else g.s k) = some x := hx
    split at hx
    · cases hx
    · exact h k x hx
theorem one_cg {g : GT} (h : CG g) (o : OA) (hb : Byt o.b.xs) : CG (oneG g o).1 := by
  have ht : (svO o).tag = sb (strOfNums o.b.xs) := (sb_str hb).symm
  unfold oneG
  repeat' split
  · exact pre_cg h _ _ _ ht
  · exact par_cg h _ _ _ ht
  · exact com_cg h _ _ _
  · exact ent_cg h _
  · exact adv_cg h _
  · exact h
theorem newG_cg (f : Nat) : CG (newG f) := fun _ _ h => (by cases h)
theorem CG.crt {g : GT} (h : CG g) {k : Nat} {c : CT} (hc : crtO g k = some c) : CI g.f c := by
  unfold crtO at hc
  cases hs : g.s k with
  | none => rw [hs] at hc; cases hc
  | some x =>
    rw [hs] at hc
    exact (h k x hs).ct c hc
end Go.Proofs.Ytbpbcmbcoffdlaa
namespace Go.Proofs.Ytbpbcmbcoffdlaa
open Go.RowKit
section
variable {w0 w w' : World} {L M n : Nat} {g : GT} {ρ : Nat → Nat}
end
section
variable {w0 w : World} {L M n : Nat} {g : GT}
theorem LT.best0 (h : LT w0 L M n g w) (seq : Nat) (hs : seq < 18446744073709551616) (e : crtO g seq = none) : Calls Try.prog 21 #[.pointer (some ⟨L, 0, none⟩), .int .u64 (seq : Nat)] w fun x w' => ∃ ao n cap, x = .returned (.tuple #[.int .u64 0, .slice ao n cap, .bool false]) ∧ Below w.heap.size w w' := by
  obtain ⟨_, F, B, ρ, _, h2, _⟩ := h
  refine (best_new15 w _ L M _ g F B ρ h2 seq hs).mono ?_
  rintro x w' ⟨ao, n, cap, rfl, _, h3, _⟩
  rw [e]
  exact ⟨ao, n, cap, rfl, h3⟩
theorem LT.best1 (h : LT w0 L M n g w) (seq : Nat) (hs : seq < 18446744073709551616) {c : CT} (e : crtO g seq = some c) : Calls Try.prog 21 #[.pointer (some ⟨L, 0, none⟩), .int .u64 (seq : Nat)] w fun x w' => ∃ ao n cap, x = .returned (.tuple #[.int .u64 (c.view : Nat), .slice ao n cap, .bool true]) ∧ Sl w' ao n cap (sb c.sum) ∧ Below w.heap.size w w' ∧ ∀ z, sblk ao n z → w.heap.size ≤ z := by
  obtain ⟨_, F, B, ρ, _, h2, _⟩ := h
  refine (best_new15 w _ L M _ g F B ρ h2 seq hs).mono ?_
  rintro x w' ⟨ao, n, cap, rfl, h3, h4, h5⟩
  rw [e] at h3 ⊢
  exact ⟨ao, n, cap, rfl, h3, h4, h5⟩
end
end Go.Proofs.Ytbpbcmbcoffdlaa
namespace Go.Proofs.Ytbpbcmbcoffdlaa
open Go.RowKit
def certL (g : GT) (n : Nat) : List CT := (List.range' (g.low + 1) n).filterMap (crtO g)
theorem certsG_eq (g : GT) : certsG g = (certL g 8).map CT.texts := by
  unfold certsG keysG certL
  rw [List.filterMap_filter, List.map_filterMap]
  congr 1
  funext k
  unfold certK crtO
  cases g.s k with
  | none => rfl
  | some x => rfl
theorem certL_len (g : GT) : (certsG g).length = (certL g 8).length := by rw [certsG_eq, List.length_map]
theorem certL_step (g : GT) (n : Nat) : certL g (n + 1) = certL g n ++ (match crtO g (g.low + 1 + n) with | none => [] | some y => [y]) := by
  unfold certL
  rw [List.range'_concat, filterMap_snoc, Nat.one_mul]
  cases crtO g (g.low + 1 + n) <;> rfl
theorem certL_none {g : GT} {n : Nat} (h : crtO g (g.low + 1 + n) = none) : (certL g (n + 1)).length = (certL g n).length := by
  rw [certL_step, h, List.append_nil]
theorem certL_some {g : GT} {n : Nat} {c : CT} (h : crtO g (g.low + 1 + n) = some c) : (certL g (n + 1)).length = (certL g n).length + 1 := by
  rw [certL_step, h, List.length_append]
  rfl
theorem certL_pre (g : GT) : ∀ (m n : Nat), ∃ r, certL g (n + m) = certL g n ++ r
  | 0, _ => ⟨[], by rw [Nat.add_zero, List.append_nil]⟩
  | m + 1, n => by
    obtain ⟨r, h⟩ := certL_pre g m n
    exact ⟨_, by rw [← Nat.add_assoc, certL_step, h, List.append_assoc]⟩
theorem certL_at {g : GT} {n : Nat} (hn : n < 8) {c : CT} (h : crtO g (g.low + 1 + n) = some c) : (certL g 8)[(certL g n).length]? = some c := by
  obtain ⟨r, e⟩ := certL_pre g (8 - (n + 1)) (n + 1)
  rw [show n + 1 + (8 - (n + 1)) = 8 by omega] at e
  rw [e, certL_step, h, List.append_assoc]
  rw [List.getElem?_append_right (Nat.le_refl _), Nat.sub_self]
  rfl
theorem certsG_at {g : GT} {n : Nat} (hn : n < 8) {c : CT} (h : crtO g (g.low + 1 + n) = some c) : (certsG g)[(certL g n).length]? = some c.texts := by
  rw [certsG_eq, List.getElem?_map, certL_at hn h]
  rfl
def DR (w0 : World) (L M n : Nat) (g : GT) (co : Option Addr) (cc : Nat) (ls : List (LS SA)) (a i : Value) (w : World) : Prop := ∃ e : Nat, 1 ≤ e ∧ e ≤ 9 ∧ a = .int .i64 ((certL g (e - 1)).length : Nat) ∧ i = .int .u64 (e : Nat) ∧ LT w0 L M n g w ∧ GL elS.lists w co (certsG g).length cc ls
theorem DR.mk {w0 : World} {L M n : Nat} {g : GT} {co : Option Addr} {cc : Nat} {ls : List (LS SA)} {a i : Value} {w : World} (e : Nat) (h1 : 1 ≤ e) (h2 : e ≤ 9) (h3 : a = .int .i64 ((certL g (e - 1)).length : Nat)) (h4 : i = .int .u64 (e : Nat)) (h5 : LT w0 L M n g w) (h6 : GL elS.lists w co (certsG g).length cc ls) : DR w0 L M n g co cc ls a i w := ⟨e, h1, h2, h3, h4, h5, h6⟩
def TR (wo w0 : World) (L M n : Nat) (g : GT) (co : Option Addr) (cc : Nat) (ls : List (LS SA)) (ao : Option Addr) (m mc : Nat) (s : ByteArray) (tn : Nat) (i : Value) (w : World) : Prop := ∃ j : Nat, j ≤ tn ∧ i = .int .i64 (j : Nat) ∧ LT w0 L M n g w ∧ GL elS.lists w co (certsG g).length cc ls ∧ Sl w ao m mc (sb s) ∧ Below wo.heap.size wo w
theorem TR.mk {wo w0 : World} {L M n : Nat} {g : GT} {co : Option Addr} {cc : Nat} {ls : List (LS SA)} {ao : Option Addr} {m mc : Nat} {s : ByteArray} {tn : Nat} {i : Value} {w : World} (j : Nat) (h1 : j ≤ tn) (h2 : i = .int .i64 (j : Nat)) (h3 : LT w0 L M n g w) (h4 : GL elS.lists w co (certsG g).length cc ls) (h5 : Sl w ao m mc (sb s)) (h6 : Below wo.heap.size wo w) : TR wo w0 L M n g co cc ls ao m mc s tn i w := ⟨j, h1, h2, h3, h4, h5, h6⟩
theorem ci_len {f : Nat} {c : CT} (h : CI f c) {t : List SA} (e : t.map SA.v = c.texts) : t.length = 2 * f + 1 := by
  have := congrArg List.length e
  rw [List.length_map, h.len] at this
  exact this
theorem ci_tag {f : Nat} {c : CT} (h : CI f c) {t : List SA} (e : t.map SA.v = c.texts) {j : Nat} (hj : j < t.length) : (t[j]).tag.xs = sb c.sum := by
  have h1 : (t[j]).v ∈ c.texts := by rw [← e]; exact List.mem_map.2 ⟨t[j], List.getElem_mem hj, rfl⟩
  exact h.tag _ h1
theorem ci_first {f : Nat} {c : CT} (h : CI f c) {t : List SA} (e : t.map SA.v = c.texts) (h0 : 0 < t.length) : (t[0]).fr = prF c.view f := by
  obtain ⟨p, r, h1, h2, _, _⟩ := h.run
  match t, e with
  | x :: t', e =>
    rw [h1] at e
    simp only [List.map_cons, List.cons.injEq] at e
    rw [← h2, ← e.1]
    rfl
theorem ci_other {f : Nat} {c : CT} (h : CI f c) {t : List SA} (e : t.map SA.v = c.texts) (h0 : 0 < t.length) {j : Nat} (hj : j < t.length) (h1 : 1 ≤ j) : (t[j]).fr ≠ (t[0]).fr ∧ (2 ≤ j → (t[j - 1]'(by omega)).fr < (t[j]).fr) := by
  obtain ⟨p, r, k1, k2, k3, k4⟩ := h.run
  match t, e with
  | x :: t', e =>
    rw [k1] at e
    simp only [List.map_cons, List.cons.injEq] at e
    obtain ⟨e1, e2⟩ := e
    obtain ⟨i, rfl⟩ : ∃ i, j = i + 1 := ⟨j - 1, by omega⟩
    have hi : i < t'.length := by simpa using hj
    refine ⟨?_, fun h2 => ?_⟩
    · have h3 := k3 (t'[i]).v (by rw [← e2]; exact List.mem_map.2 ⟨t'[i], List.getElem_mem hi, rfl⟩)
      rw [← e1] at h3
      exact h3
    · obtain ⟨q, rfl⟩ : ∃ q, i = q + 1 := ⟨i - 1, by omega⟩
      have hr : r.length = t'.length := by rw [← e2, List.length_map]
      have h3 := List.pairwise_iff_getElem.1 k4 q (q + 1) (by omega) (by omega) (by omega)
      subst e2
      have h3 : (t'[q]).v.fr < (t'[q + 1]).v.fr := by simpa using h3
      exact h3
theorem crt_view {g : GT} (h : SI g) {k : Nat} {c : CT} (hc : crtO g k = some c) : c.view ≤ g.view := by
  unfold crtO at hc
  cases hs : g.s k with
  | none => rw [hs] at hc; cases hc
  | some x =>
    rw [hs] at hc
    exact (h.cv k x c hs hc).1
theorem LT.viewz {w0 w : World} {L M n : Nat} {g : GT} (h : LT w0 L M n g w) : g.view ≤ 4611686018427387903 := by
  obtain ⟨_, _, _, _, _, h2, _⟩ := h
  exact h2.viewz
theorem one_f (g : GT) (o : OA) : (oneG g o).1.f = g.f := by
  unfold oneG preG parG comG entG advG
  repeat' split
  all_goals rfl
open Go.RowKit
theorem rn_any (f : Int) (w : World) : Calls Try.prog 47 #[.int .i64 f] w fun e w' => e = .returned (.int .i64 (nF f 3)) ∧ w' = w := by
  by_cases h1 : 1 ≤ f
  · by_cases h4 : f ≤ 4
    · rw [nF_t 3 (okF_t h1 h4)]
      go_enter Try.func47, Try.ntmps47
      go_wp2
      go_ret
      exact ⟨by first | rfl | simp, rfl⟩
    · rw [nF_f 3 (okF_f (by omega))]
      have h5 : 4 < f := by omega
      go_enter Try.func47, Try.ntmps47
      go_wp2
      go_ret
      exact ⟨rfl, rfl⟩
  · rw [nF_f 3 (okF_f (by omega))]
    have h5 : f < 1 := by omega
    go_enter Try.func47, Try.ntmps47
    go_wp2
    go_ret
    exact ⟨rfl, rfl⟩
theorem rprim_any (v : Nat) (f : Int) (hv : v < 18446744073709551616) (w : World) : Calls Try.prog 26 #[.int .u64 v, .int .i64 f] w fun e w' => e = .returned (.int .u64 (prF v f)) ∧ w' = w := by
  have CN := rn_any f w
  cases hk : okF f with
  | false =>
    rw [prF_f v hk]
    rw [nF_f 3 hk] at CN
    clear hk
    go_enter Try.func26, Try.ntmps26
    go_wp2_with (go_at_call 47; refine CN.mono ?_; rintro e w' ⟨rfl, rfl⟩)
    go_ret
    exact ⟨rfl, rfl⟩
  | true =>
    rw [nF_t 3 hk] at CN
    obtain ⟨h1, h4⟩ := okF_iff.1 hk
    obtain ⟨m, rfl⟩ : ∃ m : Nat, f = m := ⟨f.toNat, by omega⟩
    have e : prF v m = 1 + v % (3 * m + 1) := by rw [prF_t v hk]; congr 1
    have e2 : (3 * (m : Int) + 1) = ((3 * m + 1 : Nat) : Int) := by omega
    rw [e]
    rw [e2] at CN
    clear hk e e2
    obtain ⟨n, hn⟩ : ∃ n, n = 3 * m + 1 := ⟨_, rfl⟩
    have n1 : 1 ≤ n := by omega
    have n2 : n ≤ 13 := by omega
    rw [← hn] at CN ⊢
    have hm := Nat.mod_lt v n1
    have hmi : (v : Int) % (n : Int) = ((v % n : Nat) : Int) := (Int.natCast_emod v n).symm
    have hM : Hid ((v : Int) % (n : Int) = ((v % n : Nat) : Int)) := hmi
    have hb : 0 ≤ (v : Int) % (n : Int) ∧ (v : Int) % (n : Int) < 13 := by rw [hmi]; omega
    have i1 : (1 : Int) ≤ (n : Int) := by omega
    have i2 : (n : Int) ≤ 13 := by omega
    have i3 : (v : Int) < 18446744073709551616 := by omega
    have i4 : ((n : Int) == 0) = false := by simp; omega
    clear hn hmi hm n1 n2 h1 h4 hv
    go_enter Try.func26, Try.ntmps26
    go_wp2_with (go_at_call 47; refine CN.mono ?_; rintro e w' ⟨rfl, rfl⟩)
    go_ret
    refine ⟨?_, rfl⟩
    have := hM.out
    congr 2
open Go.RowKit
theorem below_drewN (w : World) (q B : Nat) : Below B w (w.drewN q) := ⟨rfl, rfl, rfl, Nat.le_refl _, fun _ _ => rfl⟩
theorem lists_of (n : Nat) (xs ys : List Int) (h1 : xs.length = n) (h2 : ys.length = n) (h : ∀ j, j < n → xs.getD j 0 = ys.getD j 0) : xs = ys := by
  apply List.ext_getElem (by omega)
  intro j hj hj2
  have := h j (by omega)
  simpa [List.getD, hj, hj2] using this
theorem Sl.at {w : World} {ao : Option Addr} {n cap : Nat} {xs : List Int} (h : Sl w ao n cap xs) (hn : 0 < n) :
    ∃ b off, ao = some ⟨b, off, none⟩ ∧ ∀ i, i < n → w.cell? ⟨b, off + i, none⟩ = some (.int .u8 (xs.getD i 0)) := by
  cases ao with
  | none => have := (h.nil rfl).1; omega
  | some a =>
    obtain ⟨b, off, spot⟩ := a
    have hc := h.cell _ rfl 0 hn
    have hs : spot = none := by simpa [Addr.add] using World.cell?_spot hc
    subst hs
    exact ⟨b, off, rfl, fun i hi => by have := h.cell _ rfl i hi; rw [Addr.add_lit] at this; exact this⟩
set_option maxHeartbeats 800000 in
theorem same_any (w : World) (ao bo : Option Addr) (n cap m cap2 : Nat) (xs ys : List Int) (h : Sl w ao n cap xs) (h2 : Sl w bo m cap2 ys) :
    Calls Try.prog 23 #[.slice ao n cap, .slice bo m cap2] w fun e w' =>
      e = .returned (.bool (decide (xs = ys))) ∧ ∃ q, w' = w.drewN q := by
  have hl := h.len
  have hl2 := h2.len
  have hle := h.le
  have hmx := h.mx
  unfold maxLen at hmx
  by_cases hnm : n = m
  · subst hnm
    have hne : ((n : Int) != (n : Int)) = false := by simp
    go_enter Try.func23, Try.ntmps23
    go_wp2
    go_loopw [5] (fun i wr => ∃ k q : Nat, k ≤ n ∧ i = .int .i64 k ∧ wr = w.drewN q ∧ ∀ j, j < k → xs.getD j 0 = ys.getD j 0) (fun i _ => n - (intOf i).toNat)
    case atStart => exact ⟨0, 0, Nat.zero_le _, rfl, rfl, fun j hj => by omega⟩
    case round =>
      obtain ⟨k, q, hk, rfl, rfl, heq⟩ := hrel
      by_cases hlt : k < n
      · obtain ⟨b, off, rfl, hc⟩ := h.at (by omega)
        obtain ⟨b2, off2, rfl, hc2⟩ := h2.at (by omega)
        have c1 := hc k hlt
        have c2 := hc2 k hlt
        have hlt1 : (k : Int) < (n : Int) := by omega
        clear hc hc2
        have k1 : k < xs.length := by omega
        have k2 : k < ys.length := by omega
        by_cases he : xs[k] = ys[k]
        · have hb : (xs[k] != ys[k]) = false := by simp [he]
          have hE : Hid (xs[k] = ys[k]) := he
          clear he
          go_wp2
          go_quiet (fail)
          go_wp2
          go_roundw
          case rel =>
            refine ⟨k + 1, _, by omega, by go_num, rfl, fun j hj => ?_⟩
            by_cases hjk : j < k
            · exact heq j hjk
            · obtain rfl : j = k := by omega
              simpa [List.getD, k1, k2] using hE.out
          case measure => simp [intOf]; omega
        · have hb : (xs[k] != ys[k]) = true := by simp [he]
          have hE : Hid (¬ xs[k] = ys[k]) := he
          clear he
          go_wp2
          go_quiet (fail)
          go_wp2
          go_ret
          have hd : decide (xs = ys) = false := decide_eq_false (fun hx => by subst hx; exact hE.out rfl)
          rw [hd, World.drewN_drewN]
          exact ⟨rfl, _, rfl⟩
      · obtain rfl : k = n := by omega
        go_wp2
        go_ret
        have hd : decide (xs = ys) = true := decide_eq_true (lists_of k xs ys hl hl2 heq)
        rw [hd]
        exact ⟨rfl, _, rfl⟩
  · have hne : ((n : Int) != (m : Int)) = true := by simp; omega
    go_enter Try.func23, Try.ntmps23
    go_wp2
    go_ret
    have hd : decide (xs = ys) = false := decide_eq_false (fun hx => by subst hx; omega)
    rw [hd]
    exact ⟨rfl, 0, rfl⟩
end Go.Proofs.Ytbpbcmbcoffdlaa

/-
  Texts in one: SlInv, SlAlive, SlLT, SlLU, SlOB, Same.
-/
import Derived.Test.YtbpbcmbcoffdlaaSlotsOnceQ7
import Derived.Test.YtbpbcmbcoffdlaaSlotsOnceQ8
import Derived.Test.YtbpbcmbcoffdlaaSlotsOnceQ5
import Derived.Test.YtbpbcmbcoffdlaaSlotsOnceQ6
import Derived.Test.YtbpbcmbcoffdlaaSlotsOnceQ2
import Derived.Lib.SmallJoins
import Derived.Test.YtbpbcmbcoffdlaaSlotsOnceQ0
import Derived.Deep.QuietTactic
import Derived.BigQuiet
namespace Go.Proofs.Ytbpbcmbcoffdlaa
structure SI (g : GT) : Prop where
  pc : ∀ k x, g.s k = some x → prepS g.f x = true → certIn g.view x = true
  cv : ∀ k x c, g.s k = some x → x.cert = some c → c.view ≤ g.view ∧ (c.view = g.view → x.has = true ∧ c.sum = x.sum)
def CLe (x x' : ST) : Prop := ∀ c, x.cert = some c → ∃ c', x'.cert = some c' ∧ c.view ≤ c'.view ∧ (c.view = c'.view → c.sum = c'.sum)
theorem CLe.refl (x : ST) : CLe x x := fun c h => ⟨c, h, Nat.le_refl _, fun _ => rfl⟩
theorem CLe.eq {x x' : ST} (h : x'.cert = x.cert) : CLe x x' := fun c hc => ⟨c, by rw [h]; exact hc, Nat.le_refl _, fun _ => rfl⟩
structure Step (g g' : GT) : Prop where
  f : g'.f = g.f
  low : g.low ≤ g'.low
  view : g.view ≤ g'.view
  c : ∀ k x, g.s k = some x → x.cert.isSome = true → g'.low < k → ∃ x', g'.s k = some x' ∧ CLe x x'
theorem Step.refl (g : GT) : Step g g := ⟨rfl, Nat.le_refl _, Nat.le_refl _, fun _ x h _ _ => ⟨x, h, CLe.refl x⟩⟩
theorem certIn_iff {v : Nat} {x : ST} : certIn v x = true ↔ ∃ c, x.cert = some c ∧ c.view = v := by
  unfold certIn cvw
  cases x.cert with
  | none => simp
  | some c => simp
theorem certS_cases (f v : Nat) (x : ST) : (certS f v x = x ∧ (prepS f x = true → certIn v x = true)) ∨ (certS f v x = { x with cert := some ⟨v, x.sum, x.pre :: (prfV x.sum 0 x.pv).take (2 * f)⟩ } ∧ certIn v x = false ∧ prepS f x = true) := by
  unfold certS
  cases h1 : certIn v x with
  | true => exact .inl ⟨by simp, fun _ => rfl⟩
  | false =>
    cases h2 : prepS f x with
    | false => exact .inl ⟨by simp, fun h => by cases h⟩
    | true => exact .inr ⟨by simp, rfl, rfl⟩
structure SO (f v : Nat) (x : ST) : Prop where
  pc : prepS f x = true → certIn v x = true
  cv : ∀ c, x.cert = some c → c.view ≤ v ∧ (c.view = v → x.has = true ∧ c.sum = x.sum)
theorem SO.new (f v : Nat) : SO f v newST := ⟨fun h => (by simp [prepS, newST] at h), fun _ h => (by cases h)⟩
theorem SI.at {g : GT} (h : SI g) (k : Nat) : SO g.f g.view (g.slot k) := by
  unfold GT.slot
  cases hs : g.s k with
  | none => exact SO.new _ _
  | some x => exact ⟨h.pc k x hs, fun c hc => h.cv k x c hs hc⟩
theorem SO.cert {f v : Nat} {x y : ST} (h : SO f v x) (hc : y.cert = x.cert) (hh : x.has = true → y.has = true ∧ y.sum = x.sum) : SO f v (certS f v y) := by
  have base : ∀ c, y.cert = some c → c.view ≤ v ∧ (c.view = v → y.has = true ∧ c.sum = y.sum) := fun c e => by
    rw [hc] at e
    obtain ⟨h1, h2⟩ := h.cv c e
    refine ⟨h1, fun q => ?_⟩
    obtain ⟨h3, h4⟩ := h2 q
    obtain ⟨h5, h6⟩ := hh h3
    exact ⟨h5, h4.trans h6.symm⟩
  rcases certS_cases f v y with ⟨e, h1⟩ | ⟨e, h1, h2⟩
  · rw [e]
    exact ⟨h1, base⟩
  · rw [e]
    refine ⟨fun _ => certIn_iff.2 ⟨_, rfl, rfl⟩, fun c q => ?_⟩
    obtain rfl := Option.some.inj q
    refine ⟨Nat.le_refl _, fun _ => ⟨?_, rfl⟩⟩
    unfold prepS at h2
    simp only [Bool.and_eq_true] at h2
    exact h2.1
theorem certS_le {f v : Nat} {x y : ST} (h : SO f v x) (hc : y.cert = x.cert) : CLe x (certS f v y) := by
  rcases certS_cases f v y with ⟨e, h1⟩ | ⟨e, h1, h2⟩
  · rw [e]
    exact CLe.eq hc
  · rw [e]
    intro c q
    refine ⟨_, rfl, (h.cv c q).1, fun q2 => ?_⟩
    have : certIn v y = true := certIn_iff.2 ⟨c, hc.trans q, q2⟩
    rw [h1] at this
    cases this
theorem SI.put {g : GT} (h : SI g) (k : Nat) {y : ST} (hy : SO g.f g.view y) : SI (g.put k y) := by
  refine ⟨fun j x hx => ?_, fun j x c hx => ?_⟩
  · by_cases e : j = k
    · subst e
      rw [g.put_same] at hx
      obtain rfl := Option.some.inj hx
      exact hy.pc
    · rw [g.put_other _ _ e] at hx
      exact h.pc j x hx
  · by_cases e : j = k
    · subst e
      rw [g.put_same] at hx
      obtain rfl := Option.some.inj hx
      exact hy.cv c
    · rw [g.put_other _ _ e] at hx
      exact h.cv j x c hx
theorem Step.put {g : GT} (k : Nat) {y : ST} (hy : CLe (g.slot k) y) : Step g (g.put k y) := by
  refine ⟨rfl, Nat.le_refl _, Nat.le_refl _, fun j x hx _ _ => ?_⟩
  by_cases e : j = k
  · subst e
    refine ⟨y, g.put_same _ _, ?_⟩
    have : g.slot j = x := by unfold GT.slot; rw [hx]; rfl
    rw [this] at hy
    exact hy
  · exact ⟨x, (g.put_other _ _ e).trans hx, CLe.refl x⟩
theorem addV_same {f : Nat} {l : List VT} {fr : Nat} {v : VT} (h : (addV f l fr v).2 ≠ 0) : (addV f l fr v).1 = l := by
  unfold addV at h ⊢
  repeat' split
  all_goals first | rfl | (exfalso; simp_all)
theorem SO.par {f v : Nat} {x : ST} (h : SO f v x) (l : List VT) (hl : l = x.pv) : SO f v { x with pv := l } := by
  subst hl
  exact h
theorem SO.com {f v : Nat} {x : ST} (h : SO f v x) (l : List VT) : SO f v { x with cv := l } := ⟨h.pc, h.cv⟩
theorem pre_inv {g : GT} (h : SI g) (sv : SV) (seq : Nat) (sum : ByteArray) : SI (preG g sv seq sum).1 ∧ Step g (preG g sv seq sum).1 := by
  unfold preG
  split
  · exact ⟨h, Step.refl g⟩
  split
  · exact ⟨h, Step.refl g⟩
  split
  · exact ⟨h.put seq (h.at seq), Step.put seq (CLe.refl _)⟩
  · rename_i hn
    exact ⟨h.put seq ((h.at seq).cert rfl fun e => absurd e hn), Step.put seq (certS_le (h.at seq) rfl)⟩
theorem par_inv {g : GT} (h : SI g) (sv : SV) (seq : Nat) (sum : ByteArray) : SI (parG g sv seq sum).1 ∧ Step g (parG g sv seq sum).1 := by
  unfold parG
  split
  · exact ⟨h, Step.refl g⟩
  split
  · exact ⟨h, Step.refl g⟩
  split
  · rename_i hn
    exact ⟨h.put seq ((h.at seq).par _ (addV_same hn)), Step.put seq (CLe.eq rfl)⟩
  · exact ⟨h.put seq ((h.at seq).cert rfl fun e => ⟨e, rfl⟩), Step.put seq (certS_le (h.at seq) rfl)⟩
theorem com_inv {g : GT} (h : SI g) (sv : SV) (seq : Nat) (sum : ByteArray) : SI (comG g sv seq sum).1 ∧ Step g (comG g sv seq sum).1 := by
  unfold comG
  split
  · exact ⟨h, Step.refl g⟩
  · exact ⟨h.put seq ((h.at seq).com _), Step.put seq (CLe.eq rfl)⟩
theorem ent_inv {g : GT} (h : SI g) (v : Nat) : SI (entG g v).1 ∧ Step g (entG g v).1 := by
  unfold entG
  split
  · exact ⟨h, Step.refl g⟩
  split
  · exact ⟨h, Step.refl g⟩
  · rename_i h1 h2
    have inv : ∀ k x, (g.s k).bind turnS = some x → ∃ y, g.s k = some y ∧ y.cert.isSome = true ∧ x = { newST with cert := y.cert } := fun k x hx => by
      cases hs : g.s k with
      | none => rw [hs] at hx; cases hx
      | some y =>
        rw [hs] at hx
        have hx : turnS y = some x := hx
        unfold turnS at hx
        split at hx
        · rename_i hc
          exact ⟨y, rfl, hc, (Option.some.inj hx).symm⟩
        · cases hx
    refine ⟨⟨fun k x hx hp => ?_, fun k x c hx hc => ?_⟩, ⟨rfl, Nat.le_refl _, Nat.le_of_lt (Nat.lt_of_not_le h2), fun k x hx hc _ => ⟨{ newST with cert := x.cert }, ?_, CLe.eq rfl⟩⟩⟩
    · obtain ⟨y, _, _, rfl⟩ := inv k x hx
      cases hp
    · obtain ⟨y, h3, h4, rfl⟩ := inv k x hx
      have h5 := (h.cv k y c h3 hc).1
      have h6 := Nat.lt_of_not_le h2
      exact ⟨by show c.view ≤ v; omega, fun e => by have e : c.view = v := e; omega⟩
    · show (g.s k).bind turnS = _
      rw [hx]
      show turnS x = _
      unfold turnS
      rw [if_pos hc]
theorem adv_inv {g : GT} (h : SI g) (l : Nat) : SI (advG g l).1 ∧ Step g (advG g l).1 := by
  unfold advG
  split
  · exact ⟨h, Step.refl g⟩
  · rename_i h1
    have inv : ∀ k x, (if k ≤ l then none else g.s k) = some x → g.s k = some x := fun k x hx => by
      split at hx
      · cases hx
      · exact hx
    refine ⟨⟨fun k x hx hp => h.pc k x (inv k x hx) hp, fun k x c hx hc => h.cv k x c (inv k x hx) hc⟩, ⟨rfl, by show g.low ≤ l; omega, Nat.le_refl _, fun k x hx _ hk => ⟨x, ?_, CLe.refl x⟩⟩⟩
    have hk : l < k := hk
    show (if k ≤ l then none else g.s k) = some x
    rw [if_neg (by omega)]
    exact hx
theorem one_inv {g : GT} (h : SI g) (o : OA) : SI (oneG g o).1 ∧ Step g (oneG g o).1 := by
  unfold oneG
  repeat' split
  · exact pre_inv h _ _ _
  · exact par_inv h _ _ _
  · exact com_inv h _ _ _
  · exact ent_inv h _
  · exact adv_inv h _
  · exact ⟨h, Step.refl g⟩
theorem newG_inv (f : Nat) : SI (newG f) := ⟨fun _ _ h => (by cases h), fun _ _ _ h => (by cases h)⟩
open Go.RowKit
theorem sl_mark15 (w : World) (c : Int) (h : 0 ≤ c ∧ c ≤ 255) : Sl (w.alloc (.cells #[.int .u8 c] 5 (1, 2))) (some ⟨w.heap.size, 0, none⟩) 1 1 [c] := by
  refine ⟨rfl, Nat.le_refl _, by decide, fun h => by simp at h, fun a ha i hi => ?_, fun x hx => by simp at hx; omega⟩
  obtain rfl := Option.some.inj ha
  obtain rfl : i = 0 := by omega
  rw [Addr.add_lit, World.cell?_alloc_mark]
  rfl
theorem LG.made {w w' : World} {f : Nat} (h1 : 1 ≤ f) (h4 : f ≤ 4) (hL : LC w' (w.heap.size + 1) f 0 0 w.heap.size) (hM : MF w' 30 w.heap.size 0 (fun _ => none)) :
    LG w' w.heap.size (w.heap.size + 1) w.heap.size 0 (newG f) (fun _ => none) (fun _ => ⟨0, 0, 0, ⟨0, ⟨none, 0, 0, []⟩, ⟨none, 0, 0, []⟩⟩, none, 0, 0, []⟩) (fun z => if z = w.heap.size + 1 then 1 else if z = w.heap.size then 2 else 0) where
  f1 := h1
  f4 := h4
  lowz := Nat.zero_le _
  viewz := Nat.zero_le _
  lc := hL
  mf := hM
  here := fun _ _ h => by cases h
  win := fun _ _ h => by cases h
  no := fun _ h => absurd rfl h
  rL := if_pos rfl
  rM := by rw [if_neg (by omega), if_pos rfl]
  ro := fun _ _ h => by cases h
  lo := fun z hz => by rw [if_neg (by omega), if_neg (by omega)]
def svE (a : Nat) : SV := ⟨a, [], []⟩
def saE (a : Nat) : SA := ⟨a, ⟨none, 0, 0, []⟩, ⟨none, 0, 0, []⟩⟩
theorem saE_ok (w : World) (a : Nat) (h : a < 18446744073709551616) : (saE a).ok w := ⟨h, Sl.nothing w, Sl.nothing w⟩
theorem saE_blk (a z : Nat) : ¬ (saE a).blk z := by
  rintro (⟨b, h, _⟩ | ⟨b, h, _⟩) <;> cases h
def xx : ByteArray := strOfNums [120]
def gA : GT := (preG (newG 1) (svE 1) 1 xx).1
def gB : GT := (parG gA (svE 2) 1 xx).1
def gC : GT := (parG gB (svE 3) 1 xx).1
theorem al1 : (preG (newG 1) (svE 1) 1 xx).2 = 0 := by decide
theorem al2 : (parG gA (svE 2) 1 xx).2 = 0 := by decide
theorem al3 : preO gB 1 = false := by decide
theorem al4 : (parG gB (svE 3) 1 xx).2 = 0 := by decide
theorem al5 : preO gC 1 = true := by decide
theorem al6 : (certsG gC).length = 1 := by decide
set_option maxRecDepth 100000 in
set_option maxHeartbeats 4000000 in
theorem alive15 (w : World) : Calls Try.prog 10 #[] w fun e w' => e = .returned (.bool true) ∧ Below w.heap.size w w' := by
  have kc := fun (w : World) (C : Array Value) (n c g : Nat) (hg : g = w.heap.size) => Joins.run_convert_bytes_const_at (P := Try.prog) w 35 5 C n c g hg Try.underlying35 Try.underlying5
  have CN := slNew_good w 1 (by omega) (by omega)
  go_enter Try.func10, Try.ntmps10
  go_wp2_with fail
  refine CN.mono ?_
  rintro x w1 ⟨rfl, hL, hM, C1⟩
  have K1 := LG.made (by omega) (by omega) hL hM
  clear CN hL hM
  have D2 : Below w1.heap.size w1 (w1.alloc (.cells #[.int .u8 120] 5 (1, 2))) := (Below.refl _ _).alloc (Nat.le_refl _) _
  obtain ⟨K2, T2⟩ := K1.below D2
  have CA := pre_any _ _ _ _ _ _ _ _ _ K2 (by decide) (saE 1) (saE_ok _ 1 (by omega)) (fun z hz => absurd hz (saE_blk 1 z)) ⟨by decide, by decide⟩ 1 (by omega) _ 1 1 [120] (sl_mark15 w1 120 (by omega)) (fun z ⟨a, ha, _, e⟩ => by cases ha; rw [← e]; exact rho_new (Nat.le_refl _)) (by omega)
  unfold MsgPost at CA
  rw [show (saE 1).v = svE 1 from rfl, show strOfNums [120] = xx from rfl, al1] at CA
  go_wp2_with fail
  refine CA.mono ?_
  rintro x w3 ⟨n3, F3, B3, ρ3, rfl, K3, T3, h3⟩
  have E3 := (C1.trans T2.bel).trans T3.bel
  clear CA K1 K2 D2 T2 T3 C1
  change LG w3 _ _ _ _ gA _ _ _ at K3
  have D4 : Below w3.heap.size w3 (w3.alloc (.cells #[.int .u8 120] 5 (1, 2))) := (Below.refl _ _).alloc (Nat.le_refl _) _
  obtain ⟨K4, T4⟩ := K3.below D4
  have CA := prepare_any _ _ _ _ _ _ _ _ _ K4 (by unfold maxLen; omega) (saE 2) (saE_ok _ 2 (by omega)) (fun z hz => absurd hz (saE_blk 2 z)) ⟨by decide, by decide⟩ 1 (by omega) _ 1 1 [120] (sl_mark15 w3 120 (by omega)) (fun z ⟨a, ha, _, e⟩ => by cases ha; rw [← e]; exact rho_new (Nat.le_refl _)) (by omega)
  unfold MsgPost at CA
  rw [show (saE 2).v = svE 2 from rfl, show strOfNums [120] = xx from rfl, al2] at CA
  go_wp2_with fail
  refine CA.mono ?_
  rintro x w5 ⟨n5, F5, B5, ρ5, rfl, K5, T5, h5⟩
  have E5 := (E3.trans T4.bel).trans T5.bel
  clear CA K3 K4 D4 T4 T5 E3
  change LG w5 _ _ _ _ gB _ _ _ at K5
  have CP := prep_any15 _ _ _ _ _ _ _ _ _ K5 1 (by omega)
  rw [al3] at CP
  go_wp2_with fail
  refine CP.mono ?_
  rintro x w6 ⟨rfl, C6⟩
  obtain ⟨K6, T6⟩ := K5.below C6
  have D7 : Below w6.heap.size w6 (w6.alloc (.cells #[.int .u8 120] 5 (1, 2))) := (Below.refl _ _).alloc (Nat.le_refl _) _
  obtain ⟨K7, T7⟩ := K6.below D7
  have CA := prepare_any _ _ _ _ _ _ _ _ _ K7 (by unfold maxLen; omega) (saE 3) (saE_ok _ 3 (by omega)) (fun z hz => absurd hz (saE_blk 3 z)) ⟨by decide, by decide⟩ 1 (by omega) _ 1 1 [120] (sl_mark15 w6 120 (by omega)) (fun z ⟨a, ha, _, e⟩ => by cases ha; rw [← e]; exact rho_new (Nat.le_refl _)) (by omega)
  unfold MsgPost at CA
  rw [show (saE 3).v = svE 3 from rfl, show strOfNums [120] = xx from rfl, al4] at CA
  have E7 := (E5.trans T6.bel).trans T7.bel
  clear CP K5 C6 K6 D7 T6 T7 E5
  go_wp2_with fail
  refine CA.mono ?_
  rintro x w8 ⟨n8, F8, B8, ρ8, rfl, K8, T8, h8⟩
  change LG w8 _ _ _ _ gC _ _ _ at K8
  have E8 := E7.trans T8.bel
  have CP := prep_any15 _ _ _ _ _ _ _ _ _ K8 1 (by omega)
  rw [al5] at CP
  clear CA K7 T8 E7
  go_wp2_with fail
  refine CP.mono ?_
  rintro x w9 ⟨rfl, C9⟩
  obtain ⟨K9, T9⟩ := K8.below C9
  have E9 := E8.trans T9.bel
  have CC := certs_any15 _ _ _ _ _ _ _ _ _ K9 (by omega)
  clear CP K8 C9 K9 T9 E8
  unfold CertsPost at CC
  rw [al6] at CC
  have HS := E9.size
  go_wp2_with (go_at_call 15; refine CC.mono ?_; rintro e w10 ⟨ao, cap, ls, rfl, -, -, C10⟩)
  go_ret
  exact ⟨rfl, E9.trans (C10.mono HS)⟩
end Go.Proofs.Ytbpbcmbcoffdlaa
namespace Go.Proofs.Ytbpbcmbcoffdlaa
open Go.RowKit
def LT (w0 : World) (L M n : Nat) (g : GT) (w : World) : Prop := ∃ n' F B ρ, n' ≤ n ∧ LG w w0.heap.size L M n' g F B ρ ∧ Below w0.heap.size w0 w
section
variable {w0 w w' : World} {L M n : Nat} {g : GT}
theorem LT.below (h : LT w0 L M n g w) (hb : Below w.heap.size w w') : LT w0 L M n g w' := by
  obtain ⟨n', F, B, ρ, h1, h2, h3⟩ := h
  obtain ⟨h4, h5⟩ := h2.below hb
  exact ⟨n', F, B, _, h1, h4, h3.trans h5.bel⟩
theorem LT.bel (h : LT w0 L M n g w) : Below w0.heap.size w0 w := by
  obtain ⟨_, _, _, _, _, _, h3⟩ := h
  exact h3
theorem LT.win (h : LT w0 L M n g w) : ∀ k x, g.s k = some x → g.low < k ∧ k ≤ g.low + 8 := by
  obtain ⟨_, _, _, _, _, h2, _⟩ := h
  exact h2.win
theorem LT.out (h : LT w0 L M n g w) {k : Nat} (hk : k ≤ g.low ∨ g.low + 8 < k) : sumO g k = none ∧ preO g k = false ∧ crtO g k = none := by
  have e : g.s k = none := by
    cases hx : g.s k with
    | none => rfl
    | some x =>
      have := h.win k x hx
      omega
  unfold sumO preO crtO
  rw [e]
  exact ⟨rfl, rfl, rfl⟩
theorem LT.viewC (h : LT w0 L M n g w) : Calls Try.prog 22 #[.pointer (some ⟨L, 0, none⟩)] w fun x w' => x = .returned (.int .u64 (g.view : Nat)) ∧ w' = w := by
  obtain ⟨_, _, _, _, _, h2, _⟩ := h
  exact slView_log w L _ _ _ M h2.lc
theorem LT.comC (h : LT w0 L M n g w) (seq : Nat) (hs : seq < 18446744073709551616) : Calls Try.prog 19 #[.pointer (some ⟨L, 0, none⟩), .int .u64 (seq : Nat)] w (RetO w (comO g seq)) := by
  obtain ⟨_, F, B, ρ, _, h2, _⟩ := h
  exact comm_any15 w _ L M _ g F B ρ h2 seq hs
theorem LT.preC (h : LT w0 L M n g w) (seq : Nat) (hs : seq < 18446744073709551616) : Calls Try.prog 20 #[.pointer (some ⟨L, 0, none⟩), .int .u64 (seq : Nat)] w fun e w' => e = .returned (.bool (preO g seq)) ∧ Below w.heap.size w w' := by
  obtain ⟨_, F, B, ρ, _, h2, _⟩ := h
  exact prep_any15 w _ L M _ g F B ρ h2 seq hs
end
theorem OX.below {V V' : World} {b p : Nat} {o : OA} (h : OX V b p o) (hb : Below V.heap.size V V') : OX V' b p o :=
  ⟨(hb.cell (World.block_lt_of_cell? _ _ h.c0)).trans h.c0, (hb.cell (World.block_lt_of_cell? _ _ h.c1)).trans h.c1, (hb.cell (World.block_lt_of_cell? _ _ h.c2)).trans h.c2, (hb.cell (World.block_lt_of_cell? _ _ h.c3)).trans h.c3⟩
theorem crt_step {g g' : GT} (h : Step g g') {seq : Nat} {c : CT} (hc : crtO g seq = some c) (hl : g'.low < seq) : ∃ c', crtO g' seq = some c' ∧ c.view ≤ c'.view ∧ (c.view = c'.view → c.sum = c'.sum) := by
  unfold crtO at hc
  cases hx : g.s seq with
  | none => rw [hx] at hc; cases hc
  | some x =>
    rw [hx] at hc
    have hc : x.cert = some c := hc
    obtain ⟨x', h1, h2⟩ := h.c seq x hx (by rw [hc]; rfl) hl
    obtain ⟨c', h3, h4, h5⟩ := h2 c hc
    refine ⟨c', ?_, h4, h5⟩
    unfold crtO
    rw [h1]
    exact h3
end Go.Proofs.Ytbpbcmbcoffdlaa
namespace Go.Proofs.Ytbpbcmbcoffdlaa
open Go.RowKit
def LU (w0 : World) (L M n : Nat) (g : GT) (ρ : Nat → Nat) (w : World) : Prop := ∃ n' F B, n' ≤ n ∧ LG w w0.heap.size L M n' g F B ρ ∧ Below w0.heap.size w0 w
section
variable {w0 w w' : World} {L M n : Nat} {g : GT} {ρ : Nat → Nat}
theorem LU.lt (h : LU w0 L M n g ρ w) : LT w0 L M n g w := by
  obtain ⟨n', F, B, h1, h2, h3⟩ := h
  exact ⟨n', F, B, ρ, h1, h2, h3⟩
theorem LU.below (h : LU w0 L M n g ρ w) (hb : Below w.heap.size w w') : LU w0 L M n g (rho w ρ) w' := by
  obtain ⟨n', F, B, h1, h2, h3⟩ := h
  obtain ⟨h4, h5⟩ := h2.below hb
  exact ⟨n', F, B, h1, h4, h3.trans h5.bel⟩
theorem LU.bel (h : LU w0 L M n g ρ w) : Below w0.heap.size w0 w := h.lt.bel
theorem LU.oneC (h : LU w0 L M n g ρ w) (hn : n < maxLen) (o : OA) (ok : o.ok w0) (hz : o.b.n ≤ 1000000) :
    Calls Try.prog 12 #[.pointer (some ⟨L, 0, none⟩), .agg #[.int .i64 o.k, .int .u64 (o.fr : Nat), .int .u64 (o.seq : Nat), .slice o.b.ao o.b.n o.b.cap]] w fun e w' => e = .returned (.int .i64 (oneG g o).2) ∧ ∃ ρ', LU w0 L M (n + 1) (oneG g o).1 ρ' w' ∧ Stp w0.heap.size w w' ρ ρ' := by
  obtain ⟨n', F, B, h1, h2, h3⟩ := h
  refine (one_any w _ L M n' g F B ρ h2 (by omega) o (elO_fine.kept o w0 w ok fun z hz => h3.block z (elO_fine.lt o w0 z ok hz)) (fun z hz => h2.lo z (elO_fine.lt o w0 z ok hz)) hz).mono ?_
  rintro e w' ⟨n5, F5, B5, ρ5, rfl, K5, T5, h5⟩
  exact ⟨rfl, ρ5, ⟨n5, F5, B5, by omega, K5, h3.trans T5.bel⟩, T5⟩
theorem LU.base0 (h : LU w0 L M n g ρ w) : w0.heap.size ≤ w.heap.size := h.bel.size
theorem LU.app (h : LU w0 L M n g ρ w) {v v' : Value} (hg : w.grownBy w' v.ownBlock) (hr : ∀ z, v.ownBlock = some z → ρ z = 3) (hv : ∀ z, v'.ownBlock = some z → v.ownBlock = some z ∨ w.heap.size ≤ z) :
    ∃ ρ', LU w0 L M n g ρ' w' ∧ (∀ z, v'.ownBlock = some z → ρ' z = 3) ∧ (∀ z, z < w.heap.size → ρ' z = ρ z) := by
  obtain ⟨n', F, B, h1, h2, h3⟩ := h
  have hbs : w0.heap.size ≤ w.heap.size := h3.size
  have bl : ∀ z, z < w.heap.size → ρ z ≠ 3 → w'.heap[z]? = w.heap[z]? := fun z hz hn => hg.block z hz fun e => hn (hr z e.symm)
  have ex : ∃ ρ' : Nat → Nat, ρ' = fun z => if z < w.heap.size then ρ z else if v'.ownBlock = some z then 3 else 0 := ⟨_, rfl⟩
  obtain ⟨ρ', hρ⟩ := ex
  have old : ∀ z, z < w.heap.size → ρ' z = ρ z := fun z hz => by rw [hρ]; exact if_pos hz
  refine ⟨ρ', ⟨n', F, B, h1, { h2 with lc := ?_, mf := ?_, here := fun j y hy => ?_, rL := (old _ h2.Llt).trans h2.rL, rM := (old _ h2.mf.lt).trans h2.rM, ro := fun j y hy => ?_, lo := fun z hz => (old z (by omega)).trans (h2.lo z hz) }, ?_⟩, fun z hz => ?_, old⟩
  · exact (bl L h2.Llt (by rw [h2.rL]; omega)).trans h2.lc
  · exact h2.mf.same (bl M h2.mf.lt (by rw [h2.rM]; omega))
  · obtain ⟨a1, a2⟩ := h2.here j y hy
    obtain ⟨r1, r2, r3, r4⟩ := h2.ro j y hy
    exact ⟨a1, a2.keep (bl _ a2.lt (by rw [r1]; omega)) (bl _ a2.P.lt (by rw [r2]; omega)) (bl _ a2.Q.lt (by rw [r3]; omega)) fun z hz => bl z (a2.imm_lt hz) (by rw [r4 z hz]; omega)⟩
  · obtain ⟨a1, a2⟩ := h2.here j y hy
    obtain ⟨r1, r2, r3, r4⟩ := h2.ro j y hy
    exact ⟨(old _ a2.lt).trans r1, (old _ a2.P.lt).trans r2, (old _ a2.Q.lt).trans r3, fun z hz => (old z (a2.imm_lt hz)).trans (r4 z hz)⟩
  · exact h3.grown hg hbs fun k hk => Nat.le_of_not_lt fun hl => by
      have e1 := hr k hk
      have e2 := h2.lo k hl
      omega
  · by_cases hl : z < w.heap.size
    · rw [old z hl]
      rcases hv z hz with c | c
      · exact hr z c
      · omega
    · rw [hρ]
      show (if z < w.heap.size then ρ z else if v'.ownBlock = some z then 3 else 0) = 3
      rw [if_neg hl, if_pos hz]
end
theorem LU.made {w w' : World} {f : Nat} (h1 : 1 ≤ f) (h4 : f ≤ 4) (hL : LC w' (w.heap.size + 1) f 0 0 w.heap.size) (hM : MF w' 30 w.heap.size 0 (fun _ => none)) (hb : Below w.heap.size w w') : LU w (w.heap.size + 1) w.heap.size 0 (newG f) (fun z => if z = w.heap.size + 1 then 1 else if z = w.heap.size then 2 else 0) w' :=
  ⟨0, _, _, Nat.le_refl _, LG.made h1 h4 hL hM, hb⟩
theorem GI.app2 {α : Type} {E : El α} {t s : TypeId} {W : World} {base : Nat} {v : Value} {ys : List α} (F : E.Fine) {bytes : Nat} {z : Value} (hty : GTy E.sz bytes z t s) (h : GI E t W base v ys) (ty : TypeId) {a : Addr} {cp : Nat} {y : α} (hG : ∀ j u, (E.c y)[j]? = some u → W.cell? (a.add j) = some u) (he : E.ok y W) (hf : ∀ x, E.blk y x → v.ownBlock ≠ some x) (hn : (ys.length + 1) * bytes ≤ 140737488355328) (hm : ys.length + 1 ≤ maxLen) (hbase : base ≤ W.heap.size) :
    ∃ v' W1, (Builtin.append_ #[s, s] ty #[v, .slice (some a) 1 cp]).run Try.prog W = .ok v' W1 ∧ GI E t W1 base v' (ys ++ [y]) ∧ W.grownBy W1 v.ownBlock ∧ ∀ x, v'.ownBlock = some x → v.ownBlock = some x ∨ W.heap.size ≤ x := by
  obtain ⟨i0, hi, hz0, hz1, hz2⟩ := info_parts hty.info
  obtain ⟨v', W1, hr, ho, hg, ha⟩ := run_append_own2 (P := Try.prog) W base s ty t i0 _ E.sz bytes hty.und hi hz0 hz1 hz2 hty.zs F.pos v ys.length ((ys.map E.c).flatten) h.own a 1 cp (E.c y) (by rw [F.len, Nat.one_mul]) hG (F.one y) hm hn hbase
  have hown : W1.ownsRow base t E.sz v' (ys ++ [y]).length (((ys ++ [y]).map E.c).flatten) := by
    have e1 : ((ys ++ [y]).map E.c).flatten = (ys.map E.c).flatten ++ E.c y := by simp
    rw [e1, List.length_append]
    exact ho
  have key : ∀ z : α, E.ok z W → (∀ x, E.blk z x → v.ownBlock ≠ some x) → E.ok z W1 ∧ ∀ x, E.blk z x → v'.ownBlock ≠ some x := fun z hz hzf => ⟨F.kept z W W1 hz fun x hx => hg.block x (F.lt z W x hz hx) (fun e => hzf x hx e.symm), fun x hx e => by
    rcases ha x e with c | c
    · exact hzf x hx c
    · have := F.lt z W x hz hx
      omega⟩
  refine ⟨v', W1, hr, ⟨hown, fun z hz => ?_, fun z hz => ?_⟩, hg, ha⟩
  · rcases List.mem_append.1 hz with hz | hz
    · exact (key z (h.ok z hz) (h.far z hz)).1
    · rw [List.mem_singleton.1 hz]; exact (key y he hf).1
  · rcases List.mem_append.1 hz with hz | hz
    · exact (key z (h.ok z hz) (h.far z hz)).2
    · rw [List.mem_singleton.1 hz]; exact (key y he hf).2
structure WA where
  v : Nat
  q : Nat
  b : Bs
def WA.cells (x : WA) : List Value := [.int .u64 (x.v : Nat), .int .u64 (x.q : Nat), .slice x.b.ao x.b.n x.b.cap]
def elW : El WA := ⟨WA.cells, 3, fun x w => Sl w x.b.ao x.b.n x.b.cap x.b.xs, fun x z => x.b.blk z⟩
theorem elW_fine : elW.Fine := by
  refine ⟨fun _ => rfl, by decide, fun x u hu => ?_, fun x w w' h hk => Sl.kept h fun z hz => hk z hz, fun x w z h hz => Sl.blk_lt h hz⟩
  have hu : u ∈ x.cells := hu
  unfold WA.cells at hu
  simp only [List.mem_cons, List.not_mem_nil, or_false] at hu
  rcases hu with rfl | rfl | rfl <;> rfl
theorem tyW : GTy elW.sz 40 (.agg #[.int .u64 0, .int .u64 0, .slice none 0 0]) 58 49 := ⟨by kernel_rfl, rfl, Try.underlying49⟩
structure WX (V : World) (b p : Nat) (x : WA) : Prop where
  c0 : V.cell? ⟨b, p, none⟩ = some (.int .u64 (x.v : Nat))
  c1 : V.cell? ⟨b, p + 1, none⟩ = some (.int .u64 (x.q : Nat))
  c2 : V.cell? ⟨b, p + 2, none⟩ = some (.slice x.b.ao x.b.n x.b.cap)
theorem GL.atW {w : World} {ao : Option Addr} {n cap : Nat} {l : List WA} (h : GL elW w ao n cap l) (hn : 0 < n) :
    ∃ b off, ao = some ⟨b, off, none⟩ ∧ ∀ i (hi : i < l.length), WX w b (off + i * 3) l[i] := by
  obtain ⟨b, off, e, k⟩ := h.pl elW_fine hn
  exact ⟨b, off, e, fun i hi => ⟨k i hi 0 _ rfl, k i hi 1 _ rfl, k i hi 2 _ rfl⟩⟩
def Met (g : GT) (ys : List WA) : Prop := ∀ y ∈ ys, y.q ≤ g.low ∨ ∃ c, crtO g y.q = some c ∧ y.v ≤ c.view ∧ (y.v = c.view → sb c.sum = y.b.xs)
theorem Met.step {g g' : GT} {ys : List WA} (h : Met g ys) (s : Step g g') : Met g' ys := fun y hy => by
  have := s.low
  rcases h y hy with h1 | ⟨c, h1, h2, h3⟩
  · exact .inl (by omega)
  · by_cases hl : g'.low < y.q
    · obtain ⟨c', h4, h5, h6⟩ := crt_step s h1 hl
      exact .inr ⟨c', h4, by omega, fun e => by rw [← h6 (by omega)]; exact h3 (by omega)⟩
    · exact .inl (by omega)
theorem Met.add {g : GT} {ys : List WA} (h : Met g ys) {y : WA} {c : CT} (h1 : crtO g y.q = some c) (h2 : y.v = c.view) (h3 : sb c.sum = y.b.xs) : Met g (ys ++ [y]) := fun x hx => by
  rcases List.mem_append.1 hx with hx | hx
  · exact h x hx
  · rw [List.mem_singleton.1 hx]
    exact .inr ⟨c, h1, by omega, fun _ => h3⟩
theorem once_cases {g : GT} (h : SI g) (seq : Nat) : (crtO g seq = none ∧ comO g seq = none ∧ preO g seq = false) ∨ ∃ c, crtO g seq = some c ∧ c.view ≤ g.view ∧ ((comO g seq = none ∧ preO g seq = false) ∨ (c.view = g.view ∧ preO g seq = true ∧ (comO g seq = none ∨ comO g seq = some c.sum))) := by
  cases hx : g.s seq with
  | none =>
    left
    unfold crtO comO preO
    rw [hx]
    exact ⟨rfl, rfl, rfl⟩
  | some x =>
    have e1 : crtO g seq = x.cert := by unfold crtO; rw [hx]; rfl
    have e2 : comO g seq = if commS g.f x = true then some x.sum else none := by unfold comO; rw [hx]; rfl
    have e3 : preO g seq = prepS g.f x := by unfold preO; rw [hx]
    rw [e1, e2, e3]
    cases hp : prepS g.f x with
    | false =>
      have e4 : commS g.f x = false := by unfold commS; rw [hp]; rfl
      rw [e4]
      cases hc : x.cert with
      | none => exact .inl ⟨rfl, rfl, rfl⟩
      | some c => exact .inr ⟨c, rfl, (h.cv seq x c hx hc).1, .inl ⟨rfl, rfl⟩⟩
    | true =>
      obtain ⟨c, hc, hv⟩ := certIn_iff.1 (h.pc seq x hx hp)
      rw [hc]
      refine .inr ⟨c, rfl, (h.cv seq x c hx hc).1, .inr ⟨hv, rfl, ?_⟩⟩
      cases hm : commS g.f x with
      | false => exact .inl rfl
      | true => exact .inr (by rw [((h.cv seq x c hx hc).2 hv).2]; rfl)
section
variable {w0 w : World} {L M n : Nat} {g : GT}
theorem LT.best0 (h : LT w0 L M n g w) (seq : Nat) (hs : seq < 18446744073709551616) (e : crtO g seq = none) : Calls Try.prog 21 #[.pointer (some ⟨L, 0, none⟩), .int .u64 (seq : Nat)] w fun x w' => ∃ ao n cap, x = .returned (.tuple #[.int .u64 0, .slice ao n cap, .bool false]) ∧ Below w.heap.size w w' := by
  obtain ⟨_, F, B, ρ, _, h2, _⟩ := h
  refine (best_new15 w _ L M _ g F B ρ h2 seq hs).mono ?_
  rintro x w' ⟨ao, n, cap, rfl, _, h3, _⟩
  rw [e]
  exact ⟨ao, n, cap, rfl, h3⟩
theorem LT.best1 (h : LT w0 L M n g w) (seq : Nat) (hs : seq < 18446744073709551616) {c : CT} (e : crtO g seq = some c) : Calls Try.prog 21 #[.pointer (some ⟨L, 0, none⟩), .int .u64 (seq : Nat)] w fun x w' => ∃ ao n cap, x = .returned (.tuple #[.int .u64 (c.view : Nat), .slice ao n cap, .bool true]) ∧ Sl w' ao n cap (sb c.sum) ∧ Below w.heap.size w w' ∧ ∀ z, sblk ao n z → w.heap.size ≤ z := by
  obtain ⟨_, F, B, ρ, _, h2, _⟩ := h
  refine (best_new15 w _ L M _ g F B ρ h2 seq hs).mono ?_
  rintro x w' ⟨ao, n, cap, rfl, h3, h4, h5⟩
  rw [e] at h3 ⊢
  exact ⟨ao, n, cap, rfl, h3, h4, h5⟩
theorem LT.com0 (h : LT w0 L M n g w) (seq : Nat) (hs : seq < 18446744073709551616) (e : comO g seq = none) : Calls Try.prog 19 #[.pointer (some ⟨L, 0, none⟩), .int .u64 (seq : Nat)] w fun x w' => ∃ ao n cap, x = .returned (.tuple #[.slice ao n cap, .bool false]) ∧ Below w.heap.size w w' := by
  refine (h.comC seq hs).mono ?_
  rintro x w' ⟨ao, n, cap, rfl, _, h4⟩
  rw [e]
  exact ⟨ao, n, cap, rfl, h4⟩
theorem LT.com1 (h : LT w0 L M n g w) (seq : Nat) (hs : seq < 18446744073709551616) {s : ByteArray} (e : comO g seq = some s) : Calls Try.prog 19 #[.pointer (some ⟨L, 0, none⟩), .int .u64 (seq : Nat)] w fun x w' => ∃ ao n cap, x = .returned (.tuple #[.slice ao n cap, .bool true]) ∧ Sl w' ao n cap (sb s) ∧ Below w.heap.size w w' := by
  refine (h.comC seq hs).mono ?_
  rintro x w' ⟨ao, n, cap, rfl, h3, h4⟩
  rw [e] at h3 ⊢
  exact ⟨ao, n, cap, rfl, h3, h4⟩
theorem LT.preV (h : LT w0 L M n g w) (seq : Nat) (hs : seq < 18446744073709551616) {b : Bool} (e : preO g seq = b) : Calls Try.prog 20 #[.pointer (some ⟨L, 0, none⟩), .int .u64 (seq : Nat)] w fun x w' => x = .returned (.bool b) ∧ Below w.heap.size w w' := by
  rw [← e]
  exact h.preC seq hs
end
end Go.Proofs.Ytbpbcmbcoffdlaa
namespace Go.Proofs.Ytbpbcmbcoffdlaa
open Go.RowKit
structure OB (w0 : World) (L M n : Nat) (g : GT) (ρ : Nat → Nat) (v : Value) (ys : List WA) (w : World) : Prop where
  K : LU w0 L M n g ρ w
  G : GI elW 58 w w0.heap.size v ys
  ro : ∀ z, v.ownBlock = some z → ρ z = 3
  rb : ∀ y ∈ ys, ∀ z, y.b.blk z → ρ z = 0
  met : Met g ys
theorem rho_zero {w : World} {ρ : Nat → Nat} {z : Nat} (h : ρ z = 0) : rho w ρ z = 0 := by
  unfold rho
  rw [h]
  simp
section
variable {w0 w w' : World} {L M n : Nat} {g : GT} {ρ : Nat → Nat} {v : Value} {ys : List WA}
theorem OB.nil (K : LU w0 L M n g ρ w) : OB w0 L M n g ρ (.slice none 0 0) [] w :=
  ⟨K, GI.nil _ _ _ _, fun z hz => (by cases hz), fun _ h => absurd h List.not_mem_nil, fun _ h => absurd h List.not_mem_nil⟩
theorem OB.below (O : OB w0 L M n g ρ v ys w) (hb : Below w.heap.size w w') : OB w0 L M n g (rho w ρ) v ys w' :=
  ⟨O.K.below hb, O.G.below elW_fine hb, fun z hz => (rho_old (O.G.lt elW_fine (.inl hz))).trans (O.ro z hz), fun y hy z hz => rho_zero (O.rb y hy z hz), O.met⟩
theorem OB.one (O : OB w0 L M n g ρ v ys w) {g' : GT} {ρ' : Nat → Nat} {n' : Nat} (K : LU w0 L M n' g' ρ' w') (T : Stp w0.heap.size w w' ρ ρ') (S : Step g g') : OB w0 L M n' g' ρ' v ys w' :=
  ⟨K, O.G.kept elW_fine fun z hz => T.keep z (O.G.lt elW_fine hz) (hz.elim (fun h => .inr (O.ro z h)) fun ⟨y, hy, h⟩ => .inl (O.rb y hy z h)),
   fun z hz => (T.role z (O.G.lt elW_fine (.inl hz))).trans (O.ro z hz), fun y hy z hz => (T.role z (O.G.lt elW_fine (.inr ⟨y, hy, hz⟩))).trans (O.rb y hy z hz), O.met.step S⟩
theorem OB.slice (O : OB w0 L M n g ρ v ys w) : ∃ ao cap, v = .slice ao ys.length cap := O.G.slice
theorem OB.atW {ao : Option Addr} {m cap : Nat} (O : OB w0 L M n g ρ (.slice ao m cap) ys w) (hn : 0 < ys.length) : ∃ b off, ao = some ⟨b, off, none⟩ ∧ ∀ i (hi : i < ys.length), WX w b (off + i * 3) ys[i] := by
  obtain ⟨ao', cap', e, GLx, _⟩ := O.G.gl elW_fine
  simp only [Value.slice.injEq] at e
  obtain ⟨rfl, rfl, rfl⟩ := e
  exact GLx.atW hn
theorem OB.again (O : OB w0 L M n g ρ v ys w) {seq : Nat} {c : CT} (hc : crtO g seq = some c) {y : WA} (hy : y ∈ ys) (h1 : y.v = c.view) (h2 : y.q = seq) : y.b.xs = sb c.sum := by
  rcases O.met y hy with h | ⟨c', h3, _, h4⟩
  · have := (O.K.lt.out (k := seq) (.inl (by omega))).2.2
    rw [hc] at this
    cases this
  · rw [h2, hc] at h3
    obtain rfl := Option.some.inj h3
    exact (h4 h1).symm
theorem OB.app (O : OB w0 L M n g ρ v ys w) (ty : TypeId) {a : Addr} {cp : Nat} {seq : Nat} {c : CT} {bo : Option Addr} {m mc : Nat} (hG : ∀ j u, (elW.c (⟨c.view, seq, ⟨bo, m, mc, sb c.sum⟩⟩ : WA))[j]? = some u → w.cell? (a.add j) = some u) (S : Sl w bo m mc (sb c.sum)) (hf : ∀ z, sblk bo m z → ρ z = 0)
    (hc : crtO g seq = some c) (hn : ys.length ≤ 1000) :
    ∃ v' w' ρ', (Builtin.append_ #[49, 49] ty #[v, .slice (some a) 1 cp]).run Try.prog w = .ok v' w' ∧ OB w0 L M n g ρ' v' (ys ++ [⟨c.view, seq, ⟨bo, m, mc, sb c.sum⟩⟩]) w' := by
  obtain ⟨v', w', h1, h2, h3, h4⟩ := O.G.app2 elW_fine tyW ty (y := ⟨c.view, seq, ⟨bo, m, mc, sb c.sum⟩⟩) hG S (fun x hx e => by
    have e1 := O.ro x e
    have e2 := hf x hx
    omega) (by omega) (by unfold maxLen; omega) O.K.base0
  obtain ⟨ρ', k1, k2, k3⟩ := O.K.app h3 O.ro h4
  refine ⟨v', w', ρ', h1, k1, h2, k2, fun y hy z hz => ?_, O.met.add hc rfl rfl⟩
  rcases List.mem_append.1 hy with hy | hy
  · exact (k3 z (O.G.lt elW_fine (.inr ⟨y, hy, hz⟩))).trans (O.rb y hy z hz)
  · rw [List.mem_singleton.1 hy] at hz
    exact (k3 z (Sl.blk_lt (b := ⟨bo, m, mc, sb c.sum⟩) S hz)).trans (hf z hz)
end
def MetR (w0 : World) (L M n : Nat) (g : GT) (v : Value) (ys : List WA) (ao : Option Addr) (m cap : Nat) (s : ByteArray) (j : Value) (w : World) : Prop := ∃ (jj : Nat) (ρ : Nat → Nat), jj ≤ ys.length ∧ j = .int .i64 (jj : Nat) ∧ OB w0 L M n g ρ v ys w ∧ Sl w ao m cap (sb s) ∧ Hid (∀ z, sblk ao m z → ρ z = 0)
theorem MetR.mk {w0 w : World} {L M n : Nat} {g : GT} {v : Value} {ys : List WA} {ao : Option Addr} {m cap : Nat} {s : ByteArray} {j : Value} (jj : Nat) (ρ : Nat → Nat) (h1 : jj ≤ ys.length) (h2 : j = .int .i64 (jj : Nat)) (h3 : OB w0 L M n g ρ v ys w) (h4 : Sl w ao m cap (sb s)) (h5 : Hid (∀ z, sblk ao m z → ρ z = 0)) : MetR w0 L M n g v ys ao m cap s j w := ⟨jj, ρ, h1, h2, h3, h4, h5⟩
end Go.Proofs.Ytbpbcmbcoffdlaa
namespace Go.Proofs.Ytbpbcmbcoffdlaa
open Go.RowKit
theorem below_drewN (w : World) (q B : Nat) : Below B w (w.drewN q) := ⟨rfl, rfl, rfl, Nat.le_refl _, fun _ _ => rfl⟩
theorem lists_of (n : Nat) (xs ys : List Int) (h1 : xs.length = n) (h2 : ys.length = n) (h : ∀ j, j < n → xs.getD j 0 = ys.getD j 0) : xs = ys := by
  apply List.ext_getElem (by omega)
  intro j hj hj2
  have := h j (by omega)
  simpa [List.getD, hj, hj2] using this
theorem Sl.at {w : World} {ao : Option Addr} {n cap : Nat} {xs : List Int} (h : Sl w ao n cap xs) (hn : 0 < n) :
    ∃ b off, ao = some ⟨b, off, none⟩ ∧ ∀ i, i < n → w.cell? ⟨b, off + i, none⟩ = some (.int .u8 (xs.getD i 0)) := by
  cases ao with
  | none => have := (h.nil rfl).1; omega
  | some a =>
    obtain ⟨b, off, spot⟩ := a
    have hc := h.cell _ rfl 0 hn
    have hs : spot = none := by simpa [Addr.add] using World.cell?_spot hc
    subst hs
    exact ⟨b, off, rfl, fun i hi => by have := h.cell _ rfl i hi; rw [Addr.add_lit] at this; exact this⟩
set_option maxHeartbeats 800000 in
theorem same_any (w : World) (ao bo : Option Addr) (n cap m cap2 : Nat) (xs ys : List Int) (h : Sl w ao n cap xs) (h2 : Sl w bo m cap2 ys) :
    Calls Try.prog 23 #[.slice ao n cap, .slice bo m cap2] w fun e w' =>
      e = .returned (.bool (decide (xs = ys))) ∧ ∃ q, w' = w.drewN q := by
  have hl := h.len
  have hl2 := h2.len
  have hle := h.le
  have hmx := h.mx
  unfold maxLen at hmx
  by_cases hnm : n = m
  · subst hnm
    have hne : ((n : Int) != (n : Int)) = false := by simp
    go_enter Try.func23, Try.ntmps23
    go_wp2
    go_loopw [5] (fun i wr => ∃ k q : Nat, k ≤ n ∧ i = .int .i64 k ∧ wr = w.drewN q ∧ ∀ j, j < k → xs.getD j 0 = ys.getD j 0) (fun i _ => n - (intOf i).toNat)
    case atStart => exact ⟨0, 0, Nat.zero_le _, rfl, rfl, fun j hj => by omega⟩
    case round =>
      obtain ⟨k, q, hk, rfl, rfl, heq⟩ := hrel
      by_cases hlt : k < n
      · obtain ⟨b, off, rfl, hc⟩ := h.at (by omega)
        obtain ⟨b2, off2, rfl, hc2⟩ := h2.at (by omega)
        have c1 := hc k hlt
        have c2 := hc2 k hlt
        have hlt1 : (k : Int) < (n : Int) := by omega
        clear hc hc2
        have k1 : k < xs.length := by omega
        have k2 : k < ys.length := by omega
        by_cases he : xs[k] = ys[k]
        · have hb : (xs[k] != ys[k]) = false := by simp [he]
          have hE : Hid (xs[k] = ys[k]) := he
          clear he
          go_wp2
          go_quiet (fail)
          go_wp2
          go_roundw
          case rel =>
            refine ⟨k + 1, _, by omega, by go_num, rfl, fun j hj => ?_⟩
            by_cases hjk : j < k
            · exact heq j hjk
            · obtain rfl : j = k := by omega
              simpa [List.getD, k1, k2] using hE.out
          case measure => simp [intOf]; omega
        · have hb : (xs[k] != ys[k]) = true := by simp [he]
          have hE : Hid (¬ xs[k] = ys[k]) := he
          clear he
          go_wp2
          go_quiet (fail)
          go_wp2
          go_ret
          have hd : decide (xs = ys) = false := decide_eq_false (fun hx => by subst hx; exact hE.out rfl)
          rw [hd, World.drewN_drewN]
          exact ⟨rfl, _, rfl⟩
      · obtain rfl : k = n := by omega
        go_wp2
        go_ret
        have hd : decide (xs = ys) = true := decide_eq_true (lists_of k xs ys hl hl2 heq)
        rw [hd]
        exact ⟨rfl, _, rfl⟩
  · have hne : ((n : Int) != (m : Int)) = true := by simp; omega
    go_enter Try.func23, Try.ntmps23
    go_wp2
    go_ret
    have hd : decide (xs = ys) = false := decide_eq_false (fun hx => by subst hx; omega)
    rw [hd]
    exact ⟨rfl, 0, rfl⟩
end Go.Proofs.Ytbpbcmbcoffdlaa

/-
  Texts in one: SlInv, SlAlive, SlLT.
-/
import Derived.Test.YtbpbcmbcoffdlaaSlotsMarksQ7
import Derived.Test.YtbpbcmbcoffdlaaSlotsMarksQ8
import Derived.Test.YtbpbcmbcoffdlaaSlotsMarksQ5
import Derived.Test.YtbpbcmbcoffdlaaSlotsMarksQ6
import Derived.Test.YtbpbcmbcoffdlaaSlotsMarksQ2
import Derived.Lib.SmallJoins
namespace Go.Proofs.Ytbpbcmbcoffdlaa
structure SI (g : GT) : Prop where
  pc : ∀ k x, g.s k = some x → prepS g.f x = true → certIn g.view x = true
  cv : ∀ k x c, g.s k = some x → x.cert = some c → c.view ≤ g.view ∧ (c.view = g.view → x.has = true ∧ c.sum = x.sum)
def CLe (x x' : ST) : Prop := ∀ c, x.cert = some c → ∃ c', x'.cert = some c' ∧ c.view ≤ c'.view ∧ (c.view = c'.view → c.sum = c'.sum)
theorem CLe.refl (x : ST) : CLe x x := fun c h => ⟨c, h, Nat.le_refl _, fun _ => rfl⟩
theorem CLe.eq {x x' : ST} (h : x'.cert = x.cert) : CLe x x' := fun c hc => ⟨c, by rw [h]; exact hc, Nat.le_refl _, fun _ => rfl⟩
structure Step (g g' : GT) : Prop where
  f : g'.f = g.f
  low : g.low ≤ g'.low
  view : g.view ≤ g'.view
  c : ∀ k x, g.s k = some x → x.cert.isSome = true → g'.low < k → ∃ x', g'.s k = some x' ∧ CLe x x'
theorem Step.refl (g : GT) : Step g g := ⟨rfl, Nat.le_refl _, Nat.le_refl _, fun _ x h _ _ => ⟨x, h, CLe.refl x⟩⟩
theorem certIn_iff {v : Nat} {x : ST} : certIn v x = true ↔ ∃ c, x.cert = some c ∧ c.view = v := by
  unfold certIn cvw
  cases x.cert with
  | none => simp
  | some c => simp
theorem certS_cases (f v : Nat) (x : ST) : (certS f v x = x ∧ (prepS f x = true → certIn v x = true)) ∨ (certS f v x = { x with cert := some ⟨v, x.sum, x.pre :: (prfV x.sum 0 x.pv).take (2 * f)⟩ } ∧ certIn v x = false ∧ prepS f x = true) := by
  unfold certS
  cases h1 : certIn v x with
  | true => exact .inl ⟨by simp, fun _ => rfl⟩
  | false =>
    cases h2 : prepS f x with
    | false => exact .inl ⟨by simp, fun h => by cases h⟩
    | true => exact .inr ⟨by simp, rfl, rfl⟩
structure SO (f v : Nat) (x : ST) : Prop where
  pc : prepS f x = true → certIn v x = true
  cv : ∀ c, x.cert = some c → c.view ≤ v ∧ (c.view = v → x.has = true ∧ c.sum = x.sum)
theorem SO.new (f v : Nat) : SO f v newST := ⟨fun h => (by simp [prepS, newST] at h), fun _ h => (by cases h)⟩
theorem SI.at {g : GT} (h : SI g) (k : Nat) : SO g.f g.view (g.slot k) := by
  unfold GT.slot
  cases hs : g.s k with
  | none => exact SO.new _ _
  | some x => exact ⟨h.pc k x hs, fun c hc => h.cv k x c hs hc⟩
theorem SO.cert {f v : Nat} {x y : ST} (h : SO f v x) (hc : y.cert = x.cert) (hh : x.has = true → y.has = true ∧ y.sum = x.sum) : SO f v (certS f v y) := by
  have base : ∀ c, y.cert = some c → c.view ≤ v ∧ (c.view = v → y.has = true ∧ c.sum = y.sum) := fun c e => by
    rw [hc] at e
    obtain ⟨h1, h2⟩ := h.cv c e
    refine ⟨h1, fun q => ?_⟩
    obtain ⟨h3, h4⟩ := h2 q
    obtain ⟨h5, h6⟩ := hh h3
    exact ⟨h5, h4.trans h6.symm⟩
  rcases certS_cases f v y with ⟨e, h1⟩ | ⟨e, h1, h2⟩
  · rw [e]
    exact ⟨h1, base⟩
  · rw [e]
    refine ⟨fun _ => certIn_iff.2 ⟨_, rfl, rfl⟩, fun c q => ?_⟩
    obtain rfl := Option.some.inj q
    refine ⟨Nat.le_refl _, fun _ => ⟨?_, rfl⟩⟩
    unfold prepS at h2
    simp only [Bool.and_eq_true] at h2
    exact h2.1
theorem certS_le {f v : Nat} {x y : ST} (h : SO f v x) (hc : y.cert = x.cert) : CLe x (certS f v y) := by
  rcases certS_cases f v y with ⟨e, h1⟩ | ⟨e, h1, h2⟩
  · rw [e]
    exact CLe.eq hc
  · rw [e]
    intro c q
    refine ⟨_, rfl, (h.cv c q).1, fun q2 => ?_⟩
    have : certIn v y = true := certIn_iff.2 ⟨c, hc.trans q, q2⟩
    rw [h1] at this
    cases this
theorem SI.put {g : GT} (h : SI g) (k : Nat) {y : ST} (hy : SO g.f g.view y) : SI (g.put k y) := by
  refine ⟨fun j x hx => ?_, fun j x c hx => ?_⟩
  · by_cases e : j = k
    · subst e
      rw [g.put_same] at hx
      obtain rfl := Option.some.inj hx
      exact hy.pc
    · rw [g.put_other _ _ e] at hx
      exact h.pc j x hx
  · by_cases e : j = k
    · subst e
      rw [g.put_same] at hx
      obtain rfl := Option.some.inj hx
      exact hy.cv c
    · rw [g.put_other _ _ e] at hx
      exact h.cv j x c hx
theorem Step.put {g : GT} (k : Nat) {y : ST} (hy : CLe (g.slot k) y) : Step g (g.put k y) := by
  refine ⟨rfl, Nat.le_refl _, Nat.le_refl _, fun j x hx _ _ => ?_⟩
  by_cases e : j = k
  · subst e
    refine ⟨y, g.put_same _ _, ?_⟩
    have : g.slot j = x := by unfold GT.slot; rw [hx]; rfl
    rw [this] at hy
    exact hy
  · exact ⟨x, (g.put_other _ _ e).trans hx, CLe.refl x⟩
theorem addV_same {f : Nat} {l : List VT} {fr : Nat} {v : VT} (h : (addV f l fr v).2 ≠ 0) : (addV f l fr v).1 = l := by
  unfold addV at h ⊢
  repeat' split
  all_goals first | rfl | (exfalso; simp_all)
theorem SO.par {f v : Nat} {x : ST} (h : SO f v x) (l : List VT) (hl : l = x.pv) : SO f v { x with pv := l } := by
  subst hl
  exact h
theorem SO.com {f v : Nat} {x : ST} (h : SO f v x) (l : List VT) : SO f v { x with cv := l } := ⟨h.pc, h.cv⟩
theorem pre_inv {g : GT} (h : SI g) (sv : SV) (seq : Nat) (sum : ByteArray) : SI (preG g sv seq sum).1 ∧ Step g (preG g sv seq sum).1 := by
  unfold preG
  split
  · exact ⟨h, Step.refl g⟩
  split
  · exact ⟨h, Step.refl g⟩
  split
  · exact ⟨h.put seq (h.at seq), Step.put seq (CLe.refl _)⟩
  · rename_i hn
    exact ⟨h.put seq ((h.at seq).cert rfl fun e => absurd e hn), Step.put seq (certS_le (h.at seq) rfl)⟩
theorem par_inv {g : GT} (h : SI g) (sv : SV) (seq : Nat) (sum : ByteArray) : SI (parG g sv seq sum).1 ∧ Step g (parG g sv seq sum).1 := by
  unfold parG
  split
  · exact ⟨h, Step.refl g⟩
  split
  · exact ⟨h, Step.refl g⟩
  split
  · rename_i hn
    exact ⟨h.put seq ((h.at seq).par _ (addV_same hn)), Step.put seq (CLe.eq rfl)⟩
  · exact ⟨h.put seq ((h.at seq).cert rfl fun e => ⟨e, rfl⟩), Step.put seq (certS_le (h.at seq) rfl)⟩
theorem com_inv {g : GT} (h : SI g) (sv : SV) (seq : Nat) (sum : ByteArray) : SI (comG g sv seq sum).1 ∧ Step g (comG g sv seq sum).1 := by
  unfold comG
  split
  · exact ⟨h, Step.refl g⟩
  · exact ⟨h.put seq ((h.at seq).com _), Step.put seq (CLe.eq rfl)⟩
theorem ent_inv {g : GT} (h : SI g) (v : Nat) : SI (entG g v).1 ∧ Step g (entG g v).1 := by
  unfold entG
  split
  · exact ⟨h, Step.refl g⟩
  split
  · exact ⟨h, Step.refl g⟩
  · rename_i h1 h2
    have inv : ∀ k x, (g.s k).bind turnS = some x → ∃ y, g.s k = some y ∧ y.cert.isSome = true ∧ x = { newST with cert := y.cert } := fun k x hx => by
      cases hs : g.s k with
      | none => rw [hs] at hx; cases hx
      | some y =>
        rw [hs] at hx
        have hx : turnS y = some x := hx
        unfold turnS at hx
        split at hx
        · rename_i hc
          exact ⟨y, rfl, hc, (Option.some.inj hx).symm⟩
        · cases hx
    refine ⟨⟨fun k x hx hp => ?_, fun k x c hx hc => ?_⟩, ⟨rfl, Nat.le_refl _, Nat.le_of_lt (Nat.lt_of_not_le h2), fun k x hx hc _ => ⟨{ newST with cert := x.cert }, ?_, CLe.eq rfl⟩⟩⟩
    · obtain ⟨y, _, _, rfl⟩ := inv k x hx
      cases hp
    · obtain ⟨y, h3, h4, rfl⟩ := inv k x hx
      have h5 := (h.cv k y c h3 hc).1
      have h6 := Nat.lt_of_not_le h2
      exact ⟨by show c.view ≤ v; omega, fun e => by have e : c.view = v := e; omega⟩
    · show (g.s k).bind turnS = _
      rw [hx]
      show turnS x = _
      unfold turnS
      rw [if_pos hc]
theorem adv_inv {g : GT} (h : SI g) (l : Nat) : SI (advG g l).1 ∧ Step g (advG g l).1 := by
  unfold advG
  split
  · exact ⟨h, Step.refl g⟩
  · rename_i h1
    have inv : ∀ k x, (if k ≤ l then none else g.s k) = some x → g.s k = some x := fun k x hx => by
      split at hx
      · cases hx
      · exact hx
    refine ⟨⟨fun k x hx hp => h.pc k x (inv k x hx) hp, fun k x c hx hc => h.cv k x c (inv k x hx) hc⟩, ⟨rfl, by show g.low ≤ l; omega, Nat.le_refl _, fun k x hx _ hk => ⟨x, ?_, CLe.refl x⟩⟩⟩
    have hk : l < k := hk
    show (if k ≤ l then none else g.s k) = some x
    rw [if_neg (by omega)]
    exact hx
theorem one_inv {g : GT} (h : SI g) (o : OA) : SI (oneG g o).1 ∧ Step g (oneG g o).1 := by
  unfold oneG
  repeat' split
  · exact pre_inv h _ _ _
  · exact par_inv h _ _ _
  · exact com_inv h _ _ _
  · exact ent_inv h _
  · exact adv_inv h _
  · exact ⟨h, Step.refl g⟩
theorem newG_inv (f : Nat) : SI (newG f) := ⟨fun _ _ h => (by cases h), fun _ _ _ h => (by cases h)⟩
open Go.RowKit
theorem sl_mark15 (w : World) (c : Int) (h : 0 ≤ c ∧ c ≤ 255) : Sl (w.alloc (.cells #[.int .u8 c] 5 (1, 2))) (some ⟨w.heap.size, 0, none⟩) 1 1 [c] := by
  refine ⟨rfl, Nat.le_refl _, by decide, fun h => by simp at h, fun a ha i hi => ?_, fun x hx => by simp at hx; omega⟩
  obtain rfl := Option.some.inj ha
  obtain rfl : i = 0 := by omega
  rw [Addr.add_lit, World.cell?_alloc_mark]
  rfl
theorem LG.made {w w' : World} {f : Nat} (h1 : 1 ≤ f) (h4 : f ≤ 4) (hL : LC w' (w.heap.size + 1) f 0 0 w.heap.size) (hM : MF w' 30 w.heap.size 0 (fun _ => none)) :
    LG w' w.heap.size (w.heap.size + 1) w.heap.size 0 (newG f) (fun _ => none) (fun _ => ⟨0, 0, 0, ⟨0, ⟨none, 0, 0, []⟩, ⟨none, 0, 0, []⟩⟩, none, 0, 0, []⟩) (fun z => if z = w.heap.size + 1 then 1 else if z = w.heap.size then 2 else 0) where
  f1 := h1
  f4 := h4
  lowz := Nat.zero_le _
  viewz := Nat.zero_le _
  lc := hL
  mf := hM
  here := fun _ _ h => by cases h
  win := fun _ _ h => by cases h
  no := fun _ h => absurd rfl h
  rL := if_pos rfl
  rM := by rw [if_neg (by omega), if_pos rfl]
  ro := fun _ _ h => by cases h
  lo := fun z hz => by rw [if_neg (by omega), if_neg (by omega)]
def svE (a : Nat) : SV := ⟨a, [], []⟩
def saE (a : Nat) : SA := ⟨a, ⟨none, 0, 0, []⟩, ⟨none, 0, 0, []⟩⟩
theorem saE_ok (w : World) (a : Nat) (h : a < 18446744073709551616) : (saE a).ok w := ⟨h, Sl.nothing w, Sl.nothing w⟩
theorem saE_blk (a z : Nat) : ¬ (saE a).blk z := by
  rintro (⟨b, h, _⟩ | ⟨b, h, _⟩) <;> cases h
def xx : ByteArray := strOfNums [120]
def gA : GT := (preG (newG 1) (svE 1) 1 xx).1
def gB : GT := (parG gA (svE 2) 1 xx).1
def gC : GT := (parG gB (svE 3) 1 xx).1
theorem al1 : (preG (newG 1) (svE 1) 1 xx).2 = 0 := by decide
theorem al2 : (parG gA (svE 2) 1 xx).2 = 0 := by decide
theorem al3 : preO gB 1 = false := by decide
theorem al4 : (parG gB (svE 3) 1 xx).2 = 0 := by decide
theorem al5 : preO gC 1 = true := by decide
theorem al6 : (certsG gC).length = 1 := by decide
set_option maxRecDepth 100000 in
set_option maxHeartbeats 4000000 in
theorem alive15 (w : World) : Calls Try.prog 10 #[] w fun e w' => e = .returned (.bool true) ∧ Below w.heap.size w w' := by
  have kc := fun (w : World) (C : Array Value) (n c g : Nat) (hg : g = w.heap.size) => Joins.run_convert_bytes_const_at (P := Try.prog) w 35 5 C n c g hg Try.underlying35 Try.underlying5
  have CN := slNew_good w 1 (by omega) (by omega)
  go_enter Try.func10, Try.ntmps10
  go_wp2_with fail
  refine CN.mono ?_
  rintro x w1 ⟨rfl, hL, hM, C1⟩
  have K1 := LG.made (by omega) (by omega) hL hM
  clear CN hL hM
  have D2 : Below w1.heap.size w1 (w1.alloc (.cells #[.int .u8 120] 5 (1, 2))) := (Below.refl _ _).alloc (Nat.le_refl _) _
  obtain ⟨K2, T2⟩ := K1.below D2
  have CA := pre_any _ _ _ _ _ _ _ _ _ K2 (by decide) (saE 1) (saE_ok _ 1 (by omega)) (fun z hz => absurd hz (saE_blk 1 z)) ⟨by decide, by decide⟩ 1 (by omega) _ 1 1 [120] (sl_mark15 w1 120 (by omega)) (fun z ⟨a, ha, _, e⟩ => by cases ha; rw [← e]; exact rho_new (Nat.le_refl _)) (by omega)
  unfold MsgPost at CA
  rw [show (saE 1).v = svE 1 from rfl, show strOfNums [120] = xx from rfl, al1] at CA
  go_wp2_with fail
  refine CA.mono ?_
  rintro x w3 ⟨n3, F3, B3, ρ3, rfl, K3, T3, h3⟩
  have E3 := (C1.trans T2.bel).trans T3.bel
  clear CA K1 K2 D2 T2 T3 C1
  change LG w3 _ _ _ _ gA _ _ _ at K3
  have D4 : Below w3.heap.size w3 (w3.alloc (.cells #[.int .u8 120] 5 (1, 2))) := (Below.refl _ _).alloc (Nat.le_refl _) _
  obtain ⟨K4, T4⟩ := K3.below D4
  have CA := prepare_any _ _ _ _ _ _ _ _ _ K4 (by unfold maxLen; omega) (saE 2) (saE_ok _ 2 (by omega)) (fun z hz => absurd hz (saE_blk 2 z)) ⟨by decide, by decide⟩ 1 (by omega) _ 1 1 [120] (sl_mark15 w3 120 (by omega)) (fun z ⟨a, ha, _, e⟩ => by cases ha; rw [← e]; exact rho_new (Nat.le_refl _)) (by omega)
  unfold MsgPost at CA
  rw [show (saE 2).v = svE 2 from rfl, show strOfNums [120] = xx from rfl, al2] at CA
  go_wp2_with fail
  refine CA.mono ?_
  rintro x w5 ⟨n5, F5, B5, ρ5, rfl, K5, T5, h5⟩
  have E5 := (E3.trans T4.bel).trans T5.bel
  clear CA K3 K4 D4 T4 T5 E3
  change LG w5 _ _ _ _ gB _ _ _ at K5
  have CP := prep_any15 _ _ _ _ _ _ _ _ _ K5 1 (by omega)
  rw [al3] at CP
  go_wp2_with fail
  refine CP.mono ?_
  rintro x w6 ⟨rfl, C6⟩
  obtain ⟨K6, T6⟩ := K5.below C6
  have D7 : Below w6.heap.size w6 (w6.alloc (.cells #[.int .u8 120] 5 (1, 2))) := (Below.refl _ _).alloc (Nat.le_refl _) _
  obtain ⟨K7, T7⟩ := K6.below D7
  have CA := prepare_any _ _ _ _ _ _ _ _ _ K7 (by unfold maxLen; omega) (saE 3) (saE_ok _ 3 (by omega)) (fun z hz => absurd hz (saE_blk 3 z)) ⟨by decide, by decide⟩ 1 (by omega) _ 1 1 [120] (sl_mark15 w6 120 (by omega)) (fun z ⟨a, ha, _, e⟩ => by cases ha; rw [← e]; exact rho_new (Nat.le_refl _)) (by omega)
  unfold MsgPost at CA
  rw [show (saE 3).v = svE 3 from rfl, show strOfNums [120] = xx from rfl, al4] at CA
  have E7 := (E5.trans T6.bel).trans T7.bel
  clear CP K5 C6 K6 D7 T6 T7 E5
  go_wp2_with fail
  refine CA.mono ?_
  rintro x w8 ⟨n8, F8, B8, ρ8, rfl, K8, T8, h8⟩
  change LG w8 _ _ _ _ gC _ _ _ at K8
  have E8 := E7.trans T8.bel
  have CP := prep_any15 _ _ _ _ _ _ _ _ _ K8 1 (by omega)
  rw [al5] at CP
  clear CA K7 T8 E7
  go_wp2_with fail
  refine CP.mono ?_
  rintro x w9 ⟨rfl, C9⟩
  obtain ⟨K9, T9⟩ := K8.below C9
  have E9 := E8.trans T9.bel
  have CC := certs_any15 _ _ _ _ _ _ _ _ _ K9 (by omega)
  clear CP K8 C9 K9 T9 E8
  unfold CertsPost at CC
  rw [al6] at CC
  have HS := E9.size
  go_wp2_with (go_at_call 15; refine CC.mono ?_; rintro e w10 ⟨ao, cap, ls, rfl, -, -, C10⟩)
  go_ret
  exact ⟨rfl, E9.trans (C10.mono HS)⟩
end Go.Proofs.Ytbpbcmbcoffdlaa
namespace Go.Proofs.Ytbpbcmbcoffdlaa
open Go.RowKit
def LT (w0 : World) (L M n : Nat) (g : GT) (w : World) : Prop := ∃ n' F B ρ, n' ≤ n ∧ LG w w0.heap.size L M n' g F B ρ ∧ Below w0.heap.size w0 w
section
variable {w0 w w' : World} {L M n : Nat} {g : GT}
theorem LT.below (h : LT w0 L M n g w) (hb : Below w.heap.size w w') : LT w0 L M n g w' := by
  obtain ⟨n', F, B, ρ, h1, h2, h3⟩ := h
  obtain ⟨h4, h5⟩ := h2.below hb
  exact ⟨n', F, B, _, h1, h4, h3.trans h5.bel⟩
theorem LT.bel (h : LT w0 L M n g w) : Below w0.heap.size w0 w := by
  obtain ⟨_, _, _, _, _, _, h3⟩ := h
  exact h3
theorem LT.lowz (h : LT w0 L M n g w) : g.low ≤ 4611686018427387895 := by
  obtain ⟨_, _, _, _, _, h2, _⟩ := h
  exact h2.lowz
theorem LT.win (h : LT w0 L M n g w) : ∀ k x, g.s k = some x → g.low < k ∧ k ≤ g.low + 8 := by
  obtain ⟨_, _, _, _, _, h2, _⟩ := h
  exact h2.win
theorem LT.out (h : LT w0 L M n g w) {k : Nat} (hk : k ≤ g.low ∨ g.low + 8 < k) : sumO g k = none ∧ preO g k = false ∧ crtO g k = none := by
  have e : g.s k = none := by
    cases hx : g.s k with
    | none => rfl
    | some x =>
      have := h.win k x hx
      omega
  unfold sumO preO crtO
  rw [e]
  exact ⟨rfl, rfl, rfl⟩
theorem LT.lowC (h : LT w0 L M n g w) : Calls Try.prog 24 #[.pointer (some ⟨L, 0, none⟩)] w fun x w' => x = .returned (.int .u64 (g.low : Nat)) ∧ w' = w := by
  obtain ⟨_, _, _, _, _, h2, _⟩ := h
  exact slLow_log w L _ _ _ M h2.lc
theorem LT.viewC (h : LT w0 L M n g w) : Calls Try.prog 22 #[.pointer (some ⟨L, 0, none⟩)] w fun x w' => x = .returned (.int .u64 (g.view : Nat)) ∧ w' = w := by
  obtain ⟨_, _, _, _, _, h2, _⟩ := h
  exact slView_log w L _ _ _ M h2.lc
theorem LT.sumC (h : LT w0 L M n g w) (seq : Nat) (hs : seq < 18446744073709551616) : Calls Try.prog 25 #[.pointer (some ⟨L, 0, none⟩), .int .u64 (seq : Nat)] w (RetO w (sumO g seq)) := by
  obtain ⟨_, F, B, ρ, _, h2, _⟩ := h
  exact sum_any15 w _ L M _ g F B ρ h2 seq hs
theorem LT.preC (h : LT w0 L M n g w) (seq : Nat) (hs : seq < 18446744073709551616) : Calls Try.prog 20 #[.pointer (some ⟨L, 0, none⟩), .int .u64 (seq : Nat)] w fun e w' => e = .returned (.bool (preO g seq)) ∧ Below w.heap.size w w' := by
  obtain ⟨_, F, B, ρ, _, h2, _⟩ := h
  exact prep_any15 w _ L M _ g F B ρ h2 seq hs
theorem LT.bestC (h : LT w0 L M n g w) (seq : Nat) (hs : seq < 18446744073709551616) : Calls Try.prog 21 #[.pointer (some ⟨L, 0, none⟩), .int .u64 (seq : Nat)] w (RetB w (crtO g seq)) := by
  obtain ⟨_, F, B, ρ, _, h2, _⟩ := h
  exact best_any15 w _ L M _ g F B ρ h2 seq hs
theorem LT.certsC (h : LT w0 L M n g w) (hn : n ≤ 1000000) : Calls Try.prog 15 #[.pointer (some ⟨L, 0, none⟩)] w (CertsPost w g) := by
  obtain ⟨n', F, B, ρ, h1, h2, _⟩ := h
  exact certs_any15 w _ L M n' g F B ρ h2 (by omega)
theorem LT.oneC (h : LT w0 L M n g w) (hn : n < maxLen) (o : OA) (ok : o.ok w0) (hz : o.b.n ≤ 1000000) :
    Calls Try.prog 12 #[.pointer (some ⟨L, 0, none⟩), .agg #[.int .i64 o.k, .int .u64 (o.fr : Nat), .int .u64 (o.seq : Nat), .slice o.b.ao o.b.n o.b.cap]] w fun e w' => e = .returned (.int .i64 (oneG g o).2) ∧ LT w0 L M (n + 1) (oneG g o).1 w' := by
  obtain ⟨n', F, B, ρ, h1, h2, h3⟩ := h
  refine (one_any w _ L M n' g F B ρ h2 (by omega) o (elO_fine.kept o w0 w ok fun z hz => h3.block z (elO_fine.lt o w0 z ok hz)) (fun z hz => h2.lo z (elO_fine.lt o w0 z ok hz)) hz).mono ?_
  rintro e w' ⟨n5, F5, B5, ρ5, rfl, K5, T5, h5⟩
  exact ⟨rfl, n5, F5, B5, ρ5, by omega, K5, h3.trans T5.bel⟩
end
theorem OX.below {V V' : World} {b p : Nat} {o : OA} (h : OX V b p o) (hb : Below V.heap.size V V') : OX V' b p o :=
  ⟨(hb.cell (World.block_lt_of_cell? _ _ h.c0)).trans h.c0, (hb.cell (World.block_lt_of_cell? _ _ h.c1)).trans h.c1, (hb.cell (World.block_lt_of_cell? _ _ h.c2)).trans h.c2, (hb.cell (World.block_lt_of_cell? _ _ h.c3)).trans h.c3⟩
theorem certsG_len (g : GT) : (certsG g).length ≤ 8 := by
  unfold certsG
  exact Nat.le_trans (List.length_filterMap_le _ _) (keysG_len g)
theorem crt_step {g g' : GT} (h : Step g g') {seq : Nat} {c : CT} (hc : crtO g seq = some c) (hl : g'.low < seq) : ∃ c', crtO g' seq = some c' ∧ c.view ≤ c'.view ∧ (c.view = c'.view → c.sum = c'.sum) := by
  unfold crtO at hc
  cases hx : g.s seq with
  | none => rw [hx] at hc; cases hc
  | some x =>
    rw [hx] at hc
    have hc : x.cert = some c := hc
    obtain ⟨x', h1, h2⟩ := h.c seq x hx (by rw [hc]; rfl) hl
    obtain ⟨c', h3, h4, h5⟩ := h2 c hc
    refine ⟨c', ?_, h4, h5⟩
    unfold crtO
    rw [h1]
    exact h3
theorem LT.made {w w' : World} {f : Nat} (h1 : 1 ≤ f) (h4 : f ≤ 4) (hL : LC w' (w.heap.size + 1) f 0 0 w.heap.size) (hM : MF w' 30 w.heap.size 0 (fun _ => none)) (hb : Below w.heap.size w w') : LT w (w.heap.size + 1) w.heap.size 0 (newG f) w' :=
  ⟨0, _, _, _, Nat.le_refl _, LG.made h1 h4 hL hM, hb⟩
end Go.Proofs.Ytbpbcmbcoffdlaa

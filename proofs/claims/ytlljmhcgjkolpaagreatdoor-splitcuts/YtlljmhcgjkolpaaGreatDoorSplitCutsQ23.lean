/-
  Texts in one: SpSplit.
-/
import Derived.Test.YtlljmhcgjkolpaaGreatDoorSplitCutsQFL
import Derived.Test.YtlljmhcgjkolpaaGreatDoorSplitCutsQ22
import Derived.Test.YtlljmhcgjkolpaaGreatDoorSplitCutsQ20
import Derived.Test.YtlljmhcgjkolpaaGreatDoorSplitCutsQ18
import Derived.Test.YtlljmhcgjkolpaaGreatDoorSplitCutsQ7
import Derived.Test.YtlljmhcgjkolpaaGreatDoorSplitCutsQ4
import Derived.Test.YtlljmhcgjkolpaaGreatDoorSplitCutsQ8
import Derived.Deep.QuietTactic
import Derived.BigQuiet
namespace Go.Proofs.YtlljmhcgjkolpaaGreatDoor
open Go.RowKit
set_option maxHeartbeats 400000 in
theorem tbounds_any (w : World) (p : Nat) (f t : ByteArray) (cs : List CV) (h : TB w p f t cs) :
    Calls Tryz.prog 50 #[.pointer (some ⟨p, 0, none⟩)] w fun e w' => e = .returned (.tuple #[.string f, .string t]) ∧ Below w.heap.size w w' := by
  obtain ⟨u, A, -⟩ := h
  have c0 : w.cell? ⟨p, 0, none⟩ = some (.string f) := Arr.cell A 0
  have c1 : w.cell? ⟨p, 1, none⟩ = some (.string t) := Arr.cell A 1
  clear A
  go_enter Tryz.func50, Tryz.ntmps50
  go_wp2
  go_region
  go_wp2
  go_ret2
  exact ⟨rfl, (Below.refl _ _).drew⟩
set_option maxHeartbeats 1000000 in
set_option maxRecDepth 100000 in
theorem sp1_tells (w : World) (ab : Nat) (a : ByteArray) (h : w.cell? ⟨ab, 0, none⟩ = some (.string a)) : Tells w 51 #[.pointer (some ⟨ab, 0, none⟩)] (belR a) := fun W c hb _ => by
  show Calls Tryz.prog 51 #[.agg #[.string c.row, .string c.fam, .string c.qual, .int .u64 c.time, .slice c.va.ao c.va.n c.va.cap, .bool c.gone], .pointer (some ⟨ab, 0, none⟩)] W _
  have h1 := (hb.cell (World.block_lt_of_cell? _ _ h)).trans h
  have B1 : Below W.heap.size W (W.alloc (.cells #[.string c.row, .string c.fam, .string c.qual, .int .u64 c.time, .slice c.va.ao c.va.n c.va.cap, .bool c.gone] 33)) := (Below.refl _ _).alloc (Nat.le_refl _) _
  have h2 := (B1.cell (World.block_lt_of_cell? _ _ h1)).trans h1
  obtain ⟨b, hbl⟩ : ∃ b, b = belR a c.c := ⟨_, rfl⟩
  have hl : Op.bytesLess c.row.toList a.toList = b := by rw [less_sb, hbl]; rfl
  rw [← hbl]
  clear hbl h h1
  go_enter Tryz.func51, Tryz.ntmps51
  go_wp2
  go_ret
  exact ⟨rfl, B1⟩
set_option maxHeartbeats 1000000 in
set_option maxRecDepth 100000 in
theorem sp2_tells (w : World) (ab ib : Nat) (a : ByteArray) (h : w.cell? ⟨ab, 0, none⟩ = some (.string a)) (hi : w.cell? ⟨ib, 0, none⟩ = some (.func (.func 51) #[] #[.pointer (some ⟨ab, 0, none⟩)])) : Tells w 52 #[.pointer (some ⟨ib, 0, none⟩)] (fun c => !(belR a c)) := fun W c hb hok => by
  show Calls Tryz.prog 52 #[.agg #[.string c.row, .string c.fam, .string c.qual, .int .u64 c.time, .slice c.va.ao c.va.n c.va.cap, .bool c.gone], .pointer (some ⟨ib, 0, none⟩)] W fun e W' => e = .returned (.bool (!(belR a c.c))) ∧ Below W.heap.size W W'
  have h1 := (hb.cell (World.block_lt_of_cell? _ _ h)).trans h
  have hi1 := (hb.cell (World.block_lt_of_cell? _ _ hi)).trans hi
  obtain ⟨W1, hW1⟩ : ∃ V, V = W.alloc (.cells #[.string c.row, .string c.fam, .string c.qual, .int .u64 c.time, .slice c.va.ao c.va.n c.va.cap, .bool c.gone] 33) := ⟨_, rfl⟩
  have B1 : Below W.heap.size W W1 := by rw [hW1]; exact (Below.refl _ _).alloc (Nat.le_refl _) _
  have h2 := (B1.cell (World.block_lt_of_cell? _ _ h1)).trans h1
  have hi2 := (B1.cell (World.block_lt_of_cell? _ _ hi1)).trans hi1
  have hi3 : (W.alloc (.cells #[.string c.row, .string c.fam, .string c.qual, .int .u64 c.time, .slice c.va.ao c.va.n c.va.cap, .bool c.gone] 33)).cell? ⟨ib, 0, none⟩ = some (.func (.func 51) #[] #[.pointer (some ⟨ab, 0, none⟩)]) := by rw [← hW1]; exact hi2
  have CT := sp1_tells W1 ab a h2 W1 c (Below.refl _ _) (hok.below B1)
  have CT : Calls Tryz.prog 51 #[.agg #[.string c.row, .string c.fam, .string c.qual, .int .u64 c.time, .slice c.va.ao c.va.n c.va.cap, .bool c.gone], .pointer (some ⟨ab, 0, none⟩)] W1 fun e W' => e = .returned (.bool (belR a c.c)) ∧ Below W1.heap.size W1 W' := CT
  obtain ⟨b, hbl⟩ : ∃ b, b = belR a c.c := ⟨_, rfl⟩
  rw [← hbl] at CT ⊢
  clear hbl h h1 hi hi1 h2 hi2
  go_enter Tryz.func52, Tryz.ntmps52
  go_wp2_with fail
  rw [← hW1]
  refine CT.mono ?_
  rintro e w2 ⟨rfl, C2⟩
  clear CT hi3 hW1
  go_wp2
  go_ret
  exact ⟨rfl, B1.trans (C2.mono B1.size)⟩
def SpPost (w : World) (f t a : ByteArray) (cs : List CV) (e : Ending) (w' : World) : Prop :=
  (splitK f t a = 0 ∧ ∃ q1 q2, w.heap.size ≤ q1 ∧ q1 < q2 ∧ e = .returned (.tuple #[.pointer (some ⟨q1, 0, none⟩), .pointer (some ⟨q2, 0, none⟩), .int .i64 0]) ∧ TB w' q1 f a (cs.filter (belR a)) ∧ TB w' q2 a t (cs.filter fun c => !(belR a c)) ∧ Below w.heap.size w w') ∨
  (splitK f t a ≠ 0 ∧ e = .returned (.tuple #[.pointer none, .pointer none, .int .i64 (splitK f t a)]) ∧ Below w.heap.size w w')
set_option maxHeartbeats 8000000 in
set_option maxRecDepth 100000 in
theorem split_any (w : World) (p : Nat) (f t a : ByteArray) (cs : List CV) (hTb : Tabs w) (hT : TB w p f t cs) (hS : Stand f t 800 cs) (hL : Lim cs) (hk : newK f t = 0) (ha : a.size ≤ 1000) :
    Calls Tryz.prog 20 #[.pointer (some ⟨p, 0, none⟩), .string a] w (SpPost w f t a cs) := by
  have t2 := hTb.two
  have HTb : Hid (Tabs w) := hTb
  have HS : Hid (Stand f t 800 cs) := hS
  have HL : Hid (Lim cs) := hL
  have HK0 : Hid (newK f t = 0) := hk
  obtain ⟨hf32, ht32, -⟩ := newK_ok hk
  obtain ⟨W1, hW1⟩ : ∃ V, V = w.alloc (.cells #[.string a] 9) := ⟨_, rfl⟩
  have C1 : Below w.heap.size w W1 := by rw [hW1]; exact (Below.refl _ _).alloc (Nat.le_refl _) _
  have A1 : Arr W1 w.heap.size 9 [.string a] := by rw [hW1]; exact heap_alloc_new w _
  have T1 := hT.below C1
  have CB := tbounds_any W1 p f t cs T1
  clear hTb hS hL hk hT
  go_enter Tryz.func20, Tryz.ntmps20
  go_wp2_with fail
  rw [← hW1]
  clear hW1
  refine CB.mono ?_
  rintro e w2 ⟨rfl, C2⟩
  have B2 := C1.trans (C2.mono C1.size)
  have T2 := T1.below C2
  have A2 := arr_below A1 C2
  have ca : w2.cell? ⟨w.heap.size, 0, none⟩ = some (.string a) := A2.cell 0
  clear CB T1 A1 C2
  obtain ⟨ab, hab⟩ : ∃ b, b = decide (a.size ≠ 0) := ⟨_, rfl⟩
  obtain ⟨ae0, ae1, ae2⟩ := empty_facts a ab hab
  cases ab with
  | false =>
    have hz : a.size = 0 := by
      have := of_decide_eq_false hab.symm
      omega
    clear hab
    have HK : Hid (splitK f t a = 1) := by show _ = _; unfold splitK; rw [if_pos (.inl hz)]
    go_wp2
    exact bodyPost_ret (v := .tuple #[.pointer none, .pointer none, .int .i64 1]) (by simp [results, Tryz.results20, go_sem]) rfl (.inr ⟨by rw [HK.out]; decide, by rw [HK.out], B2⟩)
  | true =>
    have hz : a.size ≠ 0 := of_decide_eq_true hab.symm
    clear hab
    by_cases g1 : 32 < a.size
    case pos =>
      have i1 : (32 : Int) < (a.size : Int) := by omega
      have HK : Hid (splitK f t a = 1) := by show _ = _; unfold splitK; rw [if_pos (.inr g1)]
      go_wp2
      exact bodyPost_ret (v := .tuple #[.pointer none, .pointer none, .int .i64 1]) (by simp [results, Tryz.results20, go_sem]) rfl (.inr ⟨by rw [HK.out]; decide, by rw [HK.out], B2⟩)
    have i1 : ¬ (32 : Int) < (a.size : Int) := by omega
    have HN : Hid (¬ (a.size = 0 ∨ 32 < a.size)) := fun h => h.elim hz g1
    obtain ⟨lb, hlb⟩ : ∃ b, b = decide (cmpL (sb f) (sb a) < 0) := ⟨_, rfl⟩
    have HLB : Hid (lb = decide (cmpL (sb f) (sb a) < 0)) := hlb
    have lf : Op.bytesLess f.toList a.toList = lb := by rw [less_sb, hlb]
    have lg : (Op.bytesLess a.toList f.toList || (a.toList == f.toList)) = !lb := by
      rw [less_sb, hlb]
      rcases cmpL_total (sb a) (sb f) with h | h | h
      · rw [decide_eq_true h, decide_eq_false (cmpL_asym h)]; rfl
      · have e : a = f := sb_inj h
        subst e
        rw [decide_eq_false (cmpL_irr _)]
        simp
      · have hne : a ≠ f := fun e => by rw [e] at h; exact cmpL_irr _ h
        rw [decide_eq_false (cmpL_asym h), decide_eq_true h, toL_ne hne]; rfl
    obtain ⟨xb, hxb⟩ : ∃ b, b = Op.bytesLess a.toList f.toList := ⟨_, rfl⟩
    obtain ⟨yb, hyb⟩ : ∃ b, b = (a.toList == f.toList) := ⟨_, rfl⟩
    rw [← hxb, ← hyb] at lg
    replace hxb := hxb.symm
    replace hyb := hyb.symm
    clear hlb
    cases lb with
    | false =>
      have hnf : ¬ cmpL (sb f) (sb a) < 0 := of_decide_eq_false HLB.out.symm
      have HFK : Hid (splitK f t a = 8) := by
        show _ = _
        unfold splitK
        rw [if_neg HN.out, if_pos (.inl hnf)]
      clear hnf HLB
      cases xb with
      | true =>
        have HK : Hid (splitK f t a = 8) := HFK
        go_wp2
        exact bodyPost_ret (v := .tuple #[.pointer none, .pointer none, .int .i64 8]) (by simp [results, Tryz.results20, go_sem]) rfl (.inr ⟨by rw [HK.out]; decide, by rw [HK.out], B2⟩)
      | false =>
        obtain rfl : yb = true := by simpa using lg
        have HK : Hid (splitK f t a = 8) := HFK
        go_wp2
        exact bodyPost_ret (v := .tuple #[.pointer none, .pointer none, .int .i64 8]) (by simp [results, Tryz.results20, go_sem]) rfl (.inr ⟨by rw [HK.out]; decide, by rw [HK.out], B2⟩)
    | true =>
      have hfa : cmpL (sb f) (sb a) < 0 := of_decide_eq_true HLB.out.symm
      have HFA : Hid (cmpL (sb f) (sb a) < 0) := hfa
      clear hfa
      obtain ⟨rfl, rfl⟩ : xb = false ∧ yb = false := by cases xb <;> cases yb <;> simp at lg <;> exact ⟨rfl, rfl⟩
      obtain ⟨tb, htb⟩ : ∃ b, b = decide (t.size ≠ 0) := ⟨_, rfl⟩
      obtain ⟨te0, te1, te2⟩ := empty_facts t tb htb
      have HTB : Hid (tb = decide (t.size ≠ 0)) := htb
      obtain ⟨db, hdb⟩ : ∃ b, b = decide (cmpL (sb a) (sb t) < 0) := ⟨_, rfl⟩
      have HDB : Hid (db = decide (cmpL (sb a) (sb t) < 0)) := hdb
      have ld : Op.bytesLess a.toList t.toList = db := by rw [less_sb, hdb]
      clear htb hdb HLB lg
      by_cases hbad : tb = true ∧ db = false
      case pos =>
        obtain ⟨rfl, rfl⟩ := hbad
        have h1 : t.size ≠ 0 := of_decide_eq_true HTB.out.symm
        have h2 : ¬ cmpL (sb a) (sb t) < 0 := of_decide_eq_false HDB.out.symm
        have HFK : Hid (splitK f t a = 8) := by
          show _ = _
          unfold splitK
          rw [if_neg HN.out, if_pos (.inr ⟨h1, h2⟩)]
        clear h1 h2
        have HK : Hid (splitK f t a = 8) := HFK
        go_wp2
        exact bodyPost_ret (v := .tuple #[.pointer none, .pointer none, .int .i64 8]) (by simp [results, Tryz.results20, go_sem]) rfl (.inr ⟨by rw [HK.out]; decide, by rw [HK.out], B2⟩)
      have hto : t.size = 0 ∨ cmpL (sb a) (sb t) < 0 := by
        cases tb with
        | false => exact .inl (by have := of_decide_eq_false HTB.out.symm; omega)
        | true =>
          cases db with
          | true => exact .inr (of_decide_eq_true HDB.out.symm)
          | false => exact absurd ⟨rfl, rfl⟩ hbad
      have HFK : Hid (splitK f t a = 0) := by
        show _ = _
        unfold splitK
        rw [if_neg HN.out, if_neg]
        rintro (h | ⟨h1, h2⟩)
        · exact h HFA.out
        · exact hto.elim h1 h2
      have hk1 : newK f a = 0 := newK_of ⟨hf32, by omega, .inr HFA.out⟩
      have hk2 : newK a t = 0 := newK_of ⟨by omega, ht32, hto⟩
      have SL := (low_rows HS.out : Stand f a 800 (cs.filter (belR a)))
      have SH := (high_rows HS.out : Stand a t 800 (cs.filter fun c => !(belR a c)))
      obtain ⟨o1, y1⟩ := of_own SL (HL.out.filter _) hk1
      obtain ⟨o2, y2⟩ := of_own SH (HL.out.filter _) hk2
      obtain ⟨w4, hw4⟩ : ∃ V, V = w2.alloc (.cells #[.func (.func 51) #[] #[.pointer (some ⟨w.heap.size, 0, none⟩)]] 89) := ⟨_, rfl⟩
      obtain ⟨ib, hib⟩ : ∃ b, b = w2.heap.size := ⟨_, rfl⟩
      have C4 : Below w2.heap.size w2 w4 := by rw [hw4]; exact (Below.refl _ _).alloc (Nat.le_refl _) _
      have I4 : Arr w4 ib 89 [.func (.func 51) #[] #[.pointer (some ⟨w.heap.size, 0, none⟩)]] := by rw [hw4, hib]; exact heap_alloc_new w2 _
      have B4 := B2.trans (C4.mono B2.size)
      have T4 := T2.below C4
      have A4 := arr_below A2 C4
      have hca : w2.cell? ⟨w.heap.size, 0, none⟩ = some (.string a) := ca
      have HCE : Hid (∀ V, Below w4.heap.size w4 V → Calls Tryz.prog 17 #[.pointer (some ⟨p, 0, none⟩)] V fun e w' => ∃ co cn cc cl, e = .returned (.slice co cn cc) ∧ ((∃ base, V.heap.size ≤ base ∧ CRow w' base (.slice co cn cc) cl) ∧ cl.map CA.c = cs) ∧ Below V.heap.size V w') := fun V hV => by
        refine (cells_row V p f t cs (T4.below hV) HS.out.srt HS.out.good hf32 ht32 HS.out.rows (by have := HS.out.len; omega)).mono ?_
        rintro e w' ⟨v, base, l, rfl, hb, R, hl, B⟩
        obtain ⟨ao, cap, rfl, -⟩ := R.cl
        exact ⟨ao, _, cap, l, rfl, ⟨⟨base, hb, R⟩, hl⟩, B⟩
      have HDEL : Hid (∀ (W0 V : World), Below w4.heap.size w4 W0 → Below W0.heap.size W0 V → ∀ co cn cc cl base, W0.heap.size ≤ base → CRow V base (.slice co cn cc) cl → cl.map CA.c = cs →
          (Calls Tryz.prog 53 #[.slice co cn cc, .func (.func 52) #[] #[.pointer (some ⟨ib, 0, none⟩)]] V fun e w' => ∃ eo en ec el, e = .returned (.slice eo en ec) ∧ (CL w' eo en ec el ∧ el.map CA.c = (cs.filter (belR a))) ∧ Below W0.heap.size W0 w') ∧
          (Calls Tryz.prog 53 #[.slice co cn cc, .func (.func 51) #[] #[.pointer (some ⟨w.heap.size, 0, none⟩)]] V fun e w' => ∃ eo en ec el, e = .returned (.slice eo en ec) ∧ (CL w' eo en ec el ∧ el.map CA.c = (cs.filter fun c => !(belR a c))) ∧ Below W0.heap.size W0 w')) := fun W0 V h0 hV co cn cc cl base hb R hcl => by
        have hln : cl.length ≤ 1000 := by
          have := congrArg List.length hcl
          rw [List.length_map] at this
          have := HS.out.len
          omega
        have key : ∀ (U : World) (g : Nat), base ≤ g → Wr g V U → U.cell? ⟨w.heap.size, 0, none⟩ = some (.string a) ∧ U.cell? ⟨ib, 0, none⟩ = some (.func (.func 51) #[] #[.pointer (some ⟨w.heap.size, 0, none⟩)]) := fun U g hg K => by
          have BU : Below w4.heap.size w4 U := Wr.below (h0.trans (hV.mono h0.size)) K (Nat.le_trans h0.size hV.size) (Nat.le_trans h0.size (Nat.le_trans hb hg))
          exact ⟨(arr_below A4 BU).cell 0, (arr_below I4 BU).cell 0⟩
        constructor
        · refine (delete_of V base _ cl 52 #[.pointer (some ⟨ib, 0, none⟩)] (fun c => !(belR a c)) (enters_of Tryz.func52 (by kernel_rfl) rfl) R hln (fun U g hg K => sp2_tells U w.heap.size ib a (key U g hg K).1 (key U g hg K).2)).mono ?_
          rintro e w' ⟨eo, en, ec, el, rfl, h1, h2, g, hg, K⟩
          refine ⟨eo, en, ec, el, rfl, ⟨h1, ?_⟩, Wr.below hV K hV.size (Nat.le_trans hb hg)⟩
          rw [h2, hcl]
          congr 1
          funext c
          exact Bool.not_not _
        · refine (delete_of V base _ cl 51 #[.pointer (some ⟨w.heap.size, 0, none⟩)] (belR a) (enters_of Tryz.func51 (by kernel_rfl) rfl) R hln (fun U g hg K => sp1_tells U w.heap.size a (key U g hg K).1)).mono ?_
          rintro e w' ⟨eo, en, ec, el, rfl, h1, h2, g, hg, K⟩
          exact ⟨eo, en, ec, el, rfl, ⟨h1, by rw [h2, hcl]⟩, Wr.below hV K hV.size (Nat.le_trans hb hg)⟩
      have hlen : ∀ (q : CV → Bool) (V : World) eo en ec (el : List CA), CL V eo en ec el → el.map CA.c = cs.filter q → en ≤ 800 := fun q V eo en ec el h1 h2 => by
        have h3 := congrArg List.length h2
        rw [List.length_map, h1.len] at h3
        have := List.length_filter_le q cs
        have := HS.out.len
        omega
      have HOF : Hid (∀ (W0 V : World), Below w4.heap.size w4 W0 → Below W0.heap.size W0 V → ∀ eo en ec el, CL V eo en ec el → el.map CA.c = (cs.filter (belR a)) → Calls Tryz.prog 11 #[.string f, .string a, .slice eo en ec] V fun e w' => ∃ q1, e = .returned (.tuple #[.pointer (some ⟨q1, 0, none⟩), .int .i64 0]) ∧ (W0.heap.size ≤ q1 ∧ TB w' q1 f a (cs.filter (belR a))) ∧ Below V.heap.size V w') := fun W0 V h0 hV eo en ec el h1 h2 => by
        refine (of_any10 V f a eo en ec el (HTb.out.below (B4.trans ((h0.trans (hV.mono h0.size)).mono B4.size)) t2) (by omega) (by omega) h1 (hlen _ V eo en ec el h1 h2)).mono ?_
        rw [h2]
        rintro e w' (⟨-, q, hq, rfl, X, C⟩ | ⟨hne, -⟩)
        · rw [y1] at X
          exact ⟨q, rfl, ⟨Nat.le_trans hV.size hq, X⟩, C⟩
        · exact absurd o1 hne
      have HOG : Hid (∀ (W0 V : World), Below w4.heap.size w4 W0 → Below W0.heap.size W0 V → ∀ eo en ec el, CL V eo en ec el → el.map CA.c = (cs.filter fun c => !(belR a c)) → Calls Tryz.prog 11 #[.string a, .string t, .slice eo en ec] V fun e w' => ∃ q2, e = .returned (.tuple #[.pointer (some ⟨q2, 0, none⟩), .int .i64 0]) ∧ (W0.heap.size ≤ q2 ∧ TB w' q2 a t (cs.filter fun c => !(belR a c))) ∧ Below V.heap.size V w') := fun W0 V h0 hV eo en ec el h1 h2 => by
        refine (of_any10 V a t eo en ec el (HTb.out.below (B4.trans ((h0.trans (hV.mono h0.size)).mono B4.size)) t2) (by omega) (by omega) h1 (hlen _ V eo en ec el h1 h2)).mono ?_
        rw [h2]
        rintro e w' (⟨-, q, hq, rfl, X, C⟩ | ⟨hne, -⟩)
        · rw [y2] at X
          exact ⟨q, rfl, ⟨Nat.le_trans hV.size hq, X⟩, C⟩
        · exact absurd o2 hne
      have zCE2 := HCE
      have zCE : Hid (∀ V, Below w4.heap.size w4 V → Calls Tryz.prog 17 #[.pointer (some ⟨p, 0, none⟩)] V fun e w' => ∃ co cn cc cl, e = .returned (.slice co cn cc) ∧ ((∃ base, w4.heap.size ≤ base ∧ CRow w' base (.slice co cn cc) cl) ∧ cl.map CA.c = cs) ∧ Below V.heap.size V w') := fun V hV => (HCE.out V hV).mono (by
        rintro e w' ⟨co, cn, cc, cl, rfl, ⟨⟨base, hb, R⟩, hl⟩, B⟩
        exact ⟨co, cn, cc, cl, rfl, ⟨⟨base, Nat.le_trans hV.size hb, R⟩, hl⟩, B⟩)
      have ca : w4.cell? ⟨w.heap.size, 0, none⟩ = some (.string a) := A4.cell 0
      have cb : w4.cell? ⟨ib, 0, none⟩ = some (.func (.func 51) #[] #[.pointer (some ⟨w.heap.size, 0, none⟩)]) := I4.cell 0
      have ca2 : w2.cell? ⟨w.heap.size, 0, none⟩ = some (.string a) := hca
      clear SL SH o1 o2 y1 y2 hk1 hk2 T2 A2 T4 hlen hto HCE hca
      cases tb with
      | false =>
        clear hbad
        have hst : ∀ W, (store ⟨w2.heap.size, 0, none⟩ (.func (.func 51) #[] #[.pointer (some ⟨w.heap.size, 0, none⟩)])).run Tryz.prog W = stored Tryz.prog W ⟨w2.heap.size, 0, none⟩ (.func (.func 51) #[] #[.pointer (some ⟨w.heap.size, 0, none⟩)]) .plain := fun W => run_store Tryz.prog W _ _ _ rfl
        go_wp2
        rw [← hw4, ← hib]
        clear hw4 hib
        have zHS : Hid (∀ V, Below w4.heap.size w4 V → V.cell? ⟨w.heap.size, 0, none⟩ = some (.string a) ∧ V.cell? ⟨ib, 0, none⟩ = some (.func (.func 51) #[] #[.pointer (some ⟨w.heap.size, 0, none⟩)])) := fun V hV => ⟨(hV.cell (World.block_lt_of_cell? _ _ ca)).trans ca, (hV.cell (World.block_lt_of_cell? _ _ cb)).trans cb⟩
        have zE0 : Below w4.heap.size w4 w4.drew := (Below.refl _ _).drew
        refine wp_region_noPanic ?_
        refine wp_region_held_drew (S := fun V => V.cell? ⟨w.heap.size, 0, none⟩ = some (.string a) ∧ V.cell? ⟨ib, 0, none⟩ = some (.func (.func 51) #[] #[.pointer (some ⟨w.heap.size, 0, none⟩)])) (by kernel_rfl) (zHS.out _ zE0) (fun zH0 => ?_)
        obtain ⟨zv0, hv0⟩ : ∃ v, v = w4.drew := ⟨_, rfl⟩
        rw [← hv0] at zH0 zE0 ⊢
        clear hv0
        refine hr_take_w 0 (some 43) (.string f) rfl rfl (by kernel_rfl) (by kernel_rfl) (by kernel_rfl) rfl (fun W hW => by obtain ⟨h0, h1⟩ := hW; go_simp) zH0 ?_
        simp only [FL]
        refine hr_take_w 1 (some 44) (.string a) rfl rfl (by kernel_rfl) (by kernel_rfl) (by kernel_rfl) rfl (fun W hW => by obtain ⟨h0, h1⟩ := hW; go_simp) zH0 ?_
        simp only [FL]
        refine hr_take_w 2 (some 45) (.pointer (some ⟨p, 0, none⟩)) rfl rfl (by kernel_rfl) (by kernel_rfl) (by kernel_rfl) rfl (fun W hW => by obtain ⟨h0, h1⟩ := hW; go_simp) zH0 ?_
        simp only [FL]
        refine hr_take_w 4 (some 47) (.func (.func 52) #[] #[.pointer (some ⟨ib, 0, none⟩)]) rfl rfl (by kernel_rfl) (by kernel_rfl) (by kernel_rfl) rfl (fun W hW => by obtain ⟨h0, h1⟩ := hW; go_simp) zH0 ?_
        simp only [FL]
        refine hr_call_w 3 (some 46) 17 #[.pointer (some ⟨p, 0, none⟩)] rfl rfl (by kernel_rfl) rfl (by go_simp) (fun v w' => ∃ co cn cc cl, v = .slice co cn cc ∧ ((∃ base, w4.heap.size ≤ base ∧ CRow w' base (.slice co cn cc) cl) ∧ cl.map CA.c = cs) ∧ Below zv0.heap.size zv0 w') ((zCE.out zv0 zE0).mono (by
          rintro e w' ⟨co, cn, cc, cl, rfl, F, C⟩
          exact ⟨_, rfl, co, cn, cc, cl, rfl, F, C⟩)) ?_
        rintro v zv1 ⟨co, cn, cc, cl, rfl, zF0, zC0⟩
        have zE1 := zE0.trans (zC0.mono zE0.size)
        have zH1 := zHS.out zv1 zE1
        refine ⟨zH1, ?_⟩
        simp only [FL]
        obtain ⟨⟨base, hbase, CR⟩, hcl⟩ := zF0
        refine hr_call_w 5 (some 48) 53 #[.slice co cn cc, .func (.func 52) #[] #[.pointer (some ⟨ib, 0, none⟩)]] rfl rfl (by kernel_rfl) rfl (by go_simp) (fun v w' => ∃ eo en ec el, v = .slice eo en ec ∧ (CL w' eo en ec el ∧ el.map CA.c = (cs.filter (belR a))) ∧ Below w4.heap.size w4 w') (((HDEL.out w4 zv1 (Below.refl _ _) zE1 co cn cc cl base hbase CR hcl).1).mono (by
          rintro e w' ⟨eo, en, ec, el, rfl, F, C⟩
          exact ⟨_, rfl, eo, en, ec, el, rfl, F, C⟩)) ?_
        rintro v zv2 ⟨eo, en, ec, el, rfl, ⟨LE, hel⟩, zE2⟩
        have zH2 := zHS.out zv2 zE2
        refine ⟨zH2, ?_⟩
        simp only [FL]
        refine hr_call_w 6 (some 49) 11 #[.string f, .string a, .slice eo en ec] rfl rfl (by kernel_rfl) rfl (by go_simp) (fun v w' => ∃ q1, v = .tuple #[.pointer (some ⟨q1, 0, none⟩), .int .i64 0] ∧ (w4.heap.size ≤ q1 ∧ TB w' q1 f a (cs.filter (belR a))) ∧ Below zv2.heap.size zv2 w') ((HOF.out w4 zv2 (Below.refl _ _) zE2 eo en ec el LE hel).mono (by
          rintro e w' ⟨q1, rfl, F, C⟩
          exact ⟨_, rfl, q1, rfl, F, C⟩)) ?_
        rintro v zv3 ⟨q1, rfl, zF2, zC2⟩
        have zE3 := zE2.trans (zC2.mono zE2.size)
        have zH3 := zHS.out zv3 zE3
        refine ⟨zH3, ?_⟩
        simp only [FL]
        refine hr_take_w 7 (some 42) (.tuple #[.pointer (some ⟨q1, 0, none⟩), .int .i64 0]) rfl rfl (by kernel_rfl) (by kernel_rfl) (by kernel_rfl) rfl (fun W hW => by obtain ⟨h0, h1⟩ := hW; go_simp) zH3 ?_
        simp only [FL]
        refine hr_take_w 8 (some 50) (.pointer (some ⟨q1, 0, none⟩)) rfl rfl (by kernel_rfl) (by kernel_rfl) (by kernel_rfl) rfl (fun W hW => by obtain ⟨h0, h1⟩ := hW; go_simp) zH3 ?_
        simp only [FL]
        refine hr_take_w 9 (some 51) (.int .i64 0) rfl rfl (by kernel_rfl) (by kernel_rfl) (by kernel_rfl) rfl (fun W hW => by obtain ⟨h0, h1⟩ := hW; go_simp) zH3 ?_
        simp only [FL]
        refine hr_take_w 10 (some 4) (.pointer (some ⟨q1, 0, none⟩)) rfl rfl (by kernel_rfl) (by kernel_rfl) (by kernel_rfl) rfl (fun W hW => by obtain ⟨h0, h1⟩ := hW; go_simp) zH3 ?_
        simp only [FL]
        refine wpAnyH_done (by kernel_rfl) ?_ _
        refine NoPanic.normal ?_
        obtain ⟨hq1, X1⟩ := zF2
        have zB : Below w4.heap.size w4 zv3 := zE3
        have HX1 : Hid (q1 < zv3.heap.size) := X1.lt
        have ca := (zB.cell (World.block_lt_of_cell? _ _ ca)).trans ca
        have cb := (zB.cell (World.block_lt_of_cell? _ _ cb)).trans cb
        have B6 := B4.trans (zB.mono B4.size)
        have yCE : Hid (∀ V, Below zv3.heap.size zv3 V → Calls Tryz.prog 17 #[.pointer (some ⟨p, 0, none⟩)] V fun e w' => ∃ co cn cc cl, e = .returned (.slice co cn cc) ∧ ((∃ base, zv3.heap.size ≤ base ∧ CRow w' base (.slice co cn cc) cl) ∧ cl.map CA.c = cs) ∧ Below V.heap.size V w') := fun V hV => (zCE2.out V (zB.trans (hV.mono zB.size))).mono (by
          rintro e w' ⟨co, cn, cc, cl, rfl, ⟨⟨base, hb, R⟩, hl⟩, B⟩
          exact ⟨co, cn, cc, cl, rfl, ⟨⟨base, Nat.le_trans hV.size hb, R⟩, hl⟩, B⟩)
        clear zHS zH0 zH1 zH2 zH3 CR hcl LE hel
        go_wp2
        have yHS : Hid (∀ V, Below zv3.heap.size zv3 V → V.cell? ⟨w.heap.size, 0, none⟩ = some (.string a) ∧ V.cell? ⟨ib, 0, none⟩ = some (.func (.func 51) #[] #[.pointer (some ⟨w.heap.size, 0, none⟩)])) := fun V hV => ⟨(hV.cell (World.block_lt_of_cell? _ _ ca)).trans ca, (hV.cell (World.block_lt_of_cell? _ _ cb)).trans cb⟩
        have yE0 : Below zv3.heap.size zv3 zv3.drew := (Below.refl _ _).drew
        refine wp_region_noPanic ?_
        refine wp_region_held_drew (S := fun V => V.cell? ⟨w.heap.size, 0, none⟩ = some (.string a) ∧ V.cell? ⟨ib, 0, none⟩ = some (.func (.func 51) #[] #[.pointer (some ⟨w.heap.size, 0, none⟩)])) (by kernel_rfl) (yHS.out _ yE0) (fun yH0 => ?_)
        obtain ⟨yv0, hv0⟩ : ∃ v, v = zv3.drew := ⟨_, rfl⟩
        rw [← hv0] at yH0 yE0 ⊢
        clear hv0
        refine hr_take_w 0 (some 53) (.string a) rfl rfl (by kernel_rfl) (by kernel_rfl) (by kernel_rfl) rfl (fun W hW => by obtain ⟨h0, h1⟩ := hW; go_simp) yH0 ?_
        simp only [FL]
        refine hr_take_w 1 (some 54) (.string t) rfl rfl (by kernel_rfl) (by kernel_rfl) (by kernel_rfl) rfl (fun W hW => by obtain ⟨h0, h1⟩ := hW; go_simp) yH0 ?_
        simp only [FL]
        refine hr_take_w 2 (some 55) (.pointer (some ⟨p, 0, none⟩)) rfl rfl (by kernel_rfl) (by kernel_rfl) (by kernel_rfl) rfl (fun W hW => by obtain ⟨h0, h1⟩ := hW; go_simp) yH0 ?_
        simp only [FL]
        refine hr_take_w 4 (some 57) (.func (.func 51) #[] #[.pointer (some ⟨w.heap.size, 0, none⟩)]) rfl rfl (by kernel_rfl) (by kernel_rfl) (by kernel_rfl) rfl (fun W hW => by obtain ⟨h0, h1⟩ := hW; go_simp) yH0 ?_
        simp only [FL]
        refine hr_call_w 3 (some 56) 17 #[.pointer (some ⟨p, 0, none⟩)] rfl rfl (by kernel_rfl) rfl (by go_simp) (fun v w' => ∃ co cn cc cl, v = .slice co cn cc ∧ ((∃ base, zv3.heap.size ≤ base ∧ CRow w' base (.slice co cn cc) cl) ∧ cl.map CA.c = cs) ∧ Below yv0.heap.size yv0 w') ((yCE.out yv0 yE0).mono (by
          rintro e w' ⟨co, cn, cc, cl, rfl, F, C⟩
          exact ⟨_, rfl, co, cn, cc, cl, rfl, F, C⟩)) ?_
        rintro v yv1 ⟨co, cn, cc, cl, rfl, yF0, yC0⟩
        have yE1 := yE0.trans (yC0.mono yE0.size)
        have yH1 := yHS.out yv1 yE1
        refine ⟨yH1, ?_⟩
        simp only [FL]
        obtain ⟨⟨base, hbase, CR⟩, hcl⟩ := yF0
        refine hr_call_w 5 (some 58) 53 #[.slice co cn cc, .func (.func 51) #[] #[.pointer (some ⟨w.heap.size, 0, none⟩)]] rfl rfl (by kernel_rfl) rfl (by go_simp) (fun v w' => ∃ eo en ec el, v = .slice eo en ec ∧ (CL w' eo en ec el ∧ el.map CA.c = (cs.filter fun c => !(belR a c))) ∧ Below zv3.heap.size zv3 w') (((HDEL.out zv3 yv1 zB yE1 co cn cc cl base hbase CR hcl).2).mono (by
          rintro e w' ⟨eo, en, ec, el, rfl, F, C⟩
          exact ⟨_, rfl, eo, en, ec, el, rfl, F, C⟩)) ?_
        rintro v yv2 ⟨eo, en, ec, el, rfl, ⟨LE, hel⟩, yE2⟩
        have yH2 := yHS.out yv2 yE2
        refine ⟨yH2, ?_⟩
        simp only [FL]
        refine hr_call_w 6 (some 59) 11 #[.string a, .string t, .slice eo en ec] rfl rfl (by kernel_rfl) rfl (by go_simp) (fun v w' => ∃ q2, v = .tuple #[.pointer (some ⟨q2, 0, none⟩), .int .i64 0] ∧ (zv3.heap.size ≤ q2 ∧ TB w' q2 a t (cs.filter fun c => !(belR a c))) ∧ Below yv2.heap.size yv2 w') ((HOG.out zv3 yv2 zB yE2 eo en ec el LE hel).mono (by
          rintro e w' ⟨q2, rfl, F, C⟩
          exact ⟨_, rfl, q2, rfl, F, C⟩)) ?_
        rintro v yv3 ⟨q2, rfl, yF2, yC2⟩
        have yE3 := yE2.trans (yC2.mono yE2.size)
        have yH3 := yHS.out yv3 yE3
        refine ⟨yH3, ?_⟩
        simp only [FL]
        refine hr_take_w 7 (some 52) (.tuple #[.pointer (some ⟨q2, 0, none⟩), .int .i64 0]) rfl rfl (by kernel_rfl) (by kernel_rfl) (by kernel_rfl) rfl (fun W hW => by obtain ⟨h0, h1⟩ := hW; go_simp) yH3 ?_
        simp only [FL]
        refine hr_take_w 8 (some 60) (.pointer (some ⟨q2, 0, none⟩)) rfl rfl (by kernel_rfl) (by kernel_rfl) (by kernel_rfl) rfl (fun W hW => by obtain ⟨h0, h1⟩ := hW; go_simp) yH3 ?_
        simp only [FL]
        refine hr_take_w 9 (some 61) (.int .i64 0) rfl rfl (by kernel_rfl) (by kernel_rfl) (by kernel_rfl) rfl (fun W hW => by obtain ⟨h0, h1⟩ := hW; go_simp) yH3 ?_
        simp only [FL]
        refine hr_take_w 10 (some 5) (.pointer (some ⟨q2, 0, none⟩)) rfl rfl (by kernel_rfl) (by kernel_rfl) (by kernel_rfl) rfl (fun W hW => by obtain ⟨h0, h1⟩ := hW; go_simp) yH3 ?_
        simp only [FL]
        refine wpAnyH_done (by kernel_rfl) ?_ _
        refine NoPanic.normal ?_
        obtain ⟨hq2, X2⟩ := yF2
        have X1 := X1.below yE3
        have B7 := B6.trans (yE3.mono B6.size)
        go_wp2
        exact bodyPost_ret (v := .tuple #[.pointer (some ⟨q1, 0, none⟩), .pointer (some ⟨q2, 0, none⟩), .int .i64 0]) (by simp [results, Tryz.results20, go_sem]) rfl (.inl ⟨HFK.out, q1, q2, Nat.le_trans B4.size hq1, Nat.lt_of_lt_of_le HX1.out hq2, rfl, X1, X2, B7⟩)
      | true =>
        obtain rfl : db = true := by
          cases db with
          | true => rfl
          | false => exact absurd ⟨rfl, rfl⟩ hbad
        clear hbad
        have hst : ∀ W, (store ⟨w2.heap.size, 0, none⟩ (.func (.func 51) #[] #[.pointer (some ⟨w.heap.size, 0, none⟩)])).run Tryz.prog W = stored Tryz.prog W ⟨w2.heap.size, 0, none⟩ (.func (.func 51) #[] #[.pointer (some ⟨w.heap.size, 0, none⟩)]) .plain := fun W => run_store Tryz.prog W _ _ _ rfl
        go_wp2
        rw [← hw4, ← hib]
        clear hw4 hib
        have zHS : Hid (∀ V, Below w4.heap.size w4 V → V.cell? ⟨w.heap.size, 0, none⟩ = some (.string a) ∧ V.cell? ⟨ib, 0, none⟩ = some (.func (.func 51) #[] #[.pointer (some ⟨w.heap.size, 0, none⟩)])) := fun V hV => ⟨(hV.cell (World.block_lt_of_cell? _ _ ca)).trans ca, (hV.cell (World.block_lt_of_cell? _ _ cb)).trans cb⟩
        have zE0 : Below w4.heap.size w4 w4.drew := (Below.refl _ _).drew
        refine wp_region_noPanic ?_
        refine wp_region_held_drew (S := fun V => V.cell? ⟨w.heap.size, 0, none⟩ = some (.string a) ∧ V.cell? ⟨ib, 0, none⟩ = some (.func (.func 51) #[] #[.pointer (some ⟨w.heap.size, 0, none⟩)])) (by kernel_rfl) (zHS.out _ zE0) (fun zH0 => ?_)
        obtain ⟨zv0, hv0⟩ : ∃ v, v = w4.drew := ⟨_, rfl⟩
        rw [← hv0] at zH0 zE0 ⊢
        clear hv0
        refine hr_take_w 0 (some 43) (.string f) rfl rfl (by kernel_rfl) (by kernel_rfl) (by kernel_rfl) rfl (fun W hW => by obtain ⟨h0, h1⟩ := hW; go_simp) zH0 ?_
        simp only [FL]
        refine hr_take_w 1 (some 44) (.string a) rfl rfl (by kernel_rfl) (by kernel_rfl) (by kernel_rfl) rfl (fun W hW => by obtain ⟨h0, h1⟩ := hW; go_simp) zH0 ?_
        simp only [FL]
        refine hr_take_w 2 (some 45) (.pointer (some ⟨p, 0, none⟩)) rfl rfl (by kernel_rfl) (by kernel_rfl) (by kernel_rfl) rfl (fun W hW => by obtain ⟨h0, h1⟩ := hW; go_simp) zH0 ?_
        simp only [FL]
        refine hr_take_w 4 (some 47) (.func (.func 52) #[] #[.pointer (some ⟨ib, 0, none⟩)]) rfl rfl (by kernel_rfl) (by kernel_rfl) (by kernel_rfl) rfl (fun W hW => by obtain ⟨h0, h1⟩ := hW; go_simp) zH0 ?_
        simp only [FL]
        refine hr_call_w 3 (some 46) 17 #[.pointer (some ⟨p, 0, none⟩)] rfl rfl (by kernel_rfl) rfl (by go_simp) (fun v w' => ∃ co cn cc cl, v = .slice co cn cc ∧ ((∃ base, w4.heap.size ≤ base ∧ CRow w' base (.slice co cn cc) cl) ∧ cl.map CA.c = cs) ∧ Below zv0.heap.size zv0 w') ((zCE.out zv0 zE0).mono (by
          rintro e w' ⟨co, cn, cc, cl, rfl, F, C⟩
          exact ⟨_, rfl, co, cn, cc, cl, rfl, F, C⟩)) ?_
        rintro v zv1 ⟨co, cn, cc, cl, rfl, zF0, zC0⟩
        have zE1 := zE0.trans (zC0.mono zE0.size)
        have zH1 := zHS.out zv1 zE1
        refine ⟨zH1, ?_⟩
        simp only [FL]
        obtain ⟨⟨base, hbase, CR⟩, hcl⟩ := zF0
        refine hr_call_w 5 (some 48) 53 #[.slice co cn cc, .func (.func 52) #[] #[.pointer (some ⟨ib, 0, none⟩)]] rfl rfl (by kernel_rfl) rfl (by go_simp) (fun v w' => ∃ eo en ec el, v = .slice eo en ec ∧ (CL w' eo en ec el ∧ el.map CA.c = (cs.filter (belR a))) ∧ Below w4.heap.size w4 w') (((HDEL.out w4 zv1 (Below.refl _ _) zE1 co cn cc cl base hbase CR hcl).1).mono (by
          rintro e w' ⟨eo, en, ec, el, rfl, F, C⟩
          exact ⟨_, rfl, eo, en, ec, el, rfl, F, C⟩)) ?_
        rintro v zv2 ⟨eo, en, ec, el, rfl, ⟨LE, hel⟩, zE2⟩
        have zH2 := zHS.out zv2 zE2
        refine ⟨zH2, ?_⟩
        simp only [FL]
        refine hr_call_w 6 (some 49) 11 #[.string f, .string a, .slice eo en ec] rfl rfl (by kernel_rfl) rfl (by go_simp) (fun v w' => ∃ q1, v = .tuple #[.pointer (some ⟨q1, 0, none⟩), .int .i64 0] ∧ (w4.heap.size ≤ q1 ∧ TB w' q1 f a (cs.filter (belR a))) ∧ Below zv2.heap.size zv2 w') ((HOF.out w4 zv2 (Below.refl _ _) zE2 eo en ec el LE hel).mono (by
          rintro e w' ⟨q1, rfl, F, C⟩
          exact ⟨_, rfl, q1, rfl, F, C⟩)) ?_
        rintro v zv3 ⟨q1, rfl, zF2, zC2⟩
        have zE3 := zE2.trans (zC2.mono zE2.size)
        have zH3 := zHS.out zv3 zE3
        refine ⟨zH3, ?_⟩
        simp only [FL]
        refine hr_take_w 7 (some 42) (.tuple #[.pointer (some ⟨q1, 0, none⟩), .int .i64 0]) rfl rfl (by kernel_rfl) (by kernel_rfl) (by kernel_rfl) rfl (fun W hW => by obtain ⟨h0, h1⟩ := hW; go_simp) zH3 ?_
        simp only [FL]
        refine hr_take_w 8 (some 50) (.pointer (some ⟨q1, 0, none⟩)) rfl rfl (by kernel_rfl) (by kernel_rfl) (by kernel_rfl) rfl (fun W hW => by obtain ⟨h0, h1⟩ := hW; go_simp) zH3 ?_
        simp only [FL]
        refine hr_take_w 9 (some 51) (.int .i64 0) rfl rfl (by kernel_rfl) (by kernel_rfl) (by kernel_rfl) rfl (fun W hW => by obtain ⟨h0, h1⟩ := hW; go_simp) zH3 ?_
        simp only [FL]
        refine hr_take_w 10 (some 4) (.pointer (some ⟨q1, 0, none⟩)) rfl rfl (by kernel_rfl) (by kernel_rfl) (by kernel_rfl) rfl (fun W hW => by obtain ⟨h0, h1⟩ := hW; go_simp) zH3 ?_
        simp only [FL]
        refine wpAnyH_done (by kernel_rfl) ?_ _
        refine NoPanic.normal ?_
        obtain ⟨hq1, X1⟩ := zF2
        have zB : Below w4.heap.size w4 zv3 := zE3
        have HX1 : Hid (q1 < zv3.heap.size) := X1.lt
        have ca := (zB.cell (World.block_lt_of_cell? _ _ ca)).trans ca
        have cb := (zB.cell (World.block_lt_of_cell? _ _ cb)).trans cb
        have B6 := B4.trans (zB.mono B4.size)
        have yCE : Hid (∀ V, Below zv3.heap.size zv3 V → Calls Tryz.prog 17 #[.pointer (some ⟨p, 0, none⟩)] V fun e w' => ∃ co cn cc cl, e = .returned (.slice co cn cc) ∧ ((∃ base, zv3.heap.size ≤ base ∧ CRow w' base (.slice co cn cc) cl) ∧ cl.map CA.c = cs) ∧ Below V.heap.size V w') := fun V hV => (zCE2.out V (zB.trans (hV.mono zB.size))).mono (by
          rintro e w' ⟨co, cn, cc, cl, rfl, ⟨⟨base, hb, R⟩, hl⟩, B⟩
          exact ⟨co, cn, cc, cl, rfl, ⟨⟨base, Nat.le_trans hV.size hb, R⟩, hl⟩, B⟩)
        clear zHS zH0 zH1 zH2 zH3 CR hcl LE hel
        go_wp2
        have yHS : Hid (∀ V, Below zv3.heap.size zv3 V → V.cell? ⟨w.heap.size, 0, none⟩ = some (.string a) ∧ V.cell? ⟨ib, 0, none⟩ = some (.func (.func 51) #[] #[.pointer (some ⟨w.heap.size, 0, none⟩)])) := fun V hV => ⟨(hV.cell (World.block_lt_of_cell? _ _ ca)).trans ca, (hV.cell (World.block_lt_of_cell? _ _ cb)).trans cb⟩
        have yE0 : Below zv3.heap.size zv3 zv3.drew := (Below.refl _ _).drew
        refine wp_region_noPanic ?_
        refine wp_region_held_drew (S := fun V => V.cell? ⟨w.heap.size, 0, none⟩ = some (.string a) ∧ V.cell? ⟨ib, 0, none⟩ = some (.func (.func 51) #[] #[.pointer (some ⟨w.heap.size, 0, none⟩)])) (by kernel_rfl) (yHS.out _ yE0) (fun yH0 => ?_)
        obtain ⟨yv0, hv0⟩ : ∃ v, v = zv3.drew := ⟨_, rfl⟩
        rw [← hv0] at yH0 yE0 ⊢
        clear hv0
        refine hr_take_w 0 (some 53) (.string a) rfl rfl (by kernel_rfl) (by kernel_rfl) (by kernel_rfl) rfl (fun W hW => by obtain ⟨h0, h1⟩ := hW; go_simp) yH0 ?_
        simp only [FL]
        refine hr_take_w 1 (some 54) (.string t) rfl rfl (by kernel_rfl) (by kernel_rfl) (by kernel_rfl) rfl (fun W hW => by obtain ⟨h0, h1⟩ := hW; go_simp) yH0 ?_
        simp only [FL]
        refine hr_take_w 2 (some 55) (.pointer (some ⟨p, 0, none⟩)) rfl rfl (by kernel_rfl) (by kernel_rfl) (by kernel_rfl) rfl (fun W hW => by obtain ⟨h0, h1⟩ := hW; go_simp) yH0 ?_
        simp only [FL]
        refine hr_take_w 4 (some 57) (.func (.func 51) #[] #[.pointer (some ⟨w.heap.size, 0, none⟩)]) rfl rfl (by kernel_rfl) (by kernel_rfl) (by kernel_rfl) rfl (fun W hW => by obtain ⟨h0, h1⟩ := hW; go_simp) yH0 ?_
        simp only [FL]
        refine hr_call_w 3 (some 56) 17 #[.pointer (some ⟨p, 0, none⟩)] rfl rfl (by kernel_rfl) rfl (by go_simp) (fun v w' => ∃ co cn cc cl, v = .slice co cn cc ∧ ((∃ base, zv3.heap.size ≤ base ∧ CRow w' base (.slice co cn cc) cl) ∧ cl.map CA.c = cs) ∧ Below yv0.heap.size yv0 w') ((yCE.out yv0 yE0).mono (by
          rintro e w' ⟨co, cn, cc, cl, rfl, F, C⟩
          exact ⟨_, rfl, co, cn, cc, cl, rfl, F, C⟩)) ?_
        rintro v yv1 ⟨co, cn, cc, cl, rfl, yF0, yC0⟩
        have yE1 := yE0.trans (yC0.mono yE0.size)
        have yH1 := yHS.out yv1 yE1
        refine ⟨yH1, ?_⟩
        simp only [FL]
        obtain ⟨⟨base, hbase, CR⟩, hcl⟩ := yF0
        refine hr_call_w 5 (some 58) 53 #[.slice co cn cc, .func (.func 51) #[] #[.pointer (some ⟨w.heap.size, 0, none⟩)]] rfl rfl (by kernel_rfl) rfl (by go_simp) (fun v w' => ∃ eo en ec el, v = .slice eo en ec ∧ (CL w' eo en ec el ∧ el.map CA.c = (cs.filter fun c => !(belR a c))) ∧ Below zv3.heap.size zv3 w') (((HDEL.out zv3 yv1 zB yE1 co cn cc cl base hbase CR hcl).2).mono (by
          rintro e w' ⟨eo, en, ec, el, rfl, F, C⟩
          exact ⟨_, rfl, eo, en, ec, el, rfl, F, C⟩)) ?_
        rintro v yv2 ⟨eo, en, ec, el, rfl, ⟨LE, hel⟩, yE2⟩
        have yH2 := yHS.out yv2 yE2
        refine ⟨yH2, ?_⟩
        simp only [FL]
        refine hr_call_w 6 (some 59) 11 #[.string a, .string t, .slice eo en ec] rfl rfl (by kernel_rfl) rfl (by go_simp) (fun v w' => ∃ q2, v = .tuple #[.pointer (some ⟨q2, 0, none⟩), .int .i64 0] ∧ (zv3.heap.size ≤ q2 ∧ TB w' q2 a t (cs.filter fun c => !(belR a c))) ∧ Below yv2.heap.size yv2 w') ((HOG.out zv3 yv2 zB yE2 eo en ec el LE hel).mono (by
          rintro e w' ⟨q2, rfl, F, C⟩
          exact ⟨_, rfl, q2, rfl, F, C⟩)) ?_
        rintro v yv3 ⟨q2, rfl, yF2, yC2⟩
        have yE3 := yE2.trans (yC2.mono yE2.size)
        have yH3 := yHS.out yv3 yE3
        refine ⟨yH3, ?_⟩
        simp only [FL]
        refine hr_take_w 7 (some 52) (.tuple #[.pointer (some ⟨q2, 0, none⟩), .int .i64 0]) rfl rfl (by kernel_rfl) (by kernel_rfl) (by kernel_rfl) rfl (fun W hW => by obtain ⟨h0, h1⟩ := hW; go_simp) yH3 ?_
        simp only [FL]
        refine hr_take_w 8 (some 60) (.pointer (some ⟨q2, 0, none⟩)) rfl rfl (by kernel_rfl) (by kernel_rfl) (by kernel_rfl) rfl (fun W hW => by obtain ⟨h0, h1⟩ := hW; go_simp) yH3 ?_
        simp only [FL]
        refine hr_take_w 9 (some 61) (.int .i64 0) rfl rfl (by kernel_rfl) (by kernel_rfl) (by kernel_rfl) rfl (fun W hW => by obtain ⟨h0, h1⟩ := hW; go_simp) yH3 ?_
        simp only [FL]
        refine hr_take_w 10 (some 5) (.pointer (some ⟨q2, 0, none⟩)) rfl rfl (by kernel_rfl) (by kernel_rfl) (by kernel_rfl) rfl (fun W hW => by obtain ⟨h0, h1⟩ := hW; go_simp) yH3 ?_
        simp only [FL]
        refine wpAnyH_done (by kernel_rfl) ?_ _
        refine NoPanic.normal ?_
        obtain ⟨hq2, X2⟩ := yF2
        have X1 := X1.below yE3
        have B7 := B6.trans (yE3.mono B6.size)
        go_wp2
        exact bodyPost_ret (v := .tuple #[.pointer (some ⟨q1, 0, none⟩), .pointer (some ⟨q2, 0, none⟩), .int .i64 0]) (by simp [results, Tryz.results20, go_sem]) rfl (.inl ⟨HFK.out, q1, q2, Nat.le_trans B4.size hq1, Nat.lt_of_lt_of_le HX1.out hq2, rfl, X1, X2, B7⟩)
end Go.Proofs.YtlljmhcgjkolpaaGreatDoor

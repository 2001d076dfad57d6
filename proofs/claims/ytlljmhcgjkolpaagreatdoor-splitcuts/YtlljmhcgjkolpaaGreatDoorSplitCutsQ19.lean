/-
  Texts in one: TbJudge, TbStand, TbOf, TbCnt, TbTake, TbScan, TbClear, TbDel.
-/
import Derived.Test.YtlljmhcgjkolpaaGreatDoorSplitCutsQFL
import Derived.Test.YtlljmhcgjkolpaaGreatDoorSplitCutsQ10
import Derived.Test.YtlljmhcgjkolpaaGreatDoorSplitCutsQ18
import Derived.Test.YtlljmhcgjkolpaaGreatDoorSplitCutsQ0
import Derived.Test.YtlljmhcgjkolpaaGreatDoorSplitCutsQ3
import Derived.Lib.SliceRun
namespace Go.Proofs.YtlljmhcgjkolpaaGreatDoor
open Go.RowKit
def wrongV (c : CV) : Bool := decide (256 < c.value.length) || (c.gone && decide (0 < c.value.length))
def notR (c : CV) : Bool := !(c.ky.isRight)
def KA.colK (k : KA) : KA := ⟨k.row, k.fam, k.qual, 0⟩
def judgeK (f t : ByteArray) (cs : List CV) : Int :=
  if cs.any notR then 5
  else if cs.any (fun c => !(inRows f t c.row)) then 8
  else if cs.any wrongV || decide (1 < mostK (cs.map CV.ky)) then 1
  else if 4 < mostK (cs.map fun c => c.ky.colK) then 4
  else if 32 < cs.length then 9
  else 0
set_option maxHeartbeats 1000000 in
theorem j2_tells (w : World) : Tells w 61 #[] notR := fun W c hb _ => by
  show Calls Tryz.prog 61 #[.agg #[.string c.row, .string c.fam, .string c.qual, .int .u64 c.time, .slice c.va.ao c.va.n c.va.cap, .bool c.gone]] W _
  obtain ⟨W1, hW1⟩ : ∃ V, V = W.alloc (.cells #[.string c.row, .string c.fam, .string c.qual, .int .u64 c.time, .slice c.va.ao c.va.n c.va.cap, .bool c.gone] 33) := ⟨_, rfl⟩
  have C1 : Below W.heap.size W W1 := by rw [hW1]; exact (Below.refl _ _).alloc (Nat.le_refl _) _
  have CP := pright_any W1 c.key
  unfold KA.val CA.key at CP
  have HV : Hid (∀ b, KA.isRight ⟨c.row, c.fam, c.qual, c.time⟩ = b → notR c.c = !b) := fun b hb => by
    show (!(KA.isRight ⟨c.row, c.fam, c.qual, c.time⟩)) = !b
    rw [hb]
  cases hr : KA.isRight ⟨c.row, c.fam, c.qual, c.time⟩ with
  | true =>
    rw [show KA.kind ⟨c.row, c.fam, c.qual, c.time⟩ = 0 from if_pos hr] at CP
    have HW := HV.out _ hr
    have HW2 : Hid (notR c.c = false) := HW
    clear HV HW
    go_enter Tryz.func61, Tryz.ntmps61
    go_wp2_with fail
    rw [← hW1]
    refine CP.mono ?_
    rintro e w2 ⟨rfl, C2⟩
    go_wp2
    go_ret
    exact ⟨by rw [HW2.out] <;> rfl, C1.trans (C2.mono C1.size)⟩
  | false =>
    rw [show KA.kind ⟨c.row, c.fam, c.qual, c.time⟩ = 5 from if_neg (by rw [hr]; simp)] at CP
    have HW := HV.out _ hr
    have HW2 : Hid (notR c.c = true) := HW
    clear HV HW
    go_enter Tryz.func61, Tryz.ntmps61
    go_wp2_with fail
    rw [← hW1]
    refine CP.mono ?_
    rintro e w2 ⟨rfl, C2⟩
    go_wp2
    go_ret
    exact ⟨by rw [HW2.out] <;> rfl, C1.trans (C2.mono C1.size)⟩
set_option maxHeartbeats 1000000 in
theorem j3_tells (w : World) (p tb : Nat) (f t : ByteArray) (u : Option Addr) (hC : TbC w p f t u) (hB : Arr w tb 34 [.pointer (some ⟨p, 0, none⟩)]) : Tells w 63 #[.pointer (some ⟨tb, 0, none⟩)] (fun c => !(inRows f t c.row)) := fun W c hb _ => by
  show Calls Tryz.prog 63 #[.agg #[.string c.row, .string c.fam, .string c.qual, .int .u64 c.time, .slice c.va.ao c.va.n c.va.cap, .bool c.gone], .pointer (some ⟨tb, 0, none⟩)] W _
  obtain ⟨W1, hW1⟩ : ∃ V, V = W.alloc (.cells #[.string c.row, .string c.fam, .string c.qual, .int .u64 c.time, .slice c.va.ao c.va.n c.va.cap, .bool c.gone] 33) := ⟨_, rfl⟩
  have C1 : Below W.heap.size W W1 := by rw [hW1]; exact (Below.refl _ _).alloc (Nat.le_refl _) _
  have A1 := arr_below hB hb
  have q0 : W.cell? ⟨tb, 0, none⟩ = some (.pointer (some ⟨p, 0, none⟩)) := Arr.cell A1 0
  have lt := A1.lt
  have CP := hasRow_any W1 p f t c.row u (arr_below (arr_below hC hb) C1)
  clear A1
  go_enter Tryz.func63, Tryz.ntmps63
  go_wp2_with fail
  rw [← hW1]
  refine CP.mono ?_
  rintro e w2 ⟨rfl, hw⟩
  obtain rfl := hw.symm
  go_wp2
  go_ret
  exact ⟨rfl, by rw [← hW1]; exact C1⟩
set_option maxHeartbeats 2000000 in
theorem hw_tells (w : World) : Tells w 65 #[] wrongV := fun W c hb hok => by
  show Calls Tryz.prog 65 #[.agg #[.string c.row, .string c.fam, .string c.qual, .int .u64 c.time, .slice c.va.ao c.va.n c.va.cap, .bool c.gone]] W _
  have C1 : Below W.heap.size W (W.alloc (.cells #[.string c.row, .string c.fam, .string c.qual, .int .u64 c.time, .slice c.va.ao c.va.n c.va.cap, .bool c.gone] 33)) := (Below.refl _ _).alloc (Nat.le_refl _) _
  have hl := hok.va.len
  have hv : Hid (wrongV c.c = (decide (256 < c.va.n) || (c.gone && decide (0 < c.va.n)))) := by
    show (decide (256 < c.va.xs.length) || (c.gone && decide (0 < c.va.xs.length))) = _
    rw [hl]
  clear hl hok
  by_cases h1 : 256 < c.va.n
  · have i1 : (256 : Int) < (c.va.n : Int) := by omega
    have hw : Hid (wrongV c.c = true) := by
      show _ = _
      rw [hv.out, decide_eq_true h1, Bool.true_or]
    clear hv h1
    go_enter Tryz.func65, Tryz.ntmps65
    go_wp2
    go_ret
    exact ⟨by rw [hw.out] <;> rfl, C1⟩
  · have i1 : ¬ (256 : Int) < (c.va.n : Int) := by omega
    cases hg : c.gone with
    | false =>
      have hw : Hid (wrongV c.c = false) := by
        show _ = _
        rw [hv.out, decide_eq_false h1, hg, Bool.false_or, Bool.false_and]
      clear hv h1
      go_enter Tryz.func65, Tryz.ntmps65
      go_wp2
      go_ret
      exact ⟨by rw [hw.out] <;> rfl, by rw [← hg]; exact C1⟩
    | true =>
      by_cases h2 : 0 < c.va.n
      · have i2 : (0 : Int) < (c.va.n : Int) := by omega
        have hw : Hid (wrongV c.c = true) := by
          show _ = _
          rw [hv.out, hg, decide_eq_true h2, Bool.true_and, Bool.or_true]
        clear hv h1
        go_enter Tryz.func65, Tryz.ntmps65
        go_wp2
        go_ret
        exact ⟨by rw [hw.out] <;> rfl, by rw [← hg]; exact C1⟩
      · have i2 : ¬ (0 : Int) < (c.va.n : Int) := by omega
        have hw : Hid (wrongV c.c = false) := by
          show _ = _
          rw [hv.out, hg, decide_eq_false h1, decide_eq_false h2]
          rfl
        clear hv h1
        go_enter Tryz.func65, Tryz.ntmps65
        go_wp2
        go_ret
        exact ⟨by rw [hw.out] <;> rfl, by rw [← hg]; exact C1⟩
set_option maxHeartbeats 1000000 in
theorem whole_any (V : World) (k : KA) : Calls Tryz.prog 67 #[k.val] V fun e w' => e = .returned k.val ∧ Below V.heap.size V w' := by
  unfold KA.val
  have B : Below V.heap.size V ((V.alloc (.cells #[.string k.row, .string k.fam, .string k.qual, .int .u64 k.time] 24)).alloc (.cells #[.string k.row, .string k.fam, .string k.qual, .int .u64 k.time] 24)) := ((Below.refl _ _).alloc (Nat.le_refl _) _).alloc (by simp) _
  go_enter Tryz.func67, Tryz.ntmps67
  go_wp2
  exact bodyPost_ret (v := .agg #[.string k.row, .string k.fam, .string k.qual, .int .u64 k.time]) (by simp [results, Tryz.results67, go_sem]) rfl ⟨rfl, B⟩
set_option maxHeartbeats 1000000 in
theorem column_of (V : World) (k : KA) : Calls Tryz.prog 68 #[k.val] V fun e w' => e = .returned k.colK.val ∧ Below V.heap.size V w' := by
  unfold KA.val KA.colK
  have B : Below V.heap.size V ((V.alloc (.cells #[.string k.row, .string k.fam, .string k.qual, .int .u64 0] 24)).alloc (.cells #[.string k.row, .string k.fam, .string k.qual, .int .u64 0] 24)) := ((Below.refl _ _).alloc (Nat.le_refl _) _).alloc (by simp) _
  go_enter Tryz.func68, Tryz.ntmps68
  go_wp2
  exact bodyPost_ret (v := .agg #[.string k.row, .string k.fam, .string k.qual, .int .u64 0]) (by simp [results, Tryz.results68, go_sem]) rfl ⟨rfl, B⟩
set_option maxHeartbeats 1000000 in
theorem some_any (V : World) (bb g : Nat) (lb : Array Value) (pr : CV → Bool) (ao : Option Addr) (n cap : Nat) (l : List CA) (eg : ∀ args w, (callFunc g args).run Tryz.prog w = .ok (.enter g args) w) (hA : Arr V bb 31 [.slice ao n cap]) (h : CL V ao n cap l) (hn : n ≤ 1000) (hand : Tells V g lb pr) (b : Bool) (hb : Hid (b = (l.map CA.c).any pr)) :
    Calls Tryz.prog 59 #[.func (.func g) #[] lb, .pointer (some ⟨bb, 0, none⟩)] V fun e w' => e = .returned (.bool b) ∧ Below V.heap.size V w' := by
  have q0 : V.cell? ⟨bb, 0, none⟩ = some (.slice ao n cap) := hA.cell 0
  have CC := contains_any V ao n cap l g lb pr eg h hn hand b hb
  clear h hand hA hb
  go_enter Tryz.func59, Tryz.ntmps59
  go_wp2_with fail
  refine CC.mono ?_
  rintro e w2 ⟨rfl, C2⟩
  go_wp2
  go_ret
  exact ⟨rfl, C2⟩
set_option maxHeartbeats 4000000 in
set_option maxRecDepth 100000 in
theorem judge_any10 (w : World) (p : Nat) (f t : ByteArray) (u : Option Addr) (ao : Option Addr) (n cap : Nat) (l : List CA) (hC : TbC w p f t u) (L : CL w ao n cap l) (hn : n ≤ 1000) :
    Calls Tryz.prog 30 #[.pointer (some ⟨p, 0, none⟩), .slice ao n cap] w fun e w' => e = .returned (.int .i64 (judgeK f t (l.map CA.c))) ∧ Below w.heap.size w w' := by
  have hl := L.len
  obtain ⟨W1, hW1⟩ : ∃ V, V = w.alloc (.cells #[.pointer (some ⟨p, 0, none⟩)] 34) := ⟨_, rfl⟩
  obtain ⟨W2, hW2⟩ : ∃ V, V = W1.alloc (.cells #[.slice ao n cap] 31) := ⟨_, rfl⟩
  have C1 : Below w.heap.size w W1 := by rw [hW1]; exact (Below.refl _ _).alloc (Nat.le_refl _) _
  have C2 : Below W1.heap.size W1 W2 := by rw [hW2]; exact (Below.refl _ _).alloc (Nat.le_refl _) _
  have s1 : W1.heap.size = w.heap.size + 1 := by rw [hW1]; exact Array.size_push ..
  have B2 := C1.trans (C2.mono C1.size)
  have T1 : Arr W1 w.heap.size 34 [.pointer (some ⟨p, 0, none⟩)] := by rw [hW1]; exact heap_alloc_new w _
  have T2 := arr_below T1 C2
  have L2 : Arr W2 (w.heap.size + 1) 31 [.slice ao n cap] := by rw [hW2, ← s1]; exact heap_alloc_new W1 _
  obtain ⟨cs, hcs⟩ : ∃ cs, cs = l.map CA.c := ⟨_, rfl⟩
  have HCS : Hid (cs = l.map CA.c) := hcs
  have hcl : cs.length = n := by rw [hcs, List.length_map, hl]
  obtain ⟨b1, hb1⟩ : ∃ b, b = cs.any notR := ⟨_, rfl⟩
  obtain ⟨b2, hb2⟩ : ∃ b, b = cs.any (fun c => !(inRows f t c.row)) := ⟨_, rfl⟩
  obtain ⟨b3, hb3⟩ : ∃ b, b = cs.any wrongV := ⟨_, rfl⟩
  obtain ⟨m1, hm1⟩ : ∃ m, m = mostK (cs.map CV.ky) := ⟨_, rfl⟩
  obtain ⟨m2, hm2⟩ : ∃ m, m = mostK (cs.map fun c => c.ky.colK) := ⟨_, rfl⟩
  have HJ : Hid (judgeK f t (l.map CA.c) = if b1 then 5 else if b2 then 8 else if b3 || decide (1 < m1) then 1 else if 4 < m2 then 4 else if 32 < n then 9 else 0) := by
    show _ = _
    rw [← hcs]
    unfold judgeK
    rw [← hb1, ← hb2, ← hb3, ← hm1, ← hm2, hcl]
  have A1 := some_any W2 (w.heap.size + 1) 61 #[] notR ao n cap l (enters_of Tryz.func61 (by kernel_rfl) rfl) L2 (L.below B2) hn (j2_tells W2) b1 (by show _ = _; rw [hb1, hcs])
  have A2 : Hid (∀ V, Below W2.heap.size W2 V → Calls Tryz.prog 59 #[.func (.func 63) #[] #[.pointer (some ⟨w.heap.size, 0, none⟩)], .pointer (some ⟨w.heap.size + 1, 0, none⟩)] V fun e w' => e = .returned (.bool b2) ∧ Below V.heap.size V w') := fun V hV =>
    some_any V (w.heap.size + 1) 63 #[.pointer (some ⟨w.heap.size, 0, none⟩)] _ ao n cap l (enters_of Tryz.func63 (by kernel_rfl) rfl) (arr_below L2 hV) ((L.below B2).below hV) hn (j3_tells V p w.heap.size f t u (arr_below (arr_below hC B2) hV) (arr_below T2 hV)) b2 (by show _ = _; rw [hb2, hcs])
  have A3 : Hid (∀ V, Below W2.heap.size W2 V → Calls Tryz.prog 59 #[.func (.func 65) #[] #[], .pointer (some ⟨w.heap.size + 1, 0, none⟩)] V fun e w' => e = .returned (.bool b3) ∧ Below V.heap.size V w') := fun V hV =>
    some_any V (w.heap.size + 1) 65 #[] wrongV ao n cap l (enters_of Tryz.func65 (by kernel_rfl) rfl) (arr_below L2 hV) ((L.below B2).below hV) hn (hw_tells V) b3 (by show _ = _; rw [hb3, hcs])
  have A4 : Hid (∀ V, Below W2.heap.size W2 V → Calls Tryz.prog 66 #[.slice ao n cap, .func (.func 67) #[] #[]] V fun e w' => e = .returned (.int .i64 m1) ∧ Below V.heap.size V w') := fun V hV => by
    have := most_any V ao n cap l 67 (fun k => k) (enters_of Tryz.func67 (by kernel_rfl) rfl) ((L.below B2).below hV) hn whole_any (fun _ h => h)
    rw [show (l.map fun c => c.key) = cs.map CV.ky from by rw [hcs, List.map_map]; rfl, ← hm1] at this
    exact this
  have A5 : Hid (∀ V, Below W2.heap.size W2 V → Calls Tryz.prog 66 #[.slice ao n cap, .func (.func 68) #[] #[]] V fun e w' => e = .returned (.int .i64 m2) ∧ Below V.heap.size V w') := fun V hV => by
    have := most_any V ao n cap l 68 KA.colK (enters_of Tryz.func68 (by kernel_rfl) rfl) ((L.below B2).below hV) hn column_of (fun k h => ⟨h.row, h.fam, h.qual, show 0 < 18446744073709551616 by decide⟩)
    rw [show (l.map fun c => c.key.colK) = cs.map (fun c => c.ky.colK) from by rw [hcs, List.map_map]; rfl, ← hm2] at this
    exact this
  have e1 := fun (V : World) (args : Array Value) => enters_of (P := Tryz.prog) Tryz.func59 (by kernel_rfl) rfl args V
  have HL2 : Hid (Arr W2 (w.heap.size + 1) 31 [.slice ao n cap]) := L2
  rw [HJ.out]
  clear hcs hb1 hb2 hb3 hm1 hm2 hcl hl HJ T1 T2 L2 L hC HCS
  go_enter Tryz.func30, Tryz.ntmps30
  go_wp2_with fail
  rw [← hW1, ← hW2]
  clear hW1 hW2
  refine A1.mono ?_
  rintro e w3 ⟨rfl, C3⟩
  have B3 := B2.trans (C3.mono B2.size)
  clear A1
  cases b1 with
  | true =>
    go_wp2
    go_ret
    exact ⟨rfl, B3⟩
  | false =>
    have A2 := A2.out w3 C3
    go_wp2_with fail
    refine A2.mono ?_
    rintro e w4 ⟨rfl, C4⟩
    have E4 := C3.trans (C4.mono C3.size)
    have B4 := B2.trans (E4.mono B2.size)
    clear A2
    cases b2 with
    | true =>
      go_wp2
      go_ret
      exact ⟨rfl, B4⟩
    | false =>
      have A3 := A3.out w4 E4
      go_wp2_with fail
      refine A3.mono ?_
      rintro e w5 ⟨rfl, C5⟩
      have E5 := E4.trans (C5.mono E4.size)
      have B5 := B2.trans (E5.mono B2.size)
      clear A3
      cases b3 with
      | true =>
        go_wp2
        go_ret
        exact ⟨rfl, B5⟩
      | false =>
        have A4 := A4.out w5 E5
        have q5 : w5.cell? ⟨w.heap.size + 1, 0, none⟩ = some (.slice ao n cap) := (arr_below HL2.out E5).cell 0
        go_wp2_with fail
        refine A4.mono ?_
        rintro e w6 ⟨rfl, C6⟩
        have E6 := E5.trans (C6.mono E5.size)
        have B6 := B2.trans (E6.mono B2.size)
        clear A4 q5
        by_cases d1 : 1 < m1
        · have i1 : (1 : Int) < (m1 : Int) := by omega
          go_wp2
          go_ret
          exact ⟨by simp, B6⟩
        have i1 : ¬ (1 : Int) < (m1 : Int) := by omega
        have A5 := A5.out w6 E6
        have q6 : w6.cell? ⟨w.heap.size + 1, 0, none⟩ = some (.slice ao n cap) := (arr_below HL2.out E6).cell 0
        go_wp2_with fail
        refine A5.mono ?_
        rintro e w7 ⟨rfl, C7⟩
        have E7 := E6.trans (C7.mono E6.size)
        have B7 := B2.trans (E7.mono B2.size)
        have q7 : w7.cell? ⟨w.heap.size + 1, 0, none⟩ = some (.slice ao n cap) := (arr_below HL2.out E7).cell 0
        clear A5 q6
        by_cases d2 : 4 < m2
        · have i2 : (4 : Int) < (m2 : Int) := by omega
          go_wp2
          go_ret
          exact ⟨by simp, B7⟩
        have i2 : ¬ (4 : Int) < (m2 : Int) := by omega
        by_cases d3 : 32 < n
        · have i3 : (32 : Int) < (n : Int) := by omega
          go_wp2
          go_ret
          exact ⟨by simp, B7⟩
        have i3 : ¬ (32 : Int) < (n : Int) := by omega
        go_wp2
        go_ret
        exact ⟨by simp, B7⟩
open Go.RowKit
structure Stand (f t : ByteArray) (n : Nat) (cs : List CV) : Prop where
  srt : CSrt cs
  good : CGood cs
  rows : ∀ c ∈ cs, inRows f t c.row = true
  len : cs.length ≤ n
theorem Stand.nil (f t : ByteArray) : Stand f t 0 [] := ⟨List.Pairwise.nil, fun _ h => by simp at h, fun _ h => by simp at h, Nat.le_refl _⟩
theorem Stand.mono {f t : ByteArray} {n m : Nat} {cs : List CV} (h : Stand f t n cs) (hm : n ≤ m) : Stand f t m cs := ⟨h.srt, h.good, h.rows, Nat.le_trans h.len hm⟩
theorem Stand.lay {f t : ByteArray} {n : Nat} {cs : List CV} (h : Stand f t n cs) {c : CV} (hc : c.good) (hr : inRows f t c.row = true) : Stand f t (n + 1) (cIns cs c) :=
  ⟨h.srt.ins c, h.good.ins hc, fun x hx => by
    rcases mem_cIns hx with rfl | hx
    · exact hr
    · exact h.rows x hx, Nat.le_trans (cIns_len cs c) (Nat.succ_le_succ h.len)⟩
open Go.RowKit
def layAll (ds : List CV) : List CV → List CV
  | [] => ds
  | c :: cs => layAll (cIns ds c) cs
theorem layAll_snoc (cs : List CV) (ds : List CV) (c : CV) : layAll ds (cs ++ [c]) = cIns (layAll ds cs) c := by
  induction cs generalizing ds with
  | nil => rfl
  | cons x cs ih => exact ih _
theorem Stand.layAll {f t : ByteArray} : ∀ (cs : List CV) {n : Nat} {ds : List CV}, Stand f t n ds → (∀ c ∈ cs, c.good ∧ inRows f t c.row = true) → Stand f t (n + cs.length) (layAll ds cs)
  | [], _, _, h, _ => h
  | c :: cs, n, _, h, hc => by
    obtain ⟨h1, h2⟩ := hc c (List.mem_cons_self ..)
    have := Stand.layAll cs (h.lay h1 h2) (fun x hx => hc x (List.mem_cons_of_mem _ hx))
    rw [List.length_cons]
    exact this.mono (by omega)
def ofK (f t : ByteArray) (cs : List CV) : Int := if newK f t = 0 then judgeK f t cs else 1
theorem judgeK_ok {f t : ByteArray} {cs : List CV} (h : judgeK f t cs = 0) : (∀ c ∈ cs, notR c = false ∧ inRows f t c.row = true ∧ wrongV c = false) ∧ mostK (cs.map CV.ky) ≤ 1 ∧ mostK (cs.map fun c => c.ky.colK) ≤ 4 ∧ cs.length ≤ 32 := by
  unfold judgeK at h
  split at h
  · simp at h
  rename_i h1
  split at h
  · simp at h
  rename_i h2
  split at h
  · simp at h
  rename_i h3
  split at h
  · simp at h
  rename_i h4
  split at h
  · simp at h
  rename_i h5
  rw [Bool.or_eq_true, not_or] at h3
  obtain ⟨h3, h6⟩ := h3
  have h6 : ¬ 1 < mostK (cs.map CV.ky) := fun e => h6 (decide_eq_true e)
  refine ⟨fun c hc => ⟨?_, ?_, ?_⟩, by omega, by omega, by omega⟩
  · cases e : notR c with
    | false => rfl
    | true => exact absurd (List.any_eq_true.2 ⟨c, hc, e⟩) h1
  · cases e : inRows f t c.row with
    | true => rfl
    | false => exact absurd (List.any_eq_true.2 ⟨c, hc, by rw [e]; rfl⟩) h2
  · cases e : wrongV c with
    | false => rfl
    | true => exact absurd (List.any_eq_true.2 ⟨c, hc, e⟩) h3
theorem good_of {c : CV} (h1 : notR c = false) (h2 : wrongV c = false) (ht : c.time < 18446744073709551616) (hb : Byt c.value) : c.good := by
  unfold notR at h1
  have h1 : c.ky.isRight = true := by simpa using h1
  have h1 := of_decide_eq_true h1
  unfold wrongV at h2
  obtain ⟨h3, h4⟩ := Bool.or_eq_false_iff.1 h2
  have h3 := of_decide_eq_false h3
  refine ⟨?_, ht, by omega, hb, fun hg => ?_⟩
  · show 1 ≤ (sb c.row).length ∧ (sb c.row).length ≤ 32 ∧ 1 ≤ (sb c.fam).length ∧ (sb c.fam).length ≤ 32 ∧ (sb c.qual).length ≤ 32
    rw [sb_len, sb_len, sb_len]
    exact h1
  · rw [hg, Bool.true_and] at h4
    have := of_decide_eq_false h4
    exact List.eq_nil_of_length_eq_zero (by omega)
def OfPost (w : World) (f t : ByteArray) (cs : List CV) (e : Ending) (w' : World) : Prop :=
  (ofK f t cs = 0 ∧ ∃ p, w.heap.size ≤ p ∧ e = .returned (.tuple #[.pointer (some ⟨p, 0, none⟩), .int .i64 0]) ∧ TB w' p f t (layAll [] cs) ∧ Below w.heap.size w w') ∨ (ofK f t cs ≠ 0 ∧ e = .returned (.tuple #[.pointer none, .int .i64 (ofK f t cs)]) ∧ Below w.heap.size w w')
set_option maxHeartbeats 4000000 in
set_option maxRecDepth 100000 in
theorem of_any10 (w : World) (f t : ByteArray) (ao : Option Addr) (n cap : Nat) (l : List CA) (hTb : Tabs w) (hf : f.size ≤ 1000000) (ht : t.size ≤ 1000000) (L : CL w ao n cap l) (hn : n ≤ 800) :
    Calls Tryz.prog 11 #[.string f, .string t, .slice ao n cap] w (OfPost w f t (l.map CA.c)) := by
  have t2 := hTb.two
  have HTb : Hid (Tabs w) := hTb
  have hl1 := Nat.le_of_eq L.len
  have hl2 := Nat.le_of_eq L.len.symm
  have CN := tnew_any w f t hf ht
  obtain ⟨cs, hcs⟩ : ∃ cs, cs = l.map CA.c := ⟨_, rfl⟩
  have HCS : Hid (cs = l.map CA.c) := hcs
  rw [← hcs]
  clear hTb hcs
  go_enter Tryz.func11, Tryz.ntmps11
  go_wp2_with fail
  refine CN.mono ?_
  rintro e w1 (⟨hk0, rfl, X1, C1⟩ | ⟨hk1, rfl, hw⟩)
  case inr =>
    obtain rfl := hw.symm
    clear CN
    have hz : ofK f t cs = 1 := by unfold ofK; rw [hk1]; rfl
    go_wp2
    go_ret2
    exact .inr ⟨by rw [hz]; decide, by rw [hz] <;> rfl, Below.refl _ _⟩
  clear CN
  have hof : ofK f t cs = judgeK f t cs := by unfold ofK; rw [if_pos hk0]
  obtain ⟨u, A1, T1⟩ := X1
  have X1 : TB w1 w.heap.size f t [] := ⟨u, A1, T1⟩
  have CJ := judge_any10 w1 w.heap.size f t u ao n cap l A1 (L.below C1) (by omega)
  rw [← HCS.out] at CJ
  obtain ⟨jk, hjk⟩ : ∃ k, k = judgeK f t cs := ⟨_, rfl⟩
  rw [← hjk] at CJ hof
  have HJK : Hid (jk = judgeK f t cs) := hjk
  have HOF : Hid (ofK f t cs = jk) := hof
  clear hof hjk A1 T1
  go_wp2_with fail
  refine CJ.mono ?_
  rintro e w2 ⟨rfl, C2⟩
  have B2 := C1.trans (C2.mono C1.size)
  have X2 := X1.below C2
  clear CJ X1
  by_cases hj : jk = 0
  case neg =>
    have z0 : (jk != 0) = true := by simp [hj]
    go_wp2
    go_ret2
    exact .inr ⟨by rw [HOF.out]; exact hj, by rw [HOF.out] <;> rfl, B2⟩
  have z0 : (jk != 0) = false := by simp [hj]
  obtain ⟨hall, -, -, hlen⟩ := judgeK_ok (HJK.out.symm.trans hj)
  have HG : Hid (∀ c ∈ cs, c.good ∧ inRows f t c.row = true) := fun c hc => by
    obtain ⟨a1, a2, a3⟩ := hall c hc
    have hc' : c ∈ l.map CA.c := by rw [← HCS.out]; exact hc
    obtain ⟨x, hx, rfl⟩ := List.mem_map.1 hc'
    have hok := L.ok x hx
    exact ⟨good_of a1 a3 hok.time hok.va.byte, a2⟩
  have HZ : Hid (ofK f t cs = 0) := HOF.out.trans hj
  clear hall HOF HJK hj hk0
  go_wp2
  go_loopw [30] (fun i wr => ∃ j : Nat, j ≤ n ∧ i = .int .i64 j ∧ TB wr w.heap.size f t (layAll [] (cs.take j)) ∧ Below w.heap.size w wr) (fun i _ => n - (intOf i).toNat)
  case atStart => exact ⟨0, Nat.zero_le _, rfl, X2, B2⟩
  case round =>
    obtain ⟨j, hj, rfl, Xr, Br⟩ := hrel
    by_cases hlt : j < n
    · have hji : (j : Int) < (n : Int) := by omega
      have hjl : j < l.length := by omega
      obtain ⟨b, off, ea, hc⟩ := L.at (by omega)
      have X := (hc j hjl).below Br
      have hjc : j < cs.length := by rw [HCS.out, List.length_map]; exact hjl
      have hcj : cs[j] = l[j].c := by
        have := HCS.out
        subst this
        exact List.getElem_map ..
      have HT : Hid (layAll [] (cs.take (j + 1)) = cIns (layAll [] (cs.take j)) l[j].c) := by
        show _ = _
        rw [List.take_succ_eq_append_getElem hjc, layAll_snoc, hcj]
      have HS : Stand f t (cs.take j).length (layAll [] (cs.take j)) := by
        have := (Stand.nil f t).layAll (cs.take j) (fun c hc => HG.out c (List.mem_of_mem_take hc))
        rw [Nat.zero_add] at this
        exact this
      have hgd := (HG.out _ (List.getElem_mem hjc)).1
      rw [hcj] at hgd
      have hok := (L.ok _ (List.getElem_mem hjl)).below Br
      obtain ⟨W1, hW1⟩ : ∃ V, V = wr.alloc (.cells #[.string l[j].row, .string l[j].fam, .string l[j].qual, .int .u64 l[j].time, .slice l[j].va.ao l[j].va.n l[j].va.cap, .bool l[j].gone] 33) := ⟨_, rfl⟩
      have D1 : Below wr.heap.size wr W1 := by rw [hW1]; exact (Below.refl _ _).alloc (Nat.le_refl _) _
      have BW := Br.trans (D1.mono Br.size)
      have hvn : l[j].va.n ≤ 100000 := by
        have h1 := hok.va.len
        have h2 : l[j].va.xs.length ≤ 256 := hgd.val
        omega
      have CY := lay_any W1 w.heap.size f t (layAll [] (cs.take j)) l[j] (HTb.out.below BW t2) (Xr.below D1) HS.srt (by have := HS.len; rw [List.length_take] at this; omega) (hok.below D1) hgd hvn
      rw [← HT.out] at CY
      obtain ⟨c, hce⟩ : ∃ c, c = l[j] := ⟨_, rfl⟩
      rw [← hce] at X CY hW1
      obtain ⟨x0, x1, x2, x3, x4, x5⟩ := X
      subst ea
      unfold CA.val at CY
      clear hc hok hcj hce HS hgd HT hvn
      go_wp2_with fail
      rw [← hW1]
      clear hW1
      refine CY.mono ?_
      rintro e w5 ⟨rfl, X5, K5⟩
      have B5 := Wr.below BW K5 BW.size (Nat.le_refl _)
      clear CY x0 x1 x2 x3 x4 x5
      go_wp2
      go_roundw
      case rel => exact ⟨j + 1, by omega, by go_num, X5, B5⟩
      case measure => simp [intOf]; omega
    · have hge : ¬ (j : Int) < (n : Int) := by omega
      have HT : Hid (cs.take j = cs) := List.take_of_length_le (by rw [HCS.out, List.length_map]; omega)
      rw [HT.out] at Xr
      go_wp2
      go_ret2
      exact .inl ⟨HZ.out, w.heap.size, Nat.le_refl _, rfl, Xr, Br⟩
open Go.RowKit
def cnt (q : CV → Bool) (L : List CV) : Nat := (L.filter q).length
theorem cnt_append (q : CV → Bool) (A B : List CV) : cnt q (A ++ B) = cnt q A + cnt q B := by
  unfold cnt
  rw [List.filter_append, List.length_append]
theorem cnt_cons (q : CV → Bool) (a : CV) (B : List CV) : cnt q (a :: B) = (if q a then 1 else 0) + cnt q B := by
  unfold cnt
  rw [List.filter_cons]
  split
  · rw [List.length_cons]; omega
  · omega
theorem cnt_parts (q : CV → Bool) (k : KV) : ∀ L : List CV, cnt q (cLo k L) + cnt q (cHi k L) + cnt (fun x => q x && decide (keyL x.kv = keyL k)) L = cnt q L
  | [] => rfl
  | a :: L => by
    have ih := cnt_parts q k L
    rw [cnt_cons, cnt_cons]
    unfold cLo cHi at ih ⊢
    rw [List.filter_cons, List.filter_cons]
    rcases cmpL_total (keyL a.kv) (keyL k) with h | h | h
    · have hne : keyL a.kv ≠ keyL k := fun e => by rw [e] at h; exact cmpL_irr _ h
      rw [decide_eq_true h, decide_eq_false (cmpL_asym h), decide_eq_false hne, Bool.and_false]
      simp only [if_true, Bool.false_eq_true, if_false]
      rw [cnt_cons]
      omega
    · rw [h, decide_eq_false (cmpL_irr _), decide_eq_true rfl, Bool.and_true]
      simp only [Bool.false_eq_true, if_false]
      omega
    · have hne : keyL a.kv ≠ keyL k := fun e => by rw [e] at h; exact cmpL_irr _ h
      rw [decide_eq_true h, decide_eq_false (cmpL_asym h), decide_eq_false hne, Bool.and_false]
      simp only [if_true, Bool.false_eq_true, if_false]
      rw [cnt_cons]
      omega
theorem cnt_pos {q : CV → Bool} {L : List CV} {x : CV} (hx : x ∈ L) (hq : q x = true) : 1 ≤ cnt q L := List.length_pos_of_mem (List.mem_filter.2 ⟨hx, hq⟩)
theorem cnt_ins (q : CV → Bool) (L : List CV) (c : CV) : cnt q (cIns L c) + cnt (fun x => q x && decide (keyL x.kv = keyL c.kv)) L = cnt q L + (if q c then 1 else 0) := by
  have := cnt_parts q c.kv L
  unfold cIns
  rw [cnt_append, cnt_cons]
  omega
theorem cnt_all (L : List CV) : cnt (fun _ => true) L = L.length := by
  unfold cnt
  rw [List.filter_eq_self.2 (fun _ _ => rfl)]
theorem colC_cnt (k : KA) (cs : List CV) : (colC k cs).length = cnt (fun c => c.col k) cs := rfl
theorem mostR_le' : ∀ (ks : List KA) (b : Nat), (∀ k, cntK k ks ≤ b) → mostR ks ≤ b
  | [], _, _ => Nat.zero_le _
  | k :: ks, b, h => by
    have h1 : cntK k ks + 1 ≤ b := by
      have := h k
      unfold cntK at this ⊢
      rw [List.filter_cons, (keq_iff k k).2 rfl] at this
      simpa using this
    have h2 := mostR_le' ks b (fun j => by
      have := h j
      unfold cntK at this ⊢
      rw [List.filter_cons] at this
      split at this
      · rw [List.length_cons] at this; omega
      · exact this)
    unfold mostR
    omega
theorem mostK_le' (ks : List KA) (b : Nat) (h : ∀ k, cntK k ks ≤ b) : mostK ks ≤ b := mostR_le' _ b (fun k => by rw [cntK_reverse]; exact h k)
theorem cnt_map (g : CV → KA) (k : KA) (cs : List CV) : cntK k (cs.map g) = cnt (fun c => keq k (g c)) cs := by
  unfold cntK cnt
  rw [List.filter_map, List.length_map]
  rfl
open Go.RowKit
set_option maxHeartbeats 400000 in
theorem all_tells (w : World) : Tells w 48 #[] fun _ => true := fun W c hb _ => by
  show Calls Tryz.prog 48 #[.agg #[.string c.row, .string c.fam, .string c.qual, .int .u64 c.time, .slice c.va.ao c.va.n c.va.cap, .bool c.gone]] W _
  have C1 : Below W.heap.size W (W.alloc (.cells #[.string c.row, .string c.fam, .string c.qual, .int .u64 c.time, .slice c.va.ao c.va.n c.va.cap, .bool c.gone] 33)) := (Below.refl _ _).alloc (Nat.le_refl _) _
  go_enter Tryz.func48, Tryz.ntmps48
  go_wp2
  go_ret
  exact ⟨rfl, C1⟩
open Go.RowKit
theorem size6 (w : World) : (sizeOf 33).run Tryz.prog w = .ok 6 w := by
  have hI := cellInfo
  cases hi : Tryz.prog.info? 33 with
  | none => rw [hi] at hI; simp at hI
  | some i =>
    rw [hi] at hI
    simp only [Option.map_some, Option.some.injEq, Prod.mk.injEq] at hI
    simp [sizeOf, typeInfo, hi, hI.2.1]
theorem run_uptoC {W : World} {ao : Option Addr} {n cap i : Nat} (h2 : i ≤ cap) :
    (Instr.sliceAt 31 (.slice ao n cap) none (some (.int .i64 (i : Nat))) none).run Tryz.prog W = .ok (.slice ao i cap) W := by
  have ht := Tryz.underlying31
  have he : Tryz.prog.elem 31 = 33 := by simp [Program.elem, ht]
  rw [run_sliceAt_slice W 31 _ _ _ _ (by rw [he]; exact ht), run_slice_h W 31 ao n cap (by rw [he]; exact ht) .i64 i (by omega) (by omega), he, size6]
  simp only [Result.andThen_ok, sliced, Int.toNat_natCast, Nat.zero_mul, Nat.sub_zero]
  cases ao with
  | none => simp
  | some a => simp [Addr.add_nought]
theorem CL.front {w : World} {ao : Option Addr} {n cap : Nat} {l : List CA} (h : CL w ao n cap l) (i : Nat) (hi : i ≤ n) : CL w ao i cap (l.take i) := by
  have h1 := h.len
  refine ⟨by simp; omega, Nat.le_trans hi h.le, h.mx, fun hn => ?_, fun a ha j hj k v hv => ?_, fun c hc => h.ok c (List.mem_of_mem_take hc)⟩
  · have := h.nil hn
    omega
  · simp only [List.length_take] at hj
    rw [List.getElem_take] at hv
    exact h.cell a ha j (by omega) k v hv
set_option maxHeartbeats 1000000 in
set_option maxRecDepth 100000 in
theorem cells_st (w : World) (p : Nat) (f t : ByteArray) (cs : List CV) (hT : TB w p f t cs) (hs : CSrt cs) (hg : CGood cs) (hf : f.size ≤ 32) (ht : t.size ≤ 32) (hr : ∀ c ∈ cs, inRows f t c.row = true) (hn : cs.length ≤ 1000) :
    Calls Tryz.prog 17 #[.pointer (some ⟨p, 0, none⟩)] w (AmPost w cs) := by
  have hcs : (cs.filter fun c => inRows f t c.row && true) = cs := List.filter_eq_self.2 fun c hc => by
    rw [Bool.and_true]
    exact hr c hc
  have HA : Hid (∀ V, Below w.heap.size w V → Calls Tryz.prog 47 #[.pointer (some ⟨p, 0, none⟩), .string f, .string t, .func (.func 48) #[] #[]] V fun e w' => ∃ ao n cap l, e = .returned (.slice ao n cap) ∧ (CL w' ao n cap l ∧ (∀ c ∈ l, SlT w' ⟨c.va.ao, c.va.n, c.va.cap, c.va.xs⟩) ∧ l.map CA.c = cs) ∧ Below V.heap.size V w') := fun V hV => by
    have := among_any V p f t cs f t 48 #[] (fun _ => true) (enters_of Tryz.func48 (by kernel_rfl) rfl) (hT.below hV) hs hg hf ht (by omega) (all_tells V)
    rw [hcs] at this
    refine this.mono ?_
    rintro e w2 ⟨ao, n, cap, l, rfl, h1, h2, h3, C2⟩
    exact ⟨ao, n, cap, l, rfl, ⟨h1, h2, h3⟩, C2⟩
  obtain ⟨u, A0, -⟩ := hT
  have c0 : w.cell? ⟨p, 0, none⟩ = some (.string f) := Arr.cell A0 0
  have c1 : w.cell? ⟨p, 1, none⟩ = some (.string t) := Arr.cell A0 1
  clear hcs A0 hs hg hr
  go_enter Tryz.func17, Tryz.ntmps17
  go_wp2
  have zHS : Hid (∀ V, Below w.heap.size w V → V.cell? ⟨p, 0, none⟩ = some (.string f) ∧ V.cell? ⟨p, 1, none⟩ = some (.string t)) := fun V hV => ⟨(hV.cell (World.block_lt_of_cell? _ _ c0)).trans c0, (hV.cell (World.block_lt_of_cell? _ _ c1)).trans c1⟩
  have zE0 : Below w.heap.size w w.drew := (Below.refl _ _).drew
  refine wp_region_noPanic ?_
  refine wp_region_held_drew (S := fun V => V.cell? ⟨p, 0, none⟩ = some (.string f) ∧ V.cell? ⟨p, 1, none⟩ = some (.string t)) (by kernel_rfl) (zHS.out _ zE0) (fun zH0 => ?_)
  obtain ⟨zv0, hv0⟩ : ∃ v, v = w.drew := ⟨_, rfl⟩
  rw [← hv0] at zH0 zE0 ⊢
  clear hv0
  refine hr_take_w 0 (some 5) (.pointer (some ⟨p, 0, none⟩)) rfl rfl (by kernel_rfl) (by kernel_rfl) (by kernel_rfl) rfl (fun W hW => by obtain ⟨h0, h1⟩ := hW; go_simp) zH0 ?_
  simp only [FL]
  refine hr_take_w 1 (some 6) (.pointer (some ⟨p, 0, none⟩)) rfl rfl (by kernel_rfl) (by kernel_rfl) (by kernel_rfl) rfl (fun W hW => by obtain ⟨h0, h1⟩ := hW; go_simp) zH0 ?_
  simp only [FL]
  refine hr_take_w 2 (some 7) (.pointer (some ⟨p, 0, none⟩)) rfl rfl (by kernel_rfl) (by kernel_rfl) (by kernel_rfl) rfl (fun W hW => by obtain ⟨h0, h1⟩ := hW; go_simp) zH0 ?_
  simp only [FL]
  refine hr_take_w 3 (some 8) (.pointer (some ⟨p, 0, none⟩)) rfl rfl (by kernel_rfl) (by kernel_rfl) (by kernel_rfl) rfl (fun W hW => by obtain ⟨h0, h1⟩ := hW; go_simp) zH0 ?_
  simp only [FL]
  refine hr_take_w 4 (some 9) (.string f) rfl rfl (by kernel_rfl) (by kernel_rfl) (by kernel_rfl) rfl (fun W hW => by obtain ⟨h0, h1⟩ := hW; go_simp) zH0 ?_
  simp only [FL]
  refine hr_take_w 5 (some 10) (.pointer (some ⟨p, 0, none⟩)) rfl rfl (by kernel_rfl) (by kernel_rfl) (by kernel_rfl) rfl (fun W hW => by obtain ⟨h0, h1⟩ := hW; go_simp) zH0 ?_
  simp only [FL]
  refine hr_take_w 6 (some 11) (.pointer (some ⟨p, 0, none⟩)) rfl rfl (by kernel_rfl) (by kernel_rfl) (by kernel_rfl) rfl (fun W hW => by obtain ⟨h0, h1⟩ := hW; go_simp) zH0 ?_
  simp only [FL]
  refine hr_take_w 7 (some 12) (.pointer (some ⟨p, 1, none⟩)) rfl rfl (by kernel_rfl) (by kernel_rfl) (by kernel_rfl) rfl (fun W hW => by obtain ⟨h0, h1⟩ := hW; go_simp) zH0 ?_
  simp only [FL]
  refine hr_take_w 8 (some 13) (.string t) rfl rfl (by kernel_rfl) (by kernel_rfl) (by kernel_rfl) rfl (fun W hW => by obtain ⟨h0, h1⟩ := hW; go_simp) zH0 ?_
  simp only [FL]
  refine hr_call_w 9 (some 14) 47 #[.pointer (some ⟨p, 0, none⟩), .string f, .string t, .func (.func 48) #[] #[]] rfl rfl (by kernel_rfl) rfl (by go_simp) (fun v w' => ∃ ao n cap l, v = .slice ao n cap ∧ (CL w' ao n cap l ∧ (∀ c ∈ l, SlT w' ⟨c.va.ao, c.va.n, c.va.cap, c.va.xs⟩) ∧ l.map CA.c = cs) ∧ Below zv0.heap.size zv0 w') ((HA.out zv0 zE0).mono (by
    rintro e w' ⟨ao, n, cap, l, rfl, F, C⟩
    exact ⟨_, rfl, ao, n, cap, l, rfl, F, C⟩)) ?_
  rintro v zv1 ⟨ao, n, cap, l, rfl, zF0, zC0⟩
  have zE1 := zE0.trans (zC0.mono zE0.size)
  have zH1 := zHS.out zv1 zE1
  refine ⟨zH1, ?_⟩
  simp only [FL]
  refine hr_take_w 10 (some 2) (.slice ao n cap) rfl rfl (by kernel_rfl) (by kernel_rfl) (by kernel_rfl) rfl (fun W hW => by obtain ⟨h0, h1⟩ := hW; go_simp) zH1 ?_
  simp only [FL]
  refine wpAnyH_done (by kernel_rfl) ?_ _
  refine NoPanic.normal ?_
  go_wp2
  go_ret
  exact ⟨ao, n, cap, l, rfl, zF0.1, zF0.2.1, zF0.2.2, zE1⟩
open Go.RowKit
theorem run_clear_cells {P : Program} (w : World) (t e ty : TypeId) (z : Value) (ht : P.underlying t = some (.slice e)) (hv : ∀ w, (zeroValue e).run P w = .ok z w) (b o n c : Nat) (hn : 0 < n) (L : List Value) (hL : (Builtin.zeroCells z.cells n).toList = L) (h1 : ∀ v ∈ L, v.oneCell' = true)
    (hc : ∀ j, j < L.length → (w.cell? ⟨b, o + j, none⟩).isSome = true) (hf : ∀ j, j < L.length → w.frozen? ⟨b, o + j, none⟩ = false) :
    (Builtin.clear_ #[t] ty #[.slice (some ⟨b, o, none⟩) n c]).run P w = .ok (.tuple #[]) (w.setCells b o L) := by
  have hst := run_storeCells_cells (P := P) b o L 0 w (by simpa using hc) (by simpa using hf) h1
  simp only [Nat.add_zero] at hst
  obtain ⟨m, rfl⟩ : ∃ m, n = m + 1 := ⟨n - 1, by omega⟩
  simp [Builtin.clear_, run_underlying ht, hv, hL, hst]
open Go.RowKit
def set6 (cur : List Value) (o : Nat) (c : CA) : List Value := (((((cur.set o (.string c.row)).set (o + 1) (.string c.fam)).set (o + 2) (.string c.qual)).set (o + 3) (.int .u64 c.time)).set (o + 4) (.slice c.va.ao c.va.n c.va.cap)).set (o + 5) (.bool c.gone)
theorem set6_len (cur : List Value) (o : Nat) (c : CA) : (set6 cur o c).length = cur.length := by simp [set6]
theorem set6_out (cur : List Value) (o z : Nat) (c : CA) (h : z < o ∨ o + 6 ≤ z) : (set6 cur o c)[z]? = cur[z]? := by
  unfold set6
  rw [List.getElem?_set_ne (by omega), List.getElem?_set_ne (by omega), List.getElem?_set_ne (by omega), List.getElem?_set_ne (by omega), List.getElem?_set_ne (by omega), List.getElem?_set_ne (by omega)]
theorem set6_in (cur : List Value) (o y : Nat) (c : CA) (v : Value) (h : o + 6 ≤ cur.length) (hv : c.cells[y]? = some v) : (set6 cur o c)[o + y]? = some v := by
  unfold set6
  match y, hv with
  | 0, hv => cases hv; simp only [Nat.add_zero]; rw [List.getElem?_set_ne (by omega), List.getElem?_set_ne (by omega), List.getElem?_set_ne (by omega), List.getElem?_set_ne (by omega), List.getElem?_set_ne (by omega), List.getElem?_set_self (by omega)]
  | 1, hv => cases hv; rw [List.getElem?_set_ne (by omega), List.getElem?_set_ne (by omega), List.getElem?_set_ne (by omega), List.getElem?_set_ne (by omega), List.getElem?_set_self (by simp; omega)]
  | 2, hv => cases hv; rw [List.getElem?_set_ne (by omega), List.getElem?_set_ne (by omega), List.getElem?_set_ne (by omega), List.getElem?_set_self (by simp; omega)]
  | 3, hv => cases hv; rw [List.getElem?_set_ne (by omega), List.getElem?_set_ne (by omega), List.getElem?_set_self (by simp; omega)]
  | 4, hv => cases hv; rw [List.getElem?_set_ne (by omega), List.getElem?_set_self (by simp; omega)]
  | 5, hv => cases hv; rw [List.getElem?_set_self (by simp; omega)]
  | y + 6, hv => simp [CA.cells] at hv
def stC (W : World) (g o : Nat) (c : CA) : World := (((((W.setCell ⟨g, o, none⟩ (.string c.row)).setCell ⟨g, o + 1, none⟩ (.string c.fam)).setCell ⟨g, o + 2, none⟩ (.string c.qual)).setCell ⟨g, o + 3, none⟩ (.int .u64 c.time)).setCell ⟨g, o + 4, none⟩ (.slice c.va.ao c.va.n c.va.cap)).setCell ⟨g, o + 5, none⟩ (.bool c.gone)
theorem stC_wr (W : World) (g o : Nat) (c : CA) : Wr g W (stC W g o c) := ((((((Wr.refl _ _).set _ _).set _ _).set _ _).set _ _).set _ _).set _ _
theorem stC_arr {W : World} {g : Nat} {t : TypeId} {cur : List Value} (h : Arr W g t cur) (o : Nat) (c : CA) : Arr (stC W g o c) g t (set6 cur o c) := (((((h.set _ _).set _ _).set _ _).set _ _).set _ _).set _ _
theorem setCells_wr (g : Nat) : ∀ (L : List Value) (o : Nat) (W : World), Wr g W (W.setCells g o L)
  | [], _, W => Wr.refl g W
  | v :: L, o, W => ((Wr.refl g W).set o v).trans (setCells_wr g L (o + 1) _)
structure Del (W : World) (g cap : Nat) (l kept : List CA) (j : Nat) : Prop where
  arr : ∃ cur, Arr W g 33 cur ∧ cur.length = cap * 6 ∧ (∀ x (h : x < kept.length) y v, kept[x].cells[y]? = some v → cur[x * 6 + y]? = some v) ∧ (∀ x (h : x < l.length), j ≤ x → ∀ y v, l[x].cells[y]? = some v → cur[x * 6 + y]? = some v)
  ok : ∀ c ∈ l, c.ok W
  sl : ∀ c ∈ l, SlT W ⟨c.va.ao, c.va.n, c.va.cap, c.va.xs⟩
  sub : ∀ c ∈ kept, c ∈ l
  lt : kept.length < j
  cap : l.length ≤ cap
theorem Del.skip {W : World} {g cap j : Nat} {l kept : List CA} (h : Del W g cap l kept j) : Del W g cap l kept (j + 1) := by
  obtain ⟨cur, A, hl, h1, h2⟩ := h.arr
  exact ⟨⟨cur, A, hl, h1, fun x hx hj => h2 x hx (by omega)⟩, h.ok, h.sl, h.sub, by have := h.lt; omega, h.cap⟩
theorem Del.below {W W' : World} {g cap j : Nat} {l kept : List CA} (h : Del W g cap l kept j) (hb : Below W.heap.size W W') : Del W' g cap l kept j := by
  obtain ⟨cur, A, hl, h1, h2⟩ := h.arr
  exact ⟨⟨cur, arr_below A hb, hl, h1, h2⟩, fun c hc => (h.ok c hc).below hb, fun c hc => (h.sl c hc).kp (KpB.below hb), h.sub, h.lt, h.cap⟩
theorem cells_lt {c : CA} {y : Nat} {v : Value} (h : c.cells[y]? = some v) : y < 6 := (List.getElem?_eq_some_iff.1 h).1
theorem Del.put {W : World} {g cap j : Nat} {l kept : List CA} (h : Del W g cap l kept j) (hj : j < l.length) : Del (stC W g (kept.length * 6) l[j]) g cap l (kept ++ [l[j]]) (j + 1) := by
  obtain ⟨cur, A, hl, h1, h2⟩ := h.arr
  have hlt := h.lt
  have hcap := h.cap
  have kp := KpB.wr A (by decide) (stC_wr W g (kept.length * 6) l[j])
  refine ⟨⟨set6 cur (kept.length * 6) l[j], stC_arr A _ _, (set6_len _ _ _).trans hl, fun x hx y v hv => ?_, fun x hx hjx y v hv => ?_⟩, fun c hc => ⟨(h.ok c hc).row, (h.ok c hc).fam, (h.ok c hc).qual, (h.ok c hc).time, ((h.sl c hc).kp kp).1⟩, fun c hc => (h.sl c hc).kp kp, fun c hc => ?_, by rw [List.length_append, List.length_singleton]; omega, hcap⟩
  · have hy := cells_lt hv
    rw [List.length_append, List.length_singleton] at hx
    by_cases e : x < kept.length
    · rw [List.getElem_append_left e] at hv
      rw [set6_out _ _ _ _ (by omega)]
      exact h1 x e y v hv
    · obtain rfl : x = kept.length := by omega
      rw [List.getElem_append_right (Nat.le_refl _)] at hv
      simp only [Nat.sub_self, List.getElem_singleton] at hv
      exact set6_in _ _ _ _ _ (by omega) hv
  · have hy := cells_lt hv
    rw [set6_out _ _ _ _ (by omega)]
    exact h2 x hx (by omega) y v hv
  · rcases List.mem_append.1 hc with hc | hc
    · exact h.sub c hc
    · rw [List.mem_singleton.1 hc]; exact List.getElem_mem hj
theorem Del.at {W : World} {g cap j : Nat} {l kept : List CA} (h : Del W g cap l kept j) (hj : j < l.length) : CX W g (j * 6) l[j] := by
  obtain ⟨cur, A, hl, h1, h2⟩ := h.arr
  have k := h2 j hj (Nat.le_refl _)
  exact ⟨(A.cell _).trans (k 0 _ rfl), (A.cell _).trans (k 1 _ rfl), (A.cell _).trans (k 2 _ rfl), (A.cell _).trans (k 3 _ rfl), (A.cell _).trans (k 4 _ rfl), (A.cell _).trans (k 5 _ rfl)⟩
theorem Del.done {W : World} {g cap j : Nat} {l kept : List CA} (h : Del W g cap l kept j) (hj : j ≤ l.length) (hm : cap ≤ maxLen) (L : List Value) : CL (W.setCells g (kept.length * 6) L) (some ⟨g, 0, none⟩) kept.length cap kept := by
  obtain ⟨cur, A, hl, h1, h2⟩ := h.arr
  have hlt := h.lt
  have hcap := h.cap
  have kp := KpB.wr A (by decide) (setCells_wr g L (kept.length * 6) W)
  refine ⟨rfl, by omega, hm, fun h => by simp at h, fun a ha i hi y v hv => ?_, fun c hc => ?_⟩
  · obtain rfl := Option.some.inj ha
    have hy := cells_lt hv
    rw [Addr.add_lit, Nat.zero_add, World.cell?_setCells_out g L _ W ⟨g, i * 6 + y, none⟩ (fun _ _ => .inl (by show i * 6 + y < _; omega)), A.cell]
    exact h1 i hi y v hv
  · have ok := h.ok c (h.sub c hc)
    exact ⟨ok.row, ok.fam, ok.qual, ok.time, ((h.sl c (h.sub c hc)).kp kp).1⟩
end Go.Proofs.YtlljmhcgjkolpaaGreatDoor

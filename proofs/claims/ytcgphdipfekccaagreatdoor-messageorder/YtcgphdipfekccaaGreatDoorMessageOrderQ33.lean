/-
  Texts in one: MgVal, MgAlive, OTypO, OTypC, OTypes, MgOpen.
-/
import Derived.Test.YtcgphdipfekccaaGreatDoorMessageOrderQ12
import Derived.Test.YtcgphdipfekccaaGreatDoorMessageOrderQ31
import Derived.Test.YtcgphdipfekccaaGreatDoorMessageOrderQ32
import Derived.Test.YtcgphdipfekccaaGreatDoorMessageOrderQ0
namespace Go.Proofs.YtcgphdipfekccaaGreatDoor
open Go.RowKit
def rzV (p : PV) : Bool := decide (p.cl = 0 ∧ p.st = 0 ∧ p.vw = 0 ∧ p.r.e = 0 ∧ p.r.cells.length = 0) && !p.r.more
def badV (k : Int) (q : QV) : Bool := decide (kindQ q ≠ 0) || (decide (k = 13) && decide (q.2.2.1.kind ≠ 7 ∧ q.2.2.1.kind ≠ 8))
def txV (k : Int) (s : SV) : Bool := txOk k s.fr s.b.length s.tag.length
def setV (l : List SV) : Bool := decide (16 < l.length) || l.any fun s => !(sgnd s.fr s.b.length s.tag.length)
def repV (x : BV) : Bool := decide (x.kind ≠ 5) || (rightR x.rep.r && decide (x.rep.cl ≠ 0 ∧ x.rep.st ≠ 0 ∧ x.rep.vw ≤ 4611686018427387903))
def rightV (x : BV) : Bool := shpOk x.kind ⟨x.view, x.seq, x.sum.length, x.reqs.length, x.cert.length, x.sets.length, !(rzV x.rep)⟩ && (!(x.reqs.any (badV x.kind)) && (repV x && (!(x.cert.any fun s => !(txV x.kind s)) && !(x.sets.any setV))))
theorem any_map_on {α β : Type} (f : α → β) (p : β → Bool) (q : α → Bool) : ∀ l : List α, (∀ a ∈ l, p (f a) = q a) → (l.map f).any p = l.any q
  | [], _ => rfl
  | a :: l, h => by
    rw [List.map_cons, List.any_cons, List.any_cons, h a (List.mem_cons_self ..), any_map_on f p q l (fun b hb => h b (List.mem_cons_of_mem _ hb))]
theorem rightM_v {x : BM} {w : World} (h : x.ok w) (fl : ∀ q ∈ x.q.l, ∀ y ∈ q.l, y.sn = 0) : rightM x = rightV x.v := by
  unfold rightM rightV
  have e1 : x.hv = ⟨x.v.view, x.v.seq, x.v.sum.length, x.v.reqs.length, x.v.cert.length, x.v.sets.length, !(rzV x.v.rep)⟩ := by
    unfold BM.hv BM.v
    simp only [List.length_map, h.sum.len, h.q.len, h.s.len, h.t.len, HV.mk.injEq, true_and, Bool.not_eq_eq_eq_not, Bool.not_not]
    unfold BM.rz rzV
    have : (resR x.e x.c.l x.more).cells.length = x.c.n := by
      show (x.c.l.map CA.c).length = _
      rw [List.length_map, h.c.len]
    simp only [this]
    rfl
  have e2 : (x.v.reqs.any (badV x.v.kind)) = x.q.l.any (reqBad x.kind) := any_map_on QM.v _ _ _ fun q hq => by
    unfold badV reqBad
    have := kindq_read (o := q.o) q.cl q.st (fl q hq)
    show (decide (kindQ (q.cl, q.st, (q.o.s, q.l.map OA.s)) ≠ 0) || _) = _
    rw [this]
    rfl
  have e3 : (x.v.cert.any fun s => !(txV x.v.kind s)) = x.s.l.any fun s => !(s.tx x.kind) := any_map_on SA.v _ _ _ fun s hs => by
    have h1 := (h.s.ok s hs).b.len
    have h2 := (h.s.ok s hs).tag.len
    show (!(txOk x.kind s.fr s.b.xs.length s.tag.xs.length)) = _
    rw [h1, h2]
    rfl
  have e4 : x.v.sets.any setV = x.t.l.any setBad := any_map_on (fun s : LS SA => s.l.map SA.v) _ _ _ fun t ht => by
    have ht' : GL elS w t.ao t.n t.cap t.l := h.t.ok t ht
    unfold setV setBad
    rw [List.length_map, ht'.len]
    congr 1
    refine any_map_on SA.v _ _ _ fun s hs => ?_
    have h1 := (ht'.ok s hs).b.len
    have h2 := (ht'.ok s hs).tag.len
    show (!(sgnd s.fr s.b.xs.length s.tag.xs.length)) = _
    rw [h1, h2]
    rfl
  rw [e2, e3, e4, ← e1]
  rfl
open Go.RowKit
theorem rdR_ne (bs : List Int) (k : Int) (e : rdR bs = .inl k) : k ≠ 0 := rdAll_ne thr_r bs k e
theorem bT_put {v : BV} (h : okB v) : bT (putB v) 0 = (v, [], 0) := by
  have := fair_b.put v [] h
  rw [List.append_nil] at this
  exact (thr_b rdR_ne).ok _ _ _ this
def liveV : BV := ⟨4, 1, 2, List.replicate 32 0, [], zPV, [], []⟩
theorem liveV_ok : okB liveV := by
  refine ⟨by decide, by decide, by decide, ⟨by decide, ?_⟩, ⟨by decide, fun _ h => by cases h⟩, ?_, ⟨by decide, fun _ h => by cases h⟩, ⟨by decide, fun _ h => by cases h⟩⟩
  · intro x hx
    have := List.eq_of_mem_replicate hx
    omega
  · show (if (4 : Int).toNat = 5 then okPV1 zPV else zPV = zPV)
    rw [if_neg (by decide)]
theorem liveV_right : rightV liveV = true := by decide
theorem liveV_put : putB liveV = 4 :: (1 :: 2 :: 32 :: (List.replicate 32 0 ++ [0, 0, 0])) := by decide
def liveM (g : Nat) : BM := ⟨4, 1, 2, ⟨some ⟨g, 0, none⟩, 32, 32, List.replicate 32 0⟩, ⟨none, 0, 0, []⟩, 0, 0, 0, 0, ⟨none, 0, 0, []⟩, false, ⟨none, 0, 0, []⟩, ⟨none, 0, 0, []⟩⟩
theorem mk32 (w : World) : (Instr.makeSlice 28 (.int .i64 32) (.int .i64 32)).run Tryz.prog w = .ok (.slice (some ⟨w.heap.size, 0, none⟩) 32 32) (w.alloc (.cells (bv (List.replicate 32 0)).toArray 5)) := by kernel_rfl
set_option maxRecDepth 100000 in
set_option maxHeartbeats 8000000 in
theorem alive13 (w : World) : Calls Tryz.prog 4 #[] w fun e w' => e = .returned (.bool true) ∧ Below w.heap.size w w' := by
  have mk : (Instr.makeSlice 28 (.int .i64 32) (.int .i64 32)).run Tryz.prog w = .ok (.slice (some ⟨w.heap.size, 0, none⟩) 32 32) (w.alloc (.cells (bv (List.replicate 32 0)).toArray 5)) := mk32 w
  have B1 : Below w.heap.size w (w.alloc (.cells (bv (List.replicate 32 0)).toArray 5)) := (Below.refl _ _).alloc (Nat.le_refl _) _
  have S1 : Sl (w.alloc (.cells (bv (List.replicate 32 0)).toArray 5)) (some ⟨w.heap.size, 0, none⟩) 32 32 (List.replicate 32 0) := Sl.new w (List.replicate 32 0) liveV_ok.sum.2 (by decide)
  obtain ⟨w1, hw1⟩ : ∃ W, W = w.alloc (.cells (bv (List.replicate 32 0)).toArray 5) := ⟨_, rfl⟩
  obtain ⟨N, hN⟩ : ∃ N, N = w.heap.size := ⟨_, rfl⟩
  rw [← hw1] at mk B1 S1
  rw [← hN] at mk S1
  have OK : (liveM N).ok w1 := ⟨by show (-9223372036854775808 : Int) ≤ 4 ∧ (4 : Int) ≤ 9223372036854775807; decide, by show 1 < _; decide, by show 2 < _; decide, S1, GL.nothing _ _, by show 0 < _; decide, by show 0 < _; decide, by show 0 < _; decide, by show (-9223372036854775808 : Int) ≤ 0 ∧ (0 : Int) ≤ 9223372036854775807; decide, CL.nothing _, GL.nothing _ _, GL.nothing _ _⟩
  have hr : rightM (liveM N) = true := (rightM_v OK (fun _ h => by cases h)).trans liveV_right
  have CB := bytes_msg w1 (liveM N) OK
  have HP : Hid (BytPost w1 (liveM N) = fun e w' => ∃ bo m c, e = .returned (.tuple #[.slice bo m c, .int .i64 0]) ∧ Sl w' bo m c (putB liveV) ∧ Below w1.heap.size w1 w') := by
    show _ = _
    unfold BytPost
    simp only [hr, if_true]
    rfl
  rw [HP.out] at CB
  simp only [liveM, BM.val] at CB
  clear hw1 hN HP hr OK S1
  go_enter Tryz.func4, Tryz.ntmps4
  go_wp2_with fail
  refine CB.mono ?_
  rintro e w2 ⟨bo, m, c, rfl, S2, C2⟩
  have B2 := B1.trans (C2.mono B1.size)
  have hm : m = 39 := by rw [← S2.len, liveV_put]; rfl
  subst hm
  clear CB mk B1 C2
  have CR := read_msg w2 bo 39 c (putB liveV) S2 (by omega)
  go_wp2_with fail
  refine CR.mono ?_
  rintro e w3 ⟨x, ok, fl, hv, he, C3⟩
  rw [bT_put liveV_ok] at hv he
  have hr : rightM x = true := by rw [rightM_v ok fl, hv]; exact liveV_right
  rw [if_pos ⟨rfl, hr⟩] at he
  subst he
  have hs : x.seq = 2 := congrArg BV.seq hv
  have S3 := S2.below C3
  have B3 := B2.trans (C3.mono B2.size)
  clear CR C3 S2 B2 hr fl hv ok
  obtain ⟨b, off, rfl, hc⟩ := S3.at (by omega)
  have c0 : w3.cell? ⟨b, off, none⟩ = some (.int .u8 4) := by
    have := hc 0 (by omega)
    rw [liveV_put] at this
    exact this
  clear hc S3
  unfold BM.val
  have B4 : Below w.heap.size w (w3.alloc (.cells #[.int .i64 x.kind, .int .u64 x.view, .int .u64 x.seq, .slice x.sum.ao x.sum.n x.sum.cap, .slice x.q.ao x.q.n x.q.cap, .int .u64 x.cl, .int .u64 x.st, .int .u64 x.vw, .int .i64 x.e, .slice x.c.ao x.c.n x.c.cap, .bool x.more, .slice x.s.ao x.s.n x.s.cap, .slice x.t.ao x.t.n x.t.cap] 50)) := B3.alloc B3.size _
  have C4 : Below w3.heap.size w3 (w3.alloc (.cells #[.int .i64 x.kind, .int .u64 x.view, .int .u64 x.seq, .slice x.sum.ao x.sum.n x.sum.cap, .slice x.q.ao x.q.n x.q.cap, .int .u64 x.cl, .int .u64 x.st, .int .u64 x.vw, .int .i64 x.e, .slice x.c.ao x.c.n x.c.cap, .bool x.more, .slice x.s.ao x.s.n x.s.cap, .slice x.t.ao x.t.n x.t.cap] 50)) := (Below.refl _ _).alloc (Nat.le_refl _) _
  have c1 := (C4.cell (World.block_lt_of_cell? w3 _ c0)).trans c0
  clear c0 C4
  have i2 : ((x.seq : Int) == 2) = true := by rw [hs]; rfl
  clear hs
  go_wp2
  go_ret
  exact ⟨rfl, B4⟩
open Go.RowKit
def opT : OpTypes Tryz.prog where
  op := 31
  key := 27
  int := 3
  str := 9
  u64 := 25
  bys := 28
  u8 := 5
  bool := 4
  subs := 29
  f0 := { name := "Kind", type := 3, offset := 0, embedded := false, tag := "", pkgPath := "", byteOffset := 0 }
  f1 := { name := "K", type := 27, offset := 1, embedded := false, tag := "", pkgPath := "", byteOffset := 8 }
  f2 := { name := "To", type := 9, offset := 5, embedded := false, tag := "", pkgPath := "", byteOffset := 64 }
  f3 := { name := "Value", type := 28, offset := 6, embedded := false, tag := "", pkgPath := "", byteOffset := 80 }
  f4 := { name := "Want", type := 28, offset := 7, embedded := false, tag := "", pkgPath := "", byteOffset := 104 }
  f5 := { name := "Has", type := 4, offset := 8, embedded := false, tag := "", pkgPath := "", byteOffset := 128 }
  f6 := { name := "Sub", type := 29, offset := 9, embedded := false, tag := "", pkgPath := "", byteOffset := 136 }
  g0 := { name := "Row", type := 9, offset := 0, embedded := false, tag := "", pkgPath := "", byteOffset := 0 }
  g1 := { name := "Family", type := 9, offset := 1, embedded := false, tag := "", pkgPath := "", byteOffset := 16 }
  g2 := { name := "Qual", type := 9, offset := 2, embedded := false, tag := "", pkgPath := "", byteOffset := 32 }
  g3 := { name := "Time", type := 25, offset := 3, embedded := false, tag := "", pkgPath := "", byteOffset := 48 }
  hop := Tryz.underlying31
  hkey := Tryz.underlying27
  hint := Tryz.underlying3
  hstr := Tryz.underlying9
  hu64 := Tryz.underlying25
  hbys := Tryz.underlying28
  hu8 := Tryz.underlying5
  hbool := Tryz.underlying4
  hsubs := Tryz.underlying29
  cop := by kernel_rfl
  ckey := by kernel_rfl
  cint := by kernel_rfl
  cstr := by kernel_rfl
  cu64 := by kernel_rfl
  cbys := by kernel_rfl
  cu8 := by kernel_rfl
  bu8 := by kernel_rfl
  cbool := by kernel_rfl
  csubs := by kernel_rfl
  o0 := ⟨rfl, rfl⟩
  o1 := ⟨rfl, rfl⟩
  o2 := ⟨rfl, rfl⟩
  o3 := ⟨rfl, rfl⟩
  o4 := ⟨rfl, rfl⟩
  o5 := ⟨rfl, rfl⟩
  o6 := ⟨rfl, rfl⟩
  p0 := ⟨rfl, rfl⟩
  p1 := ⟨rfl, rfl⟩
  p2 := ⟨rfl, rfl⟩
  p3 := ⟨rfl, rfl⟩
open Go.RowKit
def cellT : CellTypes Tryz.prog opT where
  cel := 119
  cels := 42
  f0 := { name := "K", type := 27, offset := 0, embedded := false, tag := "", pkgPath := "", byteOffset := 0 }
  f1 := { name := "Value", type := 28, offset := 4, embedded := false, tag := "", pkgPath := "", byteOffset := 56 }
  f2 := { name := "Gone", type := 4, offset := 5, embedded := false, tag := "", pkgPath := "", byteOffset := 80 }
  hcel := Tryz.underlying119
  hcels := Tryz.underlying42
  ccel := by kernel_rfl
  o0 := ⟨rfl, rfl⟩
  o1 := ⟨rfl, rfl⟩
  o2 := ⟨rfl, rfl⟩
open Go.RowKit
def moreT : MoreTypes Tryz.prog opT cellT where
  req := 33
  res := 44
  knd := 34
  f0 := { name := "Client", type := 25, offset := 0, embedded := false, tag := "", pkgPath := "", byteOffset := 0 }
  f1 := { name := "Stamp", type := 25, offset := 1, embedded := false, tag := "", pkgPath := "", byteOffset := 8 }
  f2 := { name := "O", type := 31, offset := 2, embedded := false, tag := "", pkgPath := "", byteOffset := 16 }
  g0 := { name := "E", type := 34, offset := 0, embedded := false, tag := "", pkgPath := "", byteOffset := 0 }
  g1 := { name := "Cells", type := 42, offset := 1, embedded := false, tag := "", pkgPath := "", byteOffset := 8 }
  g2 := { name := "More", type := 4, offset := 2, embedded := false, tag := "", pkgPath := "", byteOffset := 32 }
  hreq := Tryz.underlying33
  hres := Tryz.underlying44
  hknd := Tryz.underlying34
  creq := by kernel_rfl
  cres := by kernel_rfl
  cknd := by kernel_rfl
  ccels := by kernel_rfl
  o0 := ⟨rfl, rfl⟩
  o1 := ⟨rfl, rfl⟩
  o2 := ⟨rfl, rfl⟩
  p0 := ⟨rfl, rfl⟩
  p1 := ⟨rfl, rfl⟩
  p2 := ⟨rfl, rfl⟩
end Go.Proofs.YtcgphdipfekccaaGreatDoor
namespace Go.Proofs.YtcgphdipfekccaaGreatDoor
open Go.RowKit Go.ChangeShapes Go.WideShapes
structure QE where
  cl : Nat
  st : Nat
  x : OD 3
def QE.m (y : QE) : QM := ⟨y.cl, y.st, topD 3 y.x, (show OA × List (OD 2) from y.x).2.map (topD 2)⟩
theorem QE.ok {y : QE} {w : World} (h1 : y.cl < 18446744073709551616) (h2 : y.st < 18446744073709551616) (h : OW w 3 y.x) : y.m.ok w :=
  ⟨h1, h2, h.top, (OW.subs (d := 2) (x := y.x) h).flat⟩
theorem QE.m_cells (y : QE) : y.m.cells = .int .u64 y.cl :: .int .u64 y.st :: (topD 3 y.x).cells := rfl
section
variable {H : Type} {enc : TypeId × Value → H} {P : Program} {w : World} {base : Nat} {spare : Nat → Bool} {held : Bool}
theorem open_reqC (T : OpTypes P) (C : CellTypes P T) (M : MoreTypes P T C) {fuel : Nat} {l : List Value} {x : DataW H × List MemPlace} (hf : DataW.trod enc P w base spare held fuel M.req l = some x) :
    ∃ y : QE, l = y.m.cells ∧ (y.cl < 18446744073709551616 ∧ y.st < 18446744073709551616 ∧ OW w 3 y.x) ∧ (Wt P x.1 M.req → OSm 3 y.x) := by
  obtain ⟨xs, k, _, hx, hl, hlen, hfl⟩ := DataW.trod_struct M.hreq hf
  rw [M.creq] at hl
  obtain ⟨x0, x1, x2, rfl⟩ : ∃ x0 x1 x2, xs = [x0, x1, x2] := by
    match xs, hlen with
    | [x0, x1, x2], _ => exact ⟨_, _, _, rfl⟩
  have e0 := hfl 0 M.f0 rfl
  have e1 := hfl 1 M.f1 rfl
  have e2 := hfl 2 M.f2 rfl
  rw [M.o0.1, M.o0.2, T.cu64] at e0
  rw [M.o1.1, M.o1.2, T.cu64] at e1
  rw [M.o2.1, M.o2.2, T.cop] at e2
  obtain ⟨a, b, m, rfl, hm⟩ : ∃ a b m, l = a :: b :: m ∧ m.length = 10 := by
    match l, hl with
    | a :: b :: m, h => exact ⟨a, b, m, rfl, by simpa using h⟩
  simp only [List.drop_succ_cons, List.drop_zero, List.take_succ_cons, List.take_zero, List.getElem?_cons_zero, List.getElem?_cons_succ] at e0 e1 e2
  rw [List.take_of_length_le (by omega)] at e2
  obtain ⟨z0, q0, _, w0⟩ := DataW.trod_int T.hu64 e0
  obtain ⟨z1, q1, _, w1⟩ := DataW.trod_int T.hu64 e1
  obtain rfl : a = .int .u64 z0 := by simpa using q0
  obtain rfl : b = .int .u64 z1 := by simpa using q1
  obtain ⟨y, ey, k, sm⟩ := open_deep T 3 e2
  have g0 : 0 ≤ z0 ∧ z0 < 18446744073709551616 := by
    simp [Lit.wf, IntKind.min, IntKind.max, IntKind.signed, IntKind.bits] at w0
    omega
  have g1 : 0 ≤ z1 ∧ z1 < 18446744073709551616 := by
    simp [Lit.wf, IntKind.min, IntKind.max, IntKind.signed, IntKind.bits] at w1
    omega
  refine ⟨⟨z0.toNat, z1.toNat, y⟩, ?_, ⟨by show z0.toNat < _; omega, by show z1.toNat < _; omega, k⟩, fun hwt => ?_⟩
  · rw [QE.m_cells]
    simp only
    rw [Int.toNat_of_nonneg g0.1, Int.toNat_of_nonneg g1.1, ← ey]
  · rw [hx] at hwt
    exact sm (hwt.field M.hreq 2 (u := T.op) (by simp [M.o2.1]) rfl)
theorem open_reqs (T : OpTypes P) (C : CellTypes P T) (M : MoreTypes P T C) {sl : TypeId} (hsl : P.underlying sl = some (.slice M.req)) {fuel : Nat} {v : Value} {x : DataW H × List MemPlace} (h : DataW.trod enc P w base spare held fuel sl [v] = some x) :
    ∃ (ao : Option Addr) (n cap : Nat) (l : List QE), v = .slice ao n cap ∧ (GL elQ w ao n cap (l.map QE.m) ∧ ∀ y ∈ l, OW w 3 y.x) ∧ (Wt P x.1 sl → ∀ y ∈ l, OSm 3 y.x) := by
  rcases Deep.open_slice hsl h with ⟨hcs, _⟩ | ⟨a, l, c, m, n, D, Pl, hcs, _, hl, hm, hmm, hy0, hx⟩
  · exact ⟨none, 0, 0, [], by simpa using hcs, ⟨GL.nothing _ _, fun _ h => by cases h⟩, fun _ _ h => by cases h⟩
  · have hlm : l ≤ m := by rw [hmm]; split <;> omega
    obtain ⟨z, hz1, hz2⟩ := gather_list (p := fun i (y : QE) => ((∀ j v, y.m.cells[j]? = some v → w.cell? (a.add (i * 12 + j)) = some v) ∧ (y.cl < 18446744073709551616 ∧ y.st < 18446744073709551616 ∧ OW w 3 y.x)) ∧ (Wt P (D i) M.req → OSm 3 y.x)) l (fun i hi => by
      obtain ⟨cs', h1, h2⟩ := hx i (by omega)
      rw [M.creq] at h1
      obtain ⟨_, hlen, hcell⟩ := World.cells?_some h1
      obtain ⟨y, e1, w1, sm1⟩ := open_reqC T C M h2
      refine ⟨y, ⟨fun j v hv => ?_, w1⟩, sm1⟩
      rw [← e1] at hv
      have hj : j < cs'.length := (List.getElem?_eq_some_iff.1 hv).1
      have := hcell j (by omega)
      rw [Deep.add_add, hv] at this
      exact this)
    refine ⟨some a, l, c, z, by simpa using hcs, ⟨⟨by rw [List.length_map]; exact hz1, hl, hm, fun h => by simp at h, fun b hb i hi => ?_, fun q hq => ?_⟩, fun y hy => ?_⟩, fun hwt y hy => ?_⟩
    · obtain rfl := Option.some.inj hb
      rw [List.length_map] at hi
      rw [List.getElem_map]
      exact (hz2 i hi).1.1
    · obtain ⟨y, hy, rfl⟩ := List.mem_map.1 hq
      obtain ⟨i, hi, rfl⟩ := List.getElem_of_mem hy
      have h1 := (hz2 i hi).1.2
      exact QE.ok h1.1 h1.2.1 h1.2.2
    · obtain ⟨i, hi, rfl⟩ := List.getElem_of_mem hy
      exact (hz2 i hi).1.2.2.2
    · obtain ⟨i, hi, rfl⟩ := List.getElem_of_mem hy
      refine (hz2 i hi).2 fun n hn2 => hwt n ?_
      rw [hy0]
      simp only [DataW.weights, hsl]
      refine List.mem_cons_of_mem _ (List.mem_append_left _ (weights_mem_all (j := i) ?_ n hn2))
      rw [List.getElem?_map, List.getElem?_range (by omega)]
      rfl
end
end Go.Proofs.YtcgphdipfekccaaGreatDoor

/-
  Texts in one: MgRight.
-/
import Derived.Test.YtnbejckdhdbamaaGreatMessageRightQFL
import Derived.Test.YtnbejckdhdbamaaGreatMessageRightQ39
import Derived.Test.YtnbejckdhdbamaaGreatMessageRightQ40
import Derived.Test.YtnbejckdhdbamaaGreatMessageRightQ41
import Derived.Test.YtnbejckdhdbamaaGreatMessageRightQ17
import Derived.Test.YtnbejckdhdbamaaGreatMessageRightQ0
import Derived.Deep.Slices
import Derived.ArgAppend
import Derived.Deep.Upon
import Derived.DataElems
import Derived.Laws.StructEq
namespace Go.Proofs.YtnbejckdhdbamaaGreat
open Go.RowKit
theorem shape_eq (W:World) (a0 a1 a2 a3 a4 a5 b0 b1 b2 b3 b4 b5:Int) (a6 b6:Bool) :
  (Op.equalIn 10000 104 (.agg #[.int .u64 a0,.int .u64 a1,.int .i64 a2,.int .i64 a3,.int .i64 a4,.int .i64 a5,.bool a6]) (.agg #[.int .u64 b0,.int .u64 b1,.int .i64 b2,.int .i64 b3,.int .i64 b4,.int .i64 b5,.bool b6])).run Tryz.prog W=.ok ((a0 == b0)&&((a1 == b1)&&((a2 == b2)&&((a3 == b3)&&((a4 == b4)&&((a5 == b5)&&(a6 == b6))))))) W:=by
 go_simp
 repeat' split
 all_goals simp_all
theorem isVal_parts (k:Int) (h:HV):∃ (i0 i1 i2 i3 i4 i5:Int) (b6:Bool),isVal k h=.agg #[.int .u64 i0,.int .u64 i1,.int .i64 i2,.int .i64 i3,.int .i64 i4,.int .i64 i5,.bool b6]∧(decide (1≤k∧k≤14)&&(((h.view:Int) == i0)&&(((h.seq:Int) == i1)&&(((h.sum:Int) == i2)&&(((h.reqs:Int) == i3)&&(((h.cert:Int) == i4)&&(((h.sets:Int) == i5)&&(h.rep == b6))))))))=shpOk k h:=by
 by_cases hk:1≤k∧k≤14
 ·have hc:k=1∨k=2∨k=3∨k=4∨k=5∨k=6∨k=7∨k=8∨k=9∨k=10∨k=11∨k=12∨k=13∨k=14:=by omega
  rcases hc with rfl | rfl | rfl | rfl | rfl | rfl | rfl | rfl | rfl | rfl | rfl | rfl | rfl | rfl
  all_goals
   refine ⟨_,_,_,_,_,_,_,rfl,?_⟩
   unfold shpOk
   rw [Bool.eq_iff_iff]
   cases h.rep <;> simp <;> omega
 ·refine ⟨0,0,0,0,0,0,false,?_,?_⟩
  ·unfold isVal
   rw [if_neg (by omega),if_neg (by omega),if_neg (by omega),if_neg (by omega),if_neg (by omega),if_neg (by omega),if_neg (by omega),if_neg (by omega),if_neg (by omega),if_neg (by omega),if_neg (by omega),if_neg (by omega),if_neg (by omega),if_neg (by omega)]
  ·rw [decide_eq_false hk,Bool.false_and]
   cases e:shpOk k h with
   | false=>rfl
   | true=>exact absurd (shp_kind e) hk
theorem areTexts_any (w:World) (k:Int) (ao:Option Addr) (n cap:Nat) (l:List SA) (h:GL elS w ao n cap l) :
  Calls Tryz.prog 61 #[.slice ao n cap,txF k] w fun e w'=>e=.returned (.bool (!(l.any fun s=>!s.tx k)))∧Below w.heap.size w w':=by
 by_cases c:k=10∨k=14
 ·have e1:txF k=.func (.func 96) #[] #[]:=if_pos c
  have e2:(fun s:SA=>!s.tx k)=fun s:SA=>!s.pl:=by
   funext s
   unfold SA.tx txOk SA.pl
   rw [if_pos c]
  rw [e1,e2]
  exact areTextsP w ao n cap l h
 ·have e1:txF k=.func (.func 97) #[] #[]:=if_neg c
  have e2:(fun s:SA=>!s.tx k)=fun s:SA=>!s.sg:=by
   funext s
   unfold SA.tx txOk SA.sg
   rw [if_neg c]
  rw [e1,e2]
  exact areTextsS w ao n cap l h
set_option maxRecDepth 100000 in
set_option maxHeartbeats 16000000 in
theorem isRight_any (w:World) (x:BM) (hx:x.ok w) :
  Calls Tryz.prog 18 #[x.val] w fun e w'=>e=.returned (.bool (rightM x))∧Below w.heap.size w w':=by
 have B:Below w.heap.size w (w.alloc (.cells #[.int .i64 x.kind,.int .u64 x.view,.int .u64 x.seq,.slice x.sum.ao x.sum.n x.sum.cap,.slice x.q.ao x.q.n x.q.cap,.int .u64 x.cl,.int .u64 x.st,.int .u64 x.vw,.int .i64 x.e,.slice x.c.ao x.c.n x.c.cap,.bool x.more,.slice x.s.ao x.s.n x.s.cap,.slice x.t.ao x.t.n x.t.cap] 41)):=(Below.refl _ w).alloc (Nat.le_refl _) _
 have K:BC (w.alloc (.cells #[.int .i64 x.kind,.int .u64 x.view,.int .u64 x.seq,.slice x.sum.ao x.sum.n x.sum.cap,.slice x.q.ao x.q.n x.q.cap,.int .u64 x.cl,.int .u64 x.st,.int .u64 x.vw,.int .i64 x.e,.slice x.c.ao x.c.n x.c.cap,.bool x.more,.slice x.s.ao x.s.n x.s.cap,.slice x.t.ao x.t.n x.t.cap] 41)) w.heap.size x:=heap_alloc_new w _
 have h1:=hx.below B
 have CS:=shapeOf_any (w.alloc (.cells #[.int .i64 x.kind,.int .u64 x.view,.int .u64 x.seq,.slice x.sum.ao x.sum.n x.sum.cap,.slice x.q.ao x.q.n x.q.cap,.int .u64 x.cl,.int .u64 x.st,.int .u64 x.vw,.int .i64 x.e,.slice x.c.ao x.c.n x.c.cap,.bool x.more,.slice x.s.ao x.s.n x.s.cap,.slice x.t.ao x.t.n x.t.cap] 41)) x
 clear hx
 unfold BM.val at CS ⊢
 go_enter Tryz.func18,Tryz.ntmps18
 go_wp2_with fail
 obtain ⟨w1,hw1⟩:∃ W,W=(w.alloc (.cells #[.int .i64 x.kind,.int .u64 x.view,.int .u64 x.seq,.slice x.sum.ao x.sum.n x.sum.cap,.slice x.q.ao x.q.n x.q.cap,.int .u64 x.cl,.int .u64 x.st,.int .u64 x.vw,.int .i64 x.e,.slice x.c.ao x.c.n x.c.cap,.bool x.more,.slice x.s.ao x.s.n x.s.cap,.slice x.t.ao x.t.n x.t.cap] 41)):=⟨_,rfl⟩
 obtain ⟨N,hN'⟩:∃ N,N=w.heap.size:=⟨_,rfl⟩
 rw [←hw1] at B K h1 CS ⊢
 rw [←hN'] at K ⊢
 clear hw1 hN'
 refine CS.mono ?_
 rintro e w2 ⟨rfl,C2⟩
 have K:=K.keep C2
 have h2:=h1.below C2
 have B2:=B.trans (C2.mono B.size)
 clear CS C2 B h1
 have HR:Hid (rightM x=(shpOk x.kind x.hv&&(!(x.q.l.any (reqBad x.kind))&&(repOk x&&(!(x.s.l.any fun s=>!s.tx x.kind)&&!(x.t.l.any setBad)))))):=rfl
 generalize x.hv=h at HR ⊢
 have CF:=shapeFor_any (w2.alloc (.cells #[.int .u64 h.view,.int .u64 h.seq,.int .i64 h.sum,.int .i64 h.reqs,.int .i64 h.cert,.int .i64 h.sets,.bool h.rep] 104)) x.kind h
 have C3:Below w2.heap.size w2 (w2.alloc (.cells #[.int .u64 h.view,.int .u64 h.seq,.int .i64 h.sum,.int .i64 h.reqs,.int .i64 h.cert,.int .i64 h.sets,.bool h.rep] 104)):=(Below.refl _ _).alloc (Nat.le_refl _) _
 have KM:(w2.alloc (.cells #[.int .u64 h.view,.int .u64 h.seq,.int .i64 h.sum,.int .i64 h.reqs,.int .i64 h.cert,.int .i64 h.sets,.bool h.rep] 104)).heap[w2.heap.size]?=some (.cells #[.int .u64 h.view,.int .u64 h.seq,.int .i64 h.sum,.int .i64 h.reqs,.int .i64 h.cert,.int .i64 h.sets,.bool h.rep] 104):=heap_alloc_new _ _
 obtain ⟨i0,i1,i2,i3,i4,i5,b6,he,hs⟩:=isVal_parts x.kind h
 rw [he] at CF
 clear he
 generalize decide (1≤x.kind∧x.kind≤14)=kn at hs CF
 have HS0:Hid ((kn&&(((h.view:Int) == i0)&&(((h.seq:Int) == i1)&&(((h.sum:Int) == i2)&&(((h.reqs:Int) == i3)&&(((h.cert:Int) == i4)&&(((h.sets:Int) == i5)&&(h.rep == b6))))))))=shpOk x.kind h):=hs
 clear hs
 unfold HV.val at CF ⊢
 have q0:=(K.keep C3).cs.c0
 go_wp2_with fail
 clear q0
 obtain ⟨w3,hw3⟩:∃ W,W=w2.alloc (.cells #[.int .u64 h.view,.int .u64 h.seq,.int .i64 h.sum,.int .i64 h.reqs,.int .i64 h.cert,.int .i64 h.sets,.bool h.rep] 104):=⟨_,rfl⟩
 obtain ⟨M,hM'⟩:∃ N,N=w2.heap.size:=⟨_,rfl⟩
 rw [←hw3] at CF C3 KM ⊢
 rw [←hM'] at KM ⊢
 clear hw3 hM'
 have K:=K.keep C3
 have h3:=h2.below C3
 have B3:=B2.trans (C3.mono B2.size)
 clear C3 B2 h2
 refine CF.mono ?_
 rintro e w4 ⟨rfl,C4⟩
 have K:=K.keep C4
 have hM0:M < w3.heap.size:=(Array.getElem?_eq_some_iff.1 KM).1
 have KM:=(C4.block M hM0).trans KM
 have h4:=h3.below C4
 have B4:=B3.trans (C4.mono B3.size)
 clear CF C4 B3 h3 hM0
 have C5:Below w4.heap.size w4 (w4.alloc (.cells #[.int .u64 i0,.int .u64 i1,.int .i64 i2,.int .i64 i3,.int .i64 i4,.int .i64 i5,.bool b6] 104)):=(Below.refl _ _).alloc (Nat.le_refl _) _
 have KO:(w4.alloc (.cells #[.int .u64 i0,.int .u64 i1,.int .i64 i2,.int .i64 i3,.int .i64 i4,.int .i64 i5,.bool b6] 104)).heap[w4.heap.size]?=some (.cells #[.int .u64 i0,.int .u64 i1,.int .i64 i2,.int .i64 i3,.int .i64 i4,.int .i64 i5,.bool b6] 104):=heap_alloc_new _ _
 go_wp2_with fail
 obtain ⟨w5,hw5⟩:∃ W,W=w4.alloc (.cells #[.int .u64 i0,.int .u64 i1,.int .i64 i2,.int .i64 i3,.int .i64 i4,.int .i64 i5,.bool b6] 104):=⟨_,rfl⟩
 obtain ⟨O,hO'⟩:∃ N,N=w4.heap.size:=⟨_,rfl⟩
 rw [←hw5] at C5 KO ⊢
 rw [←hO'] at KO ⊢
 clear hw5 hO'
 have K:=K.keep C5
 have hM0:M < w4.heap.size:=(Array.getElem?_eq_some_iff.1 KM).1
 have KM:=(C5.block M hM0).trans KM
 have hM:M < w5.heap.size:=(Array.getElem?_eq_some_iff.1 KM).1
 have hO:O < w5.heap.size:=(Array.getElem?_eq_some_iff.1 KO).1
 have h5:=h4.below C5
 have B5:=B4.trans (C5.mono B4.size)
 clear C5 B4 h4 hM0
 have HE:=fun W=>shape_eq W h.view h.seq h.sum h.reqs h.cert h.sets i0 i1 i2 i3 i4 i5 h.rep b6
 have hs:=HS0.out.symm
 clear HS0
 generalize (((h.view:Int) == i0)&&(((h.seq:Int) == i1)&&(((h.sum:Int) == i2)&&(((h.reqs:Int) == i3)&&(((h.cert:Int) == i4)&&(((h.sets:Int) == i5)&&(h.rep == b6)))))))=eqb at HE hs
 have HS':Hid (shpOk x.kind h=(kn&&eqb)):=hs
 clear hs
 cases kn with
 | false =>
  have hv:Hid (rightM x=false):=by show _=_;rw [HR.out,HS'.out];rfl
  clear HR HS'
  have HS:Hid (∀ V,Below w5.heap.size w5 V→V.cell? ⟨N,0,none⟩=some (.int .i64 x.kind)∧V.cell? ⟨N,1,none⟩=some (.int .u64 x.view)∧V.cell? ⟨N,2,none⟩=some (.int .u64 x.seq)∧V.cell? ⟨N,3,none⟩=some (.slice x.sum.ao x.sum.n x.sum.cap)∧V.cell? ⟨N,4,none⟩=some (.slice x.q.ao x.q.n x.q.cap)∧V.cell? ⟨N,5,none⟩=some (.int .u64 x.cl)∧V.cell? ⟨N,6,none⟩=some (.int .u64 x.st)∧V.cell? ⟨N,7,none⟩=some (.int .u64 x.vw)∧V.cell? ⟨N,8,none⟩=some (.int .i64 x.e)∧V.cell? ⟨N,9,none⟩=some (.slice x.c.ao x.c.n x.c.cap)∧V.cell? ⟨N,10,none⟩=some (.bool x.more)∧V.cell? ⟨N,11,none⟩=some (.slice x.s.ao x.s.n x.s.cap)∧V.cell? ⟨N,12,none⟩=some (.slice x.t.ao x.t.n x.t.cap)∧V.cell? ⟨M,0,none⟩=some (.int .u64 h.view)∧V.cell? ⟨M,1,none⟩=some (.int .u64 h.seq)∧V.cell? ⟨M,2,none⟩=some (.int .i64 h.sum)∧V.cell? ⟨M,3,none⟩=some (.int .i64 h.reqs)∧V.cell? ⟨M,4,none⟩=some (.int .i64 h.cert)∧V.cell? ⟨M,5,none⟩=some (.int .i64 h.sets)∧V.cell? ⟨M,6,none⟩=some (.bool h.rep)∧V.cell? ⟨O,0,none⟩=some (.int .u64 i0)∧V.cell? ⟨O,1,none⟩=some (.int .u64 i1)∧V.cell? ⟨O,2,none⟩=some (.int .i64 i2)∧V.cell? ⟨O,3,none⟩=some (.int .i64 i3)∧V.cell? ⟨O,4,none⟩=some (.int .i64 i4)∧V.cell? ⟨O,5,none⟩=some (.int .i64 i5)∧V.cell? ⟨O,6,none⟩=some (.bool b6)):=fun V hV=>have q:=(K.keep hV).cs;⟨q.c0,q.c1,q.c2,q.c3,q.c4,q.c5,q.c6,q.c7,q.c8,q.c9,q.c10,q.c11,q.c12,cell_of_row V M 0 _ _ _ ((hV.block M hM).trans KM),cell_of_row V M 1 _ _ _ ((hV.block M hM).trans KM),cell_of_row V M 2 _ _ _ ((hV.block M hM).trans KM),cell_of_row V M 3 _ _ _ ((hV.block M hM).trans KM),cell_of_row V M 4 _ _ _ ((hV.block M hM).trans KM),cell_of_row V M 5 _ _ _ ((hV.block M hM).trans KM),cell_of_row V M 6 _ _ _ ((hV.block M hM).trans KM),cell_of_row V O 0 _ _ _ ((hV.block O hO).trans KO),cell_of_row V O 1 _ _ _ ((hV.block O hO).trans KO),cell_of_row V O 2 _ _ _ ((hV.block O hO).trans KO),cell_of_row V O 3 _ _ _ ((hV.block O hO).trans KO),cell_of_row V O 4 _ _ _ ((hV.block O hO).trans KO),cell_of_row V O 5 _ _ _ ((hV.block O hO).trans KO),cell_of_row V O 6 _ _ _ ((hV.block O hO).trans KO)⟩
  refine zB (by kernel_rfl) HS.out fun v0 E0 H0=>?_
  refine zT 0 (some 15) (.bool false) rfl rfl (by kernel_rfl) rfl (fun W ⟨h0,h1,h2,h3,h4,h5,h6,h7,h8,h9,h10,h11,h12,h13,h14,h15,h16,h17,h18,h19,h20,h21,h22,h23,h24,h25,h26⟩=>by go_simp) H0 ?_
  simp only [FL]
  refine zT 1 (some 16) (.bool false) rfl rfl (by kernel_rfl) rfl (fun W ⟨h0,h1,h2,h3,h4,h5,h6,h7,h8,h9,h10,h11,h12,h13,h14,h15,h16,h17,h18,h19,h20,h21,h22,h23,h24,h25,h26⟩=>by go_simp) H0 ?_
  simp only [FL]
  refine zN 2 (some 17) rfl rfl (by kernel_rfl) rfl H0 ?_
  simp only [FL]
  refine zN 3 (some 18) rfl rfl (by kernel_rfl) rfl H0 ?_
  simp only [FL]
  refine zN 4 (some 19) rfl rfl (by kernel_rfl) rfl H0 ?_
  simp only [FL]
  refine zT 5 (some 20) (.bool false) rfl rfl (by kernel_rfl) rfl (fun W ⟨h0,h1,h2,h3,h4,h5,h6,h7,h8,h9,h10,h11,h12,h13,h14,h15,h16,h17,h18,h19,h20,h21,h22,h23,h24,h25,h26⟩=>by go_simp) H0 ?_
  simp only [FL]
  refine zT 6 (some 21) (.bool false) rfl rfl (by kernel_rfl) rfl (fun W ⟨h0,h1,h2,h3,h4,h5,h6,h7,h8,h9,h10,h11,h12,h13,h14,h15,h16,h17,h18,h19,h20,h21,h22,h23,h24,h25,h26⟩=>by go_simp) H0 ?_
  simp only [FL]
  refine zN 7 (some 22) rfl rfl (by kernel_rfl) rfl H0 ?_
  simp only [FL]
  refine zN 8 (some 23) rfl rfl (by kernel_rfl) rfl H0 ?_
  simp only [FL]
  refine zT 9 (some 24) (.bool false) rfl rfl (by kernel_rfl) rfl (fun W ⟨h0,h1,h2,h3,h4,h5,h6,h7,h8,h9,h10,h11,h12,h13,h14,h15,h16,h17,h18,h19,h20,h21,h22,h23,h24,h25,h26⟩=>by go_simp) H0 ?_
  simp only [FL]
  refine zT 10 (some 25) (.bool false) rfl rfl (by kernel_rfl) rfl (fun W ⟨h0,h1,h2,h3,h4,h5,h6,h7,h8,h9,h10,h11,h12,h13,h14,h15,h16,h17,h18,h19,h20,h21,h22,h23,h24,h25,h26⟩=>by go_simp) H0 ?_
  simp only [FL]
  refine zN 11 (some 26) rfl rfl (by kernel_rfl) rfl H0 ?_
  simp only [FL]
  refine zN 12 (some 27) rfl rfl (by kernel_rfl) rfl H0 ?_
  simp only [FL]
  refine zT 13 (some 28) (.bool false) rfl rfl (by kernel_rfl) rfl (fun W ⟨h0,h1,h2,h3,h4,h5,h6,h7,h8,h9,h10,h11,h12,h13,h14,h15,h16,h17,h18,h19,h20,h21,h22,h23,h24,h25,h26⟩=>by go_simp) H0 ?_
  simp only [FL]
  refine zT 14 (some 29) (.bool false) rfl rfl (by kernel_rfl) rfl (fun W ⟨h0,h1,h2,h3,h4,h5,h6,h7,h8,h9,h10,h11,h12,h13,h14,h15,h16,h17,h18,h19,h20,h21,h22,h23,h24,h25,h26⟩=>by go_simp) H0 ?_
  simp only [FL]
  refine zN 15 (some 30) rfl rfl (by kernel_rfl) rfl H0 ?_
  simp only [FL]
  refine zN 16 (some 31) rfl rfl (by kernel_rfl) rfl H0 ?_
  simp only [FL]
  refine zN 17 (some 32) rfl rfl (by kernel_rfl) rfl H0 ?_
  simp only [FL]
  refine zN 18 (some 33) rfl rfl (by kernel_rfl) rfl H0 ?_
  simp only [FL]
  refine zN 19 (some 34) rfl rfl (by kernel_rfl) rfl H0 ?_
  simp only [FL]
  refine zN 20 (some 35) rfl rfl (by kernel_rfl) rfl H0 ?_
  simp only [FL]
  refine zT 21 (some 36) (.bool false) rfl rfl (by kernel_rfl) rfl (fun W ⟨h0,h1,h2,h3,h4,h5,h6,h7,h8,h9,h10,h11,h12,h13,h14,h15,h16,h17,h18,h19,h20,h21,h22,h23,h24,h25,h26⟩=>by go_simp) H0 ?_
  simp only [FL]
  refine zT 22 (some 37) (.bool false) rfl rfl (by kernel_rfl) rfl (fun W ⟨h0,h1,h2,h3,h4,h5,h6,h7,h8,h9,h10,h11,h12,h13,h14,h15,h16,h17,h18,h19,h20,h21,h22,h23,h24,h25,h26⟩=>by go_simp) H0 ?_
  simp only [FL]
  refine zN 23 (some 38) rfl rfl (by kernel_rfl) rfl H0 ?_
  simp only [FL]
  refine zN 24 (some 39) rfl rfl (by kernel_rfl) rfl H0 ?_
  simp only [FL]
  refine zN 25 (some 40) rfl rfl (by kernel_rfl) rfl H0 ?_
  simp only [FL]
  refine zT 26 (some 41) (.bool false) rfl rfl (by kernel_rfl) rfl (fun W ⟨h0,h1,h2,h3,h4,h5,h6,h7,h8,h9,h10,h11,h12,h13,h14,h15,h16,h17,h18,h19,h20,h21,h22,h23,h24,h25,h26⟩=>by go_simp) H0 ?_
  simp only [FL]
  refine zT 27 (some 2) (.bool false) rfl rfl (by kernel_rfl) rfl (fun W ⟨h0,h1,h2,h3,h4,h5,h6,h7,h8,h9,h10,h11,h12,h13,h14,h15,h16,h17,h18,h19,h20,h21,h22,h23,h24,h25,h26⟩=>by go_simp) H0 ?_
  simp only [FL]
  refine wpAnyH_done (by kernel_rfl) ?_ _
  refine NoPanic.normal ?_
  have BF:=B5.trans (E0.mono B5.size)
  go_wp2
  go_ret
  exact ⟨by rw [hv.out] <;> rfl,BF⟩
 | true =>
  cases eqb with
  | false =>
   have hv:Hid (rightM x=false):=by show _=_;rw [HR.out,HS'.out];rfl
   clear HR HS'
   have HS:Hid (∀ V,Below w5.heap.size w5 V→V.cell? ⟨N,0,none⟩=some (.int .i64 x.kind)∧V.cell? ⟨N,1,none⟩=some (.int .u64 x.view)∧V.cell? ⟨N,2,none⟩=some (.int .u64 x.seq)∧V.cell? ⟨N,3,none⟩=some (.slice x.sum.ao x.sum.n x.sum.cap)∧V.cell? ⟨N,4,none⟩=some (.slice x.q.ao x.q.n x.q.cap)∧V.cell? ⟨N,5,none⟩=some (.int .u64 x.cl)∧V.cell? ⟨N,6,none⟩=some (.int .u64 x.st)∧V.cell? ⟨N,7,none⟩=some (.int .u64 x.vw)∧V.cell? ⟨N,8,none⟩=some (.int .i64 x.e)∧V.cell? ⟨N,9,none⟩=some (.slice x.c.ao x.c.n x.c.cap)∧V.cell? ⟨N,10,none⟩=some (.bool x.more)∧V.cell? ⟨N,11,none⟩=some (.slice x.s.ao x.s.n x.s.cap)∧V.cell? ⟨N,12,none⟩=some (.slice x.t.ao x.t.n x.t.cap)∧V.cell? ⟨M,0,none⟩=some (.int .u64 h.view)∧V.cell? ⟨M,1,none⟩=some (.int .u64 h.seq)∧V.cell? ⟨M,2,none⟩=some (.int .i64 h.sum)∧V.cell? ⟨M,3,none⟩=some (.int .i64 h.reqs)∧V.cell? ⟨M,4,none⟩=some (.int .i64 h.cert)∧V.cell? ⟨M,5,none⟩=some (.int .i64 h.sets)∧V.cell? ⟨M,6,none⟩=some (.bool h.rep)∧V.cell? ⟨O,0,none⟩=some (.int .u64 i0)∧V.cell? ⟨O,1,none⟩=some (.int .u64 i1)∧V.cell? ⟨O,2,none⟩=some (.int .i64 i2)∧V.cell? ⟨O,3,none⟩=some (.int .i64 i3)∧V.cell? ⟨O,4,none⟩=some (.int .i64 i4)∧V.cell? ⟨O,5,none⟩=some (.int .i64 i5)∧V.cell? ⟨O,6,none⟩=some (.bool b6)):=fun V hV=>have q:=(K.keep hV).cs;⟨q.c0,q.c1,q.c2,q.c3,q.c4,q.c5,q.c6,q.c7,q.c8,q.c9,q.c10,q.c11,q.c12,cell_of_row V M 0 _ _ _ ((hV.block M hM).trans KM),cell_of_row V M 1 _ _ _ ((hV.block M hM).trans KM),cell_of_row V M 2 _ _ _ ((hV.block M hM).trans KM),cell_of_row V M 3 _ _ _ ((hV.block M hM).trans KM),cell_of_row V M 4 _ _ _ ((hV.block M hM).trans KM),cell_of_row V M 5 _ _ _ ((hV.block M hM).trans KM),cell_of_row V M 6 _ _ _ ((hV.block M hM).trans KM),cell_of_row V O 0 _ _ _ ((hV.block O hO).trans KO),cell_of_row V O 1 _ _ _ ((hV.block O hO).trans KO),cell_of_row V O 2 _ _ _ ((hV.block O hO).trans KO),cell_of_row V O 3 _ _ _ ((hV.block O hO).trans KO),cell_of_row V O 4 _ _ _ ((hV.block O hO).trans KO),cell_of_row V O 5 _ _ _ ((hV.block O hO).trans KO),cell_of_row V O 6 _ _ _ ((hV.block O hO).trans KO)⟩
   refine zB (by kernel_rfl) HS.out fun v0 E0 H0=>?_
   refine zT 0 (some 15) (.bool true) rfl rfl (by kernel_rfl) rfl (fun W ⟨h0,h1,h2,h3,h4,h5,h6,h7,h8,h9,h10,h11,h12,h13,h14,h15,h16,h17,h18,h19,h20,h21,h22,h23,h24,h25,h26⟩=>by go_simp) H0 ?_
   simp only [FL]
   refine zT 1 (some 16) (.bool true) rfl rfl (by kernel_rfl) rfl (fun W ⟨h0,h1,h2,h3,h4,h5,h6,h7,h8,h9,h10,h11,h12,h13,h14,h15,h16,h17,h18,h19,h20,h21,h22,h23,h24,h25,h26⟩=>by go_simp) H0 ?_
   simp only [FL]
   refine zT 2 (some 17) (.agg #[.int .u64 h.view,.int .u64 h.seq,.int .i64 h.sum,.int .i64 h.reqs,.int .i64 h.cert,.int .i64 h.sets,.bool h.rep]) rfl rfl (by kernel_rfl) rfl (fun W ⟨h0,h1,h2,h3,h4,h5,h6,h7,h8,h9,h10,h11,h12,h13,h14,h15,h16,h17,h18,h19,h20,h21,h22,h23,h24,h25,h26⟩=>by go_simp) H0 ?_
   simp only [FL]
   refine zT 3 (some 18) (.agg #[.int .u64 i0,.int .u64 i1,.int .i64 i2,.int .i64 i3,.int .i64 i4,.int .i64 i5,.bool b6]) rfl rfl (by kernel_rfl) rfl (fun W ⟨h0,h1,h2,h3,h4,h5,h6,h7,h8,h9,h10,h11,h12,h13,h14,h15,h16,h17,h18,h19,h20,h21,h22,h23,h24,h25,h26⟩=>by go_simp) H0 ?_
   simp only [FL]
   refine zT 4 (some 19) (.bool false) rfl rfl (by kernel_rfl) rfl (fun W ⟨h0,h1,h2,h3,h4,h5,h6,h7,h8,h9,h10,h11,h12,h13,h14,h15,h16,h17,h18,h19,h20,h21,h22,h23,h24,h25,h26⟩=>by have he:=HE W;go_simp) H0 ?_
   simp only [FL]
   refine zT 5 (some 20) (.bool false) rfl rfl (by kernel_rfl) rfl (fun W ⟨h0,h1,h2,h3,h4,h5,h6,h7,h8,h9,h10,h11,h12,h13,h14,h15,h16,h17,h18,h19,h20,h21,h22,h23,h24,h25,h26⟩=>by go_simp) H0 ?_
   simp only [FL]
   refine zT 6 (some 21) (.bool false) rfl rfl (by kernel_rfl) rfl (fun W ⟨h0,h1,h2,h3,h4,h5,h6,h7,h8,h9,h10,h11,h12,h13,h14,h15,h16,h17,h18,h19,h20,h21,h22,h23,h24,h25,h26⟩=>by go_simp) H0 ?_
   simp only [FL]
   refine zN 7 (some 22) rfl rfl (by kernel_rfl) rfl H0 ?_
   simp only [FL]
   refine zN 8 (some 23) rfl rfl (by kernel_rfl) rfl H0 ?_
   simp only [FL]
   refine zT 9 (some 24) (.bool false) rfl rfl (by kernel_rfl) rfl (fun W ⟨h0,h1,h2,h3,h4,h5,h6,h7,h8,h9,h10,h11,h12,h13,h14,h15,h16,h17,h18,h19,h20,h21,h22,h23,h24,h25,h26⟩=>by go_simp) H0 ?_
   simp only [FL]
   refine zT 10 (some 25) (.bool false) rfl rfl (by kernel_rfl) rfl (fun W ⟨h0,h1,h2,h3,h4,h5,h6,h7,h8,h9,h10,h11,h12,h13,h14,h15,h16,h17,h18,h19,h20,h21,h22,h23,h24,h25,h26⟩=>by go_simp) H0 ?_
   simp only [FL]
   refine zN 11 (some 26) rfl rfl (by kernel_rfl) rfl H0 ?_
   simp only [FL]
   refine zN 12 (some 27) rfl rfl (by kernel_rfl) rfl H0 ?_
   simp only [FL]
   refine zT 13 (some 28) (.bool false) rfl rfl (by kernel_rfl) rfl (fun W ⟨h0,h1,h2,h3,h4,h5,h6,h7,h8,h9,h10,h11,h12,h13,h14,h15,h16,h17,h18,h19,h20,h21,h22,h23,h24,h25,h26⟩=>by go_simp) H0 ?_
   simp only [FL]
   refine zT 14 (some 29) (.bool false) rfl rfl (by kernel_rfl) rfl (fun W ⟨h0,h1,h2,h3,h4,h5,h6,h7,h8,h9,h10,h11,h12,h13,h14,h15,h16,h17,h18,h19,h20,h21,h22,h23,h24,h25,h26⟩=>by go_simp) H0 ?_
   simp only [FL]
   refine zN 15 (some 30) rfl rfl (by kernel_rfl) rfl H0 ?_
   simp only [FL]
   refine zN 16 (some 31) rfl rfl (by kernel_rfl) rfl H0 ?_
   simp only [FL]
   refine zN 17 (some 32) rfl rfl (by kernel_rfl) rfl H0 ?_
   simp only [FL]
   refine zN 18 (some 33) rfl rfl (by kernel_rfl) rfl H0 ?_
   simp only [FL]
   refine zN 19 (some 34) rfl rfl (by kernel_rfl) rfl H0 ?_
   simp only [FL]
   refine zN 20 (some 35) rfl rfl (by kernel_rfl) rfl H0 ?_
   simp only [FL]
   refine zT 21 (some 36) (.bool false) rfl rfl (by kernel_rfl) rfl (fun W ⟨h0,h1,h2,h3,h4,h5,h6,h7,h8,h9,h10,h11,h12,h13,h14,h15,h16,h17,h18,h19,h20,h21,h22,h23,h24,h25,h26⟩=>by go_simp) H0 ?_
   simp only [FL]
   refine zT 22 (some 37) (.bool false) rfl rfl (by kernel_rfl) rfl (fun W ⟨h0,h1,h2,h3,h4,h5,h6,h7,h8,h9,h10,h11,h12,h13,h14,h15,h16,h17,h18,h19,h20,h21,h22,h23,h24,h25,h26⟩=>by go_simp) H0 ?_
   simp only [FL]
   refine zN 23 (some 38) rfl rfl (by kernel_rfl) rfl H0 ?_
   simp only [FL]
   refine zN 24 (some 39) rfl rfl (by kernel_rfl) rfl H0 ?_
   simp only [FL]
   refine zN 25 (some 40) rfl rfl (by kernel_rfl) rfl H0 ?_
   simp only [FL]
   refine zT 26 (some 41) (.bool false) rfl rfl (by kernel_rfl) rfl (fun W ⟨h0,h1,h2,h3,h4,h5,h6,h7,h8,h9,h10,h11,h12,h13,h14,h15,h16,h17,h18,h19,h20,h21,h22,h23,h24,h25,h26⟩=>by go_simp) H0 ?_
   simp only [FL]
   refine zT 27 (some 2) (.bool false) rfl rfl (by kernel_rfl) rfl (fun W ⟨h0,h1,h2,h3,h4,h5,h6,h7,h8,h9,h10,h11,h12,h13,h14,h15,h16,h17,h18,h19,h20,h21,h22,h23,h24,h25,h26⟩=>by go_simp) H0 ?_
   simp only [FL]
   refine wpAnyH_done (by kernel_rfl) ?_ _
   refine NoPanic.normal ?_
   have BF:=B5.trans (E0.mono B5.size)
   go_wp2
   go_ret
   exact ⟨by rw [hv.out] <;> rfl,BF⟩
  | true =>
   have HR:Hid (rightM x=(!(x.q.l.any (reqBad x.kind))&&(repOk x&&(!(x.s.l.any fun s=>!s.tx x.kind)&&!(x.t.l.any setBad))))):=by show _=_;rw [HR.out,HS'.out];rfl
   clear HS'
   have CQ:=areRequests_any (x:=x)
   have CP:=isReplyFor_any (x:=x)
   have CT:=fun V (hV:x.ok V)=>areTexts_any V x.kind x.s.ao x.s.n x.s.cap x.s.l hV.s
   unfold BM.val at CQ CP
   generalize (!(x.q.l.any (reqBad x.kind)))=rq at HR CQ
   generalize repOk x=rp at HR CP
   generalize (!(x.s.l.any fun s=>!s.tx x.kind))=tx at HR CT
   cases rq with
   | false =>
    have hv:Hid (rightM x=false):=by show _=_;rw [HR.out];rfl
    clear HR CP CT
    have HS:Hid (∀ V,Below w5.heap.size w5 V→V.cell? ⟨N,0,none⟩=some (.int .i64 x.kind)∧V.cell? ⟨N,1,none⟩=some (.int .u64 x.view)∧V.cell? ⟨N,2,none⟩=some (.int .u64 x.seq)∧V.cell? ⟨N,3,none⟩=some (.slice x.sum.ao x.sum.n x.sum.cap)∧V.cell? ⟨N,4,none⟩=some (.slice x.q.ao x.q.n x.q.cap)∧V.cell? ⟨N,5,none⟩=some (.int .u64 x.cl)∧V.cell? ⟨N,6,none⟩=some (.int .u64 x.st)∧V.cell? ⟨N,7,none⟩=some (.int .u64 x.vw)∧V.cell? ⟨N,8,none⟩=some (.int .i64 x.e)∧V.cell? ⟨N,9,none⟩=some (.slice x.c.ao x.c.n x.c.cap)∧V.cell? ⟨N,10,none⟩=some (.bool x.more)∧V.cell? ⟨N,11,none⟩=some (.slice x.s.ao x.s.n x.s.cap)∧V.cell? ⟨N,12,none⟩=some (.slice x.t.ao x.t.n x.t.cap)∧V.cell? ⟨M,0,none⟩=some (.int .u64 h.view)∧V.cell? ⟨M,1,none⟩=some (.int .u64 h.seq)∧V.cell? ⟨M,2,none⟩=some (.int .i64 h.sum)∧V.cell? ⟨M,3,none⟩=some (.int .i64 h.reqs)∧V.cell? ⟨M,4,none⟩=some (.int .i64 h.cert)∧V.cell? ⟨M,5,none⟩=some (.int .i64 h.sets)∧V.cell? ⟨M,6,none⟩=some (.bool h.rep)∧V.cell? ⟨O,0,none⟩=some (.int .u64 i0)∧V.cell? ⟨O,1,none⟩=some (.int .u64 i1)∧V.cell? ⟨O,2,none⟩=some (.int .i64 i2)∧V.cell? ⟨O,3,none⟩=some (.int .i64 i3)∧V.cell? ⟨O,4,none⟩=some (.int .i64 i4)∧V.cell? ⟨O,5,none⟩=some (.int .i64 i5)∧V.cell? ⟨O,6,none⟩=some (.bool b6)):=fun V hV=>have q:=(K.keep hV).cs;⟨q.c0,q.c1,q.c2,q.c3,q.c4,q.c5,q.c6,q.c7,q.c8,q.c9,q.c10,q.c11,q.c12,cell_of_row V M 0 _ _ _ ((hV.block M hM).trans KM),cell_of_row V M 1 _ _ _ ((hV.block M hM).trans KM),cell_of_row V M 2 _ _ _ ((hV.block M hM).trans KM),cell_of_row V M 3 _ _ _ ((hV.block M hM).trans KM),cell_of_row V M 4 _ _ _ ((hV.block M hM).trans KM),cell_of_row V M 5 _ _ _ ((hV.block M hM).trans KM),cell_of_row V M 6 _ _ _ ((hV.block M hM).trans KM),cell_of_row V O 0 _ _ _ ((hV.block O hO).trans KO),cell_of_row V O 1 _ _ _ ((hV.block O hO).trans KO),cell_of_row V O 2 _ _ _ ((hV.block O hO).trans KO),cell_of_row V O 3 _ _ _ ((hV.block O hO).trans KO),cell_of_row V O 4 _ _ _ ((hV.block O hO).trans KO),cell_of_row V O 5 _ _ _ ((hV.block O hO).trans KO),cell_of_row V O 6 _ _ _ ((hV.block O hO).trans KO)⟩
    refine zB (by kernel_rfl) HS.out fun v0 E0 H0=>?_
    refine zT 0 (some 15) (.bool true) rfl rfl (by kernel_rfl) rfl (fun W ⟨h0,h1,h2,h3,h4,h5,h6,h7,h8,h9,h10,h11,h12,h13,h14,h15,h16,h17,h18,h19,h20,h21,h22,h23,h24,h25,h26⟩=>by go_simp) H0 ?_
    simp only [FL]
    refine zT 1 (some 16) (.bool true) rfl rfl (by kernel_rfl) rfl (fun W ⟨h0,h1,h2,h3,h4,h5,h6,h7,h8,h9,h10,h11,h12,h13,h14,h15,h16,h17,h18,h19,h20,h21,h22,h23,h24,h25,h26⟩=>by go_simp) H0 ?_
    simp only [FL]
    refine zT 2 (some 17) (.agg #[.int .u64 h.view,.int .u64 h.seq,.int .i64 h.sum,.int .i64 h.reqs,.int .i64 h.cert,.int .i64 h.sets,.bool h.rep]) rfl rfl (by kernel_rfl) rfl (fun W ⟨h0,h1,h2,h3,h4,h5,h6,h7,h8,h9,h10,h11,h12,h13,h14,h15,h16,h17,h18,h19,h20,h21,h22,h23,h24,h25,h26⟩=>by go_simp) H0 ?_
    simp only [FL]
    refine zT 3 (some 18) (.agg #[.int .u64 i0,.int .u64 i1,.int .i64 i2,.int .i64 i3,.int .i64 i4,.int .i64 i5,.bool b6]) rfl rfl (by kernel_rfl) rfl (fun W ⟨h0,h1,h2,h3,h4,h5,h6,h7,h8,h9,h10,h11,h12,h13,h14,h15,h16,h17,h18,h19,h20,h21,h22,h23,h24,h25,h26⟩=>by go_simp) H0 ?_
    simp only [FL]
    refine zT 4 (some 19) (.bool true) rfl rfl (by kernel_rfl) rfl (fun W ⟨h0,h1,h2,h3,h4,h5,h6,h7,h8,h9,h10,h11,h12,h13,h14,h15,h16,h17,h18,h19,h20,h21,h22,h23,h24,h25,h26⟩=>by have he:=HE W;go_simp) H0 ?_
    simp only [FL]
    refine zT 5 (some 20) (.bool true) rfl rfl (by kernel_rfl) rfl (fun W ⟨h0,h1,h2,h3,h4,h5,h6,h7,h8,h9,h10,h11,h12,h13,h14,h15,h16,h17,h18,h19,h20,h21,h22,h23,h24,h25,h26⟩=>by go_simp) H0 ?_
    simp only [FL]
    refine zT 6 (some 21) (.bool true) rfl rfl (by kernel_rfl) rfl (fun W ⟨h0,h1,h2,h3,h4,h5,h6,h7,h8,h9,h10,h11,h12,h13,h14,h15,h16,h17,h18,h19,h20,h21,h22,h23,h24,h25,h26⟩=>by go_simp) H0 ?_
    simp only [FL]
    refine zT 7 (some 22) (.agg #[.int .i64 x.kind,.int .u64 x.view,.int .u64 x.seq,.slice x.sum.ao x.sum.n x.sum.cap,.slice x.q.ao x.q.n x.q.cap,.int .u64 x.cl,.int .u64 x.st,.int .u64 x.vw,.int .i64 x.e,.slice x.c.ao x.c.n x.c.cap,.bool x.more,.slice x.s.ao x.s.n x.s.cap,.slice x.t.ao x.t.n x.t.cap]) rfl rfl (by kernel_rfl) rfl (fun W ⟨h0,h1,h2,h3,h4,h5,h6,h7,h8,h9,h10,h11,h12,h13,h14,h15,h16,h17,h18,h19,h20,h21,h22,h23,h24,h25,h26⟩=>by go_simp) H0 ?_
    simp only [FL]
    refine hr_call_w 8 (some 23) 59 #[.agg #[.int .i64 x.kind,.int .u64 x.view,.int .u64 x.seq,.slice x.sum.ao x.sum.n x.sum.cap,.slice x.q.ao x.q.n x.q.cap,.int .u64 x.cl,.int .u64 x.st,.int .u64 x.vw,.int .i64 x.e,.slice x.c.ao x.c.n x.c.cap,.bool x.more,.slice x.s.ao x.s.n x.s.cap,.slice x.t.ao x.t.n x.t.cap]] rfl rfl (by kernel_rfl) rfl (by go_simp) (fun v w'=>v=.bool false∧Below v0.heap.size v0 w') ((CQ v0 (h5.below E0)).mono (by
     rintro e w' ⟨rfl,C⟩
     exact ⟨_,rfl,rfl,C⟩)) ?_
    rintro v v1 ⟨rfl,C0⟩
    have E1:=E0.trans (C0.mono E0.size)
    have H1:=HS.out v1 E1
    refine ⟨H1,?_⟩
    simp only [FL]
    refine zT 9 (some 24) (.bool false) rfl rfl (by kernel_rfl) rfl (fun W ⟨h0,h1,h2,h3,h4,h5,h6,h7,h8,h9,h10,h11,h12,h13,h14,h15,h16,h17,h18,h19,h20,h21,h22,h23,h24,h25,h26⟩=>by go_simp) H1 ?_
    simp only [FL]
    refine zT 10 (some 25) (.bool false) rfl rfl (by kernel_rfl) rfl (fun W ⟨h0,h1,h2,h3,h4,h5,h6,h7,h8,h9,h10,h11,h12,h13,h14,h15,h16,h17,h18,h19,h20,h21,h22,h23,h24,h25,h26⟩=>by go_simp) H1 ?_
    simp only [FL]
    refine zN 11 (some 26) rfl rfl (by kernel_rfl) rfl H1 ?_
    simp only [FL]
    refine zN 12 (some 27) rfl rfl (by kernel_rfl) rfl H1 ?_
    simp only [FL]
    refine zT 13 (some 28) (.bool false) rfl rfl (by kernel_rfl) rfl (fun W ⟨h0,h1,h2,h3,h4,h5,h6,h7,h8,h9,h10,h11,h12,h13,h14,h15,h16,h17,h18,h19,h20,h21,h22,h23,h24,h25,h26⟩=>by go_simp) H1 ?_
    simp only [FL]
    refine zT 14 (some 29) (.bool false) rfl rfl (by kernel_rfl) rfl (fun W ⟨h0,h1,h2,h3,h4,h5,h6,h7,h8,h9,h10,h11,h12,h13,h14,h15,h16,h17,h18,h19,h20,h21,h22,h23,h24,h25,h26⟩=>by go_simp) H1 ?_
    simp only [FL]
    refine zN 15 (some 30) rfl rfl (by kernel_rfl) rfl H1 ?_
    simp only [FL]
    refine zN 16 (some 31) rfl rfl (by kernel_rfl) rfl H1 ?_
    simp only [FL]
    refine zN 17 (some 32) rfl rfl (by kernel_rfl) rfl H1 ?_
    simp only [FL]
    refine zN 18 (some 33) rfl rfl (by kernel_rfl) rfl H1 ?_
    simp only [FL]
    refine zN 19 (some 34) rfl rfl (by kernel_rfl) rfl H1 ?_
    simp only [FL]
    refine zN 20 (some 35) rfl rfl (by kernel_rfl) rfl H1 ?_
    simp only [FL]
    refine zT 21 (some 36) (.bool false) rfl rfl (by kernel_rfl) rfl (fun W ⟨h0,h1,h2,h3,h4,h5,h6,h7,h8,h9,h10,h11,h12,h13,h14,h15,h16,h17,h18,h19,h20,h21,h22,h23,h24,h25,h26⟩=>by go_simp) H1 ?_
    simp only [FL]
    refine zT 22 (some 37) (.bool false) rfl rfl (by kernel_rfl) rfl (fun W ⟨h0,h1,h2,h3,h4,h5,h6,h7,h8,h9,h10,h11,h12,h13,h14,h15,h16,h17,h18,h19,h20,h21,h22,h23,h24,h25,h26⟩=>by go_simp) H1 ?_
    simp only [FL]
    refine zN 23 (some 38) rfl rfl (by kernel_rfl) rfl H1 ?_
    simp only [FL]
    refine zN 24 (some 39) rfl rfl (by kernel_rfl) rfl H1 ?_
    simp only [FL]
    refine zN 25 (some 40) rfl rfl (by kernel_rfl) rfl H1 ?_
    simp only [FL]
    refine zT 26 (some 41) (.bool false) rfl rfl (by kernel_rfl) rfl (fun W ⟨h0,h1,h2,h3,h4,h5,h6,h7,h8,h9,h10,h11,h12,h13,h14,h15,h16,h17,h18,h19,h20,h21,h22,h23,h24,h25,h26⟩=>by go_simp) H1 ?_
    simp only [FL]
    refine zT 27 (some 2) (.bool false) rfl rfl (by kernel_rfl) rfl (fun W ⟨h0,h1,h2,h3,h4,h5,h6,h7,h8,h9,h10,h11,h12,h13,h14,h15,h16,h17,h18,h19,h20,h21,h22,h23,h24,h25,h26⟩=>by go_simp) H1 ?_
    simp only [FL]
    refine wpAnyH_done (by kernel_rfl) ?_ _
    refine NoPanic.normal ?_
    have BF:=B5.trans (E1.mono B5.size)
    go_wp2
    go_ret
    exact ⟨by rw [hv.out] <;> rfl,BF⟩
   | true =>
    cases rp with
    | false =>
     have hv:Hid (rightM x=false):=by show _=_;rw [HR.out];rfl
     clear HR CT
     have HS:Hid (∀ V,Below w5.heap.size w5 V→V.cell? ⟨N,0,none⟩=some (.int .i64 x.kind)∧V.cell? ⟨N,1,none⟩=some (.int .u64 x.view)∧V.cell? ⟨N,2,none⟩=some (.int .u64 x.seq)∧V.cell? ⟨N,3,none⟩=some (.slice x.sum.ao x.sum.n x.sum.cap)∧V.cell? ⟨N,4,none⟩=some (.slice x.q.ao x.q.n x.q.cap)∧V.cell? ⟨N,5,none⟩=some (.int .u64 x.cl)∧V.cell? ⟨N,6,none⟩=some (.int .u64 x.st)∧V.cell? ⟨N,7,none⟩=some (.int .u64 x.vw)∧V.cell? ⟨N,8,none⟩=some (.int .i64 x.e)∧V.cell? ⟨N,9,none⟩=some (.slice x.c.ao x.c.n x.c.cap)∧V.cell? ⟨N,10,none⟩=some (.bool x.more)∧V.cell? ⟨N,11,none⟩=some (.slice x.s.ao x.s.n x.s.cap)∧V.cell? ⟨N,12,none⟩=some (.slice x.t.ao x.t.n x.t.cap)∧V.cell? ⟨M,0,none⟩=some (.int .u64 h.view)∧V.cell? ⟨M,1,none⟩=some (.int .u64 h.seq)∧V.cell? ⟨M,2,none⟩=some (.int .i64 h.sum)∧V.cell? ⟨M,3,none⟩=some (.int .i64 h.reqs)∧V.cell? ⟨M,4,none⟩=some (.int .i64 h.cert)∧V.cell? ⟨M,5,none⟩=some (.int .i64 h.sets)∧V.cell? ⟨M,6,none⟩=some (.bool h.rep)∧V.cell? ⟨O,0,none⟩=some (.int .u64 i0)∧V.cell? ⟨O,1,none⟩=some (.int .u64 i1)∧V.cell? ⟨O,2,none⟩=some (.int .i64 i2)∧V.cell? ⟨O,3,none⟩=some (.int .i64 i3)∧V.cell? ⟨O,4,none⟩=some (.int .i64 i4)∧V.cell? ⟨O,5,none⟩=some (.int .i64 i5)∧V.cell? ⟨O,6,none⟩=some (.bool b6)):=fun V hV=>have q:=(K.keep hV).cs;⟨q.c0,q.c1,q.c2,q.c3,q.c4,q.c5,q.c6,q.c7,q.c8,q.c9,q.c10,q.c11,q.c12,cell_of_row V M 0 _ _ _ ((hV.block M hM).trans KM),cell_of_row V M 1 _ _ _ ((hV.block M hM).trans KM),cell_of_row V M 2 _ _ _ ((hV.block M hM).trans KM),cell_of_row V M 3 _ _ _ ((hV.block M hM).trans KM),cell_of_row V M 4 _ _ _ ((hV.block M hM).trans KM),cell_of_row V M 5 _ _ _ ((hV.block M hM).trans KM),cell_of_row V M 6 _ _ _ ((hV.block M hM).trans KM),cell_of_row V O 0 _ _ _ ((hV.block O hO).trans KO),cell_of_row V O 1 _ _ _ ((hV.block O hO).trans KO),cell_of_row V O 2 _ _ _ ((hV.block O hO).trans KO),cell_of_row V O 3 _ _ _ ((hV.block O hO).trans KO),cell_of_row V O 4 _ _ _ ((hV.block O hO).trans KO),cell_of_row V O 5 _ _ _ ((hV.block O hO).trans KO),cell_of_row V O 6 _ _ _ ((hV.block O hO).trans KO)⟩
     refine zB (by kernel_rfl) HS.out fun v0 E0 H0=>?_
     refine zT 0 (some 15) (.bool true) rfl rfl (by kernel_rfl) rfl (fun W ⟨h0,h1,h2,h3,h4,h5,h6,h7,h8,h9,h10,h11,h12,h13,h14,h15,h16,h17,h18,h19,h20,h21,h22,h23,h24,h25,h26⟩=>by go_simp) H0 ?_
     simp only [FL]
     refine zT 1 (some 16) (.bool true) rfl rfl (by kernel_rfl) rfl (fun W ⟨h0,h1,h2,h3,h4,h5,h6,h7,h8,h9,h10,h11,h12,h13,h14,h15,h16,h17,h18,h19,h20,h21,h22,h23,h24,h25,h26⟩=>by go_simp) H0 ?_
     simp only [FL]
     refine zT 2 (some 17) (.agg #[.int .u64 h.view,.int .u64 h.seq,.int .i64 h.sum,.int .i64 h.reqs,.int .i64 h.cert,.int .i64 h.sets,.bool h.rep]) rfl rfl (by kernel_rfl) rfl (fun W ⟨h0,h1,h2,h3,h4,h5,h6,h7,h8,h9,h10,h11,h12,h13,h14,h15,h16,h17,h18,h19,h20,h21,h22,h23,h24,h25,h26⟩=>by go_simp) H0 ?_
     simp only [FL]
     refine zT 3 (some 18) (.agg #[.int .u64 i0,.int .u64 i1,.int .i64 i2,.int .i64 i3,.int .i64 i4,.int .i64 i5,.bool b6]) rfl rfl (by kernel_rfl) rfl (fun W ⟨h0,h1,h2,h3,h4,h5,h6,h7,h8,h9,h10,h11,h12,h13,h14,h15,h16,h17,h18,h19,h20,h21,h22,h23,h24,h25,h26⟩=>by go_simp) H0 ?_
     simp only [FL]
     refine zT 4 (some 19) (.bool true) rfl rfl (by kernel_rfl) rfl (fun W ⟨h0,h1,h2,h3,h4,h5,h6,h7,h8,h9,h10,h11,h12,h13,h14,h15,h16,h17,h18,h19,h20,h21,h22,h23,h24,h25,h26⟩=>by have he:=HE W;go_simp) H0 ?_
     simp only [FL]
     refine zT 5 (some 20) (.bool true) rfl rfl (by kernel_rfl) rfl (fun W ⟨h0,h1,h2,h3,h4,h5,h6,h7,h8,h9,h10,h11,h12,h13,h14,h15,h16,h17,h18,h19,h20,h21,h22,h23,h24,h25,h26⟩=>by go_simp) H0 ?_
     simp only [FL]
     refine zT 6 (some 21) (.bool true) rfl rfl (by kernel_rfl) rfl (fun W ⟨h0,h1,h2,h3,h4,h5,h6,h7,h8,h9,h10,h11,h12,h13,h14,h15,h16,h17,h18,h19,h20,h21,h22,h23,h24,h25,h26⟩=>by go_simp) H0 ?_
     simp only [FL]
     refine zT 7 (some 22) (.agg #[.int .i64 x.kind,.int .u64 x.view,.int .u64 x.seq,.slice x.sum.ao x.sum.n x.sum.cap,.slice x.q.ao x.q.n x.q.cap,.int .u64 x.cl,.int .u64 x.st,.int .u64 x.vw,.int .i64 x.e,.slice x.c.ao x.c.n x.c.cap,.bool x.more,.slice x.s.ao x.s.n x.s.cap,.slice x.t.ao x.t.n x.t.cap]) rfl rfl (by kernel_rfl) rfl (fun W ⟨h0,h1,h2,h3,h4,h5,h6,h7,h8,h9,h10,h11,h12,h13,h14,h15,h16,h17,h18,h19,h20,h21,h22,h23,h24,h25,h26⟩=>by go_simp) H0 ?_
     simp only [FL]
     refine hr_call_w 8 (some 23) 59 #[.agg #[.int .i64 x.kind,.int .u64 x.view,.int .u64 x.seq,.slice x.sum.ao x.sum.n x.sum.cap,.slice x.q.ao x.q.n x.q.cap,.int .u64 x.cl,.int .u64 x.st,.int .u64 x.vw,.int .i64 x.e,.slice x.c.ao x.c.n x.c.cap,.bool x.more,.slice x.s.ao x.s.n x.s.cap,.slice x.t.ao x.t.n x.t.cap]] rfl rfl (by kernel_rfl) rfl (by go_simp) (fun v w'=>v=.bool true∧Below v0.heap.size v0 w') ((CQ v0 (h5.below E0)).mono (by
      rintro e w' ⟨rfl,C⟩
      exact ⟨_,rfl,rfl,C⟩)) ?_
     rintro v v1 ⟨rfl,C0⟩
     have E1:=E0.trans (C0.mono E0.size)
     have H1:=HS.out v1 E1
     refine ⟨H1,?_⟩
     simp only [FL]
     refine zT 9 (some 24) (.bool true) rfl rfl (by kernel_rfl) rfl (fun W ⟨h0,h1,h2,h3,h4,h5,h6,h7,h8,h9,h10,h11,h12,h13,h14,h15,h16,h17,h18,h19,h20,h21,h22,h23,h24,h25,h26⟩=>by go_simp) H1 ?_
     simp only [FL]
     refine zT 10 (some 25) (.bool true) rfl rfl (by kernel_rfl) rfl (fun W ⟨h0,h1,h2,h3,h4,h5,h6,h7,h8,h9,h10,h11,h12,h13,h14,h15,h16,h17,h18,h19,h20,h21,h22,h23,h24,h25,h26⟩=>by go_simp) H1 ?_
     simp only [FL]
     refine zT 11 (some 26) (.agg #[.int .i64 x.kind,.int .u64 x.view,.int .u64 x.seq,.slice x.sum.ao x.sum.n x.sum.cap,.slice x.q.ao x.q.n x.q.cap,.int .u64 x.cl,.int .u64 x.st,.int .u64 x.vw,.int .i64 x.e,.slice x.c.ao x.c.n x.c.cap,.bool x.more,.slice x.s.ao x.s.n x.s.cap,.slice x.t.ao x.t.n x.t.cap]) rfl rfl (by kernel_rfl) rfl (fun W ⟨h0,h1,h2,h3,h4,h5,h6,h7,h8,h9,h10,h11,h12,h13,h14,h15,h16,h17,h18,h19,h20,h21,h22,h23,h24,h25,h26⟩=>by go_simp) H1 ?_
     simp only [FL]
     refine hr_call_w 12 (some 27) 60 #[.agg #[.int .i64 x.kind,.int .u64 x.view,.int .u64 x.seq,.slice x.sum.ao x.sum.n x.sum.cap,.slice x.q.ao x.q.n x.q.cap,.int .u64 x.cl,.int .u64 x.st,.int .u64 x.vw,.int .i64 x.e,.slice x.c.ao x.c.n x.c.cap,.bool x.more,.slice x.s.ao x.s.n x.s.cap,.slice x.t.ao x.t.n x.t.cap]] rfl rfl (by kernel_rfl) rfl (by go_simp) (fun v w'=>v=.bool false∧Below v1.heap.size v1 w') ((CP v1 (h5.below E1)).mono (by
      rintro e w' ⟨rfl,C⟩
      exact ⟨_,rfl,rfl,C⟩)) ?_
     rintro v v2 ⟨rfl,C1⟩
     have E2:=E1.trans (C1.mono E1.size)
     have H2:=HS.out v2 E2
     refine ⟨H2,?_⟩
     simp only [FL]
     refine zT 13 (some 28) (.bool false) rfl rfl (by kernel_rfl) rfl (fun W ⟨h0,h1,h2,h3,h4,h5,h6,h7,h8,h9,h10,h11,h12,h13,h14,h15,h16,h17,h18,h19,h20,h21,h22,h23,h24,h25,h26⟩=>by go_simp) H2 ?_
     simp only [FL]
     refine zT 14 (some 29) (.bool false) rfl rfl (by kernel_rfl) rfl (fun W ⟨h0,h1,h2,h3,h4,h5,h6,h7,h8,h9,h10,h11,h12,h13,h14,h15,h16,h17,h18,h19,h20,h21,h22,h23,h24,h25,h26⟩=>by go_simp) H2 ?_
     simp only [FL]
     refine zN 15 (some 30) rfl rfl (by kernel_rfl) rfl H2 ?_
     simp only [FL]
     refine zN 16 (some 31) rfl rfl (by kernel_rfl) rfl H2 ?_
     simp only [FL]
     refine zN 17 (some 32) rfl rfl (by kernel_rfl) rfl H2 ?_
     simp only [FL]
     refine zN 18 (some 33) rfl rfl (by kernel_rfl) rfl H2 ?_
     simp only [FL]
     refine zN 19 (some 34) rfl rfl (by kernel_rfl) rfl H2 ?_
     simp only [FL]
     refine zN 20 (some 35) rfl rfl (by kernel_rfl) rfl H2 ?_
     simp only [FL]
     refine zT 21 (some 36) (.bool false) rfl rfl (by kernel_rfl) rfl (fun W ⟨h0,h1,h2,h3,h4,h5,h6,h7,h8,h9,h10,h11,h12,h13,h14,h15,h16,h17,h18,h19,h20,h21,h22,h23,h24,h25,h26⟩=>by go_simp) H2 ?_
     simp only [FL]
     refine zT 22 (some 37) (.bool false) rfl rfl (by kernel_rfl) rfl (fun W ⟨h0,h1,h2,h3,h4,h5,h6,h7,h8,h9,h10,h11,h12,h13,h14,h15,h16,h17,h18,h19,h20,h21,h22,h23,h24,h25,h26⟩=>by go_simp) H2 ?_
     simp only [FL]
     refine zN 23 (some 38) rfl rfl (by kernel_rfl) rfl H2 ?_
     simp only [FL]
     refine zN 24 (some 39) rfl rfl (by kernel_rfl) rfl H2 ?_
     simp only [FL]
     refine zN 25 (some 40) rfl rfl (by kernel_rfl) rfl H2 ?_
     simp only [FL]
     refine zT 26 (some 41) (.bool false) rfl rfl (by kernel_rfl) rfl (fun W ⟨h0,h1,h2,h3,h4,h5,h6,h7,h8,h9,h10,h11,h12,h13,h14,h15,h16,h17,h18,h19,h20,h21,h22,h23,h24,h25,h26⟩=>by go_simp) H2 ?_
     simp only [FL]
     refine zT 27 (some 2) (.bool false) rfl rfl (by kernel_rfl) rfl (fun W ⟨h0,h1,h2,h3,h4,h5,h6,h7,h8,h9,h10,h11,h12,h13,h14,h15,h16,h17,h18,h19,h20,h21,h22,h23,h24,h25,h26⟩=>by go_simp) H2 ?_
     simp only [FL]
     refine wpAnyH_done (by kernel_rfl) ?_ _
     refine NoPanic.normal ?_
     have BF:=B5.trans (E2.mono B5.size)
     go_wp2
     go_ret
     exact ⟨by rw [hv.out] <;> rfl,BF⟩
    | true =>
     cases tx with
     | false =>
      have hv:Hid (rightM x=false):=by show _=_;rw [HR.out];rfl
      clear HR
      have HS:Hid (∀ V,Below w5.heap.size w5 V→V.cell? ⟨N,0,none⟩=some (.int .i64 x.kind)∧V.cell? ⟨N,1,none⟩=some (.int .u64 x.view)∧V.cell? ⟨N,2,none⟩=some (.int .u64 x.seq)∧V.cell? ⟨N,3,none⟩=some (.slice x.sum.ao x.sum.n x.sum.cap)∧V.cell? ⟨N,4,none⟩=some (.slice x.q.ao x.q.n x.q.cap)∧V.cell? ⟨N,5,none⟩=some (.int .u64 x.cl)∧V.cell? ⟨N,6,none⟩=some (.int .u64 x.st)∧V.cell? ⟨N,7,none⟩=some (.int .u64 x.vw)∧V.cell? ⟨N,8,none⟩=some (.int .i64 x.e)∧V.cell? ⟨N,9,none⟩=some (.slice x.c.ao x.c.n x.c.cap)∧V.cell? ⟨N,10,none⟩=some (.bool x.more)∧V.cell? ⟨N,11,none⟩=some (.slice x.s.ao x.s.n x.s.cap)∧V.cell? ⟨N,12,none⟩=some (.slice x.t.ao x.t.n x.t.cap)∧V.cell? ⟨M,0,none⟩=some (.int .u64 h.view)∧V.cell? ⟨M,1,none⟩=some (.int .u64 h.seq)∧V.cell? ⟨M,2,none⟩=some (.int .i64 h.sum)∧V.cell? ⟨M,3,none⟩=some (.int .i64 h.reqs)∧V.cell? ⟨M,4,none⟩=some (.int .i64 h.cert)∧V.cell? ⟨M,5,none⟩=some (.int .i64 h.sets)∧V.cell? ⟨M,6,none⟩=some (.bool h.rep)∧V.cell? ⟨O,0,none⟩=some (.int .u64 i0)∧V.cell? ⟨O,1,none⟩=some (.int .u64 i1)∧V.cell? ⟨O,2,none⟩=some (.int .i64 i2)∧V.cell? ⟨O,3,none⟩=some (.int .i64 i3)∧V.cell? ⟨O,4,none⟩=some (.int .i64 i4)∧V.cell? ⟨O,5,none⟩=some (.int .i64 i5)∧V.cell? ⟨O,6,none⟩=some (.bool b6)):=fun V hV=>have q:=(K.keep hV).cs;⟨q.c0,q.c1,q.c2,q.c3,q.c4,q.c5,q.c6,q.c7,q.c8,q.c9,q.c10,q.c11,q.c12,cell_of_row V M 0 _ _ _ ((hV.block M hM).trans KM),cell_of_row V M 1 _ _ _ ((hV.block M hM).trans KM),cell_of_row V M 2 _ _ _ ((hV.block M hM).trans KM),cell_of_row V M 3 _ _ _ ((hV.block M hM).trans KM),cell_of_row V M 4 _ _ _ ((hV.block M hM).trans KM),cell_of_row V M 5 _ _ _ ((hV.block M hM).trans KM),cell_of_row V M 6 _ _ _ ((hV.block M hM).trans KM),cell_of_row V O 0 _ _ _ ((hV.block O hO).trans KO),cell_of_row V O 1 _ _ _ ((hV.block O hO).trans KO),cell_of_row V O 2 _ _ _ ((hV.block O hO).trans KO),cell_of_row V O 3 _ _ _ ((hV.block O hO).trans KO),cell_of_row V O 4 _ _ _ ((hV.block O hO).trans KO),cell_of_row V O 5 _ _ _ ((hV.block O hO).trans KO),cell_of_row V O 6 _ _ _ ((hV.block O hO).trans KO)⟩
      refine zB (by kernel_rfl) HS.out fun v0 E0 H0=>?_
      refine zT 0 (some 15) (.bool true) rfl rfl (by kernel_rfl) rfl (fun W ⟨h0,h1,h2,h3,h4,h5,h6,h7,h8,h9,h10,h11,h12,h13,h14,h15,h16,h17,h18,h19,h20,h21,h22,h23,h24,h25,h26⟩=>by go_simp) H0 ?_
      simp only [FL]
      refine zT 1 (some 16) (.bool true) rfl rfl (by kernel_rfl) rfl (fun W ⟨h0,h1,h2,h3,h4,h5,h6,h7,h8,h9,h10,h11,h12,h13,h14,h15,h16,h17,h18,h19,h20,h21,h22,h23,h24,h25,h26⟩=>by go_simp) H0 ?_
      simp only [FL]
      refine zT 2 (some 17) (.agg #[.int .u64 h.view,.int .u64 h.seq,.int .i64 h.sum,.int .i64 h.reqs,.int .i64 h.cert,.int .i64 h.sets,.bool h.rep]) rfl rfl (by kernel_rfl) rfl (fun W ⟨h0,h1,h2,h3,h4,h5,h6,h7,h8,h9,h10,h11,h12,h13,h14,h15,h16,h17,h18,h19,h20,h21,h22,h23,h24,h25,h26⟩=>by go_simp) H0 ?_
      simp only [FL]
      refine zT 3 (some 18) (.agg #[.int .u64 i0,.int .u64 i1,.int .i64 i2,.int .i64 i3,.int .i64 i4,.int .i64 i5,.bool b6]) rfl rfl (by kernel_rfl) rfl (fun W ⟨h0,h1,h2,h3,h4,h5,h6,h7,h8,h9,h10,h11,h12,h13,h14,h15,h16,h17,h18,h19,h20,h21,h22,h23,h24,h25,h26⟩=>by go_simp) H0 ?_
      simp only [FL]
      refine zT 4 (some 19) (.bool true) rfl rfl (by kernel_rfl) rfl (fun W ⟨h0,h1,h2,h3,h4,h5,h6,h7,h8,h9,h10,h11,h12,h13,h14,h15,h16,h17,h18,h19,h20,h21,h22,h23,h24,h25,h26⟩=>by have he:=HE W;go_simp) H0 ?_
      simp only [FL]
      refine zT 5 (some 20) (.bool true) rfl rfl (by kernel_rfl) rfl (fun W ⟨h0,h1,h2,h3,h4,h5,h6,h7,h8,h9,h10,h11,h12,h13,h14,h15,h16,h17,h18,h19,h20,h21,h22,h23,h24,h25,h26⟩=>by go_simp) H0 ?_
      simp only [FL]
      refine zT 6 (some 21) (.bool true) rfl rfl (by kernel_rfl) rfl (fun W ⟨h0,h1,h2,h3,h4,h5,h6,h7,h8,h9,h10,h11,h12,h13,h14,h15,h16,h17,h18,h19,h20,h21,h22,h23,h24,h25,h26⟩=>by go_simp) H0 ?_
      simp only [FL]
      refine zT 7 (some 22) (.agg #[.int .i64 x.kind,.int .u64 x.view,.int .u64 x.seq,.slice x.sum.ao x.sum.n x.sum.cap,.slice x.q.ao x.q.n x.q.cap,.int .u64 x.cl,.int .u64 x.st,.int .u64 x.vw,.int .i64 x.e,.slice x.c.ao x.c.n x.c.cap,.bool x.more,.slice x.s.ao x.s.n x.s.cap,.slice x.t.ao x.t.n x.t.cap]) rfl rfl (by kernel_rfl) rfl (fun W ⟨h0,h1,h2,h3,h4,h5,h6,h7,h8,h9,h10,h11,h12,h13,h14,h15,h16,h17,h18,h19,h20,h21,h22,h23,h24,h25,h26⟩=>by go_simp) H0 ?_
      simp only [FL]
      refine hr_call_w 8 (some 23) 59 #[.agg #[.int .i64 x.kind,.int .u64 x.view,.int .u64 x.seq,.slice x.sum.ao x.sum.n x.sum.cap,.slice x.q.ao x.q.n x.q.cap,.int .u64 x.cl,.int .u64 x.st,.int .u64 x.vw,.int .i64 x.e,.slice x.c.ao x.c.n x.c.cap,.bool x.more,.slice x.s.ao x.s.n x.s.cap,.slice x.t.ao x.t.n x.t.cap]] rfl rfl (by kernel_rfl) rfl (by go_simp) (fun v w'=>v=.bool true∧Below v0.heap.size v0 w') ((CQ v0 (h5.below E0)).mono (by
       rintro e w' ⟨rfl,C⟩
       exact ⟨_,rfl,rfl,C⟩)) ?_
      rintro v v1 ⟨rfl,C0⟩
      have E1:=E0.trans (C0.mono E0.size)
      have H1:=HS.out v1 E1
      refine ⟨H1,?_⟩
      simp only [FL]
      refine zT 9 (some 24) (.bool true) rfl rfl (by kernel_rfl) rfl (fun W ⟨h0,h1,h2,h3,h4,h5,h6,h7,h8,h9,h10,h11,h12,h13,h14,h15,h16,h17,h18,h19,h20,h21,h22,h23,h24,h25,h26⟩=>by go_simp) H1 ?_
      simp only [FL]
      refine zT 10 (some 25) (.bool true) rfl rfl (by kernel_rfl) rfl (fun W ⟨h0,h1,h2,h3,h4,h5,h6,h7,h8,h9,h10,h11,h12,h13,h14,h15,h16,h17,h18,h19,h20,h21,h22,h23,h24,h25,h26⟩=>by go_simp) H1 ?_
      simp only [FL]
      refine zT 11 (some 26) (.agg #[.int .i64 x.kind,.int .u64 x.view,.int .u64 x.seq,.slice x.sum.ao x.sum.n x.sum.cap,.slice x.q.ao x.q.n x.q.cap,.int .u64 x.cl,.int .u64 x.st,.int .u64 x.vw,.int .i64 x.e,.slice x.c.ao x.c.n x.c.cap,.bool x.more,.slice x.s.ao x.s.n x.s.cap,.slice x.t.ao x.t.n x.t.cap]) rfl rfl (by kernel_rfl) rfl (fun W ⟨h0,h1,h2,h3,h4,h5,h6,h7,h8,h9,h10,h11,h12,h13,h14,h15,h16,h17,h18,h19,h20,h21,h22,h23,h24,h25,h26⟩=>by go_simp) H1 ?_
      simp only [FL]
      refine hr_call_w 12 (some 27) 60 #[.agg #[.int .i64 x.kind,.int .u64 x.view,.int .u64 x.seq,.slice x.sum.ao x.sum.n x.sum.cap,.slice x.q.ao x.q.n x.q.cap,.int .u64 x.cl,.int .u64 x.st,.int .u64 x.vw,.int .i64 x.e,.slice x.c.ao x.c.n x.c.cap,.bool x.more,.slice x.s.ao x.s.n x.s.cap,.slice x.t.ao x.t.n x.t.cap]] rfl rfl (by kernel_rfl) rfl (by go_simp) (fun v w'=>v=.bool true∧Below v1.heap.size v1 w') ((CP v1 (h5.below E1)).mono (by
       rintro e w' ⟨rfl,C⟩
       exact ⟨_,rfl,rfl,C⟩)) ?_
      rintro v v2 ⟨rfl,C1⟩
      have E2:=E1.trans (C1.mono E1.size)
      have H2:=HS.out v2 E2
      refine ⟨H2,?_⟩
      simp only [FL]
      refine zT 13 (some 28) (.bool true) rfl rfl (by kernel_rfl) rfl (fun W ⟨h0,h1,h2,h3,h4,h5,h6,h7,h8,h9,h10,h11,h12,h13,h14,h15,h16,h17,h18,h19,h20,h21,h22,h23,h24,h25,h26⟩=>by go_simp) H2 ?_
      simp only [FL]
      refine zT 14 (some 29) (.bool true) rfl rfl (by kernel_rfl) rfl (fun W ⟨h0,h1,h2,h3,h4,h5,h6,h7,h8,h9,h10,h11,h12,h13,h14,h15,h16,h17,h18,h19,h20,h21,h22,h23,h24,h25,h26⟩=>by go_simp) H2 ?_
      simp only [FL]
      refine zT 15 (some 30) (.pointer (some ⟨N,11,none⟩)) rfl rfl (by kernel_rfl) rfl (fun W ⟨h0,h1,h2,h3,h4,h5,h6,h7,h8,h9,h10,h11,h12,h13,h14,h15,h16,h17,h18,h19,h20,h21,h22,h23,h24,h25,h26⟩=>by go_simp) H2 ?_
      simp only [FL]
      refine zT 16 (some 31) (.slice x.s.ao x.s.n x.s.cap) rfl rfl (by kernel_rfl) rfl (fun W ⟨h0,h1,h2,h3,h4,h5,h6,h7,h8,h9,h10,h11,h12,h13,h14,h15,h16,h17,h18,h19,h20,h21,h22,h23,h24,h25,h26⟩=>by go_simp) H2 ?_
      simp only [FL]
      refine zT 17 (some 32) (.pointer (some ⟨N,0,none⟩)) rfl rfl (by kernel_rfl) rfl (fun W ⟨h0,h1,h2,h3,h4,h5,h6,h7,h8,h9,h10,h11,h12,h13,h14,h15,h16,h17,h18,h19,h20,h21,h22,h23,h24,h25,h26⟩=>by go_simp) H2 ?_
      simp only [FL]
      refine zT 18 (some 33) (.int .i64 x.kind) rfl rfl (by kernel_rfl) rfl (fun W ⟨h0,h1,h2,h3,h4,h5,h6,h7,h8,h9,h10,h11,h12,h13,h14,h15,h16,h17,h18,h19,h20,h21,h22,h23,h24,h25,h26⟩=>by go_simp) H2 ?_
      simp only [FL]
      refine hr_call_w 19 (some 34) 62 #[.int .i64 x.kind] rfl rfl (by kernel_rfl) rfl (by go_simp) (fun v w'=>v=txF x.kind∧Below v2.heap.size v2 w') ((((textFor_any v2 x.kind).mono (fun e w' h=>⟨h.1,by rw [h.2];exact Below.refl _ _⟩):Calls Tryz.prog 62 #[.int .i64 x.kind] v2 fun e w'=>e=.returned (txF x.kind)∧Below v2.heap.size v2 w')).mono (by
       rintro e w' ⟨rfl,C⟩
       exact ⟨_,rfl,rfl,C⟩)) ?_
      rintro v v3 ⟨rfl,C2⟩
      have E3:=E2.trans (C2.mono E2.size)
      have H3:=HS.out v3 E3
      refine ⟨H3,?_⟩
      simp only [FL]
      refine hr_call_w 20 (some 35) 61 #[.slice x.s.ao x.s.n x.s.cap,txF x.kind] rfl rfl (by kernel_rfl) rfl (by go_simp) (fun v w'=>v=.bool false∧Below v3.heap.size v3 w') ((CT v3 (h5.below E3)).mono (by
       rintro e w' ⟨rfl,C⟩
       exact ⟨_,rfl,rfl,C⟩)) ?_
      rintro v v4 ⟨rfl,C3⟩
      have E4:=E3.trans (C3.mono E3.size)
      have H4:=HS.out v4 E4
      refine ⟨H4,?_⟩
      simp only [FL]
      refine zT 21 (some 36) (.bool false) rfl rfl (by kernel_rfl) rfl (fun W ⟨h0,h1,h2,h3,h4,h5,h6,h7,h8,h9,h10,h11,h12,h13,h14,h15,h16,h17,h18,h19,h20,h21,h22,h23,h24,h25,h26⟩=>by go_simp) H4 ?_
      simp only [FL]
      refine zT 22 (some 37) (.bool false) rfl rfl (by kernel_rfl) rfl (fun W ⟨h0,h1,h2,h3,h4,h5,h6,h7,h8,h9,h10,h11,h12,h13,h14,h15,h16,h17,h18,h19,h20,h21,h22,h23,h24,h25,h26⟩=>by go_simp) H4 ?_
      simp only [FL]
      refine zN 23 (some 38) rfl rfl (by kernel_rfl) rfl H4 ?_
      simp only [FL]
      refine zN 24 (some 39) rfl rfl (by kernel_rfl) rfl H4 ?_
      simp only [FL]
      refine zN 25 (some 40) rfl rfl (by kernel_rfl) rfl H4 ?_
      simp only [FL]
      refine zT 26 (some 41) (.bool false) rfl rfl (by kernel_rfl) rfl (fun W ⟨h0,h1,h2,h3,h4,h5,h6,h7,h8,h9,h10,h11,h12,h13,h14,h15,h16,h17,h18,h19,h20,h21,h22,h23,h24,h25,h26⟩=>by go_simp) H4 ?_
      simp only [FL]
      refine zT 27 (some 2) (.bool false) rfl rfl (by kernel_rfl) rfl (fun W ⟨h0,h1,h2,h3,h4,h5,h6,h7,h8,h9,h10,h11,h12,h13,h14,h15,h16,h17,h18,h19,h20,h21,h22,h23,h24,h25,h26⟩=>by go_simp) H4 ?_
      simp only [FL]
      refine wpAnyH_done (by kernel_rfl) ?_ _
      refine NoPanic.normal ?_
      have BF:=B5.trans (E4.mono B5.size)
      go_wp2
      go_ret
      exact ⟨by rw [hv.out] <;> rfl,BF⟩
     | true =>
      have hv:Hid (rightM x=(!(x.t.l.any setBad))):=by show _=_;rw [HR.out];rfl
      clear HR
      have HS:Hid (∀ V,Below w5.heap.size w5 V→V.cell? ⟨N,0,none⟩=some (.int .i64 x.kind)∧V.cell? ⟨N,1,none⟩=some (.int .u64 x.view)∧V.cell? ⟨N,2,none⟩=some (.int .u64 x.seq)∧V.cell? ⟨N,3,none⟩=some (.slice x.sum.ao x.sum.n x.sum.cap)∧V.cell? ⟨N,4,none⟩=some (.slice x.q.ao x.q.n x.q.cap)∧V.cell? ⟨N,5,none⟩=some (.int .u64 x.cl)∧V.cell? ⟨N,6,none⟩=some (.int .u64 x.st)∧V.cell? ⟨N,7,none⟩=some (.int .u64 x.vw)∧V.cell? ⟨N,8,none⟩=some (.int .i64 x.e)∧V.cell? ⟨N,9,none⟩=some (.slice x.c.ao x.c.n x.c.cap)∧V.cell? ⟨N,10,none⟩=some (.bool x.more)∧V.cell? ⟨N,11,none⟩=some (.slice x.s.ao x.s.n x.s.cap)∧V.cell? ⟨N,12,none⟩=some (.slice x.t.ao x.t.n x.t.cap)∧V.cell? ⟨M,0,none⟩=some (.int .u64 h.view)∧V.cell? ⟨M,1,none⟩=some (.int .u64 h.seq)∧V.cell? ⟨M,2,none⟩=some (.int .i64 h.sum)∧V.cell? ⟨M,3,none⟩=some (.int .i64 h.reqs)∧V.cell? ⟨M,4,none⟩=some (.int .i64 h.cert)∧V.cell? ⟨M,5,none⟩=some (.int .i64 h.sets)∧V.cell? ⟨M,6,none⟩=some (.bool h.rep)∧V.cell? ⟨O,0,none⟩=some (.int .u64 i0)∧V.cell? ⟨O,1,none⟩=some (.int .u64 i1)∧V.cell? ⟨O,2,none⟩=some (.int .i64 i2)∧V.cell? ⟨O,3,none⟩=some (.int .i64 i3)∧V.cell? ⟨O,4,none⟩=some (.int .i64 i4)∧V.cell? ⟨O,5,none⟩=some (.int .i64 i5)∧V.cell? ⟨O,6,none⟩=some (.bool b6)):=fun V hV=>have q:=(K.keep hV).cs;⟨q.c0,q.c1,q.c2,q.c3,q.c4,q.c5,q.c6,q.c7,q.c8,q.c9,q.c10,q.c11,q.c12,cell_of_row V M 0 _ _ _ ((hV.block M hM).trans KM),cell_of_row V M 1 _ _ _ ((hV.block M hM).trans KM),cell_of_row V M 2 _ _ _ ((hV.block M hM).trans KM),cell_of_row V M 3 _ _ _ ((hV.block M hM).trans KM),cell_of_row V M 4 _ _ _ ((hV.block M hM).trans KM),cell_of_row V M 5 _ _ _ ((hV.block M hM).trans KM),cell_of_row V M 6 _ _ _ ((hV.block M hM).trans KM),cell_of_row V O 0 _ _ _ ((hV.block O hO).trans KO),cell_of_row V O 1 _ _ _ ((hV.block O hO).trans KO),cell_of_row V O 2 _ _ _ ((hV.block O hO).trans KO),cell_of_row V O 3 _ _ _ ((hV.block O hO).trans KO),cell_of_row V O 4 _ _ _ ((hV.block O hO).trans KO),cell_of_row V O 5 _ _ _ ((hV.block O hO).trans KO),cell_of_row V O 6 _ _ _ ((hV.block O hO).trans KO)⟩
      refine zB (by kernel_rfl) HS.out fun v0 E0 H0=>?_
      refine zT 0 (some 15) (.bool true) rfl rfl (by kernel_rfl) rfl (fun W ⟨h0,h1,h2,h3,h4,h5,h6,h7,h8,h9,h10,h11,h12,h13,h14,h15,h16,h17,h18,h19,h20,h21,h22,h23,h24,h25,h26⟩=>by go_simp) H0 ?_
      simp only [FL]
      refine zT 1 (some 16) (.bool true) rfl rfl (by kernel_rfl) rfl (fun W ⟨h0,h1,h2,h3,h4,h5,h6,h7,h8,h9,h10,h11,h12,h13,h14,h15,h16,h17,h18,h19,h20,h21,h22,h23,h24,h25,h26⟩=>by go_simp) H0 ?_
      simp only [FL]
      refine zT 2 (some 17) (.agg #[.int .u64 h.view,.int .u64 h.seq,.int .i64 h.sum,.int .i64 h.reqs,.int .i64 h.cert,.int .i64 h.sets,.bool h.rep]) rfl rfl (by kernel_rfl) rfl (fun W ⟨h0,h1,h2,h3,h4,h5,h6,h7,h8,h9,h10,h11,h12,h13,h14,h15,h16,h17,h18,h19,h20,h21,h22,h23,h24,h25,h26⟩=>by go_simp) H0 ?_
      simp only [FL]
      refine zT 3 (some 18) (.agg #[.int .u64 i0,.int .u64 i1,.int .i64 i2,.int .i64 i3,.int .i64 i4,.int .i64 i5,.bool b6]) rfl rfl (by kernel_rfl) rfl (fun W ⟨h0,h1,h2,h3,h4,h5,h6,h7,h8,h9,h10,h11,h12,h13,h14,h15,h16,h17,h18,h19,h20,h21,h22,h23,h24,h25,h26⟩=>by go_simp) H0 ?_
      simp only [FL]
      refine zT 4 (some 19) (.bool true) rfl rfl (by kernel_rfl) rfl (fun W ⟨h0,h1,h2,h3,h4,h5,h6,h7,h8,h9,h10,h11,h12,h13,h14,h15,h16,h17,h18,h19,h20,h21,h22,h23,h24,h25,h26⟩=>by have he:=HE W;go_simp) H0 ?_
      simp only [FL]
      refine zT 5 (some 20) (.bool true) rfl rfl (by kernel_rfl) rfl (fun W ⟨h0,h1,h2,h3,h4,h5,h6,h7,h8,h9,h10,h11,h12,h13,h14,h15,h16,h17,h18,h19,h20,h21,h22,h23,h24,h25,h26⟩=>by go_simp) H0 ?_
      simp only [FL]
      refine zT 6 (some 21) (.bool true) rfl rfl (by kernel_rfl) rfl (fun W ⟨h0,h1,h2,h3,h4,h5,h6,h7,h8,h9,h10,h11,h12,h13,h14,h15,h16,h17,h18,h19,h20,h21,h22,h23,h24,h25,h26⟩=>by go_simp) H0 ?_
      simp only [FL]
      refine zT 7 (some 22) (.agg #[.int .i64 x.kind,.int .u64 x.view,.int .u64 x.seq,.slice x.sum.ao x.sum.n x.sum.cap,.slice x.q.ao x.q.n x.q.cap,.int .u64 x.cl,.int .u64 x.st,.int .u64 x.vw,.int .i64 x.e,.slice x.c.ao x.c.n x.c.cap,.bool x.more,.slice x.s.ao x.s.n x.s.cap,.slice x.t.ao x.t.n x.t.cap]) rfl rfl (by kernel_rfl) rfl (fun W ⟨h0,h1,h2,h3,h4,h5,h6,h7,h8,h9,h10,h11,h12,h13,h14,h15,h16,h17,h18,h19,h20,h21,h22,h23,h24,h25,h26⟩=>by go_simp) H0 ?_
      simp only [FL]
      refine hr_call_w 8 (some 23) 59 #[.agg #[.int .i64 x.kind,.int .u64 x.view,.int .u64 x.seq,.slice x.sum.ao x.sum.n x.sum.cap,.slice x.q.ao x.q.n x.q.cap,.int .u64 x.cl,.int .u64 x.st,.int .u64 x.vw,.int .i64 x.e,.slice x.c.ao x.c.n x.c.cap,.bool x.more,.slice x.s.ao x.s.n x.s.cap,.slice x.t.ao x.t.n x.t.cap]] rfl rfl (by kernel_rfl) rfl (by go_simp) (fun v w'=>v=.bool true∧Below v0.heap.size v0 w') ((CQ v0 (h5.below E0)).mono (by
       rintro e w' ⟨rfl,C⟩
       exact ⟨_,rfl,rfl,C⟩)) ?_
      rintro v v1 ⟨rfl,C0⟩
      have E1:=E0.trans (C0.mono E0.size)
      have H1:=HS.out v1 E1
      refine ⟨H1,?_⟩
      simp only [FL]
      refine zT 9 (some 24) (.bool true) rfl rfl (by kernel_rfl) rfl (fun W ⟨h0,h1,h2,h3,h4,h5,h6,h7,h8,h9,h10,h11,h12,h13,h14,h15,h16,h17,h18,h19,h20,h21,h22,h23,h24,h25,h26⟩=>by go_simp) H1 ?_
      simp only [FL]
      refine zT 10 (some 25) (.bool true) rfl rfl (by kernel_rfl) rfl (fun W ⟨h0,h1,h2,h3,h4,h5,h6,h7,h8,h9,h10,h11,h12,h13,h14,h15,h16,h17,h18,h19,h20,h21,h22,h23,h24,h25,h26⟩=>by go_simp) H1 ?_
      simp only [FL]
      refine zT 11 (some 26) (.agg #[.int .i64 x.kind,.int .u64 x.view,.int .u64 x.seq,.slice x.sum.ao x.sum.n x.sum.cap,.slice x.q.ao x.q.n x.q.cap,.int .u64 x.cl,.int .u64 x.st,.int .u64 x.vw,.int .i64 x.e,.slice x.c.ao x.c.n x.c.cap,.bool x.more,.slice x.s.ao x.s.n x.s.cap,.slice x.t.ao x.t.n x.t.cap]) rfl rfl (by kernel_rfl) rfl (fun W ⟨h0,h1,h2,h3,h4,h5,h6,h7,h8,h9,h10,h11,h12,h13,h14,h15,h16,h17,h18,h19,h20,h21,h22,h23,h24,h25,h26⟩=>by go_simp) H1 ?_
      simp only [FL]
      refine hr_call_w 12 (some 27) 60 #[.agg #[.int .i64 x.kind,.int .u64 x.view,.int .u64 x.seq,.slice x.sum.ao x.sum.n x.sum.cap,.slice x.q.ao x.q.n x.q.cap,.int .u64 x.cl,.int .u64 x.st,.int .u64 x.vw,.int .i64 x.e,.slice x.c.ao x.c.n x.c.cap,.bool x.more,.slice x.s.ao x.s.n x.s.cap,.slice x.t.ao x.t.n x.t.cap]] rfl rfl (by kernel_rfl) rfl (by go_simp) (fun v w'=>v=.bool true∧Below v1.heap.size v1 w') ((CP v1 (h5.below E1)).mono (by
       rintro e w' ⟨rfl,C⟩
       exact ⟨_,rfl,rfl,C⟩)) ?_
      rintro v v2 ⟨rfl,C1⟩
      have E2:=E1.trans (C1.mono E1.size)
      have H2:=HS.out v2 E2
      refine ⟨H2,?_⟩
      simp only [FL]
      refine zT 13 (some 28) (.bool true) rfl rfl (by kernel_rfl) rfl (fun W ⟨h0,h1,h2,h3,h4,h5,h6,h7,h8,h9,h10,h11,h12,h13,h14,h15,h16,h17,h18,h19,h20,h21,h22,h23,h24,h25,h26⟩=>by go_simp) H2 ?_
      simp only [FL]
      refine zT 14 (some 29) (.bool true) rfl rfl (by kernel_rfl) rfl (fun W ⟨h0,h1,h2,h3,h4,h5,h6,h7,h8,h9,h10,h11,h12,h13,h14,h15,h16,h17,h18,h19,h20,h21,h22,h23,h24,h25,h26⟩=>by go_simp) H2 ?_
      simp only [FL]
      refine zT 15 (some 30) (.pointer (some ⟨N,11,none⟩)) rfl rfl (by kernel_rfl) rfl (fun W ⟨h0,h1,h2,h3,h4,h5,h6,h7,h8,h9,h10,h11,h12,h13,h14,h15,h16,h17,h18,h19,h20,h21,h22,h23,h24,h25,h26⟩=>by go_simp) H2 ?_
      simp only [FL]
      refine zT 16 (some 31) (.slice x.s.ao x.s.n x.s.cap) rfl rfl (by kernel_rfl) rfl (fun W ⟨h0,h1,h2,h3,h4,h5,h6,h7,h8,h9,h10,h11,h12,h13,h14,h15,h16,h17,h18,h19,h20,h21,h22,h23,h24,h25,h26⟩=>by go_simp) H2 ?_
      simp only [FL]
      refine zT 17 (some 32) (.pointer (some ⟨N,0,none⟩)) rfl rfl (by kernel_rfl) rfl (fun W ⟨h0,h1,h2,h3,h4,h5,h6,h7,h8,h9,h10,h11,h12,h13,h14,h15,h16,h17,h18,h19,h20,h21,h22,h23,h24,h25,h26⟩=>by go_simp) H2 ?_
      simp only [FL]
      refine zT 18 (some 33) (.int .i64 x.kind) rfl rfl (by kernel_rfl) rfl (fun W ⟨h0,h1,h2,h3,h4,h5,h6,h7,h8,h9,h10,h11,h12,h13,h14,h15,h16,h17,h18,h19,h20,h21,h22,h23,h24,h25,h26⟩=>by go_simp) H2 ?_
      simp only [FL]
      refine hr_call_w 19 (some 34) 62 #[.int .i64 x.kind] rfl rfl (by kernel_rfl) rfl (by go_simp) (fun v w'=>v=txF x.kind∧Below v2.heap.size v2 w') ((((textFor_any v2 x.kind).mono (fun e w' h=>⟨h.1,by rw [h.2];exact Below.refl _ _⟩):Calls Tryz.prog 62 #[.int .i64 x.kind] v2 fun e w'=>e=.returned (txF x.kind)∧Below v2.heap.size v2 w')).mono (by
       rintro e w' ⟨rfl,C⟩
       exact ⟨_,rfl,rfl,C⟩)) ?_
      rintro v v3 ⟨rfl,C2⟩
      have E3:=E2.trans (C2.mono E2.size)
      have H3:=HS.out v3 E3
      refine ⟨H3,?_⟩
      simp only [FL]
      refine hr_call_w 20 (some 35) 61 #[.slice x.s.ao x.s.n x.s.cap,txF x.kind] rfl rfl (by kernel_rfl) rfl (by go_simp) (fun v w'=>v=.bool true∧Below v3.heap.size v3 w') ((CT v3 (h5.below E3)).mono (by
       rintro e w' ⟨rfl,C⟩
       exact ⟨_,rfl,rfl,C⟩)) ?_
      rintro v v4 ⟨rfl,C3⟩
      have E4:=E3.trans (C3.mono E3.size)
      have H4:=HS.out v4 E4
      refine ⟨H4,?_⟩
      simp only [FL]
      refine zT 21 (some 36) (.bool true) rfl rfl (by kernel_rfl) rfl (fun W ⟨h0,h1,h2,h3,h4,h5,h6,h7,h8,h9,h10,h11,h12,h13,h14,h15,h16,h17,h18,h19,h20,h21,h22,h23,h24,h25,h26⟩=>by go_simp) H4 ?_
      simp only [FL]
      refine zT 22 (some 37) (.bool true) rfl rfl (by kernel_rfl) rfl (fun W ⟨h0,h1,h2,h3,h4,h5,h6,h7,h8,h9,h10,h11,h12,h13,h14,h15,h16,h17,h18,h19,h20,h21,h22,h23,h24,h25,h26⟩=>by go_simp) H4 ?_
      simp only [FL]
      refine zT 23 (some 38) (.pointer (some ⟨N,12,none⟩)) rfl rfl (by kernel_rfl) rfl (fun W ⟨h0,h1,h2,h3,h4,h5,h6,h7,h8,h9,h10,h11,h12,h13,h14,h15,h16,h17,h18,h19,h20,h21,h22,h23,h24,h25,h26⟩=>by go_simp) H4 ?_
      simp only [FL]
      refine zT 24 (some 39) (.slice x.t.ao x.t.n x.t.cap) rfl rfl (by kernel_rfl) rfl (fun W ⟨h0,h1,h2,h3,h4,h5,h6,h7,h8,h9,h10,h11,h12,h13,h14,h15,h16,h17,h18,h19,h20,h21,h22,h23,h24,h25,h26⟩=>by go_simp) H4 ?_
      simp only [FL]
      refine hr_call_w 25 (some 40) 63 #[.slice x.t.ao x.t.n x.t.cap] rfl rfl (by kernel_rfl) rfl (by go_simp) (fun v w'=>v=.bool (!(x.t.l.any setBad))∧Below v4.heap.size v4 w') ((areSets_any v4 x.t.ao x.t.n x.t.cap x.t.l (h5.below E4).t).mono (by
       rintro e w' ⟨rfl,C⟩
       exact ⟨_,rfl,rfl,C⟩)) ?_
      rintro v v5 ⟨rfl,C4⟩
      have E5:=E4.trans (C4.mono E4.size)
      have H5:=HS.out v5 E5
      refine ⟨H5,?_⟩
      simp only [FL]
      refine zT 26 (some 41) (.bool (!(x.t.l.any setBad))) rfl rfl (by kernel_rfl) rfl (fun W ⟨h0,h1,h2,h3,h4,h5,h6,h7,h8,h9,h10,h11,h12,h13,h14,h15,h16,h17,h18,h19,h20,h21,h22,h23,h24,h25,h26⟩=>by go_simp) H5 ?_
      simp only [FL]
      refine zT 27 (some 2) (.bool (!(x.t.l.any setBad))) rfl rfl (by kernel_rfl) rfl (fun W ⟨h0,h1,h2,h3,h4,h5,h6,h7,h8,h9,h10,h11,h12,h13,h14,h15,h16,h17,h18,h19,h20,h21,h22,h23,h24,h25,h26⟩=>by go_simp) H5 ?_
      simp only [FL]
      refine wpAnyH_done (by kernel_rfl) ?_ _
      refine NoPanic.normal ?_
      have BF:=B5.trans (E5.mono B5.size)
      go_wp2
      go_ret
      exact ⟨by rw [hv.out] <;> rfl,BF⟩
set_option maxRecDepth 100000 in
set_option maxHeartbeats 4000000 in
theorem right_any (w:World) (x:BM) (h:x.ok w) :
  Calls Tryz.prog 7 #[x.val] w fun e w'=>e=.returned (.int .i64 (if rightM x then 0 else 3))∧Below w.heap.size w w':=by
 have B:Below w.heap.size w (w.alloc (.cells #[.int .i64 x.kind,.int .u64 x.view,.int .u64 x.seq,.slice x.sum.ao x.sum.n x.sum.cap,.slice x.q.ao x.q.n x.q.cap,.int .u64 x.cl,.int .u64 x.st,.int .u64 x.vw,.int .i64 x.e,.slice x.c.ao x.c.n x.c.cap,.bool x.more,.slice x.s.ao x.s.n x.s.cap,.slice x.t.ao x.t.n x.t.cap] 41)):=(Below.refl _ w).alloc (Nat.le_refl _) _
 have CR:=isRight_any (w.alloc (.cells #[.int .i64 x.kind,.int .u64 x.view,.int .u64 x.seq,.slice x.sum.ao x.sum.n x.sum.cap,.slice x.q.ao x.q.n x.q.cap,.int .u64 x.cl,.int .u64 x.st,.int .u64 x.vw,.int .i64 x.e,.slice x.c.ao x.c.n x.c.cap,.bool x.more,.slice x.s.ao x.s.n x.s.cap,.slice x.t.ao x.t.n x.t.cap] 41)) x (h.below B)
 clear h
 unfold BM.val at CR ⊢
 cases hr:rightM x with
 | false =>
  rw [hr] at CR
  clear hr
  go_enter Tryz.func7,Tryz.ntmps7
  go_wp2_with (go_at_call 18;refine CR.mono ?_;rintro e w' ⟨rfl,C⟩;have D:=B.trans (C.mono B.size))
  go_ret
  exact ⟨rfl,D⟩
 | true =>
  rw [hr] at CR
  clear hr
  go_enter Tryz.func7,Tryz.ntmps7
  go_wp2_with (go_at_call 18;refine CR.mono ?_;rintro e w' ⟨rfl,C⟩;have D:=B.trans (C.mono B.size))
  go_ret
  exact ⟨rfl,D⟩
end Go.Proofs.YtnbejckdhdbamaaGreat

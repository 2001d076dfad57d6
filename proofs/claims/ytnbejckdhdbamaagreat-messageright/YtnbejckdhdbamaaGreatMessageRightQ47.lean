/-
  Texts in one: RightLaw13.
-/
import Derived.Test.YtnbejckdhdbamaaGreatMessageRightQFL
import Derived.Test.YtnbejckdhdbamaaGreatMessageRightQ19
import Derived.Test.YtnbejckdhdbamaaGreatMessageRightQ27
import Derived.Test.YtnbejckdhdbamaaGreatMessageRightQ29
import Derived.Test.YtnbejckdhdbamaaGreatMessageRightQ33
import Derived.Test.YtnbejckdhdbamaaGreatMessageRightQ46
import Derived.Test.YtnbejckdhdbamaaGreatMessageRightQ42
namespace Go.Proofs.YtnbejckdhdbamaaGreat
open Go.RowKit
theorem own_sets {zs xs:List (LS SA)} (h:zs.map lsV=xs.map lsV) (hb:∀ u∈xs,u.n≤1000):∀ t∈zs,t.n≤1000000:=fun t ht=>by
 have h1:lsV t∈xs.map lsV:=by rw [←h];exact List.mem_map.2 ⟨t,ht,rfl⟩
 obtain ⟨u,hu,e⟩:=List.mem_map.1 h1
 have h2:u.n=t.n:=congrArg (fun p=>p.1) e
 have:=hb u hu
 omega
theorem cellsB_len {l:List CA} (h:cellsB l 20=true):l.length≤20:=by
 unfold cellsB at h
 simp only [Bool.and_eq_true,decide_eq_true_eq] at h
 omega
set_option maxRecDepth 100000 in
set_option maxHeartbeats 16000000 in
theorem messageRight_any (w:World) (x y:BM) (xs ys:List QE) (hx:x.ok w) (qx:x.q.l=xs.map QE.m) (ox:∀ q∈xs,OW w 3 q.x) (sx:∀ q∈xs,OSm 3 q.x) (cx:∀ c∈x.c.l,c.small) (hy:y.ok w) (qy:y.q.l=ys.map QE.m) (oy:∀ q∈ys,OW w 3 q.x) (sy:∀ q∈ys,OSm 3 q.x) (cy:∀ c∈y.c.l,c.small) :
  Calls Tryz.prog 3 #[x.val,y.val] w fun e w'=>e=.returned (.bool true)∧Below w.heap.size w w':=by
 have B:Below w.heap.size w ((w.alloc (Obj.cells #[.int .i64 x.kind,.int .u64 (x.view:Nat),.int .u64 (x.seq:Nat),.slice x.sum.ao x.sum.n x.sum.cap,.slice x.q.ao x.q.n x.q.cap,.int .u64 (x.cl:Nat),.int .u64 (x.st:Nat),.int .u64 (x.vw:Nat),.int .i64 x.e,.slice x.c.ao x.c.n x.c.cap,.bool x.more,.slice x.s.ao x.s.n x.s.cap,.slice x.t.ao x.t.n x.t.cap] 34)).alloc (Obj.cells #[.int .i64 y.kind,.int .u64 (y.view:Nat),.int .u64 (y.seq:Nat),.slice y.sum.ao y.sum.n y.sum.cap,.slice y.q.ao y.q.n y.q.cap,.int .u64 (y.cl:Nat),.int .u64 (y.st:Nat),.int .u64 (y.vw:Nat),.int .i64 y.e,.slice y.c.ao y.c.n y.c.cap,.bool y.more,.slice y.s.ao y.s.n y.s.cap,.slice y.t.ao y.t.n y.t.cap] 34)):=((Below.refl _ w).alloc (Nat.le_refl _) _).alloc (by simp) _
 have KX:((w.alloc (Obj.cells #[.int .i64 x.kind,.int .u64 (x.view:Nat),.int .u64 (x.seq:Nat),.slice x.sum.ao x.sum.n x.sum.cap,.slice x.q.ao x.q.n x.q.cap,.int .u64 (x.cl:Nat),.int .u64 (x.st:Nat),.int .u64 (x.vw:Nat),.int .i64 x.e,.slice x.c.ao x.c.n x.c.cap,.bool x.more,.slice x.s.ao x.s.n x.s.cap,.slice x.t.ao x.t.n x.t.cap] 34)).alloc (Obj.cells #[.int .i64 y.kind,.int .u64 (y.view:Nat),.int .u64 (y.seq:Nat),.slice y.sum.ao y.sum.n y.sum.cap,.slice y.q.ao y.q.n y.q.cap,.int .u64 (y.cl:Nat),.int .u64 (y.st:Nat),.int .u64 (y.vw:Nat),.int .i64 y.e,.slice y.c.ao y.c.n y.c.cap,.bool y.more,.slice y.s.ao y.s.n y.s.cap,.slice y.t.ao y.t.n y.t.cap] 34)).heap[w.heap.size]?=some (.cells #[.int .i64 x.kind,.int .u64 (x.view:Nat),.int .u64 (x.seq:Nat),.slice x.sum.ao x.sum.n x.sum.cap,.slice x.q.ao x.q.n x.q.cap,.int .u64 (x.cl:Nat),.int .u64 (x.st:Nat),.int .u64 (x.vw:Nat),.int .i64 x.e,.slice x.c.ao x.c.n x.c.cap,.bool x.more,.slice x.s.ao x.s.n x.s.cap,.slice x.t.ao x.t.n x.t.cap] 34):=(heap_alloc_old _ _ (by simp)).trans (heap_alloc_new w _)
 have KY:((w.alloc (Obj.cells #[.int .i64 x.kind,.int .u64 (x.view:Nat),.int .u64 (x.seq:Nat),.slice x.sum.ao x.sum.n x.sum.cap,.slice x.q.ao x.q.n x.q.cap,.int .u64 (x.cl:Nat),.int .u64 (x.st:Nat),.int .u64 (x.vw:Nat),.int .i64 x.e,.slice x.c.ao x.c.n x.c.cap,.bool x.more,.slice x.s.ao x.s.n x.s.cap,.slice x.t.ao x.t.n x.t.cap] 34)).alloc (Obj.cells #[.int .i64 y.kind,.int .u64 (y.view:Nat),.int .u64 (y.seq:Nat),.slice y.sum.ao y.sum.n y.sum.cap,.slice y.q.ao y.q.n y.q.cap,.int .u64 (y.cl:Nat),.int .u64 (y.st:Nat),.int .u64 (y.vw:Nat),.int .i64 y.e,.slice y.c.ao y.c.n y.c.cap,.bool y.more,.slice y.s.ao y.s.n y.s.cap,.slice y.t.ao y.t.n y.t.cap] 34)).heap[w.heap.size + 1]?=some (.cells #[.int .i64 y.kind,.int .u64 (y.view:Nat),.int .u64 (y.seq:Nat),.slice y.sum.ao y.sum.n y.sum.cap,.slice y.q.ao y.q.n y.q.cap,.int .u64 (y.cl:Nat),.int .u64 (y.st:Nat),.int .u64 (y.vw:Nat),.int .i64 y.e,.slice y.c.ao y.c.n y.c.cap,.bool y.more,.slice y.s.ao y.s.n y.s.cap,.slice y.t.ao y.t.n y.t.cap] 34):=by
  have:=heap_alloc_new (w.alloc (Obj.cells #[.int .i64 x.kind,.int .u64 (x.view:Nat),.int .u64 (x.seq:Nat),.slice x.sum.ao x.sum.n x.sum.cap,.slice x.q.ao x.q.n x.q.cap,.int .u64 (x.cl:Nat),.int .u64 (x.st:Nat),.int .u64 (x.vw:Nat),.int .i64 x.e,.slice x.c.ao x.c.n x.c.cap,.bool x.more,.slice x.s.ao x.s.n x.s.cap,.slice x.t.ao x.t.n x.t.cap] 34)) (Obj.cells #[.int .i64 y.kind,.int .u64 (y.view:Nat),.int .u64 (y.seq:Nat),.slice y.sum.ao y.sum.n y.sum.cap,.slice y.q.ao y.q.n y.q.cap,.int .u64 (y.cl:Nat),.int .u64 (y.st:Nat),.int .u64 (y.vw:Nat),.int .i64 y.e,.slice y.c.ao y.c.n y.c.cap,.bool y.more,.slice y.s.ao y.s.n y.s.cap,.slice y.t.ao y.t.n y.t.cap] 34)
  simpa using this
 have nx:xs.length=x.q.n:=by rw [←hx.q.len,qx,List.length_map]
 have ny:ys.length=y.q.n:=by rw [←hy.q.len,qy,List.length_map]
 have tx:x.t.l.length=x.t.n:=hx.t.len
 have ty:y.t.l.length=y.t.n:=hy.t.len
 unfold BM.val
 go_enter Tryz.func3,Tryz.ntmps3
 go_wp2_with fail
 obtain ⟨w1,hw1⟩:∃ W,W=((w.alloc (Obj.cells #[.int .i64 x.kind,.int .u64 (x.view:Nat),.int .u64 (x.seq:Nat),.slice x.sum.ao x.sum.n x.sum.cap,.slice x.q.ao x.q.n x.q.cap,.int .u64 (x.cl:Nat),.int .u64 (x.st:Nat),.int .u64 (x.vw:Nat),.int .i64 x.e,.slice x.c.ao x.c.n x.c.cap,.bool x.more,.slice x.s.ao x.s.n x.s.cap,.slice x.t.ao x.t.n x.t.cap] 34)).alloc (Obj.cells #[.int .i64 y.kind,.int .u64 (y.view:Nat),.int .u64 (y.seq:Nat),.slice y.sum.ao y.sum.n y.sum.cap,.slice y.q.ao y.q.n y.q.cap,.int .u64 (y.cl:Nat),.int .u64 (y.st:Nat),.int .u64 (y.vw:Nat),.int .i64 y.e,.slice y.c.ao y.c.n y.c.cap,.bool y.more,.slice y.s.ao y.s.n y.s.cap,.slice y.t.ao y.t.n y.t.cap] 34)):=⟨_,rfl⟩
 rw [←hw1] at B KX KY ⊢
 obtain ⟨N,hN⟩:∃ N,N=w.heap.size:=⟨_,rfl⟩
 rw [←hN] at KX KY ⊢
 have hN1:N + 1 < w1.heap.size:=(Array.getElem?_eq_some_iff.1 KY).1
 clear hw1 hN
 have C:Below w1.heap.size w1 w1:=Below.refl _ _
 refine (light13 w1 x xs (hx.below B) qx (fun q hq=>OW.below B (ox q hq)) sx cx).mono ?_
 rintro e w2 ⟨b,rfl,hb,D⟩
 have B:=B.trans (D.mono B.size)
 have C:=C.trans (D.mono C.size)
 clear D
 have p0:=cell_of_row w2 N 0 _ _ _ ((C.block N (by omega)).trans KX)
 have q0:=cell_of_row w2 (N + 1) 0 _ _ _ ((C.block (N + 1) (by omega)).trans KY)
 have p1:=cell_of_row w2 N 1 _ _ _ ((C.block N (by omega)).trans KX)
 have q1:=cell_of_row w2 (N + 1) 1 _ _ _ ((C.block (N + 1) (by omega)).trans KY)
 have p2:=cell_of_row w2 N 2 _ _ _ ((C.block N (by omega)).trans KX)
 have q2:=cell_of_row w2 (N + 1) 2 _ _ _ ((C.block (N + 1) (by omega)).trans KY)
 have p3:=cell_of_row w2 N 3 _ _ _ ((C.block N (by omega)).trans KX)
 have q3:=cell_of_row w2 (N + 1) 3 _ _ _ ((C.block (N + 1) (by omega)).trans KY)
 have p4:=cell_of_row w2 N 4 _ _ _ ((C.block N (by omega)).trans KX)
 have q4:=cell_of_row w2 (N + 1) 4 _ _ _ ((C.block (N + 1) (by omega)).trans KY)
 have p5:=cell_of_row w2 N 5 _ _ _ ((C.block N (by omega)).trans KX)
 have q5:=cell_of_row w2 (N + 1) 5 _ _ _ ((C.block (N + 1) (by omega)).trans KY)
 have p6:=cell_of_row w2 N 6 _ _ _ ((C.block N (by omega)).trans KX)
 have q6:=cell_of_row w2 (N + 1) 6 _ _ _ ((C.block (N + 1) (by omega)).trans KY)
 have p7:=cell_of_row w2 N 7 _ _ _ ((C.block N (by omega)).trans KX)
 have q7:=cell_of_row w2 (N + 1) 7 _ _ _ ((C.block (N + 1) (by omega)).trans KY)
 have p8:=cell_of_row w2 N 8 _ _ _ ((C.block N (by omega)).trans KX)
 have q8:=cell_of_row w2 (N + 1) 8 _ _ _ ((C.block (N + 1) (by omega)).trans KY)
 have p9:=cell_of_row w2 N 9 _ _ _ ((C.block N (by omega)).trans KX)
 have q9:=cell_of_row w2 (N + 1) 9 _ _ _ ((C.block (N + 1) (by omega)).trans KY)
 have p10:=cell_of_row w2 N 10 _ _ _ ((C.block N (by omega)).trans KX)
 have q10:=cell_of_row w2 (N + 1) 10 _ _ _ ((C.block (N + 1) (by omega)).trans KY)
 have p11:=cell_of_row w2 N 11 _ _ _ ((C.block N (by omega)).trans KX)
 have q11:=cell_of_row w2 (N + 1) 11 _ _ _ ((C.block (N + 1) (by omega)).trans KY)
 have p12:=cell_of_row w2 N 12 _ _ _ ((C.block N (by omega)).trans KX)
 have q12:=cell_of_row w2 (N + 1) 12 _ _ _ ((C.block (N + 1) (by omega)).trans KY)
 cases b with
 | false =>
  clear hb
  have CA:=alive13 w2
  go_wp2_with (go_at_call 6;refine CA.mono ?_;rintro e w9 ⟨rfl,D⟩;have B9:=B.trans (D.mono B.size))
  go_ret
  exact ⟨rfl,B9⟩
 | true =>
  have LX:Hid (LB x xs):=hb rfl
  clear hb
  go_wp2_with fail
  refine (light13 w2 y ys (hy.below B) qy (fun q hq=>OW.below B (oy q hq)) sy cy).mono ?_
  rintro e w3 ⟨b,rfl,hb,D⟩
  have B:=B.trans (D.mono B.size)
  have C:=C.trans (D.mono C.size)
  clear D
  clear p0 q0 p1 q1 p2 q2 p3 q3 p4 q4 p5 q5 p6 q6 p7 q7 p8 q8 p9 q9 p10 q10 p11 q11 p12 q12
  have p0:=cell_of_row w3 N 0 _ _ _ ((C.block N (by omega)).trans KX)
  have q0:=cell_of_row w3 (N + 1) 0 _ _ _ ((C.block (N + 1) (by omega)).trans KY)
  have p1:=cell_of_row w3 N 1 _ _ _ ((C.block N (by omega)).trans KX)
  have q1:=cell_of_row w3 (N + 1) 1 _ _ _ ((C.block (N + 1) (by omega)).trans KY)
  have p2:=cell_of_row w3 N 2 _ _ _ ((C.block N (by omega)).trans KX)
  have q2:=cell_of_row w3 (N + 1) 2 _ _ _ ((C.block (N + 1) (by omega)).trans KY)
  have p3:=cell_of_row w3 N 3 _ _ _ ((C.block N (by omega)).trans KX)
  have q3:=cell_of_row w3 (N + 1) 3 _ _ _ ((C.block (N + 1) (by omega)).trans KY)
  have p4:=cell_of_row w3 N 4 _ _ _ ((C.block N (by omega)).trans KX)
  have q4:=cell_of_row w3 (N + 1) 4 _ _ _ ((C.block (N + 1) (by omega)).trans KY)
  have p5:=cell_of_row w3 N 5 _ _ _ ((C.block N (by omega)).trans KX)
  have q5:=cell_of_row w3 (N + 1) 5 _ _ _ ((C.block (N + 1) (by omega)).trans KY)
  have p6:=cell_of_row w3 N 6 _ _ _ ((C.block N (by omega)).trans KX)
  have q6:=cell_of_row w3 (N + 1) 6 _ _ _ ((C.block (N + 1) (by omega)).trans KY)
  have p7:=cell_of_row w3 N 7 _ _ _ ((C.block N (by omega)).trans KX)
  have q7:=cell_of_row w3 (N + 1) 7 _ _ _ ((C.block (N + 1) (by omega)).trans KY)
  have p8:=cell_of_row w3 N 8 _ _ _ ((C.block N (by omega)).trans KX)
  have q8:=cell_of_row w3 (N + 1) 8 _ _ _ ((C.block (N + 1) (by omega)).trans KY)
  have p9:=cell_of_row w3 N 9 _ _ _ ((C.block N (by omega)).trans KX)
  have q9:=cell_of_row w3 (N + 1) 9 _ _ _ ((C.block (N + 1) (by omega)).trans KY)
  have p10:=cell_of_row w3 N 10 _ _ _ ((C.block N (by omega)).trans KX)
  have q10:=cell_of_row w3 (N + 1) 10 _ _ _ ((C.block (N + 1) (by omega)).trans KY)
  have p11:=cell_of_row w3 N 11 _ _ _ ((C.block N (by omega)).trans KX)
  have q11:=cell_of_row w3 (N + 1) 11 _ _ _ ((C.block (N + 1) (by omega)).trans KY)
  have p12:=cell_of_row w3 N 12 _ _ _ ((C.block N (by omega)).trans KX)
  have q12:=cell_of_row w3 (N + 1) 12 _ _ _ ((C.block (N + 1) (by omega)).trans KY)
  cases b with
  | false =>
   clear hb
   have CA:=alive13 w3
   go_wp2_with (go_at_call 6;refine CA.mono ?_;rintro e w9 ⟨rfl,D⟩;have B9:=B.trans (D.mono B.size))
   go_ret
   exact ⟨rfl,B9⟩
  | true =>
   have LY:Hid (LB y ys):=hb rfl
   clear hb
   have lx:=LX.out.q
   have ly:=LY.out.q
   have bsx:x.s.n≤1000:=by have:=LX.out.sn;omega
   have btx:x.t.n≤1000:=by have:=LX.out.tn;omega
   have bux:∀ u∈x.t.l,u.n≤1000:=fun u hu=>by have:=(LX.out.t u hu).1;omega
   have bsy:y.s.n≤1000:=by have:=LY.out.sn;omega
   have bty:y.t.n≤1000:=by have:=LY.out.tn;omega
   have buy:∀ u∈y.t.l,u.n≤1000:=fun u hu=>by have:=(LY.out.t u hu).1;omega
   have bqx:x.q.n≤1000000:=by have:=LX.out.qn;omega
   have bcx:x.c.n≤1000000:=by have h1:=cellsB_len LX.out.c;have h2:=hx.c.len;omega
   have bsx2:x.s.n≤1000000:=by omega
   have btx2:x.t.n≤1000000:=by omega
   obtain ⟨k1,hk1⟩:∃ k:Int,k=(if rightM x then 0 else 3):=⟨_,rfl⟩
   have HK1:Hid (k1=(if rightM x then 0 else 3)):=hk1
   obtain ⟨qs,hqs⟩:∃ v,v=sameB x y xs ys:=⟨_,rfl⟩
   have HQS:Hid (qs=sameB x y xs ys):=hqs
   have HX:Hid (∀ V,Below w3.heap.size w3 V→x.ok V):=fun V hV=>hx.below (B.trans (hV.mono B.size))
   have HY:Hid (∀ V,Below w3.heap.size w3 V→y.ok V):=fun V hV=>hy.below (B.trans (hV.mono B.size))
   clear hk1 hqs p0 q0 p1 q1 p2 q2 p3 q3 p4 q4 p5 q5 p6 q6 p7 q7 p8 q8 p9 q9 p10 q10 p11 q11 p12 q12
   go_wp2_with fail
   have tHS:Hid (∀ V,Below w3.heap.size w3 V→V.cell? ⟨N,0,none⟩=some (.int .i64 x.kind)∧V.cell? ⟨N,1,none⟩=some (.int .u64 (x.view:Nat))∧V.cell? ⟨N,2,none⟩=some (.int .u64 (x.seq:Nat))∧V.cell? ⟨N,3,none⟩=some (.slice x.sum.ao x.sum.n x.sum.cap)∧V.cell? ⟨N,4,none⟩=some (.slice x.q.ao x.q.n x.q.cap)∧V.cell? ⟨N,5,none⟩=some (.int .u64 (x.cl:Nat))∧V.cell? ⟨N,6,none⟩=some (.int .u64 (x.st:Nat))∧V.cell? ⟨N,7,none⟩=some (.int .u64 (x.vw:Nat))∧V.cell? ⟨N,8,none⟩=some (.int .i64 x.e)∧V.cell? ⟨N,9,none⟩=some (.slice x.c.ao x.c.n x.c.cap)∧V.cell? ⟨N,10,none⟩=some (.bool x.more)∧V.cell? ⟨N,11,none⟩=some (.slice x.s.ao x.s.n x.s.cap)∧V.cell? ⟨N,12,none⟩=some (.slice x.t.ao x.t.n x.t.cap)∧V.cell? ⟨N + 1,0,none⟩=some (.int .i64 y.kind)∧V.cell? ⟨N + 1,1,none⟩=some (.int .u64 (y.view:Nat))∧V.cell? ⟨N + 1,2,none⟩=some (.int .u64 (y.seq:Nat))∧V.cell? ⟨N + 1,3,none⟩=some (.slice y.sum.ao y.sum.n y.sum.cap)∧V.cell? ⟨N + 1,4,none⟩=some (.slice y.q.ao y.q.n y.q.cap)∧V.cell? ⟨N + 1,5,none⟩=some (.int .u64 (y.cl:Nat))∧V.cell? ⟨N + 1,6,none⟩=some (.int .u64 (y.st:Nat))∧V.cell? ⟨N + 1,7,none⟩=some (.int .u64 (y.vw:Nat))∧V.cell? ⟨N + 1,8,none⟩=some (.int .i64 y.e)∧V.cell? ⟨N + 1,9,none⟩=some (.slice y.c.ao y.c.n y.c.cap)∧V.cell? ⟨N + 1,10,none⟩=some (.bool y.more)∧V.cell? ⟨N + 1,11,none⟩=some (.slice y.s.ao y.s.n y.s.cap)∧V.cell? ⟨N + 1,12,none⟩=some (.slice y.t.ao y.t.n y.t.cap)):=fun V hV=>by have C2:=C.trans (hV.mono C.size);have K1:=(C2.block N (by omega)).trans KX;have K2:=(C2.block (N + 1) (by omega)).trans KY;exact ⟨cell_of_row V N 0 _ _ _ K1,cell_of_row V N 1 _ _ _ K1,cell_of_row V N 2 _ _ _ K1,cell_of_row V N 3 _ _ _ K1,cell_of_row V N 4 _ _ _ K1,cell_of_row V N 5 _ _ _ K1,cell_of_row V N 6 _ _ _ K1,cell_of_row V N 7 _ _ _ K1,cell_of_row V N 8 _ _ _ K1,cell_of_row V N 9 _ _ _ K1,cell_of_row V N 10 _ _ _ K1,cell_of_row V N 11 _ _ _ K1,cell_of_row V N 12 _ _ _ K1,cell_of_row V (N + 1) 0 _ _ _ K2,cell_of_row V (N + 1) 1 _ _ _ K2,cell_of_row V (N + 1) 2 _ _ _ K2,cell_of_row V (N + 1) 3 _ _ _ K2,cell_of_row V (N + 1) 4 _ _ _ K2,cell_of_row V (N + 1) 5 _ _ _ K2,cell_of_row V (N + 1) 6 _ _ _ K2,cell_of_row V (N + 1) 7 _ _ _ K2,cell_of_row V (N + 1) 8 _ _ _ K2,cell_of_row V (N + 1) 9 _ _ _ K2,cell_of_row V (N + 1) 10 _ _ _ K2,cell_of_row V (N + 1) 11 _ _ _ K2,cell_of_row V (N + 1) 12 _ _ _ K2⟩
   refine zB (by kernel_rfl) tHS.out fun v0 E0 H0=>?_
   refine zT 0 (some 14) (.agg #[.int .i64 x.kind,.int .u64 (x.view:Nat),.int .u64 (x.seq:Nat),.slice x.sum.ao x.sum.n x.sum.cap,.slice x.q.ao x.q.n x.q.cap,.int .u64 (x.cl:Nat),.int .u64 (x.st:Nat),.int .u64 (x.vw:Nat),.int .i64 x.e,.slice x.c.ao x.c.n x.c.cap,.bool x.more,.slice x.s.ao x.s.n x.s.cap,.slice x.t.ao x.t.n x.t.cap]) rfl rfl (by kernel_rfl) rfl (fun W ⟨a,b,c,d,e,f,g,h,i,j,k,l,m,n,o,p,q,r,s,t,u,v,a1,a2,a3,a4⟩=>by go_simp) H0 ?_
   simp only [FL]
   refine zT 3 (some 17) (.agg #[.int .i64 x.kind,.int .u64 (x.view:Nat),.int .u64 (x.seq:Nat),.slice x.sum.ao x.sum.n x.sum.cap,.slice x.q.ao x.q.n x.q.cap,.int .u64 (x.cl:Nat),.int .u64 (x.st:Nat),.int .u64 (x.vw:Nat),.int .i64 x.e,.slice x.c.ao x.c.n x.c.cap,.bool x.more,.slice x.s.ao x.s.n x.s.cap,.slice x.t.ao x.t.n x.t.cap]) rfl rfl (by kernel_rfl) rfl (fun W ⟨a,b,c,d,e,f,g,h,i,j,k,l,m,n,o,p,q,r,s,t,u,v,a1,a2,a3,a4⟩=>by go_simp) H0 ?_
   simp only [FL]
   refine hr_call_w 1 (some 15) 8 #[.agg #[.int .i64 x.kind,.int .u64 (x.view:Nat),.int .u64 (x.seq:Nat),.slice x.sum.ao x.sum.n x.sum.cap,.slice x.q.ao x.q.n x.q.cap,.int .u64 (x.cl:Nat),.int .u64 (x.st:Nat),.int .u64 (x.vw:Nat),.int .i64 x.e,.slice x.c.ao x.c.n x.c.cap,.bool x.more,.slice x.s.ao x.s.n x.s.cap,.slice x.t.ao x.t.n x.t.cap]] rfl rfl (by kernel_rfl) rfl (by go_simp) (fun v w'=>∃ so1 sc1 vo1 vc1 zs1,v=(ownB x so1 sc1 vo1 vc1 zs1).val∧((ownB x so1 sc1 vo1 vc1 zs1).ok w'∧zs1.map lsV=x.t.l.map lsV)∧Below v0.heap.size v0 w') (((show Calls Tryz.prog 8 #[.agg #[.int .i64 x.kind,.int .u64 (x.view:Nat),.int .u64 (x.seq:Nat),.slice x.sum.ao x.sum.n x.sum.cap,.slice x.q.ao x.q.n x.q.cap,.int .u64 (x.cl:Nat),.int .u64 (x.st:Nat),.int .u64 (x.vw:Nat),.int .i64 x.e,.slice x.c.ao x.c.n x.c.cap,.bool x.more,.slice x.s.ao x.s.n x.s.cap,.slice x.t.ao x.t.n x.t.cap]] v0 (fun e w'=>∃ so1 sc1 vo1 vc1 zs1,e=.returned (ownB x so1 sc1 vo1 vc1 zs1).val∧((ownB x so1 sc1 vo1 vc1 zs1).ok w'∧zs1.map lsV=x.t.l.map lsV)∧Below v0.heap.size v0 w') from (own_any v0 x (HX.out v0 E0) bsx btx bux).mono (by
    rintro e w' ⟨so1,sc1,vo1,vc1,zs1,rfl,h1,h2,h3⟩
    exact ⟨so1,sc1,vo1,vc1,zs1,rfl,⟨h1,h2⟩,h3⟩))).mono (by
    rintro e w' ⟨so1,sc1,vo1,vc1,zs1,rfl,F,C⟩
    exact ⟨_,rfl,so1,sc1,vo1,vc1,zs1,rfl,F,C⟩)) ?_
   rintro v v1 ⟨so1,sc1,vo1,vc1,zs1,rfl,F0,P0⟩
   have E1:=E0.trans (P0.mono E0.size)
   have H1:=tHS.out v1 E1
   refine ⟨H1,?_⟩
   simp only [FL]
   refine hr_call_w 2 (some 16) 7 #[(ownB x so1 sc1 vo1 vc1 zs1).val] rfl rfl (by kernel_rfl) rfl (by go_simp) (fun v w'=>v=.int .i64 k1∧Below v1.heap.size v1 w') (((show Calls Tryz.prog 7 #[(ownB x so1 sc1 vo1 vc1 zs1).val] v1 (fun e w'=>e=.returned (.int .i64 k1)∧Below v1.heap.size v1 w') from by
    have C:=right_any v1 _ F0.1
    rw [own_right F0.2,←HK1.out] at C
    exact C)).mono (by
    rintro e w' ⟨rfl,C⟩
    exact ⟨_,rfl,rfl,C⟩)) ?_
   rintro v v2 ⟨rfl,P1⟩
   have E2:=E1.trans (P1.mono E1.size)
   have H2:=tHS.out v2 E2
   refine ⟨H2,?_⟩
   simp only [FL]
   refine hr_call_w 4 (some 18) 9 #[.agg #[.int .i64 x.kind,.int .u64 (x.view:Nat),.int .u64 (x.seq:Nat),.slice x.sum.ao x.sum.n x.sum.cap,.slice x.q.ao x.q.n x.q.cap,.int .u64 (x.cl:Nat),.int .u64 (x.st:Nat),.int .u64 (x.vw:Nat),.int .i64 x.e,.slice x.c.ao x.c.n x.c.cap,.bool x.more,.slice x.s.ao x.s.n x.s.cap,.slice x.t.ao x.t.n x.t.cap]] rfl rfl (by kernel_rfl) rfl (by go_simp) (fun v w'=>v=.int .i64 k1∧Below v2.heap.size v2 w') (((show Calls Tryz.prog 9 #[.agg #[.int .i64 x.kind,.int .u64 (x.view:Nat),.int .u64 (x.seq:Nat),.slice x.sum.ao x.sum.n x.sum.cap,.slice x.q.ao x.q.n x.q.cap,.int .u64 (x.cl:Nat),.int .u64 (x.st:Nat),.int .u64 (x.vw:Nat),.int .i64 x.e,.slice x.c.ao x.c.n x.c.cap,.bool x.more,.slice x.s.ao x.s.n x.s.cap,.slice x.t.ao x.t.n x.t.cap]] v2 (fun e w'=>e=.returned (.int .i64 k1)∧Below v2.heap.size v2 w') from by
    have C:=rright13_any v2 x xs (HX.out v2 E2) qx (fun q hq=>OW.below (B.trans ((E2).mono B.size)) (ox q hq)) lx
    rw [←HK1.out] at C
    exact C)).mono (by
    rintro e w' ⟨rfl,C⟩
    exact ⟨_,rfl,rfl,C⟩)) ?_
   rintro v v3 ⟨rfl,P2⟩
   have E3:=E2.trans (P2.mono E2.size)
   have H3:=tHS.out v3 E3
   refine ⟨H3,?_⟩
   simp only [FL]
   refine zT 5 (some 19) (.bool true) rfl rfl (by kernel_rfl) rfl (fun W ⟨a,b,c,d,e,f,g,h,i,j,k,l,m,n,o,p,q,r,s,t,u,v,a1,a2,a3,a4⟩=>by go_simp) H3 ?_
   simp only [FL]
   refine zT 6 (some 20) (.bool true) rfl rfl (by kernel_rfl) rfl (fun W ⟨a,b,c,d,e,f,g,h,i,j,k,l,m,n,o,p,q,r,s,t,u,v,a1,a2,a3,a4⟩=>by go_simp) H3 ?_
   simp only [FL]
   refine zT 7 (some 21) (.agg #[.int .i64 x.kind,.int .u64 (x.view:Nat),.int .u64 (x.seq:Nat),.slice x.sum.ao x.sum.n x.sum.cap,.slice x.q.ao x.q.n x.q.cap,.int .u64 (x.cl:Nat),.int .u64 (x.st:Nat),.int .u64 (x.vw:Nat),.int .i64 x.e,.slice x.c.ao x.c.n x.c.cap,.bool x.more,.slice x.s.ao x.s.n x.s.cap,.slice x.t.ao x.t.n x.t.cap]) rfl rfl (by kernel_rfl) rfl (fun W ⟨a,b,c,d,e,f,g,h,i,j,k,l,m,n,o,p,q,r,s,t,u,v,a1,a2,a3,a4⟩=>by go_simp) H3 ?_
   simp only [FL]
   refine zT 9 (some 23) (.agg #[.int .i64 y.kind,.int .u64 (y.view:Nat),.int .u64 (y.seq:Nat),.slice y.sum.ao y.sum.n y.sum.cap,.slice y.q.ao y.q.n y.q.cap,.int .u64 (y.cl:Nat),.int .u64 (y.st:Nat),.int .u64 (y.vw:Nat),.int .i64 y.e,.slice y.c.ao y.c.n y.c.cap,.bool y.more,.slice y.s.ao y.s.n y.s.cap,.slice y.t.ao y.t.n y.t.cap]) rfl rfl (by kernel_rfl) rfl (fun W ⟨a,b,c,d,e,f,g,h,i,j,k,l,m,n,o,p,q,r,s,t,u,v,a1,a2,a3,a4⟩=>by go_simp) H3 ?_
   simp only [FL]
   refine zT 12 (some 26) (.agg #[.int .i64 x.kind,.int .u64 (x.view:Nat),.int .u64 (x.seq:Nat),.slice x.sum.ao x.sum.n x.sum.cap,.slice x.q.ao x.q.n x.q.cap,.int .u64 (x.cl:Nat),.int .u64 (x.st:Nat),.int .u64 (x.vw:Nat),.int .i64 x.e,.slice x.c.ao x.c.n x.c.cap,.bool x.more,.slice x.s.ao x.s.n x.s.cap,.slice x.t.ao x.t.n x.t.cap]) rfl rfl (by kernel_rfl) rfl (fun W ⟨a,b,c,d,e,f,g,h,i,j,k,l,m,n,o,p,q,r,s,t,u,v,a1,a2,a3,a4⟩=>by go_simp) H3 ?_
   simp only [FL]
   refine zT 13 (some 27) (.agg #[.int .i64 y.kind,.int .u64 (y.view:Nat),.int .u64 (y.seq:Nat),.slice y.sum.ao y.sum.n y.sum.cap,.slice y.q.ao y.q.n y.q.cap,.int .u64 (y.cl:Nat),.int .u64 (y.st:Nat),.int .u64 (y.vw:Nat),.int .i64 y.e,.slice y.c.ao y.c.n y.c.cap,.bool y.more,.slice y.s.ao y.s.n y.s.cap,.slice y.t.ao y.t.n y.t.cap]) rfl rfl (by kernel_rfl) rfl (fun W ⟨a,b,c,d,e,f,g,h,i,j,k,l,m,n,o,p,q,r,s,t,u,v,a1,a2,a3,a4⟩=>by go_simp) H3 ?_
   simp only [FL]
   refine hr_call_w 8 (some 22) 8 #[.agg #[.int .i64 x.kind,.int .u64 (x.view:Nat),.int .u64 (x.seq:Nat),.slice x.sum.ao x.sum.n x.sum.cap,.slice x.q.ao x.q.n x.q.cap,.int .u64 (x.cl:Nat),.int .u64 (x.st:Nat),.int .u64 (x.vw:Nat),.int .i64 x.e,.slice x.c.ao x.c.n x.c.cap,.bool x.more,.slice x.s.ao x.s.n x.s.cap,.slice x.t.ao x.t.n x.t.cap]] rfl rfl (by kernel_rfl) rfl (by go_simp) (fun v w'=>∃ so8 sc8 vo8 vc8 zs8,v=(ownB x so8 sc8 vo8 vc8 zs8).val∧((ownB x so8 sc8 vo8 vc8 zs8).ok w'∧zs8.map lsV=x.t.l.map lsV)∧Below v3.heap.size v3 w') (((show Calls Tryz.prog 8 #[.agg #[.int .i64 x.kind,.int .u64 (x.view:Nat),.int .u64 (x.seq:Nat),.slice x.sum.ao x.sum.n x.sum.cap,.slice x.q.ao x.q.n x.q.cap,.int .u64 (x.cl:Nat),.int .u64 (x.st:Nat),.int .u64 (x.vw:Nat),.int .i64 x.e,.slice x.c.ao x.c.n x.c.cap,.bool x.more,.slice x.s.ao x.s.n x.s.cap,.slice x.t.ao x.t.n x.t.cap]] v3 (fun e w'=>∃ so8 sc8 vo8 vc8 zs8,e=.returned (ownB x so8 sc8 vo8 vc8 zs8).val∧((ownB x so8 sc8 vo8 vc8 zs8).ok w'∧zs8.map lsV=x.t.l.map lsV)∧Below v3.heap.size v3 w') from (own_any v3 x (HX.out v3 E3) bsx btx bux).mono (by
    rintro e w' ⟨so8,sc8,vo8,vc8,zs8,rfl,h1,h2,h3⟩
    exact ⟨so8,sc8,vo8,vc8,zs8,rfl,⟨h1,h2⟩,h3⟩))).mono (by
    rintro e w' ⟨so8,sc8,vo8,vc8,zs8,rfl,F,C⟩
    exact ⟨_,rfl,so8,sc8,vo8,vc8,zs8,rfl,F,C⟩)) ?_
   rintro v v4 ⟨so8,sc8,vo8,vc8,zs8,rfl,F3,P3⟩
   have E4:=E3.trans (P3.mono E3.size)
   have H4:=tHS.out v4 E4
   refine ⟨H4,?_⟩
   simp only [FL]
   refine hr_call_w 10 (some 24) 8 #[.agg #[.int .i64 y.kind,.int .u64 (y.view:Nat),.int .u64 (y.seq:Nat),.slice y.sum.ao y.sum.n y.sum.cap,.slice y.q.ao y.q.n y.q.cap,.int .u64 (y.cl:Nat),.int .u64 (y.st:Nat),.int .u64 (y.vw:Nat),.int .i64 y.e,.slice y.c.ao y.c.n y.c.cap,.bool y.more,.slice y.s.ao y.s.n y.s.cap,.slice y.t.ao y.t.n y.t.cap]] rfl rfl (by kernel_rfl) rfl (by go_simp) (fun v w'=>∃ so10 sc10 vo10 vc10 zs10,v=(ownB y so10 sc10 vo10 vc10 zs10).val∧((ownB y so10 sc10 vo10 vc10 zs10).ok w'∧zs10.map lsV=y.t.l.map lsV)∧Below v4.heap.size v4 w') (((show Calls Tryz.prog 8 #[.agg #[.int .i64 y.kind,.int .u64 (y.view:Nat),.int .u64 (y.seq:Nat),.slice y.sum.ao y.sum.n y.sum.cap,.slice y.q.ao y.q.n y.q.cap,.int .u64 (y.cl:Nat),.int .u64 (y.st:Nat),.int .u64 (y.vw:Nat),.int .i64 y.e,.slice y.c.ao y.c.n y.c.cap,.bool y.more,.slice y.s.ao y.s.n y.s.cap,.slice y.t.ao y.t.n y.t.cap]] v4 (fun e w'=>∃ so10 sc10 vo10 vc10 zs10,e=.returned (ownB y so10 sc10 vo10 vc10 zs10).val∧((ownB y so10 sc10 vo10 vc10 zs10).ok w'∧zs10.map lsV=y.t.l.map lsV)∧Below v4.heap.size v4 w') from (own_any v4 y (HY.out v4 E4) bsy bty buy).mono (by
    rintro e w' ⟨so10,sc10,vo10,vc10,zs10,rfl,h1,h2,h3⟩
    exact ⟨so10,sc10,vo10,vc10,zs10,rfl,⟨h1,h2⟩,h3⟩))).mono (by
    rintro e w' ⟨so10,sc10,vo10,vc10,zs10,rfl,F,C⟩
    exact ⟨_,rfl,so10,sc10,vo10,vc10,zs10,rfl,F,C⟩)) ?_
   rintro v v5 ⟨so10,sc10,vo10,vc10,zs10,rfl,F4,P4⟩
   have E5:=E4.trans (P4.mono E4.size)
   have H5:=tHS.out v5 E5
   refine ⟨H5,?_⟩
   simp only [FL]
   refine hr_call_w 11 (some 25) 10 #[(ownB x so8 sc8 vo8 vc8 zs8).val,(ownB y so10 sc10 vo10 vc10 zs10).val] rfl rfl (by kernel_rfl) rfl (by go_simp) (fun v w'=>v=.bool qs∧Below v5.heap.size v5 w') (((show Calls Tryz.prog 10 #[(ownB x so8 sc8 vo8 vc8 zs8).val,(ownB y so10 sc10 vo10 vc10 zs10).val] v5 (fun e w'=>e=.returned (.bool qs)∧Below v5.heap.size v5 w') from by
    have C:=msame_any v5 (ownB x so8 sc8 vo8 vc8 zs8) (ownB y so10 sc10 vo10 vc10 zs10) xs ys (F3.1.below P4) F4.1 qx qy (fun q hq=>OW.below (B.trans ((E5).mono B.size)) (ox q hq)) (fun q hq=>OW.below (B.trans ((E5).mono B.size)) (oy q hq)) lx ly bqx bcx bsx2 btx2 (fun t ht=>own_sets F3.2 bux t ht)
    rw [ms_own F3.2 F4.2 nx ny tx ty,←HQS.out] at C
    exact C)).mono (by
    rintro e w' ⟨rfl,C⟩
    exact ⟨_,rfl,rfl,C⟩)) ?_
   rintro v v6 ⟨rfl,P5⟩
   have E6:=E5.trans (P5.mono E5.size)
   have H6:=tHS.out v6 E6
   refine ⟨H6,?_⟩
   simp only [FL]
   refine hr_call_w 14 (some 28) 11 #[.agg #[.int .i64 x.kind,.int .u64 (x.view:Nat),.int .u64 (x.seq:Nat),.slice x.sum.ao x.sum.n x.sum.cap,.slice x.q.ao x.q.n x.q.cap,.int .u64 (x.cl:Nat),.int .u64 (x.st:Nat),.int .u64 (x.vw:Nat),.int .i64 x.e,.slice x.c.ao x.c.n x.c.cap,.bool x.more,.slice x.s.ao x.s.n x.s.cap,.slice x.t.ao x.t.n x.t.cap],.agg #[.int .i64 y.kind,.int .u64 (y.view:Nat),.int .u64 (y.seq:Nat),.slice y.sum.ao y.sum.n y.sum.cap,.slice y.q.ao y.q.n y.q.cap,.int .u64 (y.cl:Nat),.int .u64 (y.st:Nat),.int .u64 (y.vw:Nat),.int .i64 y.e,.slice y.c.ao y.c.n y.c.cap,.bool y.more,.slice y.s.ao y.s.n y.s.cap,.slice y.t.ao y.t.n y.t.cap]] rfl rfl (by kernel_rfl) rfl (by go_simp) (fun v w'=>v=.bool qs∧Below v6.heap.size v6 w') (((show Calls Tryz.prog 11 #[.agg #[.int .i64 x.kind,.int .u64 (x.view:Nat),.int .u64 (x.seq:Nat),.slice x.sum.ao x.sum.n x.sum.cap,.slice x.q.ao x.q.n x.q.cap,.int .u64 (x.cl:Nat),.int .u64 (x.st:Nat),.int .u64 (x.vw:Nat),.int .i64 x.e,.slice x.c.ao x.c.n x.c.cap,.bool x.more,.slice x.s.ao x.s.n x.s.cap,.slice x.t.ao x.t.n x.t.cap],.agg #[.int .i64 y.kind,.int .u64 (y.view:Nat),.int .u64 (y.seq:Nat),.slice y.sum.ao y.sum.n y.sum.cap,.slice y.q.ao y.q.n y.q.cap,.int .u64 (y.cl:Nat),.int .u64 (y.st:Nat),.int .u64 (y.vw:Nat),.int .i64 y.e,.slice y.c.ao y.c.n y.c.cap,.bool y.more,.slice y.s.ao y.s.n y.s.cap,.slice y.t.ao y.t.n y.t.cap]] v6 (fun e w'=>e=.returned (.bool qs)∧Below v6.heap.size v6 w') from by
    have C:=rsame13 v6 x y xs ys (HX.out v6 E6) (HY.out v6 E6) qx qy (fun q hq=>OW.below (B.trans ((E6).mono B.size)) (ox q hq)) (fun q hq=>OW.below (B.trans ((E6).mono B.size)) (oy q hq)) lx ly
    rw [←HQS.out] at C
    exact C)).mono (by
    rintro e w' ⟨rfl,C⟩
    exact ⟨_,rfl,rfl,C⟩)) ?_
   rintro v v7 ⟨rfl,P6⟩
   have E7:=E6.trans (P6.mono E6.size)
   have H7:=tHS.out v7 E7
   refine ⟨H7,?_⟩
   simp only [FL]
   refine zT 15 (some 29) (.bool true) rfl rfl (by kernel_rfl) rfl (fun W ⟨a,b,c,d,e,f,g,h,i,j,k,l,m,n,o,p,q,r,s,t,u,v,a1,a2,a3,a4⟩=>by cases qs <;> go_simp) H7 ?_
   simp only [FL]
   refine zT 16 (some 30) (.bool true) rfl rfl (by kernel_rfl) rfl (fun W ⟨a,b,c,d,e,f,g,h,i,j,k,l,m,n,o,p,q,r,s,t,u,v,a1,a2,a3,a4⟩=>by go_simp) H7 ?_
   simp only [FL]
   refine zT 17 (some 31) (.bool true) rfl rfl (by kernel_rfl) rfl (fun W ⟨a,b,c,d,e,f,g,h,i,j,k,l,m,n,o,p,q,r,s,t,u,v,a1,a2,a3,a4⟩=>by go_simp) H7 ?_
   simp only [FL]
   refine zT 18 (some 32) (.agg #[.int .i64 x.kind,.int .u64 (x.view:Nat),.int .u64 (x.seq:Nat),.slice x.sum.ao x.sum.n x.sum.cap,.slice x.q.ao x.q.n x.q.cap,.int .u64 (x.cl:Nat),.int .u64 (x.st:Nat),.int .u64 (x.vw:Nat),.int .i64 x.e,.slice x.c.ao x.c.n x.c.cap,.bool x.more,.slice x.s.ao x.s.n x.s.cap,.slice x.t.ao x.t.n x.t.cap]) rfl rfl (by kernel_rfl) rfl (fun W ⟨a,b,c,d,e,f,g,h,i,j,k,l,m,n,o,p,q,r,s,t,u,v,a1,a2,a3,a4⟩=>by go_simp) H7 ?_
   simp only [FL]
   refine zT 20 (some 34) (.agg #[.int .i64 x.kind,.int .u64 (x.view:Nat),.int .u64 (x.seq:Nat),.slice x.sum.ao x.sum.n x.sum.cap,.slice x.q.ao x.q.n x.q.cap,.int .u64 (x.cl:Nat),.int .u64 (x.st:Nat),.int .u64 (x.vw:Nat),.int .i64 x.e,.slice x.c.ao x.c.n x.c.cap,.bool x.more,.slice x.s.ao x.s.n x.s.cap,.slice x.t.ao x.t.n x.t.cap]) rfl rfl (by kernel_rfl) rfl (fun W ⟨a,b,c,d,e,f,g,h,i,j,k,l,m,n,o,p,q,r,s,t,u,v,a1,a2,a3,a4⟩=>by go_simp) H7 ?_
   simp only [FL]
   refine hr_call_w 19 (some 33) 8 #[.agg #[.int .i64 x.kind,.int .u64 (x.view:Nat),.int .u64 (x.seq:Nat),.slice x.sum.ao x.sum.n x.sum.cap,.slice x.q.ao x.q.n x.q.cap,.int .u64 (x.cl:Nat),.int .u64 (x.st:Nat),.int .u64 (x.vw:Nat),.int .i64 x.e,.slice x.c.ao x.c.n x.c.cap,.bool x.more,.slice x.s.ao x.s.n x.s.cap,.slice x.t.ao x.t.n x.t.cap]] rfl rfl (by kernel_rfl) rfl (by go_simp) (fun v w'=>∃ so19 sc19 vo19 vc19 zs19,v=(ownB x so19 sc19 vo19 vc19 zs19).val∧((ownB x so19 sc19 vo19 vc19 zs19).ok w'∧zs19.map lsV=x.t.l.map lsV)∧Below v7.heap.size v7 w') (((show Calls Tryz.prog 8 #[.agg #[.int .i64 x.kind,.int .u64 (x.view:Nat),.int .u64 (x.seq:Nat),.slice x.sum.ao x.sum.n x.sum.cap,.slice x.q.ao x.q.n x.q.cap,.int .u64 (x.cl:Nat),.int .u64 (x.st:Nat),.int .u64 (x.vw:Nat),.int .i64 x.e,.slice x.c.ao x.c.n x.c.cap,.bool x.more,.slice x.s.ao x.s.n x.s.cap,.slice x.t.ao x.t.n x.t.cap]] v7 (fun e w'=>∃ so19 sc19 vo19 vc19 zs19,e=.returned (ownB x so19 sc19 vo19 vc19 zs19).val∧((ownB x so19 sc19 vo19 vc19 zs19).ok w'∧zs19.map lsV=x.t.l.map lsV)∧Below v7.heap.size v7 w') from (own_any v7 x (HX.out v7 E7) bsx btx bux).mono (by
    rintro e w' ⟨so19,sc19,vo19,vc19,zs19,rfl,h1,h2,h3⟩
    exact ⟨so19,sc19,vo19,vc19,zs19,rfl,⟨h1,h2⟩,h3⟩))).mono (by
    rintro e w' ⟨so19,sc19,vo19,vc19,zs19,rfl,F,C⟩
    exact ⟨_,rfl,so19,sc19,vo19,vc19,zs19,rfl,F,C⟩)) ?_
   rintro v v8 ⟨so19,sc19,vo19,vc19,zs19,rfl,F7,P7⟩
   have E8:=E7.trans (P7.mono E7.size)
   have H8:=tHS.out v8 E8
   refine ⟨H8,?_⟩
   simp only [FL]
   refine hr_call_w 21 (some 35) 8 #[.agg #[.int .i64 x.kind,.int .u64 (x.view:Nat),.int .u64 (x.seq:Nat),.slice x.sum.ao x.sum.n x.sum.cap,.slice x.q.ao x.q.n x.q.cap,.int .u64 (x.cl:Nat),.int .u64 (x.st:Nat),.int .u64 (x.vw:Nat),.int .i64 x.e,.slice x.c.ao x.c.n x.c.cap,.bool x.more,.slice x.s.ao x.s.n x.s.cap,.slice x.t.ao x.t.n x.t.cap]] rfl rfl (by kernel_rfl) rfl (by go_simp) (fun v w'=>∃ so21 sc21 vo21 vc21 zs21,v=(ownB x so21 sc21 vo21 vc21 zs21).val∧((ownB x so21 sc21 vo21 vc21 zs21).ok w'∧zs21.map lsV=x.t.l.map lsV)∧Below v8.heap.size v8 w') (((show Calls Tryz.prog 8 #[.agg #[.int .i64 x.kind,.int .u64 (x.view:Nat),.int .u64 (x.seq:Nat),.slice x.sum.ao x.sum.n x.sum.cap,.slice x.q.ao x.q.n x.q.cap,.int .u64 (x.cl:Nat),.int .u64 (x.st:Nat),.int .u64 (x.vw:Nat),.int .i64 x.e,.slice x.c.ao x.c.n x.c.cap,.bool x.more,.slice x.s.ao x.s.n x.s.cap,.slice x.t.ao x.t.n x.t.cap]] v8 (fun e w'=>∃ so21 sc21 vo21 vc21 zs21,e=.returned (ownB x so21 sc21 vo21 vc21 zs21).val∧((ownB x so21 sc21 vo21 vc21 zs21).ok w'∧zs21.map lsV=x.t.l.map lsV)∧Below v8.heap.size v8 w') from (own_any v8 x (HX.out v8 E8) bsx btx bux).mono (by
    rintro e w' ⟨so21,sc21,vo21,vc21,zs21,rfl,h1,h2,h3⟩
    exact ⟨so21,sc21,vo21,vc21,zs21,rfl,⟨h1,h2⟩,h3⟩))).mono (by
    rintro e w' ⟨so21,sc21,vo21,vc21,zs21,rfl,F,C⟩
    exact ⟨_,rfl,so21,sc21,vo21,vc21,zs21,rfl,F,C⟩)) ?_
   rintro v v9 ⟨so21,sc21,vo21,vc21,zs21,rfl,F8,P8⟩
   have E9:=E8.trans (P8.mono E8.size)
   have H9:=tHS.out v9 E9
   refine ⟨H9,?_⟩
   simp only [FL]
   refine hr_call_w 22 (some 36) 10 #[(ownB x so19 sc19 vo19 vc19 zs19).val,(ownB x so21 sc21 vo21 vc21 zs21).val] rfl rfl (by kernel_rfl) rfl (by go_simp) (fun v w'=>v=.bool true∧Below v9.heap.size v9 w') (((show Calls Tryz.prog 10 #[(ownB x so19 sc19 vo19 vc19 zs19).val,(ownB x so21 sc21 vo21 vc21 zs21).val] v9 (fun e w'=>e=.returned (.bool true)∧Below v9.heap.size v9 w') from by
    have C:=msame_any v9 (ownB x so19 sc19 vo19 vc19 zs19) (ownB x so21 sc21 vo21 vc21 zs21) xs xs (F7.1.below P8) F8.1 qx qx (fun q hq=>OW.below (B.trans ((E9).mono B.size)) (ox q hq)) (fun q hq=>OW.below (B.trans ((E9).mono B.size)) (ox q hq)) lx lx bqx bcx bsx2 btx2 (fun t ht=>own_sets F7.2 bux t ht)
    rw [ms_own F7.2 F8.2 nx nx tx tx,sameB_self] at C
    exact C)).mono (by
    rintro e w' ⟨rfl,C⟩
    exact ⟨_,rfl,rfl,C⟩)) ?_
   rintro v v10 ⟨rfl,P9⟩
   have E10:=E9.trans (P9.mono E9.size)
   have H10:=tHS.out v10 E10
   refine ⟨H10,?_⟩
   simp only [FL]
   refine zT 23 (some 37) (.bool true) rfl rfl (by kernel_rfl) rfl (fun W ⟨a,b,c,d,e,f,g,h,i,j,k,l,m,n,o,p,q,r,s,t,u,v,a1,a2,a3,a4⟩=>by go_simp) H10 ?_
   simp only [FL]
   refine zT 24 (some 38) (.bool true) rfl rfl (by kernel_rfl) rfl (fun W ⟨a,b,c,d,e,f,g,h,i,j,k,l,m,n,o,p,q,r,s,t,u,v,a1,a2,a3,a4⟩=>by go_simp) H10 ?_
   simp only [FL]
   refine hr_call_w 25 (some 39) 6 #[] rfl rfl (by kernel_rfl) rfl (by go_simp) (fun v w'=>v=.bool true∧Below v10.heap.size v10 w') (((alive13 v10)).mono (by
    rintro e w' ⟨rfl,C⟩
    exact ⟨_,rfl,rfl,C⟩)) ?_
   rintro v v11 ⟨rfl,P10⟩
   have E11:=E10.trans (P10.mono E10.size)
   have H11:=tHS.out v11 E11
   refine ⟨H11,?_⟩
   simp only [FL]
   refine zT 26 (some 40) (.bool true) rfl rfl (by kernel_rfl) rfl (fun W ⟨a,b,c,d,e,f,g,h,i,j,k,l,m,n,o,p,q,r,s,t,u,v,a1,a2,a3,a4⟩=>by go_simp) H11 ?_
   simp only [FL]
   refine zT 27 (some 4) (.bool true) rfl rfl (by kernel_rfl) rfl (fun W ⟨a,b,c,d,e,f,g,h,i,j,k,l,m,n,o,p,q,r,s,t,u,v,a1,a2,a3,a4⟩=>by go_simp) H11 ?_
   simp only [FL]
   refine wpAnyH_done (by kernel_rfl) ?_ _
   refine NoPanic.normal ?_
   have B:=B.trans (E11.mono B.size)
   go_wp2
   go_ret
   exact ⟨rfl,B⟩
end Go.Proofs.YtnbejckdhdbamaaGreat

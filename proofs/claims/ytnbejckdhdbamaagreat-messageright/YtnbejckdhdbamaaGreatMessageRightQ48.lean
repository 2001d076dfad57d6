/-
  Texts in one: GOpen, MgOpenB, MgTypes.
-/
import Derived.Test.YtnbejckdhdbamaaGreatMessageRightQ0
import Derived.Test.YtnbejckdhdbamaaGreatMessageRightQ10
namespace Go.Proofs.YtnbejckdhdbamaaGreat
open Go.RowKit Go.ChangeShapes Go.WideShapes
variable {H:Type} {enc:TypeId × Value→H} {P:Program} {w:World} {base:Nat} {spare:Nat→Bool} {held:Bool}
theorem open_gl {α:Type} (E:El α) (N:α→Prop) {sl t:TypeId} (hsl:P.underlying sl=some (.slice t)) (ct:P.cellsOf t=E.sz)
  (one:∀ {fuel:Nat} {l:List Value} {x:DataW H × List MemPlace},DataW.trod enc P w base spare held fuel t l=some x→∃ y,l=E.c y∧E.ok y w∧(Wt P x.1 t→N y))
  {fuel:Nat} {v:Value} {x:DataW H × List MemPlace} (h:DataW.trod enc P w base spare held fuel sl [v]=some x) :
  ∃ (ao:Option Addr) (n cap:Nat) (l:List α),v=.slice ao n cap∧GL E w ao n cap l∧(Wt P x.1 sl→∀ y∈l,N y):=by
 rcases Deep.open_slice hsl h with ⟨hcs,_⟩ | ⟨a,l,c,m,n,D,Pl,hcs,_,hl,hm,hmm,hy0,hx⟩
 ·exact ⟨none,0,0,[],by simpa using hcs,GL.nothing _ _,fun _ _ h=>absurd h List.not_mem_nil⟩
 ·have hlm:l≤m:=by rw [hmm];split <;> omega
  obtain ⟨z,hz1,hz2⟩:=gather_list (p:=fun i (y:α)=>(∀ j v,(E.c y)[j]?=some v→w.cell? (a.add (i * E.sz + j))=some v)∧E.ok y w∧(Wt P (D i) t→N y)) l (fun i hi=>by
   obtain ⟨cs',h1,h2⟩:=hx i (by omega)
   rw [ct] at h1
   obtain ⟨_,hlen,hcell⟩:=World.cells?_some h1
   obtain ⟨y,e1,w1,n1⟩:=one h2
   refine ⟨y,fun j v hv=>?_,w1,n1⟩
   rw [←e1] at hv
   have hj:j < cs'.length:=(List.getElem?_eq_some_iff.1 hv).1
   have:=hcell j (by omega)
   rw [Deep.add_add,hv] at this
   exact this)
  refine ⟨some a,l,c,z,by simpa using hcs,⟨hz1,hl,hm,fun h=>by simp at h,fun b hb i hi=>?_,fun q hq=>?_⟩,fun hwt y hy=>?_⟩
  ·obtain rfl:=Option.some.inj hb
   exact (hz2 i hi).1
  ·obtain ⟨i,hi,rfl⟩:=List.getElem_of_mem hq
   exact (hz2 i hi).2.1
  ·obtain ⟨i,hi,rfl⟩:=List.getElem_of_mem hy
   refine (hz2 i hi).2.2 fun n hn2=>hwt n ?_
   rw [hy0]
   simp only [DataW.weights,hsl]
   refine List.mem_cons_of_mem _ (List.mem_append_left _ (weights_mem_all (j:=i) ?_ n hn2))
   rw [List.getElem?_map,List.getElem?_range (by omega)]
   rfl
structure SgTypes (P:Program) where
 u64:TypeId
 bys:TypeId
 u8:TypeId
 sg:TypeId
 f0:Field
 f1:Field
 f2:Field
 hu64:P.underlying u64=some (.int .u64)
 hbys:P.underlying bys=some (.slice u8)
 hu8:P.underlying u8=some (.int .u8)
 hsg:P.underlying sg=some (.struct #[f0,f1,f2])
 cu64:P.cellsOf u64=1
 cbys:P.cellsOf bys=1
 cu8:P.cellsOf u8=1
 bu8:P.bytesOf u8=1
 csg:P.cellsOf sg=3
 o0:f0.type=u64∧f0.offset=0
 o1:f1.type=bys∧f1.offset=1
 o2:f2.type=bys∧f2.offset=2
theorem open_sa (T:SgTypes P) {fuel:Nat} {l:List Value} {x:DataW H × List MemPlace} (h:DataW.trod enc P w base spare held fuel T.sg l=some x):∃ y:SA,l=y.cells∧y.ok w:=by
 obtain ⟨xs,k,_,hx,hl,hlen,hf⟩:=DataW.trod_struct T.hsg h
 rw [T.csg] at hl
 obtain ⟨c0,c1,c2,rfl⟩:∃ c0 c1 c2,l=[c0,c1,c2]:=by
  match l,hl with
  | [c0,c1,c2],_=>exact ⟨_,_,_,rfl⟩
 obtain ⟨x0,x1,x2,rfl⟩:∃ x0 x1 x2,xs=[x0,x1,x2]:=by
  match xs,hlen with
  | [x0,x1,x2],_=>exact ⟨_,_,_,rfl⟩
 have e0:=hf 0 T.f0 rfl
 have e1:=hf 1 T.f1 rfl
 have e2:=hf 2 T.f2 rfl
 rw [T.o0.1,T.o0.2,T.cu64] at e0
 rw [T.o1.1,T.o1.2,T.cbys] at e1
 rw [T.o2.1,T.o2.2,T.cbys] at e2
 simp only [List.drop_succ_cons,List.drop_zero,List.take_succ_cons,List.take_zero,List.getElem?_cons_zero,List.getElem?_cons_succ] at e0 e1 e2
 obtain ⟨z0,q0,_,w0⟩:=DataW.trod_int T.hu64 e0
 obtain rfl:c0=.int .u64 z0:=by simpa using q0
 obtain ⟨b1,rfl,s1,_⟩:=Sl.of_ints T.hbys T.hu8 T.cu8 T.bu8 e1
 obtain ⟨b2,rfl,s2,_⟩:=Sl.of_ints T.hbys T.hu8 T.cu8 T.bu8 e2
 have g0:0≤z0∧z0 < 18446744073709551616:=by
  simp [Lit.wf,IntKind.min,IntKind.max,IntKind.signed,IntKind.bits] at w0
  omega
 refine ⟨⟨z0.toNat,b1,b2⟩,?_,⟨by show z0.toNat < _;omega,s1,s2⟩⟩
 unfold SA.cells
 simp only
 rw [Int.toNat_of_nonneg g0.1]
end Go.Proofs.YtnbejckdhdbamaaGreat
namespace Go.Proofs.YtnbejckdhdbamaaGreat
open Go.RowKit Go.ChangeShapes Go.WideShapes
structure BodTypes (P:Program) (T:OpTypes P) (C:CellTypes P T) (M:MoreTypes P T C) (S:SgTypes P) where
 bod:TypeId
 reqs:TypeId
 rep:TypeId
 sgs:TypeId
 sgss:TypeId
 f0:Field
 f1:Field
 f2:Field
 f3:Field
 f4:Field
 f5:Field
 f6:Field
 f7:Field
 r0:Field
 r1:Field
 r2:Field
 r3:Field
 hbod:P.underlying bod=some (.struct #[f0,f1,f2,f3,f4,f5,f6,f7])
 hreqs:P.underlying reqs=some (.slice M.req)
 hrep:P.underlying rep=some (.struct #[r0,r1,r2,r3])
 hsgs:P.underlying sgs=some (.slice S.sg)
 hsgss:P.underlying sgss=some (.slice sgs)
 cbod:P.cellsOf bod=13
 creqs:P.cellsOf reqs=1
 crep:P.cellsOf rep=6
 csgs:P.cellsOf sgs=1
 csgss:P.cellsOf sgss=1
 o0:f0.type=T.int∧f0.offset=0
 o1:f1.type=T.u64∧f1.offset=1
 o2:f2.type=T.u64∧f2.offset=2
 o3:f3.type=T.bys∧f3.offset=3
 o4:f4.type=reqs∧f4.offset=4
 o5:f5.type=rep∧f5.offset=5
 o6:f6.type=sgs∧f6.offset=11
 o7:f7.type=sgss∧f7.offset=12
 p0:r0.type=T.u64∧r0.offset=0
 p1:r1.type=T.u64∧r1.offset=1
 p2:r2.type=T.u64∧r2.offset=2
 p3:r3.type=M.res∧r3.offset=3
variable {H:Type} {enc:TypeId × Value→H} {P:Program} {w:World} {base:Nat} {spare:Nat→Bool} {held:Bool}
theorem open_sgs (S:SgTypes P) {sgs:TypeId} (hsgs:P.underlying sgs=some (.slice S.sg)) {fuel:Nat} {l:List Value} {x:DataW H × List MemPlace} (h:DataW.trod enc P w base spare held fuel sgs l=some x) :
  ∃ y:LS SA,l=elS.lists.c y∧elS.lists.ok y w∧(Wt P x.1 sgs→True):=by
 have hv:∃ v,l=[v]:=by
  rcases Deep.open_slice hsgs h with ⟨e,_⟩ | ⟨a,l',c,_,_,_,_,e,_⟩
  ·exact ⟨_,e⟩
  ·exact ⟨_,e⟩
 obtain ⟨v,rfl⟩:=hv
 obtain ⟨ao,n,cap,l,rfl,g,_⟩:=open_gl elS (fun _=>True) hsgs S.csg (fun h=>by obtain ⟨y,e,k⟩:=open_sa S h;exact ⟨y,e,k,fun _=>trivial⟩) h
 exact ⟨⟨ao,n,cap,l⟩,rfl,g,fun _=>trivial⟩
theorem u64_of {n:Int} (h:(Lit.int .u64 n).wf=true):0≤n∧n < 18446744073709551616:=by
 simp [Lit.wf,IntKind.min,IntKind.max,IntKind.signed,IntKind.bits] at h
 omega
theorem i64_of {n:Int} (h:(Lit.int .i64 n).wf=true):-9223372036854775808≤n∧n≤9223372036854775807:=by
 simp [Lit.wf,IntKind.min,IntKind.max,IntKind.signed,IntKind.bits] at h
 omega
set_option maxHeartbeats 2000000 in
theorem open_body (T:OpTypes P) (C:CellTypes P T) (M:MoreTypes P T C) (S:SgTypes P) (D:BodTypes P T C M S) {fuel:Nat} {l:List Value} {x:DataW H × List MemPlace} (hf:DataW.trod enc P w base spare held fuel D.bod l=some x) :
  ∃ (y:BM) (ql:List QE),l=y.cells∧(y.ok w∧y.q.l=ql.map QE.m∧∀ q∈ql,OW w 3 q.x)∧(Wt P x.1 D.bod→(∀ q∈ql,OSm 3 q.x)∧∀ c∈y.c.l,c.small):=by
 obtain ⟨xs,k,_,hx,hl,hlen,hfl⟩:=DataW.trod_struct D.hbod hf
 rw [D.cbod] at hl
 obtain ⟨c0,c1,c2,c3,c4,c5,c6,c7,c8,c9,c10,c11,c12,rfl⟩:∃ c0 c1 c2 c3 c4 c5 c6 c7 c8 c9 c10 c11 c12,l=[c0,c1,c2,c3,c4,c5,c6,c7,c8,c9,c10,c11,c12]:=by
  match l,hl with
  | [c0,c1,c2,c3,c4,c5,c6,c7,c8,c9,c10,c11,c12],_=>exact ⟨_,_,_,_,_,_,_,_,_,_,_,_,_,rfl⟩
 obtain ⟨x0,x1,x2,x3,x4,x5,x6,x7,rfl⟩:∃ x0 x1 x2 x3 x4 x5 x6 x7,xs=[x0,x1,x2,x3,x4,x5,x6,x7]:=by
  match xs,hlen with
  | [x0,x1,x2,x3,x4,x5,x6,x7],_=>exact ⟨_,_,_,_,_,_,_,_,rfl⟩
 have e0:=hfl 0 D.f0 rfl
 have e1:=hfl 1 D.f1 rfl
 have e2:=hfl 2 D.f2 rfl
 have e3:=hfl 3 D.f3 rfl
 have e4:=hfl 4 D.f4 rfl
 have e5:=hfl 5 D.f5 rfl
 have e6:=hfl 6 D.f6 rfl
 have e7:=hfl 7 D.f7 rfl
 rw [D.o0.1,D.o0.2,T.cint] at e0
 rw [D.o1.1,D.o1.2,T.cu64] at e1
 rw [D.o2.1,D.o2.2,T.cu64] at e2
 rw [D.o3.1,D.o3.2,T.cbys] at e3
 rw [D.o4.1,D.o4.2,D.creqs] at e4
 rw [D.o5.1,D.o5.2,D.crep] at e5
 rw [D.o6.1,D.o6.2,D.csgs] at e6
 rw [D.o7.1,D.o7.2,D.csgss] at e7
 simp only [List.drop_succ_cons,List.drop_zero,List.take_succ_cons,List.take_zero,List.getElem?_cons_zero,List.getElem?_cons_succ] at e0 e1 e2 e3 e4 e5 e6 e7
 obtain ⟨z0,q0,_,w0⟩:=DataW.trod_int T.hint e0
 obtain rfl:c0=.int .i64 z0:=by simpa using q0
 obtain ⟨z1,q1,_,w1⟩:=DataW.trod_int T.hu64 e1
 obtain rfl:c1=.int .u64 z1:=by simpa using q1
 obtain ⟨z2,q2,_,w2⟩:=DataW.trod_int T.hu64 e2
 obtain rfl:c2=.int .u64 z2:=by simpa using q2
 obtain ⟨b3,rfl,s3,_⟩:=Sl.of_ints T.hbys T.hu8 T.cu8 T.bu8 e3
 obtain ⟨ao,n,cap,ql,rfl,⟨gq,owq⟩,smq⟩:=open_reqs T C M D.hreqs e4
 obtain ⟨ys,k2,_,hx2,_,hlen2,hf2⟩:=DataW.trod_struct D.hrep e5
 obtain ⟨y0,y1,y2,y3,rfl⟩:∃ y0 y1 y2 y3,ys=[y0,y1,y2,y3]:=by
  match ys,hlen2 with
  | [y0,y1,y2,y3],_=>exact ⟨_,_,_,_,rfl⟩
 have d0:=hf2 0 D.r0 rfl
 have d1:=hf2 1 D.r1 rfl
 have d2:=hf2 2 D.r2 rfl
 have d3:=hf2 3 D.r3 rfl
 rw [D.p0.1,D.p0.2,T.cu64] at d0
 rw [D.p1.1,D.p1.2,T.cu64] at d1
 rw [D.p2.1,D.p2.2,T.cu64] at d2
 rw [D.p3.1,D.p3.2,M.cres] at d3
 simp only [List.drop_succ_cons,List.drop_zero,List.take_succ_cons,List.take_zero,List.getElem?_cons_zero,List.getElem?_cons_succ] at d0 d1 d2 d3
 obtain ⟨z5,q5,_,w5⟩:=DataW.trod_int T.hu64 d0
 obtain rfl:c5=.int .u64 z5:=by simpa using q5
 obtain ⟨z6,q6,_,w6⟩:=DataW.trod_int T.hu64 d1
 obtain rfl:c6=.int .u64 z6:=by simpa using q6
 obtain ⟨z7,q7,_,w7⟩:=DataW.trod_int T.hu64 d2
 obtain rfl:c7=.int .u64 z7:=by simpa using q7
 obtain ⟨us,k3,_,hx3,_,hlen3,hf3⟩:=DataW.trod_struct M.hres d3
 obtain ⟨u0,u1,u2,rfl⟩:∃ u0 u1 u2,us=[u0,u1,u2]:=by
  match us,hlen3 with
  | [u0,u1,u2],_=>exact ⟨_,_,_,rfl⟩
 have g0:=hf3 0 M.g0 rfl
 have g1:=hf3 1 M.g1 rfl
 have g2:=hf3 2 M.g2 rfl
 rw [M.p0.1,M.p0.2,M.cknd] at g0
 rw [M.p1.1,M.p1.2,M.ccels] at g1
 rw [M.p2.1,M.p2.2,T.cbool] at g2
 simp only [List.drop_succ_cons,List.drop_zero,List.take_succ_cons,List.take_zero,List.getElem?_cons_zero,List.getElem?_cons_succ] at g0 g1 g2
 obtain ⟨z8,q8,_,w8⟩:=DataW.trod_int M.hknd g0
 obtain rfl:c8=.int .i64 z8:=by simpa using q8
 obtain ⟨co,cn,cc,cl,rfl,gc,smc⟩:=open_cells T C g1
 obtain ⟨gn,q10,_⟩:=DataW.trod_bool T.hbool g2
 obtain rfl:c10=.bool gn:=by simpa using q10
 obtain ⟨s11,q11,k11,_⟩:=open_sgs S D.hsgs e6
 obtain rfl:c11=.slice s11.ao s11.n s11.cap:=by simpa [El.lists] using q11
 obtain ⟨ta,tn,tc,tl,rfl,k12,_⟩:=open_gl elS.lists (fun _=>True) D.hsgss D.csgs (fun h=>open_sgs S D.hsgs h) e7
 have v1:=u64_of w1
 have v2:=u64_of w2
 have v5:=u64_of w5
 have v6:=u64_of w6
 have v7:=u64_of w7
 refine ⟨⟨z0,z1.toNat,z2.toNat,b3,⟨ao,n,cap,ql.map QE.m⟩,z5.toNat,z6.toNat,z7.toNat,z8,⟨co,cn,cc,cl⟩,gn,s11,⟨ta,tn,tc,tl⟩⟩,ql,?_,⟨⟨i64_of w0,by show z1.toNat < _;omega,by show z2.toNat < _;omega,s3,gq,by show z5.toNat < _;omega,by show z6.toNat < _;omega,by show z7.toNat < _;omega,i64_of w8,gc,k11,k12⟩,rfl,owq⟩,fun hwt=>?_⟩
 ·unfold BM.cells
  simp only
  rw [Int.toNat_of_nonneg v1.1,Int.toNat_of_nonneg v2.1,Int.toNat_of_nonneg v5.1,Int.toNat_of_nonneg v6.1,Int.toNat_of_nonneg v7.1]
 ·rw [hx] at hwt
  have h4:=hwt.field D.hbod 4 (u:=D.reqs) (by simp [D.o4.1]) rfl
  have h5:=hwt.field D.hbod 5 (u:=D.rep) (by simp [D.o5.1]) rfl
  rw [hx2] at h5
  have h6:=h5.field D.hrep 3 (u:=M.res) (by simp [D.p3.1]) rfl
  rw [hx3] at h6
  exact ⟨smq h4,smc (h6.field M.hres 1 (u:=C.cels) (by simp [M.p1.1]) rfl)⟩
theorem open_bodyV (T:OpTypes P) (C:CellTypes P T) (M:MoreTypes P T C) (S:SgTypes P) (D:BodTypes P T C M S) {r:Reach} {b0:Nat} {v:Value} {x:DataW H} {p:List MemPlace} (hv:Value.okWide P w r b0 D.bod v) (h:DataW.Trod enc P w base spare held D.bod v x p) :
  ∃ (y:BM) (ql:List QE),v=y.val∧y.ok w∧y.q.l=ql.map QE.m∧(∀ q∈ql,OW w 3 q.x)∧(Wt P x D.bod→(∀ q∈ql,OSm 3 q.x)∧∀ c∈y.c.l,c.small):=by
 obtain ⟨cs,rfl,hsz⟩:=okWide_struct D.hbod hv
 obtain ⟨fuel,hf⟩:=h
 obtain ⟨y,ql,e,⟨k1,k2,k3⟩,sm⟩:=open_body T C M S D hf
 refine ⟨y,ql,?_,k1,k2,k3,sm⟩
 have e2:cs.toList=y.cells:=e
 show Value.agg cs=Value.agg _
 congr 1
 exact Array.toList_inj.1 e2
end Go.Proofs.YtnbejckdhdbamaaGreat
namespace Go.Proofs.YtnbejckdhdbamaaGreat
open Go.RowKit
def sgT13:SgTypes Tryz.prog where
 u64:=22
 bys:=23
 u8:=5
 sg:=62
 f0 := { name := "From", type := 22, offset := 0, embedded := false, tag := "", pkgPath := "", byteOffset := 0 }
 f1 := { name := "B", type := 23, offset := 1, embedded := false, tag := "", pkgPath := "", byteOffset := 8 }
 f2 := { name := "Tag", type := 23, offset := 2, embedded := false, tag := "", pkgPath := "", byteOffset := 32 }
 hu64:=Tryz.underlying22
 hbys:=Tryz.underlying23
 hu8:=Tryz.underlying5
 hsg:=Tryz.underlying62
 cu64:=by kernel_rfl
 cbys:=by kernel_rfl
 cu8:=by kernel_rfl
 bu8:=by kernel_rfl
 csg:=by kernel_rfl
 o0:=⟨rfl,rfl⟩
 o1:=⟨rfl,rfl⟩
 o2:=⟨rfl,rfl⟩
def bodT:BodTypes Tryz.prog opT cellT moreT sgT13 where
 bod:=34
 reqs:=24
 rep:=30
 sgs:=31
 sgss:=32
 f0 := { name := "Kind", type := 3, offset := 0, embedded := false, tag := "", pkgPath := "", byteOffset := 0 }
 f1 := { name := "View", type := 22, offset := 1, embedded := false, tag := "", pkgPath := "", byteOffset := 8 }
 f2 := { name := "Seq", type := 22, offset := 2, embedded := false, tag := "", pkgPath := "", byteOffset := 16 }
 f3 := { name := "Sum", type := 23, offset := 3, embedded := false, tag := "", pkgPath := "", byteOffset := 24 }
 f4 := { name := "Reqs", type := 24, offset := 4, embedded := false, tag := "", pkgPath := "", byteOffset := 48 }
 f5 := { name := "Reply", type := 30, offset := 5, embedded := false, tag := "", pkgPath := "", byteOffset := 72 }
 f6 := { name := "Cert", type := 31, offset := 11, embedded := false, tag := "", pkgPath := "", byteOffset := 136 }
 f7 := { name := "Sets", type := 32, offset := 12, embedded := false, tag := "", pkgPath := "", byteOffset := 160 }
 r0 := { name := "Client", type := 22, offset := 0, embedded := false, tag := "", pkgPath := "", byteOffset := 0 }
 r1 := { name := "Stamp", type := 22, offset := 1, embedded := false, tag := "", pkgPath := "", byteOffset := 8 }
 r2 := { name := "View", type := 22, offset := 2, embedded := false, tag := "", pkgPath := "", byteOffset := 16 }
 r3 := { name := "R", type := 28, offset := 3, embedded := false, tag := "", pkgPath := "", byteOffset := 24 }
 hbod:=Tryz.underlying34
 hreqs:=Tryz.underlying24
 hrep:=Tryz.underlying30
 hsgs:=Tryz.underlying31
 hsgss:=Tryz.underlying32
 cbod:=by kernel_rfl
 creqs:=by kernel_rfl
 crep:=by kernel_rfl
 csgs:=by kernel_rfl
 csgss:=by kernel_rfl
 o0:=⟨rfl,rfl⟩
 o1:=⟨rfl,rfl⟩
 o2:=⟨rfl,rfl⟩
 o3:=⟨rfl,rfl⟩
 o4:=⟨rfl,rfl⟩
 o5:=⟨rfl,rfl⟩
 o6:=⟨rfl,rfl⟩
 o7:=⟨rfl,rfl⟩
 p0:=⟨rfl,rfl⟩
 p1:=⟨rfl,rfl⟩
 p2:=⟨rfl,rfl⟩
 p3:=⟨rfl,rfl⟩
end Go.Proofs.YtnbejckdhdbamaaGreat

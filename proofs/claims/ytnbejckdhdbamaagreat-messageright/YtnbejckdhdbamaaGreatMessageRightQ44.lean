/-
  Texts in one: MgRead.
-/
import Derived.Test.YtnbejckdhdbamaaGreatMessageRightQFL
import Derived.Test.YtnbejckdhdbamaaGreatMessageRightQ43
namespace Go.Proofs.YtnbejckdhdbamaaGreat
open Go.RowKit
def RdPost (w:World) (xs:List Int) (e:Ending) (w':World):Prop :=
 ∃ x:BM,x.ok w'∧(∀ q∈x.q.l,∀ y∈q.l,y.sn=0)∧x.v=(bT xs 0).1∧e=.returned (if doneS (bT xs 0).2.1 (bT xs 0).2.2=0∧rightM x=true then .tuple #[x.val,.int .i64 0] else .tuple #[.agg #[.int .i64 0,.int .u64 0,.int .u64 0,.slice none 0 0,.slice none 0 0,.int .u64 0,.int .u64 0,.int .u64 0,.int .i64 0,.slice none 0 0,.bool false,.slice none 0 0,.slice none 0 0],.int .i64 3])∧Below w.heap.size w w'
set_option maxRecDepth 100000 in
set_option maxHeartbeats 32000000 in
theorem read_msg (w:World) (ao:Option Addr) (n cap:Nat) (xs:List Int) (h:Sl w ao n cap xs) (hn:n≤1000000):Calls Tryz.prog 12 #[.slice ao n cap] w (RdPost w xs):=by
 have BW:Below w.heap.size w (w.alloc (.cells #[.int .i64 0,.int .u64 0,.int .u64 0,.slice none 0 0,.slice none 0 0,.int .u64 0,.int .u64 0,.int .u64 0,.int .i64 0,.slice none 0 0,.bool false,.slice none 0 0,.slice none 0 0] 41)):=(Below.refl _ w).alloc (Nat.le_refl _) _
 have KY:(w.alloc (.cells #[.int .i64 0,.int .u64 0,.int .u64 0,.slice none 0 0,.slice none 0 0,.int .u64 0,.int .u64 0,.int .u64 0,.int .i64 0,.slice none 0 0,.bool false,.slice none 0 0,.slice none 0 0] 41)).heap[w.heap.size]?=some (.cells #[.int .i64 0,.int .u64 0,.int .u64 0,.slice none 0 0,.slice none 0 0,.int .u64 0,.int .u64 0,.int .u64 0,.int .i64 0,.slice none 0 0,.bool false,.slice none 0 0,.slice none 0 0] 41):=heap_alloc_new w _
 have S1:=h.below BW
 clear h
 go_enter Tryz.func12,Tryz.ntmps12
 go_wp2_with fail
 obtain ⟨w1,hw1⟩:∃ W,W=(w.alloc (.cells #[.int .i64 0,.int .u64 0,.int .u64 0,.slice none 0 0,.slice none 0 0,.int .u64 0,.int .u64 0,.int .u64 0,.int .i64 0,.slice none 0 0,.bool false,.slice none 0 0,.slice none 0 0] 41)):=⟨_,rfl⟩
 obtain ⟨Y,hY⟩:∃ N,N=w.heap.size:=⟨_,rfl⟩
 rw [←hw1] at BW KY S1 ⊢
 rw [←hY] at BW KY ⊢
 have HY0:Hid (Y=w.heap.size):=hY
 clear hw1 hY
 have hY1:Y < w1.heap.size:=(Array.getElem?_eq_some_iff.1 KY).1
 refine (read_any w1 ao n cap xs S1 hn).mono ?_
 rintro e_ w2 ⟨p,rfl,hpw,w2R,C2⟩
 have KY:=(C2.block Y hY1).trans KY
 have hYp:Y < p:=by omega
 have BW:=BW.trans (C2.mono (by omega))
 have hY2:Y < w2.heap.size:=Nat.lt_of_lt_of_le hY1 C2.size
 have hp2:p < w2.heap.size:=w2R.plt.1
 clear S1 C2 hpw hY1
 have CS:=int_any w2 p p xs 0 14 (by omega) w2R.byte w2R
 go_wp2_with fail
 refine CS.mono ?_
 rintro e_ w3 ⟨rfl,w3R,G_⟩
 obtain ⟨r0,hr0⟩:∃ r,r=intS xs 0 14:=⟨_,rfl⟩
 have h14:r0.1≤14:=by rw [hr0];exact intS_le xs 0 14
 rw [←hr0] at w3R ⊢
 have E0_:Hid (r0=intS xs 0 14):=hr0
 have KY:=(G_.block Y hY2 (by simp;omega)).trans KY
 have hY3:Y < w3.heap.size:=Nat.lt_of_lt_of_le hY2 G_.size
 have BW:=BW.trans (below_grown G_ (by omega) (by omega))
 have hp3:p < w3.heap.size:=Nat.lt_of_lt_of_le hp2 G_.size
 clear CS hr0 w2R G_
 have CS:=uint_any w3 p p r0.2.1 r0.2.2 w3R
 go_wp2_with fail
 refine CS.mono ?_
 rintro e_ w4 ⟨rfl,w4R,G_⟩
 obtain ⟨r1,hr1⟩:∃ r,r=uintS r0.2.1 r0.2.2:=⟨_,rfl⟩
 have l1:r1.1 < 18446744073709551616:=by rw [hr1];exact uintS_lt w3R.byte
 rw [←hr1] at w4R ⊢
 have E1_:Hid (r1=uintS r0.2.1 r0.2.2):=hr1
 have KY:=(G_.block Y hY3 (by simp;omega)).trans KY
 have hY4:Y < w4.heap.size:=Nat.lt_of_lt_of_le hY3 G_.size
 have BW:=BW.trans (below_grown G_ (by omega) (by omega))
 have hp4:p < w4.heap.size:=Nat.lt_of_lt_of_le hp3 G_.size
 clear CS hr1 w3R G_
 have CS:=uint_any w4 p p r1.2.1 r1.2.2 w4R
 go_wp2_with fail
 refine CS.mono ?_
 rintro e_ w5 ⟨rfl,w5R,G_⟩
 obtain ⟨r2,hr2⟩:∃ r,r=uintS r1.2.1 r1.2.2:=⟨_,rfl⟩
 have l2:r2.1 < 18446744073709551616:=by rw [hr2];exact uintS_lt w4R.byte
 rw [←hr2] at w5R ⊢
 have E2_:Hid (r2=uintS r1.2.1 r1.2.2):=hr2
 have KY:=(G_.block Y hY4 (by simp;omega)).trans KY
 have hY5:Y < w5.heap.size:=Nat.lt_of_lt_of_le hY4 G_.size
 have BW:=BW.trans (below_grown G_ (by omega) (by omega))
 have hp5:p < w5.heap.size:=Nat.lt_of_lt_of_le hp4 G_.size
 clear CS hr2 w4R G_
 have CS:=bytes_any w5 p p r2.2.1 r2.2.2 32 (by omega) w5R
 go_wp2_with fail
 refine CS.mono ?_
 rintro e_ w6 ⟨so,sn,sc,rfl,S6,F6,w6R,G_⟩
 obtain ⟨r3,hr3⟩:∃ r,r=bytesS r2.2.1 r2.2.2 32:=⟨_,rfl⟩
 rw [←hr3] at S6 w6R
 have E3_:Hid (r3=bytesS r2.2.1 r2.2.2 32):=hr3
 have KY:=(G_.block Y hY5 (by simp;omega)).trans KY
 have hY6:Y < w6.heap.size:=Nat.lt_of_lt_of_le hY5 G_.size
 have BW:=BW.trans (below_grown G_ (by omega) (by omega))
 have hp6:p < w6.heap.size:=Nat.lt_of_lt_of_le hp5 G_.size
 clear CS hr3 w5R G_
 have C7:Below w6.heap.size w6 (w6.alloc (.cells #[.int .i64 r0.1,.int .u64 r1.1,.int .u64 r2.1,.slice so sn sc,.slice none 0 0,.int .u64 0,.int .u64 0,.int .u64 0,.int .i64 0,.slice none 0 0,.bool false,.slice none 0 0,.slice none 0 0] 41)):=(Below.refl _ _).alloc (Nat.le_refl _) _
 have KX:(w6.alloc (.cells #[.int .i64 r0.1,.int .u64 r1.1,.int .u64 r2.1,.slice so sn sc,.slice none 0 0,.int .u64 0,.int .u64 0,.int .u64 0,.int .i64 0,.slice none 0 0,.bool false,.slice none 0 0,.slice none 0 0] 41)).heap[w6.heap.size]?=some (.cells #[.int .i64 r0.1,.int .u64 r1.1,.int .u64 r2.1,.slice so sn sc,.slice none 0 0,.int .u64 0,.int .u64 0,.int .u64 0,.int .i64 0,.slice none 0 0,.bool false,.slice none 0 0,.slice none 0 0] 41):=heap_alloc_new _ _
 have S7:=S6.below C7
 have w7R:=w6R.below C7
 have KY:=(C7.block Y hY6).trans KY
 have BW:=BW.trans (C7.mono (by omega))
 have HSF:Hid (∀ z,Bs.blk ⟨so,sn,sc,r3.1⟩ z→p < z∧z < w6.heap.size):=fun z hz=>by
  have h2:=S6.blk_lt (b:=⟨so,sn,sc,r3.1⟩) hz
  obtain ⟨a,ha,_,rfl⟩:=hz
  have:=F6 a ha
  exact ⟨by omega,h2⟩
 have CI:=int_any (w6.alloc (.cells #[.int .i64 r0.1,.int .u64 r1.1,.int .u64 r2.1,.slice so sn sc,.slice none 0 0,.int .u64 0,.int .u64 0,.int .u64 0,.int .i64 0,.slice none 0 0,.bool false,.slice none 0 0,.slice none 0 0] 41)) p p r3.2.1 r3.2.2 1 (by omega) w7R.byte w7R
 go_wp2_with fail
 obtain ⟨w7,hw7⟩:∃ W,W=(w6.alloc (.cells #[.int .i64 r0.1,.int .u64 r1.1,.int .u64 r2.1,.slice so sn sc,.slice none 0 0,.int .u64 0,.int .u64 0,.int .u64 0,.int .i64 0,.slice none 0 0,.bool false,.slice none 0 0,.slice none 0 0] 41)):=⟨_,rfl⟩
 obtain ⟨X,hX⟩:∃ N,N=w6.heap.size:=⟨_,rfl⟩
 rw [←hw7] at KX S7 w7R KY BW CI ⊢
 rw [←hX] at KX HSF ⊢
 have hpX:p < X:=by omega
 have hX7:X < w7.heap.size:=(Array.getElem?_eq_some_iff.1 KX).1
 clear hw7 hX C7 S6 F6 w6R hY6 hp6 hY5 hp5 hY4 hp4 hY3 hp3 hY2 hp2
 refine CI.mono ?_
 rintro e_ w8 ⟨rfl,w8R,G_⟩
 obtain ⟨r4,hr4⟩:∃ r,r=intS r3.2.1 r3.2.2 1:=⟨_,rfl⟩
 have h41:r4.1≤1:=by rw [hr4];exact intS_le r3.2.1 r3.2.2 1
 rw [←hr4] at w8R ⊢
 have E4_:Hid (r4=intS r3.2.1 r3.2.2 1):=hr4
 have KX:=(G_.block X hX7 (by simp;omega)).trans KX
 have KY:=(G_.block Y (by omega) (by simp;omega)).trans KY
 have BW:=BW.trans (below_grown G_ (by omega) (by omega))
 have S8:Sl w8 so sn sc r3.1:=S7.keepNe (fun a ha h0 e=>by have:=(HSF.out a.block ⟨a,ha,h0,rfl⟩).1;omega) G_
 have hX8:X < w8.heap.size:=Nat.lt_of_lt_of_le hX7 G_.size
 clear CI hr4 G_ w7R S7 hX7
 obtain ⟨D,hD⟩:∃ D,D=w8.heap.size:=⟨_,rfl⟩
 have hDw:D≤w8.heap.size:=by omega
 have hXD:X < D:=by omega
 have hpD:p < D:=by omega
 have h4i:(r4.1:Int)≤1:=by omega
 clear hD
 go_wp2_with fail
 go_loopw [19] (fun i wr=>∃ (j:Nat) (ao1:Option Addr) (n1 c1:Nat) (ys:List QM),j≤r4.1∧i=.int .i64 j∧wr.heap[X]?=some (.cells #[.int .i64 r0.1,.int .u64 r1.1,.int .u64 r2.1,.slice so sn sc,.slice ao1 n1 c1,.int .u64 0,.int .u64 0,.int .u64 0,.int .i64 0,.slice none 0 0,.bool false,.slice none 0 0,.slice none 0 0] 41)∧GI elQ 60 wr D (.slice ao1 n1 c1) ys∧ys.length=j∧Hid (ys.map QM.v=(repT (nestT zQV rdQ) j r4.2.1 r4.2.2).1)∧Hid (∀ q∈ys,∀ y∈q.l,y.sn=0)∧R wr p p (repT (nestT zQV rdQ) j r4.2.1 r4.2.2).2.1 (repT (nestT zQV rdQ) j r4.2.1 r4.2.2).2.2∧Ag D p X w8 wr∧Hid (∀ y∈ys,∀ z,elQ.blk y z→D≤z)) (fun i _=>r4.1 - (intOf i).toNat)
 case atStart=>exact ⟨0,none,0,0,[],Nat.zero_le _,rfl,KX,GI.nil _ _ _ _,rfl,rfl,fun _ h=>absurd h List.not_mem_nil,w8R,Ag.refl _ _ _ _,fun _ h=>absurd h List.not_mem_nil⟩
 case round =>
  clear KX w8R
  obtain ⟨j,ao1,n1,c1,ys,hj,rfl,KX,GR,hyl,HY,HNN,RR,AG,HL⟩:=hrel
  have hXr:X < wr.heap.size:=Nat.lt_of_lt_of_le hX8 AG.size
  have hDr:D≤wr.heap.size:=Nat.le_trans hDw AG.size
  by_cases hlt:j < r4.1
  ·have hji:(j:Int) < (r4.1:Int):=by omega
   have hDv:D≤wr.drew.heap.size:=hDr
   have HS:Hid (repT (nestT zQV rdQ) (j + 1) r4.2.1 r4.2.2=((repT (nestT zQV rdQ) j r4.2.1 r4.2.2).1++[(nestT zQV rdQ (repT (nestT zQV rdQ) j r4.2.1 r4.2.2).2.1 (repT (nestT zQV rdQ) j r4.2.1 r4.2.2).2.2).1],(nestT zQV rdQ (repT (nestT zQV rdQ) j r4.2.1 r4.2.2).2.1 (repT (nestT zQV rdQ) j r4.2.1 r4.2.2).2.2).2)):=repT_snoc (nestT zQV rdQ) j r4.2.1 r4.2.2
   generalize repT (nestT zQV rdQ) j r4.2.1 r4.2.2=s at HY RR HS
   obtain ⟨sl,sx,sk⟩:=s
   simp only at HY RR HS
   clear KY BW S8
   go_wp2_with fail
   have E0:Below wr.heap.size wr wr.drew:=(Below.refl _ _).drew
   refine wp_region_noPanic ?_
   refine wp_region_held_drew (S:=fun _=>True) (by kernel_rfl) trivial (fun _=>?_)
   obtain ⟨v0,hv0⟩:∃ v,v=wr.drew:=⟨_,rfl⟩
   rw [←hv0] at E0 hDv ⊢
   clear hv0
   refine zT 0 (some 21) (.pointer (some ⟨X,4,none⟩)) rfl rfl (by kernel_rfl) rfl (fun W hW=>by go_simp) trivial ?_
   simp only [FL]
   refine zT 2 (some 23) (.pointer (some ⟨p,0,none⟩)) rfl rfl (by kernel_rfl) rfl (fun W hW=>by go_simp) trivial ?_
   simp only [FL]
   have K0:=(E0.block X hXr).trans KX
   have R0:=RR.below E0
   have GR0:=GR.below elQ_fine E0
   have A0:=AG.below E0 (by omega)
   have hX0:X < v0.heap.size:=Nat.lt_of_lt_of_le hXr E0.size
   have CT:=takeRequest_any v0 p sx sk R0
   refine hr_two (i:=1) (j:=3) (by kernel_rfl) ?_ ?_
   ·refine op_ex 1 (some 22) rfl rfl rfl (R:=fun v w'=>.slice ao1 n1 c1=v∧v0=w') ⟨_,v0,by have lc:=cell_of_row v0 X 4 _ _ _ K0;go_simp,rfl,rfl⟩ ?_
    rintro v w' ⟨rfl,rfl⟩
    refine ⟨trivial,?_⟩
    simp only [FL]
    refine hr_call_w 3 (some 24) 40 #[.pointer (some ⟨p,0,none⟩)] rfl rfl (by kernel_rfl) rfl (by go_simp) (fun v w'=>∃ q:QM,v=.agg #[.int .u64 q.cl,.int .u64 q.st,.int .i64 q.o.kind,.string q.o.row,.string q.o.fam,.string q.o.qual,.int .u64 q.o.time,.string q.o.to,.slice q.o.va.ao q.o.va.n q.o.va.cap,.slice q.o.wa.ao q.o.wa.n q.o.wa.cap,.bool q.o.has,.slice q.o.so q.o.sn q.o.sc]∧q.ok w'∧q.v=(nestT zQV rdQ sx sk).1∧(∀ y∈q.l,y.sn=0)∧R w' p p (nestT zQV rdQ sx sk).2.1 (nestT zQV rdQ sx sk).2.2∧v0.grownBy w' (some p)∧∀ z,q.blk z→v0.heap.size≤z) (CT.mono (by
     rintro e_ w' ⟨q,rfl,Y1,YV,YN,R1,G1,YF⟩
     exact ⟨_,rfl,q,rfl,Y1,YV,YN,R1,G1,YF⟩)) ?_
    rintro v v1 ⟨q,rfl,Y1,YV,YN,R1,G1,YF⟩
    have K1:=(G1.block X hX0 (by simp;omega)).trans K0
    have GR1:=GR0.rdr elQ_fine HL.out hpD G1
    have A1:=A0.gr G1 (by have:=E0.size;omega)
    have hX1:X < v1.heap.size:=Nat.lt_of_lt_of_le hX0 G1.size
    refine ⟨trivial,?_⟩
    simp only [FL]
    have HV2:Hid ((ys++[q]).map QM.v=(repT (nestT zQV rdQ) (j + 1) r4.2.1 r4.2.2).1):=by
     show _=_
     rw [HS.out,List.map_append,HY.out,List.map_cons,List.map_nil,YV]
    have HS2:Hid ((repT (nestT zQV rdQ) (j + 1) r4.2.1 r4.2.2).2=(nestT zQV rdQ sx sk).2):=by
     show _=_
     rw [HS.out]
    have HL2:Hid (∀ y∈ys++[q],∀ z,elQ.blk y z→D≤z):=fun y hy z hz=>by
     rcases List.mem_append.1 hy with hy | hy
     ·exact HL.out y hy z hz
     ·rw [List.mem_singleton.1 hy] at hz
      exact Nat.le_trans hDv (YF z hz)
    have HN2:Hid (∀ u∈ys++[q],∀ y∈u.l,y.sn=0):=fun u hu=>by
     rcases List.mem_append.1 hu with hu | hu
     ·exact HNN.out u hu
     ·rw [List.mem_singleton.1 hu]
      exact YN
    clear YV YN
    refine hr_ex 4 (some 25) rfl rfl (by kernel_rfl) rfl (R:=fun v w'=>∃ g,v=.slice (some ⟨g,0,none⟩) 1 1∧w'.heap[g]?=some (.cells #[.int .u64 q.cl,.int .u64 q.st,.int .i64 q.o.kind,.string q.o.row,.string q.o.fam,.string q.o.qual,.int .u64 q.o.time,.string q.o.to,.slice q.o.va.ao q.o.va.n q.o.va.cap,.slice q.o.wa.ao q.o.wa.n q.o.wa.cap,.bool q.o.has,.slice q.o.so q.o.sn q.o.sc] 60)∧Below v1.heap.size v1 w') ⟨_,_,by go_simp,_,rfl,heap_alloc_new _ _,(Below.refl _ _).alloc (Nat.le_refl _) _⟩ ?_
    rintro v v2 ⟨g,rfl,G,C2⟩
    have K2:=(C2.block X hX1).trans K1
    have GR2:=GR1.below elQ_fine C2
    have A2:=A1.below C2 (by have:=hX1;have:=A1.size;omega)
    have R2:=R1.below C2
    have Y2:elQ.ok q v2:=elQ_fine.below Y1 C2
    refine ⟨trivial,?_⟩
    simp only [FL]
    have hD2:D≤v2.heap.size:=Nat.le_trans hDw (A2.size)
    obtain ⟨v',W1,ha,GR3,B3,g3,ao2,n2,c2,rfl⟩:=GR2.app elQ_fine tyQ 24 (a:=⟨g,0,none⟩) (cp:=1) (y:=q) (fun j u hu=>by
     rw [Addr.add_lit,Nat.zero_add,cell_of_row _ _ j _ _ _ G]
     simpa [elQ,QM.cells] using hu) Y2 (fun z hz e=>by
     have h1:=YF z hz
     have h2:=(GR0.own.lt z e).2
     omega) (by omega) (by unfold maxLen;omega) hD2
    refine hr_ex 5 (some 26) rfl rfl (by kernel_rfl) rfl (R:=fun v w'=>(.slice ao2 n2 c2)=v∧W1=w') ⟨_,W1,by simp [execOp,Act.eval,resolve,invoke,builtin,ha],rfl,rfl⟩ ?_
    rintro v w' ⟨rfl,rfl⟩
    refine ⟨trivial,?_⟩
    simp only [FL]
    have K3:=(B3.block X hXD).trans K2
    have m0:=cell_of_row W1 X 4 _ _ _ K3
    have f0:W1.frozen? ⟨X,4,none⟩=false:=frozen_of_row W1 X 4 _ _ K3
    refine zT 6 (some 27) (.pointer (some ⟨X,4,none⟩)) rfl rfl (by kernel_rfl) rfl (fun W hW=>by go_simp) trivial ?_
    simp only [FL]
    refine hr_skip 7 none (w':=W1.setCell ⟨X,4,none⟩ (.slice ao2 n2 c2)) rfl rfl (by kernel_rfl) rfl (by go_simp) trivial ?_
    simp only [Act.put]
    refine wpAnyH_done (by kernel_rfl) ?_ _
    refine NoPanic.normal ?_
    have SB:=same_set W1 X 4 (.slice ao2 n2 c2)
    have K4:(W1.setCell ⟨X,4,none⟩ (.slice ao2 n2 c2)).heap[X]?=some (.cells #[.int .i64 r0.1,.int .u64 r1.1,.int .u64 r2.1,.slice so sn sc,.slice ao2 n2 c2,.int .u64 0,.int .u64 0,.int .u64 0,.int .i64 0,.slice none 0 0,.bool false,.slice none 0 0,.slice none 0 0] 41):=heap_setCell_same _ _ 4 _ _ _ K3
    have GR4:GI elQ 60 (W1.setCell ⟨X,4,none⟩ (.slice ao2 n2 c2)) D (.slice ao2 n2 c2) (ys++[q]):=GR3.kept elQ_fine fun z hz=>SB.2 z (by
     rcases hz with hz | ⟨y,hy,hz⟩
     ·have:=(GR3.own.lt z hz).1
      omega
     ·have:=HL2.out y hy z hz
      omega)
    have B4:Below X W1 (W1.setCell ⟨X,4,none⟩ (.slice ao2 n2 c2)):=(Below.refl _ _).setCell (p:=⟨X,4,none⟩) (Nat.le_refl _) _
    have R4:=(R2.lowM B3 hpD).lowM B4 hpX
    have A4:=(A2.below3 B3).set SB B4
    clear SB B4 K3 m0 f0 GR3 B3 g3 ha G
    obtain ⟨wz,hwz⟩:∃ W,W=W1.setCell ⟨X,4,none⟩ (.slice ao2 n2 c2):=⟨_,rfl⟩
    rw [←hwz] at K4 GR4 R4 A4 ⊢
    clear hwz
    go_wp2
    go_roundw
    case rel=>exact ⟨j + 1,ao2,n2,c2,ys++[q],by omega,by go_num,K4,GR4,by simp [hyl],HV2.out,HN2,by rw [HS2.out];exact R4,A4,HL2⟩
    case measure=>simp [intOf];omega
   ·refine op_calls 3 (some 24) 40 #[.pointer (some ⟨p,0,none⟩)] rfl rfl rfl (by go_simp) (fun v w'=>∃ q:QM,v=.agg #[.int .u64 q.cl,.int .u64 q.st,.int .i64 q.o.kind,.string q.o.row,.string q.o.fam,.string q.o.qual,.int .u64 q.o.time,.string q.o.to,.slice q.o.va.ao q.o.va.n q.o.va.cap,.slice q.o.wa.ao q.o.wa.n q.o.wa.cap,.bool q.o.has,.slice q.o.so q.o.sn q.o.sc]∧q.ok w'∧q.v=(nestT zQV rdQ sx sk).1∧(∀ y∈q.l,y.sn=0)∧R w' p p (nestT zQV rdQ sx sk).2.1 (nestT zQV rdQ sx sk).2.2∧v0.grownBy w' (some p)∧∀ z,q.blk z→v0.heap.size≤z) (CT.mono (by
     rintro e_ w' ⟨q,rfl,Y1,YV,YN,R1,G1,YF⟩
     exact ⟨_,rfl,q,rfl,Y1,YV,YN,R1,G1,YF⟩)) ?_
    rintro v v1 ⟨q,rfl,Y1,YV,YN,R1,G1,YF⟩
    have K1:=(G1.block X hX0 (by simp;omega)).trans K0
    have GR1:=GR0.rdr elQ_fine HL.out hpD G1
    have A1:=A0.gr G1 (by have:=E0.size;omega)
    have hX1:X < v1.heap.size:=Nat.lt_of_lt_of_le hX0 G1.size
    refine ⟨trivial,?_⟩
    simp only [FL]
    have HV2:Hid ((ys++[q]).map QM.v=(repT (nestT zQV rdQ) (j + 1) r4.2.1 r4.2.2).1):=by
     show _=_
     rw [HS.out,List.map_append,HY.out,List.map_cons,List.map_nil,YV]
    have HS2:Hid ((repT (nestT zQV rdQ) (j + 1) r4.2.1 r4.2.2).2=(nestT zQV rdQ sx sk).2):=by
     show _=_
     rw [HS.out]
    have HL2:Hid (∀ y∈ys++[q],∀ z,elQ.blk y z→D≤z):=fun y hy z hz=>by
     rcases List.mem_append.1 hy with hy | hy
     ·exact HL.out y hy z hz
     ·rw [List.mem_singleton.1 hy] at hz
      exact Nat.le_trans hDv (YF z hz)
    have HN2:Hid (∀ u∈ys++[q],∀ y∈u.l,y.sn=0):=fun u hu=>by
     rcases List.mem_append.1 hu with hu | hu
     ·exact HNN.out u hu
     ·rw [List.mem_singleton.1 hu]
      exact YN
    clear YV YN
    refine hr_two (i:=1) (j:=4) (by kernel_rfl) ?_ ?_
    ·refine op_ex 1 (some 22) rfl rfl rfl (R:=fun v w'=>.slice ao1 n1 c1=v∧v1=w') ⟨_,v1,by have lc:=cell_of_row v1 X 4 _ _ _ K1;go_simp,rfl,rfl⟩ ?_
     rintro v w' ⟨rfl,rfl⟩
     refine ⟨trivial,?_⟩
     simp only [FL]
     refine hr_ex 4 (some 25) rfl rfl (by kernel_rfl) rfl (R:=fun v w'=>∃ g,v=.slice (some ⟨g,0,none⟩) 1 1∧w'.heap[g]?=some (.cells #[.int .u64 q.cl,.int .u64 q.st,.int .i64 q.o.kind,.string q.o.row,.string q.o.fam,.string q.o.qual,.int .u64 q.o.time,.string q.o.to,.slice q.o.va.ao q.o.va.n q.o.va.cap,.slice q.o.wa.ao q.o.wa.n q.o.wa.cap,.bool q.o.has,.slice q.o.so q.o.sn q.o.sc] 60)∧Below v1.heap.size v1 w') ⟨_,_,by go_simp,_,rfl,heap_alloc_new _ _,(Below.refl _ _).alloc (Nat.le_refl _) _⟩ ?_
     rintro v v2 ⟨g,rfl,G,C2⟩
     have K2:=(C2.block X hX1).trans K1
     have GR2:=GR1.below elQ_fine C2
     have A2:=A1.below C2 (by have:=hX1;have:=A1.size;omega)
     have R2:=R1.below C2
     have Y2:elQ.ok q v2:=elQ_fine.below Y1 C2
     refine ⟨trivial,?_⟩
     simp only [FL]
     have hD2:D≤v2.heap.size:=Nat.le_trans hDw (A2.size)
     obtain ⟨v',W1,ha,GR3,B3,g3,ao2,n2,c2,rfl⟩:=GR2.app elQ_fine tyQ 24 (a:=⟨g,0,none⟩) (cp:=1) (y:=q) (fun j u hu=>by
      rw [Addr.add_lit,Nat.zero_add,cell_of_row _ _ j _ _ _ G]
      simpa [elQ,QM.cells] using hu) Y2 (fun z hz e=>by
      have h1:=YF z hz
      have h2:=(GR0.own.lt z e).2
      omega) (by omega) (by unfold maxLen;omega) hD2
     refine hr_ex 5 (some 26) rfl rfl (by kernel_rfl) rfl (R:=fun v w'=>(.slice ao2 n2 c2)=v∧W1=w') ⟨_,W1,by simp [execOp,Act.eval,resolve,invoke,builtin,ha],rfl,rfl⟩ ?_
     rintro v w' ⟨rfl,rfl⟩
     refine ⟨trivial,?_⟩
     simp only [FL]
     have K3:=(B3.block X hXD).trans K2
     have m0:=cell_of_row W1 X 4 _ _ _ K3
     have f0:W1.frozen? ⟨X,4,none⟩=false:=frozen_of_row W1 X 4 _ _ K3
     refine zT 6 (some 27) (.pointer (some ⟨X,4,none⟩)) rfl rfl (by kernel_rfl) rfl (fun W hW=>by go_simp) trivial ?_
     simp only [FL]
     refine hr_skip 7 none (w':=W1.setCell ⟨X,4,none⟩ (.slice ao2 n2 c2)) rfl rfl (by kernel_rfl) rfl (by go_simp) trivial ?_
     simp only [Act.put]
     refine wpAnyH_done (by kernel_rfl) ?_ _
     refine NoPanic.normal ?_
     have SB:=same_set W1 X 4 (.slice ao2 n2 c2)
     have K4:(W1.setCell ⟨X,4,none⟩ (.slice ao2 n2 c2)).heap[X]?=some (.cells #[.int .i64 r0.1,.int .u64 r1.1,.int .u64 r2.1,.slice so sn sc,.slice ao2 n2 c2,.int .u64 0,.int .u64 0,.int .u64 0,.int .i64 0,.slice none 0 0,.bool false,.slice none 0 0,.slice none 0 0] 41):=heap_setCell_same _ _ 4 _ _ _ K3
     have GR4:GI elQ 60 (W1.setCell ⟨X,4,none⟩ (.slice ao2 n2 c2)) D (.slice ao2 n2 c2) (ys++[q]):=GR3.kept elQ_fine fun z hz=>SB.2 z (by
      rcases hz with hz | ⟨y,hy,hz⟩
      ·have:=(GR3.own.lt z hz).1
       omega
      ·have:=HL2.out y hy z hz
       omega)
     have B4:Below X W1 (W1.setCell ⟨X,4,none⟩ (.slice ao2 n2 c2)):=(Below.refl _ _).setCell (p:=⟨X,4,none⟩) (Nat.le_refl _) _
     have R4:=(R2.lowM B3 hpD).lowM B4 hpX
     have A4:=(A2.below3 B3).set SB B4
     clear SB B4 K3 m0 f0 GR3 B3 g3 ha G
     obtain ⟨wz,hwz⟩:∃ W,W=W1.setCell ⟨X,4,none⟩ (.slice ao2 n2 c2):=⟨_,rfl⟩
     rw [←hwz] at K4 GR4 R4 A4 ⊢
     clear hwz
     go_wp2
     go_roundw
     case rel=>exact ⟨j + 1,ao2,n2,c2,ys++[q],by omega,by go_num,K4,GR4,by simp [hyl],HV2.out,HN2,by rw [HS2.out];exact R4,A4,HL2⟩
     case measure=>simp [intOf];omega
    ·refine op_ex 4 (some 25) rfl rfl rfl (R:=fun v w'=>∃ g,v=.slice (some ⟨g,0,none⟩) 1 1∧w'.heap[g]?=some (.cells #[.int .u64 q.cl,.int .u64 q.st,.int .i64 q.o.kind,.string q.o.row,.string q.o.fam,.string q.o.qual,.int .u64 q.o.time,.string q.o.to,.slice q.o.va.ao q.o.va.n q.o.va.cap,.slice q.o.wa.ao q.o.wa.n q.o.wa.cap,.bool q.o.has,.slice q.o.so q.o.sn q.o.sc] 60)∧Below v1.heap.size v1 w') ⟨_,_,by go_simp,_,rfl,heap_alloc_new _ _,(Below.refl _ _).alloc (Nat.le_refl _) _⟩ ?_
     rintro v v2 ⟨g,rfl,G,C2⟩
     have K2:=(C2.block X hX1).trans K1
     have GR2:=GR1.below elQ_fine C2
     have A2:=A1.below C2 (by have:=hX1;have:=A1.size;omega)
     have R2:=R1.below C2
     have Y2:elQ.ok q v2:=elQ_fine.below Y1 C2
     refine ⟨trivial,?_⟩
     simp only [FL]
     refine hr_ex 1 (some 22) rfl rfl (by kernel_rfl) rfl (R:=fun v w'=>.slice ao1 n1 c1=v∧v2=w') ⟨_,v2,by have lc:=cell_of_row v2 X 4 _ _ _ K2;go_simp,rfl,rfl⟩ ?_
     rintro v w' ⟨rfl,rfl⟩
     refine ⟨trivial,?_⟩
     simp only [FL]
     have hD2:D≤v2.heap.size:=Nat.le_trans hDw (A2.size)
     obtain ⟨v',W1,ha,GR3,B3,g3,ao2,n2,c2,rfl⟩:=GR2.app elQ_fine tyQ 24 (a:=⟨g,0,none⟩) (cp:=1) (y:=q) (fun j u hu=>by
      rw [Addr.add_lit,Nat.zero_add,cell_of_row _ _ j _ _ _ G]
      simpa [elQ,QM.cells] using hu) Y2 (fun z hz e=>by
      have h1:=YF z hz
      have h2:=(GR0.own.lt z e).2
      omega) (by omega) (by unfold maxLen;omega) hD2
     refine hr_ex 5 (some 26) rfl rfl (by kernel_rfl) rfl (R:=fun v w'=>(.slice ao2 n2 c2)=v∧W1=w') ⟨_,W1,by simp [execOp,Act.eval,resolve,invoke,builtin,ha],rfl,rfl⟩ ?_
     rintro v w' ⟨rfl,rfl⟩
     refine ⟨trivial,?_⟩
     simp only [FL]
     have K3:=(B3.block X hXD).trans K2
     have m0:=cell_of_row W1 X 4 _ _ _ K3
     have f0:W1.frozen? ⟨X,4,none⟩=false:=frozen_of_row W1 X 4 _ _ K3
     refine zT 6 (some 27) (.pointer (some ⟨X,4,none⟩)) rfl rfl (by kernel_rfl) rfl (fun W hW=>by go_simp) trivial ?_
     simp only [FL]
     refine hr_skip 7 none (w':=W1.setCell ⟨X,4,none⟩ (.slice ao2 n2 c2)) rfl rfl (by kernel_rfl) rfl (by go_simp) trivial ?_
     simp only [Act.put]
     refine wpAnyH_done (by kernel_rfl) ?_ _
     refine NoPanic.normal ?_
     have SB:=same_set W1 X 4 (.slice ao2 n2 c2)
     have K4:(W1.setCell ⟨X,4,none⟩ (.slice ao2 n2 c2)).heap[X]?=some (.cells #[.int .i64 r0.1,.int .u64 r1.1,.int .u64 r2.1,.slice so sn sc,.slice ao2 n2 c2,.int .u64 0,.int .u64 0,.int .u64 0,.int .i64 0,.slice none 0 0,.bool false,.slice none 0 0,.slice none 0 0] 41):=heap_setCell_same _ _ 4 _ _ _ K3
     have GR4:GI elQ 60 (W1.setCell ⟨X,4,none⟩ (.slice ao2 n2 c2)) D (.slice ao2 n2 c2) (ys++[q]):=GR3.kept elQ_fine fun z hz=>SB.2 z (by
      rcases hz with hz | ⟨y,hy,hz⟩
      ·have:=(GR3.own.lt z hz).1
       omega
      ·have:=HL2.out y hy z hz
       omega)
     have B4:Below X W1 (W1.setCell ⟨X,4,none⟩ (.slice ao2 n2 c2)):=(Below.refl _ _).setCell (p:=⟨X,4,none⟩) (Nat.le_refl _) _
     have R4:=(R2.lowM B3 hpD).lowM B4 hpX
     have A4:=(A2.below3 B3).set SB B4
     clear SB B4 K3 m0 f0 GR3 B3 g3 ha G
     obtain ⟨wz,hwz⟩:∃ W,W=W1.setCell ⟨X,4,none⟩ (.slice ao2 n2 c2):=⟨_,rfl⟩
     rw [←hwz] at K4 GR4 R4 A4 ⊢
     clear hwz
     go_wp2
     go_roundw
     case rel=>exact ⟨j + 1,ao2,n2,c2,ys++[q],by omega,by go_num,K4,GR4,by simp [hyl],HV2.out,HN2,by rw [HS2.out];exact R4,A4,HL2⟩
     case measure=>simp [intOf];omega
  ·have hge:(r4.1:Int)≤(j:Int):=by omega
   obtain rfl:j=r4.1:=by omega
   obtain ⟨GLq,hlo⟩:=GR.gls elQ_fine
   obtain ⟨qs,hqs⟩:∃ s,s=repT (nestT zQV rdQ) r4.1 r4.2.1 r4.2.2:=⟨_,rfl⟩
   rw [←hqs] at HY RR
   have E5_:Hid (qs=repT (nestT zQV rdQ) r4.1 r4.2.1 r4.2.2):=hqs
   have KY:=(AG.block Y (by omega) (by omega) (by omega)).trans KY
   have S9:Sl wr so sn sc r3.1:=Sl.kept (b:=⟨so,sn,sc,r3.1⟩) S8 fun z hz=>AG.block z (by have:=(HSF.out z hz).2;omega) (by have:=(HSF.out z hz).1;omega) (by have:=(HSF.out z hz).2;omega)
   have AW:Ag Y p X w wr:=(Ag.of BW).trans (AG.mono (by omega))
   obtain ⟨qo,hqo⟩:∃ q,q=ao1:=⟨_,rfl⟩
   obtain ⟨qn,hqn⟩:∃ q,q=n1:=⟨_,rfl⟩
   obtain ⟨qc,hqc⟩:∃ q,q=c1:=⟨_,rfl⟩
   obtain ⟨ql,hql⟩:∃ q,q=ys:=⟨_,rfl⟩
   subst hqo hqn hqc hql
   have OK:BM.ok (bm r0.1 r1.1 r2.1 ⟨so,sn,sc,r3.1⟩ ⟨qo,qn,qc,ql⟩) wr:=bm_ok h14 l1 l2 S9 GLq
   have FAR:Hid (BM.far (bm r0.1 r1.1 r2.1 ⟨so,sn,sc,r3.1⟩ ⟨qo,qn,qc,ql⟩) p X):=bm_far (fun z hz=>by have:=HSF.out z hz;omega) (fun z hz=>by
    rcases hz with hz | ⟨y,hy,hz⟩
    ·have:=hlo z hz
     omega
    ·have:=HL.out y hy z hz
     omega)
   have HQV:Hid (ql.map QM.v=qs.1):=HY
   have HQN:Hid (∀ q∈ql,∀ y∈q.l,y.sn=0):=HNN
   clear hqs GR GLq hlo HL HY HNN S8 S9 BW AG hyl hDr hDw hXD hpD hX8 h4i hge HSF
   have k0:=cell_of_row wr X 0 _ _ _ KX
   by_cases h5:r0.1=5
   ·have i5:((r0.1:Int) == 5)=true:=by simp;omega
    obtain ⟨pv,hpv⟩:∃ v,v=pvT r0.1 qs.2.1 qs.2.2:=⟨_,rfl⟩
    have hp1:pv=pvT1 qs.2.1 qs.2.2:=by rw [hpv];unfold pvT;rw [if_pos h5]
    have E6_:Hid (pv=pvT r0.1 qs.2.1 qs.2.2):=hpv
    have CP:=takeReply_any wr p qs.2.1 qs.2.2 RR
    clear hpv h5
    go_wp2_with fail
    refine CP.mono ?_
    rintro e_ wb ⟨cl,st,vw,e,co,cn,cc,cs,m,rfl,LB,PV_,⟨lc,ls,lv,le0,le18⟩,RB,GB,FB⟩
    rw [←hp1] at PV_ RB
    have HPV:Hid ((⟨cl,st,vw,resR e cs m⟩:PV)=pv.1):=PV_
    have KX:=(GB.block X hXr (by simp;omega)).trans KX
    have KY:=(GB.block Y (by omega) (by simp;omega)).trans KY
    have OK:=OK.gr FAR.out GB
    have AW:=AW.gr GB (by have:=AW.size;omega)
    have HFB:Hid (∀ z,(sblk co cn z∨∃ c∈cs,c.va.blk z)→p < z∧z≠X):=fun z hz=>by
     have:=FB z hz
     omega
    clear CP PV_ hp1 GB FB RR k0
    have m0:wb.cell? ⟨X,0,none⟩=some (.int .i64 r0.1):=cell_of_row wb X 0 _ _ _ KX
    have m1:wb.cell? ⟨X,1,none⟩=some (.int .u64 r1.1):=cell_of_row wb X 1 _ _ _ KX
    have m2:wb.cell? ⟨X,2,none⟩=some (.int .u64 r2.1):=cell_of_row wb X 2 _ _ _ KX
    have m3:wb.cell? ⟨X,3,none⟩=some (.slice so sn sc):=cell_of_row wb X 3 _ _ _ KX
    have m4:wb.cell? ⟨X,4,none⟩=some (.slice qo qn qc):=cell_of_row wb X 4 _ _ _ KX
    have m5:wb.cell? ⟨X,5,none⟩=some (.int .u64 0):=cell_of_row wb X 5 _ _ _ KX
    have m6:wb.cell? ⟨X,6,none⟩=some (.int .u64 0):=cell_of_row wb X 6 _ _ _ KX
    have m7:wb.cell? ⟨X,7,none⟩=some (.int .u64 0):=cell_of_row wb X 7 _ _ _ KX
    have m8:wb.cell? ⟨X,8,none⟩=some (.int .i64 0):=cell_of_row wb X 8 _ _ _ KX
    have m9:wb.cell? ⟨X,9,none⟩=some (.slice none 0 0):=cell_of_row wb X 9 _ _ _ KX
    have m10:wb.cell? ⟨X,10,none⟩=some (.bool false):=cell_of_row wb X 10 _ _ _ KX
    have m11:wb.cell? ⟨X,11,none⟩=some (.slice none 0 0):=cell_of_row wb X 11 _ _ _ KX
    have m12:wb.cell? ⟨X,12,none⟩=some (.slice none 0 0):=cell_of_row wb X 12 _ _ _ KX
    have f0:wb.frozen? ⟨X,0,none⟩=false:=frozen_of_row wb X 0 _ _ KX
    have f1:wb.frozen? ⟨X,1,none⟩=false:=frozen_of_row wb X 1 _ _ KX
    have f2:wb.frozen? ⟨X,2,none⟩=false:=frozen_of_row wb X 2 _ _ KX
    have f3:wb.frozen? ⟨X,3,none⟩=false:=frozen_of_row wb X 3 _ _ KX
    have f4:wb.frozen? ⟨X,4,none⟩=false:=frozen_of_row wb X 4 _ _ KX
    have f5:wb.frozen? ⟨X,5,none⟩=false:=frozen_of_row wb X 5 _ _ KX
    have f6:wb.frozen? ⟨X,6,none⟩=false:=frozen_of_row wb X 6 _ _ KX
    have f7:wb.frozen? ⟨X,7,none⟩=false:=frozen_of_row wb X 7 _ _ KX
    have f8:wb.frozen? ⟨X,8,none⟩=false:=frozen_of_row wb X 8 _ _ KX
    have f9:wb.frozen? ⟨X,9,none⟩=false:=frozen_of_row wb X 9 _ _ KX
    have f10:wb.frozen? ⟨X,10,none⟩=false:=frozen_of_row wb X 10 _ _ KX
    have f11:wb.frozen? ⟨X,11,none⟩=false:=frozen_of_row wb X 11 _ _ KX
    have f12:wb.frozen? ⟨X,12,none⟩=false:=frozen_of_row wb X 12 _ _ KX
    have SB:(((((((wb.setCell ⟨X,5,none⟩ (.int .u64 cl)).setCell ⟨X,6,none⟩ (.int .u64 st)).setCell ⟨X,7,none⟩ (.int .u64 vw)).setCell ⟨X,8,none⟩ (.int .i64 e)).setCell ⟨X,9,none⟩ (.slice co cn cc)).setCell ⟨X,10,none⟩ (.bool m))).heap.size=wb.heap.size∧∀ j,j≠X→(((((((wb.setCell ⟨X,5,none⟩ (.int .u64 cl)).setCell ⟨X,6,none⟩ (.int .u64 st)).setCell ⟨X,7,none⟩ (.int .u64 vw)).setCell ⟨X,8,none⟩ (.int .i64 e)).setCell ⟨X,9,none⟩ (.slice co cn cc)).setCell ⟨X,10,none⟩ (.bool m))).heap[j]?=wb.heap[j]?:=SameBut.trans (SameBut.trans (SameBut.trans (SameBut.trans (SameBut.trans (same_set _ _ _ _) (same_set _ _ _ _)) (same_set _ _ _ _)) (same_set _ _ _ _)) (same_set _ _ _ _)) (same_set _ _ _ _)
    have B4:Below X wb (((((((wb.setCell ⟨X,5,none⟩ (.int .u64 cl)).setCell ⟨X,6,none⟩ (.int .u64 st)).setCell ⟨X,7,none⟩ (.int .u64 vw)).setCell ⟨X,8,none⟩ (.int .i64 e)).setCell ⟨X,9,none⟩ (.slice co cn cc)).setCell ⟨X,10,none⟩ (.bool m))):=((((((Below.refl _ _).setCell (p:=⟨X,5,none⟩) (Nat.le_refl _) _).setCell (p:=⟨X,6,none⟩) (Nat.le_refl _) _).setCell (p:=⟨X,7,none⟩) (Nat.le_refl _) _).setCell (p:=⟨X,8,none⟩) (Nat.le_refl _) _).setCell (p:=⟨X,9,none⟩) (Nat.le_refl _) _).setCell (p:=⟨X,10,none⟩) (Nat.le_refl _) _
    have KX:(((((((wb.setCell ⟨X,5,none⟩ (.int .u64 cl)).setCell ⟨X,6,none⟩ (.int .u64 st)).setCell ⟨X,7,none⟩ (.int .u64 vw)).setCell ⟨X,8,none⟩ (.int .i64 e)).setCell ⟨X,9,none⟩ (.slice co cn cc)).setCell ⟨X,10,none⟩ (.bool m))).heap[X]?=some (.cells #[.int .i64 r0.1,.int .u64 r1.1,.int .u64 r2.1,.slice so sn sc,.slice qo qn qc,.int .u64 cl,.int .u64 st,.int .u64 vw,.int .i64 e,.slice co cn cc,.bool m,.slice none 0 0,.slice none 0 0] 41):=heap_setCell_same _ _ 10 _ _ _ (heap_setCell_same _ _ 9 _ _ _ (heap_setCell_same _ _ 8 _ _ _ (heap_setCell_same _ _ 7 _ _ _ (heap_setCell_same _ _ 6 _ _ _ (heap_setCell_same _ _ 5 _ _ _ (KX))))))
    have KY:=(SB.2 Y (by omega)).trans KY
    have OK:=OK.at FAR.out SB.2
    have LB:CL (((((((wb.setCell ⟨X,5,none⟩ (.int .u64 cl)).setCell ⟨X,6,none⟩ (.int .u64 st)).setCell ⟨X,7,none⟩ (.int .u64 vw)).setCell ⟨X,8,none⟩ (.int .i64 e)).setCell ⟨X,9,none⟩ (.slice co cn cc)).setCell ⟨X,10,none⟩ (.bool m))) co cn cc cs:=LB.kept fun z hz=>SB.2 z (HFB.out z hz).2
    have RR:=RB.lowM B4 hpX
    have AW:=AW.set SB B4
    have OK:BM.ok ({ bm r0.1 r1.1 r2.1 ⟨so,sn,sc,r3.1⟩ ⟨qo,qn,qc,ql⟩ with cl:=cl,st:=st,vw:=vw,e:=e,c:=⟨co,cn,cc,cs⟩,more:=m }:BM) (((((((wb.setCell ⟨X,5,none⟩ (.int .u64 cl)).setCell ⟨X,6,none⟩ (.int .u64 st)).setCell ⟨X,7,none⟩ (.int .u64 vw)).setCell ⟨X,8,none⟩ (.int .i64 e)).setCell ⟨X,9,none⟩ (.slice co cn cc)).setCell ⟨X,10,none⟩ (.bool m))):=⟨OK.kind,OK.view,OK.seq,OK.sum,OK.q,lc,ls,lv,⟨by show (-9223372036854775808:Int)≤e;omega,by show e≤(9223372036854775807:Int);omega⟩,LB,OK.s,OK.t⟩
    have FAR:Hid (BM.far ({ bm r0.1 r1.1 r2.1 ⟨so,sn,sc,r3.1⟩ ⟨qo,qn,qc,ql⟩ with cl:=cl,st:=st,vw:=vw,e:=e,c:=⟨co,cn,cc,cs⟩,more:=m }:BM) p X):=fun z hz=>by
     rcases hz with hz | hz | hz | hz | hz
     ·exact FAR.out z (.inl hz)
     ·exact FAR.out z (.inr (.inl hz))
     ·exact HFB.out z hz
     ·exact FAR.out z (.inr (.inr (.inr (.inl hz))))
     ·exact FAR.out z (.inr (.inr (.inr (.inr hz))))
    clear LB HFB RB B4 SB
    go_wp2_with fail
    clear m0 f0 m1 f1 m2 f2 m3 f3 m4 f4 m5 f5 m6 f6 m7 f7 m8 f8 m9 f9 m10 f10 m11 f11 m12 f12
    obtain ⟨wc,hwc⟩:∃ W,W=((((((wb.setCell ⟨X,5,none⟩ (.int .u64 cl)).setCell ⟨X,6,none⟩ (.int .u64 st)).setCell ⟨X,7,none⟩ (.int .u64 vw)).setCell ⟨X,8,none⟩ (.int .i64 e)).setCell ⟨X,9,none⟩ (.slice co cn cc)).setCell ⟨X,10,none⟩ (.bool m)):=⟨_,rfl⟩
    rw [←hwc] at KX KY OK RR AW ⊢
    clear hwc hXr
    have CT:=takeTexts_any wc p pv.2.1 pv.2.2 RR
    refine CT.mono ?_
    rintro e_ wd ⟨eo,en,ec,el,rfl,EL,EV,RD,GD,EF⟩
    obtain ⟨vs,hvs⟩:∃ v,v=vsT pv.2.1 pv.2.2:=⟨_,rfl⟩
    rw [←hvs] at EV RD
    have E7:Hid (vs=vsT pv.2.1 pv.2.2):=hvs
    have hXc:X < wc.heap.size:=(Array.getElem?_eq_some_iff.1 KX).1
    have KX:=(GD.block X hXc (by simp;omega)).trans KX
    have KY:=(GD.block Y (by omega) (by simp;omega)).trans KY
    have OK:=OK.gr FAR.out GD
    have AW:=AW.gr GD (by have:=AW.size;omega)
    have HEF:Hid (∀ z,GLb elS eo en el z→p < z∧z≠X):=fun z hz=>by
     have:=EF z hz
     omega
    have HEV:Hid (el.map SA.v=vs.1):=EV
    clear CT hvs GD EF EV RR
    have m0:=cell_of_row wd X 11 _ _ _ KX
    have f0:wd.frozen? ⟨X,11,none⟩=false:=frozen_of_row wd X 11 _ _ KX
    have SB:=same_set wd X 11 (.slice eo en ec)
    have B4:Below X wd ((wd.setCell ⟨X,11,none⟩ (.slice eo en ec))):=(Below.refl _ _).setCell (p:=⟨X,11,none⟩) (Nat.le_refl _) _
    have KX:((wd.setCell ⟨X,11,none⟩ (.slice eo en ec))).heap[X]?=some (.cells #[.int .i64 r0.1,.int .u64 r1.1,.int .u64 r2.1,.slice so sn sc,.slice qo qn qc,.int .u64 cl,.int .u64 st,.int .u64 vw,.int .i64 e,.slice co cn cc,.bool m,.slice eo en ec,.slice none 0 0] 41):=heap_setCell_same _ _ 11 _ _ _ KX
    have KY:=(SB.2 Y (by omega)).trans KY
    have OK:=OK.at FAR.out SB.2
    have EL:GL elS ((wd.setCell ⟨X,11,none⟩ (.slice eo en ec))) eo en ec el:=EL.kept elS_fine fun z hz=>SB.2 z (HEF.out z hz).2
    have RR:=RD.lowM B4 hpX
    have AW:=AW.set SB B4
    have OK:BM.ok { ({ bm r0.1 r1.1 r2.1 ⟨so,sn,sc,r3.1⟩ ⟨qo,qn,qc,ql⟩ with cl:=cl,st:=st,vw:=vw,e:=e,c:=⟨co,cn,cc,cs⟩,more:=m }:BM) with s:=⟨eo,en,ec,el⟩ } ((wd.setCell ⟨X,11,none⟩ (.slice eo en ec))):=⟨OK.kind,OK.view,OK.seq,OK.sum,OK.q,OK.cl,OK.st,OK.vw,OK.e,OK.c,EL,OK.t⟩
    have FAR:Hid (BM.far { ({ bm r0.1 r1.1 r2.1 ⟨so,sn,sc,r3.1⟩ ⟨qo,qn,qc,ql⟩ with cl:=cl,st:=st,vw:=vw,e:=e,c:=⟨co,cn,cc,cs⟩,more:=m }:BM) with s:=⟨eo,en,ec,el⟩ } p X):=fun z hz=>by
     rcases hz with hz | hz | hz | hz | hz
     ·exact FAR.out z (.inl hz)
     ·exact FAR.out z (.inr (.inl hz))
     ·exact FAR.out z (.inr (.inr (.inl hz)))
     ·exact HEF.out z hz
     ·exact FAR.out z (.inr (.inr (.inr (.inr hz))))
    clear EL HEF RD B4 SB
    go_wp2_with fail
    clear m0 f0
    obtain ⟨we,hwe⟩:∃ W,W=(wd.setCell ⟨X,11,none⟩ (.slice eo en ec)):=⟨_,rfl⟩
    rw [←hwe] at KX KY OK RR AW ⊢
    clear hwe
    have hXe:X < we.heap.size:=(Array.getElem?_eq_some_iff.1 KX).1
    have CI:=int_any we p p vs.2.1 vs.2.2 16 (by omega) RR.byte RR
    refine CI.mono ?_
    rintro e_ wf ⟨rfl,RF,GF⟩
    obtain ⟨r6,hr6⟩:∃ r,r=intS vs.2.1 vs.2.2 16:=⟨_,rfl⟩
    have h16:r6.1≤16:=by rw [hr6];exact intS_le vs.2.1 vs.2.2 16
    rw [←hr6] at RF ⊢
    have E8:Hid (r6=intS vs.2.1 vs.2.2 16):=hr6
    have KX:=(GF.block X hXe (by simp;omega)).trans KX
    have KY:=(GF.block Y (by omega) (by simp;omega)).trans KY
    have OK:=OK.gr FAR.out GF
    have AW:=AW.gr GF (by have:=AW.size;omega)
    have hXf:X < wf.heap.size:=Nat.lt_of_lt_of_le hXe GF.size
    clear CI hr6 GF RR hXe hXc
    obtain ⟨D,hD⟩:∃ D,D=wf.heap.size:=⟨_,rfl⟩
    have hDw:D≤wf.heap.size:=by omega
    have hXD:X < D:=by omega
    have hpD:p < D:=by omega
    have HD:Hid (D=wf.heap.size):=hD
    have h6i:(r6.1:Int)≤16:=by omega
    clear hD
    go_wp2_with fail
    go_loopw [40] (fun i wr=>∃ (j:Nat) (ao1:Option Addr) (n1 c1:Nat) (ys:List (LS SA)),j≤r6.1∧i=.int .i64 j∧wr.heap[X]?=some (.cells #[.int .i64 r0.1,.int .u64 r1.1,.int .u64 r2.1,.slice so sn sc,.slice qo qn qc,.int .u64 cl,.int .u64 st,.int .u64 vw,.int .i64 e,.slice co cn cc,.bool m,.slice eo en ec,.slice ao1 n1 c1] 41)∧GI elL 38 wr D (.slice ao1 n1 c1) ys∧ys.length=j∧Hid (ys.map (fun s=>s.l.map SA.v)=(repT vsT j r6.2.1 r6.2.2).1)∧R wr p p (repT vsT j r6.2.1 r6.2.2).2.1 (repT vsT j r6.2.1 r6.2.2).2.2∧Ag D p X wf wr∧Hid (∀ y∈ys,∀ z,elL.blk y z→D≤z)) (fun i _=>r6.1 - (intOf i).toNat)
    case atStart=>exact ⟨0,none,0,0,[],Nat.zero_le _,rfl,KX,GI.nil _ _ _ _,rfl,rfl,RF,Ag.refl _ _ _ _,fun _ h=>absurd h List.not_mem_nil⟩
    case round =>
     clear KX RF
     obtain ⟨j,ao1,n1,c1,ys,hj,rfl,KX,GR,hyl,HY,RR,AG,HL⟩:=hrel
     have hXr:X < wr.heap.size:=Nat.lt_of_lt_of_le hXf AG.size
     have hDr:D≤wr.heap.size:=Nat.le_trans hDw AG.size
     by_cases hlt:j < r6.1
     ·have hji:(j:Int) < (r6.1:Int):=by omega
      have hDv:D≤wr.drew.heap.size:=hDr
      have HS:Hid (repT vsT (j + 1) r6.2.1 r6.2.2=((repT vsT j r6.2.1 r6.2.2).1++[(vsT (repT vsT j r6.2.1 r6.2.2).2.1 (repT vsT j r6.2.1 r6.2.2).2.2).1],(vsT (repT vsT j r6.2.1 r6.2.2).2.1 (repT vsT j r6.2.1 r6.2.2).2.2).2)):=repT_snoc vsT j r6.2.1 r6.2.2
      generalize repT vsT j r6.2.1 r6.2.2=s at HY RR HS
      obtain ⟨sl,sx,sk⟩:=s
      simp only at HY RR HS
      clear KY OK AW
      go_wp2_with fail
      have E0:Below wr.heap.size wr wr.drew:=(Below.refl _ _).drew
      refine wp_region_noPanic ?_
      refine wp_region_held_drew (S:=fun _=>True) (by kernel_rfl) trivial (fun _=>?_)
      obtain ⟨v0,hv0⟩:∃ v,v=wr.drew:=⟨_,rfl⟩
      rw [←hv0] at E0 hDv ⊢
      clear hv0
      refine zT 0 (some 42) (.pointer (some ⟨X,12,none⟩)) rfl rfl (by kernel_rfl) rfl (fun W hW=>by go_simp) trivial ?_
      simp only [FL]
      refine zT 2 (some 44) (.pointer (some ⟨p,0,none⟩)) rfl rfl (by kernel_rfl) rfl (fun W hW=>by go_simp) trivial ?_
      simp only [FL]
      have K0:=(E0.block X hXr).trans KX
      have R0:=RR.below E0
      have GR0:=GR.below elL_fine E0
      have A0:=AG.below E0 (by omega)
      have hX0:X < v0.heap.size:=Nat.lt_of_lt_of_le hXr E0.size
      have CT:=takeTexts_any v0 p sx sk R0
      refine hr_two (i:=1) (j:=3) (by kernel_rfl) ?_ ?_
      ·refine op_ex 1 (some 43) rfl rfl rfl (R:=fun v w'=>.slice ao1 n1 c1=v∧v0=w') ⟨_,v0,by have lc:=cell_of_row v0 X 12 _ _ _ K0;go_simp,rfl,rfl⟩ ?_
       rintro v w' ⟨rfl,rfl⟩
       refine ⟨trivial,?_⟩
       simp only [FL]
       refine hr_call_w 3 (some 45) 42 #[.pointer (some ⟨p,0,none⟩)] rfl rfl (by kernel_rfl) rfl (by go_simp) (fun v w'=>∃ (toq:Option Addr) (tn tc:Nat) (tl:List SA),v=.slice toq tn tc∧GL elS w' toq tn tc tl∧tl.map SA.v=(vsT sx sk).1∧R w' p p (vsT sx sk).2.1 (vsT sx sk).2.2∧v0.grownBy w' (some p)∧∀ z,GLb elS toq tn tl z→v0.heap.size≤z) (CT.mono (by
        rintro e_ w' ⟨toq,tn,tc,tl,rfl,Y1,YV,R1,G1,YF⟩
        exact ⟨_,rfl,toq,tn,tc,tl,rfl,Y1,YV,R1,G1,YF⟩)) ?_
       rintro v v1 ⟨toq,tn,tc,tl,rfl,Y1,YV,R1,G1,YF⟩
       have K1:=(G1.block X hX0 (by simp;omega)).trans K0
       have GR1:=GR0.rdr elL_fine HL.out hpD G1
       have A1:=A0.gr G1 (by have:=E0.size;omega)
       have hX1:X < v1.heap.size:=Nat.lt_of_lt_of_le hX0 G1.size
       refine ⟨trivial,?_⟩
       simp only [FL]
       have Y1:elL.ok (⟨toq,tn,tc,tl⟩:LS SA) v1:=Y1
       have YF:∀ z,elL.blk (⟨toq,tn,tc,tl⟩:LS SA) z→v0.heap.size≤z:=YF
       have HV2:Hid ((ys++[(⟨toq,tn,tc,tl⟩:LS SA)]).map (fun s=>s.l.map SA.v)=(repT vsT (j + 1) r6.2.1 r6.2.2).1):=by
        show _=_
        rw [HS.out,List.map_append,HY.out,List.map_cons,List.map_nil,YV]
       have HS2:Hid ((repT vsT (j + 1) r6.2.1 r6.2.2).2=(vsT sx sk).2):=by
        show _=_
        rw [HS.out]
       have HL2:Hid (∀ y∈ys++[(⟨toq,tn,tc,tl⟩:LS SA)],∀ z,elL.blk y z→D≤z):=fun y hy z hz=>by
        rcases List.mem_append.1 hy with hy | hy
        ·exact HL.out y hy z hz
        ·rw [List.mem_singleton.1 hy] at hz
         exact Nat.le_trans hDv (YF z hz)
       clear YV
       refine hr_ex 4 (some 46) rfl rfl (by kernel_rfl) rfl (R:=fun v w'=>∃ g,v=.slice (some ⟨g,0,none⟩) 1 1∧w'.heap[g]?=some (.cells #[.slice toq tn tc] 38)∧Below v1.heap.size v1 w') ⟨_,_,by go_simp,_,rfl,heap_alloc_new _ _,(Below.refl _ _).alloc (Nat.le_refl _) _⟩ ?_
       rintro v v2 ⟨g,rfl,G,C2⟩
       have K2:=(C2.block X hX1).trans K1
       have GR2:=GR1.below elL_fine C2
       have A2:=A1.below C2 (by have:=hX1;have:=A1.size;omega)
       have R2:=R1.below C2
       have Y2:elL.ok (⟨toq,tn,tc,tl⟩:LS SA) v2:=elL_fine.below Y1 C2
       refine ⟨trivial,?_⟩
       simp only [FL]
       have hD2:D≤v2.heap.size:=Nat.le_trans hDw (A2.size)
       obtain ⟨v',W1,ha,GR3,B3,g3,ao2,n2,c2,rfl⟩:=GR2.app elL_fine tyL 39 (a:=⟨g,0,none⟩) (cp:=1) (y:=(⟨toq,tn,tc,tl⟩:LS SA)) (fun j u hu=>by
        rw [Addr.add_lit,Nat.zero_add,cell_of_row _ _ j _ _ _ G]
        simpa [elL,El.lists] using hu) Y2 (fun z hz e=>by
        have h1:=YF z hz
        have h2:=(GR0.own.lt z e).2
        omega) (by omega) (by unfold maxLen;omega) hD2
       refine hr_ex 5 (some 47) rfl rfl (by kernel_rfl) rfl (R:=fun v w'=>(.slice ao2 n2 c2)=v∧W1=w') ⟨_,W1,by simp [execOp,Act.eval,resolve,invoke,builtin,ha],rfl,rfl⟩ ?_
       rintro v w' ⟨rfl,rfl⟩
       refine ⟨trivial,?_⟩
       simp only [FL]
       have K3:=(B3.block X hXD).trans K2
       have m0:=cell_of_row W1 X 12 _ _ _ K3
       have f0:W1.frozen? ⟨X,12,none⟩=false:=frozen_of_row W1 X 12 _ _ K3
       refine zT 6 (some 48) (.pointer (some ⟨X,12,none⟩)) rfl rfl (by kernel_rfl) rfl (fun W hW=>by go_simp) trivial ?_
       simp only [FL]
       refine hr_skip 7 none (w':=W1.setCell ⟨X,12,none⟩ (.slice ao2 n2 c2)) rfl rfl (by kernel_rfl) rfl (by go_simp) trivial ?_
       simp only [Act.put]
       refine wpAnyH_done (by kernel_rfl) ?_ _
       refine NoPanic.normal ?_
       have SB:=same_set W1 X 12 (.slice ao2 n2 c2)
       have K4:(W1.setCell ⟨X,12,none⟩ (.slice ao2 n2 c2)).heap[X]?=some (.cells #[.int .i64 r0.1,.int .u64 r1.1,.int .u64 r2.1,.slice so sn sc,.slice qo qn qc,.int .u64 cl,.int .u64 st,.int .u64 vw,.int .i64 e,.slice co cn cc,.bool m,.slice eo en ec,.slice ao2 n2 c2] 41):=heap_setCell_same _ _ 12 _ _ _ K3
       have GR4:GI elL 38 (W1.setCell ⟨X,12,none⟩ (.slice ao2 n2 c2)) D (.slice ao2 n2 c2) (ys++[(⟨toq,tn,tc,tl⟩:LS SA)]):=GR3.kept elL_fine fun z hz=>SB.2 z (by
        rcases hz with hz | ⟨y,hy,hz⟩
        ·have:=(GR3.own.lt z hz).1
         omega
        ·have:=HL2.out y hy z hz
         omega)
       have B4:Below X W1 (W1.setCell ⟨X,12,none⟩ (.slice ao2 n2 c2)):=(Below.refl _ _).setCell (p:=⟨X,12,none⟩) (Nat.le_refl _) _
       have R4:=(R2.lowM B3 hpD).lowM B4 hpX
       have A4:=(A2.below3 B3).set SB B4
       clear SB B4 K3 m0 f0 GR3 B3 g3 ha G
       obtain ⟨wz,hwz⟩:∃ W,W=W1.setCell ⟨X,12,none⟩ (.slice ao2 n2 c2):=⟨_,rfl⟩
       rw [←hwz] at K4 GR4 R4 A4 ⊢
       clear hwz
       go_wp2
       go_roundw
       case rel=>exact ⟨j + 1,ao2,n2,c2,ys++[(⟨toq,tn,tc,tl⟩:LS SA)],by omega,by go_num,K4,GR4,by simp [hyl],HV2,by rw [HS2.out];exact R4,A4,HL2⟩
       case measure=>simp [intOf];omega
      ·refine op_calls 3 (some 45) 42 #[.pointer (some ⟨p,0,none⟩)] rfl rfl rfl (by go_simp) (fun v w'=>∃ (toq:Option Addr) (tn tc:Nat) (tl:List SA),v=.slice toq tn tc∧GL elS w' toq tn tc tl∧tl.map SA.v=(vsT sx sk).1∧R w' p p (vsT sx sk).2.1 (vsT sx sk).2.2∧v0.grownBy w' (some p)∧∀ z,GLb elS toq tn tl z→v0.heap.size≤z) (CT.mono (by
        rintro e_ w' ⟨toq,tn,tc,tl,rfl,Y1,YV,R1,G1,YF⟩
        exact ⟨_,rfl,toq,tn,tc,tl,rfl,Y1,YV,R1,G1,YF⟩)) ?_
       rintro v v1 ⟨toq,tn,tc,tl,rfl,Y1,YV,R1,G1,YF⟩
       have K1:=(G1.block X hX0 (by simp;omega)).trans K0
       have GR1:=GR0.rdr elL_fine HL.out hpD G1
       have A1:=A0.gr G1 (by have:=E0.size;omega)
       have hX1:X < v1.heap.size:=Nat.lt_of_lt_of_le hX0 G1.size
       refine ⟨trivial,?_⟩
       simp only [FL]
       have Y1:elL.ok (⟨toq,tn,tc,tl⟩:LS SA) v1:=Y1
       have YF:∀ z,elL.blk (⟨toq,tn,tc,tl⟩:LS SA) z→v0.heap.size≤z:=YF
       have HV2:Hid ((ys++[(⟨toq,tn,tc,tl⟩:LS SA)]).map (fun s=>s.l.map SA.v)=(repT vsT (j + 1) r6.2.1 r6.2.2).1):=by
        show _=_
        rw [HS.out,List.map_append,HY.out,List.map_cons,List.map_nil,YV]
       have HS2:Hid ((repT vsT (j + 1) r6.2.1 r6.2.2).2=(vsT sx sk).2):=by
        show _=_
        rw [HS.out]
       have HL2:Hid (∀ y∈ys++[(⟨toq,tn,tc,tl⟩:LS SA)],∀ z,elL.blk y z→D≤z):=fun y hy z hz=>by
        rcases List.mem_append.1 hy with hy | hy
        ·exact HL.out y hy z hz
        ·rw [List.mem_singleton.1 hy] at hz
         exact Nat.le_trans hDv (YF z hz)
       clear YV
       refine hr_two (i:=1) (j:=4) (by kernel_rfl) ?_ ?_
       ·refine op_ex 1 (some 43) rfl rfl rfl (R:=fun v w'=>.slice ao1 n1 c1=v∧v1=w') ⟨_,v1,by have lc:=cell_of_row v1 X 12 _ _ _ K1;go_simp,rfl,rfl⟩ ?_
        rintro v w' ⟨rfl,rfl⟩
        refine ⟨trivial,?_⟩
        simp only [FL]
        refine hr_ex 4 (some 46) rfl rfl (by kernel_rfl) rfl (R:=fun v w'=>∃ g,v=.slice (some ⟨g,0,none⟩) 1 1∧w'.heap[g]?=some (.cells #[.slice toq tn tc] 38)∧Below v1.heap.size v1 w') ⟨_,_,by go_simp,_,rfl,heap_alloc_new _ _,(Below.refl _ _).alloc (Nat.le_refl _) _⟩ ?_
        rintro v v2 ⟨g,rfl,G,C2⟩
        have K2:=(C2.block X hX1).trans K1
        have GR2:=GR1.below elL_fine C2
        have A2:=A1.below C2 (by have:=hX1;have:=A1.size;omega)
        have R2:=R1.below C2
        have Y2:elL.ok (⟨toq,tn,tc,tl⟩:LS SA) v2:=elL_fine.below Y1 C2
        refine ⟨trivial,?_⟩
        simp only [FL]
        have hD2:D≤v2.heap.size:=Nat.le_trans hDw (A2.size)
        obtain ⟨v',W1,ha,GR3,B3,g3,ao2,n2,c2,rfl⟩:=GR2.app elL_fine tyL 39 (a:=⟨g,0,none⟩) (cp:=1) (y:=(⟨toq,tn,tc,tl⟩:LS SA)) (fun j u hu=>by
         rw [Addr.add_lit,Nat.zero_add,cell_of_row _ _ j _ _ _ G]
         simpa [elL,El.lists] using hu) Y2 (fun z hz e=>by
         have h1:=YF z hz
         have h2:=(GR0.own.lt z e).2
         omega) (by omega) (by unfold maxLen;omega) hD2
        refine hr_ex 5 (some 47) rfl rfl (by kernel_rfl) rfl (R:=fun v w'=>(.slice ao2 n2 c2)=v∧W1=w') ⟨_,W1,by simp [execOp,Act.eval,resolve,invoke,builtin,ha],rfl,rfl⟩ ?_
        rintro v w' ⟨rfl,rfl⟩
        refine ⟨trivial,?_⟩
        simp only [FL]
        have K3:=(B3.block X hXD).trans K2
        have m0:=cell_of_row W1 X 12 _ _ _ K3
        have f0:W1.frozen? ⟨X,12,none⟩=false:=frozen_of_row W1 X 12 _ _ K3
        refine zT 6 (some 48) (.pointer (some ⟨X,12,none⟩)) rfl rfl (by kernel_rfl) rfl (fun W hW=>by go_simp) trivial ?_
        simp only [FL]
        refine hr_skip 7 none (w':=W1.setCell ⟨X,12,none⟩ (.slice ao2 n2 c2)) rfl rfl (by kernel_rfl) rfl (by go_simp) trivial ?_
        simp only [Act.put]
        refine wpAnyH_done (by kernel_rfl) ?_ _
        refine NoPanic.normal ?_
        have SB:=same_set W1 X 12 (.slice ao2 n2 c2)
        have K4:(W1.setCell ⟨X,12,none⟩ (.slice ao2 n2 c2)).heap[X]?=some (.cells #[.int .i64 r0.1,.int .u64 r1.1,.int .u64 r2.1,.slice so sn sc,.slice qo qn qc,.int .u64 cl,.int .u64 st,.int .u64 vw,.int .i64 e,.slice co cn cc,.bool m,.slice eo en ec,.slice ao2 n2 c2] 41):=heap_setCell_same _ _ 12 _ _ _ K3
        have GR4:GI elL 38 (W1.setCell ⟨X,12,none⟩ (.slice ao2 n2 c2)) D (.slice ao2 n2 c2) (ys++[(⟨toq,tn,tc,tl⟩:LS SA)]):=GR3.kept elL_fine fun z hz=>SB.2 z (by
         rcases hz with hz | ⟨y,hy,hz⟩
         ·have:=(GR3.own.lt z hz).1
          omega
         ·have:=HL2.out y hy z hz
          omega)
        have B4:Below X W1 (W1.setCell ⟨X,12,none⟩ (.slice ao2 n2 c2)):=(Below.refl _ _).setCell (p:=⟨X,12,none⟩) (Nat.le_refl _) _
        have R4:=(R2.lowM B3 hpD).lowM B4 hpX
        have A4:=(A2.below3 B3).set SB B4
        clear SB B4 K3 m0 f0 GR3 B3 g3 ha G
        obtain ⟨wz,hwz⟩:∃ W,W=W1.setCell ⟨X,12,none⟩ (.slice ao2 n2 c2):=⟨_,rfl⟩
        rw [←hwz] at K4 GR4 R4 A4 ⊢
        clear hwz
        go_wp2
        go_roundw
        case rel=>exact ⟨j + 1,ao2,n2,c2,ys++[(⟨toq,tn,tc,tl⟩:LS SA)],by omega,by go_num,K4,GR4,by simp [hyl],HV2,by rw [HS2.out];exact R4,A4,HL2⟩
        case measure=>simp [intOf];omega
       ·refine op_ex 4 (some 46) rfl rfl rfl (R:=fun v w'=>∃ g,v=.slice (some ⟨g,0,none⟩) 1 1∧w'.heap[g]?=some (.cells #[.slice toq tn tc] 38)∧Below v1.heap.size v1 w') ⟨_,_,by go_simp,_,rfl,heap_alloc_new _ _,(Below.refl _ _).alloc (Nat.le_refl _) _⟩ ?_
        rintro v v2 ⟨g,rfl,G,C2⟩
        have K2:=(C2.block X hX1).trans K1
        have GR2:=GR1.below elL_fine C2
        have A2:=A1.below C2 (by have:=hX1;have:=A1.size;omega)
        have R2:=R1.below C2
        have Y2:elL.ok (⟨toq,tn,tc,tl⟩:LS SA) v2:=elL_fine.below Y1 C2
        refine ⟨trivial,?_⟩
        simp only [FL]
        refine hr_ex 1 (some 43) rfl rfl (by kernel_rfl) rfl (R:=fun v w'=>.slice ao1 n1 c1=v∧v2=w') ⟨_,v2,by have lc:=cell_of_row v2 X 12 _ _ _ K2;go_simp,rfl,rfl⟩ ?_
        rintro v w' ⟨rfl,rfl⟩
        refine ⟨trivial,?_⟩
        simp only [FL]
        have hD2:D≤v2.heap.size:=Nat.le_trans hDw (A2.size)
        obtain ⟨v',W1,ha,GR3,B3,g3,ao2,n2,c2,rfl⟩:=GR2.app elL_fine tyL 39 (a:=⟨g,0,none⟩) (cp:=1) (y:=(⟨toq,tn,tc,tl⟩:LS SA)) (fun j u hu=>by
         rw [Addr.add_lit,Nat.zero_add,cell_of_row _ _ j _ _ _ G]
         simpa [elL,El.lists] using hu) Y2 (fun z hz e=>by
         have h1:=YF z hz
         have h2:=(GR0.own.lt z e).2
         omega) (by omega) (by unfold maxLen;omega) hD2
        refine hr_ex 5 (some 47) rfl rfl (by kernel_rfl) rfl (R:=fun v w'=>(.slice ao2 n2 c2)=v∧W1=w') ⟨_,W1,by simp [execOp,Act.eval,resolve,invoke,builtin,ha],rfl,rfl⟩ ?_
        rintro v w' ⟨rfl,rfl⟩
        refine ⟨trivial,?_⟩
        simp only [FL]
        have K3:=(B3.block X hXD).trans K2
        have m0:=cell_of_row W1 X 12 _ _ _ K3
        have f0:W1.frozen? ⟨X,12,none⟩=false:=frozen_of_row W1 X 12 _ _ K3
        refine zT 6 (some 48) (.pointer (some ⟨X,12,none⟩)) rfl rfl (by kernel_rfl) rfl (fun W hW=>by go_simp) trivial ?_
        simp only [FL]
        refine hr_skip 7 none (w':=W1.setCell ⟨X,12,none⟩ (.slice ao2 n2 c2)) rfl rfl (by kernel_rfl) rfl (by go_simp) trivial ?_
        simp only [Act.put]
        refine wpAnyH_done (by kernel_rfl) ?_ _
        refine NoPanic.normal ?_
        have SB:=same_set W1 X 12 (.slice ao2 n2 c2)
        have K4:(W1.setCell ⟨X,12,none⟩ (.slice ao2 n2 c2)).heap[X]?=some (.cells #[.int .i64 r0.1,.int .u64 r1.1,.int .u64 r2.1,.slice so sn sc,.slice qo qn qc,.int .u64 cl,.int .u64 st,.int .u64 vw,.int .i64 e,.slice co cn cc,.bool m,.slice eo en ec,.slice ao2 n2 c2] 41):=heap_setCell_same _ _ 12 _ _ _ K3
        have GR4:GI elL 38 (W1.setCell ⟨X,12,none⟩ (.slice ao2 n2 c2)) D (.slice ao2 n2 c2) (ys++[(⟨toq,tn,tc,tl⟩:LS SA)]):=GR3.kept elL_fine fun z hz=>SB.2 z (by
         rcases hz with hz | ⟨y,hy,hz⟩
         ·have:=(GR3.own.lt z hz).1
          omega
         ·have:=HL2.out y hy z hz
          omega)
        have B4:Below X W1 (W1.setCell ⟨X,12,none⟩ (.slice ao2 n2 c2)):=(Below.refl _ _).setCell (p:=⟨X,12,none⟩) (Nat.le_refl _) _
        have R4:=(R2.lowM B3 hpD).lowM B4 hpX
        have A4:=(A2.below3 B3).set SB B4
        clear SB B4 K3 m0 f0 GR3 B3 g3 ha G
        obtain ⟨wz,hwz⟩:∃ W,W=W1.setCell ⟨X,12,none⟩ (.slice ao2 n2 c2):=⟨_,rfl⟩
        rw [←hwz] at K4 GR4 R4 A4 ⊢
        clear hwz
        go_wp2
        go_roundw
        case rel=>exact ⟨j + 1,ao2,n2,c2,ys++[(⟨toq,tn,tc,tl⟩:LS SA)],by omega,by go_num,K4,GR4,by simp [hyl],HV2,by rw [HS2.out];exact R4,A4,HL2⟩
        case measure=>simp [intOf];omega
     ·have hge:(r6.1:Int)≤(j:Int):=by omega
      obtain rfl:j=r6.1:=by omega
      obtain ⟨GLt,hlo⟩:=GR.gls elL_fine
      obtain ⟨ss,hss⟩:∃ s,s=repT vsT r6.1 r6.2.1 r6.2.2:=⟨_,rfl⟩
      rw [←hss] at HY RR
      have E9:Hid (ss=repT vsT r6.1 r6.2.1 r6.2.2):=hss
      have KY:=(AG.block Y (by omega) (by omega) (by omega)).trans KY
      have OK:=OK.ag FAR.out (by rw [←HD.out];exact AG)
      have AW:=AW.trans (AG.mono (by have:=AW.size;omega))
      obtain ⟨x,hx⟩:∃ x:BM,x={ ({ bm r0.1 r1.1 r2.1 ⟨so,sn,sc,r3.1⟩ ⟨qo,qn,qc,ql⟩ with cl:=cl,st:=st,vw:=vw,e:=e,c:=⟨co,cn,cc,cs⟩,more:=m }:BM) with s:=⟨eo,en,ec,el⟩,t:=⟨ao1,n1,c1,ys⟩ }:=⟨_,rfl⟩
      have XOK:x.ok wr:=by rw [hx];exact ⟨OK.kind,OK.view,OK.seq,OK.sum,OK.q,OK.cl,OK.st,OK.vw,OK.e,OK.c,OK.s,GLt⟩
      have KB:BC wr X x:=by rw [hx];exact KX
      have XV:Hid (x.v=(bT xs 0).1∧(bT xs 0).2=ss.2):=by
       have eb:=bT_eq E0_.out E1_.out E2_.out E3_.out E4_.out E5_.out E6_.out E7.out E8.out E9.out
       rw [eb]
       refine ⟨?_,rfl⟩
       rw [hx]
       show (⟨(r0.1:Int),r1.1,r2.1,r3.1,ql.map QM.v,(⟨cl,st,vw,resR e cs m⟩:PV),el.map SA.v,ys.map fun s=>s.l.map SA.v⟩:BV)=_
       rw [HQV.out,HEV.out,HY.out,HPV.out]
      have XN:Hid (∀ q∈x.q.l,∀ y∈q.l,y.sn=0):=by rw [hx];exact HQN.out
      have XFY:Hid (∀ z,x.blk z→z≠Y):=fun z hz=>by
       rw [hx] at hz
       rcases hz with hz | hz | hz | hz | hz
       ·have:=(FAR.out z (.inl hz)).1;omega
       ·have:=(FAR.out z (.inr (.inl hz))).1;omega
       ·have:=(FAR.out z (.inr (.inr (.inl hz)))).1;omega
       ·have:=(FAR.out z (.inr (.inr (.inr (.inl hz))))).1;omega
       ·rcases hz with hz | ⟨y,hy,hz⟩
        ·have:=hlo z hz;omega
        ·have:=HL.out y hy z hz;omega
      have HBW:Hid (Below Y w wr):=AW.bel (by omega) (by omega)
      clear hx GR GLt hlo HL HY OK FAR AW AG hss KX E0_ E1_ E2_ E3_ E4_ E5_ E6_ E7 E8 E9 HQV HEV HQN HPV HD
      have hYr:Y < wr.heap.size:=(Array.getElem?_eq_some_iff.1 KY).1
      have CD:=done_any wr p p ss.2.1 ss.2.2 RR
      obtain ⟨d,hd⟩:∃ d,d=doneS ss.2.1 ss.2.2:=⟨_,rfl⟩
      rw [←hd] at CD
      have HDD:Hid (doneS (bT xs 0).2.1 (bT xs 0).2.2=d):=by show _=_;rw [XV.out.2,hd]
      clear hd
      by_cases hd0:d=0
      ·subst hd0
       have CR:=isRight_any wr x XOK
       unfold BM.val at CR
       obtain ⟨k0,k1,k2,k3,k4,k5,k6,k7,k8,k9,k10,k11,k12⟩:=KB.cs
       cases hr:rightM x with
       | false =>
        rw [hr] at CR
        have HF:Hid (¬(doneS (bT xs 0).2.1 (bT xs 0).2.2=0∧rightM x=true)):=fun h=>by rw [hr] at h;cases h.2
        go_wp2_with (first
         | (go_at_call 43;refine CD.mono ?_;rintro e_ wg ⟨rfl,hw⟩;obtain rfl:=hw.symm;clear hw)
         | (go_at_call 18;refine CR.mono ?_;rintro e_ wh ⟨rfl,CH⟩;have KY:=(CH.block Y hYr).trans KY;have XOK:=XOK.below CH;have HBW:Hid (Below Y w wh):=HBW.out.trans (CH.mono (by omega));clear CH CR k0 k1 k2 k3 k4 k5 k6 k7 k8 k9 k10 k11 k12;have n0:wh.cell? ⟨Y,0,none⟩=some (.int .i64 0):=cell_of_row wh Y 0 _ _ _ KY;have g0:wh.frozen? ⟨Y,0,none⟩=false:=frozen_of_row wh Y 0 _ _ KY;have n1:wh.cell? ⟨Y,1,none⟩=some (.int .u64 0):=cell_of_row wh Y 1 _ _ _ KY;have g1:wh.frozen? ⟨Y,1,none⟩=false:=frozen_of_row wh Y 1 _ _ KY;have n2:wh.cell? ⟨Y,2,none⟩=some (.int .u64 0):=cell_of_row wh Y 2 _ _ _ KY;have g2:wh.frozen? ⟨Y,2,none⟩=false:=frozen_of_row wh Y 2 _ _ KY;have n3:wh.cell? ⟨Y,3,none⟩=some (.slice none 0 0):=cell_of_row wh Y 3 _ _ _ KY;have g3:wh.frozen? ⟨Y,3,none⟩=false:=frozen_of_row wh Y 3 _ _ KY;have n4:wh.cell? ⟨Y,4,none⟩=some (.slice none 0 0):=cell_of_row wh Y 4 _ _ _ KY;have g4:wh.frozen? ⟨Y,4,none⟩=false:=frozen_of_row wh Y 4 _ _ KY;have n5:wh.cell? ⟨Y,5,none⟩=some (.int .u64 0):=cell_of_row wh Y 5 _ _ _ KY;have g5:wh.frozen? ⟨Y,5,none⟩=false:=frozen_of_row wh Y 5 _ _ KY;have n6:wh.cell? ⟨Y,6,none⟩=some (.int .u64 0):=cell_of_row wh Y 6 _ _ _ KY;have g6:wh.frozen? ⟨Y,6,none⟩=false:=frozen_of_row wh Y 6 _ _ KY;have n7:wh.cell? ⟨Y,7,none⟩=some (.int .u64 0):=cell_of_row wh Y 7 _ _ _ KY;have g7:wh.frozen? ⟨Y,7,none⟩=false:=frozen_of_row wh Y 7 _ _ KY;have n8:wh.cell? ⟨Y,8,none⟩=some (.int .i64 0):=cell_of_row wh Y 8 _ _ _ KY;have g8:wh.frozen? ⟨Y,8,none⟩=false:=frozen_of_row wh Y 8 _ _ KY;have n9:wh.cell? ⟨Y,9,none⟩=some (.slice none 0 0):=cell_of_row wh Y 9 _ _ _ KY;have g9:wh.frozen? ⟨Y,9,none⟩=false:=frozen_of_row wh Y 9 _ _ KY;have n10:wh.cell? ⟨Y,10,none⟩=some (.bool false):=cell_of_row wh Y 10 _ _ _ KY;have g10:wh.frozen? ⟨Y,10,none⟩=false:=frozen_of_row wh Y 10 _ _ KY;have n11:wh.cell? ⟨Y,11,none⟩=some (.slice none 0 0):=cell_of_row wh Y 11 _ _ _ KY;have g11:wh.frozen? ⟨Y,11,none⟩=false:=frozen_of_row wh Y 11 _ _ KY;have n12:wh.cell? ⟨Y,12,none⟩=some (.slice none 0 0):=cell_of_row wh Y 12 _ _ _ KY;have g12:wh.frozen? ⟨Y,12,none⟩=false:=frozen_of_row wh Y 12 _ _ KY))
        have SB:((((((((((((((wh.setCell ⟨Y,0,none⟩ (.int .i64 0)).setCell ⟨Y,1,none⟩ (.int .u64 0)).setCell ⟨Y,2,none⟩ (.int .u64 0)).setCell ⟨Y,3,none⟩ (.slice none 0 0)).setCell ⟨Y,4,none⟩ (.slice none 0 0)).setCell ⟨Y,5,none⟩ (.int .u64 0)).setCell ⟨Y,6,none⟩ (.int .u64 0)).setCell ⟨Y,7,none⟩ (.int .u64 0)).setCell ⟨Y,8,none⟩ (.int .i64 0)).setCell ⟨Y,9,none⟩ (.slice none 0 0)).setCell ⟨Y,10,none⟩ (.bool false)).setCell ⟨Y,11,none⟩ (.slice none 0 0)).setCell ⟨Y,12,none⟩ (.slice none 0 0))).heap.size=wh.heap.size∧∀ j,j≠Y→((((((((((((((wh.setCell ⟨Y,0,none⟩ (.int .i64 0)).setCell ⟨Y,1,none⟩ (.int .u64 0)).setCell ⟨Y,2,none⟩ (.int .u64 0)).setCell ⟨Y,3,none⟩ (.slice none 0 0)).setCell ⟨Y,4,none⟩ (.slice none 0 0)).setCell ⟨Y,5,none⟩ (.int .u64 0)).setCell ⟨Y,6,none⟩ (.int .u64 0)).setCell ⟨Y,7,none⟩ (.int .u64 0)).setCell ⟨Y,8,none⟩ (.int .i64 0)).setCell ⟨Y,9,none⟩ (.slice none 0 0)).setCell ⟨Y,10,none⟩ (.bool false)).setCell ⟨Y,11,none⟩ (.slice none 0 0)).setCell ⟨Y,12,none⟩ (.slice none 0 0))).heap[j]?=wh.heap[j]?:=SameBut.trans (SameBut.trans (SameBut.trans (SameBut.trans (SameBut.trans (SameBut.trans (SameBut.trans (SameBut.trans (SameBut.trans (SameBut.trans (SameBut.trans (SameBut.trans (same_set _ _ _ _) (same_set _ _ _ _)) (same_set _ _ _ _)) (same_set _ _ _ _)) (same_set _ _ _ _)) (same_set _ _ _ _)) (same_set _ _ _ _)) (same_set _ _ _ _)) (same_set _ _ _ _)) (same_set _ _ _ _)) (same_set _ _ _ _)) (same_set _ _ _ _)) (same_set _ _ _ _)
        have BF:Below Y wh ((((((((((((((wh.setCell ⟨Y,0,none⟩ (.int .i64 0)).setCell ⟨Y,1,none⟩ (.int .u64 0)).setCell ⟨Y,2,none⟩ (.int .u64 0)).setCell ⟨Y,3,none⟩ (.slice none 0 0)).setCell ⟨Y,4,none⟩ (.slice none 0 0)).setCell ⟨Y,5,none⟩ (.int .u64 0)).setCell ⟨Y,6,none⟩ (.int .u64 0)).setCell ⟨Y,7,none⟩ (.int .u64 0)).setCell ⟨Y,8,none⟩ (.int .i64 0)).setCell ⟨Y,9,none⟩ (.slice none 0 0)).setCell ⟨Y,10,none⟩ (.bool false)).setCell ⟨Y,11,none⟩ (.slice none 0 0)).setCell ⟨Y,12,none⟩ (.slice none 0 0))):=(((((((((((((Below.refl _ _).setCell (p:=⟨Y,0,none⟩) (Nat.le_refl _) _).setCell (p:=⟨Y,1,none⟩) (Nat.le_refl _) _).setCell (p:=⟨Y,2,none⟩) (Nat.le_refl _) _).setCell (p:=⟨Y,3,none⟩) (Nat.le_refl _) _).setCell (p:=⟨Y,4,none⟩) (Nat.le_refl _) _).setCell (p:=⟨Y,5,none⟩) (Nat.le_refl _) _).setCell (p:=⟨Y,6,none⟩) (Nat.le_refl _) _).setCell (p:=⟨Y,7,none⟩) (Nat.le_refl _) _).setCell (p:=⟨Y,8,none⟩) (Nat.le_refl _) _).setCell (p:=⟨Y,9,none⟩) (Nat.le_refl _) _).setCell (p:=⟨Y,10,none⟩) (Nat.le_refl _) _).setCell (p:=⟨Y,11,none⟩) (Nat.le_refl _) _).setCell (p:=⟨Y,12,none⟩) (Nat.le_refl _) _
        refine bodyPost_ret (v:=.tuple #[.agg #[.int .i64 0,.int .u64 0,.int .u64 0,.slice none 0 0,.slice none 0 0,.int .u64 0,.int .u64 0,.int .u64 0,.int .i64 0,.slice none 0 0,.bool false,.slice none 0 0,.slice none 0 0],.int .i64 3]) (by simp [results,Tryz.results12,go_sem,n0,n1,n2,n3,n4,n5,n6,n7,n8,n9,n10,n11,n12]) rfl ?_
        exact ⟨x,XOK.agree (fun z hz=>SB.2 z (XFY.out z hz)),XN.out,XV.out.1,by rw [if_neg HF.out],by rw [←HY0.out];exact HBW.out.trans BF⟩
       | true =>
        rw [hr] at CR
        have HF:Hid (doneS (bT xs 0).2.1 (bT xs 0).2.2=0∧rightM x=true):=⟨HDD.out,hr⟩
        go_wp2_with (first
         | (go_at_call 43;refine CD.mono ?_;rintro e_ wg ⟨rfl,hw⟩;obtain rfl:=hw.symm;clear hw)
         | (go_at_call 18;refine CR.mono ?_;rintro e_ wh ⟨rfl,CH⟩;have KY:=(CH.block Y hYr).trans KY;have KB:=KB.keep CH;have XOK:=XOK.below CH;have HBW:Hid (Below Y w wh):=HBW.out.trans (CH.mono (by omega));clear CH CR k0 k1 k2 k3 k4 k5 k6 k7 k8 k9 k10 k11 k12;obtain ⟨k0,k1,k2,k3,k4,k5,k6,k7,k8,k9,k10,k11,k12⟩:=KB.cs;have n0:wh.cell? ⟨Y,0,none⟩=some (.int .i64 0):=cell_of_row wh Y 0 _ _ _ KY;have g0:wh.frozen? ⟨Y,0,none⟩=false:=frozen_of_row wh Y 0 _ _ KY;have n1:wh.cell? ⟨Y,1,none⟩=some (.int .u64 0):=cell_of_row wh Y 1 _ _ _ KY;have g1:wh.frozen? ⟨Y,1,none⟩=false:=frozen_of_row wh Y 1 _ _ KY;have n2:wh.cell? ⟨Y,2,none⟩=some (.int .u64 0):=cell_of_row wh Y 2 _ _ _ KY;have g2:wh.frozen? ⟨Y,2,none⟩=false:=frozen_of_row wh Y 2 _ _ KY;have n3:wh.cell? ⟨Y,3,none⟩=some (.slice none 0 0):=cell_of_row wh Y 3 _ _ _ KY;have g3:wh.frozen? ⟨Y,3,none⟩=false:=frozen_of_row wh Y 3 _ _ KY;have n4:wh.cell? ⟨Y,4,none⟩=some (.slice none 0 0):=cell_of_row wh Y 4 _ _ _ KY;have g4:wh.frozen? ⟨Y,4,none⟩=false:=frozen_of_row wh Y 4 _ _ KY;have n5:wh.cell? ⟨Y,5,none⟩=some (.int .u64 0):=cell_of_row wh Y 5 _ _ _ KY;have g5:wh.frozen? ⟨Y,5,none⟩=false:=frozen_of_row wh Y 5 _ _ KY;have n6:wh.cell? ⟨Y,6,none⟩=some (.int .u64 0):=cell_of_row wh Y 6 _ _ _ KY;have g6:wh.frozen? ⟨Y,6,none⟩=false:=frozen_of_row wh Y 6 _ _ KY;have n7:wh.cell? ⟨Y,7,none⟩=some (.int .u64 0):=cell_of_row wh Y 7 _ _ _ KY;have g7:wh.frozen? ⟨Y,7,none⟩=false:=frozen_of_row wh Y 7 _ _ KY;have n8:wh.cell? ⟨Y,8,none⟩=some (.int .i64 0):=cell_of_row wh Y 8 _ _ _ KY;have g8:wh.frozen? ⟨Y,8,none⟩=false:=frozen_of_row wh Y 8 _ _ KY;have n9:wh.cell? ⟨Y,9,none⟩=some (.slice none 0 0):=cell_of_row wh Y 9 _ _ _ KY;have g9:wh.frozen? ⟨Y,9,none⟩=false:=frozen_of_row wh Y 9 _ _ KY;have n10:wh.cell? ⟨Y,10,none⟩=some (.bool false):=cell_of_row wh Y 10 _ _ _ KY;have g10:wh.frozen? ⟨Y,10,none⟩=false:=frozen_of_row wh Y 10 _ _ KY;have n11:wh.cell? ⟨Y,11,none⟩=some (.slice none 0 0):=cell_of_row wh Y 11 _ _ _ KY;have g11:wh.frozen? ⟨Y,11,none⟩=false:=frozen_of_row wh Y 11 _ _ KY;have n12:wh.cell? ⟨Y,12,none⟩=some (.slice none 0 0):=cell_of_row wh Y 12 _ _ _ KY;have g12:wh.frozen? ⟨Y,12,none⟩=false:=frozen_of_row wh Y 12 _ _ KY))
        have SB:((((((((((((((wh.setCell ⟨Y,0,none⟩ (.int .i64 x.kind)).setCell ⟨Y,1,none⟩ (.int .u64 x.view)).setCell ⟨Y,2,none⟩ (.int .u64 x.seq)).setCell ⟨Y,3,none⟩ (.slice x.sum.ao x.sum.n x.sum.cap)).setCell ⟨Y,4,none⟩ (.slice x.q.ao x.q.n x.q.cap)).setCell ⟨Y,5,none⟩ (.int .u64 x.cl)).setCell ⟨Y,6,none⟩ (.int .u64 x.st)).setCell ⟨Y,7,none⟩ (.int .u64 x.vw)).setCell ⟨Y,8,none⟩ (.int .i64 x.e)).setCell ⟨Y,9,none⟩ (.slice x.c.ao x.c.n x.c.cap)).setCell ⟨Y,10,none⟩ (.bool x.more)).setCell ⟨Y,11,none⟩ (.slice x.s.ao x.s.n x.s.cap)).setCell ⟨Y,12,none⟩ (.slice x.t.ao x.t.n x.t.cap))).heap.size=wh.heap.size∧∀ j,j≠Y→((((((((((((((wh.setCell ⟨Y,0,none⟩ (.int .i64 x.kind)).setCell ⟨Y,1,none⟩ (.int .u64 x.view)).setCell ⟨Y,2,none⟩ (.int .u64 x.seq)).setCell ⟨Y,3,none⟩ (.slice x.sum.ao x.sum.n x.sum.cap)).setCell ⟨Y,4,none⟩ (.slice x.q.ao x.q.n x.q.cap)).setCell ⟨Y,5,none⟩ (.int .u64 x.cl)).setCell ⟨Y,6,none⟩ (.int .u64 x.st)).setCell ⟨Y,7,none⟩ (.int .u64 x.vw)).setCell ⟨Y,8,none⟩ (.int .i64 x.e)).setCell ⟨Y,9,none⟩ (.slice x.c.ao x.c.n x.c.cap)).setCell ⟨Y,10,none⟩ (.bool x.more)).setCell ⟨Y,11,none⟩ (.slice x.s.ao x.s.n x.s.cap)).setCell ⟨Y,12,none⟩ (.slice x.t.ao x.t.n x.t.cap))).heap[j]?=wh.heap[j]?:=SameBut.trans (SameBut.trans (SameBut.trans (SameBut.trans (SameBut.trans (SameBut.trans (SameBut.trans (SameBut.trans (SameBut.trans (SameBut.trans (SameBut.trans (SameBut.trans (same_set _ _ _ _) (same_set _ _ _ _)) (same_set _ _ _ _)) (same_set _ _ _ _)) (same_set _ _ _ _)) (same_set _ _ _ _)) (same_set _ _ _ _)) (same_set _ _ _ _)) (same_set _ _ _ _)) (same_set _ _ _ _)) (same_set _ _ _ _)) (same_set _ _ _ _)) (same_set _ _ _ _)
        have BF:Below Y wh ((((((((((((((wh.setCell ⟨Y,0,none⟩ (.int .i64 x.kind)).setCell ⟨Y,1,none⟩ (.int .u64 x.view)).setCell ⟨Y,2,none⟩ (.int .u64 x.seq)).setCell ⟨Y,3,none⟩ (.slice x.sum.ao x.sum.n x.sum.cap)).setCell ⟨Y,4,none⟩ (.slice x.q.ao x.q.n x.q.cap)).setCell ⟨Y,5,none⟩ (.int .u64 x.cl)).setCell ⟨Y,6,none⟩ (.int .u64 x.st)).setCell ⟨Y,7,none⟩ (.int .u64 x.vw)).setCell ⟨Y,8,none⟩ (.int .i64 x.e)).setCell ⟨Y,9,none⟩ (.slice x.c.ao x.c.n x.c.cap)).setCell ⟨Y,10,none⟩ (.bool x.more)).setCell ⟨Y,11,none⟩ (.slice x.s.ao x.s.n x.s.cap)).setCell ⟨Y,12,none⟩ (.slice x.t.ao x.t.n x.t.cap))):=(((((((((((((Below.refl _ _).setCell (p:=⟨Y,0,none⟩) (Nat.le_refl _) _).setCell (p:=⟨Y,1,none⟩) (Nat.le_refl _) _).setCell (p:=⟨Y,2,none⟩) (Nat.le_refl _) _).setCell (p:=⟨Y,3,none⟩) (Nat.le_refl _) _).setCell (p:=⟨Y,4,none⟩) (Nat.le_refl _) _).setCell (p:=⟨Y,5,none⟩) (Nat.le_refl _) _).setCell (p:=⟨Y,6,none⟩) (Nat.le_refl _) _).setCell (p:=⟨Y,7,none⟩) (Nat.le_refl _) _).setCell (p:=⟨Y,8,none⟩) (Nat.le_refl _) _).setCell (p:=⟨Y,9,none⟩) (Nat.le_refl _) _).setCell (p:=⟨Y,10,none⟩) (Nat.le_refl _) _).setCell (p:=⟨Y,11,none⟩) (Nat.le_refl _) _).setCell (p:=⟨Y,12,none⟩) (Nat.le_refl _) _
        refine bodyPost_ret (v:=.tuple #[.agg #[.int .i64 x.kind,.int .u64 x.view,.int .u64 x.seq,.slice x.sum.ao x.sum.n x.sum.cap,.slice x.q.ao x.q.n x.q.cap,.int .u64 x.cl,.int .u64 x.st,.int .u64 x.vw,.int .i64 x.e,.slice x.c.ao x.c.n x.c.cap,.bool x.more,.slice x.s.ao x.s.n x.s.cap,.slice x.t.ao x.t.n x.t.cap],.int .i64 0]) (by simp [results,Tryz.results12,go_sem,n0,n1,n2,n3,n4,n5,n6,n7,n8,n9,n10,n11,n12]) rfl ?_
        exact ⟨x,XOK.agree (fun z hz=>SB.2 z (XFY.out z hz)),XN.out,XV.out.1,by rw [if_pos HF.out] <;> rfl,by rw [←HY0.out];exact HBW.out.trans BF⟩
      ·have i0:(d != 0)=true:=by simp [hd0]
       have HF:Hid (¬(doneS (bT xs 0).2.1 (bT xs 0).2.2=0∧rightM x=true)):=fun h=>hd0 (HDD.out.symm.trans h.1)
       have n0:wr.cell? ⟨Y,0,none⟩=some (.int .i64 0):=cell_of_row wr Y 0 _ _ _ KY;have g0:wr.frozen? ⟨Y,0,none⟩=false:=frozen_of_row wr Y 0 _ _ KY;have n1:wr.cell? ⟨Y,1,none⟩=some (.int .u64 0):=cell_of_row wr Y 1 _ _ _ KY;have g1:wr.frozen? ⟨Y,1,none⟩=false:=frozen_of_row wr Y 1 _ _ KY;have n2:wr.cell? ⟨Y,2,none⟩=some (.int .u64 0):=cell_of_row wr Y 2 _ _ _ KY;have g2:wr.frozen? ⟨Y,2,none⟩=false:=frozen_of_row wr Y 2 _ _ KY;have n3:wr.cell? ⟨Y,3,none⟩=some (.slice none 0 0):=cell_of_row wr Y 3 _ _ _ KY;have g3:wr.frozen? ⟨Y,3,none⟩=false:=frozen_of_row wr Y 3 _ _ KY;have n4:wr.cell? ⟨Y,4,none⟩=some (.slice none 0 0):=cell_of_row wr Y 4 _ _ _ KY;have g4:wr.frozen? ⟨Y,4,none⟩=false:=frozen_of_row wr Y 4 _ _ KY;have n5:wr.cell? ⟨Y,5,none⟩=some (.int .u64 0):=cell_of_row wr Y 5 _ _ _ KY;have g5:wr.frozen? ⟨Y,5,none⟩=false:=frozen_of_row wr Y 5 _ _ KY;have n6:wr.cell? ⟨Y,6,none⟩=some (.int .u64 0):=cell_of_row wr Y 6 _ _ _ KY;have g6:wr.frozen? ⟨Y,6,none⟩=false:=frozen_of_row wr Y 6 _ _ KY;have n7:wr.cell? ⟨Y,7,none⟩=some (.int .u64 0):=cell_of_row wr Y 7 _ _ _ KY;have g7:wr.frozen? ⟨Y,7,none⟩=false:=frozen_of_row wr Y 7 _ _ KY;have n8:wr.cell? ⟨Y,8,none⟩=some (.int .i64 0):=cell_of_row wr Y 8 _ _ _ KY;have g8:wr.frozen? ⟨Y,8,none⟩=false:=frozen_of_row wr Y 8 _ _ KY;have n9:wr.cell? ⟨Y,9,none⟩=some (.slice none 0 0):=cell_of_row wr Y 9 _ _ _ KY;have g9:wr.frozen? ⟨Y,9,none⟩=false:=frozen_of_row wr Y 9 _ _ KY;have n10:wr.cell? ⟨Y,10,none⟩=some (.bool false):=cell_of_row wr Y 10 _ _ _ KY;have g10:wr.frozen? ⟨Y,10,none⟩=false:=frozen_of_row wr Y 10 _ _ KY;have n11:wr.cell? ⟨Y,11,none⟩=some (.slice none 0 0):=cell_of_row wr Y 11 _ _ _ KY;have g11:wr.frozen? ⟨Y,11,none⟩=false:=frozen_of_row wr Y 11 _ _ KY;have n12:wr.cell? ⟨Y,12,none⟩=some (.slice none 0 0):=cell_of_row wr Y 12 _ _ _ KY;have g12:wr.frozen? ⟨Y,12,none⟩=false:=frozen_of_row wr Y 12 _ _ KY
       go_wp2_with (go_at_call 43;refine CD.mono ?_;rintro e_ wg ⟨rfl,hw⟩;obtain rfl:=hw.symm;clear hw)
       have SB:((((((((((((((wr.setCell ⟨Y,0,none⟩ (.int .i64 0)).setCell ⟨Y,1,none⟩ (.int .u64 0)).setCell ⟨Y,2,none⟩ (.int .u64 0)).setCell ⟨Y,3,none⟩ (.slice none 0 0)).setCell ⟨Y,4,none⟩ (.slice none 0 0)).setCell ⟨Y,5,none⟩ (.int .u64 0)).setCell ⟨Y,6,none⟩ (.int .u64 0)).setCell ⟨Y,7,none⟩ (.int .u64 0)).setCell ⟨Y,8,none⟩ (.int .i64 0)).setCell ⟨Y,9,none⟩ (.slice none 0 0)).setCell ⟨Y,10,none⟩ (.bool false)).setCell ⟨Y,11,none⟩ (.slice none 0 0)).setCell ⟨Y,12,none⟩ (.slice none 0 0))).heap.size=wr.heap.size∧∀ j,j≠Y→((((((((((((((wr.setCell ⟨Y,0,none⟩ (.int .i64 0)).setCell ⟨Y,1,none⟩ (.int .u64 0)).setCell ⟨Y,2,none⟩ (.int .u64 0)).setCell ⟨Y,3,none⟩ (.slice none 0 0)).setCell ⟨Y,4,none⟩ (.slice none 0 0)).setCell ⟨Y,5,none⟩ (.int .u64 0)).setCell ⟨Y,6,none⟩ (.int .u64 0)).setCell ⟨Y,7,none⟩ (.int .u64 0)).setCell ⟨Y,8,none⟩ (.int .i64 0)).setCell ⟨Y,9,none⟩ (.slice none 0 0)).setCell ⟨Y,10,none⟩ (.bool false)).setCell ⟨Y,11,none⟩ (.slice none 0 0)).setCell ⟨Y,12,none⟩ (.slice none 0 0))).heap[j]?=wr.heap[j]?:=SameBut.trans (SameBut.trans (SameBut.trans (SameBut.trans (SameBut.trans (SameBut.trans (SameBut.trans (SameBut.trans (SameBut.trans (SameBut.trans (SameBut.trans (SameBut.trans (same_set _ _ _ _) (same_set _ _ _ _)) (same_set _ _ _ _)) (same_set _ _ _ _)) (same_set _ _ _ _)) (same_set _ _ _ _)) (same_set _ _ _ _)) (same_set _ _ _ _)) (same_set _ _ _ _)) (same_set _ _ _ _)) (same_set _ _ _ _)) (same_set _ _ _ _)) (same_set _ _ _ _)
       have BF:Below Y wr ((((((((((((((wr.setCell ⟨Y,0,none⟩ (.int .i64 0)).setCell ⟨Y,1,none⟩ (.int .u64 0)).setCell ⟨Y,2,none⟩ (.int .u64 0)).setCell ⟨Y,3,none⟩ (.slice none 0 0)).setCell ⟨Y,4,none⟩ (.slice none 0 0)).setCell ⟨Y,5,none⟩ (.int .u64 0)).setCell ⟨Y,6,none⟩ (.int .u64 0)).setCell ⟨Y,7,none⟩ (.int .u64 0)).setCell ⟨Y,8,none⟩ (.int .i64 0)).setCell ⟨Y,9,none⟩ (.slice none 0 0)).setCell ⟨Y,10,none⟩ (.bool false)).setCell ⟨Y,11,none⟩ (.slice none 0 0)).setCell ⟨Y,12,none⟩ (.slice none 0 0))):=(((((((((((((Below.refl _ _).setCell (p:=⟨Y,0,none⟩) (Nat.le_refl _) _).setCell (p:=⟨Y,1,none⟩) (Nat.le_refl _) _).setCell (p:=⟨Y,2,none⟩) (Nat.le_refl _) _).setCell (p:=⟨Y,3,none⟩) (Nat.le_refl _) _).setCell (p:=⟨Y,4,none⟩) (Nat.le_refl _) _).setCell (p:=⟨Y,5,none⟩) (Nat.le_refl _) _).setCell (p:=⟨Y,6,none⟩) (Nat.le_refl _) _).setCell (p:=⟨Y,7,none⟩) (Nat.le_refl _) _).setCell (p:=⟨Y,8,none⟩) (Nat.le_refl _) _).setCell (p:=⟨Y,9,none⟩) (Nat.le_refl _) _).setCell (p:=⟨Y,10,none⟩) (Nat.le_refl _) _).setCell (p:=⟨Y,11,none⟩) (Nat.le_refl _) _).setCell (p:=⟨Y,12,none⟩) (Nat.le_refl _) _
       refine bodyPost_ret (v:=.tuple #[.agg #[.int .i64 0,.int .u64 0,.int .u64 0,.slice none 0 0,.slice none 0 0,.int .u64 0,.int .u64 0,.int .u64 0,.int .i64 0,.slice none 0 0,.bool false,.slice none 0 0,.slice none 0 0],.int .i64 3]) (by simp [results,Tryz.results12,go_sem,n0,n1,n2,n3,n4,n5,n6,n7,n8,n9,n10,n11,n12]) rfl ?_
       exact ⟨x,XOK.agree (fun z hz=>SB.2 z (XFY.out z hz)),XN.out,XV.out.1,by rw [if_neg HF.out],by rw [←HY0.out];exact HBW.out.trans BF⟩
   ·have i5:((r0.1:Int) == 5)=false:=by simp;omega
    obtain ⟨pv,hpv⟩:∃ v,v=pvT r0.1 qs.2.1 qs.2.2:=⟨_,rfl⟩
    have hp1:pv=(zPV,qs.2.1,qs.2.2):=by rw [hpv];unfold pvT;rw [if_neg h5]
    have E6_:Hid (pv=pvT r0.1 qs.2.1 qs.2.2):=hpv
    have HPV:Hid ((⟨0,0,0,resR 0 [] false⟩:PV)=pv.1):=by rw [hp1];rfl
    have RR:R wr p p pv.2.1 pv.2.2:=by rw [hp1];exact RR
    obtain ⟨wc,hwc⟩:∃ W,W=wr:=⟨_,rfl⟩
    subst hwc
    clear hpv hp1 h5
    go_wp2_with fail
    clear k0 hXr
    have CT:=takeTexts_any wc p pv.2.1 pv.2.2 RR
    refine CT.mono ?_
    rintro e_ wd ⟨eo,en,ec,el,rfl,EL,EV,RD,GD,EF⟩
    obtain ⟨vs,hvs⟩:∃ v,v=vsT pv.2.1 pv.2.2:=⟨_,rfl⟩
    rw [←hvs] at EV RD
    have E7:Hid (vs=vsT pv.2.1 pv.2.2):=hvs
    have hXc:X < wc.heap.size:=(Array.getElem?_eq_some_iff.1 KX).1
    have KX:=(GD.block X hXc (by simp;omega)).trans KX
    have KY:=(GD.block Y (by omega) (by simp;omega)).trans KY
    have OK:=OK.gr FAR.out GD
    have AW:=AW.gr GD (by have:=AW.size;omega)
    have HEF:Hid (∀ z,GLb elS eo en el z→p < z∧z≠X):=fun z hz=>by
     have:=EF z hz
     omega
    have HEV:Hid (el.map SA.v=vs.1):=EV
    clear CT hvs GD EF EV RR
    have m0:=cell_of_row wd X 11 _ _ _ KX
    have f0:wd.frozen? ⟨X,11,none⟩=false:=frozen_of_row wd X 11 _ _ KX
    have SB:=same_set wd X 11 (.slice eo en ec)
    have B4:Below X wd ((wd.setCell ⟨X,11,none⟩ (.slice eo en ec))):=(Below.refl _ _).setCell (p:=⟨X,11,none⟩) (Nat.le_refl _) _
    have KX:((wd.setCell ⟨X,11,none⟩ (.slice eo en ec))).heap[X]?=some (.cells #[.int .i64 r0.1,.int .u64 r1.1,.int .u64 r2.1,.slice so sn sc,.slice qo qn qc,.int .u64 0,.int .u64 0,.int .u64 0,.int .i64 0,.slice none 0 0,.bool false,.slice eo en ec,.slice none 0 0] 41):=heap_setCell_same _ _ 11 _ _ _ KX
    have KY:=(SB.2 Y (by omega)).trans KY
    have OK:=OK.at FAR.out SB.2
    have EL:GL elS ((wd.setCell ⟨X,11,none⟩ (.slice eo en ec))) eo en ec el:=EL.kept elS_fine fun z hz=>SB.2 z (HEF.out z hz).2
    have RR:=RD.lowM B4 hpX
    have AW:=AW.set SB B4
    have OK:BM.ok { (bm r0.1 r1.1 r2.1 ⟨so,sn,sc,r3.1⟩ ⟨qo,qn,qc,ql⟩:BM) with s:=⟨eo,en,ec,el⟩ } ((wd.setCell ⟨X,11,none⟩ (.slice eo en ec))):=⟨OK.kind,OK.view,OK.seq,OK.sum,OK.q,OK.cl,OK.st,OK.vw,OK.e,OK.c,EL,OK.t⟩
    have FAR:Hid (BM.far { (bm r0.1 r1.1 r2.1 ⟨so,sn,sc,r3.1⟩ ⟨qo,qn,qc,ql⟩:BM) with s:=⟨eo,en,ec,el⟩ } p X):=fun z hz=>by
     rcases hz with hz | hz | hz | hz | hz
     ·exact FAR.out z (.inl hz)
     ·exact FAR.out z (.inr (.inl hz))
     ·exact FAR.out z (.inr (.inr (.inl hz)))
     ·exact HEF.out z hz
     ·exact FAR.out z (.inr (.inr (.inr (.inr hz))))
    clear EL HEF RD B4 SB
    go_wp2_with fail
    clear m0 f0
    obtain ⟨we,hwe⟩:∃ W,W=(wd.setCell ⟨X,11,none⟩ (.slice eo en ec)):=⟨_,rfl⟩
    rw [←hwe] at KX KY OK RR AW ⊢
    clear hwe
    have hXe:X < we.heap.size:=(Array.getElem?_eq_some_iff.1 KX).1
    have CI:=int_any we p p vs.2.1 vs.2.2 16 (by omega) RR.byte RR
    refine CI.mono ?_
    rintro e_ wf ⟨rfl,RF,GF⟩
    obtain ⟨r6,hr6⟩:∃ r,r=intS vs.2.1 vs.2.2 16:=⟨_,rfl⟩
    have h16:r6.1≤16:=by rw [hr6];exact intS_le vs.2.1 vs.2.2 16
    rw [←hr6] at RF ⊢
    have E8:Hid (r6=intS vs.2.1 vs.2.2 16):=hr6
    have KX:=(GF.block X hXe (by simp;omega)).trans KX
    have KY:=(GF.block Y (by omega) (by simp;omega)).trans KY
    have OK:=OK.gr FAR.out GF
    have AW:=AW.gr GF (by have:=AW.size;omega)
    have hXf:X < wf.heap.size:=Nat.lt_of_lt_of_le hXe GF.size
    clear CI hr6 GF RR hXe hXc
    obtain ⟨D,hD⟩:∃ D,D=wf.heap.size:=⟨_,rfl⟩
    have hDw:D≤wf.heap.size:=by omega
    have hXD:X < D:=by omega
    have hpD:p < D:=by omega
    have HD:Hid (D=wf.heap.size):=hD
    have h6i:(r6.1:Int)≤16:=by omega
    clear hD
    go_wp2_with fail
    go_loopw [40] (fun i wr=>∃ (j:Nat) (ao1:Option Addr) (n1 c1:Nat) (ys:List (LS SA)),j≤r6.1∧i=.int .i64 j∧wr.heap[X]?=some (.cells #[.int .i64 r0.1,.int .u64 r1.1,.int .u64 r2.1,.slice so sn sc,.slice qo qn qc,.int .u64 0,.int .u64 0,.int .u64 0,.int .i64 0,.slice none 0 0,.bool false,.slice eo en ec,.slice ao1 n1 c1] 41)∧GI elL 38 wr D (.slice ao1 n1 c1) ys∧ys.length=j∧Hid (ys.map (fun s=>s.l.map SA.v)=(repT vsT j r6.2.1 r6.2.2).1)∧R wr p p (repT vsT j r6.2.1 r6.2.2).2.1 (repT vsT j r6.2.1 r6.2.2).2.2∧Ag D p X wf wr∧Hid (∀ y∈ys,∀ z,elL.blk y z→D≤z)) (fun i _=>r6.1 - (intOf i).toNat)
    case atStart=>exact ⟨0,none,0,0,[],Nat.zero_le _,rfl,KX,GI.nil _ _ _ _,rfl,rfl,RF,Ag.refl _ _ _ _,fun _ h=>absurd h List.not_mem_nil⟩
    case round =>
     clear KX RF
     obtain ⟨j,ao1,n1,c1,ys,hj,rfl,KX,GR,hyl,HY,RR,AG,HL⟩:=hrel
     have hXr:X < wr.heap.size:=Nat.lt_of_lt_of_le hXf AG.size
     have hDr:D≤wr.heap.size:=Nat.le_trans hDw AG.size
     by_cases hlt:j < r6.1
     ·have hji:(j:Int) < (r6.1:Int):=by omega
      have hDv:D≤wr.drew.heap.size:=hDr
      have HS:Hid (repT vsT (j + 1) r6.2.1 r6.2.2=((repT vsT j r6.2.1 r6.2.2).1++[(vsT (repT vsT j r6.2.1 r6.2.2).2.1 (repT vsT j r6.2.1 r6.2.2).2.2).1],(vsT (repT vsT j r6.2.1 r6.2.2).2.1 (repT vsT j r6.2.1 r6.2.2).2.2).2)):=repT_snoc vsT j r6.2.1 r6.2.2
      generalize repT vsT j r6.2.1 r6.2.2=s at HY RR HS
      obtain ⟨sl,sx,sk⟩:=s
      simp only at HY RR HS
      clear KY OK AW
      go_wp2_with fail
      have E0:Below wr.heap.size wr wr.drew:=(Below.refl _ _).drew
      refine wp_region_noPanic ?_
      refine wp_region_held_drew (S:=fun _=>True) (by kernel_rfl) trivial (fun _=>?_)
      obtain ⟨v0,hv0⟩:∃ v,v=wr.drew:=⟨_,rfl⟩
      rw [←hv0] at E0 hDv ⊢
      clear hv0
      refine zT 0 (some 42) (.pointer (some ⟨X,12,none⟩)) rfl rfl (by kernel_rfl) rfl (fun W hW=>by go_simp) trivial ?_
      simp only [FL]
      refine zT 2 (some 44) (.pointer (some ⟨p,0,none⟩)) rfl rfl (by kernel_rfl) rfl (fun W hW=>by go_simp) trivial ?_
      simp only [FL]
      have K0:=(E0.block X hXr).trans KX
      have R0:=RR.below E0
      have GR0:=GR.below elL_fine E0
      have A0:=AG.below E0 (by omega)
      have hX0:X < v0.heap.size:=Nat.lt_of_lt_of_le hXr E0.size
      have CT:=takeTexts_any v0 p sx sk R0
      refine hr_two (i:=1) (j:=3) (by kernel_rfl) ?_ ?_
      ·refine op_ex 1 (some 43) rfl rfl rfl (R:=fun v w'=>.slice ao1 n1 c1=v∧v0=w') ⟨_,v0,by have lc:=cell_of_row v0 X 12 _ _ _ K0;go_simp,rfl,rfl⟩ ?_
       rintro v w' ⟨rfl,rfl⟩
       refine ⟨trivial,?_⟩
       simp only [FL]
       refine hr_call_w 3 (some 45) 42 #[.pointer (some ⟨p,0,none⟩)] rfl rfl (by kernel_rfl) rfl (by go_simp) (fun v w'=>∃ (toq:Option Addr) (tn tc:Nat) (tl:List SA),v=.slice toq tn tc∧GL elS w' toq tn tc tl∧tl.map SA.v=(vsT sx sk).1∧R w' p p (vsT sx sk).2.1 (vsT sx sk).2.2∧v0.grownBy w' (some p)∧∀ z,GLb elS toq tn tl z→v0.heap.size≤z) (CT.mono (by
        rintro e_ w' ⟨toq,tn,tc,tl,rfl,Y1,YV,R1,G1,YF⟩
        exact ⟨_,rfl,toq,tn,tc,tl,rfl,Y1,YV,R1,G1,YF⟩)) ?_
       rintro v v1 ⟨toq,tn,tc,tl,rfl,Y1,YV,R1,G1,YF⟩
       have K1:=(G1.block X hX0 (by simp;omega)).trans K0
       have GR1:=GR0.rdr elL_fine HL.out hpD G1
       have A1:=A0.gr G1 (by have:=E0.size;omega)
       have hX1:X < v1.heap.size:=Nat.lt_of_lt_of_le hX0 G1.size
       refine ⟨trivial,?_⟩
       simp only [FL]
       have Y1:elL.ok (⟨toq,tn,tc,tl⟩:LS SA) v1:=Y1
       have YF:∀ z,elL.blk (⟨toq,tn,tc,tl⟩:LS SA) z→v0.heap.size≤z:=YF
       have HV2:Hid ((ys++[(⟨toq,tn,tc,tl⟩:LS SA)]).map (fun s=>s.l.map SA.v)=(repT vsT (j + 1) r6.2.1 r6.2.2).1):=by
        show _=_
        rw [HS.out,List.map_append,HY.out,List.map_cons,List.map_nil,YV]
       have HS2:Hid ((repT vsT (j + 1) r6.2.1 r6.2.2).2=(vsT sx sk).2):=by
        show _=_
        rw [HS.out]
       have HL2:Hid (∀ y∈ys++[(⟨toq,tn,tc,tl⟩:LS SA)],∀ z,elL.blk y z→D≤z):=fun y hy z hz=>by
        rcases List.mem_append.1 hy with hy | hy
        ·exact HL.out y hy z hz
        ·rw [List.mem_singleton.1 hy] at hz
         exact Nat.le_trans hDv (YF z hz)
       clear YV
       refine hr_ex 4 (some 46) rfl rfl (by kernel_rfl) rfl (R:=fun v w'=>∃ g,v=.slice (some ⟨g,0,none⟩) 1 1∧w'.heap[g]?=some (.cells #[.slice toq tn tc] 38)∧Below v1.heap.size v1 w') ⟨_,_,by go_simp,_,rfl,heap_alloc_new _ _,(Below.refl _ _).alloc (Nat.le_refl _) _⟩ ?_
       rintro v v2 ⟨g,rfl,G,C2⟩
       have K2:=(C2.block X hX1).trans K1
       have GR2:=GR1.below elL_fine C2
       have A2:=A1.below C2 (by have:=hX1;have:=A1.size;omega)
       have R2:=R1.below C2
       have Y2:elL.ok (⟨toq,tn,tc,tl⟩:LS SA) v2:=elL_fine.below Y1 C2
       refine ⟨trivial,?_⟩
       simp only [FL]
       have hD2:D≤v2.heap.size:=Nat.le_trans hDw (A2.size)
       obtain ⟨v',W1,ha,GR3,B3,g3,ao2,n2,c2,rfl⟩:=GR2.app elL_fine tyL 39 (a:=⟨g,0,none⟩) (cp:=1) (y:=(⟨toq,tn,tc,tl⟩:LS SA)) (fun j u hu=>by
        rw [Addr.add_lit,Nat.zero_add,cell_of_row _ _ j _ _ _ G]
        simpa [elL,El.lists] using hu) Y2 (fun z hz e=>by
        have h1:=YF z hz
        have h2:=(GR0.own.lt z e).2
        omega) (by omega) (by unfold maxLen;omega) hD2
       refine hr_ex 5 (some 47) rfl rfl (by kernel_rfl) rfl (R:=fun v w'=>(.slice ao2 n2 c2)=v∧W1=w') ⟨_,W1,by simp [execOp,Act.eval,resolve,invoke,builtin,ha],rfl,rfl⟩ ?_
       rintro v w' ⟨rfl,rfl⟩
       refine ⟨trivial,?_⟩
       simp only [FL]
       have K3:=(B3.block X hXD).trans K2
       have m0:=cell_of_row W1 X 12 _ _ _ K3
       have f0:W1.frozen? ⟨X,12,none⟩=false:=frozen_of_row W1 X 12 _ _ K3
       refine zT 6 (some 48) (.pointer (some ⟨X,12,none⟩)) rfl rfl (by kernel_rfl) rfl (fun W hW=>by go_simp) trivial ?_
       simp only [FL]
       refine hr_skip 7 none (w':=W1.setCell ⟨X,12,none⟩ (.slice ao2 n2 c2)) rfl rfl (by kernel_rfl) rfl (by go_simp) trivial ?_
       simp only [Act.put]
       refine wpAnyH_done (by kernel_rfl) ?_ _
       refine NoPanic.normal ?_
       have SB:=same_set W1 X 12 (.slice ao2 n2 c2)
       have K4:(W1.setCell ⟨X,12,none⟩ (.slice ao2 n2 c2)).heap[X]?=some (.cells #[.int .i64 r0.1,.int .u64 r1.1,.int .u64 r2.1,.slice so sn sc,.slice qo qn qc,.int .u64 0,.int .u64 0,.int .u64 0,.int .i64 0,.slice none 0 0,.bool false,.slice eo en ec,.slice ao2 n2 c2] 41):=heap_setCell_same _ _ 12 _ _ _ K3
       have GR4:GI elL 38 (W1.setCell ⟨X,12,none⟩ (.slice ao2 n2 c2)) D (.slice ao2 n2 c2) (ys++[(⟨toq,tn,tc,tl⟩:LS SA)]):=GR3.kept elL_fine fun z hz=>SB.2 z (by
        rcases hz with hz | ⟨y,hy,hz⟩
        ·have:=(GR3.own.lt z hz).1
         omega
        ·have:=HL2.out y hy z hz
         omega)
       have B4:Below X W1 (W1.setCell ⟨X,12,none⟩ (.slice ao2 n2 c2)):=(Below.refl _ _).setCell (p:=⟨X,12,none⟩) (Nat.le_refl _) _
       have R4:=(R2.lowM B3 hpD).lowM B4 hpX
       have A4:=(A2.below3 B3).set SB B4
       clear SB B4 K3 m0 f0 GR3 B3 g3 ha G
       obtain ⟨wz,hwz⟩:∃ W,W=W1.setCell ⟨X,12,none⟩ (.slice ao2 n2 c2):=⟨_,rfl⟩
       rw [←hwz] at K4 GR4 R4 A4 ⊢
       clear hwz
       go_wp2
       go_roundw
       case rel=>exact ⟨j + 1,ao2,n2,c2,ys++[(⟨toq,tn,tc,tl⟩:LS SA)],by omega,by go_num,K4,GR4,by simp [hyl],HV2,by rw [HS2.out];exact R4,A4,HL2⟩
       case measure=>simp [intOf];omega
      ·refine op_calls 3 (some 45) 42 #[.pointer (some ⟨p,0,none⟩)] rfl rfl rfl (by go_simp) (fun v w'=>∃ (toq:Option Addr) (tn tc:Nat) (tl:List SA),v=.slice toq tn tc∧GL elS w' toq tn tc tl∧tl.map SA.v=(vsT sx sk).1∧R w' p p (vsT sx sk).2.1 (vsT sx sk).2.2∧v0.grownBy w' (some p)∧∀ z,GLb elS toq tn tl z→v0.heap.size≤z) (CT.mono (by
        rintro e_ w' ⟨toq,tn,tc,tl,rfl,Y1,YV,R1,G1,YF⟩
        exact ⟨_,rfl,toq,tn,tc,tl,rfl,Y1,YV,R1,G1,YF⟩)) ?_
       rintro v v1 ⟨toq,tn,tc,tl,rfl,Y1,YV,R1,G1,YF⟩
       have K1:=(G1.block X hX0 (by simp;omega)).trans K0
       have GR1:=GR0.rdr elL_fine HL.out hpD G1
       have A1:=A0.gr G1 (by have:=E0.size;omega)
       have hX1:X < v1.heap.size:=Nat.lt_of_lt_of_le hX0 G1.size
       refine ⟨trivial,?_⟩
       simp only [FL]
       have Y1:elL.ok (⟨toq,tn,tc,tl⟩:LS SA) v1:=Y1
       have YF:∀ z,elL.blk (⟨toq,tn,tc,tl⟩:LS SA) z→v0.heap.size≤z:=YF
       have HV2:Hid ((ys++[(⟨toq,tn,tc,tl⟩:LS SA)]).map (fun s=>s.l.map SA.v)=(repT vsT (j + 1) r6.2.1 r6.2.2).1):=by
        show _=_
        rw [HS.out,List.map_append,HY.out,List.map_cons,List.map_nil,YV]
       have HS2:Hid ((repT vsT (j + 1) r6.2.1 r6.2.2).2=(vsT sx sk).2):=by
        show _=_
        rw [HS.out]
       have HL2:Hid (∀ y∈ys++[(⟨toq,tn,tc,tl⟩:LS SA)],∀ z,elL.blk y z→D≤z):=fun y hy z hz=>by
        rcases List.mem_append.1 hy with hy | hy
        ·exact HL.out y hy z hz
        ·rw [List.mem_singleton.1 hy] at hz
         exact Nat.le_trans hDv (YF z hz)
       clear YV
       refine hr_two (i:=1) (j:=4) (by kernel_rfl) ?_ ?_
       ·refine op_ex 1 (some 43) rfl rfl rfl (R:=fun v w'=>.slice ao1 n1 c1=v∧v1=w') ⟨_,v1,by have lc:=cell_of_row v1 X 12 _ _ _ K1;go_simp,rfl,rfl⟩ ?_
        rintro v w' ⟨rfl,rfl⟩
        refine ⟨trivial,?_⟩
        simp only [FL]
        refine hr_ex 4 (some 46) rfl rfl (by kernel_rfl) rfl (R:=fun v w'=>∃ g,v=.slice (some ⟨g,0,none⟩) 1 1∧w'.heap[g]?=some (.cells #[.slice toq tn tc] 38)∧Below v1.heap.size v1 w') ⟨_,_,by go_simp,_,rfl,heap_alloc_new _ _,(Below.refl _ _).alloc (Nat.le_refl _) _⟩ ?_
        rintro v v2 ⟨g,rfl,G,C2⟩
        have K2:=(C2.block X hX1).trans K1
        have GR2:=GR1.below elL_fine C2
        have A2:=A1.below C2 (by have:=hX1;have:=A1.size;omega)
        have R2:=R1.below C2
        have Y2:elL.ok (⟨toq,tn,tc,tl⟩:LS SA) v2:=elL_fine.below Y1 C2
        refine ⟨trivial,?_⟩
        simp only [FL]
        have hD2:D≤v2.heap.size:=Nat.le_trans hDw (A2.size)
        obtain ⟨v',W1,ha,GR3,B3,g3,ao2,n2,c2,rfl⟩:=GR2.app elL_fine tyL 39 (a:=⟨g,0,none⟩) (cp:=1) (y:=(⟨toq,tn,tc,tl⟩:LS SA)) (fun j u hu=>by
         rw [Addr.add_lit,Nat.zero_add,cell_of_row _ _ j _ _ _ G]
         simpa [elL,El.lists] using hu) Y2 (fun z hz e=>by
         have h1:=YF z hz
         have h2:=(GR0.own.lt z e).2
         omega) (by omega) (by unfold maxLen;omega) hD2
        refine hr_ex 5 (some 47) rfl rfl (by kernel_rfl) rfl (R:=fun v w'=>(.slice ao2 n2 c2)=v∧W1=w') ⟨_,W1,by simp [execOp,Act.eval,resolve,invoke,builtin,ha],rfl,rfl⟩ ?_
        rintro v w' ⟨rfl,rfl⟩
        refine ⟨trivial,?_⟩
        simp only [FL]
        have K3:=(B3.block X hXD).trans K2
        have m0:=cell_of_row W1 X 12 _ _ _ K3
        have f0:W1.frozen? ⟨X,12,none⟩=false:=frozen_of_row W1 X 12 _ _ K3
        refine zT 6 (some 48) (.pointer (some ⟨X,12,none⟩)) rfl rfl (by kernel_rfl) rfl (fun W hW=>by go_simp) trivial ?_
        simp only [FL]
        refine hr_skip 7 none (w':=W1.setCell ⟨X,12,none⟩ (.slice ao2 n2 c2)) rfl rfl (by kernel_rfl) rfl (by go_simp) trivial ?_
        simp only [Act.put]
        refine wpAnyH_done (by kernel_rfl) ?_ _
        refine NoPanic.normal ?_
        have SB:=same_set W1 X 12 (.slice ao2 n2 c2)
        have K4:(W1.setCell ⟨X,12,none⟩ (.slice ao2 n2 c2)).heap[X]?=some (.cells #[.int .i64 r0.1,.int .u64 r1.1,.int .u64 r2.1,.slice so sn sc,.slice qo qn qc,.int .u64 0,.int .u64 0,.int .u64 0,.int .i64 0,.slice none 0 0,.bool false,.slice eo en ec,.slice ao2 n2 c2] 41):=heap_setCell_same _ _ 12 _ _ _ K3
        have GR4:GI elL 38 (W1.setCell ⟨X,12,none⟩ (.slice ao2 n2 c2)) D (.slice ao2 n2 c2) (ys++[(⟨toq,tn,tc,tl⟩:LS SA)]):=GR3.kept elL_fine fun z hz=>SB.2 z (by
         rcases hz with hz | ⟨y,hy,hz⟩
         ·have:=(GR3.own.lt z hz).1
          omega
         ·have:=HL2.out y hy z hz
          omega)
        have B4:Below X W1 (W1.setCell ⟨X,12,none⟩ (.slice ao2 n2 c2)):=(Below.refl _ _).setCell (p:=⟨X,12,none⟩) (Nat.le_refl _) _
        have R4:=(R2.lowM B3 hpD).lowM B4 hpX
        have A4:=(A2.below3 B3).set SB B4
        clear SB B4 K3 m0 f0 GR3 B3 g3 ha G
        obtain ⟨wz,hwz⟩:∃ W,W=W1.setCell ⟨X,12,none⟩ (.slice ao2 n2 c2):=⟨_,rfl⟩
        rw [←hwz] at K4 GR4 R4 A4 ⊢
        clear hwz
        go_wp2
        go_roundw
        case rel=>exact ⟨j + 1,ao2,n2,c2,ys++[(⟨toq,tn,tc,tl⟩:LS SA)],by omega,by go_num,K4,GR4,by simp [hyl],HV2,by rw [HS2.out];exact R4,A4,HL2⟩
        case measure=>simp [intOf];omega
       ·refine op_ex 4 (some 46) rfl rfl rfl (R:=fun v w'=>∃ g,v=.slice (some ⟨g,0,none⟩) 1 1∧w'.heap[g]?=some (.cells #[.slice toq tn tc] 38)∧Below v1.heap.size v1 w') ⟨_,_,by go_simp,_,rfl,heap_alloc_new _ _,(Below.refl _ _).alloc (Nat.le_refl _) _⟩ ?_
        rintro v v2 ⟨g,rfl,G,C2⟩
        have K2:=(C2.block X hX1).trans K1
        have GR2:=GR1.below elL_fine C2
        have A2:=A1.below C2 (by have:=hX1;have:=A1.size;omega)
        have R2:=R1.below C2
        have Y2:elL.ok (⟨toq,tn,tc,tl⟩:LS SA) v2:=elL_fine.below Y1 C2
        refine ⟨trivial,?_⟩
        simp only [FL]
        refine hr_ex 1 (some 43) rfl rfl (by kernel_rfl) rfl (R:=fun v w'=>.slice ao1 n1 c1=v∧v2=w') ⟨_,v2,by have lc:=cell_of_row v2 X 12 _ _ _ K2;go_simp,rfl,rfl⟩ ?_
        rintro v w' ⟨rfl,rfl⟩
        refine ⟨trivial,?_⟩
        simp only [FL]
        have hD2:D≤v2.heap.size:=Nat.le_trans hDw (A2.size)
        obtain ⟨v',W1,ha,GR3,B3,g3,ao2,n2,c2,rfl⟩:=GR2.app elL_fine tyL 39 (a:=⟨g,0,none⟩) (cp:=1) (y:=(⟨toq,tn,tc,tl⟩:LS SA)) (fun j u hu=>by
         rw [Addr.add_lit,Nat.zero_add,cell_of_row _ _ j _ _ _ G]
         simpa [elL,El.lists] using hu) Y2 (fun z hz e=>by
         have h1:=YF z hz
         have h2:=(GR0.own.lt z e).2
         omega) (by omega) (by unfold maxLen;omega) hD2
        refine hr_ex 5 (some 47) rfl rfl (by kernel_rfl) rfl (R:=fun v w'=>(.slice ao2 n2 c2)=v∧W1=w') ⟨_,W1,by simp [execOp,Act.eval,resolve,invoke,builtin,ha],rfl,rfl⟩ ?_
        rintro v w' ⟨rfl,rfl⟩
        refine ⟨trivial,?_⟩
        simp only [FL]
        have K3:=(B3.block X hXD).trans K2
        have m0:=cell_of_row W1 X 12 _ _ _ K3
        have f0:W1.frozen? ⟨X,12,none⟩=false:=frozen_of_row W1 X 12 _ _ K3
        refine zT 6 (some 48) (.pointer (some ⟨X,12,none⟩)) rfl rfl (by kernel_rfl) rfl (fun W hW=>by go_simp) trivial ?_
        simp only [FL]
        refine hr_skip 7 none (w':=W1.setCell ⟨X,12,none⟩ (.slice ao2 n2 c2)) rfl rfl (by kernel_rfl) rfl (by go_simp) trivial ?_
        simp only [Act.put]
        refine wpAnyH_done (by kernel_rfl) ?_ _
        refine NoPanic.normal ?_
        have SB:=same_set W1 X 12 (.slice ao2 n2 c2)
        have K4:(W1.setCell ⟨X,12,none⟩ (.slice ao2 n2 c2)).heap[X]?=some (.cells #[.int .i64 r0.1,.int .u64 r1.1,.int .u64 r2.1,.slice so sn sc,.slice qo qn qc,.int .u64 0,.int .u64 0,.int .u64 0,.int .i64 0,.slice none 0 0,.bool false,.slice eo en ec,.slice ao2 n2 c2] 41):=heap_setCell_same _ _ 12 _ _ _ K3
        have GR4:GI elL 38 (W1.setCell ⟨X,12,none⟩ (.slice ao2 n2 c2)) D (.slice ao2 n2 c2) (ys++[(⟨toq,tn,tc,tl⟩:LS SA)]):=GR3.kept elL_fine fun z hz=>SB.2 z (by
         rcases hz with hz | ⟨y,hy,hz⟩
         ·have:=(GR3.own.lt z hz).1
          omega
         ·have:=HL2.out y hy z hz
          omega)
        have B4:Below X W1 (W1.setCell ⟨X,12,none⟩ (.slice ao2 n2 c2)):=(Below.refl _ _).setCell (p:=⟨X,12,none⟩) (Nat.le_refl _) _
        have R4:=(R2.lowM B3 hpD).lowM B4 hpX
        have A4:=(A2.below3 B3).set SB B4
        clear SB B4 K3 m0 f0 GR3 B3 g3 ha G
        obtain ⟨wz,hwz⟩:∃ W,W=W1.setCell ⟨X,12,none⟩ (.slice ao2 n2 c2):=⟨_,rfl⟩
        rw [←hwz] at K4 GR4 R4 A4 ⊢
        clear hwz
        go_wp2
        go_roundw
        case rel=>exact ⟨j + 1,ao2,n2,c2,ys++[(⟨toq,tn,tc,tl⟩:LS SA)],by omega,by go_num,K4,GR4,by simp [hyl],HV2,by rw [HS2.out];exact R4,A4,HL2⟩
        case measure=>simp [intOf];omega
     ·have hge:(r6.1:Int)≤(j:Int):=by omega
      obtain rfl:j=r6.1:=by omega
      obtain ⟨GLt,hlo⟩:=GR.gls elL_fine
      obtain ⟨ss,hss⟩:∃ s,s=repT vsT r6.1 r6.2.1 r6.2.2:=⟨_,rfl⟩
      rw [←hss] at HY RR
      have E9:Hid (ss=repT vsT r6.1 r6.2.1 r6.2.2):=hss
      have KY:=(AG.block Y (by omega) (by omega) (by omega)).trans KY
      have OK:=OK.ag FAR.out (by rw [←HD.out];exact AG)
      have AW:=AW.trans (AG.mono (by have:=AW.size;omega))
      obtain ⟨x,hx⟩:∃ x:BM,x={ (bm r0.1 r1.1 r2.1 ⟨so,sn,sc,r3.1⟩ ⟨qo,qn,qc,ql⟩:BM) with s:=⟨eo,en,ec,el⟩,t:=⟨ao1,n1,c1,ys⟩ }:=⟨_,rfl⟩
      have XOK:x.ok wr:=by rw [hx];exact ⟨OK.kind,OK.view,OK.seq,OK.sum,OK.q,OK.cl,OK.st,OK.vw,OK.e,OK.c,OK.s,GLt⟩
      have KB:BC wr X x:=by rw [hx];exact KX
      have XV:Hid (x.v=(bT xs 0).1∧(bT xs 0).2=ss.2):=by
       have eb:=bT_eq E0_.out E1_.out E2_.out E3_.out E4_.out E5_.out E6_.out E7.out E8.out E9.out
       rw [eb]
       refine ⟨?_,rfl⟩
       rw [hx]
       show (⟨(r0.1:Int),r1.1,r2.1,r3.1,ql.map QM.v,(⟨0,0,0,resR 0 [] false⟩:PV),el.map SA.v,ys.map fun s=>s.l.map SA.v⟩:BV)=_
       rw [HQV.out,HEV.out,HY.out,HPV.out]
      have XN:Hid (∀ q∈x.q.l,∀ y∈q.l,y.sn=0):=by rw [hx];exact HQN.out
      have XFY:Hid (∀ z,x.blk z→z≠Y):=fun z hz=>by
       rw [hx] at hz
       rcases hz with hz | hz | hz | hz | hz
       ·have:=(FAR.out z (.inl hz)).1;omega
       ·have:=(FAR.out z (.inr (.inl hz))).1;omega
       ·have:=(FAR.out z (.inr (.inr (.inl hz)))).1;omega
       ·have:=(FAR.out z (.inr (.inr (.inr (.inl hz))))).1;omega
       ·rcases hz with hz | ⟨y,hy,hz⟩
        ·have:=hlo z hz;omega
        ·have:=HL.out y hy z hz;omega
      have HBW:Hid (Below Y w wr):=AW.bel (by omega) (by omega)
      clear hx GR GLt hlo HL HY OK FAR AW AG hss KX E0_ E1_ E2_ E3_ E4_ E5_ E6_ E7 E8 E9 HQV HEV HQN HPV HD
      have hYr:Y < wr.heap.size:=(Array.getElem?_eq_some_iff.1 KY).1
      have CD:=done_any wr p p ss.2.1 ss.2.2 RR
      obtain ⟨d,hd⟩:∃ d,d=doneS ss.2.1 ss.2.2:=⟨_,rfl⟩
      rw [←hd] at CD
      have HDD:Hid (doneS (bT xs 0).2.1 (bT xs 0).2.2=d):=by show _=_;rw [XV.out.2,hd]
      clear hd
      by_cases hd0:d=0
      ·subst hd0
       have CR:=isRight_any wr x XOK
       unfold BM.val at CR
       obtain ⟨k0,k1,k2,k3,k4,k5,k6,k7,k8,k9,k10,k11,k12⟩:=KB.cs
       cases hr:rightM x with
       | false =>
        rw [hr] at CR
        have HF:Hid (¬(doneS (bT xs 0).2.1 (bT xs 0).2.2=0∧rightM x=true)):=fun h=>by rw [hr] at h;cases h.2
        go_wp2_with (first
         | (go_at_call 43;refine CD.mono ?_;rintro e_ wg ⟨rfl,hw⟩;obtain rfl:=hw.symm;clear hw)
         | (go_at_call 18;refine CR.mono ?_;rintro e_ wh ⟨rfl,CH⟩;have KY:=(CH.block Y hYr).trans KY;have XOK:=XOK.below CH;have HBW:Hid (Below Y w wh):=HBW.out.trans (CH.mono (by omega));clear CH CR k0 k1 k2 k3 k4 k5 k6 k7 k8 k9 k10 k11 k12;have n0:wh.cell? ⟨Y,0,none⟩=some (.int .i64 0):=cell_of_row wh Y 0 _ _ _ KY;have g0:wh.frozen? ⟨Y,0,none⟩=false:=frozen_of_row wh Y 0 _ _ KY;have n1:wh.cell? ⟨Y,1,none⟩=some (.int .u64 0):=cell_of_row wh Y 1 _ _ _ KY;have g1:wh.frozen? ⟨Y,1,none⟩=false:=frozen_of_row wh Y 1 _ _ KY;have n2:wh.cell? ⟨Y,2,none⟩=some (.int .u64 0):=cell_of_row wh Y 2 _ _ _ KY;have g2:wh.frozen? ⟨Y,2,none⟩=false:=frozen_of_row wh Y 2 _ _ KY;have n3:wh.cell? ⟨Y,3,none⟩=some (.slice none 0 0):=cell_of_row wh Y 3 _ _ _ KY;have g3:wh.frozen? ⟨Y,3,none⟩=false:=frozen_of_row wh Y 3 _ _ KY;have n4:wh.cell? ⟨Y,4,none⟩=some (.slice none 0 0):=cell_of_row wh Y 4 _ _ _ KY;have g4:wh.frozen? ⟨Y,4,none⟩=false:=frozen_of_row wh Y 4 _ _ KY;have n5:wh.cell? ⟨Y,5,none⟩=some (.int .u64 0):=cell_of_row wh Y 5 _ _ _ KY;have g5:wh.frozen? ⟨Y,5,none⟩=false:=frozen_of_row wh Y 5 _ _ KY;have n6:wh.cell? ⟨Y,6,none⟩=some (.int .u64 0):=cell_of_row wh Y 6 _ _ _ KY;have g6:wh.frozen? ⟨Y,6,none⟩=false:=frozen_of_row wh Y 6 _ _ KY;have n7:wh.cell? ⟨Y,7,none⟩=some (.int .u64 0):=cell_of_row wh Y 7 _ _ _ KY;have g7:wh.frozen? ⟨Y,7,none⟩=false:=frozen_of_row wh Y 7 _ _ KY;have n8:wh.cell? ⟨Y,8,none⟩=some (.int .i64 0):=cell_of_row wh Y 8 _ _ _ KY;have g8:wh.frozen? ⟨Y,8,none⟩=false:=frozen_of_row wh Y 8 _ _ KY;have n9:wh.cell? ⟨Y,9,none⟩=some (.slice none 0 0):=cell_of_row wh Y 9 _ _ _ KY;have g9:wh.frozen? ⟨Y,9,none⟩=false:=frozen_of_row wh Y 9 _ _ KY;have n10:wh.cell? ⟨Y,10,none⟩=some (.bool false):=cell_of_row wh Y 10 _ _ _ KY;have g10:wh.frozen? ⟨Y,10,none⟩=false:=frozen_of_row wh Y 10 _ _ KY;have n11:wh.cell? ⟨Y,11,none⟩=some (.slice none 0 0):=cell_of_row wh Y 11 _ _ _ KY;have g11:wh.frozen? ⟨Y,11,none⟩=false:=frozen_of_row wh Y 11 _ _ KY;have n12:wh.cell? ⟨Y,12,none⟩=some (.slice none 0 0):=cell_of_row wh Y 12 _ _ _ KY;have g12:wh.frozen? ⟨Y,12,none⟩=false:=frozen_of_row wh Y 12 _ _ KY))
        have SB:((((((((((((((wh.setCell ⟨Y,0,none⟩ (.int .i64 0)).setCell ⟨Y,1,none⟩ (.int .u64 0)).setCell ⟨Y,2,none⟩ (.int .u64 0)).setCell ⟨Y,3,none⟩ (.slice none 0 0)).setCell ⟨Y,4,none⟩ (.slice none 0 0)).setCell ⟨Y,5,none⟩ (.int .u64 0)).setCell ⟨Y,6,none⟩ (.int .u64 0)).setCell ⟨Y,7,none⟩ (.int .u64 0)).setCell ⟨Y,8,none⟩ (.int .i64 0)).setCell ⟨Y,9,none⟩ (.slice none 0 0)).setCell ⟨Y,10,none⟩ (.bool false)).setCell ⟨Y,11,none⟩ (.slice none 0 0)).setCell ⟨Y,12,none⟩ (.slice none 0 0))).heap.size=wh.heap.size∧∀ j,j≠Y→((((((((((((((wh.setCell ⟨Y,0,none⟩ (.int .i64 0)).setCell ⟨Y,1,none⟩ (.int .u64 0)).setCell ⟨Y,2,none⟩ (.int .u64 0)).setCell ⟨Y,3,none⟩ (.slice none 0 0)).setCell ⟨Y,4,none⟩ (.slice none 0 0)).setCell ⟨Y,5,none⟩ (.int .u64 0)).setCell ⟨Y,6,none⟩ (.int .u64 0)).setCell ⟨Y,7,none⟩ (.int .u64 0)).setCell ⟨Y,8,none⟩ (.int .i64 0)).setCell ⟨Y,9,none⟩ (.slice none 0 0)).setCell ⟨Y,10,none⟩ (.bool false)).setCell ⟨Y,11,none⟩ (.slice none 0 0)).setCell ⟨Y,12,none⟩ (.slice none 0 0))).heap[j]?=wh.heap[j]?:=SameBut.trans (SameBut.trans (SameBut.trans (SameBut.trans (SameBut.trans (SameBut.trans (SameBut.trans (SameBut.trans (SameBut.trans (SameBut.trans (SameBut.trans (SameBut.trans (same_set _ _ _ _) (same_set _ _ _ _)) (same_set _ _ _ _)) (same_set _ _ _ _)) (same_set _ _ _ _)) (same_set _ _ _ _)) (same_set _ _ _ _)) (same_set _ _ _ _)) (same_set _ _ _ _)) (same_set _ _ _ _)) (same_set _ _ _ _)) (same_set _ _ _ _)) (same_set _ _ _ _)
        have BF:Below Y wh ((((((((((((((wh.setCell ⟨Y,0,none⟩ (.int .i64 0)).setCell ⟨Y,1,none⟩ (.int .u64 0)).setCell ⟨Y,2,none⟩ (.int .u64 0)).setCell ⟨Y,3,none⟩ (.slice none 0 0)).setCell ⟨Y,4,none⟩ (.slice none 0 0)).setCell ⟨Y,5,none⟩ (.int .u64 0)).setCell ⟨Y,6,none⟩ (.int .u64 0)).setCell ⟨Y,7,none⟩ (.int .u64 0)).setCell ⟨Y,8,none⟩ (.int .i64 0)).setCell ⟨Y,9,none⟩ (.slice none 0 0)).setCell ⟨Y,10,none⟩ (.bool false)).setCell ⟨Y,11,none⟩ (.slice none 0 0)).setCell ⟨Y,12,none⟩ (.slice none 0 0))):=(((((((((((((Below.refl _ _).setCell (p:=⟨Y,0,none⟩) (Nat.le_refl _) _).setCell (p:=⟨Y,1,none⟩) (Nat.le_refl _) _).setCell (p:=⟨Y,2,none⟩) (Nat.le_refl _) _).setCell (p:=⟨Y,3,none⟩) (Nat.le_refl _) _).setCell (p:=⟨Y,4,none⟩) (Nat.le_refl _) _).setCell (p:=⟨Y,5,none⟩) (Nat.le_refl _) _).setCell (p:=⟨Y,6,none⟩) (Nat.le_refl _) _).setCell (p:=⟨Y,7,none⟩) (Nat.le_refl _) _).setCell (p:=⟨Y,8,none⟩) (Nat.le_refl _) _).setCell (p:=⟨Y,9,none⟩) (Nat.le_refl _) _).setCell (p:=⟨Y,10,none⟩) (Nat.le_refl _) _).setCell (p:=⟨Y,11,none⟩) (Nat.le_refl _) _).setCell (p:=⟨Y,12,none⟩) (Nat.le_refl _) _
        refine bodyPost_ret (v:=.tuple #[.agg #[.int .i64 0,.int .u64 0,.int .u64 0,.slice none 0 0,.slice none 0 0,.int .u64 0,.int .u64 0,.int .u64 0,.int .i64 0,.slice none 0 0,.bool false,.slice none 0 0,.slice none 0 0],.int .i64 3]) (by simp [results,Tryz.results12,go_sem,n0,n1,n2,n3,n4,n5,n6,n7,n8,n9,n10,n11,n12]) rfl ?_
        exact ⟨x,XOK.agree (fun z hz=>SB.2 z (XFY.out z hz)),XN.out,XV.out.1,by rw [if_neg HF.out],by rw [←HY0.out];exact HBW.out.trans BF⟩
       | true =>
        rw [hr] at CR
        have HF:Hid (doneS (bT xs 0).2.1 (bT xs 0).2.2=0∧rightM x=true):=⟨HDD.out,hr⟩
        go_wp2_with (first
         | (go_at_call 43;refine CD.mono ?_;rintro e_ wg ⟨rfl,hw⟩;obtain rfl:=hw.symm;clear hw)
         | (go_at_call 18;refine CR.mono ?_;rintro e_ wh ⟨rfl,CH⟩;have KY:=(CH.block Y hYr).trans KY;have KB:=KB.keep CH;have XOK:=XOK.below CH;have HBW:Hid (Below Y w wh):=HBW.out.trans (CH.mono (by omega));clear CH CR k0 k1 k2 k3 k4 k5 k6 k7 k8 k9 k10 k11 k12;obtain ⟨k0,k1,k2,k3,k4,k5,k6,k7,k8,k9,k10,k11,k12⟩:=KB.cs;have n0:wh.cell? ⟨Y,0,none⟩=some (.int .i64 0):=cell_of_row wh Y 0 _ _ _ KY;have g0:wh.frozen? ⟨Y,0,none⟩=false:=frozen_of_row wh Y 0 _ _ KY;have n1:wh.cell? ⟨Y,1,none⟩=some (.int .u64 0):=cell_of_row wh Y 1 _ _ _ KY;have g1:wh.frozen? ⟨Y,1,none⟩=false:=frozen_of_row wh Y 1 _ _ KY;have n2:wh.cell? ⟨Y,2,none⟩=some (.int .u64 0):=cell_of_row wh Y 2 _ _ _ KY;have g2:wh.frozen? ⟨Y,2,none⟩=false:=frozen_of_row wh Y 2 _ _ KY;have n3:wh.cell? ⟨Y,3,none⟩=some (.slice none 0 0):=cell_of_row wh Y 3 _ _ _ KY;have g3:wh.frozen? ⟨Y,3,none⟩=false:=frozen_of_row wh Y 3 _ _ KY;have n4:wh.cell? ⟨Y,4,none⟩=some (.slice none 0 0):=cell_of_row wh Y 4 _ _ _ KY;have g4:wh.frozen? ⟨Y,4,none⟩=false:=frozen_of_row wh Y 4 _ _ KY;have n5:wh.cell? ⟨Y,5,none⟩=some (.int .u64 0):=cell_of_row wh Y 5 _ _ _ KY;have g5:wh.frozen? ⟨Y,5,none⟩=false:=frozen_of_row wh Y 5 _ _ KY;have n6:wh.cell? ⟨Y,6,none⟩=some (.int .u64 0):=cell_of_row wh Y 6 _ _ _ KY;have g6:wh.frozen? ⟨Y,6,none⟩=false:=frozen_of_row wh Y 6 _ _ KY;have n7:wh.cell? ⟨Y,7,none⟩=some (.int .u64 0):=cell_of_row wh Y 7 _ _ _ KY;have g7:wh.frozen? ⟨Y,7,none⟩=false:=frozen_of_row wh Y 7 _ _ KY;have n8:wh.cell? ⟨Y,8,none⟩=some (.int .i64 0):=cell_of_row wh Y 8 _ _ _ KY;have g8:wh.frozen? ⟨Y,8,none⟩=false:=frozen_of_row wh Y 8 _ _ KY;have n9:wh.cell? ⟨Y,9,none⟩=some (.slice none 0 0):=cell_of_row wh Y 9 _ _ _ KY;have g9:wh.frozen? ⟨Y,9,none⟩=false:=frozen_of_row wh Y 9 _ _ KY;have n10:wh.cell? ⟨Y,10,none⟩=some (.bool false):=cell_of_row wh Y 10 _ _ _ KY;have g10:wh.frozen? ⟨Y,10,none⟩=false:=frozen_of_row wh Y 10 _ _ KY;have n11:wh.cell? ⟨Y,11,none⟩=some (.slice none 0 0):=cell_of_row wh Y 11 _ _ _ KY;have g11:wh.frozen? ⟨Y,11,none⟩=false:=frozen_of_row wh Y 11 _ _ KY;have n12:wh.cell? ⟨Y,12,none⟩=some (.slice none 0 0):=cell_of_row wh Y 12 _ _ _ KY;have g12:wh.frozen? ⟨Y,12,none⟩=false:=frozen_of_row wh Y 12 _ _ KY))
        have SB:((((((((((((((wh.setCell ⟨Y,0,none⟩ (.int .i64 x.kind)).setCell ⟨Y,1,none⟩ (.int .u64 x.view)).setCell ⟨Y,2,none⟩ (.int .u64 x.seq)).setCell ⟨Y,3,none⟩ (.slice x.sum.ao x.sum.n x.sum.cap)).setCell ⟨Y,4,none⟩ (.slice x.q.ao x.q.n x.q.cap)).setCell ⟨Y,5,none⟩ (.int .u64 x.cl)).setCell ⟨Y,6,none⟩ (.int .u64 x.st)).setCell ⟨Y,7,none⟩ (.int .u64 x.vw)).setCell ⟨Y,8,none⟩ (.int .i64 x.e)).setCell ⟨Y,9,none⟩ (.slice x.c.ao x.c.n x.c.cap)).setCell ⟨Y,10,none⟩ (.bool x.more)).setCell ⟨Y,11,none⟩ (.slice x.s.ao x.s.n x.s.cap)).setCell ⟨Y,12,none⟩ (.slice x.t.ao x.t.n x.t.cap))).heap.size=wh.heap.size∧∀ j,j≠Y→((((((((((((((wh.setCell ⟨Y,0,none⟩ (.int .i64 x.kind)).setCell ⟨Y,1,none⟩ (.int .u64 x.view)).setCell ⟨Y,2,none⟩ (.int .u64 x.seq)).setCell ⟨Y,3,none⟩ (.slice x.sum.ao x.sum.n x.sum.cap)).setCell ⟨Y,4,none⟩ (.slice x.q.ao x.q.n x.q.cap)).setCell ⟨Y,5,none⟩ (.int .u64 x.cl)).setCell ⟨Y,6,none⟩ (.int .u64 x.st)).setCell ⟨Y,7,none⟩ (.int .u64 x.vw)).setCell ⟨Y,8,none⟩ (.int .i64 x.e)).setCell ⟨Y,9,none⟩ (.slice x.c.ao x.c.n x.c.cap)).setCell ⟨Y,10,none⟩ (.bool x.more)).setCell ⟨Y,11,none⟩ (.slice x.s.ao x.s.n x.s.cap)).setCell ⟨Y,12,none⟩ (.slice x.t.ao x.t.n x.t.cap))).heap[j]?=wh.heap[j]?:=SameBut.trans (SameBut.trans (SameBut.trans (SameBut.trans (SameBut.trans (SameBut.trans (SameBut.trans (SameBut.trans (SameBut.trans (SameBut.trans (SameBut.trans (SameBut.trans (same_set _ _ _ _) (same_set _ _ _ _)) (same_set _ _ _ _)) (same_set _ _ _ _)) (same_set _ _ _ _)) (same_set _ _ _ _)) (same_set _ _ _ _)) (same_set _ _ _ _)) (same_set _ _ _ _)) (same_set _ _ _ _)) (same_set _ _ _ _)) (same_set _ _ _ _)) (same_set _ _ _ _)
        have BF:Below Y wh ((((((((((((((wh.setCell ⟨Y,0,none⟩ (.int .i64 x.kind)).setCell ⟨Y,1,none⟩ (.int .u64 x.view)).setCell ⟨Y,2,none⟩ (.int .u64 x.seq)).setCell ⟨Y,3,none⟩ (.slice x.sum.ao x.sum.n x.sum.cap)).setCell ⟨Y,4,none⟩ (.slice x.q.ao x.q.n x.q.cap)).setCell ⟨Y,5,none⟩ (.int .u64 x.cl)).setCell ⟨Y,6,none⟩ (.int .u64 x.st)).setCell ⟨Y,7,none⟩ (.int .u64 x.vw)).setCell ⟨Y,8,none⟩ (.int .i64 x.e)).setCell ⟨Y,9,none⟩ (.slice x.c.ao x.c.n x.c.cap)).setCell ⟨Y,10,none⟩ (.bool x.more)).setCell ⟨Y,11,none⟩ (.slice x.s.ao x.s.n x.s.cap)).setCell ⟨Y,12,none⟩ (.slice x.t.ao x.t.n x.t.cap))):=(((((((((((((Below.refl _ _).setCell (p:=⟨Y,0,none⟩) (Nat.le_refl _) _).setCell (p:=⟨Y,1,none⟩) (Nat.le_refl _) _).setCell (p:=⟨Y,2,none⟩) (Nat.le_refl _) _).setCell (p:=⟨Y,3,none⟩) (Nat.le_refl _) _).setCell (p:=⟨Y,4,none⟩) (Nat.le_refl _) _).setCell (p:=⟨Y,5,none⟩) (Nat.le_refl _) _).setCell (p:=⟨Y,6,none⟩) (Nat.le_refl _) _).setCell (p:=⟨Y,7,none⟩) (Nat.le_refl _) _).setCell (p:=⟨Y,8,none⟩) (Nat.le_refl _) _).setCell (p:=⟨Y,9,none⟩) (Nat.le_refl _) _).setCell (p:=⟨Y,10,none⟩) (Nat.le_refl _) _).setCell (p:=⟨Y,11,none⟩) (Nat.le_refl _) _).setCell (p:=⟨Y,12,none⟩) (Nat.le_refl _) _
        refine bodyPost_ret (v:=.tuple #[.agg #[.int .i64 x.kind,.int .u64 x.view,.int .u64 x.seq,.slice x.sum.ao x.sum.n x.sum.cap,.slice x.q.ao x.q.n x.q.cap,.int .u64 x.cl,.int .u64 x.st,.int .u64 x.vw,.int .i64 x.e,.slice x.c.ao x.c.n x.c.cap,.bool x.more,.slice x.s.ao x.s.n x.s.cap,.slice x.t.ao x.t.n x.t.cap],.int .i64 0]) (by simp [results,Tryz.results12,go_sem,n0,n1,n2,n3,n4,n5,n6,n7,n8,n9,n10,n11,n12]) rfl ?_
        exact ⟨x,XOK.agree (fun z hz=>SB.2 z (XFY.out z hz)),XN.out,XV.out.1,by rw [if_pos HF.out] <;> rfl,by rw [←HY0.out];exact HBW.out.trans BF⟩
      ·have i0:(d != 0)=true:=by simp [hd0]
       have HF:Hid (¬(doneS (bT xs 0).2.1 (bT xs 0).2.2=0∧rightM x=true)):=fun h=>hd0 (HDD.out.symm.trans h.1)
       have n0:wr.cell? ⟨Y,0,none⟩=some (.int .i64 0):=cell_of_row wr Y 0 _ _ _ KY;have g0:wr.frozen? ⟨Y,0,none⟩=false:=frozen_of_row wr Y 0 _ _ KY;have n1:wr.cell? ⟨Y,1,none⟩=some (.int .u64 0):=cell_of_row wr Y 1 _ _ _ KY;have g1:wr.frozen? ⟨Y,1,none⟩=false:=frozen_of_row wr Y 1 _ _ KY;have n2:wr.cell? ⟨Y,2,none⟩=some (.int .u64 0):=cell_of_row wr Y 2 _ _ _ KY;have g2:wr.frozen? ⟨Y,2,none⟩=false:=frozen_of_row wr Y 2 _ _ KY;have n3:wr.cell? ⟨Y,3,none⟩=some (.slice none 0 0):=cell_of_row wr Y 3 _ _ _ KY;have g3:wr.frozen? ⟨Y,3,none⟩=false:=frozen_of_row wr Y 3 _ _ KY;have n4:wr.cell? ⟨Y,4,none⟩=some (.slice none 0 0):=cell_of_row wr Y 4 _ _ _ KY;have g4:wr.frozen? ⟨Y,4,none⟩=false:=frozen_of_row wr Y 4 _ _ KY;have n5:wr.cell? ⟨Y,5,none⟩=some (.int .u64 0):=cell_of_row wr Y 5 _ _ _ KY;have g5:wr.frozen? ⟨Y,5,none⟩=false:=frozen_of_row wr Y 5 _ _ KY;have n6:wr.cell? ⟨Y,6,none⟩=some (.int .u64 0):=cell_of_row wr Y 6 _ _ _ KY;have g6:wr.frozen? ⟨Y,6,none⟩=false:=frozen_of_row wr Y 6 _ _ KY;have n7:wr.cell? ⟨Y,7,none⟩=some (.int .u64 0):=cell_of_row wr Y 7 _ _ _ KY;have g7:wr.frozen? ⟨Y,7,none⟩=false:=frozen_of_row wr Y 7 _ _ KY;have n8:wr.cell? ⟨Y,8,none⟩=some (.int .i64 0):=cell_of_row wr Y 8 _ _ _ KY;have g8:wr.frozen? ⟨Y,8,none⟩=false:=frozen_of_row wr Y 8 _ _ KY;have n9:wr.cell? ⟨Y,9,none⟩=some (.slice none 0 0):=cell_of_row wr Y 9 _ _ _ KY;have g9:wr.frozen? ⟨Y,9,none⟩=false:=frozen_of_row wr Y 9 _ _ KY;have n10:wr.cell? ⟨Y,10,none⟩=some (.bool false):=cell_of_row wr Y 10 _ _ _ KY;have g10:wr.frozen? ⟨Y,10,none⟩=false:=frozen_of_row wr Y 10 _ _ KY;have n11:wr.cell? ⟨Y,11,none⟩=some (.slice none 0 0):=cell_of_row wr Y 11 _ _ _ KY;have g11:wr.frozen? ⟨Y,11,none⟩=false:=frozen_of_row wr Y 11 _ _ KY;have n12:wr.cell? ⟨Y,12,none⟩=some (.slice none 0 0):=cell_of_row wr Y 12 _ _ _ KY;have g12:wr.frozen? ⟨Y,12,none⟩=false:=frozen_of_row wr Y 12 _ _ KY
       go_wp2_with (go_at_call 43;refine CD.mono ?_;rintro e_ wg ⟨rfl,hw⟩;obtain rfl:=hw.symm;clear hw)
       have SB:((((((((((((((wr.setCell ⟨Y,0,none⟩ (.int .i64 0)).setCell ⟨Y,1,none⟩ (.int .u64 0)).setCell ⟨Y,2,none⟩ (.int .u64 0)).setCell ⟨Y,3,none⟩ (.slice none 0 0)).setCell ⟨Y,4,none⟩ (.slice none 0 0)).setCell ⟨Y,5,none⟩ (.int .u64 0)).setCell ⟨Y,6,none⟩ (.int .u64 0)).setCell ⟨Y,7,none⟩ (.int .u64 0)).setCell ⟨Y,8,none⟩ (.int .i64 0)).setCell ⟨Y,9,none⟩ (.slice none 0 0)).setCell ⟨Y,10,none⟩ (.bool false)).setCell ⟨Y,11,none⟩ (.slice none 0 0)).setCell ⟨Y,12,none⟩ (.slice none 0 0))).heap.size=wr.heap.size∧∀ j,j≠Y→((((((((((((((wr.setCell ⟨Y,0,none⟩ (.int .i64 0)).setCell ⟨Y,1,none⟩ (.int .u64 0)).setCell ⟨Y,2,none⟩ (.int .u64 0)).setCell ⟨Y,3,none⟩ (.slice none 0 0)).setCell ⟨Y,4,none⟩ (.slice none 0 0)).setCell ⟨Y,5,none⟩ (.int .u64 0)).setCell ⟨Y,6,none⟩ (.int .u64 0)).setCell ⟨Y,7,none⟩ (.int .u64 0)).setCell ⟨Y,8,none⟩ (.int .i64 0)).setCell ⟨Y,9,none⟩ (.slice none 0 0)).setCell ⟨Y,10,none⟩ (.bool false)).setCell ⟨Y,11,none⟩ (.slice none 0 0)).setCell ⟨Y,12,none⟩ (.slice none 0 0))).heap[j]?=wr.heap[j]?:=SameBut.trans (SameBut.trans (SameBut.trans (SameBut.trans (SameBut.trans (SameBut.trans (SameBut.trans (SameBut.trans (SameBut.trans (SameBut.trans (SameBut.trans (SameBut.trans (same_set _ _ _ _) (same_set _ _ _ _)) (same_set _ _ _ _)) (same_set _ _ _ _)) (same_set _ _ _ _)) (same_set _ _ _ _)) (same_set _ _ _ _)) (same_set _ _ _ _)) (same_set _ _ _ _)) (same_set _ _ _ _)) (same_set _ _ _ _)) (same_set _ _ _ _)) (same_set _ _ _ _)
       have BF:Below Y wr ((((((((((((((wr.setCell ⟨Y,0,none⟩ (.int .i64 0)).setCell ⟨Y,1,none⟩ (.int .u64 0)).setCell ⟨Y,2,none⟩ (.int .u64 0)).setCell ⟨Y,3,none⟩ (.slice none 0 0)).setCell ⟨Y,4,none⟩ (.slice none 0 0)).setCell ⟨Y,5,none⟩ (.int .u64 0)).setCell ⟨Y,6,none⟩ (.int .u64 0)).setCell ⟨Y,7,none⟩ (.int .u64 0)).setCell ⟨Y,8,none⟩ (.int .i64 0)).setCell ⟨Y,9,none⟩ (.slice none 0 0)).setCell ⟨Y,10,none⟩ (.bool false)).setCell ⟨Y,11,none⟩ (.slice none 0 0)).setCell ⟨Y,12,none⟩ (.slice none 0 0))):=(((((((((((((Below.refl _ _).setCell (p:=⟨Y,0,none⟩) (Nat.le_refl _) _).setCell (p:=⟨Y,1,none⟩) (Nat.le_refl _) _).setCell (p:=⟨Y,2,none⟩) (Nat.le_refl _) _).setCell (p:=⟨Y,3,none⟩) (Nat.le_refl _) _).setCell (p:=⟨Y,4,none⟩) (Nat.le_refl _) _).setCell (p:=⟨Y,5,none⟩) (Nat.le_refl _) _).setCell (p:=⟨Y,6,none⟩) (Nat.le_refl _) _).setCell (p:=⟨Y,7,none⟩) (Nat.le_refl _) _).setCell (p:=⟨Y,8,none⟩) (Nat.le_refl _) _).setCell (p:=⟨Y,9,none⟩) (Nat.le_refl _) _).setCell (p:=⟨Y,10,none⟩) (Nat.le_refl _) _).setCell (p:=⟨Y,11,none⟩) (Nat.le_refl _) _).setCell (p:=⟨Y,12,none⟩) (Nat.le_refl _) _
       refine bodyPost_ret (v:=.tuple #[.agg #[.int .i64 0,.int .u64 0,.int .u64 0,.slice none 0 0,.slice none 0 0,.int .u64 0,.int .u64 0,.int .u64 0,.int .i64 0,.slice none 0 0,.bool false,.slice none 0 0,.slice none 0 0],.int .i64 3]) (by simp [results,Tryz.results12,go_sem,n0,n1,n2,n3,n4,n5,n6,n7,n8,n9,n10,n11,n12]) rfl ?_
       exact ⟨x,XOK.agree (fun z hz=>SB.2 z (XFY.out z hz)),XN.out,XV.out.1,by rw [if_neg HF.out],by rw [←HY0.out];exact HBW.out.trans BF⟩
end Go.Proofs.YtnbejckdhdbamaaGreat

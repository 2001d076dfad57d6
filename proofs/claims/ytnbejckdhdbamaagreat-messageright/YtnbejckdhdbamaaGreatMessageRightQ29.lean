/-
  Texts in one: MgOwn.
-/
import Derived.Test.YtnbejckdhdbamaaGreatMessageRightQFL
import Derived.Test.YtnbejckdhdbamaaGreatMessageRightQ28
import Derived.Test.YtnbejckdhdbamaaGreatMessageRightQ3
import Derived.Test.YtnbejckdhdbamaaGreatMessageRightQ17
namespace Go.Proofs.YtnbejckdhdbamaaGreat
open Go.RowKit
theorem own_size:(Tryz.prog.info? 41).map (·.size)=some 13:=by kernel_rfl
theorem own_lty:GTy elS.lists.sz 24 (.slice none 0 0) 38 39:=⟨by kernel_rfl,rfl,Tryz.underlying39⟩
set_option maxRecDepth 100000 in
set_option maxHeartbeats 16000000 in
theorem own_any (w:World) (x:BM) (hx:x.ok w) (hsn:x.s.n≤1000) (htn:x.t.n≤1000) (hu:∀ u∈x.t.l,u.n≤1000) :
  Calls Tryz.prog 8 #[x.val] w (OwnPost w x):=by
 have BW:Below w.heap.size w ((w.alloc (Obj.cells #[.int .i64 x.kind,.int .u64 (x.view:Nat),.int .u64 (x.seq:Nat),.slice x.sum.ao x.sum.n x.sum.cap,.slice x.q.ao x.q.n x.q.cap,.int .u64 (x.cl:Nat),.int .u64 (x.st:Nat),.int .u64 (x.vw:Nat),.int .i64 x.e,.slice x.c.ao x.c.n x.c.cap,.bool x.more,.slice x.s.ao x.s.n x.s.cap,.slice x.t.ao x.t.n x.t.cap] 34)).alloc (Obj.cells #[.int .i64 0,.int .u64 0,.int .u64 0,.slice none 0 0,.slice none 0 0,.int .u64 0,.int .u64 0,.int .u64 0,.int .i64 0,.slice none 0 0,.bool false,.slice none 0 0,.slice none 0 0] 41)):=((Below.refl _ w).alloc (Nat.le_refl _) _).alloc (by simp) _
 have KN:((w.alloc (Obj.cells #[.int .i64 x.kind,.int .u64 (x.view:Nat),.int .u64 (x.seq:Nat),.slice x.sum.ao x.sum.n x.sum.cap,.slice x.q.ao x.q.n x.q.cap,.int .u64 (x.cl:Nat),.int .u64 (x.st:Nat),.int .u64 (x.vw:Nat),.int .i64 x.e,.slice x.c.ao x.c.n x.c.cap,.bool x.more,.slice x.s.ao x.s.n x.s.cap,.slice x.t.ao x.t.n x.t.cap] 34)).alloc (Obj.cells #[.int .i64 0,.int .u64 0,.int .u64 0,.slice none 0 0,.slice none 0 0,.int .u64 0,.int .u64 0,.int .u64 0,.int .i64 0,.slice none 0 0,.bool false,.slice none 0 0,.slice none 0 0] 41)).heap[w.heap.size]?=some (.cells #[.int .i64 x.kind,.int .u64 (x.view:Nat),.int .u64 (x.seq:Nat),.slice x.sum.ao x.sum.n x.sum.cap,.slice x.q.ao x.q.n x.q.cap,.int .u64 (x.cl:Nat),.int .u64 (x.st:Nat),.int .u64 (x.vw:Nat),.int .i64 x.e,.slice x.c.ao x.c.n x.c.cap,.bool x.more,.slice x.s.ao x.s.n x.s.cap,.slice x.t.ao x.t.n x.t.cap] 34):=(heap_alloc_old _ _ (by simp)).trans (heap_alloc_new w _)
 have KM:((w.alloc (Obj.cells #[.int .i64 x.kind,.int .u64 (x.view:Nat),.int .u64 (x.seq:Nat),.slice x.sum.ao x.sum.n x.sum.cap,.slice x.q.ao x.q.n x.q.cap,.int .u64 (x.cl:Nat),.int .u64 (x.st:Nat),.int .u64 (x.vw:Nat),.int .i64 x.e,.slice x.c.ao x.c.n x.c.cap,.bool x.more,.slice x.s.ao x.s.n x.s.cap,.slice x.t.ao x.t.n x.t.cap] 34)).alloc (Obj.cells #[.int .i64 0,.int .u64 0,.int .u64 0,.slice none 0 0,.slice none 0 0,.int .u64 0,.int .u64 0,.int .u64 0,.int .i64 0,.slice none 0 0,.bool false,.slice none 0 0,.slice none 0 0] 41)).heap[w.heap.size + 1]?=some (.cells #[.int .i64 0,.int .u64 0,.int .u64 0,.slice none 0 0,.slice none 0 0,.int .u64 0,.int .u64 0,.int .u64 0,.int .i64 0,.slice none 0 0,.bool false,.slice none 0 0,.slice none 0 0] 41):=by
  have:=heap_alloc_new (w.alloc (Obj.cells #[.int .i64 x.kind,.int .u64 (x.view:Nat),.int .u64 (x.seq:Nat),.slice x.sum.ao x.sum.n x.sum.cap,.slice x.q.ao x.q.n x.q.cap,.int .u64 (x.cl:Nat),.int .u64 (x.st:Nat),.int .u64 (x.vw:Nat),.int .i64 x.e,.slice x.c.ao x.c.n x.c.cap,.bool x.more,.slice x.s.ao x.s.n x.s.cap,.slice x.t.ao x.t.n x.t.cap] 34)) (Obj.cells #[.int .i64 0,.int .u64 0,.int .u64 0,.slice none 0 0,.slice none 0 0,.int .u64 0,.int .u64 0,.int .u64 0,.int .i64 0,.slice none 0 0,.bool false,.slice none 0 0,.slice none 0 0] 41)
  simpa using this
 have X1:=hx.below BW
 unfold BM.val
 go_enter Tryz.func8,Tryz.ntmps8
 go_wp2_with fail
 obtain ⟨w1,hw1⟩:∃ W,W=((w.alloc (Obj.cells #[.int .i64 x.kind,.int .u64 (x.view:Nat),.int .u64 (x.seq:Nat),.slice x.sum.ao x.sum.n x.sum.cap,.slice x.q.ao x.q.n x.q.cap,.int .u64 (x.cl:Nat),.int .u64 (x.st:Nat),.int .u64 (x.vw:Nat),.int .i64 x.e,.slice x.c.ao x.c.n x.c.cap,.bool x.more,.slice x.s.ao x.s.n x.s.cap,.slice x.t.ao x.t.n x.t.cap] 34)).alloc (Obj.cells #[.int .i64 0,.int .u64 0,.int .u64 0,.slice none 0 0,.slice none 0 0,.int .u64 0,.int .u64 0,.int .u64 0,.int .i64 0,.slice none 0 0,.bool false,.slice none 0 0,.slice none 0 0] 41)):=⟨_,rfl⟩
 rw [←hw1] at BW KN KM X1 ⊢
 obtain ⟨N,hN⟩:∃ N,N=w.heap.size:=⟨_,rfl⟩
 rw [←hN] at KN KM ⊢
 have HN:Hid (N=w.heap.size):=hN
 have hN1:N + 1 < w1.heap.size:=(Array.getElem?_eq_some_iff.1 KM).1
 clear hw1 hN
 have tHS:Hid (∀ V,Below w1.heap.size w1 V→V.cell? ⟨N,0,none⟩=some (.int .i64 x.kind)∧V.cell? ⟨N,1,none⟩=some (.int .u64 (x.view:Nat))∧V.cell? ⟨N,2,none⟩=some (.int .u64 (x.seq:Nat))∧V.cell? ⟨N,3,none⟩=some (.slice x.sum.ao x.sum.n x.sum.cap)∧V.cell? ⟨N,4,none⟩=some (.slice x.q.ao x.q.n x.q.cap)∧V.cell? ⟨N,5,none⟩=some (.int .u64 (x.cl:Nat))∧V.cell? ⟨N,6,none⟩=some (.int .u64 (x.st:Nat))∧V.cell? ⟨N,7,none⟩=some (.int .u64 (x.vw:Nat))∧V.cell? ⟨N,8,none⟩=some (.int .i64 x.e)∧V.cell? ⟨N,9,none⟩=some (.slice x.c.ao x.c.n x.c.cap)∧V.cell? ⟨N,10,none⟩=some (.bool x.more)∧V.cell? ⟨N,11,none⟩=some (.slice x.s.ao x.s.n x.s.cap)∧V.cell? ⟨N,12,none⟩=some (.slice x.t.ao x.t.n x.t.cap)):=fun V hV=>by have K:=(hV.block N (by omega)).trans KN;exact ⟨cell_of_row V N 0 _ _ _ K,cell_of_row V N 1 _ _ _ K,cell_of_row V N 2 _ _ _ K,cell_of_row V N 3 _ _ _ K,cell_of_row V N 4 _ _ _ K,cell_of_row V N 5 _ _ _ K,cell_of_row V N 6 _ _ _ K,cell_of_row V N 7 _ _ _ K,cell_of_row V N 8 _ _ _ K,cell_of_row V N 9 _ _ _ K,cell_of_row V N 10 _ _ _ K,cell_of_row V N 11 _ _ _ K,cell_of_row V N 12 _ _ _ K⟩
 refine zB (by kernel_rfl) tHS.out fun tv0 tE0 tH0=>?_
 refine zT 0 (some 5) (.pointer (some ⟨N,0,none⟩)) rfl rfl (by kernel_rfl) rfl (fun W ⟨h0,h1,h2,h3,h4,h5,h6,h7,h8,h9,h10,h11,h12⟩=>by go_simp) tH0 ?_
 simp only [FL]
 refine zT 1 (some 6) (.int .i64 x.kind) rfl rfl (by kernel_rfl) rfl (fun W ⟨h0,h1,h2,h3,h4,h5,h6,h7,h8,h9,h10,h11,h12⟩=>by go_simp) tH0 ?_
 simp only [FL]
 refine zT 2 (some 7) (.pointer (some ⟨N,1,none⟩)) rfl rfl (by kernel_rfl) rfl (fun W ⟨h0,h1,h2,h3,h4,h5,h6,h7,h8,h9,h10,h11,h12⟩=>by go_simp) tH0 ?_
 simp only [FL]
 refine zT 3 (some 8) (.int .u64 (x.view:Nat)) rfl rfl (by kernel_rfl) rfl (fun W ⟨h0,h1,h2,h3,h4,h5,h6,h7,h8,h9,h10,h11,h12⟩=>by go_simp) tH0 ?_
 simp only [FL]
 refine zT 4 (some 9) (.pointer (some ⟨N,2,none⟩)) rfl rfl (by kernel_rfl) rfl (fun W ⟨h0,h1,h2,h3,h4,h5,h6,h7,h8,h9,h10,h11,h12⟩=>by go_simp) tH0 ?_
 simp only [FL]
 refine zT 5 (some 10) (.int .u64 (x.seq:Nat)) rfl rfl (by kernel_rfl) rfl (fun W ⟨h0,h1,h2,h3,h4,h5,h6,h7,h8,h9,h10,h11,h12⟩=>by go_simp) tH0 ?_
 simp only [FL]
 refine zT 6 (some 11) (.pointer (some ⟨N,3,none⟩)) rfl rfl (by kernel_rfl) rfl (fun W ⟨h0,h1,h2,h3,h4,h5,h6,h7,h8,h9,h10,h11,h12⟩=>by go_simp) tH0 ?_
 simp only [FL]
 refine zT 7 (some 12) (.slice x.sum.ao x.sum.n x.sum.cap) rfl rfl (by kernel_rfl) rfl (fun W ⟨h0,h1,h2,h3,h4,h5,h6,h7,h8,h9,h10,h11,h12⟩=>by go_simp) tH0 ?_
 simp only [FL]
 refine zT 8 (some 13) (.pointer (some ⟨N,4,none⟩)) rfl rfl (by kernel_rfl) rfl (fun W ⟨h0,h1,h2,h3,h4,h5,h6,h7,h8,h9,h10,h11,h12⟩=>by go_simp) tH0 ?_
 simp only [FL]
 refine zT 9 (some 14) (.slice x.q.ao x.q.n x.q.cap) rfl rfl (by kernel_rfl) rfl (fun W ⟨h0,h1,h2,h3,h4,h5,h6,h7,h8,h9,h10,h11,h12⟩=>by go_simp) tH0 ?_
 simp only [FL]
 refine zT 10 (some 15) (.pointer (some ⟨N,5,none⟩)) rfl rfl (by kernel_rfl) rfl (fun W ⟨h0,h1,h2,h3,h4,h5,h6,h7,h8,h9,h10,h11,h12⟩=>by go_simp) tH0 ?_
 simp only [FL]
 refine zT 11 (some 16) (.agg #[.int .u64 (x.cl:Nat),.int .u64 (x.st:Nat),.int .u64 (x.vw:Nat),.int .i64 x.e,.slice x.c.ao x.c.n x.c.cap,.bool x.more]) rfl rfl (by kernel_rfl) rfl (fun W ⟨h0,h1,h2,h3,h4,h5,h6,h7,h8,h9,h10,h11,h12⟩=>by go_simp) tH0 ?_
 simp only [FL]
 refine zT 12 (some 17) (.pointer (some ⟨N,11,none⟩)) rfl rfl (by kernel_rfl) rfl (fun W ⟨h0,h1,h2,h3,h4,h5,h6,h7,h8,h9,h10,h11,h12⟩=>by go_simp) tH0 ?_
 simp only [FL]
 refine zT 13 (some 18) (.slice x.s.ao x.s.n x.s.cap) rfl rfl (by kernel_rfl) rfl (fun W ⟨h0,h1,h2,h3,h4,h5,h6,h7,h8,h9,h10,h11,h12⟩=>by go_simp) tH0 ?_
 simp only [FL]
 refine wpAnyH_effto 1 (fun zi zv zw=>(zi=14→∃ ro rc,zv=.slice ro x.s.n rc∧GL elS zw ro x.s.n rc x.s.l∧TyAt zw ro 112∧∀ z,sblk ro x.s.n z→w1.heap.size≤z)∧(zi=15→∃ ro rc,zv=.agg #[.int .i64 x.kind,.int .u64 (x.view:Nat),.int .u64 (x.seq:Nat),.slice x.sum.ao x.sum.n x.sum.cap,.slice x.q.ao x.q.n x.q.cap,.int .u64 (x.cl:Nat),.int .u64 (x.st:Nat),.int .u64 (x.vw:Nat),.int .i64 x.e,.slice x.c.ao x.c.n x.c.cap,.bool x.more,.slice ro x.s.n rc,.slice none 0 0]∧GL elS zw ro x.s.n rc x.s.l∧TyAt zw ro 112∧∀ z,sblk ro x.s.n z→w1.heap.size≤z)∧(zi=16→∃ g,zv=.pointer (some ⟨g,0,none⟩)∧w1.heap.size≤g∧Arr zw g 41 [.int .i64 0,.int .u64 0,.int .u64 0,.slice none 0 0,.slice none 0 0,.int .u64 0,.int .u64 0,.int .u64 0,.int .i64 0,.slice none 0 0,.bool false,.slice none 0 0,.slice none 0 0])) [(14,19),(15,20),(16,3)] 40 (by kernel_rfl) (by decide) (by decide) rfl ?_ (fun W hW=>tHS.out W (tE0.trans (hW.mono tE0.size))) ?_ ?_
 ·intro zi v w w' h hb
  refine ⟨fun e=>?_,fun e=>?_,fun e=>?_⟩
  ·have h:=h.1 e
   obtain ⟨ro,rc,h1,h2,h3,h4⟩:=h
   exact ⟨ro,rc,h1,h2.below elS_fine hb,h3.below hb,h4⟩
  ·have h:=h.2.1 e
   obtain ⟨ro,rc,h1,h2,h3,h4⟩:=h
   exact ⟨ro,rc,h1,h2.below elS_fine hb,h3.below hb,h4⟩
  ·have h:=h.2.2 e
   obtain ⟨g,h1,h2,h3⟩:=h
   exact ⟨g,h1,h2,h3.below hb h3.lt⟩
 ·intro zp zhi o a w ho hs hb hdep
  have tEB:=tE0.trans (hb.mono tE0.size)
  simp only [List.mem_cons,List.not_mem_nil,or_false] at zhi
  rcases zhi with rfl | rfl | rfl
  ·obtain rfl:_=o:=Option.some.inj (show some _=some o from ho)
   have t18:a.tmps[18]?=some (.slice x.s.ao x.s.n x.s.cap):=hs.get 18 (by kernel_rfl) rfl
   have CO:=osigns_typed w x.s.ao x.s.n x.s.cap x.s.l (X1.s.below elS_fine tEB) hsn
   refine .inr ⟨19,#[.slice x.s.ao x.s.n x.s.cap],by go_simp,CO.mono ?_⟩
   rintro e w' ⟨ro,rc,rfl,G,fr,TY,C⟩
   exact ⟨_,rfl,⟨fun _=>⟨ro,rc,rfl,G,TY,fun z hz=>Nat.le_trans tEB.size (fr z hz)⟩,fun e=>absurd e (by decide),fun e=>absurd e (by decide)⟩,C⟩
  ·obtain rfl:_=o:=Option.some.inj (show some _=some o from ho)
   have t6:a.tmps[6]?=some (.int .i64 x.kind):=hs.get 6 (by kernel_rfl) rfl
   have t8:a.tmps[8]?=some (.int .u64 (x.view:Nat)):=hs.get 8 (by kernel_rfl) rfl
   have t10:a.tmps[10]?=some (.int .u64 (x.seq:Nat)):=hs.get 10 (by kernel_rfl) rfl
   have t12:a.tmps[12]?=some (.slice x.sum.ao x.sum.n x.sum.cap):=hs.get 12 (by kernel_rfl) rfl
   have t14:a.tmps[14]?=some (.slice x.q.ao x.q.n x.q.cap):=hs.get 14 (by kernel_rfl) rfl
   have t16:a.tmps[16]?=some (.agg #[.int .u64 (x.cl:Nat),.int .u64 (x.st:Nat),.int .u64 (x.vw:Nat),.int .i64 x.e,.slice x.c.ao x.c.n x.c.cap,.bool x.more]):=hs.get 16 (by kernel_rfl) rfl
   obtain ⟨x19,t19,f19⟩:=(hdep 14 (by kernel_rfl)).at 19 (by kernel_rfl)
   replace f19:=f19.1 rfl
   obtain ⟨ro,rc,rfl,G,TY,fr⟩:=f19
   exact .inl ⟨_,w,by go_simp,⟨fun e=>absurd e (by decide),fun _=>⟨ro,rc,rfl,G,TY,fr⟩,fun e=>absurd e (by decide)⟩,Below.refl _ _⟩
  ·obtain rfl:_=o:=Option.some.inj (show some _=some o from ho)
   exact .inl ⟨_,_,by go_simp,⟨fun e=>absurd e (by decide),fun e=>absurd e (by decide),fun _=>⟨_,rfl,tEB.size,heap_alloc_new w _⟩⟩,(Below.refl _ _).alloc (Nat.le_refl _) _⟩
 intro zf tv1 hb hh
 have tE1:=tE0.trans (hb.mono tE0.size)
 obtain ⟨so,sc,e15,G1,TY1,FR1⟩:=(hh (15,20) (by simp)).2.1 rfl
 obtain ⟨g,e16,hg,A1⟩:=(hh (16,3) (by simp)).2.2 rfl
 clear hh hb
 simp only [putL,List.foldl_cons,List.foldl_nil,e15,e16]
 clear e15 e16
 simp only [FL]
 have tH1:=tHS.out tv1 tE1
 obtain ⟨st,GR2⟩:=store_row A1 (cs:=[.int .i64 x.kind,.int .u64 (x.view:Nat),.int .u64 (x.seq:Nat),.slice x.sum.ao x.sum.n x.sum.cap,.slice x.q.ao x.q.n x.q.cap,.int .u64 (x.cl:Nat),.int .u64 (x.st:Nat),.int .u64 (x.vw:Nat),.int .i64 x.e,.slice x.c.ao x.c.n x.c.cap,.bool x.more,.slice so x.s.n sc,.slice none 0 0]) own_size rfl (fun u hu=>by simp only [List.mem_cons,List.not_mem_nil,or_false] at hu;rcases hu with rfl | rfl | rfl | rfl | rfl | rfl | rfl | rfl | rfl | rfl | rfl | rfl | rfl <;> rfl)
 have A2:Arr (tv1.setCells g 0 [.int .i64 x.kind,.int .u64 (x.view:Nat),.int .u64 (x.seq:Nat),.slice x.sum.ao x.sum.n x.sum.cap,.slice x.q.ao x.q.n x.q.cap,.int .u64 (x.cl:Nat),.int .u64 (x.st:Nat),.int .u64 (x.vw:Nat),.int .i64 x.e,.slice x.c.ao x.c.n x.c.cap,.bool x.more,.slice so x.s.n sc,.slice none 0 0]) g 41 [.int .i64 x.kind,.int .u64 (x.view:Nat),.int .u64 (x.seq:Nat),.slice x.sum.ao x.sum.n x.sum.cap,.slice x.q.ao x.q.n x.q.cap,.int .u64 (x.cl:Nat),.int .u64 (x.st:Nat),.int .u64 (x.vw:Nat),.int .i64 x.e,.slice x.c.ao x.c.n x.c.cap,.bool x.more,.slice so x.s.n sc,.slice none 0 0]:=Arr.setAll [.int .i64 x.kind,.int .u64 (x.view:Nat),.int .u64 (x.seq:Nat),.slice x.sum.ao x.sum.n x.sum.cap,.slice x.q.ao x.q.n x.q.cap,.int .u64 (x.cl:Nat),.int .u64 (x.st:Nat),.int .u64 (x.vw:Nat),.int .i64 x.e,.slice x.c.ao x.c.n x.c.cap,.bool x.more,.slice so x.s.n sc,.slice none 0 0] [.int .i64 0,.int .u64 0,.int .u64 0,.slice none 0 0,.slice none 0 0,.int .u64 0,.int .u64 0,.int .u64 0,.int .i64 0,.slice none 0 0,.bool false,.slice none 0 0,.slice none 0 0] 0 tv1 A1
 obtain ⟨w2,hw2⟩:∃ W,W=tv1.setCells g 0 [.int .i64 x.kind,.int .u64 (x.view:Nat),.int .u64 (x.seq:Nat),.slice x.sum.ao x.sum.n x.sum.cap,.slice x.q.ao x.q.n x.q.cap,.int .u64 (x.cl:Nat),.int .u64 (x.st:Nat),.int .u64 (x.vw:Nat),.int .i64 x.e,.slice x.c.ao x.c.n x.c.cap,.bool x.more,.slice so x.s.n sc,.slice none 0 0]:=⟨_,rfl⟩
 rw [←hw2] at st GR2 A2
 clear hw2
 have tE2:Below w1.heap.size w1 w2:=tE1.grown GR2 tE1.size (fun i hi=>by cases hi;exact hg)
 have tH2:=tHS.out w2 tE2
 have HEL:∀ q∈x.s.l,∀ z,elS.blk q z→z < N:=fun q hq z hz=>by rw [HN.out];exact elS_fine.lt q w z (hx.s.ok q hq) hz
 have HG2:∀ z,GLb elS so x.s.n x.s.l z→z < tv1.heap.size∧z≠g∧z≠N + 1:=fun z hz=>by
  refine ⟨G1.lt elS_fine hz,?_⟩
  rcases hz with hz | ⟨q,hq,hz⟩
  ·have:=FR1 z hz
   exact ⟨arr_far A1 (by decide) TY1 hz,by omega⟩
  ·have:=HEL q hq z hz
   exact ⟨by omega,by omega⟩
 have G2:GL elS w2 so x.s.n sc x.s.l:=G1.kept elS_fine fun z hz=>GR2.block z (HG2 z hz).1 (fun e=>(HG2 z hz).2.1 (Option.some.inj e))
 have HG3:Hid (∀ z,GLb elS so x.s.n x.s.l z→z < w2.heap.size∧z≠g∧z≠N + 1):=fun z hz=>⟨Nat.lt_of_lt_of_le (HG2 z hz).1 GR2.size,(HG2 z hz).2⟩
 clear A1 G1 TY1 FR1 HEL HG2 GR2
 refine hr_skip 17 none (w':=w2) rfl rfl (by kernel_rfl) rfl (exec_store rfl rfl rfl st) tH2 ?_
 simp only [Act.put]
 refine wpAnyH_done (by kernel_rfl) ?_ _
 refine NoPanic.normal ?_
 go_wp2_with fail
 clear tHS tH0 tH1 tH2 st tE0 tE1
 have hg2:g < w2.heap.size:=A2.lt
 go_loopw [4] (fun i wr=>∃ (k:Nat) (v:Value) (ys:List (LS SA)),k≤x.t.n∧i=.int .i64 k∧GI elS.lists 38 wr w2.heap.size v ys∧Hid (ys.map lsV=(x.t.l.take k).map lsV)∧Arr wr g 41 [.int .i64 x.kind,.int .u64 (x.view:Nat),.int .u64 (x.seq:Nat),.slice x.sum.ao x.sum.n x.sum.cap,.slice x.q.ao x.q.n x.q.cap,.int .u64 (x.cl:Nat),.int .u64 (x.st:Nat),.int .u64 (x.vw:Nat),.int .i64 x.e,.slice x.c.ao x.c.n x.c.cap,.bool x.more,.slice so x.s.n sc,v]∧Hid (∀ y∈ys,∀ z,GLb elS y.ao y.n y.l z→z≠g∧z≠N + 1)∧Below w1.heap.size w1 wr∧Hid (∀ z,z < w2.heap.size→z≠g→wr.heap[z]?=w2.heap[z]?)∧w2.heap.size≤wr.heap.size) (fun i _=>x.t.n - (intOf i).toNat)
 case atStart=>exact ⟨0,_,[],Nat.zero_le _,rfl,GI.nil _ _ _ _,rfl,A2,fun _ h=>(by cases h),tE2,fun _ _ _=>rfl,Nat.le_refl _⟩
 case round =>
  obtain ⟨k,v,ys,hk,rfl,GI1,HY,A2r,HYG,B,KO,hsz⟩:=hrel
  have K12:wr.cell? ⟨N,12,none⟩=some (.slice x.t.ao x.t.n x.t.cap):=cell_of_row wr N 12 _ _ _ ((B.block N (by omega)).trans KN)
  have xtl:=X1.t.len
  have hyl:ys.length=k:=by
   have:=congrArg List.length HY.out
   simp only [List.length_map,List.length_take] at this
   omega
  by_cases hlt:k < x.t.n
  ·have hki:(k:Int) < (x.t.n:Int):=by omega
   have hkl:k < x.t.l.length:=by omega
   obtain ⟨b,off,ea,hc⟩:=X1.t.atL (by omega)
   have u0:=hc k hkl
   have hun:=hu _ (List.getElem_mem hkl)
   have uok:elS.lists.ok x.t.l[k] w1:=X1.t.ok _ (List.getElem_mem hkl)
   have uokw:elS.lists.ok x.t.l[k] w:=hx.t.ok _ (List.getElem_mem hkl)
   have HTK:Hid ((x.t.l.take (k + 1)).map lsV=(x.t.l.take k).map lsV++[lsV x.t.l[k]]):=by
    show _=_
    rw [List.take_succ_eq_append_getElem hkl,List.map_append,List.map_singleton]
   obtain ⟨u,hu0⟩:∃ u,u=x.t.l[k]:=⟨_,rfl⟩
   rw [←hu0] at u0 hun uok uokw HTK
   clear hu0 hc
   have uok:GL elS w1 u.ao u.n u.cap u.l:=uok
   have HUL:Hid (∀ q∈u.l,∀ z,elS.blk q z→z < N):=fun q hq z hz=>by rw [HN.out];exact elS_fine.lt q w z (uokw.ok q hq) hz
   have HSV:Hid (∀ V,Below w1.heap.size w1 V→V.cell? ⟨N,12,none⟩=some (.slice (some ⟨b,off,none⟩) x.t.n x.t.cap)∧V.cell? ⟨b,off + k,none⟩=some (.slice u.ao u.n u.cap)):=fun V hV=>⟨by have:=cell_of_row V N 12 _ _ _ ((hV.block N (by omega)).trans KN);rw [←ea];exact this,(hV.cell (World.block_lt_of_cell? _ _ u0)).trans u0⟩
   have g12:wr.cell? ⟨g,12,none⟩=some v:=A2r.cell 12
   have HG12:Hid (∀ V,Below wr.heap.size wr V→V.cell? ⟨g,12,none⟩=some v):=fun V hV=>(hV.cell (World.block_lt_of_cell? _ _ g12)).trans g12
   rw [ea] at K12
   clear uokw u0 xtl
   go_wp2_with fail
   have yHS:Hid (∀ V,Below wr.heap.size wr V→V.cell? ⟨N,12,none⟩=some (.slice (some ⟨b,off,none⟩) x.t.n x.t.cap)∧V.cell? ⟨b,off + k,none⟩=some (.slice u.ao u.n u.cap)):=fun V hV=>HSV.out V (B.trans (hV.mono B.size))
   refine zB (by kernel_rfl) yHS.out fun yv0 yE0 yH0=>?_
   refine zT 0 (some 28) (.pointer (some ⟨g,12,none⟩)) rfl rfl (by kernel_rfl) rfl (fun W ⟨h0,h1⟩=>by go_simp) yH0 ?_
   simp only [FL]
   refine zT 2 (some 30) (.pointer (some ⟨N,12,none⟩)) rfl rfl (by kernel_rfl) rfl (fun W ⟨h0,h1⟩=>by go_simp) yH0 ?_
   simp only [FL]
   refine zT 3 (some 31) (.slice (some ⟨b,off,none⟩) x.t.n x.t.cap) rfl rfl (by kernel_rfl) rfl (fun W ⟨h0,h1⟩=>by go_simp) yH0 ?_
   simp only [FL]
   refine zT 4 (some 32) (.int .i64 (k:Nat)) rfl rfl (by kernel_rfl) rfl (fun W ⟨h0,h1⟩=>by go_simp) yH0 ?_
   simp only [FL]
   refine zT 5 (some 33) (.pointer (some ⟨b,off + k,none⟩)) rfl rfl (by kernel_rfl) rfl (fun W ⟨h0,h1⟩=>by go_simp) yH0 ?_
   simp only [FL]
   refine zT 6 (some 34) (.slice u.ao u.n u.cap) rfl rfl (by kernel_rfl) rfl (fun W ⟨h0,h1⟩=>by go_simp) yH0 ?_
   simp only [FL]
   refine wpAnyH_effto 3 (fun zi zv zw=>(zi=1→zv=v)∧(zi=7→∃ ro rc,zv=.slice ro u.n rc∧GL elS zw ro u.n rc u.l∧∀ z,sblk ro u.n z→wr.heap.size≤z)∧(zi=8→∃ ro rc gb,zv=.slice (some ⟨gb,0,none⟩) 1 1∧Arr zw gb 38 [.slice ro u.n rc]∧GL elS zw ro u.n rc u.l∧∀ z,sblk ro u.n z→wr.heap.size≤z)) [(1,29),(7,35),(8,36)] 40 (by kernel_rfl) (by decide) (by decide) rfl ?_ (fun W hW=>yHS.out W (yE0.trans (hW.mono yE0.size))) ?_ ?_
   ·intro zi v w w' h hb
    refine ⟨fun e=>?_,fun e=>?_,fun e=>?_⟩
    ·have h:=h.1 e
     exact h
    ·have h:=h.2.1 e
     obtain ⟨ro,rc,h1,h2,h3⟩:=h
     exact ⟨ro,rc,h1,h2.below elS_fine hb,h3⟩
    ·have h:=h.2.2 e
     obtain ⟨ro,rc,gb,h1,h2,h3,h4⟩:=h
     exact ⟨ro,rc,gb,h1,h2.below hb h2.lt,h3.below elS_fine hb,h4⟩
   ·intro zp zhi o a w ho hs hb hdep
    have yEB:=yE0.trans (hb.mono yE0.size)
    simp only [List.mem_cons,List.not_mem_nil,or_false] at zhi
    rcases zhi with rfl | rfl | rfl
    ·obtain rfl:_=o:=Option.some.inj (show some _=some o from ho)
     have t28:a.tmps[28]?=some (.pointer (some ⟨g,12,none⟩)):=hs.get 28 (by kernel_rfl) rfl
     have lc:=HG12.out w yEB
     exact .inl ⟨v,w,by go_simp,⟨fun _=>rfl,fun e=>absurd e (by decide),fun e=>absurd e (by decide)⟩,Below.refl _ _⟩
    ·obtain rfl:_=o:=Option.some.inj (show some _=some o from ho)
     have t34:a.tmps[34]?=some (.slice u.ao u.n u.cap):=hs.get 34 (by kernel_rfl) rfl
     have CO:=osigns_any w u.ao u.n u.cap u.l (uok.below elS_fine (B.trans (yEB.mono B.size))) hun
     refine .inr ⟨19,#[.slice u.ao u.n u.cap],by go_simp,CO.mono ?_⟩
     rintro e w' ⟨ro,rc,rfl,G,far,C⟩
     exact ⟨_,rfl,⟨fun e=>absurd e (by decide),fun _=>⟨ro,rc,rfl,G,fun z hz=>Nat.le_trans yEB.size (far z hz)⟩,fun e=>absurd e (by decide)⟩,C⟩
    ·obtain rfl:_=o:=Option.some.inj (show some _=some o from ho)
     obtain ⟨x35,t35,f35⟩:=(hdep 7 (by kernel_rfl)).at 35 (by kernel_rfl)
     replace f35:=f35.2.1 rfl
     obtain ⟨ro,rc,rfl,G,far⟩:=f35
     have CA:Below w.heap.size w (w.alloc (.cells #[.slice ro u.n rc] 38)):=(Below.refl _ _).alloc (Nat.le_refl _) _
     exact .inl ⟨_,_,by go_simp,⟨fun e=>absurd e (by decide),fun e=>absurd e (by decide),fun _=>⟨ro,rc,_,rfl,heap_alloc_new w _,G.below elS_fine CA,far⟩⟩,CA⟩
   intro zf yv1 hb hh
   have yE1:=yE0.trans (hb.mono yE0.size)
   obtain e1:=(hh (1,29) (by simp)).1 rfl
   obtain ⟨ro,rc,gb,e8,A8,GU,far⟩:=(hh (8,36) (by simp)).2.2 rfl
   clear hh hb
   simp only [putL,List.foldl_cons,List.foldl_nil,e1,e8]
   clear e1 e8
   simp only [FL]
   have vlt:∀ z,v.ownBlock=some z→z < wr.heap.size:=fun z hz=>(GI1.own.lt z hz).2
   have vge:∀ z,v.ownBlock=some z→w2.heap.size≤z:=fun z hz=>(GI1.own.lt z hz).1
   have HYB:∀ z,GLb elS ro u.n u.l z→v.ownBlock≠some z∧z≠g∧z≠N + 1:=fun z hz=>by
    rcases hz with hz | ⟨q,hq,hz⟩
    ·have:=far z hz
     exact ⟨fun e=>by have:=vlt z e;omega,by omega,by omega⟩
    ·have hz:=HUL.out q hq z hz
     exact ⟨fun e=>by have:=vge z e;omega,by omega,by omega⟩
   have R1:=GI1.below elS_fine.lists yE1
   obtain ⟨v2,w3,ha,R2,B3,G3,ao3,n3,cap3,rfl⟩:=R1.app elS_fine.lists own_lty 39 (a:=⟨gb,0,none⟩) (cp:=1) (y:=(⟨ro,u.n,rc,u.l⟩:LS SA)) (fun j q hq=>by rw [Addr.add_lit,Nat.zero_add,Arr.cell A8];exact hq) GU (fun z hz=>(HYB z hz).1) (by omega) (by unfold maxLen;omega) (Nat.le_trans hsz yE1.size)
   have A4:Arr yv1 g 41 [.int .i64 x.kind,.int .u64 (x.view:Nat),.int .u64 (x.seq:Nat),.slice x.sum.ao x.sum.n x.sum.cap,.slice x.q.ao x.q.n x.q.cap,.int .u64 (x.cl:Nat),.int .u64 (x.st:Nat),.int .u64 (x.vw:Nat),.int .i64 x.e,.slice x.c.ao x.c.n x.c.cap,.bool x.more,.slice so x.s.n sc,v]:=A2r.below yE1 A2r.lt
   have hne:v.ownBlock≠some g:=fun e=>by have:=vge g e;omega
   have A5:Arr w3 g 41 [.int .i64 x.kind,.int .u64 (x.view:Nat),.int .u64 (x.seq:Nat),.slice x.sum.ao x.sum.n x.sum.cap,.slice x.q.ao x.q.n x.q.cap,.int .u64 (x.cl:Nat),.int .u64 (x.st:Nat),.int .u64 (x.vw:Nat),.int .i64 x.e,.slice x.c.ao x.c.n x.c.cap,.bool x.more,.slice so x.s.n sc,v]:=A4.grown G3 (fun e=>hne e.symm)
   have A6:Arr (w3.setCell ⟨g,12,none⟩ (.slice ao3 n3 cap3)) g 41 [.int .i64 x.kind,.int .u64 (x.view:Nat),.int .u64 (x.seq:Nat),.slice x.sum.ao x.sum.n x.sum.cap,.slice x.q.ao x.q.n x.q.cap,.int .u64 (x.cl:Nat),.int .u64 (x.st:Nat),.int .u64 (x.vw:Nat),.int .i64 x.e,.slice x.c.ao x.c.n x.c.cap,.bool x.more,.slice so x.s.n sc,.slice ao3 n3 cap3]:=by
    have:=A5.set 12 (.slice ao3 n3 cap3)
    simpa using this
   have g12b:w3.cell? ⟨g,12,none⟩=some v:=A5.cell 12
   have gfb:=A5.free 12
   have E5:Below w1.heap.size w1 w3:=(B.trans (yE1.mono B.size)).trans (B3.mono tE2.size)
   have E6:Below w1.heap.size w1 (w3.setCell ⟨g,12,none⟩ (.slice ao3 n3 cap3)):=E5.setCell (p:=⟨g,12,none⟩) hg (.slice ao3 n3 cap3)
   have yH3:=HSV.out w3 E5
   have yH4:=HSV.out _ E6
   have HYG2:Hid (∀ y∈ys++[(⟨ro,u.n,rc,u.l⟩:LS SA)],∀ z,GLb elS y.ao y.n y.l z→z≠g∧z≠N + 1):=fun y hy z hz=>by
    rcases List.mem_append.1 hy with hy | hy
    ·exact HYG.out y hy z hz
    ·rw [List.mem_singleton.1 hy] at hz
     exact (HYB z hz).2
   have R4:GI elS.lists 38 (w3.setCell ⟨g,12,none⟩ (.slice ao3 n3 cap3)) w2.heap.size (.slice ao3 n3 cap3) (ys++[(⟨ro,u.n,rc,u.l⟩:LS SA)]):=R2.kept elS_fine.lists fun z hz=>heap_setCell_other w3 ⟨g,12,none⟩ z (.slice ao3 n3 cap3) (by
    rcases hz with hz | ⟨y,hy,hz⟩
    ·have:=(R2.own.lt z hz).1
     show z≠g
     omega
    ·exact (HYG2.out y hy z hz).1)
   have KO4:Hid (∀ z,z < w2.heap.size→z≠g→(w3.setCell ⟨g,12,none⟩ (.slice ao3 n3 cap3)).heap[z]?=w2.heap[z]?):=fun z h1 h2=>(heap_setCell_other w3 ⟨g,12,none⟩ z (.slice ao3 n3 cap3) h2).trans ((G3.block z (by have:=yE1.size;omega) (fun e=>by have:=vge z e.symm;omega)).trans ((yE1.block z (by omega)).trans (KO.out z h1 h2)))
   have hs4:w2.heap.size≤(w3.setCell ⟨g,12,none⟩ (.slice ao3 n3 cap3)).heap.size:=by
    have h1:=yE1.size
    have h2:=B3.size
    have h3:(w3.setCell ⟨g,12,none⟩ (.slice ao3 n3 cap3)).heap.size=w3.heap.size:=(same_set w3 g 12 (.slice ao3 n3 cap3)).1
    omega
   have HY4:Hid ((ys++[(⟨ro,u.n,rc,u.l⟩:LS SA)]).map lsV=(x.t.l.take (k + 1)).map lsV):=by
    show _=_
    rw [HTK.out,List.map_append,HY.out]
    rfl
   clear vlt vge HYB R1 R2 B3 A4 hne HYG KO HY G3 A8 GU far GI1 A2r E5
   refine hr_ex 9 (some 37) rfl rfl (by kernel_rfl) rfl (R:=fun v w'=>.slice ao3 n3 cap3=v∧w3=w') ⟨_,w3,by simp [execOp,Act.eval,resolve,invoke,builtin,ha],rfl,rfl⟩ ?_
   rintro v w' ⟨rfl,rfl⟩
   refine ⟨yH3,?_⟩
   simp only [FL]
   have yH1:=yH3
   refine zT 10 (some 38) (.pointer (some ⟨g,12,none⟩)) rfl rfl (by kernel_rfl) rfl (fun W ⟨h0,h1⟩=>by go_simp) yH1 ?_
   simp only [FL]
   refine hr_skip 11 none (w':=w3.setCell ⟨g,12,none⟩ (.slice ao3 n3 cap3)) rfl rfl (by kernel_rfl) rfl (by go_simp) yH4 ?_
   simp only [Act.put]
   refine wpAnyH_done (by kernel_rfl) ?_ _
   refine NoPanic.normal ?_
   go_wp2
   go_roundw
   case rel=>exact ⟨k + 1,_,_,by omega,by go_num,R4,HY4,A6,HYG2,E6,KO4,hs4⟩
   case measure=>simp [intOf];omega
  ·have hge:¬(k:Int) < (x.t.n:Int):=by omega
   have HYF:Hid (ys.map lsV=x.t.l.map lsV):=by
    have h:=HY.out
    rw [List.take_of_length_le (by omega)] at h
    exact h
   obtain ⟨vo,vc,rfl,GT,farT⟩:=GI1.gl elS_fine.lists
   have hln:ys.length=x.t.n:=by omega
   rw [hln] at GT farT A2r
   have KMr:=(B.block (N + 1) hN1).trans KM
   have m0:wr.cell? ⟨g,0,none⟩=some (.int .i64 x.kind):=A2r.cell 0
   have m1:wr.cell? ⟨g,1,none⟩=some (.int .u64 (x.view:Nat)):=A2r.cell 1
   have m2:wr.cell? ⟨g,2,none⟩=some (.int .u64 (x.seq:Nat)):=A2r.cell 2
   have m3:wr.cell? ⟨g,3,none⟩=some (.slice x.sum.ao x.sum.n x.sum.cap):=A2r.cell 3
   have m4:wr.cell? ⟨g,4,none⟩=some (.slice x.q.ao x.q.n x.q.cap):=A2r.cell 4
   have m5:wr.cell? ⟨g,5,none⟩=some (.int .u64 (x.cl:Nat)):=A2r.cell 5
   have m6:wr.cell? ⟨g,6,none⟩=some (.int .u64 (x.st:Nat)):=A2r.cell 6
   have m7:wr.cell? ⟨g,7,none⟩=some (.int .u64 (x.vw:Nat)):=A2r.cell 7
   have m8:wr.cell? ⟨g,8,none⟩=some (.int .i64 x.e):=A2r.cell 8
   have m9:wr.cell? ⟨g,9,none⟩=some (.slice x.c.ao x.c.n x.c.cap):=A2r.cell 9
   have m10:wr.cell? ⟨g,10,none⟩=some (.bool x.more):=A2r.cell 10
   have m11:wr.cell? ⟨g,11,none⟩=some (.slice so x.s.n sc):=A2r.cell 11
   have m12:wr.cell? ⟨g,12,none⟩=some (.slice vo x.t.n vc):=A2r.cell 12
   have n0:=cell_of_row wr (N + 1) 0 _ _ _ KMr
   have n1:=cell_of_row wr (N + 1) 1 _ _ _ KMr
   have n2:=cell_of_row wr (N + 1) 2 _ _ _ KMr
   have n3:=cell_of_row wr (N + 1) 3 _ _ _ KMr
   have n4:=cell_of_row wr (N + 1) 4 _ _ _ KMr
   have n5:=cell_of_row wr (N + 1) 5 _ _ _ KMr
   have n6:=cell_of_row wr (N + 1) 6 _ _ _ KMr
   have n7:=cell_of_row wr (N + 1) 7 _ _ _ KMr
   have n8:=cell_of_row wr (N + 1) 8 _ _ _ KMr
   have n9:=cell_of_row wr (N + 1) 9 _ _ _ KMr
   have n10:=cell_of_row wr (N + 1) 10 _ _ _ KMr
   have n11:=cell_of_row wr (N + 1) 11 _ _ _ KMr
   have n12:=cell_of_row wr (N + 1) 12 _ _ _ KMr
   have f0:wr.frozen? ⟨N + 1,0,none⟩=false:=frozen_of_row wr (N + 1) 0 _ _ KMr
   have f1:wr.frozen? ⟨N + 1,1,none⟩=false:=frozen_of_row wr (N + 1) 1 _ _ KMr
   have f2:wr.frozen? ⟨N + 1,2,none⟩=false:=frozen_of_row wr (N + 1) 2 _ _ KMr
   have f3:wr.frozen? ⟨N + 1,3,none⟩=false:=frozen_of_row wr (N + 1) 3 _ _ KMr
   have f4:wr.frozen? ⟨N + 1,4,none⟩=false:=frozen_of_row wr (N + 1) 4 _ _ KMr
   have f5:wr.frozen? ⟨N + 1,5,none⟩=false:=frozen_of_row wr (N + 1) 5 _ _ KMr
   have f6:wr.frozen? ⟨N + 1,6,none⟩=false:=frozen_of_row wr (N + 1) 6 _ _ KMr
   have f7:wr.frozen? ⟨N + 1,7,none⟩=false:=frozen_of_row wr (N + 1) 7 _ _ KMr
   have f8:wr.frozen? ⟨N + 1,8,none⟩=false:=frozen_of_row wr (N + 1) 8 _ _ KMr
   have f9:wr.frozen? ⟨N + 1,9,none⟩=false:=frozen_of_row wr (N + 1) 9 _ _ KMr
   have f10:wr.frozen? ⟨N + 1,10,none⟩=false:=frozen_of_row wr (N + 1) 10 _ _ KMr
   have f11:wr.frozen? ⟨N + 1,11,none⟩=false:=frozen_of_row wr (N + 1) 11 _ _ KMr
   have f12:wr.frozen? ⟨N + 1,12,none⟩=false:=frozen_of_row wr (N + 1) 12 _ _ KMr
   have SB:(((((((((((((wr.setCell ⟨N + 1,0,none⟩ (.int .i64 x.kind)).setCell ⟨N + 1,1,none⟩ (.int .u64 (x.view:Nat))).setCell ⟨N + 1,2,none⟩ (.int .u64 (x.seq:Nat))).setCell ⟨N + 1,3,none⟩ (.slice x.sum.ao x.sum.n x.sum.cap)).setCell ⟨N + 1,4,none⟩ (.slice x.q.ao x.q.n x.q.cap)).setCell ⟨N + 1,5,none⟩ (.int .u64 (x.cl:Nat))).setCell ⟨N + 1,6,none⟩ (.int .u64 (x.st:Nat))).setCell ⟨N + 1,7,none⟩ (.int .u64 (x.vw:Nat))).setCell ⟨N + 1,8,none⟩ (.int .i64 x.e)).setCell ⟨N + 1,9,none⟩ (.slice x.c.ao x.c.n x.c.cap)).setCell ⟨N + 1,10,none⟩ (.bool x.more)).setCell ⟨N + 1,11,none⟩ (.slice so x.s.n sc)).setCell ⟨N + 1,12,none⟩ (.slice vo x.t.n vc)).heap.size=wr.heap.size∧∀ j,j≠N + 1→(((((((((((((wr.setCell ⟨N + 1,0,none⟩ (.int .i64 x.kind)).setCell ⟨N + 1,1,none⟩ (.int .u64 (x.view:Nat))).setCell ⟨N + 1,2,none⟩ (.int .u64 (x.seq:Nat))).setCell ⟨N + 1,3,none⟩ (.slice x.sum.ao x.sum.n x.sum.cap)).setCell ⟨N + 1,4,none⟩ (.slice x.q.ao x.q.n x.q.cap)).setCell ⟨N + 1,5,none⟩ (.int .u64 (x.cl:Nat))).setCell ⟨N + 1,6,none⟩ (.int .u64 (x.st:Nat))).setCell ⟨N + 1,7,none⟩ (.int .u64 (x.vw:Nat))).setCell ⟨N + 1,8,none⟩ (.int .i64 x.e)).setCell ⟨N + 1,9,none⟩ (.slice x.c.ao x.c.n x.c.cap)).setCell ⟨N + 1,10,none⟩ (.bool x.more)).setCell ⟨N + 1,11,none⟩ (.slice so x.s.n sc)).setCell ⟨N + 1,12,none⟩ (.slice vo x.t.n vc)).heap[j]?=wr.heap[j]?:=SameBut.trans (SameBut.trans (SameBut.trans (SameBut.trans (SameBut.trans (SameBut.trans (SameBut.trans (SameBut.trans (SameBut.trans (SameBut.trans (SameBut.trans (SameBut.trans (same_set _ _ _ _) (same_set _ _ _ _)) (same_set _ _ _ _)) (same_set _ _ _ _)) (same_set _ _ _ _)) (same_set _ _ _ _)) (same_set _ _ _ _)) (same_set _ _ _ _)) (same_set _ _ _ _)) (same_set _ _ _ _)) (same_set _ _ _ _)) (same_set _ _ _ _)) (same_set _ _ _ _)
   have BR:Below N w wr:=by
    have h1:Below N w w1:=by rw [HN.out];exact BW
    exact h1.trans (B.mono (by omega))
   have BF:Below w.heap.size w (((((((((((((wr.setCell ⟨N + 1,0,none⟩ (.int .i64 x.kind)).setCell ⟨N + 1,1,none⟩ (.int .u64 (x.view:Nat))).setCell ⟨N + 1,2,none⟩ (.int .u64 (x.seq:Nat))).setCell ⟨N + 1,3,none⟩ (.slice x.sum.ao x.sum.n x.sum.cap)).setCell ⟨N + 1,4,none⟩ (.slice x.q.ao x.q.n x.q.cap)).setCell ⟨N + 1,5,none⟩ (.int .u64 (x.cl:Nat))).setCell ⟨N + 1,6,none⟩ (.int .u64 (x.st:Nat))).setCell ⟨N + 1,7,none⟩ (.int .u64 (x.vw:Nat))).setCell ⟨N + 1,8,none⟩ (.int .i64 x.e)).setCell ⟨N + 1,9,none⟩ (.slice x.c.ao x.c.n x.c.cap)).setCell ⟨N + 1,10,none⟩ (.bool x.more)).setCell ⟨N + 1,11,none⟩ (.slice so x.s.n sc)).setCell ⟨N + 1,12,none⟩ (.slice vo x.t.n vc)):=by
    rw [←HN.out]
    exact (((((((((((((BR).setCell (p:=⟨N + 1,0,none⟩) (Nat.le_succ N) _).setCell (p:=⟨N + 1,1,none⟩) (Nat.le_succ N) _).setCell (p:=⟨N + 1,2,none⟩) (Nat.le_succ N) _).setCell (p:=⟨N + 1,3,none⟩) (Nat.le_succ N) _).setCell (p:=⟨N + 1,4,none⟩) (Nat.le_succ N) _).setCell (p:=⟨N + 1,5,none⟩) (Nat.le_succ N) _).setCell (p:=⟨N + 1,6,none⟩) (Nat.le_succ N) _).setCell (p:=⟨N + 1,7,none⟩) (Nat.le_succ N) _).setCell (p:=⟨N + 1,8,none⟩) (Nat.le_succ N) _).setCell (p:=⟨N + 1,9,none⟩) (Nat.le_succ N) _).setCell (p:=⟨N + 1,10,none⟩) (Nat.le_succ N) _).setCell (p:=⟨N + 1,11,none⟩) (Nat.le_succ N) _).setCell (p:=⟨N + 1,12,none⟩) (Nat.le_succ N) _
   have OS:GL elS (((((((((((((wr.setCell ⟨N + 1,0,none⟩ (.int .i64 x.kind)).setCell ⟨N + 1,1,none⟩ (.int .u64 (x.view:Nat))).setCell ⟨N + 1,2,none⟩ (.int .u64 (x.seq:Nat))).setCell ⟨N + 1,3,none⟩ (.slice x.sum.ao x.sum.n x.sum.cap)).setCell ⟨N + 1,4,none⟩ (.slice x.q.ao x.q.n x.q.cap)).setCell ⟨N + 1,5,none⟩ (.int .u64 (x.cl:Nat))).setCell ⟨N + 1,6,none⟩ (.int .u64 (x.st:Nat))).setCell ⟨N + 1,7,none⟩ (.int .u64 (x.vw:Nat))).setCell ⟨N + 1,8,none⟩ (.int .i64 x.e)).setCell ⟨N + 1,9,none⟩ (.slice x.c.ao x.c.n x.c.cap)).setCell ⟨N + 1,10,none⟩ (.bool x.more)).setCell ⟨N + 1,11,none⟩ (.slice so x.s.n sc)).setCell ⟨N + 1,12,none⟩ (.slice vo x.t.n vc)) so x.s.n sc x.s.l:=G2.kept elS_fine fun z hz=>(SB.2 z (HG3.out z hz).2.2).trans (KO.out z (HG3.out z hz).1 (HG3.out z hz).2.1)
   have OT:GL elS.lists (((((((((((((wr.setCell ⟨N + 1,0,none⟩ (.int .i64 x.kind)).setCell ⟨N + 1,1,none⟩ (.int .u64 (x.view:Nat))).setCell ⟨N + 1,2,none⟩ (.int .u64 (x.seq:Nat))).setCell ⟨N + 1,3,none⟩ (.slice x.sum.ao x.sum.n x.sum.cap)).setCell ⟨N + 1,4,none⟩ (.slice x.q.ao x.q.n x.q.cap)).setCell ⟨N + 1,5,none⟩ (.int .u64 (x.cl:Nat))).setCell ⟨N + 1,6,none⟩ (.int .u64 (x.st:Nat))).setCell ⟨N + 1,7,none⟩ (.int .u64 (x.vw:Nat))).setCell ⟨N + 1,8,none⟩ (.int .i64 x.e)).setCell ⟨N + 1,9,none⟩ (.slice x.c.ao x.c.n x.c.cap)).setCell ⟨N + 1,10,none⟩ (.bool x.more)).setCell ⟨N + 1,11,none⟩ (.slice so x.s.n sc)).setCell ⟨N + 1,12,none⟩ (.slice vo x.t.n vc)) vo x.t.n vc ys:=GT.kept elS_fine.lists fun z hz=>SB.2 z (by
    rcases hz with hz | ⟨y,hy,hz⟩
    ·have:=farT z hz
     have:=tE2.size
     omega
    ·exact (HYG.out y hy z hz).2)
   have OK:(ownB x so sc vo vc ys).ok (((((((((((((wr.setCell ⟨N + 1,0,none⟩ (.int .i64 x.kind)).setCell ⟨N + 1,1,none⟩ (.int .u64 (x.view:Nat))).setCell ⟨N + 1,2,none⟩ (.int .u64 (x.seq:Nat))).setCell ⟨N + 1,3,none⟩ (.slice x.sum.ao x.sum.n x.sum.cap)).setCell ⟨N + 1,4,none⟩ (.slice x.q.ao x.q.n x.q.cap)).setCell ⟨N + 1,5,none⟩ (.int .u64 (x.cl:Nat))).setCell ⟨N + 1,6,none⟩ (.int .u64 (x.st:Nat))).setCell ⟨N + 1,7,none⟩ (.int .u64 (x.vw:Nat))).setCell ⟨N + 1,8,none⟩ (.int .i64 x.e)).setCell ⟨N + 1,9,none⟩ (.slice x.c.ao x.c.n x.c.cap)).setCell ⟨N + 1,10,none⟩ (.bool x.more)).setCell ⟨N + 1,11,none⟩ (.slice so x.s.n sc)).setCell ⟨N + 1,12,none⟩ (.slice vo x.t.n vc)):=⟨hx.kind,hx.view,hx.seq,hx.sum.below BF,hx.q.below elQ_fine BF,hx.cl,hx.st,hx.vw,hx.e,hx.c.below BF,OS,OT⟩
   have HPF:Hid (∃ so' sc' vo' vc' ys',(.agg #[.int .i64 x.kind,.int .u64 (x.view:Nat),.int .u64 (x.seq:Nat),.slice x.sum.ao x.sum.n x.sum.cap,.slice x.q.ao x.q.n x.q.cap,.int .u64 (x.cl:Nat),.int .u64 (x.st:Nat),.int .u64 (x.vw:Nat),.int .i64 x.e,.slice x.c.ao x.c.n x.c.cap,.bool x.more,.slice so x.s.n sc,.slice vo x.t.n vc]:Value)=(ownB x so' sc' vo' vc' ys').val∧(ownB x so' sc' vo' vc' ys').ok (((((((((((((wr.setCell ⟨N + 1,0,none⟩ (.int .i64 x.kind)).setCell ⟨N + 1,1,none⟩ (.int .u64 (x.view:Nat))).setCell ⟨N + 1,2,none⟩ (.int .u64 (x.seq:Nat))).setCell ⟨N + 1,3,none⟩ (.slice x.sum.ao x.sum.n x.sum.cap)).setCell ⟨N + 1,4,none⟩ (.slice x.q.ao x.q.n x.q.cap)).setCell ⟨N + 1,5,none⟩ (.int .u64 (x.cl:Nat))).setCell ⟨N + 1,6,none⟩ (.int .u64 (x.st:Nat))).setCell ⟨N + 1,7,none⟩ (.int .u64 (x.vw:Nat))).setCell ⟨N + 1,8,none⟩ (.int .i64 x.e)).setCell ⟨N + 1,9,none⟩ (.slice x.c.ao x.c.n x.c.cap)).setCell ⟨N + 1,10,none⟩ (.bool x.more)).setCell ⟨N + 1,11,none⟩ (.slice so x.s.n sc)).setCell ⟨N + 1,12,none⟩ (.slice vo x.t.n vc))∧ys'.map lsV=x.t.l.map lsV∧Below w.heap.size w (((((((((((((wr.setCell ⟨N + 1,0,none⟩ (.int .i64 x.kind)).setCell ⟨N + 1,1,none⟩ (.int .u64 (x.view:Nat))).setCell ⟨N + 1,2,none⟩ (.int .u64 (x.seq:Nat))).setCell ⟨N + 1,3,none⟩ (.slice x.sum.ao x.sum.n x.sum.cap)).setCell ⟨N + 1,4,none⟩ (.slice x.q.ao x.q.n x.q.cap)).setCell ⟨N + 1,5,none⟩ (.int .u64 (x.cl:Nat))).setCell ⟨N + 1,6,none⟩ (.int .u64 (x.st:Nat))).setCell ⟨N + 1,7,none⟩ (.int .u64 (x.vw:Nat))).setCell ⟨N + 1,8,none⟩ (.int .i64 x.e)).setCell ⟨N + 1,9,none⟩ (.slice x.c.ao x.c.n x.c.cap)).setCell ⟨N + 1,10,none⟩ (.bool x.more)).setCell ⟨N + 1,11,none⟩ (.slice so x.s.n sc)).setCell ⟨N + 1,12,none⟩ (.slice vo x.t.n vc))):=⟨so,sc,vo,vc,ys,rfl,OK,HYF.out,BF⟩
   clear SB BR BF OS OT OK HYF GT farT G2 HG3 KO B A2r HYG GI1 HY X1 hx A2 tE2 KM KN BW
   go_wp2
   refine bodyPost_ret (v:=.agg #[.int .i64 x.kind,.int .u64 (x.view:Nat),.int .u64 (x.seq:Nat),.slice x.sum.ao x.sum.n x.sum.cap,.slice x.q.ao x.q.n x.q.cap,.int .u64 (x.cl:Nat),.int .u64 (x.st:Nat),.int .u64 (x.vw:Nat),.int .i64 x.e,.slice x.c.ao x.c.n x.c.cap,.bool x.more,.slice so x.s.n sc,.slice vo x.t.n vc]) (by simp [results,Tryz.results8,go_sem,n0,n1,n2,n3,n4,n5,n6,n7,n8,n9,n10,n11,n12]) rfl ?_
   obtain ⟨so',sc',vo',vc',ys',h1,h2,h3,h4⟩:=HPF.out
   exact ⟨so',sc',vo',vc',ys',by rw [←h1],h2,h3,h4⟩
end Go.Proofs.YtnbejckdhdbamaaGreat

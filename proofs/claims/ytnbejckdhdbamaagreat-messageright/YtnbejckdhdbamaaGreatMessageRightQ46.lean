/-
  Texts in one: MgBytes, MgAlive.
-/
import Derived.Test.YtnbejckdhdbamaaGreatMessageRightQ45
import Derived.Test.YtnbejckdhdbamaaGreatMessageRightQ44
import Derived.Test.YtnbejckdhdbamaaGreatMessageRightQ17
namespace Go.Proofs.YtnbejckdhdbamaaGreat
open Go.RowKit
theorem wrap_small {n:Nat} (h:n≤1000000):IntKind.u64.wrap (n:Int)=(n:Int):=by
 unfold IntKind.wrap
 simp [IntKind.bits,IntKind.signed]
 omega
set_option maxRecDepth 100000 in
theorem vs_len {w:World} {ao:Option Addr} {n cap:Nat} {l:List SA} (h:GL elS w ao n cap l) (hn:n≤16) (hf:∀ s∈l,s.fit):(putLs putV (l.map SA.v)).length≤1051300:=by
 rw [putVs_map,List.length_append]
 have h1:=flatV_len (w:=w) l (fun s hs=>⟨h.ok s hs,hf s hs⟩)
 have h2:=h.len
 have h3:=enc_length (n:=l.length) (by omega)
 have:l.length * 65700≤16 * 65700:=Nat.mul_le_mul_right _ (by omega)
 omega
set_option maxRecDepth 100000 in
theorem sets_len {w:World} {ao:Option Addr} {n cap:Nat} {l:List (LS SA)} (h:GL elS.lists w ao n cap l) (hf:∀ t∈l,t.n≤16∧∀ s∈t.l,s.fit) (k:Nat):(((l.take k).map (fun s:LS SA=>putLs putV (s.l.map SA.v))).flatten).length≤k * 1051300:=by
 have g:∀ m:List (LS SA),(∀ t∈m,t∈l)→((m.map (fun s:LS SA=>putLs putV (s.l.map SA.v))).flatten).length≤m.length * 1051300:=by
  intro m
  induction m with
  | nil=>intro _;simp
  | cons a m ih =>
   intro hm
   have i1:=ih (fun x hx=>hm x (List.mem_cons_of_mem _ hx))
   have ha:=hm a (List.mem_cons_self ..)
   have i2:=vs_len (h.ok a ha) (hf a ha).1 (hf a ha).2
   simp only [List.map_cons,List.flatten_cons,List.length_append,List.length_cons]
   omega
 have g1:=g (l.take k) (fun t ht=>List.mem_of_mem_take ht)
 exact Nat.le_trans g1 (Nat.mul_le_mul_right _ (by rw [List.length_take];omega))
def BytPost (w:World) (x:BM) (e:Ending) (w':World):Prop :=
 ∃ bo m c,e=.returned (.tuple #[.slice bo m c,.int .i64 (if rightM x then 0 else 3)])∧Sl w' bo m c (if rightM x then putB x.v else [])∧Below w.heap.size w w'
set_option maxRecDepth 100000 in
set_option maxHeartbeats 16000000 in
theorem bytes_msg (w:World) (x:BM) (hx:x.ok w):Calls Tryz.prog 17 #[x.val] w (BytPost w x):=by
 have B:Below w.heap.size w (w.alloc (.cells #[.int .i64 x.kind,.int .u64 x.view,.int .u64 x.seq,.slice x.sum.ao x.sum.n x.sum.cap,.slice x.q.ao x.q.n x.q.cap,.int .u64 x.cl,.int .u64 x.st,.int .u64 x.vw,.int .i64 x.e,.slice x.c.ao x.c.n x.c.cap,.bool x.more,.slice x.s.ao x.s.n x.s.cap,.slice x.t.ao x.t.n x.t.cap] 41)):=(Below.refl _ w).alloc (Nat.le_refl _) _
 have K:BC (w.alloc (.cells #[.int .i64 x.kind,.int .u64 x.view,.int .u64 x.seq,.slice x.sum.ao x.sum.n x.sum.cap,.slice x.q.ao x.q.n x.q.cap,.int .u64 x.cl,.int .u64 x.st,.int .u64 x.vw,.int .i64 x.e,.slice x.c.ao x.c.n x.c.cap,.bool x.more,.slice x.s.ao x.s.n x.s.cap,.slice x.t.ao x.t.n x.t.cap] 41)) w.heap.size x:=heap_alloc_new w _
 have h1:=hx.below B
 have CR:=right_any (w.alloc (.cells #[.int .i64 x.kind,.int .u64 x.view,.int .u64 x.seq,.slice x.sum.ao x.sum.n x.sum.cap,.slice x.q.ao x.q.n x.q.cap,.int .u64 x.cl,.int .u64 x.st,.int .u64 x.vw,.int .i64 x.e,.slice x.c.ao x.c.n x.c.cap,.bool x.more,.slice x.s.ao x.s.n x.s.cap,.slice x.t.ao x.t.n x.t.cap] 41)) x h1
 clear hx
 unfold BM.val at CR ⊢
 go_enter Tryz.func17,Tryz.ntmps17
 go_wp2_with fail
 obtain ⟨w1,hw1⟩:∃ W,W=(w.alloc (.cells #[.int .i64 x.kind,.int .u64 x.view,.int .u64 x.seq,.slice x.sum.ao x.sum.n x.sum.cap,.slice x.q.ao x.q.n x.q.cap,.int .u64 x.cl,.int .u64 x.st,.int .u64 x.vw,.int .i64 x.e,.slice x.c.ao x.c.n x.c.cap,.bool x.more,.slice x.s.ao x.s.n x.s.cap,.slice x.t.ao x.t.n x.t.cap] 41)):=⟨_,rfl⟩
 obtain ⟨N,hN'⟩:∃ N,N=w.heap.size:=⟨_,rfl⟩
 rw [←hw1] at B K h1 CR ⊢
 rw [←hN'] at K ⊢
 clear hw1 hN'
 have Bw:=B
 have w1K:=K
 clear B K
 refine CR.mono ?_
 rintro e w2 ⟨rfl,w2B⟩
 clear CR
 by_cases hr:rightM x=true
 ·have rg:=rgt hr
  have hv:Hid ((if rightM x then (0:Int) else 3)=0):=if_pos hr
  rw [hv.out]
  have w2b:w1.heap.size≤w2.heap.size:=w2B.size
  have w2K:=w1K.keep w2B
  have w2H:=Buf.nil w2 w1.heap.size
  have w2N:Byt ([]:List Int):=w2H.byt
  obtain ⟨kn,hkn⟩:∃ n:Nat,n=x.kind.toNat:=⟨_,rfl⟩
  have hkd:=rg.kind
  have hki:x.kind=(kn:Int):=by omega
  have hk14:kn≤14:=by omega
  have iw:IntKind.u64.wrap x.kind=(kn:Int):=by rw [hki];exact wrap_small (by omega)
  have hvw:=rg.view
  have hsq:=rg.seq
  have le0:=enc_length (n:=kn) (by omega)
  have le1:=enc_length (n:=x.view) (by omega)
  have le2:=enc_length (n:=x.seq) (by omega)
  have HKN:Hid (kn=x.kind.toNat):=hkn
  have HKI:Hid (x.kind=(kn:Int)):=hki
  have hql:=h1.q.len
  have hsl:=h1.s.len
  have Hql:Hid (x.q.l.length=x.q.n):=hql
  have Hsl:Hid (x.s.l.length=x.s.n):=hsl
  clear hkn hki hkd hsl
  have k0:=w2K.cs.c0
  have k1:=w2K.cs.c1
  have k2:=w2K.cs.c2
  have C_:Below w2.heap.size w2 (w2.alloc (.cells #[.int .u64 kn,.int .u64 x.view,.int .u64 x.seq] 22)):=(Below.refl _ _).alloc (Nat.le_refl _) _
  have G:(w2.alloc (.cells #[.int .u64 kn,.int .u64 x.view,.int .u64 x.seq] 22)).heap[w2.heap.size]?=some (.cells #[.int .u64 kn,.int .u64 x.view,.int .u64 x.seq] 22):=heap_alloc_new _ _
  have CN:=putNumbers_any (w2.alloc (.cells #[.int .u64 kn,.int .u64 x.view,.int .u64 x.seq] 22)) w1.heap.size (.slice none 0 0) [] (w2H.below C_) (Nat.le_trans w2b C_.size) w2.heap.size [kn,x.view,x.seq] 3 rfl (by decide) (fun i hi=>by
   rcases (by have:i < 3:=hi;omega:i=0∨i=1∨i=2) with rfl | rfl | rfl
   ·exact cell_of_row _ _ 0 _ _ _ G
   ·exact cell_of_row _ _ 1 _ _ _ G
   ·exact cell_of_row _ _ 2 _ _ _ G) (w2H.new (Nat.le_refl _)) (fun n hn=>by simp only [List.mem_cons,List.not_mem_nil,or_false] at hn;rcases hn with rfl | rfl | rfl <;> omega) (by first | omega | simp)
  have en:([kn,x.view,x.seq].map enc).flatten=enc kn++(enc x.view++enc x.seq):=by simp
  rw [en] at CN
  clear en
  have w3T:=Bst.below C_ (.slice none 0 0)
  go_wp2_with fail
  clear G C_
  refine CN.mono ?_
  rintro e w3 ⟨w3u,rfl,w3H,T_⟩
  have w3T:=w3T.trans T_
  have w3B:=w2B.trans (w2H.bel w3T w2b)
  have w3b:w1.heap.size≤w3.heap.size:=w3B.size
  have w3K:=w1K.keep w3B
  clear CN T_ w3T
  clear w2H w2B w2b w2K iw k0 k1 k2 w2N
  simp only [List.nil_append] at w3H
  obtain ⟨Z1,hZ1⟩:∃ z,z=enc kn++(enc x.view++enc x.seq):=⟨_,rfl⟩
  have Z1l:Z1.length≤30:=by
   rw [hZ1]
   simp only [List.length_append]
   omega
  rw [←hZ1] at w3H
  have Z1E:Hid (Z1=enc kn++(enc x.view++enc x.seq)):=hZ1
  clear hZ1
  have k3:=w3K.cs.c3
  have hs32:=rg.sum
  have hsm:=h1.sum.len
  have CF:=putForm_any w3 w1.heap.size w3u Z1 w3H w3b x.sum.ao x.sum.n x.sum.cap x.sum.xs (h1.sum.below w3B) (by omega)
  go_wp2_with fail
  clear k3
  refine CF.mono ?_
  rintro e w4 ⟨w4u,rfl,w4H,T_⟩
  have w4B:=w3B.trans (w3H.bel T_ w3b)
  have w4b:w1.heap.size≤w4.heap.size:=w4B.size
  have w4K:=w1K.keep w4B
  clear T_
  clear CF w3H w3B w3b w3K
  have lsm:=byts_lim x.sum.xs (by omega)
  obtain ⟨Z2,hZ2⟩:∃ z,z=Z1++byts x.sum.xs:=⟨_,rfl⟩
  have Z2l:Z2.length≤80:=by
   rw [hZ2]
   simp only [List.length_append]
   omega
  rw [←hZ2] at w4H
  have Z2E:Hid (Z2=Z1++byts x.sum.xs):=hZ2
  clear hZ2
  clear lsm hsm
  have k4:=w4K.cs.c4
  have hqn:=rg.qn
  have iw:IntKind.u64.wrap (x.q.n:Int)=(x.q.n:Int):=wrap_small (by omega)
  have lqn:=enc_length (n:=x.q.n) (by omega)
  have C_:Below w4.heap.size w4 (w4.alloc (.cells #[.int .u64 x.q.n] 22)):=(Below.refl _ _).alloc (Nat.le_refl _) _
  have G:(w4.alloc (.cells #[.int .u64 x.q.n] 22)).heap[w4.heap.size]?=some (.cells #[.int .u64 x.q.n] 22):=heap_alloc_new _ _
  have CN:=putNumbers_any (w4.alloc (.cells #[.int .u64 x.q.n] 22)) w1.heap.size w4u Z2 (w4H.below C_) (Nat.le_trans w4b C_.size) w4.heap.size [x.q.n] 1 rfl (by decide) (fun i hi=>by
   obtain rfl:i=0:=(by have:i < 1:=hi;omega)
   exact cell_of_row _ _ 0 _ _ _ G) (w4H.new (Nat.le_refl _)) (fun n hn=>by simp only [List.mem_cons,List.not_mem_nil,or_false] at hn;subst hn;omega) (by first | omega | simp)
  have en:([x.q.n].map enc).flatten=enc x.q.n:=by simp
  rw [en] at CN
  clear en
  have w5T:=Bst.below C_ w4u
  go_wp2_with fail
  clear G C_
  refine CN.mono ?_
  rintro e w5 ⟨w5u,rfl,w5H,T_⟩
  have w5T:=w5T.trans T_
  have w5B:=w4B.trans (w4H.bel w5T w4b)
  have w5b:w1.heap.size≤w5.heap.size:=w5B.size
  have w5K:=w1K.keep w5B
  clear CN T_ w5T
  clear w4H w4B w4b w4K iw k4
  obtain ⟨Z3,hZ3⟩:∃ z,z=Z2++enc x.q.n:=⟨_,rfl⟩
  have Z3l:Z3.length≤100:=by
   rw [hZ3]
   simp only [List.length_append]
   omega
  rw [←hZ3] at w5H
  have Z3E:Hid (Z3=Z2++enc x.q.n):=hZ3
  clear hZ3
  have k4:=w5K.cs.c4
  have hqi:(x.q.n:Int)≤1:=by omega
  go_wp2_with fail
  clear k4
  go_loopw [5,40] (fun u' i wr=>∃ (k:Nat) (u:Value),k≤x.q.n∧i=.int .i64 k∧u=u'∧Buf wr w1.heap.size u (Z3++((x.q.l.take k).map (fun q:QM=>byts (putQ q.v))).flatten)∧Below w1.heap.size w1 wr) (fun _ i _=>x.q.n - (intOf i).toNat)
  case atStart=>exact ⟨0,w5u,Nat.zero_le _,rfl,rfl,by simpa using w5H,w5B⟩
  case round =>
   clear w5H w5B w5b w5K
   obtain ⟨k,u,hk,rfl,rfl,wrH,wrB⟩:=hrel
   have wrb:w1.heap.size≤wr.heap.size:=wrB.size
   by_cases hlt:k < x.q.n
   ·have hki:(k:Int) < (x.q.n:Int):=by omega
    obtain rfl:k=0:=by omega
    have hkl:0 < x.q.l.length:=by omega
    have hqr:=h1.q.below elQ_fine wrB
    obtain ⟨b,off,hao,hc⟩:=hqr.atQ (by omega)
    have X:=hc 0 hkl
    rw [show off + 0 * 12=off by omega] at X
    have hok:(x.q.l[0]).ok w1:=h1.q.ok _ (List.getElem_mem hkl)
    have hkq:=rg.q _ (List.getElem_mem hkl)
    have HX:Hid (((x.q.l.take (0 + 1)).map (fun q:QM=>byts (putQ q.v))).flatten=byts (putQ (x.q.l[0]).v)):=by
     show _=_
     rw [List.take_succ_eq_append_getElem hkl]
     simp
    obtain ⟨q,hq⟩:∃ q,q=x.q.l[0]:=⟨_,rfl⟩
    rw [←hq] at X hok hkq HX
    have wrH:Buf wr w1.heap.size u Z3:=by simpa using wrH
    have HZ:Hid (Z3++((x.q.l.take (0 + 1)).map (fun q:QM=>byts (putQ q.v))).flatten=Z3++byts (putQ q.v)):=by
     show _=_
     rw [HX.out]
    have HQV:Hid (putQ q.v=enc q.cl++(enc q.st++putA q.o q.l)):=by
     show _=_
     unfold putQ QM.v
     rw [putA_P]
    have hq8:=req_len hok hkq
    rw [HQV.out] at hq8
    clear hq HX hc hqr
    obtain ⟨q0,q1,q2,q3,q4,q5,q6,q7,q8,q9,q10,q11⟩:=X
    have C_:Below wr.heap.size wr (wr.alloc (.cells #[.int .u64 q.cl,.int .u64 q.st,.int .i64 q.o.kind,.string q.o.row,.string q.o.fam,.string q.o.qual,.int .u64 q.o.time,.string q.o.to,.slice q.o.va.ao q.o.va.n q.o.va.cap,.slice q.o.wa.ao q.o.wa.n q.o.wa.cap,.bool q.o.has,.slice q.o.so q.o.sn q.o.sc] 60)):=(Below.refl _ _).alloc (Nat.le_refl _) _
    have qok:q.ok (wr.alloc (.cells #[.int .u64 q.cl,.int .u64 q.st,.int .i64 q.o.kind,.string q.o.row,.string q.o.fam,.string q.o.qual,.int .u64 q.o.time,.string q.o.to,.slice q.o.va.ao q.o.va.n q.o.va.cap,.slice q.o.wa.ao q.o.wa.n q.o.wa.cap,.bool q.o.has,.slice q.o.so q.o.sn q.o.sc] 60)):=elQ_fine.below (elQ_fine.below hok wrB) C_
    have CQ:=preq_any (wr.alloc (.cells #[.int .u64 q.cl,.int .u64 q.st,.int .i64 q.o.kind,.string q.o.row,.string q.o.fam,.string q.o.qual,.int .u64 q.o.time,.string q.o.to,.slice q.o.va.ao q.o.va.n q.o.va.cap,.slice q.o.wa.ao q.o.wa.n q.o.wa.cap,.bool q.o.has,.slice q.o.so q.o.sn q.o.sc] 60)) q.cl q.st q.o q.l qok.cl qok.st qok.o qok.l
    rw [show qVal q.cl q.st q.o=.agg #[.int .u64 q.cl,.int .u64 q.st,.int .i64 q.o.kind,.string q.o.row,.string q.o.fam,.string q.o.qual,.int .u64 q.o.time,.string q.o.to,.slice q.o.va.ao q.o.va.n q.o.va.cap,.slice q.o.wa.ao q.o.wa.n q.o.wa.cap,.bool q.o.has,.slice q.o.so q.o.sn q.o.sc] from rfl] at CQ
    rw [hkq] at CQ
    have HAO:Hid (x.q.ao=some ⟨b,off,none⟩):=hao
    rw [hao]
    clear hao hok qok
    go_wp2_with fail
    refine CQ.mono ?_
    rintro e w6 ⟨⟨fo,fn,fc,rfl,S6⟩,D_⟩
    rw [if_pos rfl] at S6
    have TD:=(Bst.below C_ u).trans (Bst.below D_ u)
    have w6H:=(wrH.below C_).below D_
    have w6B:=wrB.trans (wrH.bel TD wrb)
    have w6b:w1.heap.size≤w6.heap.size:=w6B.size
    have l6:=S6.len
    clear CQ C_ D_ TD wrH wrB wrb q0 q1 q2 q3 q4 q5 q6 q7 q8 q9 q10 q11
    have CF:=putForm_any w6 w1.heap.size u Z3 w6H w6b fo fn fc _ S6 (by omega)
    go_wp2_with fail
    refine CF.mono ?_
    rintro e w7 ⟨w7u,rfl,w7H,T_⟩
    have w7B:=w6B.trans (w6H.bel T_ w6b)
    clear CF T_ w6H w6B w6b S6
    rw [←HQV.out] at w7H
    go_wp2
    go_roundw
    case rel=>exact ⟨0 + 1,w7u,by omega,by go_num,rfl,by rw [HZ.out];exact w7H,w7B⟩
    case measure=>simp [intOf];omega
   ·have hge:(x.q.n:Int)≤(k:Int):=by omega
    have HX:Hid ((x.q.l.take k).map (fun q:QM=>byts (putQ q.v))=x.q.l.map (fun q:QM=>byts (putQ q.v))):=by
     show _=_
     rw [List.take_of_length_le (by omega)]
    rw [HX.out] at wrH
    clear HX
    have lq:((x.q.l.map (fun q:QM=>byts (putQ q.v))).flatten).length≤8010:=by
     match e:x.q.l,hql with
     | [],_=>simp
     | [q],_ =>
      have h2:=req_len (h1.q.ok q (by rw [e];exact List.mem_singleton.2 rfl)) (rg.q q (by rw [e];exact List.mem_singleton.2 rfl))
      have h3:=byts_lim (putQ q.v) (by omega)
      simp only [List.map_cons,List.map_nil,List.flatten_cons,List.flatten_nil,List.append_nil]
      omega
     | _ :: _ :: _,hh=>simp only [List.length_cons] at hh;omega
    obtain ⟨Z4,hZ4⟩:∃ z,z=Z3++(x.q.l.map (fun q:QM=>byts (putQ q.v))).flatten:=⟨_,rfl⟩
    have Z4l:Z4.length≤9000:=by
     rw [hZ4]
     simp only [List.length_append]
     omega
    rw [←hZ4] at wrH
    have Z4E:Hid (Z4=Z3++(x.q.l.map (fun q:QM=>byts (putQ q.v))).flatten):=hZ4
    clear hZ4
    clear lq
    have wrK:=w1K.keep wrB
    by_cases h5:x.kind=5
    ·have i5:(x.kind == 5)=true:=by simp [h5]
     have H5:Hid (x.kind=5):=h5
     have hr5:=rg.r5 h5
     clear h5
     have k0:=wrK.cs.c0
     have k5:=wrK.cs.c5
     have k6:=wrK.cs.c6
     have k7:=wrK.cs.c7
     have k8:=wrK.cs.c8
     have k9:=wrK.cs.c9
     have k10:=wrK.cs.c10
     have CP:=putReply_any wr w1.heap.size u Z4 wrH wrb x.cl x.st x.vw h1.cl h1.st h1.vw x.e x.c.ao x.c.n x.c.cap x.c.l x.more (h1.c.below wrB) hr5 (by omega)
     have lp:(putPV ⟨x.cl,x.st,x.vw,resR x.e x.c.l x.more⟩).length≤8100:=by
      have a1:=enc_length h1.cl
      have a2:=enc_length h1.st
      have a3:=enc_length h1.vw
      have a4:=(res_back hr5 h1.c.ok).2
      have a5:=byts_lim (putR (resR x.e x.c.l x.more)) (by omega)
      unfold putPV
      simp only [List.length_append]
      omega
     go_wp2_with fail
     clear k0 k5 k6 k7 k8 k9 k10
     refine CP.mono ?_
     rintro e w7 ⟨w7u,rfl,w7H,T_⟩
     have w7B:=wrB.trans (wrH.bel T_ wrb)
     have w7b:w1.heap.size≤w7.heap.size:=w7B.size
     have w7K:=w1K.keep w7B
     clear T_
     clear CP wrH wrB wrb wrK
     obtain ⟨Z5,hZ5⟩:∃ z,z=Z4++putPV ⟨x.cl,x.st,x.vw,resR x.e x.c.l x.more⟩:=⟨_,rfl⟩
     have Z5l:Z5.length≤20000:=by
      rw [hZ5]
      simp only [List.length_append]
      omega
     rw [←hZ5] at w7H
     have Z5E:Hid (Z5=Z4++putPV ⟨x.cl,x.st,x.vw,resR x.e x.c.l x.more⟩):=hZ5
     clear hZ5
     clear lp hr5
     have k11:=w7K.cs.c11
     have CT:=putTexts_any w7 w1.heap.size w7u Z5 w7H w7b w1 w7B rfl x.s.ao x.s.n x.s.cap x.s.l h1.s rg.sn rg.s (by omega)
     go_wp2_with fail
     clear k11
     refine CT.mono ?_
     rintro e w8 ⟨w8u,rfl,w8H,T_⟩
     have w8B:=w7B.trans (w7H.bel T_ w7b)
     have w8b:w1.heap.size≤w8.heap.size:=w8B.size
     have w8K:=w1K.keep w8B
     clear T_
     clear CT w7H w7B w7b w7K
     have lc:(putLs putV (x.s.l.map SA.v)).length≤1051300:=vs_len h1.s rg.sn rg.s
     obtain ⟨Z6,hZ6⟩:∃ z,z=Z5++putLs putV (x.s.l.map SA.v):=⟨_,rfl⟩
     have Z6l:Z6.length≤1110000:=by
      rw [hZ6]
      simp only [List.length_append]
      omega
     rw [←hZ6] at w8H
     have Z6E:Hid (Z6=Z5++putLs putV (x.s.l.map SA.v)):=hZ6
     clear hZ6
     clear lc
     have k12:=w8K.cs.c12
     have iw:IntKind.u64.wrap (x.t.n:Int)=(x.t.n:Int):=wrap_small (by have:=rg.tn;omega)
     have htn:=rg.tn
     have ltn:=enc_length (n:=x.t.n) (by omega)
     have C_:Below w8.heap.size w8 (w8.alloc (.cells #[.int .u64 x.t.n] 22)):=(Below.refl _ _).alloc (Nat.le_refl _) _
     have G:(w8.alloc (.cells #[.int .u64 x.t.n] 22)).heap[w8.heap.size]?=some (.cells #[.int .u64 x.t.n] 22):=heap_alloc_new _ _
     have CN:=putNumbers_any (w8.alloc (.cells #[.int .u64 x.t.n] 22)) w1.heap.size w8u Z6 (w8H.below C_) (Nat.le_trans w8b C_.size) w8.heap.size [x.t.n] 1 rfl (by decide) (fun i hi=>by
   obtain rfl:i=0:=(by have:i < 1:=hi;omega)
   exact cell_of_row _ _ 0 _ _ _ G) (w8H.new (Nat.le_refl _)) (fun n hn=>by simp only [List.mem_cons,List.not_mem_nil,or_false] at hn;subst hn;omega) (by first | omega | simp)
     have en:([x.t.n].map enc).flatten=enc x.t.n:=by simp
     rw [en] at CN
     clear en
     have w9T:=Bst.below C_ w8u
     go_wp2_with fail
     clear G C_
     refine CN.mono ?_
     rintro e w9 ⟨w9u,rfl,w9H,T_⟩
     have w9T:=w9T.trans T_
     have w9B:=w8B.trans (w8H.bel w9T w8b)
     have w9b:w1.heap.size≤w9.heap.size:=w9B.size
     have w9K:=w1K.keep w9B
     clear CN T_ w9T
     clear w8H w8B w8b w8K iw k12
     obtain ⟨Z7,hZ7⟩:∃ z,z=Z6++enc x.t.n:=⟨_,rfl⟩
     have Z7l:Z7.length≤1200000:=by
      rw [hZ7]
      simp only [List.length_append]
      omega
     rw [←hZ7] at w9H
     have Z7E:Hid (Z7=Z6++enc x.t.n):=hZ7
     clear hZ7
     have k12:=w9K.cs.c12
     have hti:(x.t.n:Int)≤16:=by omega
     have htl:=h1.t.len
     go_wp2_with fail
     clear k12
     go_loopw [5,74] (fun u' i wr=>∃ (k:Nat) (u:Value),k≤x.t.n∧i=.int .i64 k∧u=u'∧Buf wr w1.heap.size u (Z7++((x.t.l.take k).map (fun s:LS SA=>putLs putV (s.l.map SA.v))).flatten)∧Below w1.heap.size w1 wr) (fun _ i _=>x.t.n - (intOf i).toNat)
     case atStart=>exact ⟨0,w9u,Nat.zero_le _,rfl,rfl,by simpa using w9H,w9B⟩
     case round =>
      clear w9H w9B w9b w9K
      obtain ⟨k,u,hk,rfl,rfl,wrH,wrB⟩:=hrel
      have wrb:w1.heap.size≤wr.heap.size:=wrB.size
      by_cases hlt:k < x.t.n
      ·have hki:(k:Int) < (x.t.n:Int):=by omega
       have hkl:k < x.t.l.length:=by omega
       have htr:=h1.t.below elS_fine.lists wrB
       obtain ⟨b,off,hao,hc⟩:=htr.atL (by omega)
       have X:=hc k hkl
       have hok:GL elS w1 (x.t.l[k]).ao (x.t.l[k]).n (x.t.l[k]).cap (x.t.l[k]).l:=h1.t.ok _ (List.getElem_mem hkl)
       obtain ⟨hs16,hsf⟩:=rg.t _ (List.getElem_mem hkl)
       have HX:Hid (((x.t.l.take (k + 1)).map (fun s:LS SA=>putLs putV (s.l.map SA.v))).flatten=((x.t.l.take k).map (fun s:LS SA=>putLs putV (s.l.map SA.v))).flatten++putLs putV ((x.t.l[k]).l.map SA.v)):=by
        show _=_
        rw [List.take_succ_eq_append_getElem hkl,List.map_append,List.flatten_append]
        simp
       have hfl:=sets_len h1.t rg.t k
       obtain ⟨s,hs⟩:∃ s,s=x.t.l[k]:=⟨_,rfl⟩
       rw [←hs] at X hok hs16 hsf HX
       obtain ⟨zs,hzs⟩:∃ z,z=Z7++((x.t.l.take k).map (fun s:LS SA=>putLs putV (s.l.map SA.v))).flatten:=⟨_,rfl⟩
       have hzl:zs.length≤100000000:=by
        rw [hzs,List.length_append]
        have:k * 1051300≤16 * 1051300:=Nat.mul_le_mul_right _ (by omega)
        omega
       have HZ:Hid (Z7++((x.t.l.take (k + 1)).map (fun s:LS SA=>putLs putV (s.l.map SA.v))).flatten=zs++putLs putV (s.l.map SA.v)):=by
        show _=_
        rw [HX.out,hzs,List.append_assoc]
       rw [←hzs] at wrH
       clear hs hzs HX hfl hc htr
       have CT:=putTexts_any wr w1.heap.size u zs wrH wrb w1 wrB rfl s.ao s.n s.cap s.l hok hs16 hsf (by omega)
       have HAO:Hid (x.t.ao=some ⟨b,off,none⟩):=hao
       rw [hao]
       clear hao
       go_wp2_with fail
       refine CT.mono ?_
       rintro e w10 ⟨w10u,rfl,w10H,T_⟩
       have w10B:=wrB.trans (wrH.bel T_ wrb)
       clear CT T_ wrH wrB wrb X
       go_wp2
       go_roundw
       case rel=>exact ⟨k + 1,w10u,by omega,by go_num,rfl,by rw [HZ.out];exact w10H,w10B⟩
       case measure=>simp [intOf];omega
      ·have hge:(x.t.n:Int)≤(k:Int):=by omega
       have HX:Hid ((x.t.l.take k).map (fun s:LS SA=>putLs putV (s.l.map SA.v))=x.t.l.map (fun s:LS SA=>putLs putV (s.l.map SA.v))):=by
        show _=_
        rw [List.take_of_length_le (by omega)]
       rw [HX.out] at wrH
       obtain ⟨uo,uc,rfl,S9,-⟩:=Sl.own wrH.own wrH.byt
       have EF:Hid (Z7++(x.t.l.map (fun s:LS SA=>putLs putV (s.l.map SA.v))).flatten=putB x.v):=by
        show _=_
        have h5:=H5.out
        have hsl:=Hsl.out
        have hkn:=HKN.out
        subst hkn
        rw [Z7E.out,Z6E.out,Z5E.out,Z4E.out,Z3E.out,Z2E.out,Z1E.out]
        unfold putB BM.v putLs
        rw [if_pos h5]
        simp only [List.length_map,List.map_map,Function.comp_def,List.append_assoc,hql,hsl,htl]
       have BF:=Bw.trans (wrB.mono Bw.size)
       clear wrH wrB HX
       go_wp2
       go_ret2
       exact ⟨uo,_,uc,by rw [if_pos hr] <;> rfl,by rw [if_pos hr,←EF.out];exact S9,BF⟩
    ·have i5:(x.kind == 5)=false:=by simp [h5]
     have H5:Hid (¬x.kind=5):=h5
     clear h5
     have k0:=wrK.cs.c0
     have k11:=wrK.cs.c11
     have CT:=putTexts_any wr w1.heap.size u Z4 wrH wrb w1 wrB rfl x.s.ao x.s.n x.s.cap x.s.l h1.s rg.sn rg.s (by omega)
     go_wp2_with fail
     clear k11 k0
     refine CT.mono ?_
     rintro e w8 ⟨w8u,rfl,w8H,T_⟩
     have w8B:=wrB.trans (wrH.bel T_ wrb)
     have w8b:w1.heap.size≤w8.heap.size:=w8B.size
     have w8K:=w1K.keep w8B
     clear T_
     clear CT wrH wrB wrb wrK
     have lc:(putLs putV (x.s.l.map SA.v)).length≤1051300:=vs_len h1.s rg.sn rg.s
     obtain ⟨Z6,hZ6⟩:∃ z,z=Z4++putLs putV (x.s.l.map SA.v):=⟨_,rfl⟩
     have Z6l:Z6.length≤1110000:=by
      rw [hZ6]
      simp only [List.length_append]
      omega
     rw [←hZ6] at w8H
     have Z6E:Hid (Z6=Z4++putLs putV (x.s.l.map SA.v)):=hZ6
     clear hZ6
     clear lc
     have k12:=w8K.cs.c12
     have iw:IntKind.u64.wrap (x.t.n:Int)=(x.t.n:Int):=wrap_small (by have:=rg.tn;omega)
     have htn:=rg.tn
     have ltn:=enc_length (n:=x.t.n) (by omega)
     have C_:Below w8.heap.size w8 (w8.alloc (.cells #[.int .u64 x.t.n] 22)):=(Below.refl _ _).alloc (Nat.le_refl _) _
     have G:(w8.alloc (.cells #[.int .u64 x.t.n] 22)).heap[w8.heap.size]?=some (.cells #[.int .u64 x.t.n] 22):=heap_alloc_new _ _
     have CN:=putNumbers_any (w8.alloc (.cells #[.int .u64 x.t.n] 22)) w1.heap.size w8u Z6 (w8H.below C_) (Nat.le_trans w8b C_.size) w8.heap.size [x.t.n] 1 rfl (by decide) (fun i hi=>by
   obtain rfl:i=0:=(by have:i < 1:=hi;omega)
   exact cell_of_row _ _ 0 _ _ _ G) (w8H.new (Nat.le_refl _)) (fun n hn=>by simp only [List.mem_cons,List.not_mem_nil,or_false] at hn;subst hn;omega) (by first | omega | simp)
     have en:([x.t.n].map enc).flatten=enc x.t.n:=by simp
     rw [en] at CN
     clear en
     have w9T:=Bst.below C_ w8u
     go_wp2_with fail
     clear G C_
     refine CN.mono ?_
     rintro e w9 ⟨w9u,rfl,w9H,T_⟩
     have w9T:=w9T.trans T_
     have w9B:=w8B.trans (w8H.bel w9T w8b)
     have w9b:w1.heap.size≤w9.heap.size:=w9B.size
     have w9K:=w1K.keep w9B
     clear CN T_ w9T
     clear w8H w8B w8b w8K iw k12
     obtain ⟨Z7,hZ7⟩:∃ z,z=Z6++enc x.t.n:=⟨_,rfl⟩
     have Z7l:Z7.length≤1200000:=by
      rw [hZ7]
      simp only [List.length_append]
      omega
     rw [←hZ7] at w9H
     have Z7E:Hid (Z7=Z6++enc x.t.n):=hZ7
     clear hZ7
     have k12:=w9K.cs.c12
     have hti:(x.t.n:Int)≤16:=by omega
     have htl:=h1.t.len
     go_wp2_with fail
     clear k12
     go_loopw [5,74] (fun u' i wr=>∃ (k:Nat) (u:Value),k≤x.t.n∧i=.int .i64 k∧u=u'∧Buf wr w1.heap.size u (Z7++((x.t.l.take k).map (fun s:LS SA=>putLs putV (s.l.map SA.v))).flatten)∧Below w1.heap.size w1 wr) (fun _ i _=>x.t.n - (intOf i).toNat)
     case atStart=>exact ⟨0,w9u,Nat.zero_le _,rfl,rfl,by simpa using w9H,w9B⟩
     case round =>
      clear w9H w9B w9b w9K
      obtain ⟨k,u,hk,rfl,rfl,wrH,wrB⟩:=hrel
      have wrb:w1.heap.size≤wr.heap.size:=wrB.size
      by_cases hlt:k < x.t.n
      ·have hki:(k:Int) < (x.t.n:Int):=by omega
       have hkl:k < x.t.l.length:=by omega
       have htr:=h1.t.below elS_fine.lists wrB
       obtain ⟨b,off,hao,hc⟩:=htr.atL (by omega)
       have X:=hc k hkl
       have hok:GL elS w1 (x.t.l[k]).ao (x.t.l[k]).n (x.t.l[k]).cap (x.t.l[k]).l:=h1.t.ok _ (List.getElem_mem hkl)
       obtain ⟨hs16,hsf⟩:=rg.t _ (List.getElem_mem hkl)
       have HX:Hid (((x.t.l.take (k + 1)).map (fun s:LS SA=>putLs putV (s.l.map SA.v))).flatten=((x.t.l.take k).map (fun s:LS SA=>putLs putV (s.l.map SA.v))).flatten++putLs putV ((x.t.l[k]).l.map SA.v)):=by
        show _=_
        rw [List.take_succ_eq_append_getElem hkl,List.map_append,List.flatten_append]
        simp
       have hfl:=sets_len h1.t rg.t k
       obtain ⟨s,hs⟩:∃ s,s=x.t.l[k]:=⟨_,rfl⟩
       rw [←hs] at X hok hs16 hsf HX
       obtain ⟨zs,hzs⟩:∃ z,z=Z7++((x.t.l.take k).map (fun s:LS SA=>putLs putV (s.l.map SA.v))).flatten:=⟨_,rfl⟩
       have hzl:zs.length≤100000000:=by
        rw [hzs,List.length_append]
        have:k * 1051300≤16 * 1051300:=Nat.mul_le_mul_right _ (by omega)
        omega
       have HZ:Hid (Z7++((x.t.l.take (k + 1)).map (fun s:LS SA=>putLs putV (s.l.map SA.v))).flatten=zs++putLs putV (s.l.map SA.v)):=by
        show _=_
        rw [HX.out,hzs,List.append_assoc]
       rw [←hzs] at wrH
       clear hs hzs HX hfl hc htr
       have CT:=putTexts_any wr w1.heap.size u zs wrH wrb w1 wrB rfl s.ao s.n s.cap s.l hok hs16 hsf (by omega)
       have HAO:Hid (x.t.ao=some ⟨b,off,none⟩):=hao
       rw [hao]
       clear hao
       go_wp2_with fail
       refine CT.mono ?_
       rintro e w10 ⟨w10u,rfl,w10H,T_⟩
       have w10B:=wrB.trans (wrH.bel T_ wrb)
       clear CT T_ wrH wrB wrb X
       go_wp2
       go_roundw
       case rel=>exact ⟨k + 1,w10u,by omega,by go_num,rfl,by rw [HZ.out];exact w10H,w10B⟩
       case measure=>simp [intOf];omega
      ·have hge:(x.t.n:Int)≤(k:Int):=by omega
       have HX:Hid ((x.t.l.take k).map (fun s:LS SA=>putLs putV (s.l.map SA.v))=x.t.l.map (fun s:LS SA=>putLs putV (s.l.map SA.v))):=by
        show _=_
        rw [List.take_of_length_le (by omega)]
       rw [HX.out] at wrH
       obtain ⟨uo,uc,rfl,S9,-⟩:=Sl.own wrH.own wrH.byt
       have EF:Hid (Z7++(x.t.l.map (fun s:LS SA=>putLs putV (s.l.map SA.v))).flatten=putB x.v):=by
        show _=_
        have h5:=H5.out
        have hsl:=Hsl.out
        have hkn:=HKN.out
        subst hkn
        rw [Z7E.out,Z6E.out,Z4E.out,Z3E.out,Z2E.out,Z1E.out]
        unfold putB BM.v putLs
        rw [if_neg h5]
        simp only [List.length_map,List.map_map,Function.comp_def,List.append_assoc,hql,hsl,htl,List.nil_append]
       have BF:=Bw.trans (wrB.mono Bw.size)
       clear wrH wrB HX
       go_wp2
       go_ret2
       exact ⟨uo,_,uc,by rw [if_pos hr] <;> rfl,by rw [if_pos hr,←EF.out];exact S9,BF⟩
 have hv:Hid ((if rightM x then (0:Int) else 3)=3):=if_neg hr
 have BF:=Bw.trans (w2B.mono Bw.size)
 rw [hv.out]
 go_wp2
 go_ret2
 exact ⟨none,0,0,by rw [hv.out] <;> rfl,by rw [if_neg hr];exact Sl.nothing _,BF⟩
open Go.RowKit
theorem rdR_ne (bs:List Int) (k:Int) (e:rdR bs=.inl k):k≠0:=rdAll_ne thr_r bs k e
theorem bT_put {v:BV} (h:okB v):bT (putB v) 0=(v,[],0):=by
 have:=fair_b.put v [] h
 rw [List.append_nil] at this
 exact (thr_b rdR_ne).ok _ _ _ this
def liveV:BV:=⟨4,1,2,List.replicate 32 0,[],zPV,[],[]⟩
theorem liveV_ok:okB liveV:=by
 refine ⟨by decide,by decide,by decide,⟨by decide,?_⟩,⟨by decide,fun _ h=>by cases h⟩,?_,⟨by decide,fun _ h=>by cases h⟩,⟨by decide,fun _ h=>by cases h⟩⟩
 ·intro x hx
  have:=List.eq_of_mem_replicate hx
  omega
 ·show (if (4:Int).toNat=5 then okPV1 zPV else zPV=zPV)
  rw [if_neg (by decide)]
theorem liveV_right:rightV liveV=true:=by decide
theorem liveV_put:putB liveV=4 :: (1 :: 2 :: 32 :: (List.replicate 32 0++[0,0,0])):=by decide
def liveM (g:Nat):BM:=⟨4,1,2,⟨some ⟨g,0,none⟩,32,32,List.replicate 32 0⟩,⟨none,0,0,[]⟩,0,0,0,0,⟨none,0,0,[]⟩,false,⟨none,0,0,[]⟩,⟨none,0,0,[]⟩⟩
theorem mk32 (w:World):(Instr.makeSlice 23 (.int .i64 32) (.int .i64 32)).run Tryz.prog w=.ok (.slice (some ⟨w.heap.size,0,none⟩) 32 32) (w.alloc (.cells (bv (List.replicate 32 0)).toArray 5)):=by kernel_rfl
set_option maxRecDepth 100000 in
set_option maxHeartbeats 8000000 in
theorem alive13 (w:World):Calls Tryz.prog 6 #[] w fun e w'=>e=.returned (.bool true)∧Below w.heap.size w w':=by
 have mk:(Instr.makeSlice 23 (.int .i64 32) (.int .i64 32)).run Tryz.prog w=.ok (.slice (some ⟨w.heap.size,0,none⟩) 32 32) (w.alloc (.cells (bv (List.replicate 32 0)).toArray 5)):=mk32 w
 have B1:Below w.heap.size w (w.alloc (.cells (bv (List.replicate 32 0)).toArray 5)):=(Below.refl _ _).alloc (Nat.le_refl _) _
 have S1:Sl (w.alloc (.cells (bv (List.replicate 32 0)).toArray 5)) (some ⟨w.heap.size,0,none⟩) 32 32 (List.replicate 32 0):=Sl.new w (List.replicate 32 0) liveV_ok.sum.2 (by decide)
 obtain ⟨w1,hw1⟩:∃ W,W=w.alloc (.cells (bv (List.replicate 32 0)).toArray 5):=⟨_,rfl⟩
 obtain ⟨N,hN⟩:∃ N,N=w.heap.size:=⟨_,rfl⟩
 rw [←hw1] at mk B1 S1
 rw [←hN] at mk S1
 have OK:(liveM N).ok w1:=⟨by show (-9223372036854775808:Int)≤4∧(4:Int)≤9223372036854775807;decide,by show 1 < _;decide,by show 2 < _;decide,S1,GL.nothing _ _,by show 0 < _;decide,by show 0 < _;decide,by show 0 < _;decide,by show (-9223372036854775808:Int)≤0∧(0:Int)≤9223372036854775807;decide,CL.nothing _,GL.nothing _ _,GL.nothing _ _⟩
 have hr:rightM (liveM N)=true:=(rightM_v OK (fun _ h=>by cases h)).trans liveV_right
 have CB:=bytes_msg w1 (liveM N) OK
 have HP:Hid (BytPost w1 (liveM N)=fun e w'=>∃ bo m c,e=.returned (.tuple #[.slice bo m c,.int .i64 0])∧Sl w' bo m c (putB liveV)∧Below w1.heap.size w1 w'):=by
  show _=_
  unfold BytPost
  simp only [hr,if_true]
  rfl
 rw [HP.out] at CB
 simp only [liveM,BM.val] at CB
 clear hw1 hN HP hr OK S1
 go_enter Tryz.func6,Tryz.ntmps6
 go_wp2_with fail
 refine CB.mono ?_
 rintro e w2 ⟨bo,m,c,rfl,S2,C2⟩
 have B2:=B1.trans (C2.mono B1.size)
 have hm:m=39:=by rw [←S2.len,liveV_put];rfl
 subst hm
 clear CB mk B1 C2
 have CR:=read_msg w2 bo 39 c (putB liveV) S2 (by omega)
 go_wp2_with fail
 refine CR.mono ?_
 rintro e w3 ⟨x,ok,fl,hv,he,C3⟩
 rw [bT_put liveV_ok] at hv he
 have hr:rightM x=true:=by rw [rightM_v ok fl,hv];exact liveV_right
 rw [if_pos ⟨rfl,hr⟩] at he
 subst he
 have hs:x.seq=2:=congrArg BV.seq hv
 have S3:=S2.below C3
 have B3:=B2.trans (C3.mono B2.size)
 clear CR C3 S2 B2 hr fl hv ok
 obtain ⟨b,off,rfl,hc⟩:=S3.at (by omega)
 have c0:w3.cell? ⟨b,off,none⟩=some (.int .u8 4):=by
  have:=hc 0 (by omega)
  rw [liveV_put] at this
  exact this
 clear hc S3
 unfold BM.val
 have B4:Below w.heap.size w (w3.alloc (.cells #[.int .i64 x.kind,.int .u64 x.view,.int .u64 x.seq,.slice x.sum.ao x.sum.n x.sum.cap,.slice x.q.ao x.q.n x.q.cap,.int .u64 x.cl,.int .u64 x.st,.int .u64 x.vw,.int .i64 x.e,.slice x.c.ao x.c.n x.c.cap,.bool x.more,.slice x.s.ao x.s.n x.s.cap,.slice x.t.ao x.t.n x.t.cap] 41)):=B3.alloc B3.size _
 have C4:Below w3.heap.size w3 (w3.alloc (.cells #[.int .i64 x.kind,.int .u64 x.view,.int .u64 x.seq,.slice x.sum.ao x.sum.n x.sum.cap,.slice x.q.ao x.q.n x.q.cap,.int .u64 x.cl,.int .u64 x.st,.int .u64 x.vw,.int .i64 x.e,.slice x.c.ao x.c.n x.c.cap,.bool x.more,.slice x.s.ao x.s.n x.s.cap,.slice x.t.ao x.t.n x.t.cap] 41)):=(Below.refl _ _).alloc (Nat.le_refl _) _
 have c1:=(C4.cell (World.block_lt_of_cell? w3 _ c0)).trans c0
 clear c0 C4
 have i2:((x.seq:Int) == 2)=true:=by rw [hs];rfl
 clear hs
 go_wp2
 go_ret
 exact ⟨rfl,B4⟩
end Go.Proofs.YtnbejckdhdbamaaGreat

/-
  Texts in one: MgBuf, MgPut, ResBack, MgPutT, PResF, MgPutR.
-/
import Derived.Test.YtnbejckdhdbamaaGreatMessageRightQFL
import Derived.Test.YtnbejckdhdbamaaGreatMessageRightQ3
import Derived.Test.YtnbejckdhdbamaaGreatMessageRightQ0
import Derived.Maps.AppendAt
import Derived.Test.YtnbejckdhdbamaaGreatMessageRightQ10
import Derived.Test.YtnbejckdhdbamaaGreatMessageRightQ40
import Derived.Test.YtnbejckdhdbamaaGreatMessageRightQ17
import Derived.Deep.Slices
import Derived.ArgAppend
import Derived.Deep.Upon
import Derived.DataElems
import Derived.Test.YtnbejckdhdbamaaGreatMessageRightQ42
namespace Go.Proofs.YtnbejckdhdbamaaGreat
open Go.RowKit
structure Buf (w:World) (base:Nat) (v:Value) (xs:List Int):Prop where
 own:w.ownsRow base 5 1 v xs.length (bv xs)
 byt:Byt xs
structure Bst (w:World) (v:Value) (w':World) (v':Value):Prop where
 gr:w.grownBy w' v.ownBlock
 at':∀ g,v'.ownBlock=some g→v.ownBlock=some g∨w.heap.size≤g
theorem bel_gr {w w':World} (h:Below w.heap.size w w') (r:Option Nat):w.grownBy w' r:=⟨h.os,h.tape,h.output,h.size,fun k hk _=>h.block k hk⟩
theorem Bst.refl (w:World) (v:Value):Bst w v w v:=⟨bel_gr (Below.refl _ w) _,fun _ h=>.inl h⟩
theorem Bst.trans {w w1 w2:World} {v v1 v2:Value} (h:Bst w v w1 v1) (k:Bst w1 v1 w2 v2):Bst w v w2 v2 :=
 ⟨⟨k.gr.os.trans h.gr.os,k.gr.tape.trans h.gr.tape,k.gr.output.trans h.gr.output,Nat.le_trans h.gr.size k.gr.size,fun z hz hne=>(k.gr.block z (Nat.lt_of_lt_of_le hz h.gr.size) (fun e=>by
  rcases h.at' z e.symm with c | c
  ·exact hne c.symm
  ·omega)).trans (h.gr.block z hz hne)⟩,fun g hg=>by
  rcases k.at' g hg with c | c
  ·exact h.at' g c
  ·exact .inr (Nat.le_trans h.gr.size c)⟩
theorem Bst.below {w w1:World} (h:Below w.heap.size w w1) (v:Value):Bst w v w1 v:=⟨bel_gr h _,fun _ h=>.inl h⟩
theorem Bst.block {w w':World} {v v':Value} (h:Bst w v w' v') {z:Nat} (hz:z < w.heap.size) (hne:v.ownBlock≠some z):w'.heap[z]?=w.heap[z]?:=h.gr.block z hz (fun e=>hne e.symm)
theorem Bst.off {w w':World} {v v':Value} (h:Bst w v w' v') {z:Nat} (hz:z < w.heap.size) (hne:v.ownBlock≠some z):v'.ownBlock≠some z:=fun e=>by
 rcases h.at' z e with c | c
 ·exact hne c
 ·omega
theorem Buf.nil (w:World) (base:Nat):Buf w base (.slice none 0 0) []:=⟨World.ownsRow_nil _ _ _ _,fun _ h=>by cases h⟩
theorem Buf.bel {w w':World} {base:Nat} {v v':Value} {xs:List Int} (h:Buf w base v xs) (k:Bst w v w' v') (hb:base≤w.heap.size):Below base w w':=(Below.refl _ w).grown k.gr hb (fun z hz=>(h.own.lt z hz).1)
theorem Buf.below {w w':World} {base:Nat} {v:Value} {xs:List Int} (h:Buf w base v xs) (hb:Below w.heap.size w w'):Buf w' base v xs:=⟨own_kept h.own fun g hg=>hb.block g (h.own.lt g hg).2,h.byt⟩
theorem Buf.lt {w:World} {base:Nat} {v:Value} {xs:List Int} (h:Buf w base v xs) {z:Nat} (hz:v.ownBlock=some z):base≤z∧z < w.heap.size:=h.own.lt z hz
theorem Buf.new {w:World} {base:Nat} {v:Value} {xs:List Int} (h:Buf w base v xs) {z:Nat} (hz:w.heap.size≤z):v.ownBlock≠some z:=fun e=>by have:=(h.lt e).2;omega
def BufPost (w:World) (base:Nat) (v:Value) (zs:List Int) (e:Ending) (w':World):Prop:=∃ v',e=.returned v'∧Buf w' base v' zs∧Bst w v w' v'
theorem wpList_appB {w:World} {ops:Array Oper} {rest:List Oper} {o:Oper} {a:Act} {Q:Exit→Act→World→Prop} (hgd:o.guard=none) (s x:Operand)
  (ho:o.op=.call { callee:=.builtin .append,args:=#[s,x],argTypes:=#[23,23] })
  (base:Nat) (v:Value) (xs:List Int) (hs:a.eval s=v) (hown:Buf w base v xs)
  (bo:Option Addr) (m c:Nat) (ys:List Int) (hx:a.eval x=.slice bo m c) (hsl:Sl w bo m c ys) (hb:xs.length + m≤140737488355328) (hbase:base≤w.heap.size)
  (h:∀ v' w',Buf w' base v' (xs++ys)→Bst w v w' v'→wpList Tryz.prog ops Q rest (a.put o.dst v') w'):wpList Tryz.prog ops Q (o :: rest) a w:=by
 obtain ⟨i0,hi,hz0,hz1,hz2⟩:=info_parts u8info
 cases bo with
 | some ad =>
  refine wpList_append_own_at w hgd s x 23 ho base 5 i0 (.int .u8 0) 1 1 Tryz.underlying23 hi hz0 hz1 hz2 rfl (by decide) v xs.length (bv xs) hs hown.own ad m c (bv ys) hx (by rw [bv_length,hsl.len,Nat.mul_one]) (hsl.cells ad rfl) (bv_one ys) (by unfold maxLen;omega) (by omega) hbase ?_
  intro v' w' h1 h2 _ h4
  rw [←bv_append] at h1
  refine h v' w' ⟨by rw [List.length_append,hsl.len];exact h1,hown.byt.append hsl.byte⟩ ⟨h2,fun g hg=>?_⟩
  rcases h4 with h4 | h4
  ·exact .inl (h4 ▸ hg)
  ·rw [h4] at hg
   exact .inr (Nat.le_of_eq (Option.some.inj hg))
 | none =>
  obtain ⟨rfl,rfl⟩:=hsl.nil rfl
  obtain rfl:ys=[]:=List.eq_nil_of_length_eq_zero hsl.len
  refine wpList_append_own_none hgd s x 23 ho base 5 i0 1 Tryz.underlying23 hi v xs.length (bv xs) hs hown.own hx ?_
  exact h v w (by simpa using hown) (Bst.refl _ _)
open Go.RowKit
set_option maxRecDepth 100000 in
set_option maxHeartbeats 4000000 in
theorem putForm_any (w:World) (base:Nat) (v:Value) (xs:List Int) (h:Buf w base v xs) (hb:base≤w.heap.size) (ao:Option Addr) (m c:Nat) (ys:List Int) (S:Sl w ao m c ys) (hn:xs.length + m≤1000000000) :
  Calls Tryz.prog 53 #[v,.slice ao m c] w (BufPost w base v (xs++byts ys)):=by
 have CB:=wBytes_any w none ao 0 0 m c [] ys (Sl.nothing w) S (by omega)
 have hl:=S.len
 have hby:=S.byte
 have hel:=enc_length (n:=m) (by omega)
 clear S
 go_enter Tryz.func53,Tryz.ntmps53
 go_wp2_with fail
 refine CB.mono ?_
 rintro e w1 ⟨u,rfl,own1,C1⟩
 simp only [List.nil_append,Nat.zero_add] at own1
 obtain ⟨uo,uc,rfl,S1,-⟩:=Sl.own own1 (Byt.append (enc_byte (n:=m) (by omega)) hby)
 have h1:=h.below C1
 have hb1:base≤w1.heap.size:=Nat.le_trans hb C1.size
 have T1:=Bst.below C1 v
 clear CB own1 C1 h
 go_wp2_with (refine wpList_appB rfl (.tmp 5) (.tmp 7) rfl base v xs rfl h1 uo _ uc _ rfl S1 (by omega) hb1 ?_;intro v2 w2 H2 T2)
 go_ret
 refine ⟨v2,rfl,?_,T1.trans T2⟩
 unfold byts
 rw [hl]
 exact H2
set_option maxRecDepth 100000 in
set_option maxHeartbeats 4000000 in
theorem putNumbers_any (w:World) (base:Nat) (v:Value) (xs:List Int) (h:Buf w base v xs) (hb:base≤w.heap.size) (g:Nat) (ns:List Nat) (L:Nat) (hL:ns.length=L) (hL3:L≤3) (G:∀ i (hi:i < ns.length),w.cell? ⟨g,i,none⟩=some (.int .u64 ns[i])) (hg:v.ownBlock≠some g) (hns:∀ n∈ns,n < 18446744073709551616) (hn:xs.length≤1000000000) :
  Calls Tryz.prog 52 #[v,.slice (some ⟨g,0,none⟩) L L] w (BufPost w base v (xs++(ns.map enc).flatten)):=by
 go_enter Tryz.func52,Tryz.ntmps52
 go_wp2
 go_loopw [0,9] (fun u' i wr=>∃ (k:Nat) (u:Value),k≤L∧i=.int .i64 k∧u=u'∧Buf wr base u (xs++((ns.take k).map enc).flatten)∧Bst w v wr u) (fun _ i _=>L - (intOf i).toNat)
 case atStart=>exact ⟨0,v,Nat.zero_le _,rfl,rfl,by simpa using h,Bst.refl _ _⟩
 case round =>
  clear h
  obtain ⟨k,u,hk,rfl,rfl,H,T⟩:=hrel
  have hbr:base≤wr.heap.size:=Nat.le_trans hb T.gr.size
  by_cases hlt:k < L
  ·have hki:(k:Int) < (L:Int):=by omega
   have hkl:k < ns.length:=by omega
   have hlL:(L:Int)≤3:=by omega
   have c0:=G k hkl
   have hz:=World.block_lt_of_cell? w _ c0
   have c1:wr.cell? ⟨g,k,none⟩=some (.int .u64 ns[k]):=(World.cell?_of_block (a:=⟨g,k,none⟩) (T.block hz hg)).trans c0
   have hnk:=hns _ (List.getElem_mem hkl)
   have HX:Hid (((ns.take (k + 1)).map enc).flatten=((ns.take k).map enc).flatten++enc ns[k]):=by
    show _=_
    have e1:(List.map enc [ns[k]]).flatten=enc ns[k]:=by simp
    rw [List.take_succ_eq_append_getElem hkl,List.map_append,List.flatten_append,e1]
   have hlen:((ns.take k).map enc).flatten.length≤30:=by
    have:∀ l:List Nat,(∀ n∈l,n < 18446744073709551616)→(l.map enc).flatten.length≤l.length * 10:=by
     intro l
     induction l with
     | nil=>intro _;simp
     | cons a l ih =>
      intro hh
      have h1:=enc_length (hh a (List.mem_cons_self ..))
      have h2:=ih (fun n hn=>hh n (List.mem_cons_of_mem _ hn))
      simp only [List.map_cons,List.flatten_cons,List.length_append,List.length_cons]
      omega
    have h1:=this (ns.take k) (fun n hn=>hns n (List.mem_of_mem_take hn))
    rw [List.length_take] at h1
    omega
   obtain ⟨q,hq⟩:∃ q,q=ns[k]:=⟨_,rfl⟩
   rw [←hq] at c1 hnk HX
   obtain ⟨zs,hzs⟩:∃ z,z=xs++((ns.take k).map enc).flatten:=⟨_,rfl⟩
   have hzl:zs.length≤1000000030:=by rw [hzs,List.length_append];omega
   have HZ:Hid (xs++((ns.take (k + 1)).map enc).flatten=zs++enc q):=by
    show _=_
    rw [HX.out,hzs,List.append_assoc]
   rw [←hzs] at H
   have he:=enc_length hnk
   clear hq hzs HX hlen c0 hz
   have CU:=wUint_any wr none 0 0 q [] (Sl.nothing wr) (by omega) hnk
   go_wp2_with fail
   refine CU.mono ?_
   rintro e w1 ⟨u1,rfl,own1,C1⟩
   simp only [List.nil_append,Nat.zero_add] at own1
   obtain ⟨uo,uc,rfl,S1,-⟩:=Sl.own own1 (enc_byte hnk)
   have H1:=H.below C1
   have hb1:base≤w1.heap.size:=Nat.le_trans hbr C1.size
   have T1:=T.trans (Bst.below C1 u)
   clear CU own1 C1 H T
   go_wp2_with (refine wpList_appB rfl (.tmp 13) (.tmp 15) rfl base u zs rfl H1 uo _ uc _ rfl S1 (by omega) hb1 ?_;intro v2 w2 H2 T2)
   go_roundw
   case rel=>exact ⟨k + 1,v2,by omega,by go_num,rfl,by rw [HZ.out];exact H2,T1.trans T2⟩
   case measure=>simp [intOf];omega
  ·have hge:(L:Int)≤(k:Int):=by omega
   have hlL:(L:Int)≤3:=by omega
   have HX:Hid ((ns.take k).map enc=ns.map enc):=by
    show _=_
    rw [List.take_of_length_le (by omega)]
   go_wp2
   go_ret
   exact ⟨u,rfl,by rw [←HX.out];exact H,T⟩
open Go.RowKit
theorem res_back {w:World} {e:Int} {l:List CA} {m:Bool} (hr:rightR (resR e l m)=true) (hl:∀ c∈l,c.ok w):rdR (putR (resR e l m))=.inr (resR e l m)∧(putR (resR e l m)).length≤8000:=by
 have hf:=rightR_fits hr (fun c hc=>by
  obtain ⟨x,hx,rfl⟩:=List.mem_map.1 hc
  exact (hl x hx).wf)
 refine ⟨rdAll_put good_r kindR _ hf (by unfold kindR;rw [hr];rfl),?_⟩
 obtain ⟨h1,h2,h3⟩:=right_cells hr hl
 have g2:∀ k:List CA,(∀ c∈k,c.key.fits∧c.va.xs.length≤256)→((k.map fun c=>putC c.c).flatten).length≤410 * k.length:=by
  intro k
  induction k with
  | nil=>intro _;simp
  | cons a k ih =>
   intro hk
   have i1:=ih (fun x hx=>hk x (List.mem_cons_of_mem _ hx))
   have i0:=hk a (List.mem_cons_self ..)
   have i2:=putC_len i0.1 i0.2
   simp only [List.map_cons,List.flatten_cons,List.length_append,List.length_cons]
   omega
 have g3:=g2 l h3
 have g4:=enc_length (n:=e.toNat) (by omega)
 have g5:=enc_length (n:=l.length) (by omega)
 have g6:=enb_len m
 rw [putR_res]
 simp only [List.length_append]
 omega
open Go.RowKit
def SA.fit (s:SA):Prop:=s.b.n≤65536∧s.tag.n≤32
theorem byts_lim (l:List Int) (h:l.length < 18446744073709551616):(byts l).length≤l.length + 10:=by
 unfold byts
 have:=enc_length h
 rw [List.length_append]
 omega
theorem putV_len {s:SA} {w:World} (h:s.ok w) (hf:s.fit):(putV s.v).length≤65700:=by
 have h1:=enc_length h.fr
 have h2:=byts_lim s.b.xs (by have:=h.b.len;have:=hf.1;omega)
 have h3:=byts_lim s.tag.xs (by have:=h.tag.len;have:=hf.2;omega)
 have h4:=h.b.len
 have h5:=h.tag.len
 have h6:=hf.1
 have h7:=hf.2
 show (enc s.fr++(byts s.b.xs++byts s.tag.xs)).length≤_
 simp only [List.length_append]
 omega
theorem flatV_len {w:World}:∀ l:List SA,(∀ s∈l,s.ok w∧s.fit)→((l.map fun s=>putV s.v).flatten).length≤l.length * 65700
 | [],_=>by simp
 | s :: l,h=>by
  have h1:=flatV_len l (fun x hx=>h x (List.mem_cons_of_mem _ hx))
  have h2:=h s (List.mem_cons_self ..)
  have h3:=putV_len h2.1 h2.2
  simp only [List.map_cons,List.flatten_cons,List.length_append,List.length_cons]
  omega
theorem putVs_map (l:List SA):putLs putV (l.map SA.v)=enc l.length++(l.map fun s=>putV s.v).flatten:=by
 unfold putLs
 rw [List.length_map,List.map_map]
 rfl
set_option maxRecDepth 100000 in
set_option maxHeartbeats 8000000 in
theorem putTexts_any (w:World) (base:Nat) (v:Value) (xs:List Int) (h:Buf w base v xs) (hb:base≤w.heap.size) (w0:World) (hw0:Below base w0 w) (hbs:w0.heap.size=base) (ao:Option Addr) (n cap:Nat) (l:List SA) (L:GL elS w0 ao n cap l) (hn:n≤16) (hf:∀ s∈l,s.fit) (hx:xs.length≤500000000) :
  Calls Tryz.prog 56 #[v,.slice ao n cap] w (BufPost w base v (xs++putLs putV (l.map SA.v))):=by
 have hl:=L.len
 have hni:(n:Int)≤16:=by omega
 have hen:=enc_length (n:=n) (by omega)
 have HP:Hid (putLs putV (l.map SA.v)=enc n++(l.map fun s=>putV s.v).flatten):=by show _=_;rw [putVs_map,hl]
 have C0:Below w.heap.size w (w.alloc (.cells #[.int .u64 n] 22)):=(Below.refl _ _).alloc (Nat.le_refl _) _
 have G0:(w.alloc (.cells #[.int .u64 n] 22)).heap[w.heap.size]?=some (.cells #[.int .u64 n] 22):=heap_alloc_new _ _
 have CN:=putNumbers_any (w.alloc (.cells #[.int .u64 n] 22)) base v xs (h.below C0) (Nat.le_trans hb C0.size) w.heap.size [n] 1 rfl (by decide) (fun i hi=>by obtain rfl:i=0:=(by have:i < 1:=hi;omega);exact cell_of_row _ _ 0 _ _ _ G0) (h.new (Nat.le_refl _)) (fun m hm=>by rw [List.mem_singleton.1 hm];omega) (by omega)
 have T0:=Bst.below C0 v
 have e0:xs++([n].map enc).flatten=xs++enc n:=by simp
 rw [e0] at CN
 have iw:IntKind.u64.wrap (n:Int)=(n:Int):=by
  unfold IntKind.wrap
  simp [IntKind.bits,IntKind.signed]
  omega
 clear e0
 go_enter Tryz.func56,Tryz.ntmps56
 go_wp2_with fail
 refine CN.mono ?_
 rintro e w1 ⟨v1,rfl,H1,T1⟩
 have T1:=T0.trans T1
 have hb1:base≤w1.heap.size:=Nat.le_trans hb T1.gr.size
 have B1:=h.bel T1 hb
 clear CN G0 C0 T0 iw
 go_wp2_with fail
 go_loopw [0,15] (fun u' i wr=>∃ (k:Nat) (u:Value),k≤n∧i=.int .i64 k∧u=u'∧Buf wr base u (xs++enc n++((l.take k).map fun s=>putV s.v).flatten)∧Bst w v wr u) (fun _ i _=>n - (intOf i).toNat)
 case atStart=>exact ⟨0,v1,Nat.zero_le _,rfl,rfl,by simpa using H1,T1⟩
 case round =>
  clear H1 T1 B1 hb1
  obtain ⟨k,u,hk,rfl,rfl,H,T⟩:=hrel
  have hbr:base≤wr.heap.size:=Nat.le_trans hb T.gr.size
  have Bw:Below base w0 wr:=hw0.trans (h.bel T hb)
  by_cases hlt:k < n
  ·have hki:(k:Int) < (n:Int):=by omega
   have hkl:k < l.length:=by omega
   have Lr:GL elS wr ao n cap l:=L.kept elS_fine fun z hz=>Bw.block z (by rw [←hbs];exact L.lt elS_fine hz)
   obtain ⟨b,off,rfl,hc⟩:=Lr.atS (by omega)
   have X:=hc k hkl
   have hok:(l[k]).ok w0:=L.ok _ (List.getElem_mem hkl)
   have hfk:=hf _ (List.getElem_mem hkl)
   have HX:Hid (((l.take (k + 1)).map fun s=>putV s.v).flatten=((l.take k).map fun s=>putV s.v).flatten++putV (l[k]).v):=by
    show _=_
    rw [List.take_succ_eq_append_getElem hkl,List.map_append,List.flatten_append]
    simp
   have hfl:=flatV_len (w:=w0) (l.take k) (fun s hs=>⟨L.ok s (List.mem_of_mem_take hs),hf s (List.mem_of_mem_take hs)⟩)
   rw [List.length_take] at hfl
   obtain ⟨s,hs⟩:∃ s,s=l[k]:=⟨_,rfl⟩
   rw [←hs] at X hok hfk HX
   obtain ⟨zs,hzs⟩:∃ z,z=xs++enc n++((l.take k).map fun s=>putV s.v).flatten:=⟨_,rfl⟩
   have hzl:zs.length≤600000000:=by
    rw [hzs]
    simp only [List.length_append]
    have:min k l.length * 65700≤16 * 65700:=Nat.mul_le_mul_right _ (by omega)
    omega
   have HZ:Hid (xs++enc n++((l.take (k + 1)).map fun s=>putV s.v).flatten=zs++enc s.fr++byts s.b.xs++byts s.tag.xs):=by
    show _=_
    rw [HX.out,hzs]
    show _++(_++(enc s.fr++(byts s.b.xs++byts s.tag.xs)))=_
    simp only [List.append_assoc]
   rw [←hzs] at H
   have hfe:=enc_length hok.fr
   have hbl:(byts s.b.xs).length≤65546:=by
    have h1:=hok.b.len
    have h2:=hfk.1
    have:=byts_lim s.b.xs (by omega)
    omega
   have hb16:=hfk.1
   have ht32:=hfk.2
   clear hs hzs HX hfl hc Lr
   obtain ⟨q0,q1,q2⟩:=X
   have C1:Below wr.heap.size wr (wr.alloc (.cells #[.int .u64 s.fr,.slice s.b.ao s.b.n s.b.cap,.slice s.tag.ao s.tag.n s.tag.cap] 112)):=(Below.refl _ _).alloc (Nat.le_refl _) _
   have KP:(wr.alloc (.cells #[.int .u64 s.fr,.slice s.b.ao s.b.n s.b.cap,.slice s.tag.ao s.tag.n s.tag.cap] 112)).heap[wr.heap.size]?=some (.cells #[.int .u64 s.fr,.slice s.b.ao s.b.n s.b.cap,.slice s.tag.ao s.tag.n s.tag.cap] 112):=heap_alloc_new _ _
   have Bu:=H.below C1
   have neP:=H.new (z:=wr.heap.size) (Nat.le_refl _)
   have T1:=T.trans (Bst.below C1 u)
   have hb0:base≤(wr.alloc (.cells #[.int .u64 s.fr,.slice s.b.ao s.b.n s.b.cap,.slice s.tag.ao s.tag.n s.tag.cap] 112)).heap.size:=Nat.le_trans hbr C1.size
   have B1:=Bw.trans (C1.mono hbr)
   go_wp2_with fail
   obtain ⟨w1,hw1⟩:∃ W,W=wr.alloc (.cells #[.int .u64 s.fr,.slice s.b.ao s.b.n s.b.cap,.slice s.tag.ao s.tag.n s.tag.cap] 112):=⟨_,rfl⟩
   obtain ⟨P,hP'⟩:∃ P,P=wr.heap.size:=⟨_,rfl⟩
   rw [←hw1] at KP Bu T1 hb0 B1 ⊢
   rw [←hP'] at KP neP ⊢
   clear hw1 hP' C1 H T Bw q0 q1 q2
   have hP:P < w1.heap.size:=(Array.getElem?_eq_some_iff.1 KP).1
   have SB:∀ (V:World) {u2:Value},Bst w1 u V u2→Sl V s.b.ao s.b.n s.b.cap s.b.xs:=fun V u2 t=>hok.b.kept fun z hz=>(B1.trans (Bu.bel t hb0)).block z (by rw [←hbs];exact hok.b.blk_lt hz)
   have ST:∀ (V:World) {u2:Value},Bst w1 u V u2→Sl V s.tag.ao s.tag.n s.tag.cap s.tag.xs:=fun V u2 t=>hok.tag.kept fun z hz=>(B1.trans (Bu.bel t hb0)).block z (by rw [←hbs];exact hok.tag.blk_lt hz)
   have HS:Hid (∀ V:World,V.heap[P]?=some (.cells #[.int .u64 s.fr,.slice s.b.ao s.b.n s.b.cap,.slice s.tag.ao s.tag.n s.tag.cap] 112)→V.cell? ⟨P,0,none⟩=some (.int .u64 s.fr)∧V.cell? ⟨P,1,none⟩=some (.slice s.b.ao s.b.n s.b.cap)∧V.cell? ⟨P,2,none⟩=some (.slice s.tag.ao s.tag.n s.tag.cap)):=fun V k=>⟨cell_of_row V P 0 _ _ _ k,cell_of_row V P 1 _ _ _ k,cell_of_row V P 2 _ _ _ k⟩
   have D0:Below w1.heap.size w1 w1.drew:=(Below.refl _ _).drew
   refine wp_region_noPanic ?_
   refine wp_region_held_drew (S:=fun V=>V.cell? ⟨P,0,none⟩=some (.int .u64 s.fr)∧V.cell? ⟨P,1,none⟩=some (.slice s.b.ao s.b.n s.b.cap)∧V.cell? ⟨P,2,none⟩=some (.slice s.tag.ao s.tag.n s.tag.cap)) (by kernel_rfl) (HS.out _ ((D0.block P hP).trans KP)) (fun H0=>?_)
   obtain ⟨v0,hv0⟩:∃ v,v=w1.drew:=⟨_,rfl⟩
   rw [←hv0] at H0 D0 ⊢
   clear hv0
   have P0:=(D0.block P hP).trans KP
   refine zT 0 (some 19) (u) rfl rfl (by kernel_rfl) rfl (fun W ⟨h0,h1,h2⟩=>by go_simp) H0 ?_
   simp only [FL]
   refine zT 1 (some 20) (.pointer (some ⟨P,0,none⟩)) rfl rfl (by kernel_rfl) rfl (fun W ⟨h0,h1,h2⟩=>by go_simp) H0 ?_
   simp only [FL]
   refine zT 2 (some 21) (.int .u64 s.fr) rfl rfl (by kernel_rfl) rfl (fun W ⟨h0,h1,h2⟩=>by go_simp) H0 ?_
   simp only [FL]
   refine zT 5 (some 24) (.pointer (some ⟨P,1,none⟩)) rfl rfl (by kernel_rfl) rfl (fun W ⟨h0,h1,h2⟩=>by go_simp) H0 ?_
   simp only [FL]
   refine zT 6 (some 25) (.slice s.b.ao s.b.n s.b.cap) rfl rfl (by kernel_rfl) rfl (fun W ⟨h0,h1,h2⟩=>by go_simp) H0 ?_
   simp only [FL]
   refine zT 8 (some 27) (.pointer (some ⟨P,2,none⟩)) rfl rfl (by kernel_rfl) rfl (fun W ⟨h0,h1,h2⟩=>by go_simp) H0 ?_
   simp only [FL]
   refine zT 9 (some 28) (.slice s.tag.ao s.tag.n s.tag.cap) rfl rfl (by kernel_rfl) rfl (fun W ⟨h0,h1,h2⟩=>by go_simp) H0 ?_
   simp only [FL]
   refine hr_ex 3 (some 22) rfl rfl (by kernel_rfl) rfl (R:=fun v w'=>∃ g,v=.slice (some ⟨g,0,none⟩) 1 1∧w'.heap[g]?=some (.cells #[.int .u64 s.fr] 22)∧v0.heap.size≤g∧Below v0.heap.size v0 w') ⟨_,_,by go_simp,_,rfl,heap_alloc_new _ _,Nat.le_refl _,(Below.refl _ _).alloc (Nat.le_refl _) _⟩ ?_
   rintro v v1 ⟨g,rfl,G,hg,C1⟩
   have hP0:P < v0.heap.size:=Nat.lt_of_lt_of_le hP D0.size
   have hP1:P < v1.heap.size:=Nat.lt_of_lt_of_le hP0 C1.size
   have P1:=(C1.block P hP0).trans P0
   have Bu0:=Bu.below D0
   have Bu1:=Bu0.below C1
   have hb1:base≤v1.heap.size:=Nat.le_trans hb0 (Nat.le_trans D0.size C1.size)
   have ne1:u.ownBlock≠some P:=neP
   have ng:=Bu0.new hg
   have E1:Bst w1 u v1 u:=(Bst.below D0 u).trans (Bst.below C1 u)
   have H1:=HS.out v1 P1
   refine ⟨H1,?_⟩
   simp only [FL]
   refine hr_call_w 4 (some 23) 52 #[u,.slice (some ⟨g,0,none⟩) 1 1] rfl rfl (by kernel_rfl) rfl (by go_simp) (fun v w'=>Buf w' base v (zs++([s.fr].map enc).flatten)∧Bst v1 u w' v) ((putNumbers_any v1 base u zs Bu1 hb1 g [s.fr] 1 rfl (by decide) (fun i hi=>by obtain rfl:i=0:=(by have:i < 1:=hi;omega);exact cell_of_row v1 g 0 _ _ _ G) ng (fun n hn=>by rw [List.mem_singleton.1 hn];exact hok.fr) (by omega)).mono (by
    rintro e w' ⟨v',rfl,F,T⟩
    exact ⟨_,rfl,F,T⟩)) ?_
   rintro u2 v2 ⟨F2,T2⟩
   have hb2:base≤v2.heap.size:=Nat.le_trans hb1 T2.gr.size
   have hP2:P < v2.heap.size:=Nat.lt_of_lt_of_le hP1 T2.gr.size
   have P2:=(T2.block hP1 ne1).trans P1
   have ne2:=T2.off hP1 ne1
   have E2:=E1.trans T2
   have H2:=HS.out v2 P2
   refine ⟨H2,?_⟩
   simp only [FL]
   have e2:zs++([s.fr].map enc).flatten=zs++enc s.fr:=by simp
   rw [e2] at F2
   refine hr_call_w 7 (some 26) 53 #[u2,.slice s.b.ao s.b.n s.b.cap] rfl rfl (by kernel_rfl) rfl (by go_simp) (fun v w'=>Buf w' base v (zs++enc s.fr++byts s.b.xs)∧Bst v2 u2 w' v) ((putForm_any v2 base u2 _ F2 hb2 s.b.ao s.b.n s.b.cap s.b.xs (SB v2 E2) (by rw [List.length_append];omega)).mono (by
    rintro e w' ⟨v',rfl,F,T⟩
    exact ⟨_,rfl,F,T⟩)) ?_
   rintro u3 v3 ⟨F3,T3⟩
   have hb3:base≤v3.heap.size:=Nat.le_trans hb2 T3.gr.size
   have hP3:P < v3.heap.size:=Nat.lt_of_lt_of_le hP2 T3.gr.size
   have P3:=(T3.block hP2 ne2).trans P2
   have ne3:=T3.off hP2 ne2
   have E3:=E2.trans T3
   have H3:=HS.out v3 P3
   refine ⟨H3,?_⟩
   simp only [FL]
   refine hr_call_w 10 (some 29) 53 #[u3,.slice s.tag.ao s.tag.n s.tag.cap] rfl rfl (by kernel_rfl) rfl (by go_simp) (fun v w'=>Buf w' base v (zs++enc s.fr++byts s.b.xs++byts s.tag.xs)∧Bst v3 u3 w' v) ((putForm_any v3 base u3 _ F3 hb3 s.tag.ao s.tag.n s.tag.cap s.tag.xs (ST v3 E3) (by rw [List.length_append,List.length_append];omega)).mono (by
    rintro e w' ⟨v',rfl,F,T⟩
    exact ⟨_,rfl,F,T⟩)) ?_
   rintro u4 v4 ⟨F4,T4⟩
   have hb4:base≤v4.heap.size:=Nat.le_trans hb3 T4.gr.size
   have hP4:P < v4.heap.size:=Nat.lt_of_lt_of_le hP3 T4.gr.size
   have P4:=(T4.block hP3 ne3).trans P3
   have ne4:=T4.off hP3 ne3
   have E4:=E3.trans T4
   have H4:=HS.out v4 P4
   refine ⟨H4,?_⟩
   simp only [FL]
   refine zT 11 (some 0) (u4) rfl rfl (by kernel_rfl) rfl (fun W ⟨h0,h1,h2⟩=>by go_simp) H4 ?_
   simp only [FL]
   refine wpAnyH_done (by kernel_rfl) ?_ _
   refine NoPanic.normal ?_
   have TF:=T1.trans E4
   clear E1 E2 E3 E4 T2 T3 T4 H0 H1 H2 H3 H4 F2 F3 P0 P1 P2 P3 P4 HS SB ST
   go_wp2
   go_roundw
   case rel=>exact ⟨k + 1,u4,by omega,by go_num,rfl,by rw [HZ.out];exact F4,TF⟩
   case measure=>simp [intOf];omega
  ·have hge:(n:Int)≤(k:Int):=by omega
   have HX:Hid ((l.take k).map (fun s=>putV s.v)=l.map fun s=>putV s.v):=by
    show _=_
    rw [List.take_of_length_le (by omega)]
   go_wp2
   go_ret
   refine ⟨u,rfl,?_,T⟩
   rw [HP.out,←HX.out,←List.append_assoc]
   exact H
open Go.RowKit
theorem fBoolF (w:World) (ao:Option Addr) (n cap:Nat) (b:Bool) (xs:List Int) (h:Sl w ao n cap xs) (hr:n≤1000000) :
  Calls Tryz.prog 117 #[.slice ao n cap,.bool b] w fun e w'=>∃ bo k c,e=.returned (.slice bo k c)∧Sl w' bo k c (xs++enb b)∧Below w.heap.size w w'∧∀ a,bo=some a→w.heap.size≤a.block:=by
 refine (wBool_any w ao n cap b xs h (by omega)).mono ?_
 rintro e w' ⟨v,rfl,O,B⟩
 obtain ⟨bo,c,rfl,s,f⟩:=Sl.own O (h.byte.append (enb_byte b))
 exact ⟨bo,_,c,rfl,s,B,fun a ha=>(f a ha).1⟩
def ResPostF (w:World) (r:RV) (e:Ending) (w':World):Prop :=
 (∃ bo k c,e=.returned (.tuple #[.slice bo k c,.int .i64 (kindR r)])∧Sl w' bo k c (if rightR r then putR r else [])∧∀ a,bo=some a→w.heap.size≤a.block)∧Below w.heap.size w w'
set_option maxRecDepth 100000 in
set_option maxHeartbeats 8000000 in
theorem presult_far (w:World) (e:Int) (ao:Option Addr) (n cap:Nat) (l:List CA) (m:Bool) (L:CL w ao n cap l) :
  Calls Tryz.prog 90 #[resV e ao n cap m] w (ResPostF w (resR e l m)):=by
 have hl:l.length=n:=L.len
 have B:Below w.heap.size w (w.alloc (Obj.cells #[.int .i64 e,.slice ao n cap,.bool m] 28)):=(Below.refl _ w).alloc (Nat.le_refl _) _
 have K:RC (w.alloc (Obj.cells #[.int .i64 e,.slice ao n cap,.bool m] 28)) w.heap.size e ao n cap m:=heap_alloc_new w _
 have L1:=L.below B
 have hp:rightR (resR e l m)=true→(0≤e∧e≤18)∧l.length≤16∧∀ c∈l,c.key.fits∧c.va.xs.length≤256:=fun q=>right_cells q L.ok
 clear L
 unfold resV
 go_enter Tryz.func90,Tryz.ntmps90
 go_wp2_with fail
 obtain ⟨w1,hw1⟩:∃ W,W=w.alloc (Obj.cells #[.int .i64 e,.slice ao n cap,.bool m] 28):=⟨_,rfl⟩
 obtain ⟨N,hN⟩:∃ N,N=w.heap.size:=⟨_,rfl⟩
 rw [←hw1] at B K L1 ⊢
 rw [←hN] at B K ⊢
 have HN:Hid (N=w.heap.size):=hN
 clear hw1 hN
 refine (prr_any w1 e ao n cap l m L1).mono ?_
 rintro x w2 ⟨rfl,C⟩
 have K2:=K.keep C
 have B2:=B.trans (C.mono (by have:=B.size;have:=K.lt;omega))
 have L2:=L1.below C
 clear C K B L1
 cases hb:rightR (resR e l m) with
 | false =>
  have hk:kindR (resR e l m)=1:=by unfold kindR;rw [hb];rfl
  rw [hk]
  go_wp2
  go_ret2
  exact ⟨⟨none,0,0,by rw [hk] <;> rfl,by rw [hb];exact Sl.nothing _,fun _ h=>by cases h⟩,by rw [←HN.out];exact B2⟩
 | true =>
  have hk:kindR (resR e l m)=0:=by unfold kindR;rw [hb];rfl
  rw [hk]
  obtain ⟨⟨e0,e18⟩,l16,hcf⟩:=hp hb
  clear hp
  have r0:=K2.c0
  have r1:=K2.c1
  have r2:=K2.c2
  go_wp2_with fail
  clear r0 r1 r2
  refine (fUintI w2 none 0 0 e [] (Sl.nothing _) (by omega) e0 (by omega)).mono ?_
  rintro x w3 ⟨b3,m3,c3,rfl,S3,C⟩
  have K3:=K2.keep C
  have B3:=B2.trans (C.mono (by have:=B2.size;have:=K2.lt;omega))
  have L3:=L2.below C
  clear C K2 B2 L2
  have l3:=S3.len
  have g0:=enc_length (n:=e.toNat) (by omega)
  have g1:=enc_length (n:=n) (by omega)
  simp only [List.length_append,List.length_nil] at l3
  have r0:=K3.c0
  have r1:=K3.c1
  have r2:=K3.c2
  go_wp2_with fail
  clear r0 r1 r2
  refine (fUint w3 b3 m3 c3 n _ S3 (by omega) (by omega)).mono ?_
  rintro x w4 ⟨b4,m4,c4,rfl,S4,C⟩
  have K4:=K3.keep C
  have B4:=B3.trans (C.mono (by have:=B3.size;have:=K3.lt;omega))
  have L4:=L3.below C
  clear C K3 B3 L3
  have l4:=S4.len
  simp only [List.length_append,List.length_nil] at l4
  have m4b:m4≤20:=by omega
  clear l3 l4 S3 g0 g1
  rw [List.nil_append] at S4
  have r1:=K4.c1
  go_wp2_with fail
  clear r1
  go_loopw [5,7,26] (fun b _ i wr=>∃ (k:Nat) (bo:Option Addr) (m c:Nat),k≤n∧i=.int .i64 k∧b=.slice bo m c∧Sl wr bo m c (enc e.toNat++enc n++((l.take k).map fun c=>putC c.c).flatten)∧m≤20 + 410 * k∧Below N w wr∧Below w4.heap.size w4 wr) (fun _ _ i _=>n - (intOf i).toNat)
  case atStart=>exact ⟨0,b4,m4,c4,Nat.zero_le _,rfl,rfl,by simpa using S4,by omega,B4,Below.refl _ _⟩
  case round =>
   clear S4 B4
   obtain ⟨k,bo,m1,c1,hk1,rfl,rfl,S,hm,B,C⟩:=hrel
   have K5:=K4.keep C
   clear K4
   by_cases hlt:k < n
   ·obtain ⟨b,off,ea,hc⟩:=L4.at (by omega)
    have hkl:k < l.length:=by omega
    have X:=(hc k hkl).below C
    have hok:(l[k]).ok wr:=(L4.ok _ (List.getElem_mem hkl)).below C
    have hcf1:=hcf _ (List.getElem_mem hkl)
    have i6:(k:Int) < (n:Int):=by omega
    have HT:Hid (((l.take (k + 1)).map fun c=>putC c.c).flatten=((l.take k).map fun c=>putC c.c).flatten++putC l[k].c):=by
     show _=_
     rw [List.take_succ_eq_append_getElem hkl,List.map_append,List.flatten_append]
     simp
    obtain ⟨c,hx⟩:∃ c:CA,c=l[k]:=⟨_,rfl⟩
    obtain ⟨p,hp⟩:∃ p,p=((l.take k).map fun c=>putC c.c).flatten:=⟨_,rfl⟩
    rw [←hx] at hok HT X hcf1
    rw [←hp] at S HT
    clear hx hc hp
    rw [ea]
    clear ea
    obtain ⟨u0,hu0⟩:∃ V,V=wr.alloc (Obj.cells #[.string c.row,.string c.fam,.string c.qual,.int .u64 c.time,.slice c.va.ao c.va.n c.va.cap,.bool c.gone] 98):=⟨_,rfl⟩
    obtain ⟨M,hM⟩:∃ M,M=wr.heap.size:=⟨_,rfl⟩
    have U0:Below wr.heap.size wr u0:=by rw [hu0];exact (Below.refl _ _).alloc (Nat.le_refl _) _
    have KU:u0.heap[M]?=some (.cells #[.string c.row,.string c.fam,.string c.qual,.int .u64 c.time,.slice c.va.ao c.va.n c.va.cap,.bool c.gone] 98):=by rw [hu0,hM];exact heap_alloc_new wr _
    have HC:Hid (∀ V,Below u0.heap.size u0 V→V.cell? ⟨M,0,none⟩=some (.string c.row)∧V.cell? ⟨M,1,none⟩=some (.string c.fam)∧V.cell? ⟨M,2,none⟩=some (.string c.qual)∧V.cell? ⟨M,3,none⟩=some (.int .u64 c.time)∧V.cell? ⟨M,4,none⟩=some (.slice c.va.ao c.va.n c.va.cap)∧V.cell? ⟨M,5,none⟩=some (.bool c.gone)):=fun V hV=>by
     have q:=(hV.block M ((Array.getElem?_eq_some_iff.1 KU).1)).trans KU
     exact ⟨cell_of_row V M 0 _ _ _ q,cell_of_row V M 1 _ _ _ q,cell_of_row V M 2 _ _ _ q,cell_of_row V M 3 _ _ _ q,cell_of_row V M 4 _ _ _ q,cell_of_row V M 5 _ _ _ q⟩
    have sU:=S.below U0
    have hokU:=hok.below U0
    have BU:=B.trans (U0.mono (by have:=B.size;have:=HN.out;omega))
    have DU:=C.trans (U0.mono C.size)
    have lS:=S.len
    have g1:=putK_len hcf1.1
    have g2:=byts_len hcf1.2
    have g3:=enb_len c.gone
    simp only [List.length_append] at lS
    obtain ⟨q0,q1,q2,q3,q4,q5⟩:=X
    go_wp2_with fail
    rw [←hu0,←hM]
    clear hu0 hM q0 q1 q2 q3 q4 q5 KU S
    refine (pkey_any u0 bo m1 c1 _ sU (by omega) c.key hcf1.1).mono ?_
    rintro x w5 ⟨b5,m5,c5,rfl,S5,C5⟩
    have A5:Below u0.heap.size u0 w5:=C5
    have l5:=S5.len
    simp only [List.length_append] at l5
    obtain ⟨q0,q1,q2,q3,q4,q5⟩:=HC.out w5 A5
    go_wp2_with fail
    clear q0 q1 q2 q3 q4 q5 C5
    refine (fBytes w5 b5 _ m5 c5 _ _ _ _ S5 (hokU.below A5).va (by omega) (by have:=hokU.va.len;omega)).mono ?_
    rintro x w6 ⟨b6,m6,c6,rfl,S6,C6⟩
    have A6:=A5.trans (C6.mono A5.size)
    have l6:=S6.len
    simp only [List.length_append] at l6
    obtain ⟨q0,q1,q2,q3,q4,q5⟩:=HC.out w6 A6
    go_wp2_with fail
    clear q0 q1 q2 q3 q4 q5 C6
    refine (fBool w6 b6 m6 c6 c.gone _ S6 (by omega)).mono ?_
    rintro x w7 ⟨b7,m7,c7,rfl,S7,C7⟩
    have A7:=A6.trans (C7.mono A6.size)
    have l7:=S7.len
    simp only [List.length_append] at l7
    have m7b:m7≤20 + 410 * (k + 1):=by omega
    have B7:=BU.trans (A7.mono (by have:=BU.size;have:=HN.out;omega))
    have D7:=DU.trans (A7.mono DU.size)
    have fin:enc e.toNat++enc n++p++putK c.key++byts c.va.xs++enb c.gone=enc e.toNat++enc n++(p++putC c.c):=by
     rw [putC_key]
     simp only [List.append_assoc]
    rw [fin] at S7
    clear C7 l5 l6 l7 lS S5 S6 sU
    go_wp2
    go_roundw
    case rel=>exact ⟨k + 1,b7,m7,c7,by omega,by go_num,rfl,by rw [HT.out];exact S7,m7b,B7,D7⟩
    case measure=>simp [intOf];omega
   ·have i6:(n:Int)≤(k:Int):=by omega
    rw [List.take_of_length_le (by omega)] at S
    have r2:=K5.c2
    go_wp2_with fail
    clear r2
    refine (fBoolF wr bo m1 c1 m _ S (by omega)).mono ?_
    rintro x w5 ⟨b5,m5,c5,rfl,S5,C5,F5⟩
    have F6:Hid (∀ a,b5=some a→w.heap.size≤a.block):=fun a ha=>Nat.le_trans B.size (F5 a ha)
    clear F5
    have B5:=B.trans (C5.mono (by have:=B.size;have:=HN.out;omega))
    go_wp2
    go_ret2
    refine ⟨⟨b5,m5,c5,by rw [hk] <;> rfl,?_,F6.out⟩,by rw [←HN.out];exact B5⟩
    rw [if_pos hb,putR_res,hl]
    simpa only [List.append_assoc] using S5
open Go.RowKit
set_option maxRecDepth 100000 in
set_option maxHeartbeats 4000000 in
theorem putReply_any (w:World) (base:Nat) (v:Value) (xs:List Int) (h:Buf w base v xs) (hb:base≤w.heap.size) (cl st vw:Nat) (hcl:cl < 18446744073709551616) (hst:st < 18446744073709551616) (hvw:vw < 18446744073709551616) (e:Int) (co:Option Addr) (cn cc:Nat) (l:List CA) (m:Bool) (L:CL w co cn cc l) (hr:rightR (resR e l m)=true) (hx:xs.length≤500000000) :
  Calls Tryz.prog 55 #[v,.agg #[.int .u64 cl,.int .u64 st,.int .u64 vw,.int .i64 e,.slice co cn cc,.bool m]] w (BufPost w base v (xs++putPV ⟨cl,st,vw,resR e l m⟩)):=by
 have B:Below w.heap.size w (w.alloc (.cells #[.int .u64 cl,.int .u64 st,.int .u64 vw,.int .i64 e,.slice co cn cc,.bool m] 30)):=(Below.refl _ w).alloc (Nat.le_refl _) _
 have K:(w.alloc (.cells #[.int .u64 cl,.int .u64 st,.int .u64 vw,.int .i64 e,.slice co cn cc,.bool m] 30)).heap[w.heap.size]?=some (.cells #[.int .u64 cl,.int .u64 st,.int .u64 vw,.int .i64 e,.slice co cn cc,.bool m] 30):=heap_alloc_new w _
 have CR:=presult_far (w.alloc (.cells #[.int .u64 cl,.int .u64 st,.int .u64 vw,.int .i64 e,.slice co cn cc,.bool m] 30)) e co cn cc l m (L.below B)
 have hl8:=(res_back hr L.ok).2
 have e1:=enc_length hcl
 have e2:=enc_length hst
 have e3:=enc_length hvw
 have h1:=h.below B
 have T1:=Bst.below B v
 have hlo:Hid (∀ z,v.ownBlock=some z→z < w.heap.size):=fun z hz=>(h.lt hz).2
 unfold resV at CR
 clear L h
 go_enter Tryz.func55,Tryz.ntmps55
 go_wp2_with fail
 obtain ⟨w1,hw1⟩:∃ W,W=(w.alloc (.cells #[.int .u64 cl,.int .u64 st,.int .u64 vw,.int .i64 e,.slice co cn cc,.bool m] 30)):=⟨_,rfl⟩
 obtain ⟨N,hN'⟩:∃ N,N=w.heap.size:=⟨_,rfl⟩
 rw [←hw1] at B K CR h1 T1 ⊢
 rw [←hN'] at K hlo ⊢
 have hNs:N < w1.heap.size:=(Array.getElem?_eq_some_iff.1 K).1
 clear hw1 hN'
 refine CR.mono ?_
 rintro x w2 ⟨⟨bo,k,c,rfl,S2,F2⟩,C2⟩
 rw [if_pos hr] at S2
 have K2:=(C2.block N hNs).trans K
 have h2:=h1.below C2
 have T2:=T1.trans (Bst.below C2 v)
 have hb2:base≤w2.heap.size:=Nat.le_trans hb T2.gr.size
 have hk8:=S2.len
 have HF:Hid (∀ a,bo=some a→N < a.block):=fun a ha=>Nat.lt_of_lt_of_le hNs (F2 a ha)
 clear CR C2 K h1 T1 F2 B
 have q0:w2.cell? ⟨N,0,none⟩=some (.int .u64 cl):=cell_of_row w2 N 0 _ _ _ K2
 have q1:w2.cell? ⟨N,1,none⟩=some (.int .u64 st):=cell_of_row w2 N 1 _ _ _ K2
 have q2:w2.cell? ⟨N,2,none⟩=some (.int .u64 vw):=cell_of_row w2 N 2 _ _ _ K2
 have C3:Below w2.heap.size w2 (w2.alloc (.cells #[.int .u64 cl,.int .u64 st,.int .u64 vw] 22)):=(Below.refl _ _).alloc (Nat.le_refl _) _
 have G:(w2.alloc (.cells #[.int .u64 cl,.int .u64 st,.int .u64 vw] 22)).heap[w2.heap.size]?=some (.cells #[.int .u64 cl,.int .u64 st,.int .u64 vw] 22):=heap_alloc_new _ _
 have CN:=putNumbers_any (w2.alloc (.cells #[.int .u64 cl,.int .u64 st,.int .u64 vw] 22)) base v xs (h2.below C3) (Nat.le_trans hb2 C3.size) w2.heap.size [cl,st,vw] 3 rfl (by decide) (fun i hi=>by
   rcases (by have:i < 3:=hi;omega:i=0∨i=1∨i=2) with rfl | rfl | rfl
   ·exact cell_of_row _ _ 0 _ _ _ G
   ·exact cell_of_row _ _ 1 _ _ _ G
   ·exact cell_of_row _ _ 2 _ _ _ G) (h2.new (Nat.le_refl _)) (fun n hn=>by simp only [List.mem_cons,List.not_mem_nil,or_false] at hn;rcases hn with rfl | rfl | rfl <;> assumption) (by omega)
 have S3:=S2.below C3
 have T3:=T2.trans (Bst.below C3 v)
 have en:([cl,st,vw].map enc).flatten=enc cl++(enc st++enc vw):=by simp
 rw [en] at CN
 clear en
 go_wp2_with fail
 clear q0 q1 q2 G K2
 have hb3:base≤(w2.alloc (.cells #[.int .u64 cl,.int .u64 st,.int .u64 vw] 22)).heap.size:=Nat.le_trans hb2 C3.size
 clear C3
 obtain ⟨w3,hw3⟩:∃ W,W=(w2.alloc (.cells #[.int .u64 cl,.int .u64 st,.int .u64 vw] 22)):=⟨_,rfl⟩
 rw [←hw3] at CN S3 T3 hb3 ⊢
 clear hw3
 refine CN.mono ?_
 rintro x w4 ⟨v4,rfl,H4,T4⟩
 have S4:Sl w4 bo k c (putR (resR e l m)):=Sl.kept (b:=⟨bo,k,c,putR (resR e l m)⟩) S3 fun z hz=>T4.block (S3.blk_lt (b:=⟨bo,k,c,putR (resR e l m)⟩) hz) (fun e=>by
  obtain ⟨a,ha,_,rfl⟩:=hz
  have h1:=HF.out a ha
  have h2:=hlo.out _ e
  omega)
 have hb4:base≤w4.heap.size:=Nat.le_trans hb3 T4.gr.size
 have T5:=T3.trans T4
 clear CN S3 T3 T4 S2 h2 T2
 have CF:=putForm_any w4 base v4 _ H4 hb4 bo k c _ S4 (by simp only [List.length_append];omega)
 go_wp2_with fail
 refine CF.mono ?_
 rintro x w5 ⟨v5,rfl,H5,T6⟩
 have TF:=T5.trans T6
 clear CF T5 T6 S4 H4
 go_wp2
 go_ret
 refine ⟨v5,rfl,?_,TF⟩
 unfold putPV
 simpa only [List.append_assoc] using H5
theorem shp_lim {k:Int} {h:HV} (e:shpOk k h=true):h.view≤4611686018427387903∧h.seq≤4611686018427387903∧h.sum≤32∧h.reqs≤1∧h.cert≤16∧h.sets≤16∧(k≠5→h.rep=false):=by
 have hk:=shp_kind e
 have hc:k=1∨k=2∨k=3∨k=4∨k=5∨k=6∨k=7∨k=8∨k=9∨k=10∨k=11∨k=12∨k=13∨k=14:=by omega
 rcases hc with rfl | rfl | rfl | rfl | rfl | rfl | rfl | rfl | rfl | rfl | rfl | rfl | rfl | rfl
 all_goals
  unfold shpOk at e
  simp at e
  obtain ⟨⟨e1,e2,e3,e4,e5,e6⟩,e7⟩:=e
  refine ⟨by omega,by omega,by omega,by omega,by omega,by omega,fun _=>by first | exact e7 | omega⟩
structure Rgt (x:BM):Prop where
 kind:1≤x.kind∧x.kind≤14
 view:x.view≤4611686018427387903
 seq:x.seq≤4611686018427387903
 sum:x.sum.n≤32
 qn:x.q.n≤1
 sn:x.s.n≤16
 tn:x.t.n≤16
 rep:x.kind≠5→x.rz=true
 q:∀ q∈x.q.l,kq q.cl q.st (rightO q.o.s (q.l.map sn0))=0
 r5:x.kind=5→rightR (resR x.e x.c.l x.more)=true
 s:∀ s∈x.s.l,s.fit
 t:∀ t∈x.t.l,t.n≤16∧∀ s∈t.l,s.fit
theorem sg_fit {s:SA} (h:s.sg=true):s.fit:=by
 unfold SA.sg sgnd at h
 have:=of_decide_eq_true h
 exact ⟨by omega,by omega⟩
theorem tx_fit {s:SA} {k:Int} (h:s.tx k=true):s.fit:=by
 unfold SA.tx txOk at h
 split at h
 ·have:=of_decide_eq_true h
  exact ⟨by omega,by omega⟩
 ·exact sg_fit h
theorem rgt {x:BM} (h:rightM x=true):Rgt x:=by
 unfold rightM at h
 simp only [Bool.and_eq_true,Bool.not_eq_true',List.any_eq_false] at h
 obtain ⟨h1,h2,h3,h4,h5⟩:=h
 obtain ⟨a1,a2,a3,a4,a5,a6,a7⟩:=shp_lim h1
 refine ⟨shp_kind h1,a1,a2,a3,a4,a5,a6,fun hk=>?_,fun q hq=>?_,fun hk=>?_,fun s hs=>?_,fun t ht=>?_⟩
 ·have:(!x.rz)=false:=a7 hk
  simpa using this
 ·have:=h2 q hq
  unfold reqBad at this
  simp only [Bool.or_eq_true,decide_eq_true_eq,not_or] at this
  exact Decidable.not_not.1 this.1
 ·unfold repOk at h3
  rw [decide_eq_false (by omega),Bool.false_or] at h3
  exact (Bool.and_eq_true_iff.1 h3).1
 ·have:=h4 s hs
  exact tx_fit (k:=x.kind) (by simpa using this)
 ·have:=h5 t ht
  unfold setBad at this
  simp only [Bool.or_eq_true,decide_eq_true_eq,List.any_eq_true,not_or,not_exists,not_and] at this
  exact ⟨by omega,fun s hs=>sg_fit (by simpa using this.2 s hs)⟩
theorem req_len {q:QM} {w:World} (h:q.ok w) (hk:kq q.cl q.st (rightO q.o.s (q.l.map sn0))=0):(putQ q.v).length≤8000:=by
 obtain ⟨_,_,hr⟩:=kq_zero hk
 obtain ⟨p1,p2,p3,p4⟩:=right_parts hr h.o (fun x hx=>h.l.ok x hx)
 have e1:=enc_length h.cl
 have e2:=enc_length h.st
 have e3:=putS_len p1 (n:=q.l.length) (by omega)
 have g:∀ k:List OA,(∀ x∈k,x.s.fits)→((k.map fun x=>putS x.s 0).flatten).length≤800 * k.length:=by
  intro k
  induction k with
  | nil=>intro _;simp
  | cons a k ih =>
   intro hk
   have i1:=ih (fun x hx=>hk x (List.mem_cons_of_mem _ hx))
   have i2:=putS_len (hk a (List.mem_cons_self ..)) (n:=0) (by omega)
   simp only [List.map_cons,List.flatten_cons,List.length_append,List.length_cons]
   omega
 have g1:=g q.l p3
 have:putQ q.v=enc q.cl++(enc q.st++putA q.o q.l):=by
  unfold putQ QM.v
  rw [putA_P]
 rw [this]
 unfold putA
 simp only [List.length_append]
 omega
end Go.Proofs.YtnbejckdhdbamaaGreat

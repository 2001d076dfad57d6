/-
  Texts in one: MgAg.
-/
import Derived.Test.YtnbejckdhdbamaaGreatMessageRightQ37
import Derived.Test.YtnbejckdhdbamaaGreatMessageRightQ42
import Derived.Test.YtnbejckdhdbamaaGreatMessageRightQ28
import Derived.Test.YtnbejckdhdbamaaGreatMessageRightQ17
import Derived.Test.YtnbejckdhdbamaaGreatMessageRightQ0
import Derived.Deep.Slices
import Derived.ArgAppend
import Derived.Deep.Upon
import Derived.DataElems
import Derived.Test.YtnbejckdhdbamaaGreatMessageRightQ9
namespace Go.Proofs.YtnbejckdhdbamaaGreat
open Go.RowKit
structure Ag (D p X:Nat) (w w':World):Prop where
 os:w'.os=w.os
 tape:w'.tape=w.tape
 output:w'.output=w.output
 size:w.heap.size≤w'.heap.size
 block:∀ z,z < D→z≠p→z≠X→w'.heap[z]?=w.heap[z]?
theorem Ag.refl (D p X:Nat) (w:World):Ag D p X w w:=⟨rfl,rfl,rfl,Nat.le_refl _,fun _ _ _ _=>rfl⟩
theorem Ag.trans {D p X:Nat} {a b c:World} (h:Ag D p X a b) (k:Ag D p X b c):Ag D p X a c :=
 ⟨k.os.trans h.os,k.tape.trans h.tape,k.output.trans h.output,Nat.le_trans h.size k.size,fun z h1 h2 h3=>(k.block z h1 h2 h3).trans (h.block z h1 h2 h3)⟩
theorem Ag.below {D p X:Nat} {a b c:World} (h:Ag D p X a b) (k:Below b.heap.size b c) (hD:D≤b.heap.size):Ag D p X a c :=
 h.trans ⟨k.os,k.tape,k.output,k.size,fun z h1 _ _=>k.block z (by omega)⟩
theorem Ag.below3 {D p X:Nat} {a b c:World} (h:Ag D p X a b) (k:Below D b c):Ag D p X a c :=
 h.trans ⟨k.os,k.tape,k.output,k.size,fun z h1 _ _=>k.block z h1⟩
theorem Ag.gr {D p X:Nat} {a b c:World} (h:Ag D p X a b) (k:b.grownBy c (some p)) (hD:D≤b.heap.size):Ag D p X a c :=
 h.trans ⟨k.os,k.tape,k.output,k.size,fun z h1 h2 _=>k.block z (by omega) (by simpa using h2)⟩
theorem Ag.set {D p X:Nat} {a b c:World} (h:Ag D p X a b) (k:c.heap.size=b.heap.size∧∀ j,j≠X→c.heap[j]?=b.heap[j]?) (g:Below X b c):Ag D p X a c :=
 h.trans ⟨g.os,g.tape,g.output,g.size,fun z _ _ h3=>k.2 z h3⟩
theorem tyQ:GTy elQ.sz 176 (.agg #[.int .u64 0,.int .u64 0,.int .i64 0,.string ⟨#[]⟩,.string ⟨#[]⟩,.string ⟨#[]⟩,.int .u64 0,.string ⟨#[]⟩,.slice none 0 0,.slice none 0 0,.bool false,.slice none 0 0]) 60 24:=⟨by kernel_rfl,rfl,Tryz.underlying24⟩
theorem tyL:GTy elL.sz 24 (.slice none 0 0) 38 39:=⟨by kernel_rfl,rfl,Tryz.underlying39⟩
theorem bT_eq {xs:List Int} {r0:Nat × List Int × Int} {r1 r2:Nat × List Int × Int} {r3:List Int × List Int × Int} {r4:Nat × List Int × Int} {qs:List QV × List Int × Int} {pv:PV × List Int × Int} {vs:List SV × List Int × Int} {c6:Nat × List Int × Int} {ss:List (List SV) × List Int × Int}
  (h0:r0=intS xs 0 14) (h1:r1=uintS r0.2.1 r0.2.2) (h2:r2=uintS r1.2.1 r1.2.2) (h3:r3=bytesS r2.2.1 r2.2.2 32) (h4:r4=intS r3.2.1 r3.2.2 1) (h5:qs=repT (nestT zQV rdQ) r4.1 r4.2.1 r4.2.2) (h6:pv=pvT r0.1 qs.2.1 qs.2.2) (h7:vs=vsT pv.2.1 pv.2.2) (h8:c6=intS vs.2.1 vs.2.2 16) (h9:ss=repT vsT c6.1 c6.2.1 c6.2.2) :
  bT xs 0=(⟨(r0.1:Int),r1.1,r2.1,r3.1,qs.1,pv.1,vs.1,ss.1⟩,ss.2):=by
 subst h9 h8 h7 h6 h5 h4 h3 h2 h1 h0
 rfl
theorem GI.gls {α:Type} {E:El α} (F:E.Fine) {t:TypeId} {W:World} {base:Nat} {ao:Option Addr} {n cap:Nat} {ys:List α} (h:GI E t W base (.slice ao n cap) ys):GL E W ao n cap ys∧∀ z,sblk ao n z→base≤z:=by
 obtain ⟨a,c,e,g,l⟩:=h.gl F
 simp only [Value.slice.injEq] at e
 obtain ⟨rfl,rfl,rfl⟩:=e
 exact ⟨g,l⟩
theorem Ag.of {D p X:Nat} {w w':World} (h:Below D w w'):Ag D p X w w':=⟨h.os,h.tape,h.output,h.size,fun z hz _ _=>h.block z hz⟩
theorem Ag.mono {D D' p X:Nat} {w w':World} (h:Ag D p X w w') (hd:D'≤D):Ag D' p X w w':=⟨h.os,h.tape,h.output,h.size,fun z h1 h2 h3=>h.block z (by omega) h2 h3⟩
theorem Ag.bel {D p X:Nat} {w w':World} (h:Ag D p X w w') (hp:D≤p) (hX:D≤X):Below D w w':=⟨h.os,h.tape,h.output,h.size,fun z hz=>h.block z hz (by omega) (by omega)⟩
def BM.blk (x:BM) (z:Nat):Prop:=x.sum.blk z∨GLb elQ x.q.ao x.q.n x.q.l z∨(sblk x.c.ao x.c.n z∨∃ c∈x.c.l,c.va.blk z)∨GLb elS x.s.ao x.s.n x.s.l z∨GLb elL x.t.ao x.t.n x.t.l z
theorem BM.ok.agree {x:BM} {w w':World} (h:x.ok w) (hk:∀ z,x.blk z→w'.heap[z]?=w.heap[z]?):x.ok w' :=
 ⟨h.kind,h.view,h.seq,h.sum.kept fun z hz=>hk z (.inl hz),h.q.kept elQ_fine fun z hz=>hk z (.inr (.inl hz)),h.cl,h.st,h.vw,h.e,h.c.kept fun z hz=>hk z (.inr (.inr (.inl hz))),h.s.kept elS_fine fun z hz=>hk z (.inr (.inr (.inr (.inl hz)))),h.t.kept elL_fine fun z hz=>hk z (.inr (.inr (.inr (.inr hz))))⟩
theorem CL.blk_lt {w:World} {ao:Option Addr} {n cap:Nat} {l:List CA} (h:CL w ao n cap l) {z:Nat} (hz:sblk ao n z∨∃ c∈l,c.va.blk z):z < w.heap.size:=by
 rcases hz with ⟨a,ha,hn,rfl⟩ | ⟨c,hc,hz⟩
 ·have hl:=h.len
  have h0:=h.cell a ha 0 (by omega) 0 _ rfl
  have hlt:=World.block_lt_of_cell? w _ h0
  have hb:(a.add (0 * 6 + 0)).block=a.block:=by unfold Addr.add;split <;> rfl
  rw [hb] at hlt
  exact hlt
 ·exact (h.ok c hc).blk_lt hz
theorem BM.ok.blk_lt {x:BM} {w:World} (h:x.ok w) {z:Nat} (hz:x.blk z):z < w.heap.size:=by
 rcases hz with hz | hz | hz | hz | hz
 ·exact h.sum.blk_lt hz
 ·exact h.q.lt elQ_fine hz
 ·exact h.c.blk_lt hz
 ·exact h.s.lt elS_fine hz
 ·exact h.t.lt elL_fine hz
def BM.far (x:BM) (p X:Nat):Prop:=∀ z,x.blk z→p < z∧z≠X
theorem BM.ok.gr {x:BM} {w w':World} {p X:Nat} (h:x.ok w) (f:x.far p X) (g:w.grownBy w' (some p)):x.ok w':=h.agree fun z hz=>g.block z (h.blk_lt hz) (by have:=(f z hz).1;simp;omega)
theorem BM.ok.at {x:BM} {w w':World} {p X:Nat} (h:x.ok w) (f:x.far p X) (g:∀ j,j≠X→w'.heap[j]?=w.heap[j]?):x.ok w':=h.agree fun z hz=>g z (f z hz).2
theorem BM.ok.ag {x:BM} {w w':World} {p X:Nat} (h:x.ok w) (f:x.far p X) (g:Ag w.heap.size p X w w'):x.ok w':=h.agree fun z hz=>g.block z (h.blk_lt hz) (by have:=(f z hz).1;omega) (f z hz).2
def bm (k v s:Nat) (sum:Bs) (q:LS QM):BM:=⟨k,v,s,sum,q,0,0,0,0,⟨none,0,0,[]⟩,false,⟨none,0,0,[]⟩,⟨none,0,0,[]⟩⟩
theorem CL.none_blk {z:Nat} (h:sblk none 0 z∨∃ c∈([]:List CA),c.va.blk z):False:=by
 rcases h with ⟨a,ha,_⟩ | ⟨c,hc,_⟩
 ·cases ha
 ·cases hc
theorem GLb.none_blk {α:Type} {E:El α} {z:Nat} (h:GLb E none 0 [] z):False:=by
 rcases h with ⟨a,ha,_⟩ | ⟨c,hc,_⟩
 ·cases ha
 ·cases hc
theorem bm_ok {w:World} {k v s:Nat} {sum:Bs} {q:LS QM} (hk:k≤14) (hv:v < 18446744073709551616) (hs:s < 18446744073709551616) (hm:Sl w sum.ao sum.n sum.cap sum.xs) (hq:GL elQ w q.ao q.n q.cap q.l):(bm k v s sum q).ok w :=
 ⟨⟨by show _≤(k:Int);omega,by show (k:Int)≤_;omega⟩,hv,hs,hm,hq,by show 0 < _;decide,by show 0 < _;decide,by show 0 < _;decide,by show (-9223372036854775808:Int)≤0∧(0:Int)≤9223372036854775807;decide,CL.nothing w,GL.nothing _ w,GL.nothing _ w⟩
theorem bm_far {k v s:Nat} {sum:Bs} {q:LS QM} {p X:Nat} (hm:∀ z,sum.blk z→p < z∧z≠X) (hq:∀ z,GLb elQ q.ao q.n q.l z→p < z∧z≠X):(bm k v s sum q).far p X:=fun z hz=>by
 rcases hz with hz | hz | hz | hz | hz
 ·exact hm z hz
 ·exact hq z hz
 ·exact (CL.none_blk hz).elim
 ·exact (GLb.none_blk hz).elim
 ·exact (GLb.none_blk hz).elim
end Go.Proofs.YtnbejckdhdbamaaGreat

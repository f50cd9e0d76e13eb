/- Texts laid together. -/
import Derived.Test.YtfgapcknnoeplaaGreatDoorX23
set_option maxRecDepth 10000
set_option maxHeartbeats 8000000
open Option renaming some->aa,none->N
open Go.RowKit renaming Below->ab
open Go.World renaming cell?_of_block->ac,cell?_alloc_at->ag,cell?->aB
open Bool renaming false->F,true->T
open Go renaming Calls->ae,Addr->ap,Value->aM
open List renaming getD_eq_getElem?_getD->af,length_take->ah,getElem?_eq_getElem->al,length_cons->ar,getElem_mem->au,range->aw
open Nat renaming lt_of_lt_of_le->ai,not_lt_zero->an,le_trans->ay,zero_le->aA
open Or renaming inr->ao,inl->aE
namespace Go.Proofs.YtfgapcknnoeplaaGreatDoor
open Go.Proofs.Tryz
open Go.RowKit
variable {ad:Nat->ap}{X:World->Prop}{n k B h t i:Nat}{S:Nat->Prop}{m:Ya}{w W:World}{ns:List ByteArray}{l L:List Ev}{r:Ya×Int}{v:Int}{P:Ev->Bool}
section
open Ring
def X5 (ad:Nat->ap)(I:Nat->Nat->World->Nat->Nat->(Nat->Prop)->Ya->Prop)(n k B h:Nat)(S:Nat->Prop)(r:Ya×Int)(w:World)(e:Ending)(w':World):Prop :=
 (∃D,e=.returned D/\Jd w' ad D r.2 (-1))/\∃H,I n k w' B h H r.1/\Yd S H w w'
def RC (ad:Nat->ap)(X:World->Prop)(w:World)(S:Nat->Prop):Prop:=∀W:World,w.heap.size<=W.heap.size->(∀k,k<w.heap.size->¬S k->W.heap[k]?=w.heap[k]?)->Zp W ad/\X W
structure Jan (ad:Nat->ap) (X:World->Prop) (Wd:Nat->Nat->World->Nat->Nat->(Nat->Prop)->Ya->Prop):Prop where
 dH:∀{n k w B h S m},Wd n k w B h S m->∀j,S j->B<=j/\j<w.heap.size
 aS:∀{n k w w' B h S m},Wd n k w B h S m->w.heap.size<=w'.heap.size->(∀j,S j->w'.heap[j]?=w.heap[j]?)->Wd n k w' B h S m
 dX:∀W,X W->Lib.TabIs prog W "internal/strconv.uint64pow10" .u64 Lib.pow10Tab
 bO:∀{n k w B h S m},Wd n k w B h S m->m.L.length<=1000/\m.nodes.length<=16/\∀x∈m.nodes,x.1.name.size<=100
 new:∀(l:List ByteArray) (n k:Int) (p:Option ap) (cap:Nat) (w:World),Xi w p l->l.length<=cap->(p=N->l=[]/\cap=0)->l.length<=30->(∀x∈l,x.size<=100)->Zt n->Zt k->Zp w ad->X w->ae prog 7 #[.slice p l.length cap,.int .i64 n,.int .i64 k] w fun e w'=>((0<(Zr l n k).1/\∃ev,e=.returned (.tuple #[.pointer N,ev])/\Jd w' ad ev (Zr l n k).1 (Zr l n k).2)∨(¬0<(Zr l n k).1/\∃h S c,e=.returned (.tuple #[.pointer (aa ⟨h,0,N⟩),.nilIface])/\XC (Xy wX) l c.L/\c.n=n/\c.k=k/\XS n.toNat k.toNat c/\Wd n.toNat k.toNat w' w.heap.size h S (Ya.new l c)))/\ab w.heap.size w w'
 put:∀{n k w B h S m t} (who:Int) (text:ByteArray),Wd n k w B h S m->bP n k t m->t<=400->text.size<=2000->RC ad X w S->ae prog 38 #[.pointer (aa ⟨h,0,N⟩),.int .i64 who,.string text] w (X5 ad Wd n k B h S (m.open_ who T text) w)
 get:∀{n k w B h S m t} (who:Int),Wd n k w B h S m->bP n k t m->t<=400->RC ad X w S->ae prog 40 #[.pointer (aa ⟨h,0,N⟩),.int .i64 who] w (X5 ad Wd n k B h S (m.open_ who F ⟨#[]⟩) w)
 aR:∀{n k w B h S m t} (i:Int),Wd n k w B h S m->bP n k t m->t<=400->RC ad X w S->ae prog 34 #[.pointer (aa ⟨h,0,N⟩),.int .i64 i] w (X5 ad Wd n k B h S (m.aR i) w)
 drop:∀{n k w B h S m t} (i:Int),Wd n k w B h S m->bP n k t m->t<=400->RC ad X w S->ae prog 36 #[.pointer (aa ⟨h,0,N⟩),.int .i64 i] w (X5 ad Wd n k B h S (m.drop i) w)
 bC:∀{n k w B h S m t} (i:Int),Wd n k w B h S m->bP n k t m->t<=400->RC ad X w S->ae prog 37 #[.pointer (aa ⟨h,0,N⟩),.int .i64 i] w (X5 ad Wd n k B h S (m.bC i) w)
 down:∀{n k w B h S m t} (s:ByteArray),Wd n k w B h S m->bP n k t m->t<=400->s.size<=100->RC ad X w S->ae prog 41 #[.pointer (aa ⟨h,0,N⟩),.string s] w (X5 ad Wd n k B h S (m.set s F) w)
 up:∀{n k w B h S m t} (s:ByteArray),Wd n k w B h S m->bP n k t m->t<=400->s.size<=100->RC ad X w S->ae prog 43 #[.pointer (aa ⟨h,0,N⟩),.string s] w (X5 ad Wd n k B h S (m.set s T) w)
 events:∀{n k w B h S m},Wd n k w B h S m->m.events.length<=1000000/\ae prog 11 #[.pointer (aa ⟨h,0,N⟩)] w fun e w'=>(∃p c,e=.returned (.slice p m.events.length c)/\m.events.length<=c/\Ql XI w' p m.events)/\ab w.heap.size w w'
 oV:∀{n k w B h S m},Wd n k w B h S m->ae prog 59 #[.pointer (aa ⟨h,0,N⟩)] w fun e w'=>e=.returned (.int .i64 (m.L.length:Int))/\w'=w
 nodes:∀{n k w B h S m},Wd n k w B h S m->ae prog 16 #[.pointer (aa ⟨h,0,N⟩)] w fun e w'=>(∃p c,e=.returned (.slice p m.nodes.length c)/\Xi w' p (m.nodes.map (·.1.name))/\(∀b o,p=aa ⟨b,o,N⟩->¬S b))/\ab w.heap.size w w'
end
theorem Jcx {f:Nat}{q:Int}(H:f<=1000):-1<=LW f q/\LW f q<=1000:=by
 unfold LW;have B:=Int.emod_nonneg q (b:=max 1 (f:Int)) (by omega);have D:=Int.emod_lt_of_pos q (b:=max 1 (f:Int)) (by omega);omega
theorem Jbt (h:Nat)(p:Option ap)(I J f:Nat)(q:Int)(w:World)(hq:0<=q)(hf:f<=1000)
 (K:∀W,ab w.heap.size w W->ae prog 59 #[.pointer (aa ⟨h,0,N⟩)] W fun e w'=>e=.returned (.int .i64 (f:Int))/\w'=W):
 ae prog 35 #[.agg #[.pointer (aa ⟨h,0,N⟩),.slice p I J],.int .i64 q] w fun e w'=>e=.returned (.int .i64 (LW f q))/\ab w.heap.size w w':=by
 obtain⟨B,D⟩:∃B,B=w.alloc (.cells #[.pointer (aa ⟨h,0,N⟩),.slice p I J] 70):=⟨_,rfl⟩;have H:ab w.heap.size w B:=x8 D;have O:Hid (ae prog 59 #[.pointer (aa ⟨h,0,N⟩)] B fun e w'=>e=.returned (.int .i64 (f:Int))/\w'=B):=K B H;have U:Hid (ab w.heap.size w B):=H;have c0:B.cell? ⟨w.heap.size,0,N⟩=aa (.pointer (aa ⟨h,0,N⟩)):=XX D rfl;have Z:Hid (B=w.alloc (.cells #[.pointer (aa ⟨h,0,N⟩),.slice p I J] 70)):=D;clear K D H;go_enter func35,ntmps35;go_wp2_with (first|rw[<-Z.out]|fail)
 refine O.out.mono ?_;rintro e w2 ⟨rfl,rfl⟩;go_wp2;go_ret;exact⟨rfl,U.out⟩
theorem Jb2 (v:aM)(ns:List ByteArray)(p:Option ap)(O:Nat)(q:Int)(w:World)(hq:0<=q)(hl:ns.length<=1000)(hs:Xi w p ns):
 ae prog 42 #[.agg #[v,.slice p ns.length O],.int .i64 q] w fun e w'=>e=.returned (.string (ML ns q))/\ab w.heap.size w w':=by
 obtain⟨B,I⟩:∃B,B=w.alloc (.cells #[v,.slice p ns.length O] 70):=⟨_,rfl⟩;have K:ab w.heap.size w B:=x8 I;have D:Hid (ab w.heap.size w B):=K;have c1:B.cell? ⟨w.heap.size,1,N⟩=aa (.slice p ns.length O):=XX I rfl;have U:Hid (B=w.alloc (.cells #[v,.slice p ns.length O] 70)):=I;by_cases H:ns=[]
 ·have J:Hid (ML ns q=⟨#[]⟩):=if_pos H;rw[J.out];subst H;clear hs I K J;go_enter func42,ntmps42;go_wp2_with (first|rw[<-U.out]|fail)
  go_ret;exact⟨rfl,by have h:=D.out;rw[U.out]at h;exact h⟩
 ·have J:Hid (ML ns q=Yc ns (q%(ns.length:Int)).toNat):=if_neg H;rw[J.out];have a0:0<ns.length:=List.length_pos_iff.2 H;have a2:=Int.emod_nonneg q (b:=(ns.length:Int)) (by omega);have a3:=Int.emod_lt_of_pos q (b:=(ns.length:Int)) (by omega);obtain⟨j,Z⟩:∃j:Nat,q%(ns.length:Int)=(j:Int):=⟨(q%(ns.length:Int)).toNat,by omega⟩;have hm:Int.tmod q ns.length=(j:Int):=by rw[Int.tmod_eq_emod_of_nonneg hq];exact Z
  have a4:j<ns.length:=by omega
  rw[Z,Int.toNat_natCast];rcases hs.below K with h|⟨b,o,rfl,a5,hc⟩
  ·exact absurd h H
  have q1:=hc j a4;have a6:IntKind.i64.wrap (j:Int)=(j:Int):=by rw[IntKind.wrap_i64];omega
  have a7:¬(ns.length:Int)=0:=by omega
  have a8:¬ns.length=0:=by omega
  clear hs I K J hc a2 a3 Z H a0;generalize Yc ns j=t at *;generalize ns.length=L at *;go_enter func42,ntmps42;go_wp2_with (first|rw[<-U.out]|fail)
  go_quiet (fail)
  go_wp2;go_ret;exact⟨rfl,⟨D.out.os,D.out.tape,D.out.output,D.out.size,D.out.block⟩⟩
theorem JbR {O:Nat->Nat->World->Nat->Nat->(Nat->Prop)->Ya->Prop}(hW:Jan ad X O)(hw:O n k w B h S m)(hr:bP n k t m)(ht:t<=400)(hE:RC ad X w S)
 (ns:List ByteArray) (p:Option ap) (nc:Nat) (hs:Xi w p ns) (e0:ns.length<=1000) (d4:∀x∈ns,x.size<=100) (q d:Int) (hq:0<=q) (e3:q<=9223372036854775807) (hd:0<=d) (e7:d<=9):
 ae prog 17 #[.agg #[.pointer (aa ⟨h,0,N⟩),.slice p ns.length nc],.int .i64 q,.int .i64 d] w (X5 ad O n k B h S (m.oN ns q d) w):=by
 obtain⟨w1,d0⟩:∃w1,w1=w.alloc (.cells #[.pointer (aa ⟨h,0,N⟩),.slice p ns.length nc] 70):=⟨_,rfl⟩;have d3:ab w.heap.size w w1:=x8 d0;have d5:w.heap.size<w1.heap.size:=by rw[d0];simp
 have c0:w1.cell? ⟨w.heap.size,0,N⟩=aa (.pointer (aa ⟨h,0,N⟩)):=XX d0 rfl;have c1:w1.cell? ⟨w.heap.size,1,N⟩=aa (.slice p ns.length nc):=XX d0 rfl;have a4:Hid (w1=w.alloc (.cells #[.pointer (aa ⟨h,0,N⟩),.slice p ns.length nc] 70)):=d0;have b3:∀W,ab w.heap.size w W->O n k W B h S m:=fun W D=>hW.aS hw D.size (fun j hj=>D.block j (hW.dH hw j hj).2)
 have b6:∀W,ab w.heap.size w W->RC ad X W S:=fun W D V hs hk=>hE V (ay D.size hs) (fun j hj hn=>(hk j (ai hj D.size) hn).trans (D.block j hj))
 have b7:∀W r e w',ab w.heap.size w W->X5 ad O n k B h S r W e w'->∃H,e=.returned H/\Hid (X5 ad O n k B h S r w (.returned H) w'):=fun W r e w' D hg=>by
  obtain⟨⟨H,e1,e2⟩,S2,g1,g2⟩:=hg;exact⟨H,e1,⟨H,rfl,e2⟩,S2,g1,(Yd.aJ D).trans g2⟩
 have d1:=hW.bO hw;have e4:=Jcx (f:=m.L.length) (q:=q) d1.1;have a5:Hid (∀W,ab w.heap.size w W->ae prog 35 #[.agg #[.pointer (aa ⟨h,0,N⟩),.slice p ns.length nc],.int .i64 q] W fun e w'=>e=.returned (.int .i64 (LW m.L.length q))/\ab W.heap.size W w'):=fun W D=>Jbt h p ns.length nc m.L.length q W hq d1.1 (fun V hV=>hW.oV (b3 V (D.trans (hV.mono D.size))))
 have a6:Hid (∀W,ab w.heap.size w W->ae prog 42 #[.agg #[.pointer (aa ⟨h,0,N⟩),.slice p ns.length nc],.int .i64 q] W fun e w'=>e=.returned (.string (ML ns q))/\ab W.heap.size W w'):=fun W D=>Jb2 _ ns p nc q W hq e0 (hs.below D)
 have d2:(ML ns q).size<=100:=by
  unfold ML;split
  ·decide
  ·rename_i h0;have e5:0<ns.length:=List.length_pos_iff.2 h0;have h1:=Int.emod_nonneg q (b:=(ns.length:Int)) (by omega);have h2:=Int.emod_lt_of_pos q (b:=(ns.length:Int)) (by omega);exact d4 _ (oQ (by omega))
 have a7:Hid (∀W,ab w.heap.size w W->ae prog 34 #[.pointer (aa ⟨h,0,N⟩),.int .i64 (LW m.L.length q)] W fun e w'=>∃H,e=.returned H/\Hid (X5 ad O n k B h S (m.aR (LW m.L.length q)) w (.returned H) w')):=fun W D=>(hW.aR _ (b3 W D) hr ht (b6 W D)).mono fun e w' hg=>b7 W _ e w' D hg
 have a8:Hid (∀W,ab w.heap.size w W->ae prog 36 #[.pointer (aa ⟨h,0,N⟩),.int .i64 (LW m.L.length q)] W fun e w'=>∃H,e=.returned H/\Hid (X5 ad O n k B h S (m.drop (LW m.L.length q)) w (.returned H) w')):=fun W D=>(hW.drop _ (b3 W D) hr ht (b6 W D)).mono fun e w' hg=>b7 W _ e w' D hg
 have a9:Hid (∀W,ab w.heap.size w W->ae prog 37 #[.pointer (aa ⟨h,0,N⟩),.int .i64 (LW m.L.length q)] W fun e w'=>∃H,e=.returned H/\Hid (X5 ad O n k B h S (m.bC (LW m.L.length q)) w (.returned H) w')):=fun W D=>(hW.bC _ (b3 W D) hr ht (b6 W D)).mono fun e w' hg=>b7 W _ e w' D hg
 have d6:=VB q (by omega) (by omega);have d7:(tqT q).size<=100:=by
  unfold tqT;show(_++_:ByteArray).size<=100;rw[ByteArray.size_append];show 1+_<=100;omega
 have a2:Hid (∀W,ab w.heap.size w W->ae prog 38 #[.pointer (aa ⟨h,0,N⟩),.int .i64 (q%6),.string (tqT q)] W fun e w'=>∃H,e=.returned H/\Hid (X5 ad O n k B h S (m.open_ (q%6) T (tqT q)) w (.returned H) w')):=fun W D=>(hW.put _ _ (b3 W D) hr ht (by omega) (b6 W D)).mono fun e w' hg=>b7 W _ e w' D hg
 have a3:Hid (∀W,ab w.heap.size w W->ae prog 40 #[.pointer (aa ⟨h,0,N⟩),.int .i64 (q%6)] W fun e w'=>∃H,e=.returned H/\Hid (X5 ad O n k B h S (m.open_ (q%6) F ⟨#[]⟩) w (.returned H) w')):=fun W D=>(hW.get _ (b3 W D) hr ht (b6 W D)).mono fun e w' hg=>b7 W _ e w' D hg
 have b0:Hid (∀W,ab w.heap.size w W->ae prog 41 #[.pointer (aa ⟨h,0,N⟩),.string (ML ns q)] W fun e w'=>∃H,e=.returned H/\Hid (X5 ad O n k B h S (m.set (ML ns q) F) w (.returned H) w')):=fun W D=>(hW.down _ (b3 W D) hr ht d2 (b6 W D)).mono fun e w' hg=>b7 W _ e w' D hg
 have b1:Hid (∀W,ab w.heap.size w W->ae prog 43 #[.pointer (aa ⟨h,0,N⟩),.string (ML ns q)] W fun e w'=>∃H,e=.returned H/\Hid (X5 ad O n k B h S (m.set (ML ns q) T) w (.returned H) w')):=fun W D=>(hW.up _ (b3 W D) hr ht d2 (b6 W D)).mono fun e w' hg=>b7 W _ e w' D hg
 have b2:Hid (∀W,ab w.heap.size w W->ae prog 39 #[.int .i64 q] W fun e w'=>e=.returned (.string ⟨(Lib.itoa q).toArray⟩)/\ab W.heap.size W w'):=fun W D=>VP q (by omega) (by omega) W (hW.dX W (hE W D.size (fun j hj _=>D.block j hj)).2)
 have e6:q%6=q.tmod 6:=(Int.tmod_eq_emod_of_nonneg hq).symm;have b4:∀W:World,Sem.run prog (Op.stringOp .add ⟨#[116]⟩ ⟨(Lib.itoa q).toArray⟩) W=.ok (.string (tqT q)) W:=fun W=>by
  unfold tqT;exact run_string_add_sum W _ _ (by show 1+_<=_;omega)
 generalize (⟨(Lib.itoa q).toArray⟩:ByteArray)=it at *;have J:Hid (ab w.heap.size w w1):=d3;have b5:Hid (∀W,ab w1.drew.heap.size w1.drew W->W.cell? ⟨w.heap.size,0,N⟩=aa (.pointer (aa ⟨h,0,N⟩))):=fun W hW=>(hW.cell (p:=⟨w.heap.size,0,N⟩) d5).trans c0
 have d8:Hid (m.oN ns q d=m.oN ns q d):=rfl;have d9:d=0∨d=1∨d=2∨d=3∨d=4∨d=5∨d=6∨d=7∨d=8∨d=9:=by omega
 have U:Hid ((d<=3->m.oN ns q d=m.aR (LW m.L.length q))/\(d=4->m.oN ns q d=m.drop (LW m.L.length q))/\(d=5->m.oN ns q d=m.bC (LW m.L.length q))/\(d=6->m.oN ns q d=m.open_ (q%6) T (tqT q))/\(d=7->m.oN ns q d=m.open_ (q%6) F ⟨#[]⟩)/\(d=8->m.oN ns q d=m.set (ML ns q) F)/\(d=9->m.oN ns q d=m.set (ML ns q) T)):=by
  refine⟨fun h=>if_pos h,fun h=>?_,fun h=>?_,fun h=>?_,fun h=>?_,fun h=>?_,fun h=>?_⟩<;>subst h<;>rfl
 generalize m.oN ns q d=R at *;clear hw hr ht hE hs d4 d0 d3 b3 b6 b7 d1 d2 d7 d6 d8 hW;generalize LW m.L.length q=fi at *;generalize ML ns q=nt at *;generalize tqT q=tq at *;rw[e6]at a2 a3 U;clear e6 hq e3;rcases d9 with rfl|rfl|rfl|rfl|rfl|rfl|rfl|rfl|rfl|rfl
 ·obtain rfl:=U.out.1 (by omega);clear U a8 a9 a2 a3 b0 b1 b2 a6 b4;generalize X5 ad O n k B h S (m.aR fi) w=G at *;go_enter func17,ntmps17;go_wp2_with (first|rw[<-a4.out]|fail)
  go_region_law (first|(go_simp;go_at_call 35;refine(a5.out _ J.out.drew).mono ?_;rintro e K ⟨rfl,I⟩;have a0:Hid (ab w.heap.size w K):=J.out.drew.trans (I.mono J.out.drew.size);have b8:=b5.out K I;clear I;go_simp)|(go_simp;go_at_call 34;refine(a7.out _ a0.out).mono ?_;rintro e w3 ⟨H,rfl,Z⟩;go_simp))
  all_goals (go_wp2;go_ret;exact Z.out)
 ·obtain rfl:=U.out.1 (by omega);clear U a8 a9 a2 a3 b0 b1 b2 a6 b4;generalize X5 ad O n k B h S (m.aR fi) w=G at *;go_enter func17,ntmps17;go_wp2_with (first|rw[<-a4.out]|fail)
  go_region_law (first|(go_simp;go_at_call 35;refine(a5.out _ J.out.drew).mono ?_;rintro e K ⟨rfl,I⟩;have a0:Hid (ab w.heap.size w K):=J.out.drew.trans (I.mono J.out.drew.size);have b8:=b5.out K I;clear I;go_simp)|(go_simp;go_at_call 34;refine(a7.out _ a0.out).mono ?_;rintro e w3 ⟨H,rfl,Z⟩;go_simp))
  all_goals (go_wp2;go_ret;exact Z.out)
 ·obtain rfl:=U.out.1 (by omega);clear U a8 a9 a2 a3 b0 b1 b2 a6 b4;generalize X5 ad O n k B h S (m.aR fi) w=G at *;go_enter func17,ntmps17;go_wp2_with (first|rw[<-a4.out]|fail)
  go_region_law (first|(go_simp;go_at_call 35;refine(a5.out _ J.out.drew).mono ?_;rintro e K ⟨rfl,I⟩;have a0:Hid (ab w.heap.size w K):=J.out.drew.trans (I.mono J.out.drew.size);have b8:=b5.out K I;clear I;go_simp)|(go_simp;go_at_call 34;refine(a7.out _ a0.out).mono ?_;rintro e w3 ⟨H,rfl,Z⟩;go_simp))
  all_goals (go_wp2;go_ret;exact Z.out)
 ·obtain rfl:=U.out.1 (by omega);clear U a8 a9 a2 a3 b0 b1 b2 a6 b4;generalize X5 ad O n k B h S (m.aR fi) w=G at *;go_enter func17,ntmps17;go_wp2_with (first|rw[<-a4.out]|fail)
  go_region_law (first|(go_simp;go_at_call 35;refine(a5.out _ J.out.drew).mono ?_;rintro e K ⟨rfl,I⟩;have a0:Hid (ab w.heap.size w K):=J.out.drew.trans (I.mono J.out.drew.size);have b8:=b5.out K I;clear I;go_simp)|(go_simp;go_at_call 34;refine(a7.out _ a0.out).mono ?_;rintro e w3 ⟨H,rfl,Z⟩;go_simp))
  all_goals (go_wp2;go_ret;exact Z.out)
 ·obtain rfl:=U.out.2.1 rfl;clear U a9 a2 a3 b0 b1 b2 a6 a7 b4;generalize X5 ad O n k B h S (m.drop fi) w=G at *;go_enter func17,ntmps17;go_wp2_with (first|rw[<-a4.out]|fail)
  go_region_law (first|(go_simp;go_at_call 35;refine(a5.out _ J.out.drew).mono ?_;rintro e K ⟨rfl,I⟩;have a0:Hid (ab w.heap.size w K):=J.out.drew.trans (I.mono J.out.drew.size);have b8:=b5.out K I;clear I;go_simp)|(go_simp;go_at_call 36;refine(a8.out _ a0.out).mono ?_;rintro e w3 ⟨H,rfl,Z⟩;go_simp))
  all_goals (go_wp2;go_ret;exact Z.out)
 ·obtain rfl:=U.out.2.2.1 rfl;clear U a8 a2 a3 b0 b1 b2 a6 a7 b4;generalize X5 ad O n k B h S (m.bC fi) w=G at *;go_enter func17,ntmps17;go_wp2_with (first|rw[<-a4.out]|fail)
  go_region_law (first|(go_simp;go_at_call 35;refine(a5.out _ J.out.drew).mono ?_;rintro e K ⟨rfl,I⟩;have a0:Hid (ab w.heap.size w K):=J.out.drew.trans (I.mono J.out.drew.size);have b8:=b5.out K I;clear I;go_simp)|(go_simp;go_at_call 37;refine(a9.out _ a0.out).mono ?_;rintro e w3 ⟨H,rfl,Z⟩;go_simp))
  all_goals (go_wp2;go_ret;exact Z.out)
 ·obtain rfl:=U.out.2.2.2.1 rfl;clear U a8 a9 a3 b0 b1 a6 a7 a5;generalize X5 ad O n k B h S (m.open_ (q.tmod 6) T tq) w=G at *;go_enter func17,ntmps17;go_wp2_with (first|rw[<-a4.out]|fail)
  go_region_law (first|(go_simp;go_at_call 39;refine(b2.out _ J.out.drew).mono ?_;rintro e K ⟨rfl,I⟩;have a0:Hid (ab w.heap.size w K):=J.out.drew.trans (I.mono J.out.drew.size);have b8:=b5.out K I;clear I;go_simp)|(go_simp;go_at_call 38;refine(a2.out _ a0.out).mono ?_;rintro e w3 ⟨H,rfl,Z⟩;go_simp))
  all_goals (go_wp2;go_ret;exact Z.out)
 ·obtain rfl:=U.out.2.2.2.2.1 rfl;clear U a8 a9 a2 b0 b1 b2 a6 a7 a5 b4;generalize X5 ad O n k B h S (m.open_ (q.tmod 6) F ⟨#[]⟩) w=G at *;go_enter func17,ntmps17;go_wp2_with (first|rw[<-a4.out]|fail)
  refine(a3.out _ J.out).mono ?_;rintro e w3 ⟨H,rfl,Z⟩;go_wp2;exact Z.out
 ·obtain rfl:=U.out.2.2.2.2.2.1 rfl;clear U a8 a9 a2 a3 b1 b2 a7 a5 b4;generalize X5 ad O n k B h S (m.set nt F) w=G at *;go_enter func17,ntmps17;go_wp2_with (first|rw[<-a4.out]|fail)
  go_region_law (first|(go_simp;go_at_call 42;refine(a6.out _ J.out.drew).mono ?_;rintro e K ⟨rfl,I⟩;have a0:Hid (ab w.heap.size w K):=J.out.drew.trans (I.mono J.out.drew.size);have b8:=b5.out K I;clear I;go_simp)|(go_simp;go_at_call 41;refine(b0.out _ a0.out).mono ?_;rintro e w3 ⟨H,rfl,Z⟩;go_simp))
  all_goals (go_wp2;go_ret;exact Z.out)
 ·obtain rfl:=U.out.2.2.2.2.2.2 rfl;clear U a8 a9 a2 a3 b0 b2 a7 a5 b4;generalize X5 ad O n k B h S (m.set nt T) w=G at *;go_enter func17,ntmps17;go_wp2_with (first|rw[<-a4.out]|fail)
  go_region_law (first|(go_simp;go_at_call 42;refine(a6.out _ J.out.drew).mono ?_;rintro e K ⟨rfl,I⟩;have a0:Hid (ab w.heap.size w K):=J.out.drew.trans (I.mono J.out.drew.size);have b8:=b5.out K I;clear I;go_simp)|(go_simp;go_at_call 43;refine(b1.out _ a0.out).mono ?_;rintro e w3 ⟨H,rfl,Z⟩;go_simp))
  all_goals (go_wp2;go_ret;exact Z.out)
theorem JbG {l:List Int}(B:i<l.length):m.nP ns (l.take (i+1))=Ya.oP ns (m.nP ns (l.take i)) (l.getD i 0):=by
 rw[JbK B,af,al B];rfl
theorem Jce (B:v<0):Ya.oP ns r v=r:=if_pos B
theorem Jcf (B:¬v<0)(h:(r.1.oN ns (v/10) (v%10)).2=0):Ya.oP ns r v=((r.1.oN ns (v/10) (v%10)).1,r.2+1):=by
 unfold Ya.oP;rw[if_neg B,if_pos h]
theorem Jct (B:¬v<0)(h:¬(r.1.oN ns (v/10) (v%10)).2=0):Ya.oP ns r v=((r.1.oN ns (v/10) (v%10)).1,r.2):=by
 unfold Ya.oP;rw[if_neg B,if_neg h]
theorem JbY (m:Ya)(ns:List ByteArray)(l:List Int):0<=(m.nP ns l).2/\(m.nP ns l).2<=l.length:=by
 unfold Ya.nP
 suffices h:∀(l:List Int) (r:Ya×Int),r.2<=(l.foldl (Ya.oP ns) r).2/\(l.foldl (Ya.oP ns) r).2<=r.2+l.length by
  have:=h l (m,0);simp only at this;omega
 intro l
 induction l with
 |nil=>intro r;simp
 |cons v l ih =>
  intro r;have B:=ih (Ya.oP ns r v);have D:r.2<=(Ya.oP ns r v).2/\(Ya.oP ns r v).2<=r.2+1:=by
   unfold Ya.oP;split
   ·omega
   ·dsimp only;split<;>omega
  rw[List.foldl_cons,ar];omega
theorem Jbb (h:bP n k t m)(l:List Int):∃B,B<=t+l.length/\bP n k B (m.nP ns l).1:=by
 unfold Ya.nP
 suffices g:∀(l:List Int) (r:Ya×Int) (t:Nat),bP n k t r.1->∃B,B<=t+l.length/\bP n k B (l.foldl (Ya.oP ns) r).1 from g l (m,0) t h
 intro l
 induction l with
 |nil=>exact fun r t h=>⟨t,Nat.le_refl _,h⟩
 |cons v l ih =>
  intro r t h;obtain⟨D,K,H⟩:=Jci (ns:=ns) h v;obtain⟨I,O,J⟩:=ih _ D H;exact⟨I,by rw[ar];omega,J⟩
theorem Jcg {Z:Nat->Nat->World->Nat->Nat->(Nat->Prop)->Ya->Prop}(hW:Jan ad X Z)(hw:Z n k w B h S m)(hr:bP n k 0 m)(hE:RC ad X w S)
 (l:List Int) (p:Option ap) (cap:Nat) (hs:JbQ w p l) (hl:l.length<=400) (hc:l.length<=cap) (g0:p=N->cap=0) (g2:∀b o,p=aa ⟨b,o,N⟩->¬S b) (a4:∀x∈l,Zt x):
 ae prog 9 #[.pointer (aa ⟨h,0,N⟩),.slice p l.length cap] w fun e w'=>e=.returned (.int .i64 (m.nP (m.nodes.map (·.1.name)) l).2)/\∃D,Z n k w' B h D (m.nP (m.nodes.map (·.1.name)) l).1/\Yd S D w w':=by
 obtain⟨ns,a7⟩:∃ns,ns=m.nodes.map (·.1.name):=⟨_,rfl⟩;rw[<-a7];have b1:=hW.bO hw;have b2:ns.length<=16/\ns.length=m.nodes.length:=by rw[a7,List.length_map];exact⟨b1.2.1,rfl⟩
 have d5:Hid (∀x∈ns,x.size<=100):=fun x hx=>by
  rw[a7]at hx;obtain⟨y,hy,rfl⟩:=List.mem_map.1 hx;exact b1.2.2 y hy
 have b3:=hW.nodes hw;rw[<-b2.2,<-a7]at b3;have d6:Hid (ae prog 16 #[.pointer (aa ⟨h,0,N⟩)] w fun e w'=>∃q c,e=.returned (.slice q ns.length c)/\Hid (Xi w' q ns/\(∀b o,q=aa ⟨b,o,N⟩->¬S b)/\ab w.heap.size w w')):=b3.mono fun e w' hq=>by
  obtain⟨⟨q,c,e1,e2,e3⟩,e4⟩:=hq;exact⟨q,c,e1,e2,e3,e4⟩
 have HW:Hid (Jan ad X Z):=hW;have a8:Hid (Z n k w B h S m/\(∀j,S j->j<w.heap.size)/\RC ad X w S):=⟨hw,fun j I=>(hW.dH hw j I).2,hE⟩;have d7:Hid (∀i,i<=l.length->∃t,t<=400/\bP n k t (m.nP ns (l.take i)).1):=fun i J=>by
  obtain⟨t,h1,h2⟩:=Jbb (ns:=ns) hr (l.take i);rw[ah]at h1;exact⟨t,by omega,h2⟩
 have b4:Hid (JbQ w p l/\(∀b o,p=aa ⟨b,o,N⟩->¬S b)/\∀i,i<l.length->Zt (l.getD i 0)):=⟨hs,g2,fun i J=>by
  rw[af,al J];exact a4 _ (au J)⟩
 have a0:Hid (m.nP ns (l.take 0)=(m,0)):=rfl;have d8:Hid (m.nP ns (l.take l.length)=m.nP ns l):=by show _=_;rw[List.take_length]
 have d9:Hid (∀i,i<l.length->m.nP ns (l.take (i+1))=Ya.oP ns (m.nP ns (l.take i)) (l.getD i 0)):=fun i J=>JbG J
 have e0:Hid (∀i,0<=(m.nP ns (l.take i)).2/\(m.nP ns (l.take i)).2<=400):=fun i=>by
  have h1:=JbY m ns (l.take i);rw[ah]at h1;omega
 have g9:Hid (p=N->cap=0):=g0;have h3:=b2.1;clear hs g2 a4 hw hr hE b1 b3 a7 b2 hW g0;obtain⟨R,hR⟩:∃R:Nat->Ya×Int,R=fun i=>m.nP ns (l.take i):=⟨_,rfl⟩
 have b5:Hid (∀i,i<=l.length->∃t,t<=400/\bP n k t (R i).1):=by rw[hR];exact d7
 have b6:Hid (R 0=(m,0)):=by rw[hR];exact a0
 have g3:Hid (R l.length=m.nP ns l):=by rw[hR];exact d8
 have b7:Hid (∀i,i<l.length->R (i+1)=Ya.oP ns (R i) (l.getD i 0)):=by rw[hR];exact d9
 have e5:Hid (∀i,0<=(R i).2/\(R i).2<=400):=by rw[hR];exact e0
 clear hR d7 a0 d8 d9 e0;generalize m.nP ns l=E at *;go_enter func9,ntmps9;go_wp2_with fail
 refine d6.out.mono ?_;rintro e H ⟨q,c,rfl,e6⟩;obtain⟨K,a9⟩:∃K,K=H.alloc (.cells #[.pointer (aa ⟨h,0,N⟩),.slice q ns.length c] 70):=⟨_,rfl⟩;have a2:Hid (Xi H q ns/\(∀b o,q=aa ⟨b,o,N⟩->¬S b)/\ab w.heap.size w H):=e6.out;have g6:Hid (K=H.alloc (.cells #[.pointer (aa ⟨h,0,N⟩),.slice q ns.length c] 70)):=a9;have e7:H.heap.size<K.heap.size:=by rw[a9];simp
 have b0:ab H.heap.size H K:=x8 a9;have e8:K.heap[H.heap.size]?=aa (.cells #[.pointer (aa ⟨h,0,N⟩),.slice q ns.length c] 70 (0,0)):=by
  rw[a9];show(H.heap.push _)[H.heap.size]?=_;simp
 have b8:Hid (ab w.heap.size w K):=a2.out.2.2.trans (b0.mono a2.out.2.2.size);have HV:Hid (∀D W,Yd S D K W->(∀i,i<l.length->∃b o,p=aa ⟨b,o,N⟩/\W.cell? ⟨b,o+i,N⟩=aa (.int .i64 (l.getD i 0)))/\W.cell? ⟨H.heap.size,0,N⟩=aa (.pointer (aa ⟨h,0,N⟩))/\W.cell? ⟨H.heap.size,1,N⟩=aa (.slice q ns.length c)/\Xi W q ns/\RC ad X W D):=fun D W U=>by
  have h4:=a2.out.2.2.size;have e9:∀j,j<w.heap.size->¬S j->W.heap[j]?=w.heap[j]?:=fun j I hn=>(U.block j (by omega) hn).trans ((b0.block j (by omega)).trans (a2.out.2.2.block j I))
  have g7:∀j,j<H.heap.size->¬S j->W.heap[j]?=H.heap[j]?:=fun j I hn=>(U.block j (by omega) hn).trans (b0.block j I)
  have f3:W.heap[H.heap.size]?=_:=(U.block _ e7 (fun h=>by have:=a8.out.2.1 _ h;omega)).trans e8;refine⟨fun i J=>?_,(Xa f3 0).1,(Xa f3 1).1,?_,?_⟩
  ·rcases b4.out.1 with h0|⟨b,o,hp,d0,hc⟩
   ·rw[h0]at J;exact absurd J (an _)
   ·exact⟨b,o,hp,by rw[<-hc i J];unfold aB;rw[e9 b d0 (b4.out.2.1 b o hp)]⟩
  ·rcases a2.out.1 with h0|⟨b,o,hp,d0,hc⟩
   ·exact aE h0
   ·exact ao ⟨b,o,hp,by have:=U.size;omega,fun i J=>by rw[<-hc i J];unfold aB;rw[g7 b d0 (a2.out.2.1 b o hp)]⟩
  ·intro V hs hk;exact a8.out.2.2 V (by have:=U.size;omega) (fun j I hn=>(hk j (by have:=U.size;omega) (fun h=>by rcases U.new j h with h|h;exact hn h;omega)).trans (e9 j I hn))
 have f4:Hid (Z n k K B h S m):=HW.out.aS a8.out.1 b8.out.size (fun j I=>b8.out.block j (a8.out.2.1 j I));clear e6 a9 d6 e7 b0 e8 a8 a2;have h5:¬(3000:Int)<(l.length:Int):=by omega
 go_wp2_with (first|rw[<-g6.out]|fail)
 go_loopw [6,19] (fun v x wr=>∃i:Nat,∃D,i<=l.length/\x=.int .i64 i/\v=.int .i64 (R i).2/\Z n k wr B h D (R i).1/\Yd S D K wr) (fun _ x _=>l.length-(intOf x).toNat)
 case atStart=>exact⟨0,S,aA _,rfl,by rw[b6.out],by rw[b6.out];exact f4.out,Yd.aJ (Below.refl _ _)⟩
 case round =>
  obtain⟨i,D,J,rfl,rfl,f5,U⟩:=hrel;obtain⟨w3,rfl⟩:∃w3,w3=wr:=⟨_,rfl⟩;have a3:Hid (Z n k w3 B h D (R i).1/\Yd S D K w3):=⟨f5,U⟩;clear f5 U f4 b6;by_cases d1:i<l.length
  ·obtain⟨g1,c0,c1,g4,g5⟩:=HV.out D w3 a3.out.2;obtain⟨b,o,rfl,q1⟩:=g1 i d1;have a4:=b4.out.2.2 i d1;have a5:Hid (R (i+1)=Ya.oP ns (R i) (l.getD i 0)):=b7.out i d1;obtain⟨t,ht,f6⟩:=b5.out i J;have h6:=e5.out i;have f7:=fun(hv:0<=l.getD i 0)=>JbR HW.out a3.out.1 f6 ht g5 ns q c g4 (by omega) d5.out (l.getD i 0/10) (l.getD i 0%10) (by omega) (by have:=a4.2;omega) (by omega) (by omega)
   have a0:Hid (0<=l.getD i 0->ae prog 17 #[.agg #[.pointer (aa ⟨h,0,N⟩),.slice q ns.length c],.int .i64 (l.getD i 0/10),.int .i64 (l.getD i 0%10)] w3 (X5 ad Z n k B h D ((R i).1.oN ns (l.getD i 0/10) (l.getD i 0%10)) w3)):=f7;clear g1 g4 g5 f6 ht f7 d5 b5 b7 e5;obtain⟨v,hv⟩:∃v,v=l.getD i 0:=⟨_,rfl⟩;rw[<-hv]at a5 a0 q1 a4;have h7:Hid (v=l.getD i 0):=hv;clear hv;by_cases d2:v<0
   ·have d3:¬0<=v:=by omega
    have O:Hid (R (i+1)=R i):=by rw[a5.out];exact Jce d2
    clear a5 a0;go_wp2;go_roundw
    case rel=>exact⟨i+1,D,by omega,by go_num,by rw[O.out],by rw[O.out];exact a3.out.1,a3.out.2⟩
    case measure=>simp[intOf];omega
   ·have d3:0<=v:=by omega
    have e1:v/10=v.tdiv 10:=(Int.tdiv_eq_ediv_of_nonneg d3).symm;have h8:IntKind.i64.wrap (v.tdiv 10)=v.tdiv 10:=by
     rw[<-e1,IntKind.wrap_i64];have:=a4.2;omega
    have d4:=a0.out d3;have HY:Hid ((((R i).1.oN ns (v/10) (v%10)).2=0->R (i+1)=(((R i).1.oN ns (v/10) (v%10)).1,(R i).2+1))/\(¬((R i).1.oN ns (v/10) (v%10)).2=0->R (i+1)=(((R i).1.oN ns (v/10) (v%10)).1,(R i).2))):=⟨fun h=>by rw[a5.out];exact Jcf d2 h,fun h=>by rw[a5.out];exact Jct d2 h⟩;have h9:IntKind.i64.wrap ((R i).2+1)=(R i).2+1:=by rw[IntKind.wrap_i64];omega
    clear a5 a0;generalize (R i).1.oN ns (v/10) (v%10)=r at *;rw[e1]at d4;clear e1;generalize i0:(R i).2=rt at *;go_wp2_with fail
    refine d4.mono ?_;rintro e w4 ⟨⟨ev,rfl,g8⟩,S4,f8,f9⟩;have a6:Hid (Z n k w4 B h S4 r.1/\Yd S S4 K w4):=⟨f8,a3.out.2.trans f9⟩;clear f8 f9 d4;rcases g8 with⟨rfl,h0,_⟩|⟨j,_,rfl,I,_⟩|⟨j,fb,_,rfl,I,_,_⟩
    ·have O:Hid (R (i+1)=(r.1,rt+1)):=HY.out.1 h0;clear HY h0;go_wp2;go_roundw
     case rel=>exact⟨i+1,S4,by omega,by go_num,by rw[O.out],by rw[O.out];exact a6.out.1,a6.out.2⟩
     case measure=>simp[intOf];omega
    ·have O:Hid (R (i+1)=(r.1,rt)):=HY.out.2 (by omega);clear HY I;go_wp2;go_roundw
     case rel=>exact⟨i+1,S4,by omega,by go_num,by rw[O.out],by rw[O.out];exact a6.out.1,a6.out.2⟩
     case measure=>simp[intOf];omega
    ·have O:Hid (R (i+1)=(r.1,rt)):=HY.out.2 (by omega);clear HY I;go_wp2;go_roundw
     case rel=>exact⟨i+1,S4,by omega,by go_num,by rw[O.out],by rw[O.out];exact a6.out.1,a6.out.2⟩
     case measure=>simp[intOf];omega
  ·obtain rfl:i=l.length:=by omega
   have HE:Hid (R l.length=E):=g3.out;clear HV b7 b5;go_wp2;go_ret;exact⟨by rw[HE.out];rfl,D,by rw[<-HE.out];exact a3.out.1,(Yd.aJ b8.out).trans a3.out.2⟩
def JbH (w:World)(H:FuncId)(I:Array aM)(l:List Ev)(P:Ev->Bool):Prop :=
 ∀i,i<l.length->∀B,ab w.heap.size w B->ae prog H (#[.agg (oH (Qq l i)).toArray]++I) B fun e D=>e=.returned (.bool (P (Qq l i)))/\ab B.heap.size B D
theorem Jbq (h:i<l.length):Qq l i∈l:=by
 rw[nF h];exact au h
theorem JaT (h:i<l.length)(B:P (Qq l i)=T):l.any P=true:=List.any_eq_true.2 ⟨_,Jbq h,B⟩
theorem Jaw (h:∀i,i<l.length->P (Qq l i)=F):l.any P=false:=by
 rw[List.any_eq_false];intro x D;obtain⟨i,B,rfl⟩:=List.getElem_of_mem D;rw[<-nF B,h i B];decide
theorem JbI (p:Option ap)(l:List Ev)(cap:Nat)(I:FuncId)(a4:Array aM)(P:Ev->Bool)(w:World)(hl:l.length<=1000000)(hs:Ql XI w p l)
 (d3:∀args W,Sem.run prog (callFunc I args) W=.ok (.enter I args) W) (hc:JbH w I a4 l P):
 ae prog 44 #[.slice p l.length cap,.func (.func I) #[] a4] w fun e w'=>(∃r:Int,e=.returned (.int .i64 r)/\(0<=r/\l.any P=T∨r=-1/\l.any P=F))/\ab w.heap.size w w':=by
 have HS:Hid (Ql XI w p l):=hs;have HC:Hid (JbH w I a4 l P):=hc;clear hs hc;go_enter func44,ntmps44;go_wp2;go_loopw [8] (fun x wr=>∃i:Nat,i<=l.length/\x=.int .i64 i/\(∀j,j<i->P (Qq l j)=F)/\ab w.heap.size w wr) (fun x _=>l.length-(intOf x).toNat)
 case atStart=>exact⟨0,by omega,rfl,fun j hj=>absurd hj (an _),Below.refl _ _⟩
 case round =>
  obtain⟨i,hi,rfl,a5,hB⟩:=hrel;have a6:Hid (∀j,j<i->P (Qq l j)=F):=a5;have D:Hid (ab w.heap.size w wr):=hB;clear a5 hB;by_cases a2:i<l.length
  ·obtain⟨pb,po,a9,d2,J,K,O,U,Z,b5,b6,b7⟩:=qX (HS.out.below D.out) a2;subst a9;have B:=HC.out i a2 wr D.out;have a7:Hid (∀v,P (Qq l i)=v->v=P (Qq l i)):=fun v h=>h.symm
   by_cases H:P (Qq l i)=T
   ·have HA:Hid (l.any P=T):=JaT a2 H;rw[H]at B;clear H a7;generalize Qq l i=x at *;obtain⟨xw,xp,xf,⟨x1,x2⟩,xt,xa,xb⟩:=x;unfold oH at B;dsimp only at J K O U Z b5 b6 b7 B;go_wp2_with fail
    refine B.mono ?_;rintro e w2 ⟨rfl,a0⟩;clear B;go_wp2;go_ret;exact⟨⟨(i:Int),rfl,aE ⟨by omega,HA.out⟩⟩,D.out.trans (a0.mono D.out.size)⟩
   ·have a3:P (Qq l i)=false:=by simpa using H
    have a8:Hid (P (Qq l i)=F):=a3;rw[a3]at B;clear H a3 a7;have b8:Hid (Qq l i=Qq l i):=by show _=_;rfl
    clear b8;obtain⟨x,hx⟩:∃x,x=Qq l i:=⟨_,rfl⟩;rw[<-hx]at J K O U Z b5 b6 b7 B a8;have d0:Hid (x=Qq l i):=hx;clear hx;obtain⟨xw,xp,xf,⟨x1,x2⟩,xt,xa,xb⟩:=x;unfold oH at B;dsimp only at J K O U Z b5 b6 b7 B;go_wp2_with fail
    refine B.mono ?_;rintro e w2 ⟨rfl,a0⟩;have d1:Hid (ab w.heap.size w w2):=D.out.trans (a0.mono D.out.size);clear B a0 J K O U Z b5 b6 b7;go_wp2;go_roundw
    case rel =>
     refine⟨i+1,by omega,by go_num,fun j hj=>?_,d1.out⟩;by_cases e:j=i
     ·rw[e,<-d0.out];exact a8.out
     ·exact a6.out j (by omega)
    case measure=>simp[intOf];omega
  ·have HN:Hid (l.any P=F):=Jaw fun j hj=>a6.out j (by omega)
   go_wp2;go_ret;exact⟨⟨-1,rfl,ao ⟨rfl,HN.out⟩⟩,D.out⟩
theorem JaH (p:Option ap)(l:List Ev)(cap:Nat)(D:FuncId)(J:Array aM)(P:Ev->Bool)(w:World)(hl:l.length<=1000000)(U:Ql XI w p l)
 (Z:∀args W,Sem.run prog (callFunc D args) W=.ok (.enter D args) W) (hc:JbH w D J l P):
 ae prog 18 #[.slice p l.length cap,.func (.func D) #[] J] w fun e w'=>e=.returned (.bool (l.any P))/\ab w.heap.size w w':=by
 have K:=JbI p l cap D J P w hl U Z hc;clear U hc Z;go_enter func18,ntmps18;go_wp2_with fail
 refine K.mono ?_;rintro e w1 ⟨⟨r,rfl,H⟩,O⟩;clear K;rcases H with⟨H,B⟩|⟨H,B⟩
 ·have I:Hid (l.any P=T):=B;clear B;go_wp2;go_ret;exact⟨sB (by rw[I.out]),O⟩
 ·have I:Hid (l.any P=F):=B;subst H;clear B;go_wp2;go_ret;exact⟨sB (by rw[I.out]),O⟩
def r9 (L:List Ev)(i:Nat):Bool:=(L.take i).any (JQ (Qq L i))
def H7 (L:List Ev)(i:Nat):Bool:=L.any (Y5 (Qq L i))
def r8 (L:List Ev):Int×Int :=
 match (aw L.length).find? (fun i=>r9 L i||H7 L i)with
 |none=>(0,-1)
 |some i=>(if r9 L i then 10 else 5,(i:Int))
theorem JaO (I:i<L.length)(J:∀j,j<i->r9 L j=F/\H7 L j=F)(K:(r9 L i||H7 L i)=T):r8 L=(if r9 L i then 10 else 5,(i:Int)):=by
 unfold r8;have e:(aw L.length).find? (fun i=>r9 L i||H7 L i)=aa i:=by
  rw[List.find?_range_eq_some];refine⟨K,List.mem_range.2 I,fun j B=>?_⟩;obtain⟨D,H⟩:=J j B;rw[D,H];rfl
 rw[e]
theorem JaL (h:∀j,j<L.length->r9 L j=F/\H7 L j=F):r8 L=(0,-1):=by
 unfold r8;have e:(aw L.length).find? (fun i=>r9 L i||H7 L i)=none:=by
  rw[List.find?_range_eq_none];intro j B;obtain⟨D,H⟩:=h j B;rw[D,H];rfl
 rw[e]
theorem Jb6 (b a:Ev)(w:World):ae prog 20 #[.agg (oH b).toArray,.agg (oH a).toArray] w fun e w'=>e=.returned (.bool (JQ b a))/\ab w.heap.size w w':=by
 have a5:Hid (∀(x y:Int×Int) (W:World),ae prog 45 #[.agg #[.int .i64 x.1,.int .i64 x.2],.agg #[.int .i64 y.1,.int .i64 y.2]] W fun e w'=>e=.returned (.bool (Qd x y))/\ab W.heap.size W w'):=fun x y W=>(PG x y W).mono fun e w' hq=>⟨hq.1,by
  obtain⟨q,os,h⟩:=hq.2;rw[h];exact xH _ _ _⟩
 obtain⟨xw,Z,xf,⟨D,H⟩,xt,I,xb⟩:=b;obtain⟨yw,yp,yf,⟨J,K⟩,yt,ya,O⟩:=a;unfold oH;dsimp only;obtain⟨B,a0⟩:∃B,B=w.alloc (.cells #[.int .i64 xw,.bool Z,.bool xf,.int .i64 D,.int .i64 H,.string xt,.int .i64 I,.int .i64 xb] 42):=⟨_,rfl⟩;have a9:ab w.heap.size w B:=x8 a0;have b4:B.heap[w.heap.size]?=aa (.cells #[.int .i64 xw,.bool Z,.bool xf,.int .i64 D,.int .i64 H,.string xt,.int .i64 I,.int .i64 xb] 42 (0,0)):=by
  rw[a0];show(w.heap.push _)[w.heap.size]?=_;simp
 obtain⟨U,a2⟩:∃U,U=B.alloc (.cells #[.int .i64 yw,.bool yp,.bool yf,.int .i64 J,.int .i64 K,.string yt,.int .i64 ya,.int .i64 O] 42):=⟨_,rfl⟩;have b0:ab B.heap.size B U:=x8 a2;have b1:U.heap[B.heap.size]?=aa (.cells #[.int .i64 yw,.bool yp,.bool yf,.int .i64 J,.int .i64 K,.string yt,.int .i64 ya,.int .i64 O] 42 (0,0)):=by
  rw[a2];show(B.heap.push _)[B.heap.size]?=_;simp
 have b2:U.heap[w.heap.size]?=_:=(b0.block _ (by rw[a0];simp)).trans b4;have a3:Hid (ab w.heap.size w U):=a9.trans (b0.mono a9.size);have a6:Hid (∀W,ab U.heap.size U W->W.heap[w.heap.size]?=aa (.cells #[.int .i64 xw,.bool Z,.bool xf,.int .i64 D,.int .i64 H,.string xt,.int .i64 I,.int .i64 xb] 42 (0,0))/\W.heap[B.heap.size]?=aa (.cells #[.int .i64 yw,.bool yp,.bool yf,.int .i64 J,.int .i64 K,.string yt,.int .i64 ya,.int .i64 O] 42 (0,0))):=fun W hW=>⟨(hW.block _ (by rw[a2,a0];simp;omega)).trans b2,(hW.block _ (by rw[a2];simp)).trans b1⟩
 obtain⟨c0,c1,c2,c3,c4,c5,c6,c7⟩:=Zm b2;obtain⟨d0,d1,d2,d3,d4,d5,d6,d7⟩:=Zm b1;have a7:Hid (B=w.alloc (.cells #[.int .i64 xw,.bool Z,.bool xf,.int .i64 D,.int .i64 H,.string xt,.int .i64 I,.int .i64 xb] 42)):=a0;have a8:Hid (U=B.alloc (.cells #[.int .i64 yw,.bool yp,.bool yf,.int .i64 J,.int .i64 K,.string yt,.int .i64 ya,.int .i64 O] 42)):=a2;clear a0 a9 b4 a2 b0 b1 b2;by_cases h1:yf=T/\¬I<O
 ·obtain⟨rfl,h1⟩:=h1;cases xf with
  |false =>
   have HE:Hid (JQ ⟨xw,Z,F,(D,H),xt,I,xb⟩ ⟨yw,yp,T,(J,K),yt,ya,O⟩=T):=by show _=_;unfold JQ;simp;omega
   rw[HE.out];clear HE a5 a6;go_enter func20,ntmps20;go_wp2_with (first|rw[<-a7.out]|rw[<-a8.out]|fail)
   go_ret;exact⟨rfl,a3.out⟩
  |true =>
   have HE:Hid (JQ ⟨xw,Z,T,(D,H),xt,I,xb⟩ ⟨yw,yp,T,(J,K),yt,ya,O⟩=(Qd (D,H) (J,K)||(Z&&decide ((D,H)=(J,K))))):=by show _=_;unfold JQ;simp;omega
   rw[HE.out];have b5:=a5.out (D,H) (J,K) U;clear HE a5;generalize Qd (D,H) (J,K)=ls at *;go_enter func20,ntmps20;go_wp2_with (first|rw[<-a7.out]|rw[<-a8.out]|fail)
   refine b5.mono ?_;rintro e w5 ⟨rfl,b3⟩;have a4:Hid (ab w.heap.size w w5):=a3.out.trans (b3.mono a3.out.size);obtain⟨k1,k2⟩:=a6.out w5 b3;clear c0 c1 c2 c3 c4 c5 c6 c7 d0 d1 d2 d3 d4 d5 d6 d7 b5 a6 b3;obtain⟨c0,c1,c2,c3,c4,c5,c6,c7⟩:=Zm k1;obtain⟨d0,d1,d2,d3,d4,d5,d6,d7⟩:=Zm k2;clear k1 k2 c0 c2 c5 c6 c7 d0 d1 d2 d5 d6 d7;cases ls with
   |true =>
    go_wp2;go_ret;exact⟨rfl,a4.out⟩
   |false =>
    cases Z with
    |false =>
     go_wp2;go_ret;exact⟨rfl,a4.out⟩
    |true =>
     by_cases e1:D=J
     ·subst e1;by_cases e2:H=K
      ·subst e2;go_wp2;go_ret;exact⟨by simp,a4.out⟩
      ·go_wp2;go_ret;exact⟨by simp[e2],a4.out⟩
     ·go_wp2;go_ret;exact⟨by simp[e1],a4.out⟩
 ·have HE:Hid (JQ ⟨xw,Z,xf,(D,H),xt,I,xb⟩ ⟨yw,yp,yf,(J,K),yt,ya,O⟩=F):=by
   show _=_;unfold JQ;cases yf with
   |false=>simp
   |true =>
    have:I<O:=by
     by_cases h:I<O
     ·exact h
     ·exact absurd ⟨rfl,h⟩ h1
    simp;omega
  rw[HE.out];clear HE a5 a6;cases yf with
  |false =>
   clear h1;go_enter func20,ntmps20;go_wp2_with (first|rw[<-a7.out]|rw[<-a8.out]|fail)
   go_ret;exact⟨rfl,a3.out⟩
  |true =>
   have h2:I<O:=by
    by_cases h:I<O
    ·exact h
    ·exact absurd ⟨rfl,h⟩ h1
   clear h1;go_enter func20,ntmps20;go_wp2_with (first|rw[<-a7.out]|rw[<-a8.out]|fail)
   go_ret;exact⟨rfl,a3.out⟩
theorem JbM (b a:Ev)(w:World):ae prog 22 #[.agg (oH b).toArray,.agg (oH a).toArray] w fun e w'=>e=.returned (.bool (Y5 b a))/\ab w.heap.size w w':=by
 obtain⟨xw,H,I,⟨J,K⟩,O,xa,xb⟩:=b;obtain⟨yw,U,yf,⟨Z,y2⟩,yt,ya,yb⟩:=a;unfold oH;dsimp only;obtain⟨B,a4⟩:∃B,B=w.alloc (.cells #[.int .i64 xw,.bool H,.bool I,.int .i64 J,.int .i64 K,.string O,.int .i64 xa,.int .i64 xb] 42):=⟨_,rfl⟩;have a6:ab w.heap.size w B:=x8 a4;have b0:B.heap[w.heap.size]?=aa (.cells #[.int .i64 xw,.bool H,.bool I,.int .i64 J,.int .i64 K,.string O,.int .i64 xa,.int .i64 xb] 42 (0,0)):=by
  rw[a4];show(w.heap.push _)[w.heap.size]?=_;simp
 obtain⟨D,a5⟩:∃D,D=B.alloc (.cells #[.int .i64 yw,.bool U,.bool yf,.int .i64 Z,.int .i64 y2,.string yt,.int .i64 ya,.int .i64 yb] 42):=⟨_,rfl⟩;have a7:ab B.heap.size B D:=x8 a5;have a8:D.heap[B.heap.size]?=aa (.cells #[.int .i64 yw,.bool U,.bool yf,.int .i64 Z,.int .i64 y2,.string yt,.int .i64 ya,.int .i64 yb] 42 (0,0)):=by
  rw[a5];show(B.heap.push _)[B.heap.size]?=_;simp
 have a9:D.heap[w.heap.size]?=_:=(a7.block _ (by rw[a4];simp)).trans b0;have a0:Hid (ab w.heap.size w D):=a6.trans (a7.mono a6.size);have b1:Hid (∀W,ab D.heap.size D W->W.heap[w.heap.size]?=aa (.cells #[.int .i64 xw,.bool H,.bool I,.int .i64 J,.int .i64 K,.string O,.int .i64 xa,.int .i64 xb] 42 (0,0))/\W.heap[B.heap.size]?=aa (.cells #[.int .i64 yw,.bool U,.bool yf,.int .i64 Z,.int .i64 y2,.string yt,.int .i64 ya,.int .i64 yb] 42 (0,0))):=fun W hW=>⟨(hW.block _ (by rw[a5,a4];simp;omega)).trans a9,(hW.block _ (by rw[a5];simp)).trans a8⟩
 obtain⟨c0,c1,c2,c3,c4,c5,c6,c7⟩:=Zm a9;obtain⟨d0,d1,d2,d3,d4,d5,d6,d7⟩:=Zm a8;have a2:Hid (B=w.alloc (.cells #[.int .i64 xw,.bool H,.bool I,.int .i64 J,.int .i64 K,.string O,.int .i64 xa,.int .i64 xb] 42)):=a4;have a3:Hid (D=B.alloc (.cells #[.int .i64 yw,.bool U,.bool yf,.int .i64 Z,.int .i64 y2,.string yt,.int .i64 ya,.int .i64 yb] 42)):=a5;clear a4 a6 b0 a5 a7 a8 a9;clear b1 c0 c6 c7 d0 d2 d6 d7;have HR:Hid (Y5 ⟨xw,H,I,(J,K),O,xa,xb⟩ ⟨yw,U,yf,(Z,y2),yt,ya,yb⟩=(!H&&I&&U&&decide ((Z,y2)=(J,K))&&decide (yt≠O))):=rfl;rw[HR.out];clear HR;cases H with
 |true =>
  go_enter func22,ntmps22;go_wp2_with (first|rw[<-a2.out]|rw[<-a3.out]|fail)
  go_ret;exact⟨rfl,a0.out⟩
 |false =>
 cases I with
 |false =>
  go_enter func22,ntmps22;go_wp2_with (first|rw[<-a2.out]|rw[<-a3.out]|fail)
  go_ret;exact⟨rfl,a0.out⟩
 |true =>
 cases U with
 |false =>
  go_enter func22,ntmps22;go_wp2_with (first|rw[<-a2.out]|rw[<-a3.out]|fail)
  go_ret;exact⟨rfl,a0.out⟩
 |true =>
 by_cases e1:Z=J
 ·subst e1;by_cases e2:y2=K
  ·subst e2;by_cases e3:yt=O
   ·subst e3;go_enter func22,ntmps22;go_wp2_with (first|rw[<-a2.out]|rw[<-a3.out]|fail)
    go_ret;exact⟨sB (by simp),a0.out⟩
   ·have e4:=XT e3;go_enter func22,ntmps22;go_wp2_with (first|rw[<-a2.out]|rw[<-a3.out]|fail)
    go_ret;exact⟨sB (by simp[e3,e4]),a0.out⟩
  ·go_enter func22,ntmps22;go_wp2_with (first|rw[<-a2.out]|rw[<-a3.out]|fail)
   go_ret;exact⟨sB (by simp[e2]),a0.out⟩
 ·go_enter func22,ntmps22;go_wp2_with (first|rw[<-a2.out]|rw[<-a3.out]|fail)
  go_ret;exact⟨sB (by simp[e1]),a0.out⟩
theorem JbN (K:Nat)(b a:Ev)(w:World)(U:w.heap[K]?=aa (.cells (oH b).toArray 42 (0,0))):
 ae prog 19 (#[.agg (oH a).toArray]++#[.pointer (aa ⟨K,0,N⟩)]) w fun e w'=>e=.returned (.bool (JQ b a))/\ab w.heap.size w w':=by
 obtain⟨B,D⟩:∃B,B=w.alloc (.cells (oH a).toArray 42):=⟨_,rfl⟩;have O:ab w.heap.size w B:=x8 D;have H:B.heap[w.heap.size]?=aa (.cells (oH a).toArray 42 (0,0)):=by
  rw[D];show(w.heap.push _)[w.heap.size]?=_;simp
 have I:B.heap[K]?=_:=(O.block K (Array.getElem?_eq_some_iff.1 U).1).trans U;have J:=Jb6 b a B;generalize JQ b a=r at *;obtain⟨xw,xp,xf,⟨x1,x2⟩,xt,xa,xb⟩:=b;obtain⟨yw,yp,yf,⟨y1,y2⟩,yt,ya,yb⟩:=a;unfold oH at I H D J;unfold oH;dsimp only at I H D J;dsimp only;obtain⟨c0,c1,c2,c3,c4,c5,c6,c7⟩:=Zm I;obtain⟨d0,d1,d2,d3,d4,d5,d6,d7⟩:=Zm H;have a2:Hid (B=w.alloc (.cells #[.int .i64 yw,.bool yp,.bool yf,.int .i64 y1,.int .i64 y2,.string yt,.int .i64 ya,.int .i64 yb] 42)):=D;have Z:Hid (ab w.heap.size w B):=O;clear D O H U I;go_enter func19,ntmps19;go_wp2_with (first|rw[<-a2.out]|fail)
 refine J.mono ?_;rintro e w2 ⟨rfl,a0⟩;have a3:Hid (ab w.heap.size w w2):=Z.out.trans (a0.mono Z.out.size);clear J a0 c0 c1 c2 c3 c4 c5 c6 c7 d0 d1 d2 d3 d4 d5 d6 d7;go_wp2;go_ret;exact⟨rfl,a3.out⟩
theorem JbO (K:Nat)(b a:Ev)(w:World)(U:w.heap[K]?=aa (.cells (oH b).toArray 42 (0,0))):
 ae prog 21 (#[.agg (oH a).toArray]++#[.pointer (aa ⟨K,0,N⟩)]) w fun e w'=>e=.returned (.bool (Y5 b a))/\ab w.heap.size w w':=by
 obtain⟨B,D⟩:∃B,B=w.alloc (.cells (oH a).toArray 42):=⟨_,rfl⟩;have O:ab w.heap.size w B:=x8 D;have H:B.heap[w.heap.size]?=aa (.cells (oH a).toArray 42 (0,0)):=by
  rw[D];show(w.heap.push _)[w.heap.size]?=_;simp
 have I:B.heap[K]?=_:=(O.block K (Array.getElem?_eq_some_iff.1 U).1).trans U;have J:=JbM b a B;generalize Y5 b a=r at *;obtain⟨xw,xp,xf,⟨x1,x2⟩,xt,xa,xb⟩:=b;obtain⟨yw,yp,yf,⟨y1,y2⟩,yt,ya,yb⟩:=a;unfold oH at I H D J;unfold oH;dsimp only at I H D J;dsimp only;obtain⟨c0,c1,c2,c3,c4,c5,c6,c7⟩:=Zm I;obtain⟨d0,d1,d2,d3,d4,d5,d6,d7⟩:=Zm H;have a2:Hid (B=w.alloc (.cells #[.int .i64 yw,.bool yp,.bool yf,.int .i64 y1,.int .i64 y2,.string yt,.int .i64 ya,.int .i64 yb] 42)):=D;have Z:Hid (ab w.heap.size w B):=O;clear D O H U I;go_enter func21,ntmps21;go_wp2_with (first|rw[<-a2.out]|fail)
 refine J.mono ?_;rintro e w2 ⟨rfl,a0⟩;have a3:Hid (ab w.heap.size w w2):=Z.out.trans (a0.mono Z.out.size);clear J a0 c0 c1 c2 c3 c4 c5 c6 c7 d0 d1 d2 d3 d4 d5 d6 d7;go_wp2;go_ret;exact⟨rfl,a3.out⟩
theorem Jck {p:Option ap}(h:Ql XI w p L)(i:Nat):Ql XI w p (L.take i):=by
 rcases h with h|⟨b,o,D,H,I⟩
 ·exact aE (by rw[h,List.take_nil])
 ·exact ao ⟨b,o,D,H,fun j x B=>I j x (by
   rw[List.getElem?_take]at B;split at B
   ·exact B
   ·cases B)⟩
theorem Ja1 (ad:Nat->ap)(L:List Ev)(p:Option ap)(cap:Nat)(w:World)(hr:Ql XI w p L)(d8:L.length<=cap)(hl:L.length<=1000000)
 (hE:∀W,ab w.heap.size w W->W.cell? ⟨0,0,N⟩=aa (.iface 335 (.pointer (aa (ad 9))))/\W.cell? ⟨1,0,N⟩=aa (.iface 335 (.pointer (aa (ad 4))))):
 ae prog 10 #[.slice p L.length cap] w fun e w'=>(∃ev,e=.returned ev/\Jd w' ad ev (r8 L).1 (r8 L).2)/\ab w.heap.size w w':=by
 have O:Hid (Ql XI w p L):=hr;have J:Hid (∀W,ab w.heap.size w W->W.cell? ⟨0,0,N⟩=aa (.iface 335 (.pointer (aa (ad 9))))/\W.cell? ⟨1,0,N⟩=aa (.iface 335 (.pointer (aa (ad 4))))):=hE;clear hr hE;go_enter func10,ntmps10;go_wp2_with fail
 go_loopw [7] (fun x wr=>∃i:Nat,i<=L.length/\x=.int .i64 i/\(∀j,j<i->r9 L j=F/\H7 L j=F)/\ab w.heap.size w wr) (fun x _=>L.length-(intOf x).toNat)
 case atStart=>exact⟨0,aA _,rfl,fun j hj=>absurd hj (an _),Below.refl _ _⟩
 case round =>
  obtain⟨i,hi,rfl,b8,hB⟩:=hrel;obtain⟨B,rfl⟩:∃B,B=wr:=⟨_,rfl⟩;have K:Hid (∀j,j<i->r9 L j=F/\H7 L j=F):=b8;have HB:Hid (ab w.heap.size w B):=hB;clear b8;by_cases a6:i<L.length
  ·obtain⟨pb,po,d5,d7,b0,b1,b2,b3,b4,b5,b6,b7⟩:=qX (O.out.below hB) a6;subst d5;have d0:(L.take i).length=i:=by rw[ah];omega
   obtain⟨D,H⟩:∃D,D=B.alloc (.cells (oH (Qq L i)).toArray 42):=⟨_,rfl⟩;have d1:ab B.heap.size B D:=x8 H;have a7:D.heap[B.heap.size]?=aa (.cells (oH (Qq L i)).toArray 42 (0,0)):=by
    rw[H];show(B.heap.push _)[B.heap.size]?=_;simp
   have a2:Hid (ab w.heap.size w D):=hB.trans (d1.mono hB.size);have a3:B.heap.size<D.heap.size:=by rw[H];simp
   have d2:Hid (ae prog 18 #[.slice (aa ⟨pb,po,N⟩) i cap,.func (.func 19) #[] #[.pointer (aa ⟨B.heap.size,0,N⟩)]] D fun e w'=>e=.returned (.bool (r9 L i))/\ab D.heap.size D w'):=by
    have h:=JaH (aa ⟨pb,po,N⟩) (L.take i) cap 19 #[.pointer (aa ⟨B.heap.size,0,N⟩)] (JQ (Qq L i)) D (by omega) (Jck (O.out.below a2.out) i) (enters_of func19 (by kernel_rfl) rfl) (fun j _ W U=>JbN B.heap.size (Qq L i) (Qq (L.take i) j) W ((U.block _ a3).trans a7));rw[d0]at h;exact h
   have d3:Hid (∀W,ab D.heap.size D W->ae prog 18 #[.slice (aa ⟨pb,po,N⟩) L.length cap,.func (.func 21) #[] #[.pointer (aa ⟨B.heap.size,0,N⟩)]] W fun e w'=>e=.returned (.bool (H7 L i))/\ab W.heap.size W w'):=fun W U =>
    JaH (aa ⟨pb,po,N⟩) L cap 21 #[.pointer (aa ⟨B.heap.size,0,N⟩)] (Y5 (Qq L i)) W hl ((O.out.below a2.out).below U) (enters_of func21 (by kernel_rfl) rfl) (fun j _ V hV=>JbO B.heap.size (Qq L i) (Qq L j) V ((hV.block _ (ai a3 U.size)).trans ((U.block _ a3).trans a7)))
   have HO:Hid (∀v,r9 L i=v->(v=T->r8 L=(10,(i:Int)))/\(v=F->∀u,H7 L i=u->(u=T->r8 L=(5,(i:Int)))/\(u=F->∀j,j<i+1->r9 L j=F/\H7 L j=F))):=fun v Z=>⟨fun h=>by
    have:=JaO a6 K.out (by rw[Z,h];rfl);rw[Z,h]at this;exact this,fun h u hu=>⟨fun h2=>by
     have:=JaO a6 K.out (by rw[Z,h,hu,h2];rfl);rw[Z,h]at this;exact this,fun h2 j hj=>by
     by_cases e:j=i
     ·rw[e,Z,hu];exact⟨h,h2⟩
     ·exact K.out j (by omega)⟩⟩
   clear d0 d1 a7 a3 K O hB;generalize r9 L i=ov at *;generalize H7 L i=tv at *;generalize Qq L i=x at *;obtain⟨xw,xp,xf,⟨x1,x2⟩,xt,xa,xb⟩:=x;unfold oH at H;dsimp only at b0 b1 b2 b3 b4 b5 b6 b7 H;have d6:Hid (D=B.alloc (.cells #[.int .i64 xw,.bool xp,.bool xf,.int .i64 x1,.int .i64 x2,.string xt,.int .i64 xa,.int .i64 xb] 42)):=H;clear H;go_wp2_with (first|rw[<-d6.out]|fail)
   refine d2.out.mono ?_;rintro e w3 ⟨rfl,a8⟩;have a0:Hid (ab w.heap.size w w3):=a2.out.trans (a8.mono a2.out.size);have a9:=d3.out w3 a8;clear d2 d3 a8 b0 b1 b2 b3 b4 b5 b6 b7;cases ov with
   |true =>
    have I:Hid (r8 L=(10,(i:Int))):=(HO.out T rfl).1 rfl;obtain⟨g1,_⟩:=J.out w3 a0.out;clear HO a9 J;go_wp2;go_ret;rw[I.out];exact⟨⟨_,rfl,ao (ao ⟨9,w3.heap.size,by omega,rfl,rfl,by rw[ag _ _ _ _ rfl];rfl,by rw[ag _ _ _ _ rfl];rfl⟩)⟩,a0.out.alloc a0.out.size _⟩
   |false =>
    have a4:Hid (∀u,tv=u->(u=T->r8 L=(5,(i:Int)))/\(u=F->∀j,j<i+1->r9 L j=F/\H7 L j=F)):=(HO.out F rfl).2 rfl;clear HO;go_wp2_with fail
    refine a9.mono ?_;rintro e w4 ⟨rfl,d4⟩;have a5:Hid (ab w.heap.size w w4):=a0.out.trans (d4.mono a0.out.size);clear a9 d4;cases tv with
    |true =>
     have I:Hid (r8 L=(5,(i:Int))):=(a4.out T rfl).1 rfl;obtain⟨_,g1⟩:=J.out w4 a5.out;clear a4 J;go_wp2;go_ret;rw[I.out];exact⟨⟨_,rfl,ao (ao ⟨4,w4.heap.size,by omega,rfl,rfl,by rw[ag _ _ _ _ rfl];rfl,by rw[ag _ _ _ _ rfl];rfl⟩)⟩,a5.out.alloc a5.out.size _⟩
    |false =>
     have I:Hid (∀j,j<i+1->r9 L j=F/\H7 L j=F):=(a4.out F rfl).2 rfl;clear a4 J;go_wp2;go_roundw
     case rel=>exact⟨i+1,by omega,by go_num,I.out,a5.out⟩
     case measure=>simp[intOf];omega
  ·obtain rfl:i=L.length:=by omega
   have I:Hid (r8 L=(0,-1)):=JaL K.out;clear hB O J K;go_wp2;go_ret;rw[I.out];exact⟨⟨_,rfl,aE ⟨rfl,rfl,rfl⟩⟩,HB.out⟩
section
theorem Yd.jaC {H:Nat->Prop}{w':World}(h:Yd S H w w')(hB:B<=w.heap.size)(I:∀j,S j->B<=j):ab B w w':=⟨h.os,h.tape,h.output,h.size,fun j J=>h.block j (by omega) (fun D=>by have:=I j D;omega)⟩
theorem Jcr (h:∀i,i<l.length->(∀q,q<i->JQ (Qq l i) (Qq l q)=F)/\∀q,q<l.length->Y5 (Qq l i) (Qq l q)=F):r8 l=(0,-1):=JaL fun j B=>by
 obtain⟨D,H⟩:=h j B;refine⟨Jaw fun q I=>?_,Jaw H⟩;rw[ah]at I;have e:Qq (l.take j) q=Qq l q:=by
  unfold Qq;rw[af,af,List.getElem?_take_of_lt (by omega)]
 rw[e];exact D q (by omega)
section
variable {ad:Nat->ap} {X:World->Prop} {Wd:Nat->Nat->World->Nat->Nat->(Nat->Prop)->Ya->Prop}
theorem JcM (K:Jan ad X Wd)(O:∀W:World,w.heap.size<=W.heap.size->(∀j,j<w.heap.size->W.heap[j]?=w.heap[j]?)->Zp W ad/\X W)(U:Wd n k W B h S m)(hB:w.heap.size<=B)(D:ab w.heap.size w W):RC ad X W S:=fun V I J=>O V (ay D.size I) (fun j H=>(J j (ai H D.size) (fun h=>by have:=(K.dH U j h).1;omega)).trans (D.block j H))
theorem JbT (I:Jan ad X Wd)(hX:∀W:World,w.heap.size<=W.heap.size->(∀j,j<w.heap.size->W.heap[j]?=w.heap[j]?)->Zp W ad/\X W)
 (hE:∀W,Zp W ad->X W->W.cell? ⟨0,0,N⟩=aa (.iface 335 (.pointer (aa (ad 9)))))
 (hw:Wd n k W B h S m) (hr:bP n k 0 m) (hB:w.heap.size<=B) (hb:ab w.heap.size w W) (l:List Int) (p:Option ap) (cap:Nat) (hs:JbQ W p l) (hl:l.length<=400) (hc:l.length<=cap) (b4:p=N->cap=0) (b5:∀b o,p=aa ⟨b,o,N⟩->¬S b) (b6:∀x∈l,Zt x):
 ae prog 9 #[.pointer (aa ⟨h,0,N⟩),.slice p l.length cap] W fun e J=>e=.returned (.int .i64 (m.nP (m.nodes.map (·.1.name)) l).2)/\ab w.heap.size w J/\∀H,ab J.heap.size J H ->
  ae prog 11 #[.pointer (aa ⟨h,0,N⟩)] H fun e D=>(∃q c,e=.returned (.slice q (m.nP (m.nodes.map (·.1.name)) l).1.events.length c)/\ab H.heap.size H D /\
   ae prog 10 #[.slice q (m.nP (m.nodes.map (·.1.name)) l).1.events.length c] D fun e W4=>e=.returned .nilIface/\ab D.heap.size D W4):=by
 refine(Jcg I hw hr (JcM I hX hw hB hb) l p cap hs hl hc b4 b5 b6).mono fun e J K=>?_
 obtain⟨e1,S',a2,hU⟩:=K;have Z:ab w.heap.size w J:=hb.trans (hU.jaC hb.size (fun j hj=>by have:=(I.dH hw j hj).1;omega));obtain⟨t,ht,a7⟩:=Jbb (ns:=m.nodes.map (·.1.name)) hr l;have a8:=Jcr (a7.aN (by omega));generalize m.nP (m.nodes.map (·.1.name)) l=r at *;refine⟨e1,Z,fun H a0=>?_⟩;obtain⟨a9,b0⟩:=I.events (I.aS a2 a0.size (fun j hj=>a0.block j (I.dH a2 j hj).2));have a3:ab w.heap.size w H:=Z.trans (a0.mono Z.size);refine b0.mono fun e D K=>?_
 obtain⟨⟨q,c,e2,b1,b2⟩,a4⟩:=K;have a5:ab w.heap.size w D:=a3.trans (a4.mono a3.size);refine⟨q,c,e2,a4,(Ja1 ad r.1.events q c D b2 b1 a9 (fun V hV=>?_)).mono fun e W4 K=>?_⟩
 ·have a6:=a5.trans (hV.mono a5.size);obtain⟨U,O⟩:=hX V a6.size a6.block;exact⟨hE V U O,U.c4⟩
 ·obtain⟨⟨ev,e3,e4⟩,b3⟩:=K;rw[a8]at e4;rcases e4 with⟨U,_⟩|⟨i,_,_,O,_⟩|⟨i,_,_,_,O,_⟩
  ·exact⟨by rw[e3,U],b3⟩
  ·dsimp only at O;omega
  ·dsimp only at O;omega
theorem Jbl:((Ya.new [⟨#[97]⟩] ⟨1,1,[⟨#[97]⟩]⟩).nP ((Ya.new [⟨#[97]⟩] ⟨1,1,[⟨#[97]⟩]⟩).nodes.map (·.1.name)) [7,0,0]).2=3/\((Ya.new [⟨#[97]⟩] ⟨1,1,[⟨#[97]⟩]⟩).nP ((Ya.new [⟨#[97]⟩] ⟨1,1,[⟨#[97]⟩]⟩).nodes.map (·.1.name)) [7,0,0]).1.events.length=1:=by decide +kernel
theorem Jbv:¬0<(Zr [⟨#[97]⟩] 1 1).1:=by decide +kernel
end
end
section
open Ring
section
variable {ad:Nat->ap} {X:World->Prop} {Wd:Nat->Nat->World->Nat->Nat->(Nat->Prop)->Ya->Prop}
theorem Jcb {x:ByteArray}{l:List ByteArray}(B:XC h [x] l)(D:l.length=1):l=[x]:=by
 match l,D with
 | [y],_=>rw[List.mem_singleton.1 (B.mem y (List.mem_cons_self ..))]
theorem JbF (U:Jan ad X Wd)(hE:∀W,Zp W ad->X W->W.cell? ⟨0,0,N⟩=aa (.iface 335 (.pointer (aa (ad 9)))))(w:World)
 (hX:∀W:World,w.heap.size<=W.heap.size->(∀j,j<w.heap.size->W.heap[j]?=w.heap[j]?)->Zp W ad/\X W):
 ae prog 5 #[] w fun e w'=>e=.returned (.bool T)/\ab w.heap.size w w':=by
 obtain⟨H,Z⟩:∃H,H=w.alloc (.cells #[.string ⟨#[97]⟩] 9):=⟨_,rfl⟩;have J:ab w.heap.size w H:=x8 Z;have a5:H.heap[w.heap.size]?=aa (.cells #[.string ⟨#[97]⟩] 9 (0,0)):=by
  rw[Z];show(w.heap.push _)[w.heap.size]?=_;simp
 have a6:Xi H (aa ⟨w.heap.size,0,N⟩) [⟨#[97]⟩]:=ao ⟨w.heap.size,0,rfl,by rw[Z];simp,fun i K=>by
  have K:i<1:=K;obtain rfl:i=0:=by omega
  exact(Xa a5 0).1⟩
 have a7:ae prog 7 #[.slice (aa ⟨w.heap.size,0,N⟩) 1 1,.int .i64 1,.int .i64 1] H fun e B=>∃h,e=.returned (.tuple #[.pointer (aa ⟨h,0,N⟩),.nilIface]) /\
  ae prog 9 #[.pointer (aa ⟨h,0,N⟩),.slice (aa ⟨B.heap.size,0,N⟩) 3 3] (B.alloc (.cells #[.int .i64 7,.int .i64 0,.int .i64 0] 3)) fun e I=>e=.returned (.int .i64 3) /\
   ae prog 11 #[.pointer (aa ⟨h,0,N⟩)] I fun e O=>∃q c,e=.returned (.slice q 1 c) /\
    ae prog 10 #[.slice q 1 c] O fun e w5=>e=.returned .nilIface /\
     ae prog 11 #[.pointer (aa ⟨h,0,N⟩)] w5 fun e w6=>(∃q c,e=.returned (.slice q 1 c))/\Hid (ab w.heap.size w w6):=by
  obtain⟨b7,b8⟩:=hX H J.size J.block;refine(U.new [⟨#[97]⟩] 1 1 (aa ⟨w.heap.size,0,N⟩) 1 H a6 (by decide) (fun h=>by cases h) (by decide) (by decide) ⟨by decide,by decide⟩ ⟨by decide,by decide⟩ b7 b8).mono fun e B D=>?_
  obtain⟨D,d0⟩:=D;rcases D with⟨h1,_⟩|⟨_,h,S,c,e1,e2,e3,e4,e5,a2⟩
  ·exact absurd h1 Jbv
  have hc:c=⟨1,1,[⟨#[97]⟩]⟩:=by
   obtain⟨cn,ck,cl⟩:=c;obtain rfl:cn=1:=e3;obtain rfl:ck=1:=e4;obtain rfl:=Jcb e2 e5.len;rfl
  subst hc;obtain⟨h1,h2⟩:=Jbl;have a8:ab w.heap.size w B:=J.trans (d0.mono J.size);obtain⟨I,a0⟩:∃I,I=B.alloc (.cells #[.int .i64 7,.int .i64 0,.int .i64 0] 3):=⟨_,rfl⟩;have a3:ab B.heap.size B I:=x8 a0;have d1:I.heap[B.heap.size]?=aa (.cells #[.int .i64 7,.int .i64 0,.int .i64 0] 3 (0,0)):=by
   rw[a0];show(B.heap.push _)[B.heap.size]?=_;simp
  have d2:JbQ I (aa ⟨B.heap.size,0,N⟩) [7,0,0]:=ao ⟨B.heap.size,0,rfl,by rw[a0];simp,fun i K=>by
   have K:i<3:=K;rw[Nat.zero_add,(Xa d1 i).1]
   match i,K with
   |0,_=>rfl
   |1,_=>rfl
   |2,_=>rfl⟩
  rw[<-a0];refine⟨h,e1,(JbT U hX hE (U.aS a2 a3.size (fun j hj=>a3.block j (U.dH a2 j hj).2)) (bP.new [⟨#[97]⟩] ⟨1,1,[⟨#[97]⟩]⟩ e5) J.size (a8.trans (a3.mono a8.size)) [7,0,0] (aa ⟨B.heap.size,0,N⟩) 3 d2 (by decide) (by decide) (fun h=>by cases h) (fun b o hp hS=>by
   have:=(U.dH a2 b hS).2;injection hp with hp
   injection hp with hp
   omega) (fun x hx=>by
   have h:x=7∨x=0:=by simpa using hx
   rcases h with rfl|rfl<;>exact⟨by decide,by decide⟩)).mono fun e O D=>?_⟩
  obtain⟨e6,a9,a4⟩:=D;rw[h1]at e6;rw[h2]at a4;refine⟨e6,(a4 O (Below.refl _ _)).mono fun e w5 D=>?_⟩;obtain⟨q,c,e7,b0,d3⟩:=D;refine⟨q,c,e7,d3.mono fun e w6 D=>⟨D.1,?_⟩⟩;have b1:ab O.heap.size O w6:=b0.trans (D.2.mono b0.size);refine(a4 w6 b1).mono fun e w7 D=>?_
  obtain⟨q,c,e8,d4,_⟩:=D;have b2:=a9.trans (b1.mono a9.size);exact⟨⟨q,c,e8⟩,b2.trans (d4.mono b2.size)⟩
 have d5:Hid (H=w.alloc (.cells #[.string ⟨#[97]⟩] 9)):=Z;clear Z J a5 a6 hX hE U;go_enter func5,ntmps5;go_wp2_with (first|rw[<-d5.out]|fail)
 refine a7.mono ?_;rintro e B ⟨h,rfl,b3⟩;clear a7;go_wp2_with fail
 refine b3.mono ?_;rintro e I ⟨rfl,b4⟩;clear b3;go_wp2_with fail
 refine b4.mono ?_;rintro e O ⟨q,c,rfl,b5⟩;clear b4;go_wp2_with fail
 refine b5.mono ?_;rintro e w5 ⟨rfl,b6⟩;clear b5;go_wp2_with fail
 refine b6.mono ?_;rintro e w6 ⟨⟨q2,c2,rfl⟩,HB⟩;clear b6;go_wp2;go_ret;exact⟨rfl,HB.out⟩
end
end
section
open Go.Extern.Stop Go.Stop Go.Extern
theorem Jbp (ad:Nat->ap)(ev:aM)(c at_:Int)(w:World)(hS:O0 w ad)(he:Jd w ad ev c at_):
 ae prog 12 #[ev,.agg #[.int .i64 c,.int .i64 at_]] w fun e w'=>e=.returned (.bool T)/\ab w.heap.size w w':=by
 obtain⟨B,D⟩:∃B,B=w.alloc (.cells #[.int .i64 c,.int .i64 at_] 45):=⟨_,rfl⟩;have J:ab w.heap.size w B:=x8 D;have H:B.cell? ⟨w.heap.size,0,N⟩=aa (.int .i64 c):=XX D rfl;have I:B.cell? ⟨w.heap.size,1,N⟩=aa (.int .i64 at_):=XX D rfl;have HC:=Jcv ad ev c at_ B (hS.below J) (he.below J);have a0:Hid (B=w.alloc (.cells #[.int .i64 c,.int .i64 at_] 45)):=D;have O:Hid (ab w.heap.size w B):=J;have HQ:Hid (B.cell? ⟨w.heap.size,0,N⟩=aa (.int .i64 c)/\B.cell? ⟨w.heap.size,1,N⟩=aa (.int .i64 at_)/\w.heap.size<B.heap.size):=⟨H,I,by rw[D];simp⟩;have HZ:Hid (c=0∨c≠0):=by
  show c=0∨c≠0;omega
 clear D J H I hS he;go_enter func12,ntmps12;go_wp2_with fail
 rw[<-a0.out];refine HC.mono ?_;rintro e w1 ⟨rfl,K⟩;obtain⟨H,I,U⟩:=HQ.out;have r1:=(K.cell (p:=⟨w.heap.size,0,N⟩) U).trans H;have r2:=(K.cell (p:=⟨w.heap.size,1,N⟩) U).trans I;have a2:Hid (ab w.heap.size w w1):=O.out.trans (K.mono O.out.size);clear HC K H I HQ O U a0;rcases HZ.out with Z|Z
 ·subst Z;go_wp2;go_ret;exact⟨rfl,a2.out⟩
 ·have a3:(c==0)=false:=by
   rw[beq_eq_false_iff_ne];exact Z
  go_wp2;go_ret;exact⟨rfl,a2.out⟩
end
theorem O0.dI {V:World}(h:O0 W ad)(B:∀k,k<W.heap.size->V.heap[k]?=W.heap[k]?):O0 V ad where
 c0:=(ac (w:=W) (w':=V) (B _ (Qf h.c0))).trans h.c0
 c1:=(ac (w:=W) (w':=V) (B _ (Qf h.c1))).trans h.c1
 c2:=(ac (w:=W) (w':=V) (B _ (Qf h.c2))).trans h.c2
 c3:=(ac (w:=W) (w':=V) (B _ (Qf h.c3))).trans h.c3
 c4:=(ac (w:=W) (w':=V) (B _ (Qf h.c4))).trans h.c4
 c5:=(ac (w:=W) (w':=V) (B _ (Qf h.c5))).trans h.c5
 c6:=(ac (w:=W) (w':=V) (B _ (Qf h.c6))).trans h.c6
 c7:=(ac (w:=W) (w':=V) (B _ (Qf h.c7))).trans h.c7
 c8:=(ac (w:=W) (w':=V) (B _ (Qf h.c8))).trans h.c8
 c9:=(ac (w:=W) (w':=V) (B _ (Qf h.c9))).trans h.c9
 wS:=(ac (w:=W) (w':=V) (B _ (Qf h.wS))).trans h.wS
 c11:=(ac (w:=W) (w':=V) (B _ (Qf h.c11))).trans h.c11
 typ:=(ac (w:=W) (w':=V) (B _ (Qf h.typ))).trans h.typ
 row:=fun i H=>by
  obtain⟨c,t,D⟩:=h.row i H;exact⟨c,t,(B _ (Jbd D)).trans D⟩
 ne:=h.ne
end Go.Proofs.YtfgapcknnoeplaaGreatDoor

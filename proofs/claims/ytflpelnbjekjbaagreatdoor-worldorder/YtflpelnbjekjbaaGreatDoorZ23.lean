/- Texts laid together. -/
import Derived.Test.YtflpelnbjekjbaaGreatDoorZ22
set_option maxRecDepth 10000
set_option maxHeartbeats 4000000
open Option renaming none->aa,some->ab
open List renaming getD_eq_getElem?_getD->ac,getElem?_eq_getElem->ag,range->ah,replicate->ai,length_append->an,getElem?_replicate->ap,getElem?_append_right->au,getElem?_append_left->av,filter_cons_of_pos->ay,filter_cons_of_neg->az,map_append->za,take_add_one->aP,getElem?_map->ze,append_assoc->aR,take_length->zf,length_take->zg,getElem_mem->zh,length_map->zi,filter_nil->aY,append_nil->zj
open Bool renaming false->ae,true->al
open Go.RowKit renaming Below->af
open Nat renaming not_lt_zero->aj,le_trans->am,lt_of_lt_of_le->ao,le_refl->aw,zero_le->zb,lt_or_ge->aN,lt_trans->be
open Go renaming Calls->ak,bodyPost_ret->ar,Addr->aA,results->ba,Value->bz
open Go.World renaming cell?_of_block->aq,cell?_alloc_at->aI,setCell->zd
open Or renaming inl->ax,inr->aD
namespace Go.Proofs.YtflpelnbjekjbaaGreatDoor
open Go.Proofs.Tryz
open Go.RowKit
variable {a:Za}{b i B' hb n k:Nat}{l:List (Je×Bool)}{s:BA}{S:Nat->Prop}{x:Je}{W H:World}
section
open Ring
theorem T3:∀args W,(callFunc 52 args).run prog W=.ok (.enter 52 args) W:=enters_of func52 (by kernel_rfl) rfl
theorem FN (ad:Nat->aA)(p:Option aA)(l:List BA)(cap:Nat)(n k:Int)(w:World)(hl:l.length<=1000)(hc:l.length<=cap)(hx:∀x∈l,x.size<=1000)(hn:Zt n)(hk:Zt k)(hs:Strs w p l)(hE:iZ ad w):
 ak prog 25 #[.slice p l.length cap,.int .i64 n,.int .i64 k] w (j3 ad w l n k):=by
 obtain⟨H,b5⟩:=Xb (w.alloc (.cells #[.int .i64 0,.int .i64 0,.slice aa 0 0] 58));have a3:=Zk b5;have e8:=JH b5;have f9:=fQ b5;have d6:∀W,af w.heap.size w W->i7 W ad:=fun W J=>⟨(hE.q.below J).c1,(hE.q.below J).c3,(hE.q.below J).c5,(J.cell (Yl hE.bO)).trans hE.bO⟩
 have b2:=(FU ad).check p l cap H hl hc hx (hs.below a3) (d6 H a3);have b3:Hid _:=b5;have f5:Hid _:=a3;have HK:Hid (∀W,af H.heap.size H W->W.heap[w.heap.size]?=ab (.cells #[.int .i64 0,.int .i64 0,.slice aa 0 0] 58 (0,0))):=fun W J=>(J.block _ f9).trans e8
 have b6:Hid (∀W t v c at_,af H.heap.size H W->Jd W ad (.iface t v) c at_->0<c->Zr l n k=(c,at_)->∀D,D=Y0 W w.heap.size (.int .i64 0) (.int .i64 0) (.slice aa 0 0)->(D.cell? (pA w.heap.size 0)=ab (.int .i64 0)/\D.cell? (pA w.heap.size 1)=ab (.int .i64 0)/\D.cell? (pA w.heap.size 2)=ab (.slice aa 0 0))/\j3 ad w l n k (.returned (.tuple #[.agg #[.int .i64 0,.int .i64 0,.slice aa 0 0],.iface t v])) D):=fun W t v c at_ J K i2 h6 D b7=>by
  obtain⟨g1,g2,g3⟩:=DS (a3.trans (J.mono a3.size)) (HK.out W J) K _ _ _ b7;exact⟨g1,ax ⟨by rw[h6];exact i2,_,rfl,by rw[h6];exact g2⟩,g3⟩
 by_cases hN:0<(Xj l).1
 ·have a7:Hid (Zr l n k=((Xj l).1,(Xj l).2)):=by show _=_;unfold Zr;rw[if_pos hN]
  have HN:Hid _:=hN;generalize j3 ad w l n k=G at *;clear a3 e8 f9 b5 d6 hE hs hx hc hl hn hk;go_enter func25,ntmps25;go_wp2_with (rw[<-b3.out])
  refine b2.mono ?_;rintro e w2 ⟨⟨ev,rfl,K⟩,a4⟩;obtain⟨t,v,rfl⟩:=K.some HN.out;have I:Hid _:=HK.out w2 a4;have f0:=(Xa I.out 0).2;have f1:=(Xa I.out 1).2;have f2:=(Xa I.out 2).2;have a0:=(Xa I.out 0).1;have a1:=(Xa I.out 1).1;have a2:=(Xa I.out 2).1;obtain⟨D,b7⟩:=Xb (Y0 w2 w.heap.size (.int .i64 0) (.int .i64 0) (.slice aa 0 0));obtain⟨⟨d0,d1,d2⟩,hG⟩:=b6.out w2 t v _ _ a4 K HN.out a7.out D b7;have HG:Hid _:=hG;have i3:Hid (D=((w2.setCell (pA w.heap.size 0) (.int .i64 0)).setCell (pA w.heap.size 1) (.int .i64 0)).setCell (pA w.heap.size 2) (.slice aa 0 0)):=b7;clear hG b7 K a4 b2 b6 HK I HN a7 f5 b3;generalize w.heap.size=b at *;go_wp2;rw[<-i3.out];refine ar (v:=.tuple #[.agg #[.int .i64 0,.int .i64 0,.slice aa 0 0],.iface t v]) (by simp[ba,results25,go_sem,d0,d1,d2]) rfl HG.out
 ·have g5:Xj l=(0,-1):=(QV (by omega)).1;have d4:Hid (∀W,af H.heap.size H W->ak prog 51 #[.slice p l.length cap,.func (.func 52) #[] #[]] W fun e w'=>(∃r:Int,e=.returned (.int .i64 r)/\((∃i:Nat,i<l.length/\r=(i:Int)/\Yz (Yc l i)=al/\∀j,j<i->Yz (Yc l j)=ae)∨r=-1/\∀j,j<l.length->Yz (Yc l j)=ae))/\Hid (af H.heap.size H w')):=fun W J=>by
   have e9:af w.heap.size w W:=a3.trans (J.mono a3.size);refine(JoZ p l cap 52 #[] Yz W (by omega) (hs.below e9) T3 (fun i hi V hV=>?_)).mono fun e w' hq=>⟨hq.1,J.trans (hq.2.mono J.size)⟩
   have i4:af w.heap.size w V:=e9.trans (hV.mono e9.size);exact RX (Yc l i) V (TabIs.dJ hE.x.2 (fun k hk=>i4.block k hk))
  by_cases hT:iJ l<l.length
  ·have a7:Hid (Zr l n k=(((5+1:Nat):Int),(iJ l:Int))):=by show _=_;unfold Zr;rw[if_neg hN,if_pos hT];rfl
   have b8:Hid (∀r:Int,((∃i:Nat,i<l.length/\r=(i:Int)/\Yz (Yc l i)=al/\∀j,j<i->Yz (Yc l j)=ae)∨r=-1/\∀j,j<l.length->Yz (Yc l j)=ae)->r=(iJ l:Int)):=fun r hr=>by
    rcases hr with⟨i,Z,h2,h3,h4⟩|⟨_,h2⟩
    ·rw[CY Z h3 h4];exact h2
    ·exact absurd hT (L5 h2)
   have h7:Hid (∀W,af H.heap.size H W->W.cell? ⟨5,0,aa⟩=ab (.iface 301 (.pointer (ab (ad 5))))):=fun W J=>(hE.q.below (a3.trans (J.mono a3.size))).c5
   have HN:Hid (∀(ev:bz) W,Jd W ad ev (Xj l).1 (Xj l).2->ev=.nilIface):=fun ev W K=>K.none (by omega)
   have i5:Hid (∀W,af H.heap.size H W->5≠w.heap.size):=fun W J=>by have:=Yl hE.q.c5;omega
   generalize j3 ad w l n k=G at *;clear a3 e8 f9 b5 d6 hE hs hx hc hl hn hk g5 hN;go_enter func25,ntmps25;go_wp2_with (rw[<-b3.out])
   refine b2.mono ?_;rintro e w2 ⟨⟨ev,rfl,K⟩,a4⟩;obtain rfl:=HN.out ev w2 K;have a9:=d4.out w2 a4;clear K a4 d4 HN b2;go_wp2_with fail
   refine a9.mono ?_;rintro e D ⟨⟨r,rfl,hr⟩,a5⟩;have HR:Hid (r=(iJ l:Int)):=b8.out r hr;obtain⟨j,hj⟩:∃j:Nat,j=iJ l:=⟨_,rfl⟩;have HJ:Hid (j=iJ l):=hj;obtain rfl:r=(j:Int):=by rw[hj];exact HR.out
   have z0:(0:Int)<=(j:Int):=by omega
   have c5:=h7.out D a5.out;have I:Hid (D.heap[w.heap.size]?=ab (.cells #[.int .i64 0,.int .i64 0,.slice aa 0 0] 58 (0,0))):=HK.out D a5.out;have f0:=(Xa I.out 0).2;have f1:=(Xa I.out 1).2;have f2:=(Xa I.out 2).2;have a0:D.cell? (pA w.heap.size 0)=ab (.int .i64 0):=(Xa I.out 0).1;have a1:D.cell? (pA w.heap.size 1)=ab (.int .i64 0):=(Xa I.out 1).1;have a2:D.cell? (pA w.heap.size 2)=ab (.slice aa 0 0):=(Xa I.out 2).1;obtain⟨ob,g9⟩:∃ob:Obj,ob=.cells #[.int .i64 (j:Int),.iface 301 (.pointer (ab (ad 5)))] 100:=⟨_,rfl⟩;have h8:af D.heap.size D (D.alloc ob):=bR.alloc nR _;have h0:af H.heap.size H (D.alloc ob):=a5.out.trans (h8.mono a5.out.size);have d7:Hid ((D.alloc ob).heap[w.heap.size]?=ab (.cells #[.int .i64 0,.int .i64 0,.slice aa 0 0] 58 (0,0))):=HK.out _ h0;have d0:(D.alloc ob).cell? (pA w.heap.size 0)=ab (.int .i64 0):=(Xa d7.out 0).1;have d1:(D.alloc ob).cell? (pA w.heap.size 1)=ab (.int .i64 0):=(Xa d7.out 1).1;have d2:(D.alloc ob).cell? (pA w.heap.size 2)=ab (.slice aa 0 0):=(Xa d7.out 2).1;have g0:=(Xa d7.out 0).2;have g1:=(Xa d7.out 1).2;have g2:=(Xa d7.out 2).2;have s0:=Yo a0;have s1:=Yo a1;have s2:=Yo a2;have t0:=Yo d0;have t1:=Yo d1;have t2:=Yo d2;have K:Jd (D.alloc ob).drew ad (.iface 98 (.pointer (ab (pA D.heap.size 0)))) ((5+1:Nat):Int) (iJ l:Int):=by
    rw[<-hj];exact(zP 5 (by decide) (j:Int) (by rw[g9])).below bR.drew
   have u0:=Yo (w:=(D.alloc ob).drew) d0;have u1:=Yo (w:=(D.alloc ob).drew) d1;have u2:=Yo (w:=(D.alloc ob).drew) d2;have HG:Hid (G (.returned (.tuple #[.agg #[.int .i64 0,.int .i64 0,.slice aa 0 0],.iface 98 (.pointer (ab (pA D.heap.size 0)))])) (D.alloc ob).drew):=(b6.out (D.alloc ob).drew _ _ _ _ h0.drew K (by decide) a7.out _ (by unfold Y0;rw[u0,u1,u2])).2;clear u0 u1 u2 K h8 h0 HR hj hr b8 h7 a9 HK I d7 f5 b3 b6 HJ a7 i5;rw[g9]at d0 d1 d2 g0 g1 g2 t0 t1 t2 HG;clear g9;obtain⟨O,f3⟩:=Xb ((D.alloc (.cells #[.int .i64 (j:Int),.iface 301 (.pointer (ab (ad 5)))] 100)).drew);have r0:O.cell? (pA w.heap.size 0)=ab (.int .i64 0):=by rw[f3];exact d0
   have r1:O.cell? (pA w.heap.size 1)=ab (.int .i64 0):=by rw[f3];exact d1
   have r2:O.cell? (pA w.heap.size 2)=ab (.slice aa 0 0):=by rw[f3];exact d2
   rw[<-f3]at HG;have i8:Hid (O=(D.alloc (.cells #[.int .i64 (j:Int),.iface 301 (.pointer (ab (ad 5)))] 100)).drew):=f3;clear f3;generalize w.heap.size=b at *;go_wp2;go_region
   all_goals rw[<-i8.out]
   all_goals go_wp2
   all_goals refine ar (v:=.tuple #[.agg #[.int .i64 0,.int .i64 0,.slice aa 0 0],.iface 98 (.pointer (ab (pA D.heap.size 0)))]) (by simp[ba,results25,go_sem,r0,r1,r2]) rfl HG.out
  ·have b8:Hid (∀r:Int,((∃i:Nat,i<l.length/\r=(i:Int)/\Yz (Yc l i)=al/\∀j,j<i->Yz (Yc l j)=ae) ∨ r= -1/\∀j,j<l.length->Yz (Yc l j)=ae)->r= -1):=fun r hr=>by
    rcases hr with⟨i,Z,h2,h3,h4⟩|⟨Z,h2⟩
    ·exact absurd (by rw[CY Z h3 h4];exact Z) hT
    ·exact Z
   have HN:Hid (∀(ev:bz) W,Jd W ad ev (Xj l).1 (Xj l).2->ev=.nilIface):=fun ev W K=>K.none (by omega)
   have f6:Hid (∀W,af H.heap.size H W->ak prog 53 #[.slice p l.length cap,.string ⟨#[120]⟩,.int .i64 n] W fun e w'=>I9 w' ad W.heap.size l (Xy ⟨#[120]⟩) n e/\Hid (af H.heap.size H w')):=fun W J=>by
    have e9:af w.heap.size w W:=a3.trans (J.mono a3.size);exact((FU ad).jD p l cap ⟨#[120]⟩ n W hl hc hx (by decide) (hs.below e9) (d6 W e9)).mono fun e w' hq=>⟨hq.1,J.trans (hq.2.mono J.size)⟩
   by_cases hP:0<(Jm l n).1
   ·have a7:Hid (Zr l n k=((Jm l n).1,(Jm l n).2)):=by show _=_;unfold Zr;rw[if_neg hN,if_neg hT,if_pos hP]
    have HP:Hid (0<(Jm l n).1):=hP;have d8:Hid (∀W,af H.heap.size H W->ak prog 53 #[.slice p l.length cap,.string ⟨#[120]⟩,.int .i64 n] W fun e w'=>(∃q c t v,e=.returned (.tuple #[.slice q 0 c,.iface t v])/\Jd w' ad (.iface t v) (Jm l n).1 (Jm l n).2)/\Hid (af H.heap.size H w')):=fun W J=>(f6.out W J).mono fun e w' hq=>by
     refine⟨?_,hq.2⟩;rcases hq.1 with⟨_,q,c,ev,Z,h2⟩|⟨Z,_⟩
     ·obtain⟨t,v,rfl⟩:=h2.some hP;exact⟨q,c,t,v,Z,h2⟩
     ·exact absurd hP Z
    generalize j3 ad w l n k=G at *;clear a3 e8 f9 b5 d6 hE hs hx hc hl hn hk g5 hN f6 hT hP;go_enter func25,ntmps25;go_wp2_with (rw[<-b3.out])
    refine b2.mono ?_;rintro e w2 ⟨⟨ev,rfl,K⟩,a4⟩;obtain rfl:=HN.out ev w2 K;have a9:=d4.out w2 a4;clear K a4 d4 HN b2;go_wp2_with fail
    refine a9.mono ?_;rintro e D ⟨⟨r,rfl,hr⟩,a5⟩;obtain rfl:=b8.out r hr;have d5:=d8.out D a5.out;clear hr b8 a9 d8;go_wp2_with fail
    refine d5.mono ?_;rintro e O ⟨⟨q,c,t,v,rfl,K⟩,b0⟩;have I:Hid (O.heap[w.heap.size]?=ab (.cells #[.int .i64 0,.int .i64 0,.slice aa 0 0] 58 (0,0))):=HK.out O b0.out;have f0:=(Xa I.out 0).2;have f1:=(Xa I.out 1).2;have f2:=(Xa I.out 2).2;have a0:O.cell? (pA w.heap.size 0)=ab (.int .i64 0):=(Xa I.out 0).1;have a1:O.cell? (pA w.heap.size 1)=ab (.int .i64 0):=(Xa I.out 1).1;have a2:O.cell? (pA w.heap.size 2)=ab (.slice aa 0 0):=(Xa I.out 2).1;obtain⟨U,a6⟩:=Xb (Y0 O w.heap.size (.int .i64 0) (.int .i64 0) (.slice aa 0 0));obtain⟨⟨d0,d1,d2⟩,hG⟩:=b6.out O t v _ _ b0.out K HP.out a7.out U a6;have HG:Hid (G (.returned (.tuple #[.agg #[.int .i64 0,.int .i64 0,.slice aa 0 0],.iface t v])) U):=hG;have d9:Hid (U=((O.setCell (pA w.heap.size 0) (.int .i64 0)).setCell (pA w.heap.size 1) (.int .i64 0)).setCell (pA w.heap.size 2) (.slice aa 0 0)):=a6;clear hG a6 K d5 b6 HK I HP a7 f5 b3 a5 b0;generalize w.heap.size=b at *;go_wp2;rw[<-d9.out];refine ar (v:=.tuple #[.agg #[.int .i64 0,.int .i64 0,.slice aa 0 0],.iface t v]) (by simp[ba,results25,go_sem,d0,d1,d2]) rfl HG.out
   ·have d8:Hid (∀W,af H.heap.size H W->ak prog 53 #[.slice p l.length cap,.string ⟨#[120]⟩,.int .i64 n] W fun e w'=>(∃q c B,e=.returned (.tuple #[.slice q B.length c,.nilIface])/\Hid (XC (Xy wX) l B/\(B.length:Int)=n/\Yn w' ⟨n,k,B⟩ q c/\∀b o,q=ab (pA b o)->W.heap.size<=b/\b<w'.heap.size))/\Hid (af H.heap.size H w')):=fun W J=>(f6.out W J).mono fun e w' hq=>by
     refine⟨?_,hq.2⟩;rcases hq.1 with⟨Z,_⟩|⟨_,v,B,Z,h2,h3,h4⟩
     ·exact absurd Z hP
     ·obtain⟨q,c,rfl,g1,g2,g3,g4⟩:=h2.form;obtain⟨r1,r2,r3,_⟩:=sK hP;exact⟨q,c,B,Z,h4,h3,⟨g1,g2,fun e=>⟨(by rcases g1 with h|⟨b,o,hq,_⟩;exact h;rw[e]at hq;cases hq),g3 e⟩,by show B.length<=1000;omega,fun x i9=>hx x (h4.mem x i9),⟨hn,hk⟩⟩,g4⟩
    have g6:Hid (∀W (q:Option aA) (c:Nat) (B:List BA),af H.heap.size H W->Yn W ⟨n,k,B⟩ q c->ak prog 54 #[.agg #[.int .i64 n,.int .i64 k,.slice q B.length c]] W fun e w'=>(∃ev,e=.returned ev/\Jd w' ad ev (Jg ⟨n,k,B⟩).1 (Jg ⟨n,k,B⟩).2)/\Hid (af H.heap.size H w'/\af W.heap.size W w')):=fun W q c B J hC=>(qU ad ⟨n,k,B⟩ q c W hC (hE.q.below (a3.trans (J.mono a3.size)))).mono fun e w' hq=>⟨hq.1,J.trans (hq.2.mono J.size),hq.2⟩
    by_cases hC:1<=k/\k<=n/\n<=12
    ·have a7:Hid (Zr l n k=(0,-1)):=by show _=_;unfold Zr;rw[if_neg hN,if_neg hT,if_neg hP,if_pos hC]
     have f4:Hid (∀B,XC (Xy wX) l B->(B.length:Int)=n->Jg ⟨n,k,B⟩=(0,-1)):=fun B Z h2=>by rw[FR Z hP h2,if_pos hC]
     have h9:Hid (∀W (q:Option aA) (c:Nat) (B:List BA),af H.heap.size H W->XC (Xy wX) l B->(B.length:Int)=n->Yn W ⟨n,k,B⟩ q c->(∀b o,q=ab (pA b o)->H.heap.size<=b/\b<W.heap.size)->∀D,D=Y0 W w.heap.size (.int .i64 n) (.int .i64 k) (.slice q B.length c)->(D.cell? (pA w.heap.size 0)=ab (.int .i64 n)/\D.cell? (pA w.heap.size 1)=ab (.int .i64 k)/\D.cell? (pA w.heap.size 2)=ab (.slice q B.length c))/\j3 ad w l n k (.returned (.tuple #[.agg #[.int .i64 n,.int .i64 k,.slice q B.length c],.nilIface])) D):=fun W q c B J Z h2 h3 h4 D b7=>by
      obtain⟨g1,_,g3⟩:=DS (a3.trans (J.mono a3.size)) (HK.out W J) (Jd.nil W ad) _ _ _ b7;have j1:D.heap.size=W.heap.size:=by rw[b7];unfold Y0;simp[zd]
      refine⟨g1,aD ⟨by rw[a7.out];decide,⟨⟨n,k,B⟩,q,c⟩,rfl,rfl,rfl,Z,by rw[f4.out B Z h2];decide,⟨h3.strs.same (by omega) (fun b o e=>?_),h3.room,h3.empty,h3.len,h3.size,h3.ints⟩,fun b o e=>?_⟩,g3⟩
      ·rw[b7];exact sM _ _ _ _ _ (by have:=(h4 b o e).1;omega)
      ·have:=h4 b o e;omega
     generalize j3 ad w l n k=G at *;clear e8 b5 d6 hE hs hx hc hl hn hk g5 hN f6 hT hP b6 hC;go_enter func25,ntmps25;go_wp2_with (rw[<-b3.out])
     refine b2.mono ?_;rintro e w2 ⟨⟨ev,rfl,K⟩,a4⟩;obtain rfl:=HN.out ev w2 K;have a9:=d4.out w2 a4;clear K a4 d4 HN b2;go_wp2_with fail
     refine a9.mono ?_;rintro e D ⟨⟨r,rfl,hr⟩,a5⟩;obtain rfl:=b8.out r hr;have d5:=d8.out D a5.out;have f7:=a5.out.size;clear hr b8 a9 d8;go_wp2_with fail
     refine d5.mono ?_;rintro e O ⟨⟨q,c,B,rfl,HO⟩,b0⟩;obtain⟨e0,e1,e2,e3⟩:=HO.out;obtain⟨U,a6⟩:=Xb (O.alloc (.cells #[.int .i64 n,.int .i64 k,.slice q B.length c] 58));have c8:=Zk a6;have b1:=JH a6;have e4:=fQ a6;have f8:af H.heap.size H U:=b0.out.trans (c8.mono b0.out.size);have e5:=g6.out U q c B f8 (e2.below c8);have k0:U.cell? (pA O.heap.size 0)=ab (.int .i64 n):=(Xa b1 0).1;have k1:U.cell? (pA O.heap.size 1)=ab (.int .i64 k):=(Xa b1 1).1;have k2:U.cell? (pA O.heap.size 2)=ab (.slice q B.length c):=(Xa b1 2).1;rw[f4.out B e0 e1]at e5;have g7:Hid (∀W,af U.heap.size U W->W.heap[O.heap.size]?=ab (.cells #[.int .i64 n,.int .i64 k,.slice q B.length c] 58 (0,0))/\Yn W ⟨n,k,B⟩ q c):=fun W J=>⟨(J.block _ e4).trans b1,(e2.below c8).below J⟩
     have e6:Hid (XC (Xy wX) l B/\(B.length:Int)=n/\(∀b o,q=ab (pA b o)->H.heap.size<=b/\b<U.heap.size)):=⟨e0,e1,fun b o e=>⟨am f7 (e3 b o e).1,be (e3 b o e).2 e4⟩⟩;have d9:Hid (U=O.alloc (.cells #[.int .i64 n,.int .i64 k,.slice q B.length c] 58)):=a6;have i0:Hid (∀W,af H.heap.size H W->af U.heap.size U W->Yn W ⟨n,k,B⟩ q c->∀D,D=Y0 W w.heap.size (.int .i64 n) (.int .i64 k) (.slice q B.length c)->(D.cell? (pA w.heap.size 0)=ab (.int .i64 n)/\D.cell? (pA w.heap.size 1)=ab (.int .i64 k)/\D.cell? (pA w.heap.size 2)=ab (.slice q B.length c))/\G (.returned (.tuple #[.agg #[.int .i64 n,.int .i64 k,.slice q B.length c],.nilIface])) D):=fun W Z h2 h3=>h9.out W q c B Z e6.out.1 e6.out.2.1 h3 (fun b o e=>⟨(e6.out.2.2 b o e).1,ao (e6.out.2.2 b o e).2 h2.size⟩)
     clear e0 e1 e2 e3 a6 c8 b1 e4 f8 HO d5 g6 f4 a7 f7 h9 e6;generalize B.length=ol at *;go_wp2_with (rw[<-d9.out])
     refine e5.mono ?_;rintro e w6 ⟨⟨ev,rfl,K⟩,d3⟩;obtain rfl:=K.none (by decide);obtain⟨g8,i1⟩:=g7.out w6 d3.out.2;have m0:w6.cell? (pA O.heap.size 0)=ab (.int .i64 n):=(Xa g8 0).1;have m1:w6.cell? (pA O.heap.size 1)=ab (.int .i64 k):=(Xa g8 1).1;have m2:w6.cell? (pA O.heap.size 2)=ab (.slice q ol c):=(Xa g8 2).1;have I:Hid (w6.heap[w.heap.size]?=ab (.cells #[.int .i64 0,.int .i64 0,.slice aa 0 0] 58 (0,0))):=HK.out w6 d3.out.1;have f0:=(Xa I.out 0).2;have f1:=(Xa I.out 1).2;have f2:=(Xa I.out 2).2;have a0:w6.cell? (pA w.heap.size 0)=ab (.int .i64 0):=(Xa I.out 0).1;have a1:w6.cell? (pA w.heap.size 1)=ab (.int .i64 0):=(Xa I.out 1).1;have a2:w6.cell? (pA w.heap.size 2)=ab (.slice aa 0 0):=(Xa I.out 2).1;obtain⟨w7,e7⟩:=Xb (Y0 w6 w.heap.size (.int .i64 n) (.int .i64 k) (.slice q ol c));obtain⟨⟨d0,d1,d2⟩,hG⟩:=i0.out w6 d3.out.1 d3.out.2 i1 w7 e7;have HG:Hid (G (.returned (.tuple #[.agg #[.int .i64 n,.int .i64 k,.slice q ol c],.nilIface])) w7):=hG;have h5:Hid (w7=((w6.setCell (pA w.heap.size 0) (.int .i64 n)).setCell (pA w.heap.size 1) (.int .i64 k)).setCell (pA w.heap.size 2) (.slice q ol c)):=e7;clear hG e7 K g8 i1 g7 HK I i0 e5 d9 d3 b0 a5 f5 b3 k0 k1 k2;generalize w.heap.size=b at *;generalize O.heap.size=b4 at *;go_wp2;rw[<-h5.out];refine ar (v:=.tuple #[.agg #[.int .i64 n,.int .i64 k,.slice q ol c],.nilIface]) (by simp[ba,results25,go_sem,d0,d1,d2]) rfl HG.out
    ·have a7:Hid (Zr l n k=(2,-1)):=by show _=_;unfold Zr;rw[if_neg hN,if_neg hT,if_neg hP,if_neg hC]
     have f4:Hid (∀B,XC (Xy wX) l B->(B.length:Int)=n->Jg ⟨n,k,B⟩=(2,-1)):=fun B Z h2=>by rw[FR Z hP h2,if_neg hC]
     generalize j3 ad w l n k=G at *;clear e8 b5 d6 hE hs hx hc hl hn hk g5 hN f6 hT hP hC;go_enter func25,ntmps25;go_wp2_with (rw[<-b3.out])
     refine b2.mono ?_;rintro e w2 ⟨⟨ev,rfl,K⟩,a4⟩;obtain rfl:=HN.out ev w2 K;have a9:=d4.out w2 a4;clear K a4 d4 HN b2;go_wp2_with fail
     refine a9.mono ?_;rintro e D ⟨⟨r,rfl,hr⟩,a5⟩;obtain rfl:=b8.out r hr;have d5:=d8.out D a5.out;have f7:=a5.out.size;clear hr b8 a9 d8;go_wp2_with fail
     refine d5.mono ?_;rintro e O ⟨⟨q,c,B,rfl,HO⟩,b0⟩;obtain⟨e0,e1,e2,e3⟩:=HO.out;obtain⟨U,a6⟩:=Xb (O.alloc (.cells #[.int .i64 n,.int .i64 k,.slice q B.length c] 58));have c8:=Zk a6;have b1:=JH a6;have e4:=fQ a6;have f8:af H.heap.size H U:=b0.out.trans (c8.mono b0.out.size);have e5:=g6.out U q c B f8 (e2.below c8);have k0:U.cell? (pA O.heap.size 0)=ab (.int .i64 n):=(Xa b1 0).1;have k1:U.cell? (pA O.heap.size 1)=ab (.int .i64 k):=(Xa b1 1).1;have k2:U.cell? (pA O.heap.size 2)=ab (.slice q B.length c):=(Xa b1 2).1;rw[f4.out B e0 e1]at e5;have g7:Hid (∀W,af U.heap.size U W->W.heap[O.heap.size]?=ab (.cells #[.int .i64 n,.int .i64 k,.slice q B.length c] 58 (0,0))/\Yn W ⟨n,k,B⟩ q c):=fun W J=>⟨(J.block _ e4).trans b1,(e2.below c8).below J⟩
     have e6:Hid (XC (Xy wX) l B/\(B.length:Int)=n/\(∀b o,q=ab (pA b o)->H.heap.size<=b/\b<U.heap.size)):=⟨e0,e1,fun b o e=>⟨am f7 (e3 b o e).1,be (e3 b o e).2 e4⟩⟩;have d9:Hid (U=O.alloc (.cells #[.int .i64 n,.int .i64 k,.slice q B.length c] 58)):=a6;clear e0 e1 e2 e3 a6 c8 b1 e4 f8 HO d5 g6 f7;generalize B.length=ol at *;go_wp2_with (rw[<-d9.out])
     refine e5.mono ?_;rintro e w6 ⟨⟨ev,rfl,K⟩,d3⟩;obtain⟨t,v,rfl⟩:=K.some (by decide);have I:Hid (w6.heap[w.heap.size]?=ab (.cells #[.int .i64 0,.int .i64 0,.slice aa 0 0] 58 (0,0))):=HK.out w6 d3.out.1;have f0:=(Xa I.out 0).2;have f1:=(Xa I.out 1).2;have f2:=(Xa I.out 2).2;have a0:w6.cell? (pA w.heap.size 0)=ab (.int .i64 0):=(Xa I.out 0).1;have a1:w6.cell? (pA w.heap.size 1)=ab (.int .i64 0):=(Xa I.out 1).1;have a2:w6.cell? (pA w.heap.size 2)=ab (.slice aa 0 0):=(Xa I.out 2).1;obtain⟨w7,e7⟩:=Xb (Y0 w6 w.heap.size (.int .i64 0) (.int .i64 0) (.slice aa 0 0));obtain⟨⟨d0,d1,d2⟩,hG⟩:=b6.out w6 t v _ _ d3.out.1 K (by decide) a7.out w7 e7;have HG:Hid (G (.returned (.tuple #[.agg #[.int .i64 0,.int .i64 0,.slice aa 0 0],.iface t v])) w7):=hG;have h5:Hid (w7=((w6.setCell (pA w.heap.size 0) (.int .i64 0)).setCell (pA w.heap.size 1) (.int .i64 0)).setCell (pA w.heap.size 2) (.slice aa 0 0)):=e7;clear hG e7 K g7 HK I b6 e5 d9 d3 b0 a5 f5 b3 k0 k1 k2 a7 f4 e6;generalize w.heap.size=b at *;generalize O.heap.size=b4 at *;go_wp2;rw[<-h5.out];refine ar (v:=.tuple #[.agg #[.int .i64 0,.int .i64 0,.slice aa 0 0],.iface t v]) (by simp[ba,results25,go_sem,d0,d1,d2]) rfl HG.out
end
section
section
variable {w w':World} {B h:Nat} {O O':Nat->Option Whose} {m:Ya} {X:WB} {ml:List (Zb×Lv)} {nb hn:Nat->Nat} {n k:Nat} {ad:Nat->aA}
theorem JpK {a b:BA}(h:a.toList=b.toList):a=b:=by
 rw[ByteArray.toList_eq,ByteArray.toList_eq]at h;exact ByteArray.ext (Array.toList_inj.1 h)
theorem JnN (h:∀j,j<l.length->(Jc l j).1.name≠s):¬Qe l s<l.length:=fun D=>by
 have H:=List.findIdx_getElem (p:=fun x:Je×Bool=>decide (x.1.name=s)) (xs:=l) (w:=D);have I:=of_decide_eq_true H;refine h _ D ?_;unfold Jc;rw[ac,ag D];exact I
theorem K7 (I:i<l.length)(J:(Jc l i).1.name=s)(K:∀j,j<i->(Jc l j).1.name≠s):Qe l s=i:=by
 have H:∀j (D:j<l.length),Jc l j=l[j]:=fun j D=>by unfold Jc;rw[ac,ag D];rfl
 unfold Qe;rw[List.findIdx_eq I];refine⟨decide_eq_true (by rw[<-H i I];exact J),fun j D=>decide_eq_false (by rw[<-H j (by omega)];exact K j D)⟩
def J2 (m:Ya)(nb:Nat->Nat)(s:BA):Value:=if Qe m.nodes s<m.nodes.length then .pointer (ab ⟨nb (Qe m.nodes s),0,aa⟩)else .pointer aa
theorem wY (hp:Ye w B h O m X ml nb hn)(s:BA)(hf:m.nodes.length<=1000):
 ak prog 59 #[.pointer (ab ⟨h,0,aa⟩),.string s] w fun e w'=>e=.returned (J2 m nb s)/\w'=w:=by
 have a3:=hp.cD;obtain⟨p,c,hv,a4,_,_,_⟩:=a3.form;have K:((ah m.nodes.length).map nb).length=m.nodes.length:=by simp
 rw[K]at hv;have b3:w.cell? ⟨h,31,aa⟩=ab (.slice p m.nodes.length c):=by rw[<-hv];exact(hp.cell 31).1
 have HC:Hid (∀i,i<m.nodes.length->∃b o,p=ab ⟨b,o,aa⟩/\w.cell? ⟨b,o+i,aa⟩=ab (.pointer (ab ⟨nb i,0,aa⟩))/\w.cell? ⟨nb i,1,aa⟩=ab (.string (Jc m.nodes i).1.name)):=fun i D=>by
  rcases a4 with h0|⟨b,o,a9,b4,hc⟩
  ·rw[h0]at K;simp at K;omega
  ·refine⟨b,o,a9,?_,(Xa (hp.node i D).1 1).1⟩;have hx:((ah m.nodes.length).map nb)[i]?=ab (nb i):=by rw[ze,List.getElem?_range D];rfl
   have:=hc i _ hx 0 _ rfl;rw[show j5.k=1 from rfl,Nat.mul_one,Nat.add_zero]at this;exact this
 have HY:Hid (∀i,i<m.nodes.length->(Jc m.nodes i).1.name=s->(∀j,j<i->(Jc m.nodes j).1.name≠s)->J2 m nb s=.pointer (ab ⟨nb i,0,aa⟩)):=fun i D H h2=>by
  have e:=K7 D H h2;unfold J2;rw[e,if_pos D]
 have HN:Hid ((∀j,j<m.nodes.length->(Jc m.nodes j).1.name≠s)->J2 m nb s=.pointer aa):=fun H=>if_neg (JnN H)
 clear hp a3 hv a4 K;generalize J2 m nb s=R at *;obtain⟨nm,U⟩:∃nm:Nat->BA,nm=fun i=>(Jc m.nodes i).1.name:=⟨_,rfl⟩
 have a2:Hid (∀i,i<m.nodes.length->∃b o,p=ab ⟨b,o,aa⟩/\w.cell? ⟨b,o+i,aa⟩=ab (.pointer (ab ⟨nb i,0,aa⟩))/\w.cell? ⟨nb i,1,aa⟩=ab (.string (nm i))):=by rw[U];exact HC
 have Z:Hid (∀i,i<m.nodes.length->nm i=s->(∀j,j<i->nm j≠s)->R=.pointer (ab ⟨nb i,0,aa⟩)):=by rw[U];exact HY
 have a0:Hid ((∀j,j<m.nodes.length->nm j≠s)->R=.pointer aa):=by rw[U];exact HN
 clear HC HY HN U;generalize m.nodes.length=N at *;go_enter func59,ntmps59;go_wp2;go_loopw [12] (fun x wr=>∃i:Nat,i<=N/\x=.int .i64 i/\(∀j,j<i->nm j≠s)/\wr=w) (fun x _=>N-(intOf x).toNat)
 case atStart=>exact⟨0,zb _,rfl,(fun j hj=>absurd hj (aj _)),rfl⟩
 case round =>
  obtain⟨i,D,rfl,a5,b0⟩:=hrel;subst b0;have I:Hid (∀j,j<i->nm j≠s):=a5;clear a5;by_cases a6:i<N
  ·obtain⟨b,o,rfl,q1,q2⟩:=a2.out i a6;by_cases J:nm i=s
   ·have HR:Hid (R=.pointer (ab ⟨nb i,0,aa⟩)):=Z.out i a6 J I.out;have a7:(nm i).toList=s.toList:=by rw[J]
    clear a2 Z a0 I J;go_wp2;go_ret;exact⟨by rw[HR.out];rfl,rfl⟩
   ·have a7:¬(nm i).toList=s.toList:=fun e=>J (JpK e)
    have b5:((nm i).toList==s.toList)=false:=by simp[a7]
    have b1:Hid (∀j,j<i+1->nm j≠s):=fun j hj=>by
     rcases aN j i with H|H
     ·exact I.out j H
     ·rw[show j=i by omega];exact J
    clear Z a0 I J;go_wp2;go_roundw
    case rel=>exact⟨i+1,by omega,by go_num,b1.out,by first|rfl|trivial⟩
    case measure=>simp[intOf];omega
  ·have b2:i=N:=by omega
   have HR:Hid (R=.pointer aa):=a0.out (by rw[<-b2];exact I.out);clear a2 Z a0 I;go_wp2;go_ret;exact⟨by rw[HR.out];rfl,rfl⟩
end
end
section
section
variable {w w':World} {B h:Nat} {O O':Nat->Option Whose} {m:Ya} {X:WB} {ml:List (Zb×Lv)} {nb hn:Nat->Nat} {n k:Nat} {ad:Nat->aA}
theorem Ye.rA (D:Ye w B h O m X ml nb hn)(hi:i<m.nodes.length)(d:Bool):Ye (w.setCell ⟨nb i,2,aa⟩ (.bool d)) B h O {m with nodes:=m.nodes.set i ((Jc m.nodes i).1,!d)} X ml nb hn/\Yd (fun k=>O k≠aa) (fun k=>O k≠aa) w (w.setCell ⟨nb i,2,aa⟩ (.bool d)):=by
 have U:(w.setCell ⟨nb i,2,aa⟩ (.bool d)).heap.size=w.heap.size:=by simp[zd]
 have Z:∀k,k≠nb i->(w.setCell ⟨nb i,2,aa⟩ (.bool d)).heap[k]?=w.heap[k]?:=fun k J=>Below.heap_setCell _ _ _ _ J
 have K:=(D.node i hi).2;have H:Qv (.node i) O O B w (w.setCell ⟨nb i,2,aa⟩ (.bool d)):=⟨fun _ _ _ _=>Iff.rfl,fun _ h=>h,fun k o e=>by rw[U];exact D.aO k o e,by rw[U];exact aw _,fun k o e ho _=>Z k (fun e'=>ho (by rw[e',K]at e;injection e with e;exact e.symm))⟩;have a0:(m.nodes.set i ((Jc m.nodes i).1,!d)).length=m.nodes.length:=List.length_set;have a2:∀j,Jc (m.nodes.set i ((Jc m.nodes i).1,!d)) j=if j=i then((Jc m.nodes i).1,!d)else Jc m.nodes j:=fun j=>uS hi _ j
 have a3:h≠nb i:=fun e=>by rw[<-e,D.self]at K;cases K
 refine⟨{aO:=H.aO,row:=(D.cO H (fun e=>by cases e)).1,cX:=D.cX,dK:=D.dK,bD:=D.eR H (fun e=>by cases e),bV:=(D.cP H (fun e=>by cases e)).1,cS:=D.cS,cD:=by show Zc _ _ _ _ _ ((ah (m.nodes.set i _).length).map nb);rw[a0];exact(D.bY H (fun e=>by cases e)).1,bU:=D.bU,node:=fun j I=>?_,mem:=fun j I=>?_,ask:=fun j I=>(D.ask j I).kept H (fun e=>by cases e),bI:=D.bI.kept H (fun e=>by cases e) (fun e=>by cases e),cf:=D.cf.kept H.bD H.size (fun k J=>H.kept k _ J (fun e=>by cases e) (fun e=>by cases e)),blk:=(Z h a3).trans D.blk,self:=D.self,cV:=D.cV,dF:=D.dF,aW:=D.aW},⟨rfl,rfl,rfl,by rw[U];exact aw _,fun k _ hn=>Z k (fun e=>hn (by rw[e,K];exact fun e=>(by cases e))),fun k J=>ax J⟩⟩
 ·have I:j<(m.nodes.set i _).length:=I;rw[a0]at I;show(w.setCell ⟨nb i,2,aa⟩ (.bool d)).heap[nb j]?=ab (Obj.cells #[.pointer (ab ⟨hn j,0,aa⟩),.string (Jc (m.nodes.set i ((Jc m.nodes i).1,!d)) j).1.name,.bool (!(Jc (m.nodes.set i ((Jc m.nodes i).1,!d)) j).2)] 109 (0,0))/\O (nb j)=ab (.node j);rw[a2];by_cases e:j=i
  ·subst e;rw[if_pos rfl];have:=Qc (D.node j hi).1 2 (.bool d);refine⟨?_,K⟩;rw[this];simp only[List.setIfInBounds_toArray,List.set_cons_zero,List.set_cons_succ,Bool.not_not]
  ·rw[if_neg e];exact D.dB H I (fun e'=>e (by injection e'))
 ·have I:j<(m.nodes.set i _).length:=I;rw[a0]at I;show XE _ _ _ _ (Jc (m.nodes.set i ((Jc m.nodes i).1,!d)) j).1;rw[a2];have:=D.dZ H I (fun e=>by cases e);by_cases e:j=i
  ·subst e;rw[if_pos rfl];exact this
  ·rw[if_neg e];exact this
theorem GY (H:Ye w B h O m X ml nb hn)(s:BA)(d:Bool)(Z:m.nodes.length<=1000)(hE:Yi ad w O):
 ak prog 33 #[.pointer (ab ⟨h,0,aa⟩),.string s,.bool d] w (Xe ad w B h O (m.set s (!d)) nb hn):=by
 have J:=wY H s Z;by_cases D:Qe m.nodes s<m.nodes.length
 ·have I:m.set s (!d)=({m with nodes:=m.nodes.set (Qe m.nodes s) ((Jc m.nodes (Qe m.nodes s)).1,!d)},0):=by unfold Ya.set;rw[if_pos D]
  rw[I];rw[show J2 m nb s=.pointer (ab ⟨nb (Qe m.nodes s),0,aa⟩)from if_pos D]at J;obtain⟨g1,g2⟩:=H.rA D d;have K:=(H.node _ D).1;have c2:=(Xa K 2).1;have f2:=(Xa K 2).2;change w.cell? ⟨nb (Qe m.nodes s),2,aa⟩=ab (.bool (!(Jc m.nodes (Qe m.nodes s)).2))at c2;have U:Hid (Xe ad w B h O ({m with nodes:=m.nodes.set (Qe m.nodes s) ((Jc m.nodes (Qe m.nodes s)).1,!d)},0) nb hn (.returned .nilIface) (w.setCell ⟨nb (Qe m.nodes s),2,aa⟩ (.bool d))):=⟨⟨_,rfl,Jd.nil _ _⟩,O,X,ml,g1,g2⟩;generalize Xe ad w B h O ({m with nodes:=m.nodes.set (Qe m.nodes s) ((Jc m.nodes (Qe m.nodes s)).1,!d)},0) nb hn=G at *;generalize nb (Qe m.nodes s)=b at *;generalize (!(Jc m.nodes (Qe m.nodes s)).2)=u at *;clear H I K g1 g2 hE D Z;go_enter func33,ntmps33;go_wp2_with fail
  refine J.mono ?_;rintro e w1 ⟨rfl,rfl⟩;go_wp2;exact U.out
 ·have I:m.set s (!d)=(m,5):=by unfold Ya.set;rw[if_neg D]
  rw[I];rw[show J2 m nb s=.pointer aa from if_neg D]at J;have a0:=hE.here.q.c4;have U:Hid (Xe ad w B h O (m,5) nb hn (.returned (.iface 301 (.pointer (ab (ad 4))))) w):=⟨⟨_,rfl,Jd.b8 4 (by decide)⟩,Yj.here H bR⟩;generalize Xe ad w B h O (m,5) nb hn=G at *;clear H I hE D Z;go_enter func33,ntmps33;go_wp2_with fail
  refine J.mono ?_;rintro e w1 ⟨rfl,rfl⟩;go_wp2;exact U.out
theorem JqA (K:Ye w B h O m X ml nb hn)(s:BA)(U:m.nodes.length<=1000)(Z:Yi ad w O):
 ak prog 13 #[.pointer (ab ⟨h,0,aa⟩),.string s] w (Xe ad w B h O (m.set s ae) nb hn):=by
 have H:ak prog 33 #[.pointer (ab ⟨h,0,aa⟩),.string s,.bool al] w fun e w'=>(∃D,e=.returned D)/\Xe ad w B h O (m.set s ae) nb hn e w':=(GY K s al U Z).mono fun e w' I=>⟨by obtain⟨D,e1,_⟩:=I.1;exact⟨D,e1⟩,I⟩
 generalize Xe ad w B h O (m.set s ae) nb hn=G at *;clear K Z U;go_enter func13,ntmps13;go_wp2_with fail
 refine H.mono ?_;rintro e w2 ⟨⟨D,rfl⟩,J⟩;have HG:Hid _:=J;clear J H;go_wp2;exact HG.out
theorem W7 (K:Ye w B h O m X ml nb hn)(s:BA)(U:m.nodes.length<=1000)(Z:Yi ad w O):
 ak prog 14 #[.pointer (ab ⟨h,0,aa⟩),.string s] w (Xe ad w B h O (m.set s al) nb hn):=by
 have H:ak prog 33 #[.pointer (ab ⟨h,0,aa⟩),.string s,.bool ae] w fun e w'=>(∃D,e=.returned D)/\Xe ad w B h O (m.set s al) nb hn e w':=(GY K s ae U Z).mono fun e w' I=>⟨by obtain⟨D,e1,_⟩:=I.1;exact⟨D,e1⟩,I⟩
 generalize Xe ad w B h O (m.set s al) nb hn=G at *;clear K Z U;go_enter func14,ntmps14;go_wp2_with fail
 refine H.mono ?_;rintro e w2 ⟨⟨D,rfl⟩,J⟩;have HG:Hid _:=J;clear J H;go_wp2;exact HG.out
end
end
section
def Ya.cE (m:Ya)(l:List BA):Ya:={m with nodes:=m.nodes++l.map fun s=>(⟨s,[]⟩,al)}
theorem B8 (m:Ya):m.cE []=m:=by unfold Ya.cE;rw[List.map_nil,zj]
theorem SK (m:Ya)(l:List BA)(s:BA):m.cE (l++ [s])=(m.cE l).cE [s]:=by
 unfold Ya.cE;rw[za,<-aR]
section
variable {w w':World} {B h:Nat} {O O':Nat->Option Whose} {m:Ya} {X:WB} {ml:List (Zb×Lv)} {nb hn:Nat->Nat} {n k:Nat} {ad:Nat->aA}
theorem XJ.spare (H:XJ w B O m X ml nb hn){t:Whose}{N:Nat}(D:Qv t O O' B w w')(I:t=.node N∨t=.mem N)(hN:m.nodes.length<=N):XJ w' B O' m X ml nb hn:=by
 have q:∀o:Whose,o≠.node N->o≠.mem N->o≠t:=fun o K U e=>by
  rcases I with I|I
  ·exact K (e.trans I)
  ·exact U (e.trans I)
 exact {aO:=D.aO,row:=(H.cO D (q _ (fun e=>by cases e) (fun e=>by cases e))).1,cX:=(H.cO D (q _ (fun e=>by cases e) (fun e=>by cases e))).2,dK:=H.dK,bD:=H.eR D (q _ (fun e=>by cases e) (fun e=>by cases e)),bV:=(H.cP D (q _ (fun e=>by cases e) (fun e=>by cases e))).1,cS:=(H.cP D (q _ (fun e=>by cases e) (fun e=>by cases e))).2,cD:=(H.bY D (q _ (fun e=>by cases e) (fun e=>by cases e))).1,bU:=(H.bY D (q _ (fun e=>by cases e) (fun e=>by cases e))).2,node:=fun i J=>H.dB D J (q _ (fun e=>by injection e with e;omega) (fun e=>by cases e)),mem:=fun i J=>H.dZ D J (q _ (fun e=>by cases e) (fun e=>by injection e with e;omega)),ask:=fun j Z=>(H.ask j Z).kept D (q _ (fun e=>by cases e) (fun e=>by cases e)),bI:=H.bI.kept D (q _ (fun e=>by cases e) (fun e=>by cases e)) (q _ (fun e=>by cases e) (fun e=>by cases e)),cf:=H.cf.kept D.bD D.size (fun k hk=>D.kept k _ hk (q _ (fun e=>by cases e) (fun e=>by cases e)) (fun e=>by cases e))}
theorem XJ.pV (H:XJ w B O m X ml nb hn)(D:Qv .cD O O' B w w'){m':Ya}{X':WB}{I J:Nat->Nat}(e1:m'.L=m.L)(e3:m'.events=m.events)(e4:m'.mover=m.mover)(K:m'.asks=m.asks/\m'.texts=m.texts/\m'.since=m.since)
 (U:X'.vm=X.vm) (Z:X'.ve=X.ve) (x4:X'.mp=X.mp) (x5:X'.nx=X.nx) (x6:X'.cf=X.cf) (x7:X'.cl=X.cl) (hr:Zc j5 107 w' B X'.vn ((ah m'.nodes.length).map I)) (a0:∀k,X'.vn.ownBlock=ab k->O' k=ab .cD)
 (a2:∀i,i<m'.nodes.length->w'.heap[I i]?=ab (.cells #[.pointer (ab ⟨J i,0,aa⟩),.string (Jc m'.nodes i).1.name,.bool (!(Jc m'.nodes i).2)] 109 (0,0))/\O' (I i)=ab (.node i)) (a3:∀i,i<m'.nodes.length->XE w' B (J i) (fun k=>O' k=ab (.mem i)) (Jc m'.nodes i).1):XJ w' B O' m' X' ml I J where
 aO:=D.aO
 row:=by rw[U];exact(H.cO D (fun e=>by cases e)).1
 cX:=by rw[U];exact(H.cO D (fun e=>by cases e)).2
 dK:=by rw[e1];exact H.dK
 bD:=H.eR D (fun e=>by cases e)
 bV:=by rw[Z,e3];exact(H.cP D (fun e=>by cases e)).1
 cS:=by rw[Z];exact(H.cP D (fun e=>by cases e)).2
 cD:=hr
 bU:=a0
 node:=a2
 mem:=a3
 ask:=fun j hj=>by rw[K.1,K.2.1,K.2.2,x7];exact(H.ask j hj).kept D (fun e=>by cases e)
 bI:=by rw[e4,x4,x5];exact H.bI.kept D (fun e=>by cases e) (fun e=>by cases e)
 cf:=by rw[x6];exact H.cf.kept D.bD D.size (fun k hk=>D.kept k _ hk (fun e=>by cases e) (fun e=>by cases e))
theorem XE.base (U:XE w B' b S x)(hB:B<=B'):XE w B b S x:=by
 obtain⟨mp,D,J,K,H⟩:=U;exact⟨mp,D,J,K,{H with aO:=fun k I=>⟨am hB (H.aO k I).1,(H.aO k I).2⟩}⟩
theorem XE.dH (I:XE w B b S x):∀k,S k->B<=k/\k<w.heap.size:=by
 obtain⟨mp,D,J,K,H⟩:=I;exact H.aO
theorem D8 (D:i<l.length)(x:Je×Bool):Jc (l++ [x]) i=Jc l i:=by
 unfold Jc;rw[ac,ac,av D]
theorem B9 (l:List (Je×Bool))(x:Je×Bool):Jc (l++ [x]) l.length=x:=by
 unfold Jc;rw[ac,au nR,Nat.sub_self];rfl
theorem LR (N g:Nat)(nb:Nat->Nat):(ah (N+1)).map (fun i=>if i=N then g else nb i)=(ah N).map nb++ [g]:=by
 rw[List.range_succ,za,List.map_singleton,if_pos rfl]
 congr 1
 exact List.map_congr_left fun i D=>if_neg (by have:=List.mem_range.1 D;omega)
open Classical in
theorem Ye.jO (U:Ye w B h O m X ml nb hn){Z w3:World}{g:Nat}{I:bz}(hB:af w.heap.size w Z)(hs:XE Z w.heap.size hb S ⟨s,[]⟩)(hg:w.heap.size<=g)(b8:¬S g)
 (b0:Z.heap[g]?=ab (.cells #[.pointer (ab ⟨hb,0,aa⟩),.string s,.bool ae] 109 (0,0)))
 (h1:Zc j5 107 w3 B I ((ah m.nodes.length).map nb++ [g])) (h2:Z.grownBy w3 X.vn.ownBlock) (h3:I.ownBlock=X.vn.ownBlock∨∃k,I.ownBlock=ab k/\Z.heap.size<=k):
 ∃O' c8 d0,Ye (w3.setCell ⟨h,31,aa⟩ I) B h O' (m.cE [s]) {X with vn:=I} ml c8 d0/\Yd (fun k=>O k≠aa) (fun k=>O' k≠aa) w (w3.setCell ⟨h,31,aa⟩ I):=by
 have d6:g<Z.heap.size:=by
  rcases aN g Z.heap.size with h'|h'
  ·exact h'
  ·rw[Array.getElem?_eq_none h']at b0;cases b0
 have a4:∀k,w.heap.size<=k->O k=none:=fun k D=>by
  cases e:O k with
  |none=>rfl
  |some o=>have:=(U.aO k o e).2;omega
 have a3:=hs.dH;obtain⟨N,hN⟩:=Xb m.nodes.length;obtain⟨J,b1⟩:∃J:Nat->Option Whose,J=fun k=>if k=g then ab (.node N)else O k:=⟨_,rfl⟩
 have a5:J g=ab (.node N):=by rw[b1];exact if_pos rfl
 have a2:∀k,k≠g->J k=O k:=fun k D=>by rw[b1];exact if_neg D
 obtain⟨K,a6⟩:∃K:Nat->Option Whose,K=fun k=>if S k then ab (.mem N)else if J k=ab (.mem N)then ab .bD else J k:=⟨_,rfl⟩
 have b2:∀k,S k->K k=ab (.mem N):=fun k D=>by rw[a6];exact if_pos D
 have a0:∀k,¬S k->J k≠ab (.mem N)->K k=J k:=fun k D a7=>by rw[a6];simp only[if_neg D,if_neg a7]
 have b3:∀k,¬S k->J k=ab (.mem N)->K k=ab .bD:=fun k D a7=>by rw[a6];simp only[if_neg D,if_pos a7]
 have s1:∀k,S k->J k=none:=fun k D=>by rw[a2 k (fun e=>b8 (e▸D))];exact a4 k (a3 k D).1
 have T1:Qv (.node N) O J B w Z:=by
  refine⟨fun o k ho hi=>?_,fun k e=>?_,fun k o e=>?_,hB.size,fun k o e _ _=>hB.block k (U.aO k o e).2⟩
  ·by_cases e:k=g
   ·rw[e,a5,a4 g hg];exact⟨fun e=>(by injection e with e;exact absurd e.symm ho),fun e=>(by cases e)⟩
   ·rw[a2 k e]
  ·rw[a2 k (fun e'=>by rw[e',a4 g hg]at e;cases e)];exact e
  ·by_cases e':k=g
   ·have:=U.base;omega
   ·rw[a2 k e']at e;have:=U.aO k o e;have:=hB.size;omega
 have T2:Qv (.mem N) J K B Z Z:=by
  refine⟨fun o k ho hi=>?_,fun k e=>?_,fun k o e=>?_,aw _,fun _ _ _ _ _=>rfl⟩
  ·by_cases e:S k
   ·rw[b2 k e,s1 k e];exact⟨fun e=>(by injection e with e;exact absurd e.symm ho),fun e=>(by cases e)⟩
   ·by_cases e2:J k=ab (.mem N)
    ·rw[b3 k e e2,e2];exact⟨fun e=>(by injection e with e;exact absurd e.symm hi),fun e=>(by injection e with e;exact absurd e.symm ho)⟩
    ·rw[a0 k e e2]
  ·rw[a0 k (fun e'=>by rw[s1 k e']at e;cases e) (fun e'=>by rw[e']at e;cases e)];exact e
  ·by_cases e':S k
   ·have:=a3 k e';have:=U.base;omega
   ·by_cases e2:J k=ab (.mem N)
    ·exact T1.aO k _ e2
    ·rw[a0 k e' e2]at e;exact T1.aO k o e
 have px:=(U.toXJ.spare T1 (ax rfl) (by omega)).spare T2 (aD rfl) (by omega);have b4:J h=ab .self:=by rw[a2 h (fun e=>by have:=U.lt;omega)];exact U.self
 have d1:K h=ab .self:=by
  rw[a0 h (fun e=>by have:=(a3 h e).1;have:=U.lt;omega) (fun e=>by rw[b4]at e;cases e)];exact b4
 have H:Ye Z B h K m X ml nb hn:={px with blk:=(hB.block h U.lt).trans U.blk,self:=d1,cV:=U.cV,dF:=U.dF,aW:=U.aW};have d2:Yd (fun k=>O k≠aa) (fun k=>K k≠aa) w Z:=by
  refine⟨hB.os,hB.tape,hB.output,hB.size,fun k D _=>hB.block k D,fun k e=>?_⟩;by_cases e1:S k
  ·exact aD (a3 k e1).1
  ·by_cases e2:k=g
   ·exact aD (by omega)
   ·refine ax ?_;rw[<-a2 k e2];intro e3;exact e (by rw[a0 k e1 (fun e4=>by rw[e3]at e4;cases e4)];exact e3)
 have b5:X.vn.ownBlock≠ab h:=fun e=>by have:=H.bU h e;rw[H.self]at this;cases this
 have d3:=h2.block h H.lt (fun e=>b5 e.symm);have d4:I.ownBlock≠ab h:=fun e=>by
  rcases h3 with h3|⟨k,h3,h4⟩
  ·exact b5 (h3.symm.trans e)
  ·rw[h3]at e;injection e with e;have:=H.lt;omega
 have d5:(w3.setCell ⟨h,31,aa⟩ I).heap.size=w3.heap.size:=by simp[zd]
 have b6:Zc j5 107 (w3.setCell ⟨h,31,aa⟩ I) B I ((ah m.nodes.length).map nb++ [g]):=h1.dC (fun k D=>Deep.blk_setCell_other _ _ _ _ (fun e=>d4 (by rw[D,e])));have a9:∀k,I.ownBlock=ab k->K k=ab .cD∨Z.heap.size<=k:=fun k D=>by
  rcases h3 with e|⟨k',e,d7⟩
  ·exact ax (H.bU k (e.symm.trans D))
  ·rw[D]at e;injection e with e;exact aD (by omega)
 have hU:Yd (fun k=>K k=ab .cD∨K k=ab .self) (fun k=>I.ownBlock=ab k) Z (w3.setCell ⟨h,31,aa⟩ I):=⟨h2.os,h2.tape,h2.output,by rw[d5];exact h2.size,fun k D hn=>(Below.heap_setCell _ _ _ _ (fun e=>hn (aD (by have e:k=h:=e;rw[e];exact H.self)))).trans (h2.block k D (fun e=>hn (ax (H.bU k e.symm)))),fun k D=>(a9 k D).imp ax id⟩;have hT:=Qv.of (t:=.cD) (fun e=>by cases e) H.aO H.base hU a9 (fun k D=>(b6.block D).2);have b7:K g=ab (.node N):=by rw[a0 g b8 (fun e=>by rw[a5]at e;cases e)];exact a5
 have eS:(fun k=>K k=ab (.mem N))=S:=funext fun k=>propext ⟨fun e=>by
  rcases em (S k)with h'|h'
  ·exact h'
  ·exfalso;by_cases e2:J k=ab (.mem N)
   ·rw[b3 k h' e2]at e;cases e
   ·rw[a0 k h' e2]at e;exact e2 e,fun h'=>b2 k h'⟩
 exact⟨_,fun i=>if i=N then g else nb i,fun i=>if i=N then hb else hn i,{H.toXJ.pV (m':=m.cE [s]) (X':={X with vn:=I}) hT rfl rfl rfl ⟨rfl,rfl,rfl⟩ rfl rfl rfl rfl rfl rfl (by
  show Zc _ _ _ _ I ((ah (m.nodes++ [((⟨s,[]⟩,al):Je×Bool)]).length).map _);rw[an,<-hN];show Zc _ _ _ _ I ((ah (N+1)).map _);rw[LR,hN];exact b6) (fun k D=>(ZU (fun e=>by cases e) k).2 D) (fun i hi=>by
  have hi:i<(m.nodes++ [((⟨s,[]⟩,al):Je×Bool)]).length:=hi;rw[an]at hi;have hi:i<m.nodes.length+1:=hi;show _=ab (Obj.cells #[_,.string (Jc (m.nodes++ [((⟨s,[]⟩,al):Je×Bool)]) i).1.name,.bool (!(Jc (m.nodes++ [((⟨s,[]⟩,al):Je×Bool)]) i).2)] _ _)/\_;by_cases e:i=N
  ·simp only[if_pos e];rw[e,hN,B9,<-hN];exact⟨(hT.kept g _ b7 (fun e=>by cases e) (fun e=>by cases e)).trans b0,(hT.same _ g (fun e=>by cases e) (fun e=>by cases e)).2 b7⟩
  ·simp only[if_neg e];rw[D8 (by omega)];exact H.dB hT (by omega) (fun e=>by cases e)) (fun i hi=>by
  have hi:i<(m.nodes++ [((⟨s,[]⟩,al):Je×Bool)]).length:=hi;rw[an]at hi;have hi:i<m.nodes.length+1:=hi;show XE _ _ _ _ (Jc (m.nodes++ [((⟨s,[]⟩,al):Je×Bool)]) i).1;by_cases e:i=N
  ·simp only[if_pos e];rw[e,hN,B9,<-hN];have h0:XE Z B hb (fun k=>K k=ab (.mem N)) ⟨s,[]⟩:=by rw[eS];exact hs.base U.base
   exact h0.kept (fun k=>hT.same _ k (fun e=>by cases e) (fun e=>by cases e)) hT.size (fun k D=>hT.kept k _ D (fun e=>by cases e) (fun e=>by cases e))
  ·simp only[if_neg e];rw[D8 (by omega)];exact H.dZ hT (by omega) (fun e=>by cases e))with blk:=Qc (d3.trans H.blk) 31 I,self:=(hT.same .self h (fun e=>by cases e) (fun e=>by cases e)).2 H.self,cV:=H.cV,dF:=H.dF,aW:=H.aW},d2.trans' (QM hU a9)⟩
end
end
section
def Ya.fresh (m:Ya)(l:List BA):List BA:=l.filter fun s=>!decide (Qe m.nodes s<m.nodes.length)
theorem Jnz (m:Ya)(l:List BA)(D:i<l.length):m.fresh (l.take (i+1))=m.fresh (l.take i)++(if Qe m.nodes (Yc l i)<m.nodes.length then []else [Yc l i]):=by
 have e:l.take (i+1)=l.take i++ [Yc l i]:=by rw[aP,ag D,Xk l i D];rfl
 unfold Ya.fresh;rw[e,List.filter_append]
 congr 1
 by_cases h:Qe m.nodes (Yc l i)<m.nodes.length
 ·rw[if_pos h,az (by simp[h]),aY]
 ·rw[if_neg h,ay (by simp[h]),aY]
theorem EV (m:Ya)(l:List BA):(m.fresh l).length<=l.length:=List.length_filter_le _ _
section
variable {w w':World} {B h:Nat} {O O':Nat->Option Whose} {m:Ya} {X:WB} {ml:List (Zb×Lv)} {nb hn:Nat->Nat} {n k:Nat} {ad:Nat->aA}
theorem SQ (hp:Ye w B h O m X ml nb hn)(hf:m.nodes.length<=1000)(p:Option aA)(l:List BA)(cap:Nat)(hl:l.length<=1000)(hs:Strs w p l):
 ak prog 40 #[.pointer (ab ⟨h,0,aa⟩),.slice p l.length cap] w fun e w'=>(∃v,e=.returned v/\Zq w' w.heap.size v (m.fresh l))/\af w.heap.size w w':=by
 have I:Hid (∀i,i<l.length->∀W,af w.heap.size w W->ak prog 59 #[.pointer (ab ⟨h,0,aa⟩),.string (Yc l i)] W fun e w'=>e=.returned (J2 m nb (Yc l i))/\w'=W):=fun i D W hW=>wY (hp.below hW) (Yc l i) hf
 have HS:Hid (Strs w p l):=hs;have H:Hid (∀i,i<l.length->(Qe m.nodes (Yc l i)<m.nodes.length/\m.fresh (l.take (i+1))=m.fresh (l.take i)/\∃b,J2 m nb (Yc l i)=.pointer (ab ⟨b,0,aa⟩))∨(m.fresh (l.take (i+1))=m.fresh (l.take i)++ [Yc l i]/\J2 m nb (Yc l i)=.pointer aa)):=fun i D=>by
  have:=Jnz m l D;by_cases e:Qe m.nodes (Yc l i)<m.nodes.length
  ·rw[if_pos e,zj]at this;exact ax ⟨e,this,_,if_pos e⟩
  ·rw[if_neg e]at this;exact aD ⟨this,if_neg e⟩
 have a3:Hid (∀i,(m.fresh (l.take i)).length<=1000):=fun i=>by have:=EV m (l.take i);have:=List.length_take_le i l;have:=zg (i:=i) (l:=l);omega
 have a4:Hid (m.fresh (l.take l.length)=m.fresh l):=by show _=_;rw[zf]
 have a5:Hid (m.fresh (l.take 0)=[]):=rfl;generalize (fun i=>m.fresh (l.take i))=F at *;obtain⟨F,U⟩:∃F:Nat->List BA,F=fun i=>m.fresh (l.take i):=⟨_,rfl⟩
 have H:Hid (∀i,i<l.length->(F (i+1)=F i/\∃b,J2 m nb (Yc l i)=.pointer (ab ⟨b,0,aa⟩))∨(F (i+1)=F i++ [Yc l i]/\J2 m nb (Yc l i)=.pointer aa)):=by rw[U];exact fun i D=>(H.out i D).imp (fun h=>⟨h.2.1,h.2.2⟩) id
 have a3:Hid (∀i,(F i).length<=1000):=by rw[U];exact a3.out
 have a4:Hid (F l.length=m.fresh l):=by rw[U];exact a4.out
 have a5:Hid (F 0=[]):=by rw[U];exact a5.out
 generalize m.fresh l=R at *;clear hp hs hf U;obtain⟨tx,a6⟩:∃tx:Nat->BA,tx=Yc l:=⟨_,rfl⟩;have HC:Hid (∀i,i<l.length->∀W,af w.heap.size w W->∃b o,p=ab ⟨b,o,aa⟩/\W.cell? ⟨b,o+i,aa⟩=ab (.string (tx i))):=fun i D W hW=>by
  rw[a6];rcases HS.out.below hW with h0|⟨b,o,hp,_,hc⟩
  ·rw[h0]at D;exact absurd D (aj _)
  ·exact⟨b,o,hp,hc i D⟩
 rw[<-a6]at I H;clear a6 HS;obtain⟨Z,a7⟩:∃Z:Nat->bz,Z=fun i=>J2 m nb (tx i):=⟨_,rfl⟩
 have I:Hid (∀i,i<l.length->∀W,af w.heap.size w W->ak prog 59 #[.pointer (ab ⟨h,0,aa⟩),.string (tx i)] W fun e w'=>e=.returned (Z i)/\w'=W):=by rw[a7];exact I.out
 have H:Hid (∀i,i<l.length->(F (i+1)=F i/\∃b,Z i=.pointer (ab ⟨b,0,aa⟩))∨(F (i+1)=F i++ [tx i]/\Z i=.pointer aa)):=by rw[a7];exact H.out
 clear a7;generalize l.length=L at *;go_enter func40,ntmps40;go_wp2;go_loopw [5,10] (fun y x wr=>∃i:Nat,i<=L/\x=.int .i64 i/\Zq wr w.heap.size y (F i)/\af w.heap.size w wr) (fun _ x _=>L-(intOf x).toNat)
 case atStart=>exact⟨0,zb _,rfl,by rw[a5.out];exact Zq.nil _ _,Below.refl _ _⟩
 case round =>
  obtain⟨i,D,rfl,hO,hB⟩:=hrel;obtain⟨q,c,rfl,_⟩:=hO.form;have HO:Hid (Zq wr w.heap.size (.slice q (F i).length c) (F i)):=hO;have J:Hid _:=hB;clear hO hB;by_cases a9:i<L
  ·obtain⟨b,o,rfl,q1⟩:=HC.out i a9 wr J.out;have K:=I.out i a9 wr J.out;rcases H.out i a9 with⟨a0,b2,hP⟩|⟨a0,hP⟩
   ·have b0:Hid (F (i+1)=F i):=a0;rw[hP]at K;clear a0 hP I H HC;generalize (F i).length=fl at *;go_wp2_with fail
    refine K.mono ?_;rintro e w2 ⟨rfl,a2⟩;rw[a2];clear a2 w2 K;go_wp2;go_roundw
    case rel=>exact⟨i+1,by omega,by go_num,by rw[b0.out];exact HO.out,J.out⟩
    case measure=>simp[intOf];omega
   ·have b0:Hid (F (i+1)=F i++ [tx i]):=a0;rw[hP]at K;have b7:=a3.out i;have b5:=J.out.size;clear a0 hP I H HC;generalize tx i=t at *;generalize F i=Fi at *;go_wp2_with fail
    refine K.mono ?_;rintro e w2 ⟨rfl,a2⟩;rw[a2];clear a2 w2 K;go_wp2_with (first|(at_builtin;refine JfI rfl (.tmp 18) (.tmp 20) rfl w.heap.size (.slice q Fi.length c) Fi rfl (HO.out.kept (bR.alloc nR _)) ⟨wr.heap.size,0,aa⟩ t 1 rfl (by rw[aI _ _ _ _ rfl];rfl) (by omega) (by simp;omega) ?_;intro v8 w8 b1 b3;have b4:Hid (Zq w8 w.heap.size v8 (Fi++ [t])/\af w.heap.size w w8):=⟨b1,J.out.trans (((Below.refl _ wr).alloc nR _).mono b5 |>.trans b3)⟩;clear b1 b3))
    go_roundw
    case rel=>exact⟨i+1,by omega,by go_num,by rw[b0.out];exact b4.out.1,b4.out.2⟩
    case measure=>simp[intOf];omega
  ·have b6:i=L:=by omega
   have HR:Hid (F i=R):=by rw[b6];exact a4.out
   clear I H HC;generalize (F i).length=fl at *;go_wp2;go_ret;exact⟨⟨_,rfl,by rw[<-HR.out];exact HO.out⟩,J.out⟩
end
end
section
section
variable {w w':World} {B h:Nat} {O O':Nat->Option Whose} {m:Ya} {X:WB} {ml:List (Zb×Lv)} {nb hn:Nat->Nat} {n k:Nat} {ad:Nat->aA}
def Q4 (w:World)(B h:Nat)(O:Nat->Option Whose)(m:Ya)(w':World):Prop:=∃O' X ml nb hn,Ye w' B h O' m X ml nb hn/\Yd (fun k=>O k≠aa) (fun k=>O' k≠aa) w w'
theorem XE.dA (K:XE w B b S x)(U:w.heap.size<=w'.heap.size)(Z:∀k,S k->w'.heap[k]?=w.heap[k]?):XE w' B b S x:=by
 obtain⟨mp,D,H,I,J⟩:=K;exact⟨mp,D,H,I,J.aS U Z⟩
theorem OB:(prog.info? 107).map (fun i=>(i.zero,i.size,i.bytes))=ab (ab (.pointer aa),j5.k,8):=by kernel_rfl
theorem Ye.gI (hp:Ye w B h O m X ml nb hn){w2:World}(b1:af w.heap.size w w2)(hs:XE w2 w.heap.size hb S ⟨s,[]⟩)(hf:m.nodes.length<=1000)(U:af w2.heap.size w2 W){I:World}(a2:I=(W.alloc (.cells #[.pointer (ab ⟨hb,0,aa⟩),.string s,.bool ae] 109)).alloc (.cells #[.pointer (ab ⟨W.heap.size,0,aa⟩)] 107)):
 ∃J H,(∀ty,(Builtin.append_ #[69,69] ty #[X.vn,.slice (ab ⟨W.heap.size+1,0,aa⟩) 1 1]).run prog I=.ok J H)/\(∃q n c,J=.slice q n c)/\H.cell? ⟨h,31,aa⟩=ab X.vn/\H.frozen? ⟨h,31,aa⟩=ae/\Q4 w B h O (m.cE [s]) (H.setCell ⟨h,31,aa⟩ J):=by
 obtain⟨W1,Z⟩:=Xb (W.alloc (.cells #[.pointer (ab ⟨hb,0,aa⟩),.string s,.bool ae] 109));rw[<-Z]at a2;have b2:=QT Z;have a3:=Zk Z;have a0:=Zk a2;have a4:=b1.trans (U.mono b1.size);have a5:=a4.trans (a3.mono a4.size);have a6:=a5.trans (a0.mono a5.size);have b3:=JH Z;have b4:=(a0.block _ (by omega)).trans b3;have b5:I.cell? ⟨W.heap.size+1,0,aa⟩=ab (.pointer (ab ⟨W.heap.size,0,aa⟩)):=by
  rw[a2,<-b2,aI _ _ _ _ rfl];rfl
 have b6:W.heap.size+1<I.heap.size:=by rw[a2];simp;omega
 have D:=hp.below a6;have a7:((ah m.nodes.length).map nb).length=m.nodes.length:=by simp
 obtain⟨J,H,ha,K,h2,h3⟩:=vX (w:=I) (E:=j5) 69 107 _ 8 underlying69 OB rfl B X.vn ((ah m.nodes.length).map nb) D.cD (ab ⟨W.heap.size+1,0,aa⟩) [W.heap.size] 1 (aD ⟨W.heap.size+1,0,rfl,b6,fun i x hi j u hu=>by
  obtain⟨rfl,rfl⟩:i=0/\x=W.heap.size:=by
   cases i with
   |zero=>exact⟨rfl,by simpa using hi.symm⟩
   |succ i=>simp at hi
  cases j with
  |zero=>simp only[j5,List.getElem?_cons_zero,Option.some.injEq]at hu;rw[<-hu];exact b5
  |succ j=>simp[j5]at hu⟩) (fun e=>by cases e) (by rw[a7];unfold maxLen;show m.nodes.length+1<=_;omega) (by rw[a7];show(m.nodes.length+1)*8<=_;omega) D.base
 have b7:X.vn.ownBlock≠ab h:=fun e=>by have:=D.bU h e;rw[D.self]at this;cases this
 have a9:=h2.block h D.lt (fun e=>b7 e.symm);have b0:=hs.dH;have b8:XE I w.heap.size hb S ⟨s,[]⟩:=hs.dA (am U.size (am a3.size a0.size)) (fun k hk=>by
  have K:=(b0 k hk).2;have h2:=ao K U.size;exact(a0.block k (by omega)).trans ((a3.block k h2).trans (U.block k K)))
 obtain⟨O',c8,d0,g1,g2⟩:=hp.jO (g:=W.heap.size) a6 b8 a4.size (fun e=>by have:=(b0 _ e).2;have:=U.size;omega) b4 K h2 h3;obtain⟨q,c,hv,_⟩:=K.form;exact⟨J,H,ha,⟨q,_,c,hv⟩,(aq (a:=⟨h,31,aa⟩) a9).trans (D.cell 31).1,(World.frozen?_of_block (a:=⟨h,31,aa⟩) a9).trans (D.cell 31).2,O',_,ml,c8,d0,g1,g2⟩
theorem Q4.trans {m2:Ya}{D:World}{I:Nat->Option Whose}(hU:Yd (fun k=>O k≠aa) (fun k=>I k≠aa) w D)(h2:Q4 D B h I m2 H):Q4 w B h O m2 H:=by
 obtain⟨O',X',J,K,U,Z,g2⟩:=h2;exact⟨O',X',J,K,U,Z,hU.trans' g2⟩
theorem DF (hp:Ye w B h O m X ml nb hn)(p:Option aA)(l:List BA)(cap:Nat)(hl:m.nodes.length+l.length<=1000)(hx:∀x∈l,Jo x=al)(hs:Strs w p l)(b7:∀b o,p=ab ⟨b,o,aa⟩->O b=aa)(hE:Yi ad w O):
 ak prog 26 #[.pointer (ab ⟨h,0,aa⟩),.slice p l.length cap] w fun e w'=>e=.returned (.tuple #[])/\Q4 w B h O (m.cE l) w':=by
 have HC:Hid (∀i,i<l.length->∀S' W,Yd (fun k=>O k≠aa) S' w W->∃b o,p=ab ⟨b,o,aa⟩/\W.cell? ⟨b,o+i,aa⟩=ab (.string (Yc l i))):=fun i H S' W hU=>by
  rcases hs with h0|⟨b,o,hp,b8,hc⟩
  ·rw[h0]at H;exact absurd H (aj _)
  ·exact⟨b,o,hp,(aq (a:=⟨b,o+i,aa⟩) (hU.block b b8 (fun e=>e (b7 b o hp)))).trans (hc i H)⟩
 have HX:Hid (∀i,i<l.length->Jo (Yc l i)=al):=fun i H=>hx _ (by rw[Xk l i H];exact zh H)
 have HM:Hid (∀i,i<l.length->m.cE (l.take (i+1))=(m.cE (l.take i)).cE [Yc l i]):=fun i H=>by
  rw[show l.take (i+1)=l.take i++ [Yc l i] by rw[aP,ag H,Xk l i H];rfl,SK]
 have a6:Hid (∀i,i<l.length->(m.cE (l.take i)).nodes.length<=1000):=fun i H=>by
  show(m.nodes++_).length<=1000;rw[an,zi,zg];omega
 have a7:Hid _:=B8 m;have a9:Hid (m.cE (l.take l.length)=m.cE l):=by show _=_;rw[zf]
 obtain⟨F,hF⟩:∃F:Nat->Ya,F=fun i=>m.cE (l.take i):=⟨_,rfl⟩
 have HM:Hid (∀i,i<l.length->F (i+1)=(F i).cE [Yc l i]):=by rw[hF];exact HM.out
 have a6:Hid (∀i,i<l.length->(F i).nodes.length<=1000):=by rw[hF];exact a6.out
 have a7:Hid (F 0=m):=by rw[hF];exact a7.out
 have a9:Hid (F l.length=m.cE l):=by rw[hF];exact a9.out
 have U:Hid (Q4 w B h O m w):=⟨O,X,ml,nb,hn,hp,Yd.aJ bR⟩;obtain⟨D,hD⟩:∃D:Nat->World->Prop,D=fun i=>Q4 w B h O (F i):=⟨_,rfl⟩
 have b0:Hid (∀i,i<l.length->∀wr,D i wr->∃b o I vn J,p=ab ⟨b,o,aa⟩/\wr.cell? ⟨b,o+i,aa⟩=ab (.string (Yc l i)) /\
  ak prog 55 #[.string (Yc l i)] wr fun e w2=>∃K,e=.returned (.tuple #[.pointer (ab ⟨K,0,aa⟩),.nilIface])/\w2.drew.cell? ⟨h,31,aa⟩=ab (.slice I vn J) /\
   ak prog 28 #[.string (Yc l i)] w2.drew fun e W=>e=.returned (.string (Yc l i))/\W.cell? ⟨h,31,aa⟩=ab (.slice I vn J)/\∃q' n' c' Z,
    (W.alloc (.cells #[.pointer (ab ⟨K,0,aa⟩),.string (Yc l i),.bool ae] 109)).cell? ⟨h,31,aa⟩=ab (.slice I vn J) /\
    ((W.alloc (.cells #[.pointer (ab ⟨K,0,aa⟩),.string (Yc l i),.bool ae] 109)).alloc (.cells #[.pointer (ab ⟨W.heap.size,0,aa⟩)] 107)).cell? ⟨h,31,aa⟩=ab (.slice I vn J) /\
    (∀ty,(Builtin.append_ #[69,69] ty #[.slice I vn J,.slice (ab ⟨W.heap.size+1,0,aa⟩) 1 1]).run prog ((W.alloc (.cells #[.pointer (ab ⟨K,0,aa⟩),.string (Yc l i),.bool ae] 109)).alloc (.cells #[.pointer (ab ⟨W.heap.size,0,aa⟩)] 107))=.ok (.slice q' n' c') Z) /\
    Z.cell? ⟨h,31,aa⟩=ab (.slice I vn J)/\Z.frozen? ⟨h,31,aa⟩=ae/\Hid (D (i+1) (Z.setCell ⟨h,31,aa⟩ (.slice q' n' c')))):=fun i H wr b2=>by
  rw[hD]at b2;obtain⟨O1,X1,e4,c8,e5,p1,U1⟩:=b2;obtain⟨b,o,g1,g2⟩:=HC.out i H _ wr U1;obtain⟨I,J,hv,_⟩:=p1.cD.form;have d5:=hE.next U1;refine⟨b,o,I,((ah (F i).nodes.length).map c8).length,J,g1,g2,(UC ad (Yc l i) wr (by have:=QF (HX.out i H);omega) (fun W hW=>(d5.below hW).here.q.c3)).mono fun e w2 hq=>?_⟩;obtain⟨hq,b1⟩:=hq;rcases hq with⟨_,K,S,e1,e2⟩|⟨b3,_⟩
  ·have c2:=(p1.below b1).cell 31;refine⟨K,e1,by rw[<-hv];exact c2.1,(Xs (Yc l i) w2.drew (by have:=QF (HX.out i H);omega)).mono fun e W hq=>?_⟩;obtain⟨e3,d6⟩:=hq;have b4:=(Below.refl _ w2).drew.trans d6;obtain⟨v',Z,a1,⟨q',n',c',rfl⟩,a3,a4,a5⟩:=p1.gI b1 e2 (a6.out i H) b4 rfl;rw[hv]at a1 a3;have a0:=b1.trans (b4.mono b1.size);have k1:=(p1.below (a0.alloc a0.size (.cells #[.pointer (ab ⟨K,0,aa⟩),.string (Yc l i),.bool ae] 109))).cell 31;have k2:=(p1.below ((a0.alloc a0.size (.cells #[.pointer (ab ⟨K,0,aa⟩),.string (Yc l i),.bool ae] 109)).alloc (by simp;have:=a0.size;omega) (.cells #[.pointer (ab ⟨W.heap.size,0,aa⟩)] 107))).cell 31;exact⟨e3,by rw[<-hv];exact((p1.below a0).cell 31).1,q',n',c',Z,by rw[<-hv];exact k1.1,by rw[<-hv];exact k2.1,a1,a3,a4,by rw[hD];show Q4 w B h O (F (i+1)) _;rw[HM.out i H];exact Q4.trans U1 a5⟩
  ·rw[HX.out i H]at b3;cases b3
 have a2:Hid (∀i W,i=l.length->Q4 w B h O (F i) W->Q4 w B h O (m.cE l) W):=fun i W e hW=>by rw[<-a9.out,<-e];exact hW
 generalize Q4 w B h O (m.cE l)=G at *;have U:Hid (Q4 w B h O (F 0) w):=by rw[a7.out];exact U.out
 have U:Hid (D 0 w):=by rw[hD];exact U.out
 have a2:Hid (∀i W,i=l.length->D i W->G W):=by rw[hD];exact a2.out
 have e6:l.length<=1000:=by omega
 clear hp hl hx hs b7 hE HC HX HM a6 a7 a9 hF hD;obtain⟨tx,b5⟩:∃tx:Nat->BA,tx=Yc l:=⟨_,rfl⟩;rw[<-b5]at b0;clear b5;generalize l.length=L at *;go_enter func26,ntmps26;go_wp2;go_loopw [10] (fun x wr=>∃i:Nat,i<=L/\x=.int .i64 i/\D i wr) (fun x _=>L-(intOf x).toNat)
 case atStart=>exact⟨0,zb _,rfl,U.out⟩
 case round =>
  obtain⟨i,H,rfl,hd⟩:=hrel;have HD:Hid _:=hd;clear hd;by_cases d7:i<L
  ·obtain⟨b,o,I,vn,J,rfl,q1,b6⟩:=b0.out i d7 wr HD.out;clear b0 a2 U HD;generalize tx i=t at *;go_wp2_with fail
   refine b6.mono ?_;rintro e w2 ⟨K,rfl,e7,d8⟩;clear b6;go_wp2_with fail
   go_region_law (first|(go_simp;go_at_call 28;refine d8.mono ?_;rintro e w5 ⟨rfl,d0,q',n',c',Z,d1,d2,ha,d3,d4,d9⟩;go_simp)|(refine XU rfl (.tmp 23) (.tmp 29) 69 69 rfl _ _ (by first|(simp[Act.eval];done)|(simp[Act.eval,Act.put];done)) (by first|(simp[Act.eval];done)|(simp[Act.eval,Act.put];done)) (fun ty=>ha ty) ?_))
   all_goals clear ha d0 d1 d2
   all_goals go_wp2
   all_goals go_roundw
   all_goals first|exact⟨i+1,by omega,by go_num,d9.out⟩|(simp[intOf];omega)
  ·have e0:i=L:=by omega
   have HG:Hid _:=a2.out i wr e0 HD.out;clear b0 a2 U;go_wp2
   go_end0
   exact⟨rfl,HG.out⟩
end
end
section
open Ring
def Ya.bare (c:Xg):Ya:=⟨[],[],ai 6 aa,ai 6 0,ai 6 ⟨#[]⟩,aa,[c],0,0,0,[]⟩
theorem EE :Qe l s<l.length↔∃x∈l,x.1.name=s:=by
 unfold Qe;rw[List.findIdx_lt_length];simp
theorem SL (m:Ya){x:BA}(h:x≠s):Qe (m.cE [s]).nodes x<(m.cE [s]).nodes.length↔Qe m.nodes x<m.nodes.length:=by
 rw[EE,EE];show(∃y∈m.nodes++ [((⟨s,[]⟩,al):Je×Bool)],y.1.name=x)↔_;constructor
 ·rintro⟨y,D,e⟩;rcases List.mem_append.1 D with D|D
  ·exact⟨y,D,e⟩
  ·rw[List.mem_singleton.1 D]at e;exact absurd e.symm h
 ·rintro⟨y,D,e⟩;exact⟨y,List.mem_append_left _ D,e⟩
theorem LV (m:Ya)(a b:List BA):(m.cE a).cE b=m.cE (a++b):=by
 unfold Ya.cE;rw[za,<-aR]
theorem tI:∀(l:List BA) (m:Ya),l.Nodup->m.eX l=m.cE (m.fresh l)
 | [],m,_=>(B8 m).symm
 |s::l,m,h=>by
  obtain⟨H,D⟩:=List.nodup_cons.1 h;rw[CZ];by_cases e:Qe m.nodes s<m.nodes.length
  ·rw[if_pos e,tI l m D]
   congr 1
   unfold Ya.fresh;rw[az (by simp[e])]
  ·rw[if_neg e];have I:({m with nodes:=m.nodes++ [(⟨s,[]⟩,al)]}:Ya)=m.cE [s]:=rfl;rw[I,tI l (m.cE [s]) D,LV]
   congr 1
   unfold Ya.fresh;rw[ay (by simp[e])];show s::_=s::_
   congr 1
   refine List.filter_congr fun x J=>?_
   have K:x≠s:=fun U=>H (U▸J)
   have:=SL m K;by_cases q:Qe m.nodes x<m.nodes.length
   ·rw[decide_eq_true q,decide_eq_true (this.2 q)]
   ·rw[decide_eq_false q,decide_eq_false (fun e=>q (this.1 e))]
theorem NX (c:Xg)(l:List BA):(Ya.bare c).fresh l=l:=by
 unfold Ya.fresh;rw[List.filter_eq_self];intro x _;have D:decide (Qe (Ya.bare c).nodes x<(Ya.bare c).nodes.length)=false:=decide_eq_false (fun e=>absurd e (aj _));rw[D];rfl
theorem pM (c:Xg){l:List BA}(h:l.Nodup):Ya.new l c=(Ya.bare c).cE l:=by
 have:=tI l (Ya.bare c) h;rw[NX]at this;exact this
theorem WZ.kQ {m:Ya}(D:WZ n k m){l:List BA}(J:∀x∈l,Jo x=al):WZ n k (m.cE l):=by
 refine⟨D.bO,D.msgs,D.la,D.lt,D.ls,D.gD,D.act,D.many,D.dN,D.dO,D.cU,D.asks,D.bI,fun i H=>?_⟩;have H:i<(m.nodes++l.map fun s=>((⟨s,[]⟩,al):Je×Bool)).length:=H;rw[an,zi]at H;show jJ (Jc (m.nodes++l.map fun s=>((⟨s,[]⟩,al):Je×Bool)) i).1;by_cases e:i<m.nodes.length
 ·have:Jc (m.nodes++l.map fun s=>((⟨s,[]⟩,al):Je×Bool)) i=Jc m.nodes i:=by
   unfold Jc;rw[ac,ac,av e]
  rw[this];exact D.nodes i e
 ·have I:i-m.nodes.length<l.length:=by omega
  have:Jc (m.nodes++l.map fun s=>((⟨s,[]⟩,al):Je×Bool)) i=(⟨l[i-m.nodes.length],[]⟩,al):=by
   unfold Jc;rw[ac,au (by omega),ze,ag I];rfl
  rw[this];exact jJ.new (QF (J _ (zh I))).2
theorem GO {c:Xg}(K:¬0<(Jg c).1)(U:XS n k c):WZ n k (Ya.bare c):=by
 have H:∀i,Xf (ai 6 aa) i=none:=fun i=>by
  unfold Xf;rw[ac,ap];split<;>rfl
 refine⟨zb _,(fun x I=>by cases I),rfl,rfl,rfl,fun i=>?_,Nat.lt_succ_self 0,by show 1<=12;decide,fun _=>rfl,(fun a e=>by cases e),fun j D=>?_,(fun i a e=>by have e:Xf (ai 6 aa) i=ab a:=e;rw[H]at e;cases e),(fun a e=>by cases e),(fun i J=>absurd J (aj i))⟩
 ·show(Yc (ai 6 ⟨#[]⟩) i).size<=1000;unfold Yc;rw[ac,ap];split<;>decide
 ·have D:j<1:=D;rw[show j=0 by omega];exact⟨K,U⟩
theorem iZ.fO {ad:Nat->aA}{w:World}(h:iZ ad w)(H:∀k,k<w.heap.size->W.heap[k]?=w.heap[k]?):iZ ad W:=by
 have D:∀{b:Nat} {v:bz},w.cell? ⟨b,0,aa⟩=ab v->W.cell? ⟨b,0,aa⟩=ab v:=fun {b v} e=>(aq (a:=⟨b,0,aa⟩) (H b (Yl e))).trans e
 refine⟨⟨D h.q.c1,D h.q.c2,D h.q.c3,D h.q.c4,D h.q.c5⟩,⟨?_,TabIs.dJ h.x.2 H⟩,h.sv.dI H,D h.bO,D h.held⟩;obtain⟨z,I⟩:=h.x.1;exact⟨z,D I⟩
section
variable {w w':World} {B h:Nat} {O O':Nat->Option Whose} {m:Ya} {X:WB} {ml:List (Zb×Lv)} {nb hn:Nat->Nat} {n k:Nat} {ad:Nat->aA}
def yY (c:fB):WB:=⟨.slice aa 0 0,fun _=>⟨aa,ae,⟨#[]⟩,0,0⟩,.slice aa 0 0,aa,⟨⟨0,0,[]⟩,aa,0⟩,c,0,0,0,.slice aa 0 0⟩
open Classical in
theorem JsZ {c:fB}(K:w'.heap[h]?=ab (.cells (Zi (yY c)) 74 (0,0)))(hB:w.heap.size<=h)(hc:Yn w' c.c c.p c.cap)(a0:∀b o,c.p=ab ⟨b,o,aa⟩->w.heap.size<=b/\b<w'.heap.size/\b≠h):∃O,Ye w' w.heap.size h O (Ya.bare c.c) (yY c) [] (fun _=>0) (fun _=>0)/\∀k,O k≠aa->w.heap.size<=k:=by
 have a2:h<w'.heap.size:=by
  rcases aN h w'.heap.size with H|H
  ·exact H
  ·rw[Array.getElem?_eq_none H]at K;cases K
 obtain⟨O,I⟩:∃O:Nat->Option Whose,O=fun k=>if k=h then ab .self else if ∃o,c.p=ab ⟨k,o,aa⟩then ab .bD else none:=⟨_,rfl⟩
 have oh:O h=ab .self:=by rw[I];exact if_pos rfl
 have oc:∀b o,c.p=ab ⟨b,o,aa⟩->O b=ab .bD:=fun b o e=>by
  rw[I];show(if b=h then _ else _)=_;rw[if_neg (a0 b o e).2.2,if_pos ⟨o,e⟩]
 have U:∀k o,O k=ab o->w.heap.size<=k/\k<w'.heap.size:=fun k o e=>by
  rw[I]at e;have e:(if k=h then ab Whose.self else if ∃o,c.p=ab ⟨k,o,aa⟩then ab .bD else aa)=ab o:=e;by_cases Z:k=h
  ·rw[Z];exact⟨hB,a2⟩
  ·rw[if_neg Z]at e;by_cases D:∃o,c.p=ab ⟨k,o,aa⟩
   ·obtain⟨o2,D⟩:=D;have:=a0 k o2 D;omega
   ·rw[if_neg D]at e;cases e
 have ha:∀i,Xf (ai 6 aa) i=none:=fun i=>by
  unfold Xf;rw[ac,ap];split<;>rfl
 refine⟨O,{aO:=U,row:=Zc.nil _ _ _,cX:=(fun k e=>by cases e),dK:=rfl,bD:=(fun x hx=>by cases hx),bV:=Zc.nil _ _ _,cS:=(fun k e=>by cases e),cD:=Zc.nil _ _ _,bU:=(fun k e=>by cases e),node:=(fun i J=>absurd J (aj i)),mem:=(fun i J=>absurd J (aj i)),ask:=fun i _=>?_,bI:=rfl,cf:=⟨hc,oc⟩,blk:=K,self:=oh,cV:=rfl,dF:=(fun e=>by cases e),aW:=⟨rfl,rfl,rfl⟩},fun k e=>?_⟩
 ·show kA _ _ _ _ (Xf (ai 6 aa) i) _ _ _;rw[ha];rfl
 ·cases D:O k with
  |none=>exact absurd D e
  |some o=>exact(U k o D).1
end
end
section
open Ring
section
variable {w w':World} {B h:Nat} {O O':Nat->Option Whose} {m:Ya} {X:WB} {ml:List (Zb×Lv)} {nb hn:Nat->Nat} {ad:Nat->aA}
theorem Yd.jG {K U:World}(D:af H.heap.size H K)(Z:∀k,O k≠aa->H.heap.size<=k)(I:Yd (fun k=>O k≠aa) S K U):af H.heap.size H U:=⟨I.os.trans D.os,I.tape.trans D.tape,I.output.trans D.output,am D.size I.size,fun k J=>(I.block k (ao J D.size) (fun e=>by have:=Z k e;omega)).trans (D.block k J)⟩
def qJ (ad:Nat->aA)(w:World)(l:List BA)(n k:Int)(e:Ending)(w':World):Prop :=
 ((0<(Zr l n k).1/\∃D,e=.returned (.tuple #[.pointer aa,D])/\Jd w' ad D (Zr l n k).1 (Zr l n k).2) ∨
  (¬0<(Zr l n k).1/\∃h c,e=.returned (.tuple #[.pointer (ab ⟨h,0,aa⟩),.nilIface])/\c.n=n/\c.k=k/\XC (Xy wX) l c.L/\¬0<(Jg c).1/\∃O X ml nb hn,Ye w' w.heap.size h O ((Ya.bare c).cE l) X ml nb hn))/\af w.heap.size w w'
theorem GR (ad:Nat->aA)(p:Option aA)(l:List BA)(cap:Nat)(n k:Int)(w:World)(hl:l.length<=1000)(hc:l.length<=cap)(hx:∀x∈l,x.size<=1000)(hn:Zt n)(hk:Zt k)(hs:Strs w p l)(hE:iZ ad w):
 ak prog 7 #[.slice p l.length cap,.int .i64 n,.int .i64 k] w (qJ ad w l n k):=by
 have a4:=FN ad p l cap n k w hl hc hx hn hk hs hE;by_cases J:0<(Zr l n k).1
 ·have a3:ak prog 25 #[.slice p l.length cap,.int .i64 n,.int .i64 k] w fun e I=>∃t v,e=.returned (.tuple #[.agg #[.int .i64 0,.int .i64 0,.slice aa 0 0],.iface t v])/\Hid (∀W,af I.heap.size I W->qJ ad w l n k (.returned (.tuple #[.pointer aa,.iface t v])) W):=a4.mono fun e I H=>by
   obtain⟨H,Z⟩:=H;rcases H with⟨_,ev,K,h2⟩|⟨K,_⟩
   ·obtain⟨t,v,rfl⟩:=h2.some J;exact⟨t,v,K,fun W hW=>⟨ax ⟨J,_,rfl,h2.below hW⟩,Z.trans (hW.mono Z.size)⟩⟩
   ·exact absurd J K
  generalize qJ ad w l n k=G at *;clear a4 J hE hs hk hn hx hc hl;go_enter func7,ntmps7;go_wp2_with fail
  refine a3.mono ?_;rintro e I ⟨t,v,rfl,HG⟩;clear a3;go_wp2;exact HG.out _ (bR.alloc nR _)
 ·have a3:ak prog 25 #[.slice p l.length cap,.int .i64 n,.int .i64 k] w fun e I=>∃c:fB,e=.returned (.tuple #[.agg #[.int .i64 c.c.n,.int .i64 c.c.k,.slice c.p c.c.L.length c.cap],.nilIface])/\Hid (∀D w3,D=I.alloc (.cells #[.int .i64 c.c.n,.int .i64 c.c.k,.slice c.p c.c.L.length c.cap] 58)->w3=D.alloc (.cells #[.slice aa 0 0,.pointer aa,.bool ae,.string ⟨#[]⟩,.int .i64 0,.int .i64 0,.pointer aa,.bool ae,.string ⟨#[]⟩,.int .i64 0,.int .i64 0,.pointer aa,.bool ae,.string ⟨#[]⟩,.int .i64 0,.int .i64 0,.pointer aa,.bool ae,.string ⟨#[]⟩,.int .i64 0,.int .i64 0,.pointer aa,.bool ae,.string ⟨#[]⟩,.int .i64 0,.int .i64 0,.pointer aa,.bool ae,.string ⟨#[]⟩,.int .i64 0,.int .i64 0,.slice aa 0 0,.pointer aa,.int .i64 0,.int .i64 0,.slice aa 0 0,.int .i64 c.c.n,.int .i64 c.c.k,.slice c.p c.c.L.length c.cap,.int .i64 0,.int .i64 0,.int .i64 0,.slice aa 0 0] 74)->ak prog 26 #[.pointer (ab ⟨D.heap.size,0,aa⟩),.slice p l.length cap] w3 fun e w4=>e=.returned (.tuple #[])/\Hid (qJ ad w l n k (.returned (.tuple #[.pointer (ab ⟨D.heap.size,0,aa⟩),.nilIface])) w4)):=a4.mono fun e I H=>by
   obtain⟨H,Z⟩:=H;rcases H with⟨K,_⟩|⟨_,c,K,h2,h3,h4,h5,h6,h7⟩
   ·exact absurd K J
   ·refine⟨c,K,fun D w3 a0 U=>?_⟩;have a6:=Zk a0;have b3:=Zk U;have a7:=a6.trans (b3.mono a6.size);have a5:=Z.trans (a7.mono Z.size);have b4:=a6.size;have d1:=fQ U;have b5:w3.heap[D.heap.size]?=ab (.cells (Zi (yY c)) 74 (0,0)):=by
     rw[U];show(D.heap.push _)[D.heap.size]?=_;rw[Array.getElem?_push_size];rfl
    obtain⟨O,hp,hO⟩:=JsZ (w:=w) b5 (am Z.size b4) (h6.below a7) (fun b o e=>⟨(h7 b o e).1,by have:=(h7 b o e).2;omega,by have:=(h7 b o e).2;omega⟩);have hN:¬0<(Xj l).1:=fun h=>J (by unfold Zr;rw[if_pos h];exact h)
    obtain⟨_,a9,d2⟩:=QV (l:=l) (by omega);refine(DF (ad:=ad) hp p l cap (by show 0+l.length<=1000;omega) (YP (by omega)).1 (hs.below a5) (fun b o e=>?_) (fun W d3 a2=>hE.fO (fun k hk=>?_))).mono fun e w4 H=>⟨H.1,aD ⟨J,D.heap.size,c.c,rfl,h2,h3,h4,h5,?_⟩,?_⟩
    ·cases e2:O b with
     |none=>rfl
     |some o2 =>
      have h8:=hO b (by rw[e2];exact fun e=>by cases e);rcases hs with h0|⟨b',o',b6,d4,_⟩
      ·rw[h0]at a9;exact absurd a9 (by decide)
      ·rw[b6]at e;injection e with e;injection e with e;omega
    ·have h8:O k=none:=by
      cases e2:O k with
      |none=>rfl
      |some o2=>have:=hO k (by rw[e2];exact fun e=>by cases e);omega
     exact(a2 k (ao hk a5.size) h8).trans (a5.block k hk)
    ·obtain⟨O4,X4,b0,b1,b2,g1,_⟩:=H.2;exact⟨O4,X4,b0,b1,b2,g1⟩
    ·obtain⟨O4,X4,b0,b1,b2,_,g2⟩:=H.2;exact Yd.jG a5 hO g2
  generalize qJ ad w l n k=G at *;clear a4 J hE hs hk hn hx hc hl;go_enter func7,ntmps7;go_wp2_with fail
  refine a3.mono ?_;rintro e I ⟨c,rfl,HG⟩;obtain⟨D,a0⟩:=Xb (I.alloc (.cells #[.int .i64 c.c.n,.int .i64 c.c.k,.slice c.p c.c.L.length c.cap] 58));obtain⟨w3,U⟩:=Xb (D.alloc (.cells #[.slice aa 0 0,.pointer aa,.bool ae,.string ⟨#[]⟩,.int .i64 0,.int .i64 0,.pointer aa,.bool ae,.string ⟨#[]⟩,.int .i64 0,.int .i64 0,.pointer aa,.bool ae,.string ⟨#[]⟩,.int .i64 0,.int .i64 0,.pointer aa,.bool ae,.string ⟨#[]⟩,.int .i64 0,.int .i64 0,.pointer aa,.bool ae,.string ⟨#[]⟩,.int .i64 0,.int .i64 0,.pointer aa,.bool ae,.string ⟨#[]⟩,.int .i64 0,.int .i64 0,.slice aa 0 0,.pointer aa,.int .i64 0,.int .i64 0,.slice aa 0 0,.int .i64 c.c.n,.int .i64 c.c.k,.slice c.p c.c.L.length c.cap,.int .i64 0,.int .i64 0,.int .i64 0,.slice aa 0 0] 74));have b7:=HG.out D w3 a0 U;have a2:=JH a0;have x0:=(Xa a2 0).1;have x1:=(Xa a2 1).1;have x2:=(Xa a2 2).1;have b8:Hid _:=a0;have c8:Hid _:=U;clear a3 HG a2 a0 U;generalize c.c.L.length=cl at *;generalize c.c.n=cn at *;generalize c.c.k=ck at *;go_wp2_with (first|rw[<-c8.out]|rw[<-b8.out]|fail)
  refine b7.mono ?_;rintro e w4 ⟨rfl,d0⟩;go_wp2;exact d0.out
end
end
section
section
variable {w w':World} {B h:Nat} {O O':Nat->Option Whose} {m:Ya} {X:WB} {ml:List (Zb×Lv)} {nb hn:Nat->Nat} {n k:Nat} {ad:Nat->aA}
theorem XM.dA (h:XM w B b S a)(Z:w.heap.size<=w'.heap.size)(hk:∀k,S k->w'.heap[k]?=w.heap[k]?):XM w' B b S a:=by
 obtain⟨⟨H,P,F,T,asks,I,J,mm,D,row,K⟩,U⟩:=h;exact⟨⟨H,P,F,T,asks,I,J,mm,D,row,K.aS Z hk⟩,U⟩
theorem XM.dH (h:XM w B b S a):∀k,S k->B<=k/\k<w.heap.size:=by
 obtain⟨⟨I,P,F,T,asks,J,K,mm,D,row,H⟩,U⟩:=h;exact H.aO
theorem XM.base (h:XM w B' b S a)(hB:B<=B'):XM w B b S a:=by
 obtain⟨⟨J,P,F,T,asks,K,U,mm,D,row,H⟩,Z⟩:=h;exact⟨⟨J,P,F,T,asks,K,U,mm,D,row,{H with aO:=fun k I=>⟨am hB (H.aO k I).1,(H.aO k I).2⟩}⟩,Z⟩
theorem sC (J:Ye w B h O m X ml nb hn):ak prog 39 #[.pointer (ab ⟨h,32,aa⟩)] w fun e w'=>e=.returned (.bool m.mover.isSome)/\w'=w:=by
 have H:w.cell? ⟨h,32,aa⟩=ab (J3 X.mp):=(J.cell 32).1;have D:=J.bI;cases I:m.mover with
 |none =>
  rw[I]at D;have D:=D;rw[D]at H;change w.cell? ⟨h,32,aa⟩=ab (.pointer aa)at H;show ak _ _ _ _ fun e w'=>e=.returned (.bool ae)/\_
  clear D I J;go_enter func39,ntmps39;go_wp2;go_ret;exact⟨rfl,rfl⟩
 |some a =>
  rw[I]at D;obtain⟨b,K,_⟩:=D;rw[K]at H;change w.cell? ⟨h,32,aa⟩=ab (.pointer (ab ⟨b,0,aa⟩))at H;show ak _ _ _ _ fun e w'=>e=.returned (.bool al)/\_
  clear K I J;go_enter func39,ntmps39;go_wp2;go_ret;exact⟨rfl,rfl⟩
theorem Ye.rH (D:Ye w B h O m X ml nb hn){K:Nat->Prop}(hX:X.mp=ab b)(hm:m.mover.isSome)(U:XM w' B b K a)(I:Yd (fun k=>O k=ab .bI) K w w')(a0:iR w O X.nx):
 ∃O',Ye w' B h O' {m with mover:=ab a} X ml nb hn/\(∀k,w.heap.size<=k->k<w'.heap.size->¬K k->O' k=ab .bD)/\Yd (fun k=>O k≠aa) (fun k=>O' k≠aa) w w':=by
 have J:=Qv.call (t:=.bI) (fun e=>by cases e) D.aO D.base I (fun k H=>(U.dH k H).2);refine⟨_,{D.toXJ.mJ (m':={m with mover:=ab a}) (X':=X) J rfl rfl rfl ⟨rfl,rfl,rfl⟩ rfl rfl rfl rfl ?_ (D.cf.kept J.bD J.size (fun k H=>J.kept k _ H (fun e=>by cases e) (fun e=>by cases e)))with blk:=?_,self:=?_,cV:=D.cV,dF:=fun _=>D.dF hm,aW:=D.aW},fun k Z h2 h3=>oK (fun k o e=>(D.aO k o e).2) h3 Z h2,QM ⟨I.os,I.tape,I.output,I.size,fun k H h=>I.block k H (fun e=>h (ax e)),fun k H=>(I.new k H).imp (fun h=>ax h) id⟩ I.new⟩
 ·refine⟨b,hX,?_,a0.kept J.bD J.size (fun k H=>J.kept k _ H (fun e=>by cases e) (fun e=>by cases e))⟩;have e:(fun k=>turnO O .bI K w.heap.size w'.heap.size k=ab .bI)=K:=funext fun k=>propext (ZU (fun e=>by cases e) k)
  rw[e];exact U
 ·exact(I.block h D.lt (fun e=>by have e:O h=ab .bI:=e;rw[D.self]at e;cases e)).trans D.blk
 ·exact(J.same .self h (fun e=>by cases e) (fun e=>by cases e)).2 D.self
end
end
section
section
variable {w w':World} {B h:Nat} {O O':Nat->Option Whose} {m:Ya} {X:WB} {ml:List (Zb×Lv)} {nb hn:Nat->Nat} {n k:Nat} {ad:Nat->aA}
theorem RQ (H:WZ n k m):(m.aB.length:Int)=(m.aC:Int)+1+(if m.mover.isSome then 1 else 0):=by
 cases D:m.mover with
 |none=>have:=H.dN D;simp;omega
 |some a=>have:=H.dO a D;simp;omega
theorem EL (K:Ye w B h O m X ml nb hn)(U:WZ n k m):ak prog 22 #[.pointer (ab ⟨h,0,aa⟩)] w fun e w'=>e=.returned (.tuple #[.int .i64 m.aB.length,.int .i64 m.aC])/\af w.heap.size w w':=by
 have I:=sC K;have D:Hid _:=RQ U;have hc:w.cell? ⟨h,39,aa⟩=ab (.int .i64 X.act):=(K.cell 39).1;rw[K.aW.1]at hc;have a0:m.aC<=100:=by have:=U.act;have:=U.many;omega
 clear K U;generalize m.aB.length=L at *;generalize m.aC=a at *;cases J:m.mover.isSome with
 |false =>
  rw[J]at I D;have Z:Hid ((L:Int)=(a:Int)+1):=by show _=_;have:=D.out;simpa using this
  clear D J;go_enter func22,ntmps22;go_wp2_with fail
  refine I.mono ?_;rintro e w1 ⟨rfl,H⟩;rw[H];clear H w1;go_wp2;go_quiet (fail)
  go_wp2
  go_ret2
  refine⟨?_,below_drewN bR _⟩;rw[Z.out];rfl
 |true =>
  rw[J]at I D;have Z:Hid ((L:Int)=(a:Int)+1+1):=by show _=_;have:=D.out;simpa using this
  clear D J;go_enter func22,ntmps22;go_wp2_with fail
  refine I.mono ?_;rintro e w1 ⟨rfl,H⟩;rw[H];clear H w1;go_wp2;go_quiet (fail)
  go_wp2
  go_ret2
  refine⟨?_,below_drewN bR _⟩;rw[Z.out];rfl
theorem KI (hp:Ye w B h O m X ml nb hn)(who:Int):ak prog 23 #[.pointer (ab ⟨h,0,aa⟩),.int .i64 who] w fun e w'=>e=.returned (.string (m.state who))/\af w.heap.size w w':=by
 have I:=uM who w;by_cases J:0<=who/\who<6
 ·obtain⟨i,rfl⟩:∃i:Nat,who=(i:Int):=⟨who.toNat,by omega⟩;have hi:i<6:=by omega
  rw[decide_eq_true J]at I;have a0:=XV hp hi;have H:Hid (m.state (i:Int)=match Xf m.asks i with|none=>pQ|some a=>a.st.word):=by show _=_;unfold Ya.state;rw[if_neg (by omega),Int.toNat_natCast];cases Xf m.asks i<;>rfl
  have z1:(0:Int)<=(i:Int):=by omega
  have z2:(i:Int)<6:=by omega
  cases ha:Xf m.asks i with
  |none =>
   rw[ha]at a0 H;have K:Hid _:=H.out;generalize m.state (i:Int)=R at *;clear H hp J ha;go_enter func23,ntmps23;go_wp2_with fail
   refine I.mono ?_;rintro e U ⟨rfl,D⟩;rw[D];clear D U;go_wp2_with fail
   refine a0.mono ?_;rintro e w2 ⟨rfl,Z⟩;have HB:Hid _:=Z;clear Z;go_wp2;go_ret;exact⟨by rw[K.out];rfl,HB.out⟩
  |some a =>
   rw[ha]at a0 H;have K:Hid (m.state (i:Int)=kV (ab a)):=H.out;generalize m.state (i:Int)=R at *;clear H hp J ha;generalize kV (ab a)=sw at *;go_enter func23,ntmps23;go_wp2_with fail
   refine I.mono ?_;rintro e U ⟨rfl,D⟩;rw[D];clear D U;go_wp2_with fail
   refine a0.mono ?_;rintro e w2 ⟨rfl,Z⟩;have HB:Hid _:=Z;clear Z;go_wp2;go_ret;exact⟨by rw[K.out];rfl,HB.out⟩
 ·rw[decide_eq_false J]at I;have K:Hid (m.state who=⟨#[105,100,108,101]⟩):=by show _=_;unfold Ya.state;rw[if_pos (by omega)];rfl
  generalize m.state who=R at *;clear hp J;go_enter func23,ntmps23;go_wp2_with fail
  refine I.mono ?_;rintro e U ⟨rfl,D⟩;rw[D];clear D U;go_wp2;go_ret;exact⟨by rw[K.out];rfl,Below.refl _ _⟩
end
end
theorem Joe (w:World):ak prog 73 #[.slice aa 0 0] w fun e w'=>e=.returned (.slice aa 0 0)/\w'=w:=by
 have B:∀W,Sem.run prog (binOp .eql 55 (.slice aa 0 0) (.slice aa 0 0)) W=.ok (.bool al) W:=fun W=>by kernel_rfl
 go_enter func73,ntmps73;go_wp2;go_ret;exact⟨rfl,rfl⟩
theorem MN (ad:aA)(c:Nat)(w:World):ak prog 73 #[.slice (ab ad) 0 c] w fun e w'=>(∃B,e=.returned B/\Zc mE 81 w' w.heap.size B [])/\af w.heap.size w w':=by
 have D:∀W,Sem.run prog (binOp .eql 55 (.slice (ab ad) 0 c) (.slice aa 0 0)) W=.ok (.bool ae) W:=fun W=>by kernel_rfl
 go_enter func73,ntmps73;go_wp2;go_ret;refine⟨⟨_,rfl,rfl,aD ⟨w.heap.size,0,#[],rfl,aw _,?_,aw _,by unfold maxLen;omega,rfl,rfl⟩⟩,bR.alloc nR _⟩;show(w.heap.push _)[w.heap.size]?=_;simp
theorem V2 (q:Option aA)(l:List (Zb×Lv))(c:Nat)(w:World)(hr:Ql mE w q l)(hq:q=aa->l=[]/\c=0)(hl:l.length<=1000):ak prog 73 #[.slice q l.length c] w fun e w'=>(∃H,e=.returned H/\Zc mE 81 w' w.heap.size H l)/\af w.heap.size w w':=by
 cases q with
 |none =>
  obtain⟨D,I⟩:=hq rfl;subst D I;exact(Joe w).mono fun e w' B=>⟨⟨_,B.1,Zc.nil _ _ _⟩,by rw[B.2];exact Below.refl _ _⟩
 |some ad =>
  by_cases J:l=[]
  ·subst J;exact(MN ad c w).mono fun e w' B=>⟨B.1,B.2⟩
  ·rcases hr with D|⟨b,o,B,a5,O⟩
   ·exact absurd D J
   obtain rfl:ad=⟨b,o,aa⟩:=Option.some.inj B;obtain⟨U,Z,a0,a2,a3⟩:=info_parts oR;have a4:∀j u,(Qb mE l)[j]?=ab u->w.cell? ⟨b,o+j,aa⟩=ab u:=fun j u hj=>by
    have:=Ql.cells (E:=mE) O j u hj;by_cases K:j=0
    ·subst K;simpa[Addr.add]using this
    ·simpa[Addr.add,K]using this
   exact(slices_CloneM U _ 8 112 Z a0 a2 a3 rfl (by decide) (fun W=>by kernel_rfl) b o l.length c (Qb mE l) w (Qr mE l) (by unfold maxLen;omega) (by omega) a4 (Zz mE l)).mono fun e w' ⟨H,D,I,_,h4⟩=>⟨⟨H,D,I⟩,h4⟩
end Go.Proofs.YtflpelnbjekjbaaGreatDoor

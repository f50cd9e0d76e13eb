/- Texts laid together. -/
import Derived.Test.YtgapmoniajcliaaGreatDoorV12
set_option maxRecDepth 10000
set_option maxHeartbeats 2000000
open List renaming getD_eq_getElem?_getD->aa,mem_singleton->ae,length_append->ag,replicate->ah,mem_append->ai,not_mem_nil->aj,getElem?_set->ak,length_set->ao,getElem?_replicate->ap,getElem?_append_right->au,getElem?_append_left->av,getElem?_eq_getElem->aw,mem_map->ax,nodup_nil->az,mem_of_mem_take->aE,mem_of_getElem?->zb,mem_cons_of_mem->aJ,mem_cons_self->zc,flatten_cons->zd,findIdx_cons->aO,any_eq_false->ze,mem_range->aS
open Option renaming some->ab,none->ac
open Bool renaming true->za,false->F,false_or->zh
open Or renaming inl->af,inr->am
open Int renaming le_refl->al
open Option.some renaming inj->an
open Nat renaming zero_le->aq,not_lt_zero->ar,le_refl->ay,sub_self->zi
namespace Go.Proofs.YtgapmoniajcliaaGreatDoor
open Go.Proofs.Tryz
open Go.RowKit
variable {a a':Za}{j n k i who:Nat}{c:Xg}{l:List BA}{w:World}{x:Zb}
section
def Gh.carry (G:Gh)(act:Nat)(t:JC)(s:BA)(o:Int):Gh:={G.write (act+1) t s o with
 cZ:=fun j=>if j=act+1 then ab (t,s)else G.cZ j
 cn:=act+1}
section
variable {n k:Nat} {G:Gh} {w:Ya}
theorem Zh.gO (h:Zh n k G w)(_ha:w.mover=ab a)(D:tL w.aB (wH w) G w.aC w.ops a'):Zh n k G {w with mover:=ab a'} :=
 ⟨h.base,h.msgs,h.asks,h.owns,fun b B=>(by cases B;exact D),fun B=>(by cases B),h.bV,h.order,h.since,h.la,h.lt,h.ls,h.small,h.fZ,h.cls⟩
theorem Zh.advance (h:Zh n k G w)(a2:w.aC+2=w.aB.length)(hS:∃S,jP (aG w.aB w.aC) S/\(∀x∈S,(wH w x w.aC).2=za)/\∀u,uR k (wH w) w.aC S u->∃c,G.cZ (w.aC+1)=ab c/\Qd c.1 u=F)(hE:∀c,G.cZ (w.aC+1)=ab c->fT w.aB (wH w) (w.aC+1) c.1):Zh n k {G with cn:=w.aC+1} {w with aC:=w.aC+1,mover:=ac}:=by
 have J:=h.base.cI;have K:∀o0,JR w.ops o0 w.aC w.aB w.aB (wH w) (wH w) G {G with cn:=w.aC+1}:=fun _=>⟨ay _,fun _ _=>rfl,fun _ _ _ h=>h,fun _ _ _=>rfl,fun _ _ _ h=>h,fun _ _=>rfl,fun _ _=>rfl,fun _ _=>rfl,fun _ _=>af rfl,fun _ _=>rfl⟩
 have e:=K (-1);refine⟨⟨h.base.iL,h.base.held,h.base.shut,h.base.one,h.base.size,h.base.fV,h.base.num,h.base.low,h.base.fH,h.base.dM,fun j c B D=>?_,fun j B=>?_,⟨ay _,by show w.aC+1<w.aB.length;omega⟩,h.base.sn,h.base.bO⟩,fun m U=>?_,fun i b H=>?_,fun i H=>?_,fun b Z=>(by cases Z),fun _=>⟨by show w.aC+1+1=w.aB.length;omega,rfl⟩,fun x O=>⟨e.ev (by show w.aC<=w.aC+1;omega) J.2 (h.bV x O).1,(h.bV x O).2⟩,h.order,h.since,h.la,h.lt,h.ls,h.small,h.fZ,fun i=>by show G.cl i<=w.aC+1;have:=h.cls i;omega⟩
 ·by_cases I:j=w.aC+1
  ·subst I;exact hE c D
  ·exact h.base.dL j c (by have:j<=w.aC+1:=B;omega) D
 ·by_cases I:j=w.aC
  ·subst I;exact hS
  ·exact h.base.eI j (by have:j<w.aC+1:=B;omega)
 ·obtain⟨j,B⟩:=h.msgs m U;exact⟨j,e.msg (al _) B⟩
 ·have hA:=h.asks i b H;exact(K (b.op-1)).ask (al _) (by show w.aC<=w.aC+1;omega) J.2 rfl (by omega) hA
 ·exact e.owns rfl h.base.fV (fun j t s hW _=>af hW) (fun _ _ D=>D) (fun b a0=>h.eL a0) (h.owns i H)
theorem Zh.carried (h:Zh n k G w)(ha:w.mover=ab a)(a5:G.wt a.op=ac)(a0:∀t s,¬G.W (w.aC+1) t s){t:JC}{s:BA}(hW:G.W w.aC t s)(hS:∃S,jP (aG w.aB w.aC) S/\(∀x∈S,(wH w x w.aC).2=za)/\∀u,uR k (wH w) w.aC S u->Qd t u=F)(hs:a'.aI=za/\a'.put=F/\a'.key=wX/\a'.op=a.op/\a'.next=a.next)(hk:a'.st=.keeping/\a'.config=((w.aC+1:Nat):Int)/\a'.c=aG w.aB (w.aC+1)/\a'.tag=t/\a'.text=s/\a'.from_=[]):Zh n k (G.carry w.aC t s a.op) {w with mover:=ab a'}:=by
 have hb:=h.base.cI;have M:=h.bI a ha;have a3:=M.len;have e:JR w.ops a.op w.aC w.aB w.aB (wH w) (wH w) G (G.carry w.aC t s a.op):=⟨ay _,fun _ _=>rfl,fun _ _ _ h=>h,fun _ _ _=>rfl,fun _ _ _ h=>af h,fun _ _=>rfl,fun _ _=>rfl,fun _ _=>rfl,fun p _=>by
  by_cases e:p=a.op
  ·exact am ⟨e,by rw[e];exact a5⟩
  ·exact af (if_neg e),fun j D=>if_neg (by omega)⟩
 have Z:(G.carry w.aC t s a.op).cZ (w.aC+1)=ab (t,s):=if_pos rfl;have J:∀j,j≠w.aC+1->(G.carry w.aC t s a.op).cZ j=G.cZ j:=fun j D=>if_neg D
 have H:=h.base.write (j:=w.aC+1) (t:=t) (s:=s) a.op (by omega) (fun r hr=>absurd hr (a0 t r)) (h.base.size _ _ _ hW) (h.base.num _ _ _ hW) (fun c B=>absurd (h.base.dM _ c B).1 (a0 _ _));obtain⟨s1,s2,s3,s4,s5⟩:=hs;obtain⟨k1,k2,k3,k4,k5,k6⟩:=hk;refine⟨⟨h.base.iL,H.held,h.base.shut,H.one,H.size,H.fV,H.num,fun j u r c I B=>?_,?_,fun j c B=>?_,fun j c D B=>?_,fun j D=>?_,⟨by show w.aC<=w.aC+1;omega,hb.2⟩,h.base.sn,h.base.bO⟩,fun m hm=>?_,fun i b hi=>?_,fun i hi=>?_,fun b a2=>?_,fun a2=>(by cases a2),fun x K=>⟨e.ev nR hb.2 (h.bV x K).1,(h.bV x K).2⟩,h.order,h.since,h.la,h.lt,h.ls,h.small,fun o ho=>?_,h.cls⟩
 ·by_cases O:j=w.aC+1
  ·subst O;rw[Z]at B;cases B;rcases I with I|⟨_,rfl,_⟩
   ·exact absurd I (a0 _ _)
   ·exact G9 u
  ·rw[J j O]at B;exact H.low j u r c I B
 ·exact(J 0 (by omega)).trans h.base.fH
 ·by_cases O:j=w.aC
  ·subst O;rw[Z]at B;cases B;exact⟨am ⟨rfl,rfl,rfl⟩,af hW⟩
  ·rw[J (j+1) (by omega)]at B;exact H.dM j c B
 ·have a4:j<=w.aC:=D;rw[J j (by omega)]at B;exact h.base.dL j c D B
 ·by_cases O:j=w.aC
  ·subst O;obtain⟨S,U,h2,h3⟩:=hS;exact⟨S,U,h2,fun u hu=>⟨(t,s),Z,h3 u hu⟩⟩
  ·have a4:j<w.aC+1:=D;obtain⟨S,U,h2,h3⟩:=h.base.eI j (by omega);refine⟨S,U,h2,fun u hu=>?_⟩;rw[J (j+1) (by omega)];exact h3 u hu
 ·obtain⟨j,D⟩:=h.msgs m hm;exact⟨j,e.msg (al _) D⟩
 ·have A:=h.asks i b hi;refine e.ask (al _) nR hb.2 rfl (fun ho=>?_) A;have U:=A.own;rw[ho,M.own]at U;cases U
 ·refine e.owns rfl h.base.fV (fun j u r I _=>?_) (fun j c B=>?_) (fun b H=>h.eL H) (h.owns i hi)
  ·rcases I with I|⟨rfl,rfl,rfl⟩
   ·exact af I
   ·exact am Z
  ·rw[J j ?_]
   ·exact B
   ·rintro rfl;exact a0 _ _ (h.base.dM _ c B).1
 ·cases a2;refine⟨s1,s2,s3,by rw[s4];exact M.op,by rw[s4];exact M.own,a3,by rw[s5];exact M.next,am ⟨k1,k2,k3,?_,rfl,?_,?_,?_,?_⟩⟩
  ·rw[s4,k4];exact if_pos rfl
  ·rw[Z,k4,k5]
  ·rw[k6];exact az
  ·rw[k6];exact fun _ K=>absurd K aj
  ·rw[k6];exact fun _ K=>absurd K aj
 ·show(if o=a.op then ab t else G.wt o)=ac;rw[if_neg (by have:=M.op;have:w.ops<=o:=ho;omega)];exact h.fZ o ho
theorem Zh.kJ (h:Zh n k G w){m:Zb}(hm:kD n k w.aB (wH w) G w.ops m j):∃Z,Zh n k Z (w.aI m):=by
 unfold Ya.aI;cases ha:w.mover with
 |none=>exact⟨G,h⟩
 |some a =>
  have M:=h.bI a ha;have hb:=h.base.cI;have a6:=M.len;have a2:∀b:Za,b.st≠.done->b.st≠.refused->∀l,({w.send l with aC:=if b.st=.done then(w.send l).aB.length-1 else(w.send l).aC,mover:=if b.st=.done∨b.st=.refused then ac else ab b}:Ya)=Ya.send {w with mover:=ab b} l:=fun b D h2 l=>by
   rw[if_neg D,if_neg (fun h=>h.elim D h2)];rfl
  have b0:∀b:Za,b.st=.done->({w.send []with aC:=if b.st=.done then(w.send []).aB.length-1 else(w.send []).aC,mover:=if b.st=.done∨b.st=.refused then ac else ab b}:Ya)=Ya.send {w with aC:=w.aC+1,mover:=ac} []:=fun b D=>by
   rw[if_pos D,if_pos (af D)];show({w.send []with aC:=w.aB.length-1,mover:=ac}:Ya)=_;rw[<-a6];rfl
  show ∃Z,Zh n k Z {w.send (a.aD m).2 with aC:=if(a.aD m).1.st=.done then(w.send (a.aD m).2).aB.length-1 else(w.send (a.aD m).2).aC,mover:=if(a.aD m).1.st=.done∨(a.aD m).1.st=.refused then ac else ab (a.aD m).1};have b7:a.st=.sealing∨a.st=.keeping:=by
   rcases M.st with h3|h3
   ·exact af h3.1
   ·exact am h3.1
  have K:a.st≠.done/\a.st≠.refused:=by rcases b7 with h|h<;>rw[h]<;>decide
  have a7:∀x∈([]:List Zb),∃j,kD n k w.aB (wH w) G w.ops x j:=fun _ B=>absurd B aj
  by_cases ht:a.aM m=F
  ·have e:a.aD m=(a,[]):=if_pos ht;rw[e,a2 a K.1 K.2 []];exact⟨G,(h.gO ha M).send a7⟩
  have b8:a.aM m=true:=by cases h:a.aM m with|false=>exact absurd h ht|true=>rfl
  obtain⟨t1,t2,t3,t4,t5,t6⟩:=Za.eQ b8;have b1:a.from_.Nodup->(a.from_++ [m.from_]).Nodup:=fun hn=>by
   rw[List.nodup_append];exact⟨hn,by simp,fun x B y hy e=>t6 (by rw[ae.1 hy]at e;exact e▸B)⟩
  have a3:(∀x∈a.from_,x∈a.c.L)->∀x∈a.from_++ [m.from_],x∈a.c.L:=fun hs x B=>by
   rcases ai.1 B with B|B
   ·exact hs x B
   ·rw[ae.1 B];exact t5
  rcases M.st with⟨k1,J,H,k4,k5,O,I⟩|⟨k1,J,H,k4,k5,O,I⟩
  ·
   have hj:j=w.aC:=by rw[hm.cfg,J]at t4;omega
   subst hj;have hc:=h.base.iL _ hb.2;have a8:m.kind=Q7:=by rw[t1,k1];rfl
   have c8:=hm.shut a8;have d0:¬(m.shut=za/\a.st≠.sealing):=fun h=>h.2 k1
   have e0:a.aD m=if(a.heard m).from_.length<Jh a.c then(a.heard m,[])
    else if a.st=.keeping then({a.heard m with st:=.done},[])
    else if(a.heard m).aF.found=F then({(a.heard m).aF with st:=.done},[])
    else((a.heard m).aF.keeps,(a.heard m).aF.keeps.send JJ za):=by
    unfold Za.aD;rw[if_neg ht,if_neg d0]
   rw[H]at a3;have U:oE (aG w.aB w.aC) (a.heard m) fun x l=>wH w x w.aC=(l,za):=by
    refine⟨?_,b1 I.nodup,a3 I.mem,fun x B=>?_⟩
    ·show(a.from_++ [m.from_]).length=(a.L++ [m.L]).length;rw[ag,ag,I.len];rfl
    ·have d1:x∈a.from_++ [m.from_]:=B;show wH w x w.aC=(Yv (a.from_++ [m.from_]) (a.L++ [m.L]) x,za);rcases ai.1 d1 with B|B
     ·rw[GL I.len B];exact I.each x B
     ·rw[ae.1 B,AI I.len t6];exact c8
   by_cases a0:(a.heard m).from_.length<Jh a.c
   ·rw[e0,if_pos a0,a2 (a.heard m) K.1 K.2 []];exact⟨G,(h.gO ha (a':=a.heard m) ⟨M.mv,M.put,M.key,M.op,M.own,M.len,M.next,af ⟨k1,J,H,k4,k5,O,U⟩⟩).send a7⟩
   have hq:Jh (aG w.aB w.aC)<=(a.heard m).from_.length:=by rw[<-H];omega
   have hQ:jP (aG w.aB w.aC) (a.heard m).from_:=⟨U.nodup,U.mem,hq⟩;have d2:∀x∈(a.heard m).from_,∀v∈Yv (a.heard m).from_ (a.heard m).L x,iQ n k (aG w.aB w.aC) (G.W w.aC) x v:=fun x B v hv=>(h.base.held _ _ _ (by rw[U.each x B];exact hv)).2
   have b2:∀u,uR k (wH w) w.aC (a.heard m).from_ u->∃Y:List BA,Y.Nodup/\(∀x∈Y,x∈(a.heard m).from_)/\k<=Y.length/\∀x∈Y,∃v∈Yv (a.heard m).from_ (a.heard m).L x,(v.n,v.who)=u:=fun u ⟨Y,y1,y2,y3,y4⟩=>⟨Y,y1,y2,y3,fun x B=>by
    have D:=y4 x B;unfold fW at D;rw[U.each x (y2 x B)]at D;exact D⟩
   have b3:∀x∈(a.heard m).from_,(wH w x w.aC).2=true:=fun x B=>by rw[U.each x B]
   rw[e0,if_neg a0,if_neg (by rw[k1];decide)];have d3:¬(a.heard m).put=true:=by show ¬a.put=za;rw[M.put];decide
   have d4:(a.heard m).c.k.toNat=k:=by show a.c.k.toNat=k;rw[H,hc.k_];rfl
   have d5:(a.heard m).c.n.toNat=n:=by show a.c.n.toNat=n;rw[H,hc.n_];rfl
   have d6:(a.heard m).c.L=(aG w.aB w.aC).L:=by show a.c.L=_;rw[H]
   have ef:(a.heard m).aF={a.heard m with tag:=(Ys n k (Xq (a.heard m).from_ (a.heard m).L (aG w.aB w.aC).L).flatten (Xq (a.heard m).from_ (a.heard m).L (aG w.aB w.aC).L).flatten).1,text:=(Ys n k (Xq (a.heard m).from_ (a.heard m).L (aG w.aB w.aC).L).flatten (Xq (a.heard m).from_ (a.heard m).L (aG w.aB w.aC).L).flatten).2.1,found:=(Ys n k (Xq (a.heard m).from_ (a.heard m).L (aG w.aB w.aC).L).flatten (Xq (a.heard m).from_ (a.heard m).L (aG w.aB w.aC).L).flatten).2.2}:=by
    unfold Za.aF;rw[if_neg d3,d4,d5,d6]
   rw[ef];rcases BP hc (h.base.IA w.aC) hQ d2 with⟨a9,d7⟩|⟨t,s,a9,hw,d8⟩
   ·rw[a9,if_pos rfl,b0 _ rfl];have D:=h.advance a6 ⟨_,hQ,b3,fun u hu=>absurd (b2 u hu) (d7 u)⟩ (fun c a4=>absurd (h.base.dM _ c a4).1 (O _ _));exact⟨_,D.send fun _ B=>absurd B aj⟩
   ·rw[a9,if_neg (by dsimp only;decide)];have ek:Za.keeps {a.heard m with tag:=t,text:=s,found:=za}={a.heard m with tag:=t,text:=s,found:=za,st:=.keeping,from_:=[],L:=[],c:=a.next,config:=a.config+1}:=by
     unfold Za.keeps;rw[if_pos (show(a.heard m).aI=za from M.mv)];rfl
    show ∃Z,Zh n k Z {w.send (Za.send (Za.keeps {a.heard m with tag:=t,text:=s,found:=za}) JJ za)with aC:=if(Za.keeps {a.heard m with tag:=t,text:=s,found:=za}).st=.done then(w.send (Za.send (Za.keeps {a.heard m with tag:=t,text:=s,found:=za}) JJ za)).aB.length-1 else(w.send (Za.send (Za.keeps {a.heard m with tag:=t,text:=s,found:=za}) JJ za)).aC,mover:=if(Za.keeps {a.heard m with tag:=t,text:=s,found:=za}).st=.done∨(Za.keeps {a.heard m with tag:=t,text:=s,found:=za}).st=.refused then ac else ab (Za.keeps {a.heard m with tag:=t,text:=s,found:=za})};rw[ek,a2 {a.heard m with tag:=t,text:=s,found:=za,st:=.keeping,from_:=[],L:=[],c:=a.next,config:=a.config+1} (by dsimp only;decide) (by dsimp only;decide)];have D:=h.carried ha k4 O hw ⟨_,hQ,b3,fun u hu=>d8 u (b2 u hu)⟩ (a':={a.heard m with tag:=t,text:=s,found:=za,st:=.keeping,from_:=[],L:=[],c:=a.next,config:=a.config+1}) ⟨M.mv,M.put,M.key,rfl,rfl⟩ ⟨rfl,by show a.config+1=_;rw[J];omega,M.next,rfl,rfl,rfl⟩;have b4:=h.base.iL (w.aC+1) (by omega);refine⟨_,D.send fun x B=>⟨w.aC+1,?_⟩⟩;obtain⟨i,hi,rfl⟩:=ax.1 B;refine⟨M.key,M.op,by show a.config+1=_;rw[J];omega,by show w.aC+1<w.aB.length;omega,fun h=>absurd h (by dsimp only;decide),fun h=>absurd h (by dsimp only;decide),fun h=>absurd h (by dsimp only;decide),fun h=>absurd h (by dsimp only;decide),fun _=>?_,fun h=>absurd h (by dsimp only;decide)⟩;have b5:=aS.1 hi;refine⟨t,s,i,?_,?_,?_,am ⟨rfl,rfl,rfl⟩,if_pos rfl⟩
    ·show [(⟨t.1,t.2,(s.size:Int),(i:Int),JW a.next.k.toNat s i⟩:Yb)]=_;rw[M.next,b4.k_,Int.toNat_natCast];rfl
    ·rw[M.next,b4.len]at b5;exact b5
    ·show Yc a.next.L i=_;rw[M.next]
  ·
   have hj:j=w.aC+1:=by rw[hm.cfg,J]at t4;omega
   subst hj;have a8:m.kind=iS:=by rw[t1,k1];rfl
   obtain⟨t,m1,m2,m3⟩:=hm.kept a8;rw[t3,k4]at m1;cases m1;have b6:m.shut=false:=by
    cases d9:m.shut with
    |false=>rfl
    |true =>
     have:=h.base.shut _ _ (m3 d9);omega
   have e0:a.aD m=if(a.heard m).from_.length<Jh a.c then(a.heard m,[])
    else if a.st=.keeping then({a.heard m with st:=.done},[])
    else if(a.heard m).aF.found=F then({(a.heard m).aF with st:=.done},[])
    else((a.heard m).aF.keeps,(a.heard m).aF.keeps.send JJ za):=by
    unfold Za.aD;rw[if_neg ht,if_neg fun h=>by rw[b6]at h;cases h.1]
   rw[H]at a3;have a5:qZ (aG w.aB (w.aC+1)) (a.heard m) fun x=>fW (wH w) x (w.aC+1) a.tag:=by
    refine⟨b1 I.nodup,a3 I.mem,fun x B=>?_⟩;rcases ai.1 (show x∈a.from_++ [m.from_]from B)with B|B
    ·exact I.each x B
    ·rw[ae.1 B];exact m2 b6
   by_cases a0:(a.heard m).from_.length<Jh a.c
   ·rw[e0,if_pos a0,a2 (a.heard m) K.1 K.2 []];exact⟨G,(h.gO ha (a':=a.heard m) ⟨M.mv,M.put,M.key,M.op,M.own,M.len,M.next,am ⟨k1,J,H,k4,k5,O,a5⟩⟩).send a7⟩
   ·rw[e0,if_neg a0,if_pos k1,b0 _ rfl];have D:=h.advance a6 (h.base.eI _ (by omega)) (fun c a4=>by
     rw[O]at a4;cases a4;exact⟨(a.heard m).from_,⟨a5.nodup,a5.mem,by rw[<-H];omega⟩,a5.each⟩)
    exact⟨_,D.send fun _ B=>absurd B aj⟩
end
end
section
def JD (op:Int)(config:Nat)(B c:Xg):Za:=⟨J8,wX,0,op,config,B,c,F,za,.sealing,[],[],(0,0),⟨#[]⟩,F⟩
def Ya.dS (w:Ya)(nodes:List BA)(c:Xg):Ya:=Ya.send {w.eX nodes with mover:=ab (JD w.ops w.aC (aG w.aB w.aC) c),aB:=w.aB++ [c],ops:=w.ops+1} (JD w.ops w.aC (aG w.aB w.aC) c).begin
def Ya.new (nodes:List BA)(c:Xg):Ya:=Ya.eX ⟨[],[],ah 6 ac,ah 6 0,ah 6 ⟨#[]⟩,ac,[c],0,0,0,[]⟩ nodes
section
variable {n k:Nat} {G:Gh} {w:Ya}
theorem Zh.iC (h:Zh n k G w){N:List (Je×Bool)}(e:wH {w with nodes:=N}=wH w):Zh n k G {w with nodes:=N}:=by
 refine⟨?_,?_,?_,?_,?_,h.dE,?_,h.order,h.since,h.la,h.lt,h.ls,h.small,h.fZ,h.cls⟩<;>rw[e]
 ·exact h.base
 ·exact h.msgs
 ·exact h.asks
 ·exact h.owns
 ·exact h.bI
 ·exact h.bV
theorem Jtr (s:BA)(b:Bool):wH {w with nodes:=w.nodes++ [(⟨s,[]⟩,b)]}=wH w:=by
 funext x j
 show Qn (Jc (w.nodes++ [(⟨s,[]⟩,b)]) (Qe (w.nodes++ [(⟨s,[]⟩,b)]) x)).1 (j:Int)=Qn (Jc w.nodes (Qe w.nodes x)).1 (j:Int);have O:Qe w.nodes x<=w.nodes.length:=List.findIdx_le_length;have J:Qe (w.nodes++ [(⟨s,[]⟩,b)]) x=if Qe w.nodes x<w.nodes.length then Qe w.nodes x else if s=x then w.nodes.length else w.nodes.length+1:=by
  unfold Qe;rw[List.findIdx_append];split
  ·rfl
  ·by_cases B:s=x
   ·rw[if_pos B,aO,B];simp
   ·rw[if_neg B,aO];simp[B];omega
 have H:∀(l:List (Je×Bool)) (i:Nat),l.length<=i->Jc l i=(⟨⟨#[]⟩,[]⟩,F):=fun l i K=>by
  unfold Jc;rw[aa,List.getElem?_eq_none K];rfl
 rw[J];by_cases D:Qe w.nodes x<w.nodes.length
 ·rw[if_pos D];unfold Jc;rw[aa,av D,aa]
 ·rw[if_neg D,H w.nodes _ (by omega)];by_cases I:s=x
  ·rw[if_pos I];unfold Jc;rw[aa,au nR,zi];rfl
  ·rw[if_neg I,H _ _ (by rw[ag];show w.nodes.length+1<=_;omega)]
theorem CZ (w:Ya)(s:BA)(l:List BA):w.eX (s::l)=(if Qe w.nodes s<w.nodes.length then w else {w with nodes:=w.nodes++ [(⟨s,[]⟩,za)]}).eX l:=rfl
theorem l3:∀(l:List BA) (w:Ya),∃N,w.eX l={w with nodes:=N}/\wH {w with nodes:=N}=wH w
 | [],w=>⟨w.nodes,rfl,rfl⟩
 |s::l,w=>by
  rw[CZ];split
  ·exact l3 l w
  ·obtain⟨N,B,D⟩:=l3 l {w with nodes:=w.nodes++ [(⟨s,[]⟩,za)]};exact⟨N,B,D.trans (Jtr s za)⟩
theorem oZ {C:List Xg}(B:j<C.length):aG (C++ [c]) j=aG C j:=by
 unfold aG;rw[aa,av B,aa]
theorem KP (C:List Xg)(c:Xg):aG (C++ [c]) C.length=c:=by
 unfold aG;rw[aa,au nR,zi];rfl
theorem Zh.dS (h:Zh n k G w)(hm:w.mover=ac)(nodes:List BA)(hc:XS n k c):∃B,Zh n k B (w.dS nodes c):=by
 obtain⟨N,hN,hH⟩:=l3 nodes w;have hb:=h.base.cI;obtain⟨a5,a6⟩:=h.dE hm;obtain⟨B,H⟩:∃B,B={G with own:=fun o=>if o=w.ops then ac else G.own o}:=⟨_,rfl⟩;have e:JR w.ops w.ops w.aC w.aB (w.aB++ [c]) (wH w) (wH w) G B:=by
  rw[H];exact⟨by rw[ag];omega,fun j D=>oZ D,fun _ _ _ h=>h,fun _ _ _=>rfl,fun _ _ _ h=>h,fun _ _=>rfl,fun o ho=>if_neg (by omega),fun _ _=>rfl,fun _ _=>af rfl,fun _ _=>rfl⟩
 have b0:(w.aB++ [c]).length=w.aB.length+1:=by rw[ag];rfl
 have a0:B.cl=G.cl:=by rw[H]
 have I:B.W=G.W:=by rw[H]
 have K:B.cZ=G.cZ:=by rw[H]
 have a2:B.cn=G.cn:=by rw[H]
 have a4:B.wt=G.wt:=by rw[H]
 have a7:B.sn=G.sn:=by rw[H]
 have a8:B.cf=G.cf:=by rw[H]
 have h1:Zh n k B {w with mover:=ab (JD w.ops w.aC (aG w.aB w.aC) c),aB:=w.aB++ [c],ops:=w.ops+1}:=by
  refine⟨⟨fun j D=>?_,fun x j v hv=>?_,fun x j D=>?_,?_,?_,fun j t s J=>?_,?_,?_,?_,?_,fun j b D O=>?_,fun j D=>?_,⟨?_,?_⟩,?_,h.base.bO⟩,fun m hm=>?_,fun i b hi=>?_,fun i hi=>?_,fun b a3=>?_,fun a3=>(by cases a3),fun x U=>⟨e.ev nR hb.2 (h.bV x U).1,(h.bV x U).2⟩,h.order,h.since,h.la,h.lt,h.ls,h.small,fun o ho=>?_,?_⟩
  ·have a9:j<(w.aB++ [c]).length:=D;show XS n k (aG (w.aB++ [c]) j);by_cases e1:j<w.aB.length
   ·rw[oZ e1];exact h.base.iL j e1
   ·have:j=w.aB.length:=by omega
    rw[this,KP];exact hc
  ·obtain⟨Z,h3⟩:=h.base.held x j v hv;show j<(w.aB++ [c]).length/\iQ n k (aG (w.aB++ [c]) j) (B.W j) x v;rw[oZ Z,I];exact⟨by omega,h3⟩
  ·have:=h.base.shut x j D;show j+1<(w.aB++ [c]).length;omega
  ·rw[I];exact h.base.one
  ·rw[I];exact h.base.size
  ·rw[I]at J;have:=h.base.fV j t s J;show j<(w.aB++ [c]).length;omega
  ·rw[I];exact h.base.num
  ·rw[I,K];exact h.base.low
  ·rw[K];exact h.base.fH
  ·rw[K,I];exact h.base.dM
  ·rw[K]at O;have a9:j<=w.aC:=D;exact e.uY (by omega) (h.base.dL j b D O)
  ·rw[a2]at D;obtain⟨S,Z,h3,h4⟩:=h.base.eI j D;refine⟨S,?_,h3,fun u hu=>by rw[K];exact h4 u hu⟩;show jP (aG (w.aB++ [c]) j) S;rw[oZ (by omega)];exact Z
  ·rw[a2];exact hb.1
  ·show w.aC<(w.aB++ [c]).length;omega
  ·rw[a7,a8];exact h.base.sn
  ·obtain⟨j,D⟩:=h.msgs m hm;exact⟨j,e.msg (by show w.ops<=w.ops+1;omega) D⟩
  ·have A:=h.asks i b hi;exact e.ask (by show w.ops<=w.ops+1;omega) nR hb.2 (by rw[a0]) (by have:=A.op;omega) A
  ·exact e.owns (by rw[a0]) h.base.fV (fun j t s J _=>af (by rw[I]at J;exact J)) (fun j b O=>by rw[K];exact O) (fun b O=>h.eL O) (h.owns i hi)
  ·cases a3;refine⟨rfl,rfl,rfl,by show w.ops<w.ops+1;omega,by rw[H];exact if_pos rfl,by show w.aC+2=(w.aB++ [c]).length;omega,?_,af ⟨rfl,rfl,?_,?_,by rw[a2];exact a6,fun t s J=>?_,rfl,az,fun _ U=>absurd U aj,fun _ U=>absurd U aj⟩⟩
   ·show c=aG (w.aB++ [c]) (w.aC+1);rw[a5,KP]
   ·show aG w.aB w.aC=aG (w.aB++ [c]) w.aC;rw[oZ hb.2]
   ·rw[a4];exact h.fZ _ (al _)
   ·rw[I]at J;have:=h.base.fV _ t s J;have Z:w.aC+1<w.aB.length:=this;omega
  ·rw[a4];exact h.fZ o (by have:w.ops+1<=o:=ho;omega)
  ·rw[a0];exact h.cls
 have Z:Zh n k B {w.eX nodes with mover:=ab (JD w.ops w.aC (aG w.aB w.aC) c),aB:=w.aB++ [c],ops:=w.ops+1}:=by
  rw[hN];exact h1.iC (N:=N) hH
 refine⟨B,Z.send fun m hm=>⟨w.aC,?_⟩⟩;obtain⟨i,hi,rfl⟩:=ax.1 (show m∈(List.range (aG w.aB w.aC).L.length).map _ from hm);refine⟨rfl,by show w.ops<w.ops+1;omega,rfl,by show w.aC<(w.aB++ [c]).length;omega,fun h=>absurd h (by dsimp only;decide),fun h=>absurd h (by dsimp only;decide),fun _=>by show w.aC+1<(w.aB++ [c]).length;omega,fun h=>absurd h (by dsimp only;decide),fun h=>absurd h (by dsimp only;decide),fun h=>absurd h (by dsimp only;decide)⟩
theorem Zh.mQ (h:Zh n k G w)(who:Int)(put:Bool)(text:BA):∃U,Zh n k U (w.open_ who put text).1:=by
 unfold Ya.open_;split
 ·exact⟨G,h⟩
 ·rename_i hb;split
  ·exact⟨G,h⟩
  ·rename_i B;have D:who.toNat<6:=by omega
   have H:Xf w.asks who.toNat=none:=by
    cases e:Xf w.asks who.toNat with
    |none=>rfl
    |some a=>rw[e]at B;exact absurd rfl B
   have I:∀i,(w.since.set who.toNat w.aA).getD i 0=if i=who.toNat then w.aA else w.since.getD i 0:=fun i=>by
    rw[aa,ak,aa];by_cases e:who.toNat=i
    ·subst e;rw[if_pos rfl,if_pos (by rw[h.ls];exact D),if_pos rfl];rfl
    ·rw[if_neg e,if_neg fun h=>e h.symm]
   have Z:Zh n k G {w with since:=w.since.set who.toNat w.aA,texts:=w.texts.set who.toNat text}:=by
    refine⟨h.base,h.msgs,fun i b J=>?_,h.owns,h.bI,h.dE,h.bV,h.order,fun i=>?_,h.la,by rw[ao];exact h.lt,by rw[ao];exact h.ls,fun i=>?_,h.fZ,h.cls⟩
    ·have e:i≠who.toNat:=fun e=>by
      have K:=J;rw[e,H]at K;cases K
     show l8 w.aB (wH w) G w.aC w.ops w.events ((w.since.set who.toNat w.aA).getD i 0) i b;rw[I i,if_neg e];exact h.asks i b J
    ·show(w.since.set who.toNat w.aA).getD i 0<=w.aA;rw[I i];split
     ·exact al _
     ·exact h.since i
    ·show(Yc (w.texts.set who.toNat text) i).size<=1000;unfold Yc;rw[aa,ak];split
     ·split
      ·show text.size<=1000;omega
      ·decide
     ·rw[<-aa];exact h.small i
   exact⟨_,Z.begin D put fun a ha=>by
    have O:=ha;rw[H]at O;cases O⟩
theorem Zh.kI (h:Zh n k G w)(who:Int):Zh n k G (w.again who).1:=by
 unfold Ya.again;split
 ·exact h
 ·cases D:Xf w.asks who.toNat with
  |none=>exact h
  |some a =>
   have A:=h.asks _ a D;have H:=h.base.cI;show Zh n k G (if a.st=.looking then(w.send a.begin,(0:Int))else(w,5)).1;split
   ·refine h.send fun m B=>⟨G.cl who.toNat,?_⟩
    unfold Za.begin at B;rw[A.mv,if_neg (by decide)]at B;obtain⟨i,I,rfl⟩:=ax.1 B;exact⟨A.key,A.op,A.cfg,by have:=A.le;omega,fun _=>A.cf,fun h=>absurd h (by dsimp only;decide),fun h=>absurd h (by dsimp only;decide),fun h=>absurd h (by dsimp only;decide),fun h=>absurd h (by dsimp only;decide),fun h=>absurd h (by dsimp only;decide)⟩
   ·exact h
theorem Zh.kZ (h:Zh n k G w)(who:Int):∃B,Zh n k B (w.a8 who).1:=by
 unfold Ya.a8;split
 ·exact⟨G,h⟩
 ·cases D:Xf w.asks who.toNat with
  |none=>exact⟨G,h⟩
  |some a =>
   have A:=h.asks _ a D;show ∃B,Zh n k B (if a.st=.refused then(if(w.aC:Int)<=a.config then(w,(10:Int))else(w.begin who.toNat a.put,0))else(w,5)).1;split
   ·rename_i I;split
    ·exact⟨G,h⟩
    ·rename_i J;refine⟨_,h.begin A.lt a.put fun b H=>?_⟩;rw[D]at H;cases H;rw[A.cfg]at J;exact⟨I,by omega⟩
   ·exact⟨G,h⟩
theorem Zh.iF (h:Zh n k G w)(U:0<=w.aA)(K:w.aA+1<=1099511627776)(i:Int):∃B,Zh n k B (w.aR i).1:=by
 unfold Ya.aR;split
 ·exact⟨G,h⟩
 ·rename_i O;have I:Yg w.L i.toNat∈w.L:=oB (by omega);obtain⟨j,D⟩:=h.msgs _ I;have H:=(h.off i.toNat).tick K;show ∃B,Zh n k B (match YN (Yg w.L i.toNat).aP with
   |some who=>Ya.aD {w.off i.toNat with aA:=w.aA+1} who (Yg w.L i.toNat)
   |none=>if(Yg w.L i.toNat).aP=J8 then Ya.aI {w.off i.toNat with aA:=w.aA+1} (Yg w.L i.toNat)else Ya.node {w.off i.toNat with aA:=w.aA+1} (Yg w.L i.toNat))
  cases YN (Yg w.L i.toNat).aP with
  |some who =>
   exact H.nC (fun i=>by show w.since.getD i 0<w.aA+1;have:=h.since i;omega) (fun j t s J=>by show t.1<w.aA+1;have:=h.base.num j t s J;omega) (by show 0<w.aA+1;omega) D who
  |none =>
   show ∃B,Zh n k B (if(Yg w.L i.toNat).aP=J8 then _ else _);split
   ·exact H.kJ D
   ·exact⟨G,H.node D⟩
theorem Zh.new (nodes:List BA)(hc:XS n k c):∃G,Zh n k G (Ya.new nodes c):=by
 obtain⟨H,D⟩:∃H:Ya,H=⟨[],[],ah 6 ac,ah 6 0,ah 6 ⟨#[]⟩,ac,[c],0,0,0,[]⟩:=⟨_,rfl⟩;have K:∀x j,wH H x j=([],F):=fun x j=>by rw[D];rfl
 have a0:∀i,Xf H.asks i=none:=fun i=>by
  rw[D];show(ah 6 ac).getD i ac=ac;rw[aa,ap];split<;>rfl
 have h0:Zh n k ⟨fun _ _ _=>False,fun _=>ac,0,fun _=>0,fun _=>0,fun _=>ac,fun _ _ _=>False,fun _=>ac⟩ H:=by
  refine⟨⟨fun j J=>?_,fun x j v I=>?_,fun x j I=>?_,fun _ _ _ _ B=>B.elim,fun _ _ _ B=>B.elim,fun _ _ _ B=>B.elim,fun _ _ _ B=>B.elim,fun _ _ _ _ B=>B.elim,rfl,fun _ _ B=>(by cases B),fun _ _ _ B=>(by cases B),fun j J=>absurd J (ar j),?_,fun _ _ _ B=>B.elim,by rw[D];show(0:Int)<=1099511627776;decide⟩,fun m O=>?_,fun i a U=>?_,fun i _ j t s B=>B.elim,fun a Z=>?_,fun _=>by rw[D];exact⟨rfl,rfl⟩,fun e he=>?_,?_,fun i=>?_,by rw[D];rfl,by rw[D];rfl,by rw[D];rfl,fun i=>?_,fun _ _=>rfl,fun _=>aq _⟩
  ·rw[D]at J ⊢;have:j=0:=by have:j<1:=J;omega
   subst this;exact hc
  ·rw[K]at I;cases I
  ·rw[K]at I;cases I
  ·rw[D];exact⟨ay _,Nat.zero_lt_one⟩
  ·rw[D]at O;cases O
  ·rw[a0 i]at U;cases U
  ·rw[D]at Z;cases Z
  ·rw[D]at he;cases he
  ·rw[D];exact List.Pairwise.nil
  ·rw[D];show(ah 6 (0:Int)).getD i 0<=0;rw[aa,ap];split<;>exact al _
  ·rw[D];show((ah 6 (⟨#[]⟩:BA)).getD i ⟨#[]⟩).size<=1000;rw[aa,ap];split<;>decide
 unfold Ya.new;rw[<-D];obtain⟨N,h1,h2⟩:=l3 nodes H;rw[h1];exact⟨_,h0.iC h2⟩
end
inductive WStep (n k:Nat):Ya->Ya->Prop where
 |open_ (w:Ya) (who:Int) (put:Bool) (text:BA):WStep n k w (w.open_ who put text).1
 |aR (w:Ya) (i:Int):WStep n k w (w.aR i).1
 |drop (w:Ya) (i:Int):WStep n k w (w.drop i).1
 |bC (w:Ya) (i:Int):WStep n k w (w.bC i).1
 |set (w:Ya) (s:BA) (up:Bool):WStep n k w (w.set s up).1
 |again (w:Ya) (who:Int):WStep n k w (w.again who).1
 |a8 (w:Ya) (who:Int):WStep n k w (w.a8 who).1
 |change (w:Ya) (nodes:List BA) (c:Xg) (hm:w.mover=ac) (hc:XS n k c):WStep n k w (w.dS nodes c)
 |none (w:Ya):WStep n k w w
inductive bP (n k:Nat):Nat->Ya->Prop where
 |new (nodes:List BA) (c:Xg) (hc:XS n k c):bP n k 0 (Ya.new nodes c)
 |step (m:Nat) (w w':Ya) (h:bP n k m w) (hs:WStep n k w w'):bP n k (m+1) w'
theorem JqK (w:Ya)(who:Nat)(a:Za):(w.after who a).aA=w.aA:=by
 unfold Ya.after;split
 ·rfl
 ·split<;>rfl
 ·rfl
theorem GB (w:Ya)(l:List BA):(w.eX l).aA=w.aA:=by
 obtain⟨N,h,_⟩:=l3 l w;rw[h]
theorem V9 {w w':Ya}(h:WStep n k w w'):w'.aA=w.aA∨w'.aA=w.aA+1:=by
 cases h with
 |open_ who put text =>
  refine af ?_;unfold Ya.open_;split
  ·rfl
  ·split<;>rfl
 |aR i =>
  unfold Ya.aR;split
  ·exact af rfl
  ·refine am ?_;show(match YN (Yg w.L i.toNat).aP with
    |some who=>Ya.aD {w.off i.toNat with aA:=w.aA+1} who (Yg w.L i.toNat)
    |none=>if(Yg w.L i.toNat).aP=J8 then Ya.aI {w.off i.toNat with aA:=w.aA+1} (Yg w.L i.toNat)else Ya.node {w.off i.toNat with aA:=w.aA+1} (Yg w.L i.toNat)).aA=_
   cases YN (Yg w.L i.toNat).aP with
   |some who =>
    show(Ya.aD {w.off i.toNat with aA:=w.aA+1} who (Yg w.L i.toNat)).aA=_;unfold Ya.aD;split
    ·rfl
    ·rw[JqK];rfl
   |none =>
    show(if(Yg w.L i.toNat).aP=J8 then Ya.aI {w.off i.toNat with aA:=w.aA+1} (Yg w.L i.toNat)else Ya.node {w.off i.toNat with aA:=w.aA+1} (Yg w.L i.toNat)).aA=_;split
    ·unfold Ya.aI;split<;>rfl
    ·unfold Ya.node;split<;>rfl
 |drop i=>refine af ?_;unfold Ya.drop;split<;>rfl
 |bC i =>
  refine af ?_;unfold Ya.bC;split
  ·rfl
  ·split<;>rfl
 |set s up=>refine af ?_;unfold Ya.set;split<;>rfl
 |again who =>
  refine af ?_;unfold Ya.again;split
  ·rfl
  ·split
   ·rfl
   ·split<;>rfl
 |a8 who =>
  refine af ?_;unfold Ya.a8;split
  ·rfl
  ·split
   ·rfl
   ·split
    ·split<;>rfl
    ·rfl
 |change nodes c B D=>exact af (GB w nodes)
 |none=>exact af rfl
theorem bP.inv :∀{m:Nat} {w:Ya},bP n k m w->m<=1099511627776->(∃G,Zh n k G w)/\0<=w.aA/\w.aA<=m:=by
 intro m w h
 induction h with
 |new nodes c D =>
  intro _;refine⟨Zh.new nodes D,?_⟩;unfold Ya.new;rw[GB];exact⟨al _,al _⟩
 |step m w w' h H ih =>
  intro I;obtain⟨⟨G,B⟩,J,K⟩:=ih (by omega);refine⟨?_,?_⟩
  ·cases H with
   |open_ who put text=>exact B.mQ who put text
   |aR i=>exact B.iF J (by omega) i
   |drop i=>exact⟨G,B.drop i⟩
   |bC i=>exact⟨G,B.bC i⟩
   |set s up=>exact⟨G,B.set s up⟩
   |again who=>exact⟨G,B.kI who⟩
   |a8 who=>exact B.kZ who
   |change nodes c I D=>exact B.dS I nodes D
   |none=>exact⟨G,B⟩
  ·rcases V9 H with e|e<;>rw[e]<;>constructor<;>omega
end
def Qq (l:List Ev)(i:Nat):Ev:=l.getD i ⟨0,F,F,(0,0),⟨#[]⟩,0,0⟩
theorem nF {l:List Ev}(B:i<l.length):Qq l i=l[i]:=by
 unfold Qq;rw[aa,aw B];rfl
def oH (x:Ev):List Value:=[.int .i64 x.who,.bool x.put,.bool x.found,.int .i64 x.tag.1,.int .i64 x.tag.2,.string x.text,.int .i64 x.from_,.int .i64 x.aP]
def XI:eW Ev:=⟨8,by decide,oH,fun _=>rfl,fun x u B=>by simp[oH]at B;rcases B with rfl|rfl|rfl|rfl|rfl|rfl|rfl|rfl<;>rfl⟩
theorem qX {p:Option Addr}{L:List Ev}(h:Ql XI w p L)(H:i<L.length):∃b o,p=ab ⟨b,o,ac⟩/\b<w.heap.size/\w.cell? ⟨b,o+i*8,ac⟩=ab (.int .i64 (Qq L i).who)/\w.cell? ⟨b,o+i*8+1,ac⟩=ab (.bool (Qq L i).put)/\w.cell? ⟨b,o+i*8+2,ac⟩=ab (.bool (Qq L i).found)/\w.cell? ⟨b,o+i*8+3,ac⟩=ab (.int .i64 (Qq L i).tag.1)/\w.cell? ⟨b,o+i*8+4,ac⟩=ab (.int .i64 (Qq L i).tag.2)/\w.cell? ⟨b,o+i*8+5,ac⟩=ab (.string (Qq L i).text)/\w.cell? ⟨b,o+i*8+6,ac⟩=ab (.int .i64 (Qq L i).from_)/\w.cell? ⟨b,o+i*8+7,ac⟩=ab (.int .i64 (Qq L i).aP):=by
 rcases h with h|⟨b,o,I,J,B⟩
 ·rw[h]at H;exact absurd H (ar _)
 ·have D:L[i]?=ab (Qq L i):=by rw[nF H,aw H]
  exact⟨b,o,I,J,B i _ D 0 _ rfl,B i _ D 1 _ rfl,B i _ D 2 _ rfl,B i _ D 3 _ rfl,B i _ D 4 _ rfl,B i _ D 5 _ rfl,B i _ D 6 _ rfl,B i _ D 7 _ rfl⟩
theorem nW {b:Nat}{B:Int}{D H:Bool}{I J:Int}{K:BA}{O U:Int}{T:TypeId}(h:w.heap[b]?=ab (.cells #[.int .i64 B,.bool D,.bool H,.int .i64 I,.int .i64 J,.string K,.int .i64 O,.int .i64 U] T (0,0))):w.cell? ⟨b,0,ac⟩=ab (.int .i64 B)/\w.cell? ⟨b,1,ac⟩=ab (.bool D)/\w.cell? ⟨b,2,ac⟩=ab (.bool H)/\w.cell? ⟨b,3,ac⟩=ab (.int .i64 I)/\w.cell? ⟨b,4,ac⟩=ab (.int .i64 J)/\w.cell? ⟨b,5,ac⟩=ab (.string K)/\w.cell? ⟨b,6,ac⟩=ab (.int .i64 O)/\w.cell? ⟨b,7,ac⟩=ab (.int .i64 U):=by
 refine⟨?_,?_,?_,?_,?_,?_,?_,?_⟩<;>simp[World.cell?,h]
structure YF (x:Zb):Prop where
 fr:x.from_.size<=100
 aP:x.aP.size<=100
 ki:x.kind.size<=100
 ke:x.key.size<=100
 bO:x.L.length<=60
 cM:∀v∈x.L,Jt v/\v.text.size<=1000
 cf:YQ x.config
structure XA (a:Za):Prop where
 aN:QN a
 bO:∀l∈a.L,l.length<=60
 cf:0<=a.config/\a.config<=1000
 who:0<=a.who/\a.who<6
 rD:a.aI=za->¬0<(Jg a.next).1
theorem G3 {n:Nat}:∀(L:List (List Yb)),(∀l∈L,l.length<=n)->L.flatten.length<=L.length*n
 | [],_=>by simp
 |l::L,h=>by
  have:=G3 L (fun x B=>h x (aJ _ B));have:=h l zc;rw[zd,ag,List.length_cons,Nat.add_mul];omega
theorem XA.many (h:XA a):a.L.length<=12:=by
 rw[<-h.aN.both];obtain⟨⟨_,_,B⟩,D,_⟩:=Xm h.aN.cfg;have:=YS h.aN.nodup h.aN.sub;omega
theorem XA.small (h:XA a)(B:YF x):a.small x:=by
 have H:=G3 a.L h.bO;have I:=h.many;have:=B.bO;refine⟨by omega,by have:=B.fr;omega,fun v D=>by have:=(B.cM v D).2;omega⟩
theorem KK {n k:Nat}{all:List Yb}:∀(L:List Yb) (S:(Int×Int)×BA×Bool),Zt S.1.1/\Zt S.1.2->(∀v∈L,Jt v)->Zt (L.foldl (XH n k all) S).1.1/\Zt (L.foldl (XH n k all) S).1.2
 | [],_,h,_=>h
 |v::L,S,h,hv=>by
  rw[List.foldl_cons];refine KK L _ ?_ (fun u B=>hv u (aJ _ B));have:=hv v zc;unfold XH;split
  ·exact h
  ·split
   ·exact h
   ·exact⟨this.1,this.2.1⟩
theorem yM {from_:List BA}{L:List (List Yb)}(h:∀l∈L,∀v∈l,Jt v):∀(r:List BA),∀v∈(Xq from_ L r).flatten,Jt v
 | [],v,B=>by simp[Xq]at B
 |m::r,v,B=>by
  unfold Xq at B;split at B
  ·rw[zd,ai]at B;rcases B with B|B
   ·rw[aa]at B;cases e:L[ZJ from_ m]? with
    |none=>rw[e]at B;cases B
    |some l =>
     rw[e]at B;exact h l (zb e) v B
   ·exact yM h r v B
  ·exact yM h r v B
theorem TI (h:XA a):Zt a.aF.tag.1/\Zt a.aF.tag.2:=by
 unfold Za.aF;split
 ·have B:=sH a.L;have D:=h.who;exact⟨⟨by show _<=XF a.L+1;omega,by show XF a.L+1<=_;omega⟩,⟨by show _<=a.who;omega,by show a.who<=_;omega⟩⟩
 ·exact KK _ _ (by unfold Zt;decide) (yM h.aN.cM _)
theorem KW (h:i<l.length):Yc l i∈l:=by
 rw[Xk l i h];exact List.getElem_mem h
theorem XA.send (h:XA a){kind:BA}(B:kind.size<=100){b:Bool}(Z:b=za->Zt a.tag.1/\Zt a.tag.2):∀y∈a.send kind b,YF y:=fun y I=>by
 unfold Za.send at I;obtain⟨i,D,rfl⟩:=ax.1 I;have D:=aS.1 D;obtain⟨⟨a0,_,a2⟩,h4,_,K,_⟩:=Xm h.aN.cfg;have h6:=QF (K _ (KW D));have J:YQ a.config:=by have:=h.cf;unfold YQ;omega
 cases b with
 |false=>exact⟨h.aN.name,by show(Yc a.c.L i).size<=100;omega,B,h.aN.key,aq _,(fun v H=>by cases H),J⟩
 |true =>
  refine⟨h.aN.name,by show(Yc a.c.L i).size<=100;omega,B,h.aN.key,by show 1<=60;decide,fun v H=>?_,J⟩;rw[ae.1 H];obtain⟨O,U⟩:=Z rfl;have t3:=h.aN.text;refine⟨⟨O,U,⟨by show _<=(a.text.size:Int);omega,by show(a.text.size:Int)<=_;omega⟩,by show _<=(i:Int);omega,by show(i:Int)<=_;omega⟩,?_⟩;show(JW a.c.k.toNat a.text i).size<=1000;rw[BM];unfold Jk;obtain⟨k,B⟩:=Xb a.c.k.toNat;have a3:1<=k:=by omega
  rw[<-B];exact Nat.div_le_of_le_mul (by omega)
theorem XA.heard (h:XA a)(D:YF x)(I:a.aM x=za):XA (a.heard x):=by
 refine⟨h.aN.heard I (fun v H=>(D.cM v H).1),fun l B=>?_,h.cf,h.who,h.rD⟩;rcases ai.1 B with B|B
 ·exact h.bO l B
 ·rw[ae.1 B];exact D.bO
theorem XA.uT (h:XA a){st:St}(B:st=.done∨st=.refused):XA {a with st:=st}:=⟨h.aN.ended B,h.bO,h.cf,h.who,h.rD⟩
theorem XA.found (h:XA a)(J:a.first):XA a.aF:=by
 obtain⟨K,O,U,B,D,Z,H,e8,e9,I,_⟩:=YE a;exact⟨h.aN.found J,by rw[I];exact h.bO,by rw[H];exact h.cf,by rw[D];exact h.who,by rw[B,IV];exact h.rD⟩
theorem XA.keeps (h:XA a)(K:a.found=za)(hc:a.config<=999):XA a.keeps:=by
 obtain⟨O,U,Z,s4,D,s6,s7,H,s9,a0⟩:=Q2 a;obtain⟨k1,I⟩:=Zw a;have B:a.keeps.who=a.who/\a.keeps.next=a.next:=by unfold Za.keeps;split<;>exact⟨rfl,rfl⟩
 refine⟨h.aN.keeps K ?_,(by rw[H];intro l J;cases J),?_,by rw[B.1];exact h.who,by rw[D,B.2];exact h.rD⟩
 ·rw[k1];split
  ·rename_i e;exact h.rD e
  ·exact h.aN.cfg
 ·rw[I];have:=h.cf;split<;>omega
theorem XA.aD (h:XA a)(hx:YF x)(hc:a.config<=999):XA (a.aD x).1/\∀y∈(a.aD x).2,YF y:=by
 have D:∀y∈([]:List Zb),YF y:=fun y hy=>by cases hy
 by_cases B:a.aM x=za
 ·obtain⟨a2,_⟩:=Z9 B;have H:=h.heard hx B;have O:a.first->XA (fU (a.heard x)).1/\∀y∈(fU (a.heard x)).2,YF y:=fun I=>by
   unfold fU;split
   ·exact⟨H,D⟩
   ·split
    ·exact⟨(H.found I).uT (af rfl),D⟩
    ·rename_i K;have K:(a.heard x).aF.found=true:=by simpa using K
     have U:=(H.found I).keeps K (by rw[(YE _).2.2.2.2.2.2.1];exact hc);refine⟨U,U.send (by decide) (fun _=>?_)⟩;obtain⟨_,_,_,_,_,_,_,_,_,a3⟩:=Q2 (a.heard x).aF;rw[a3];exact TI H
  rcases a2 with I|Z
  ·by_cases a0:a.st=.sealing
   ·rw[uQ B a0];exact O I
   ·cases J:x.shut with
    |true=>rw[qQ B J a0];exact⟨h.uT (am rfl),D⟩
    |false=>rw[E2 B J I];exact O I
  ·cases J:x.shut with
   |true=>rw[qQ B J (by rw[Z];exact fun e=>(by cases e))];exact⟨h.uT (am rfl),D⟩
   |false =>
    rw[uB B J Z];refine⟨?_,D⟩;show XA (if _ then _ else _);split
    ·exact H
    ·exact H.uT (af rfl)
 ·rw[pW (Bool.eq_false_iff.2 B)];exact⟨h,D⟩
theorem XA.begin (h:XA a):∀y∈a.begin,YF y:=by
 unfold Za.begin;split
 ·split
  ·exact h.send (by decide) (fun e=>by cases e)
  ·intro y B;cases B
 ·exact h.send (by decide) (fun e=>by cases e)
structure jJ (m:Je):Prop where
 aN:m.cH
 name:m.name.size<=16
 cM:∀i,∀y∈(Zg m.L i).2.1,Jt y.2/\y.2.text.size<=1000
theorem jJ.new {name:BA}(h:name.size<=16):jJ ⟨name,[]⟩:=⟨Je.cH.nil _,h,fun i y B=>by rw[tG (aq _)]at B;cases B⟩
theorem Jr5 {L:List Yh}{s:Bool}{key:BA}{v:Yb}{P:Yb->Prop}(h:∀y∈L,P y.2)(D:P v):∀y∈(Qt L s key v).2,P y.2:=by
 unfold Qt;split
 ·intro y B;have B:=B;rcases ai.1 B with B|B
  ·rcases ai.1 B with B|B
   ·exact h y (aE B)
   ·rw[ae.1 B];exact D
  ·exact h y (List.mem_of_mem_drop B)
 ·split<;>exact h
theorem WW {L:List Yb}(h:∀v∈L,Jt v/\v.text.size<=1000)(i:Nat):Jt (Xd L i)/\(Xd L i).text.size<=1000:=by
 unfold Xd;rw[aa];cases e:L[i]? with
 |none=>exact⟨by unfold Jt;decide,by decide⟩
 |some v=>exact h v (zb e)
theorem jJ.aD {m:Je}(h:jJ m)(K:YF x):jJ (m.aD x).1/\∀y∈(m.aD x).2,YF y:=by
 have H:=Jo2 h.aN x K.cf;have U:∀y∈([]:List Zb),YF y:=fun y B=>by cases B
 unfold Je.aD at H ⊢;split
 ·exact⟨h,U⟩
 ·rename_i a4;rw[if_neg a4]at H;cases I:m.held x.config with
  |none=>exact⟨h,U⟩
  |some D =>
   rw[I]at H;have J:D.name=m.name/\∀i,∀y∈(Zg D.L i).2.1,Jt y.2/\y.2.text.size<=1000:=by
    unfold Je.held at I;split at I
    ·rw[<-an I];exact⟨rfl,h.cM⟩
    ·split at I
     ·cases I
     ·rw[<-an I];refine⟨rfl,fun i y B=>?_⟩;rw[QI]at B;split at B
      ·exact h.cM i y B
      ·split at B<;>cases B
   obtain⟨a0,a5⟩:=h.aN.iD K.cf I;have a2:∀g:List Yh×Bool,(∀y∈g.1,Jt y.2/\y.2.text.size<=1000)->∀i,∀y∈(Zg (D.put (Yf m.L x.config) g).L i).2.1,Jt y.2/\y.2.text.size<=1000:=fun g hg i y B=>by
    rw[mC a5]at B;split at B
    ·exact hg y B
    ·exact J.2 i y B
   have Z:∀(kind:BA) (sh:Bool) (L:List Yb),kind.size<=100->L.length<=60->(∀v∈L,Jt v/\v.text.size<=1000)->∀y∈ [D.out x kind sh L],YF y:=fun kind sh L h1 h2 h3 y B=>by
    rw[ae.1 B];exact⟨by show D.name.size<=100;rw[J.1];have:=h.name;omega,K.fr,h1,K.ke,h2,h3,K.cf⟩
   have O:(Xc (Zg D.L (Yf m.L x.config)).2.1 x.key).length<=60/\∀v∈Xc (Zg D.L (Yf m.L x.config)).2.1 x.key,Jt v/\v.text.size<=1000:=⟨TO (a0.held _),fun v hv=>J.2 _ _ (YJ.1 hv)⟩;have a3:∀g:List Yh×Bool,(D.put (Yf m.L x.config) g).name.size<=16:=fun g=>by show D.name.size<=16;rw[J.1];exact h.name
   show jJ (D.cG (Yf m.L x.config) x).1/\_;have H:(D.cG (Yf m.L x.config) x).1.cH:=H;show _/\∀y∈(D.cG (Yf m.L x.config) x).2,YF y;unfold Je.cG at H ⊢;split
   ·exact⟨⟨a0,by rw[J.1];exact h.name,J.2⟩,Z _ _ _ (by decide) O.1 O.2⟩
   ·rename_i n1;rw[if_neg n1]at H;split
    ·rename_i n2;rw[if_pos n2]at H;exact⟨⟨H,a3 _,a2 _ (J.2 _)⟩,Z _ _ _ (by decide) O.1 O.2⟩
    ·rename_i n2;rw[if_neg n2]at H;refine⟨⟨H,a3 _,a2 _ (Jr5 (P:=fun v=>Jt v/\v.text.size<=1000) (J.2 _) (WW K.cM 0))⟩,?_⟩;split
     ·exact U
     ·exact Z _ _ _ (by decide) (aq _) (fun v hv=>by cases hv)
section
structure WZ (n k:Nat) (m:Ya):Prop where
 bO:m.L.length<=120
 msgs:∀x∈m.L,YF x
 la:m.asks.length=6
 lt:m.texts.length=6
 ls:m.since.length=6
 gD:∀i,(Yc m.texts i).size<=1000
 act:m.aC<m.aB.length
 many:m.aB.length<=12
 dN:m.mover=ac->m.aB.length=m.aC+1
 dO:∀a,m.mover=ab a->m.aB.length=m.aC+2
 cU:∀j,j<m.aB.length->¬0<(Jg (aG m.aB j)).1/\XS n k (aG m.aB j)
 asks:∀i a,Xf m.asks i=ab a->XA a/\a.aI=F/\a.config<=12
 bI:∀a,m.mover=ab a->XA a/\a.aI=za/\(a.st=.sealing/\a.config=(m.aC:Int)∨a.st=.keeping/\a.config=(m.aC:Int)+1)
 nodes:∀i,i<m.nodes.length->jJ (Jc m.nodes i).1
section
variable {n k:Nat} {m:Ya}
theorem WZ.send (h:WZ n k m){L:List Zb}(D:∀x∈L,YF x):WZ n k (m.send L):=by
 refine⟨?_,fun x B=>?_,h.la,h.lt,h.ls,h.gD,h.act,h.many,h.dN,h.dO,h.cU,h.asks,h.bI,h.nodes⟩
 ·show(m.L++L.take (120-m.L.length)).length<=120;have:=h.bO;rw[ag,List.length_take];omega
 ·rcases ai.1 B with B|B
  ·exact h.msgs x B
  ·exact D x (aE B)
theorem ZZ {l:List (Option Za)}(B:i<l.length)(o:Option Za)(j:Nat):Xf (l.set i o) j=if j=i then o else Xf l j:=by
 unfold Xf;rw[aa,ak];by_cases e:i=j
 ·subst e;rw[if_pos rfl,if_pos B,if_pos rfl];rfl
 ·rw[if_neg e,if_neg (fun h=>e h.symm),aa]
theorem vK (B:i<l.length)(t:BA)(j:Nat):Yc (l.set i t) j=if j=i then t else Yc l j:=by
 unfold Yc;rw[aa,ak];by_cases e:i=j
 ·subst e;rw[if_pos rfl,if_pos B,if_pos rfl];rfl
 ·rw[if_neg e,if_neg (fun h=>e h.symm),aa]
theorem D1 {l:List Int}(B:i<l.length)(t:Int)(j:Nat):(l.set i t).getD j 0=if j=i then t else l.getD j 0:=by
 rw[aa,ak];by_cases e:i=j
 ·subst e;rw[if_pos rfl,if_pos B,if_pos rfl];rfl
 ·rw[if_neg e,if_neg (fun h=>e h.symm),aa]
theorem P1 (i:Nat):(QW i).size=2:=by
 unfold QW;rw[ByteArray.size_append];rfl
theorem xV (h:WZ n k m)(K:who<6){put:Bool}(op:Int):XA (YA who op m.aC (aG m.aB m.aC) put (Yc m.texts who)):=by
 have D:=h.cU m.aC h.act;have I:=h.act;have J:=h.many;refine⟨⟨D.1,by show wX.size<=100;decide,by show(QW who).size<=100;rw[P1];decide,?_,(fun _ e=>by cases e),(fun e=>by cases e),az,(fun x H=>by cases H),rfl,(fun e=>by cases e),(fun l B=>by cases B)⟩,(fun l B=>by cases B),⟨by show(0:Int)<=(m.aC:Int);omega,by show(m.aC:Int)<=1000;omega⟩,⟨by show(0:Int)<=(who:Int);omega,by show(who:Int)<6;omega⟩,(fun e=>by cases e)⟩;show(if put=za then Yc m.texts who else⟨#[]⟩:BA).size<=1000;split
 ·exact h.gD who
 ·decide
theorem zT (a:Za)(kind:BA)(b:Bool):(a.send kind b).length=a.c.L.length:=by unfold Za.send;simp
theorem zR (h:XA a):a.begin.length<=12:=by
 obtain⟨⟨_,_,B⟩,D,_⟩:=Xm h.aN.cfg;unfold Za.begin;split
 ·split
  ·rw[zT];omega
  ·exact aq _
 ·rw[zT];omega
theorem WZ.begun (h:WZ n k m)(D:who<6)(put:Bool):WZ n k {m with asks:=m.asks.set who (ab (YA who m.ops m.aC (aG m.aB m.aC) put (Yc m.texts who))),ops:=m.ops+1}:=by
 have H:=xV h D (put:=put) m.ops;have I:=h.act;have J:=h.many;refine⟨h.bO,h.msgs,by show(m.asks.set who _).length=6;rw[ao];exact h.la,h.lt,h.ls,h.gD,h.act,h.many,h.dN,h.dO,h.cU,fun i a B=>?_,h.bI,h.nodes⟩;have B:=B;rw[ZZ (by rw[h.la];exact D)]at B;split at B
 ·rw[<-an B];exact⟨H,rfl,by show(m.aC:Int)<=12;omega⟩
 ·exact h.asks i a B
theorem WZ.begin (h:WZ n k m)(B:who<6)(put:Bool):WZ n k (m.begin who put):=(h.begun B put).send (xV h B m.ops).begin
theorem uS {l:List (Je×Bool)}(B:i<l.length)(x:Je×Bool)(j:Nat):Jc (l.set i x) j=if j=i then x else Jc l j:=by
 unfold Jc;rw[aa,ak];by_cases e:i=j
 ·subst e;rw[if_pos rfl,if_pos B,if_pos rfl];rfl
 ·rw[if_neg e,if_neg (fun h=>e h.symm),aa]
theorem WZ.asked (h:WZ n k m){o:Option Za}(H:∀a,o=ab a->XA a/\a.aI=F/\a.config<=12):WZ n k {m with asks:=m.asks.set who o}:=by
 refine⟨h.bO,h.msgs,by show(m.asks.set who _).length=6;rw[ao];exact h.la,h.lt,h.ls,h.gD,h.act,h.many,h.dN,h.dO,h.cU,fun i a B=>?_,h.bI,h.nodes⟩;by_cases D:who<m.asks.length
 ·have B:Xf (m.asks.set who o) i=ab a:=B;rw[ZZ D]at B;split at B
  ·exact H a B
  ·exact h.asks i a B
 ·have B:Xf (m.asks.set who o) i=ab a:=B;rw[List.set_eq_of_length_le (by omega)]at B;exact h.asks i a B
theorem zX (x:Zb)(B:a.aI=F):(a.aD x).1.aI=F/\(a.aD x).1.config=a.config/\(a.aD x).1.put=a.put:=by
 have K:∀b:Za,b.aI=F->b.aF.keeps.aI=F/\b.aF.keeps.config=b.config/\b.aF.keeps.put=b.put:=fun b D=>by
  obtain⟨_,_,_,H,_,_,I,_,_,_,J⟩:=YE b;obtain⟨_,_,_,_,O,_⟩:=Q2 b.aF;obtain⟨_,U⟩:=Zw b.aF;refine⟨by rw[O,H,D],by rw[U,H,D,I];rfl,?_⟩;unfold Za.keeps;split<;>exact J
 have Z:∀b:Za,b.aI=F->b.aF.aI=F/\b.aF.config=b.config/\b.aF.put=b.put:=fun b D=>by
  obtain⟨_,_,_,H,_,_,I,_,_,_,J⟩:=YE b;exact⟨by rw[H,D],I,J⟩
 unfold Za.aD;split
 ·exact⟨B,rfl,rfl⟩
 ·split
  ·exact⟨B,rfl,rfl⟩
  ·split
   ·exact⟨B,rfl,rfl⟩
   ·split
    ·exact⟨B,rfl,rfl⟩
    ·split
     ·exact Z (a.heard x) B
     ·exact K (a.heard x) B
theorem WZ.IE (h:WZ n k m)(d:Int):WZ n k {m with aA:=d}:=⟨h.bO,h.msgs,h.la,h.lt,h.ls,h.gD,h.act,h.many,h.dN,h.dO,h.cU,h.asks,h.bI,h.nodes⟩
theorem WZ.bV (h:WZ n k m)(E:List Ev):WZ n k {m with events:=E}:=⟨h.bO,h.msgs,h.la,h.lt,h.ls,h.gD,h.act,h.many,h.dN,h.dO,h.cU,h.asks,h.bI,h.nodes⟩
theorem WZ.aD (h:WZ n k m)(hw:who<6)(hx:YF x):WZ n k (m.aD who x):=by
 unfold Ya.aD;cases H:Xf m.asks who with
 |none=>exact h
 |some a =>
  obtain⟨I,J,K⟩:=h.asks who a H;obtain⟨O,U⟩:=I.aD hx (by omega);obtain⟨Z,s2,s3⟩:=zX x J;have B:WZ n k (Ya.send {m with asks:=m.asks.set who (ab (a.aD x).1)} (a.aD x).2):=(h.asked (fun b D=>by rw[<-an D];exact⟨O,Z,by rw[s2];exact K⟩)).send U;show WZ n k (Ya.after _ who (a.aD x).1);generalize Ya.send {m with asks:=m.asks.set who (ab (a.aD x).1)} (a.aD x).2=m3 at *;unfold Ya.after;split
  ·exact(B.asked (o:=ac) (fun b D=>by cases D)).bV _
  ·split
   ·exact B.begin hw _
   ·exact B
  ·exact B
theorem WZ.off (h:WZ n k m)(i:Nat):WZ n k (m.off i):=⟨by show(m.L.eraseIdx i).length<=120;have:=List.length_eraseIdx_le m.L i;have:=h.bO;omega,fun x B=>h.msgs x (List.mem_of_mem_eraseIdx B),h.la,h.lt,h.ls,h.gD,h.act,h.many,h.dN,h.dO,h.cU,h.asks,h.bI,h.nodes⟩
theorem WZ.node (h:WZ n k m)(J:YF x):WZ n k (m.node x):=by
 unfold Ya.node;split
 ·rename_i D;obtain⟨H,I⟩:=(h.nodes _ D.1).aD J;refine WZ.send ?_ I;refine⟨h.bO,h.msgs,h.la,h.lt,h.ls,h.gD,h.act,h.many,h.dN,h.dO,h.cU,h.asks,h.bI,fun i B=>?_⟩;have B:=B;rw[ao]at B;show jJ (Jc (m.nodes.set _ _) i).1;rw[uS D.1];split
  ·exact H
  ·exact h.nodes i B
 ·exact h
theorem LO (x:Zb)(B:a.aI=za){c:Int}(h:a.st=.sealing/\a.config=c∨a.st=.keeping/\a.config=c+1):(a.aD x).1.aI=za/\((a.aD x).1.st=.sealing/\(a.aD x).1.config=c∨(a.aD x).1.st=.keeping/\(a.aD x).1.config=c+1∨(a.aD x).1.st=.done∨(a.aD x).1.st=.refused):=by
 have J:∀b:Za,b.aI=za->b.aF.keeps.aI=za/\b.aF.keeps.st=.keeping/\b.aF.keeps.config=b.config+1:=fun b D=>by
  obtain⟨_,_,_,H,_,_,K,_⟩:=YE b;obtain⟨_,_,_,_,O,U,_⟩:=Q2 b.aF;obtain⟨_,Z⟩:=Zw b.aF;exact⟨by rw[O,H,D],U,by rw[Z,H,D,K];rfl⟩
 have I:a.st=.sealing/\a.config=c∨a.st=.keeping/\a.config=c+1∨a.st=.done∨a.st=.refused:=h.imp id af;unfold Za.aD;split
 ·exact⟨B,I⟩
 ·split
  ·exact⟨B,am (am (am rfl))⟩
  ·split
   ·exact⟨B,I⟩
   ·split
    ·exact⟨B,am (am (af rfl))⟩
    ·rename_i hk;split
     ·exact⟨by show(a.heard x).aF.aI=za;rw[(YE _).2.2.2.1];exact B,am (am (af rfl))⟩
     ·obtain⟨f1,f2,f3⟩:=J (a.heard x) B;refine⟨f1,am (af ⟨f2,?_⟩)⟩;rw[f3];rcases h with h|h
      ·show a.config+1=_;rw[h.2]
      ·exact absurd h.1 hk
theorem WZ.aI (h:WZ n k m)(hx:YF x)(J:∀a,m.mover=ab a->(a.aD x).1.st≠.refused):WZ n k (m.aI x):=by
 unfold Ya.aI;cases I:m.mover with
 |none=>exact h
 |some a =>
  obtain⟨O,U,K⟩:=h.bI a I;have a0:=h.dO a I;have a2:=h.many;obtain⟨Z,h2⟩:=O.aD hx (by rcases K with h|h<;>rw[h.2]<;>omega);obtain⟨g1,g2⟩:=LO x U K;have J:=J a I;have H:=h.send h2;refine⟨H.bO,H.msgs,H.la,H.lt,H.ls,H.gD,?_,H.many,fun e=>?_,fun b B=>?_,H.cU,H.asks,fun b B=>?_,H.nodes⟩
  ·show(if(a.aD x).1.st=.done then m.aB.length-1 else m.aC)<m.aB.length;split<;>omega
  ·have e:(if(a.aD x).1.st=.done∨(a.aD x).1.st=.refused then ac else ab (a.aD x).1)=none:=e;show m.aB.length=(if(a.aD x).1.st=.done then m.aB.length-1 else m.aC)+1;by_cases D:(a.aD x).1.st=.done
   ·rw[if_pos D];omega
   ·rw[if_neg (fun h=>by rcases h with h|h;exact D h;exact J h)]at e;cases e
  ·have B:(if(a.aD x).1.st=.done∨(a.aD x).1.st=.refused then ac else ab (a.aD x).1)=ab b:=B;show m.aB.length=(if(a.aD x).1.st=.done then m.aB.length-1 else m.aC)+2;by_cases D:(a.aD x).1.st=.done
   ·rw[if_pos (af D)]at B;cases B
   ·rw[if_neg D];omega
  ·have B:(if(a.aD x).1.st=.done∨(a.aD x).1.st=.refused then ac else ab (a.aD x).1)=ab b:=B;by_cases D:(a.aD x).1.st=.done∨(a.aD x).1.st=.refused
   ·rw[if_pos D]at B;cases B
   ·rw[if_neg D]at B;rw[<-an B];refine⟨Z,g1,?_⟩;show _/\_=((if(a.aD x).1.st=.done then m.aB.length-1 else m.aC:Nat):Int)∨_/\_=((if(a.aD x).1.st=.done then m.aB.length-1 else m.aC:Nat):Int)+1;rw[if_neg (fun h=>D (af h))];rcases g2 with g|g|g|g
    ·exact af g
    ·exact am g
    ·exact absurd (af g) D
    ·exact absurd (am g) D
end
end
def fY (l:List BA):Bool:=decide (30<l.length)||l.any fun x=>decide (100<x.size)
theorem zI (h:fY l=F):l.length<=30/\∀x∈l,x.size<=100:=by
 unfold fY at h;rw[Bool.or_eq_false_iff]at h;refine⟨by have:=of_decide_eq_false h.1;omega,fun x B=>?_⟩;have:=ze.1 h.2 x B;simpa using this
theorem D7 (l:List BA)(p:Option Addr)(cap:Nat)(w:World)(hl:l.length<=9223372036854775807)(H:∀x∈l,x.size<=9223372036854775807)(hs:Strs w p l):
 Calls prog 5 #[.slice p l.length cap] w fun e w'=>e=.returned (.bool (fY l))/\w'=w:=by
 by_cases J:30<l.length
 ·have D:Hid (fY l=za):=by show _=_;unfold fY;rw[decide_eq_true J,Bool.true_or]
  rw[D.out];clear hs H;go_enter func5,ntmps5;go_wp2;go_ret;exact⟨rfl,rfl⟩
 have K:Hid (∀i,i<l.length->(Yc l i).size<=9223372036854775807):=fun i B=>H _ (oQ B)
 have O:Hid (∀i,i<l.length->100<(Yc l i).size->fY l=za):=fun i B h=>by
  unfold fY;rw[decide_eq_false J,zh,List.any_eq_true];exact⟨Yc l i,oQ B,decide_eq_true h⟩
 have U:Hid ((∀i,i<l.length->¬100<(Yc l i).size)->fY l=F):=fun h=>by
  unfold fY;rw[decide_eq_false J,zh,ze];intro x H h2;obtain⟨i,B,rfl⟩:=tF H;exact h i B (of_decide_eq_true h2)
 generalize fY l=r at *;have HS:Hid _:=hs;clear hs H;go_enter func5,ntmps5;go_wp2;go_loopw [3] (fun x wr=>∃i:Nat,i<=l.length/\x=.int .i64 i/\(∀j,j<i->¬100<(Yc l j).size)/\wr=w) (fun x _=>l.length-(intOf x).toNat)
 case atStart=>exact⟨0,aq _,rfl,(fun j Z=>absurd Z (ar _)),rfl⟩
 case round =>
  obtain⟨i,B,rfl,a2,a5⟩:=hrel;subst a5;have a0:Hid _:=a2;clear a2;by_cases I:i<l.length
  ·rcases HS.out with h0|⟨b,o,rfl,a8,hc⟩
   ·rw[h0]at I;exact absurd I (ar _)
   have q1:=hc i I;have a9:=K.out i I;clear hc;by_cases a3:100<(Yc l i).size
   ·have D:Hid (r=za):=O.out i I a3;clear O U a0 K;generalize Yc l i=t at *;go_wp2;go_ret;exact⟨by rw[D.out];rfl,rfl⟩
   ·have a6:Hid (¬100<(Yc l i).size):=a3;clear O U K;generalize a4:Yc l i=t at *;have a7:Hid _:=a4;clear a4;go_wp2;go_roundw
    case rel=>exact⟨i+1,by omega,by go_num,(fun j Z=>by
     rcases Nat.lt_or_ge j i with h|h
     ·exact a0.out j h
     ·obtain rfl:j=i:=by omega
      rw[a7.out];exact a6.out),trivial⟩
    case measure=>simp[intOf];omega
  ·have D:Hid (r=F):=U.out (fun j Z=>a0.out j (by omega));go_wp2;go_ret;exact⟨by rw[D.out];rfl,rfl⟩
theorem A9 (l:List BA)(p:Option Addr)(cap:Nat)(w:World)(hl:l.length<=8796093021952)(O:Strs w p l)(hn:p=ac->l=[]/\cap=0):
 Calls prog 7 #[.slice p l.length cap] w fun e w'=>(∃q d,e=.returned (.slice q l.length d)/\Strs w' q l/\l.length<=d/\(q=ac->l=[]/\d=0)/\∀b o,q=ab ⟨b,o,ac⟩->w.heap.size<=b)/\Below w.heap.size w w':=by
 have U:Hid (Strs w p l):=O;clear O;go_enter func7,ntmps7;go_wp2_with (at_builtin;refine R8 rfl (.tmp 4) (.tmp 5) rfl w.heap.size (.slice ac 0 0) [] rfl (Zq.nil _ _) p l cap rfl U.out hn (by show 0+l.length<=_;omega) nR ?_;intro Z B D H;have I:Hid (Zq B w.heap.size Z l/\Below w.heap.size w B):=⟨D,H⟩;clear D H)
 obtain⟨q,d,rfl,J,a0,a2,a3⟩:=I.out.1.form;go_ret;exact⟨⟨q,d,rfl,J,a0,fun e=>⟨(by rcases J with h|⟨b,o,K,_⟩;exact h;rw[e]at K;cases K),a2 e⟩,fun b o e=>(a3 b o e).1⟩,I.out.2⟩
end Go.Proofs.YtgapmoniajcliaaGreatDoor

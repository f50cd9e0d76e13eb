/- Texts laid together. -/
import Derived.Test.YtgapmoniajcliaaGreatDoorV16
open List renaming range->aa,length_append->ab,length_range->ac,not_mem_nil->za,length_map->ae,mem_range->af,getD_eq_getElem?_getD->ag,mem_cons_of_mem->ai,append_nil->aj,length_set->al,mem_map->am,append_assoc->an,nil_append->ap,map_congr_left->ar,length_take->au,map_append->aw,mem_cons->ax,mem_singleton->az,set_set->aE,map_cons->zb,replicate->aJ,getElem_range->zc,length_cons->ze,getElem_inj->zf,take_of_length_le->zg,mem_append->zh,getElem?_eq_none->aW,mem_map_of_mem->zi,pairwise_map->zj,getElem?_set->ba,findIdx_cons->bb,nodup_range->bc,mem_flatten->bd,range_succ->bg,nodup_cons->bh,map_map->bp
open Bool renaming false->F,true->T,and_eq_true->av
open Or renaming inl->ah,inr->ao
open Option renaming some->S,none->ak
open Int renaming toNat_natCast->aq,le_refl->aN
open Nat renaming not_lt_zero->ay,le_refl->zd,zero_le->bf,le_trans->bo,le_succ->bt
open List.cons renaming inj->aO
namespace Go.Proofs.YtgapmoniajcliaaGreatDoor
open Go.RowKit
variable {l:Nat->List Yb}{i n k D B who e j:Nat}{m:Je}{c:Xg}{s name text:BA}{N:List (Je×Bool)}{op:Int}{t:JC}
section
theorem TX {l:List Zb}(h:l.length<=i):Yg l i=⟨⟨#[]⟩,⟨#[]⟩,⟨#[]⟩,⟨#[]⟩,0,0,F,[]⟩:=by
 unfold Yg;rw[ag,aW h];rfl
theorem Zh.fC {G:Gh}{w:Ya}(h:Zh n k G w)(i:Nat):∀a,w.mover=S a->(a.aD (Yg w.L i)).1.st≠.refused:=fun a U=>by
 have M:=h.bI a U;have Z:a.st=.sealing∨a.st=.keeping:=by
  rcases M.st with B|B
  ·exact ah B.1
  ·exact ao B.1
 have J:a.st≠.refused:=by rcases Z with h|h<;>rw[h]<;>decide
 by_cases D:a.aM (Yg w.L i)=F
 ·rw[show a.aD (Yg w.L i)=(a,[])from if_pos D];exact J
 have a0:a.aM (Yg w.L i)=true:=by cases h:a.aM (Yg w.L i)with|false=>exact absurd h D|true=>rfl
 obtain⟨H,t2,t3,t4,t5,t6⟩:=Za.eQ a0;have a2:i<w.L.length:=by
  rcases Nat.lt_or_ge i w.L.length with I|I
  ·exact I
  ·rw[TX I]at H;exact absurd H.symm t2
 obtain⟨j,K⟩:=h.msgs _ (oB a2);have a3:¬((Yg w.L i).shut=T/\a.st≠.sealing):=fun O=>by
  rcases M.st with⟨k1,_⟩|⟨k1,k2,_⟩
  ·exact O.2 k1
  ·have a4:(Yg w.L i).kind=iS:=by rw[H,k1];rfl
   obtain⟨_,_,_,h5⟩:=K.kept a4;have h6:=h.base.shut _ _ (h5 O.1);have h7:=K.cfg;have h8:=M.len;rw[t4,k2]at h7;omega
 unfold Za.aD;rw[if_neg D,if_neg a3];split
 ·exact J
 ·split
  ·exact fun e=>by cases e
  ·split
   ·exact fun e=>by cases e
   ·unfold Za.keeps;split<;>exact fun e=>by cases e
section
variable {n k:Nat} {m:Ya}
theorem WZ.lZ (B:WZ n k m)(who:Int)(put:Bool)(text:BA):WZ n k (m.open_ who put text).1:=by
 unfold Ya.open_;split
 ·exact B
 ·rename_i D;split
  ·exact B
  ·exact(B.opened (by omega) (by omega) _).begin (by omega) _
theorem WZ.jI (H:WZ n k m)(i:Int)(K:∀a,m.mover=S a->(a.aD (Yg m.L i.toNat)).1.st≠.refused):WZ n k (m.aR i).1:=by
 unfold Ya.aR;split
 ·exact H
 ·rename_i O;have B:YF (Yg m.L i.toNat):=H.msgs _ (oB (by omega));have D:WZ n k {m.off i.toNat with aA:=m.aA+1}:=(H.off i.toNat).IE _;show WZ n k (match YN (Yg m.L i.toNat).aP with
   |some who=>Ya.aD {m.off i.toNat with aA:=m.aA+1} who (Yg m.L i.toNat)
   |none=>if(Yg m.L i.toNat).aP=J8 then Ya.aI {m.off i.toNat with aA:=m.aA+1} (Yg m.L i.toNat)else Ya.node {m.off i.toNat with aA:=m.aA+1} (Yg m.L i.toNat))
  cases I:YN (Yg m.L i.toNat).aP with
  |some who =>
   have J:who<6:=by
    have:=List.mem_of_find?_eq_some I;exact af.1 this
   exact D.aD J B
  |none =>
   show WZ n k (if(Yg m.L i.toNat).aP=J8 then _ else _);split
   ·exact D.aI B K
   ·exact D.node B
end
theorem JqO (w:Ya)(who:Nat)(a:Za):(w.after who a).ops=w.ops∨(w.after who a).ops=w.ops+1:=by
 unfold Ya.after;split
 ·exact ah rfl
 ·split
  ·exact ao rfl
  ·exact ah rfl
 ·exact ah rfl
theorem Jst (w:Ya)(l:List BA):(w.eX l).ops=w.ops:=by
 obtain⟨N,h,_⟩:=l3 l w;rw[h]
theorem PS {w w':Ya}(h:WStep n k w w'):w'.ops=w.ops∨w'.ops=w.ops+1:=by
 cases h with
 |open_ who put text =>
  unfold Ya.open_;split
  ·exact ah rfl
  ·split
   ·exact ah rfl
   ·exact ao rfl
 |aR i =>
  unfold Ya.aR;split
  ·exact ah rfl
  ·have B:∀o:Option Nat,(match o with
    |some who=>Ya.aD {w.off i.toNat with aA:=w.aA+1} who (Yg w.L i.toNat)
    |none=>if(Yg w.L i.toNat).aP=J8 then Ya.aI {w.off i.toNat with aA:=w.aA+1} (Yg w.L i.toNat)else Ya.node {w.off i.toNat with aA:=w.aA+1} (Yg w.L i.toNat)).ops=w.ops∨(match o with
    |some who=>Ya.aD {w.off i.toNat with aA:=w.aA+1} who (Yg w.L i.toNat)
    |none=>if(Yg w.L i.toNat).aP=J8 then Ya.aI {w.off i.toNat with aA:=w.aA+1} (Yg w.L i.toNat)else Ya.node {w.off i.toNat with aA:=w.aA+1} (Yg w.L i.toNat)).ops=w.ops+1:=fun o=>by
    cases o with
    |some who =>
     show(Ya.aD {w.off i.toNat with aA:=w.aA+1} who (Yg w.L i.toNat)).ops=_∨(Ya.aD {w.off i.toNat with aA:=w.aA+1} who (Yg w.L i.toNat)).ops=_;unfold Ya.aD;split
     ·exact ah rfl
     ·exact JqO _ _ _
    |none =>
     refine ah ?_;show(if(Yg w.L i.toNat).aP=J8 then Ya.aI {w.off i.toNat with aA:=w.aA+1} (Yg w.L i.toNat)else Ya.node {w.off i.toNat with aA:=w.aA+1} (Yg w.L i.toNat)).ops=_;split
     ·unfold Ya.aI;split<;>rfl
     ·unfold Ya.node;split<;>rfl
   exact B _
 |drop i=>refine ah ?_;unfold Ya.drop;split<;>rfl
 |bC i =>
  refine ah ?_;unfold Ya.bC;split
  ·rfl
  ·split<;>rfl
 |set s up=>refine ah ?_;unfold Ya.set;split<;>rfl
 |again who =>
  refine ah ?_;unfold Ya.again;split
  ·rfl
  ·split
   ·rfl
   ·split<;>rfl
 |a8 who =>
  unfold Ya.a8;split
  ·exact ah rfl
  ·split
   ·exact ah rfl
   ·split
    ·split
     ·exact ah rfl
     ·exact ao rfl
    ·exact ah rfl
 |change nodes c D H=>exact ao rfl
 |none=>exact ah rfl
theorem bP.ops :∀{t:Nat} {w:Ya},bP n k t w->0<=w.ops/\w.ops<=t:=by
 intro t w h
 induction h with
 |new nodes c D =>
  unfold Ya.new;rw[Jst];exact⟨aN _,aN _⟩
 |step t w w' h B ih =>
  rcases PS B with e|e<;>rw[e]<;>constructor<;>omega
end
structure Qy (D B:Nat) (m:Je):Prop where
 one:∀i j,i<m.L.length->j<m.L.length->(Zg m.L i).1=(Zg m.L j).1->i=j
 below:∀i,i<m.L.length->0<=(Zg m.L i).1/\(Zg m.L i).1<(D:Int)
 bO:∀i,(Zg m.L i).2.1.length<=B
theorem Qy.mono {H I:Nat}(h:Qy D B m)(K:D<=H)(hB:B<=I):Qy H I m:=⟨h.one,fun i J=>by have:=h.below i J;omega,fun i=>bo (h.bO i) hB⟩
theorem Qy.nil (D B:Nat)(s:BA):Qy D B ⟨s,[]⟩:=⟨fun i _ H=>absurd H (ay i),fun i H=>absurd H (ay i),fun _=>bf _⟩
theorem Qy.len (h:Qy D B m):m.L.length<=D:=by
 have K:((aa m.L.length).map fun i=>(Zg m.L i).1.toNat).Nodup:=by
  refine zj.2 ((bc (n:=m.L.length)).imp_of_mem fun {a b} I J O e=>O ?_);have H:=h.below a (af.1 I);have h3:=h.below b (af.1 J);exact h.one a b (af.1 I) (af.1 J) (by omega)
 have H:((aa m.L.length).map fun i=>(Zg m.L i).1.toNat).length<=(aa D).length:=YS K fun x U=>by
  obtain⟨i,Z,rfl⟩:=am.1 U;have:=h.below i (af.1 Z);exact af.2 (by omega)
 rw[ae,ac,ac]at H;exact H
theorem Qy.room (h:Qy D B m)(hD:D<=12){c:Int}(h0:0<=c)(hc:c<(D:Int)):∃m1,m.held c=S m1/\Qy D B m1:=by
 unfold Je.held;split
 ·exact⟨m,rfl,h⟩
 ·rename_i hn;have O:Qy D B ⟨m.name,m.L++ [(c,[],F)]⟩:=by
   have U:∀i,i<m.L.length->(Zg m.L i).1≠c:=fun i K e=>by
    have a2:=kL m.L c;exact Q6 (L:=m.L) (c:=c) (i:=i) (by omega) e
   refine⟨fun i j K Z e=>?_,fun i K=>?_,fun i=>?_⟩
   ·have a0:i<m.L.length+1:=by rw[show(m.L++ [(c,([]:List Yh),F)]).length=m.L.length+1 by rw[ab];rfl]at K;exact K
    have a3:j<m.L.length+1:=by rw[show(m.L++ [(c,([]:List Yh),F)]).length=m.L.length+1 by rw[ab];rfl]at Z;exact Z
    have J:=e;rw[QI,QI]at J;by_cases H:i<m.L.length
    ·by_cases I:j<m.L.length
     ·rw[if_pos H,if_pos I]at J;exact h.one i j H I J
     ·rw[if_pos H,if_neg I,if_pos (by omega)]at J;exact absurd J (U i H)
    ·by_cases I:j<m.L.length
     ·rw[if_neg H,if_pos (by omega),if_pos I]at J;exact absurd J.symm (U j I)
     ·omega
   ·show 0<=(Zg (m.L++ [(c,[],F)]) i).1/\_;have a0:i<m.L.length+1:=by rw[show(m.L++ [(c,([]:List Yh),F)]).length=m.L.length+1 by rw[ab];rfl]at K;exact K
    rw[QI];by_cases H:i<m.L.length
    ·rw[if_pos H];exact h.below i H
    ·rw[if_neg H,if_pos (by omega)];exact⟨h0,hc⟩
   ·show(Zg (m.L++ [(c,[],F)]) i).2.1.length<=B;rw[QI];split
    ·exact h.bO i
    ·split<;>exact bf _
  split
  ·rename_i a4;have H:=O.len;have I:(m.L++ [(c,([]:List Yh),F)]).length=m.L.length+1:=by rw[ab];rfl
   have h3:m.L.length+1<=D:=by rw[<-I];exact H
   omega
  ·exact⟨_,rfl,O⟩
theorem Qy.kU (h:Qy D B m)(I:i<m.L.length){L:List Yh}{s:Bool}(K:L.length<=B+1):Qy D (B+1) (m.put i (L,s)):=by
 have O:=ZH m i (L,s);have H:∀j,(Zg (m.put i (L,s)).L j).1=(Zg m.L j).1:=fun j=>by
  rw[mC I];split
  ·rename_i e;rw[e]
  ·rfl
 refine⟨fun a b J U e=>?_,fun a J=>?_,fun a=>?_⟩
 ·rw[H,H]at e;exact h.one a b (by omega) (by omega) e
 ·rw[H];exact h.below a (by omega)
 ·rw[mC I];split
  ·exact K
  ·exact Nat.le_succ_of_le (h.bO a)
theorem Jb2:Jo wX=true:=by decide
theorem JaK {L:List Yh}{key:BA}{v:Yb}(h:∀x∈Xc L key,(x.n,x.who)=(v.n,v.who)->x=v)(I:L.length<60):∀(m i:Nat),i+m=L.length->Jx L key v i m=0∨Jx L key v i m=-1
 |0,i,_=>by
  unfold Jx;rw[if_neg (by omega)];exact ah rfl
 |m+1,i,hi=>by
  unfold Jx;split
  ·rename_i B;unfold Z5 at B;rw[av,av,decide_eq_true_eq,decide_eq_true_eq,decide_eq_true_eq]at B;have D:=Q0 (L:=L) (i:=i) (by omega);have H:(key,(Yy L i).2)∈L:=by
    have:Yy L i∈L:=List.mem_of_getElem? D;rw[<-B.1.1];exact this
   have:=h _ (YJ.2 H) (by rw[B.1.2,B.2]);rw[if_pos this];exact ao rfl
  ·exact JaK h I m (i+1) (by omega)
theorem Qy.jaB (h:Qy D B m)(hD:D<=12)(hB:B<60){x:Zb}(a6:x.aP=m.name)(a2:x.key=wX)(h0:0<=x.config)(hc:x.config<(D:Int))(H:x.kind=ZW∨x.kind=Q3∨(x.kind=Y3/\∃v,x.L=[v]/\Y7 v=T/\(Qn m x.config).2=F/\∀u∈(Qn m x.config).1,(u.n,u.who)=(v.n,v.who)->u=v)):Qy D (B+1) (m.aD x).1/\(m.aD x).2≠[]:=by
 obtain⟨m1,a0,J⟩:=h.room hD h0 hc;obtain⟨g1,g2,U,g4⟩:=K5 a0;have a3:¬(m.off x∨kT x):=by
  rintro(I|I)
  ·rcases I with I|I|I
   ·exact I a6
   ·omega
   ·rw[a2,Jb2]at I;cases I
  ·rcases H with H|H|⟨H,v,Z,_⟩
   ·exact I.1 H
   ·exact I.2.1 H
   ·rcases I.2.2 with K|K
    ·exact K H
    ·rw[Z]at K;exact K rfl
 have e:m.aD x=m1.cG (Yf m.L x.config) x:=by
  unfold Je.aD;rw[if_neg a3,a0]
 rw[e];unfold Je.cG;by_cases k1:x.kind=ZW
 ·rw[if_pos k1];exact⟨J.mono nR (bt _),by simp⟩
 ·rw[if_neg k1];by_cases k2:x.kind=Q3
  ·rw[if_pos k2];exact⟨J.kU U (Nat.le_succ_of_le (J.bO _)),by simp⟩
  ·rw[if_neg k2];rcases H with H|H|⟨H,v,Z,K,h2,h3⟩
   ·exact absurd H k1
   ·exact absurd H k2
   ·have a4:Xd x.L 0=v:=by rw[Z];rfl
    have hm:Qn m x.config=(Xc (Zg m1.L (Yf m.L x.config)).2.1 wX,(Zg m1.L (Yf m.L x.config)).2.2):=by
     rw[<-g4 x.config];unfold Qn;rw[g2]
    rw[hm]at h2 h3;have a5:=h2;have a7:=J.bO (Yf m.L x.config);have O:Ju (Zg m1.L (Yf m.L x.config)).2.1 F wX v=0∨Ju (Zg m1.L (Yf m.L x.config)).2.1 F wX v=-1:=by
     unfold Ju;rw[if_neg (by decide),if_pos Jb2,if_pos K];exact JaK h3 (by omega) _ _ (by omega)
    rw[a4,a2,a5];unfold Qt;rcases O with O|O
    ·rw[if_pos O];exact⟨J.kU U (by rw[Jly];omega),by dsimp only;rw[if_neg (by omega)];simp⟩
    ·rw[if_neg (by rw[O];decide),if_pos (by rw[O];decide)];exact⟨J.kU U (by dsimp only;omega),by dsimp only;rw[if_neg (by omega)];simp⟩
def Ya.go:Nat->Ya->Ya
 |0,w=>w
 |m+1,w=>Ya.go m (w.aR 0).1
def RZ (N:List (Je×Bool))(s:BA):Je×Bool:=Jc N (Qe N s)
structure Up (w:Ya) (s:BA):Prop where
 has:Qe w.nodes s<w.nodes.length
 up:(RZ w.nodes s).2=T
 cli:YN s=ak
 mv:s≠J8
theorem Jak {w:Ya}{m:Zb}{r:List Zb}(B:w.L=m::r):(w.aR 0).1=match YN m.aP with
 |some who=>Ya.aD {w with L:=r,aA:=w.aA+1} who m
 |none=>if m.aP=J8 then Ya.aI {w with L:=r,aA:=w.aA+1} m else Ya.node {w with L:=r,aA:=w.aA+1} m:=by
 have D:Yg w.L (0:Int).toNat=m:=by rw[B];rfl
 have H:{w.off (0:Int).toNat with aA:=w.aA+1}={w with L:=r,aA:=w.aA+1}:=by
  unfold Ya.off;rw[B];rfl
 unfold Ya.aR;rw[if_neg (by rw[B];simp)];dsimp only;rw[D,H];rfl
theorem Jbm:∀(ms:List Zb) (w:Ya) (rest:List Zb),w.L=ms++rest->(ms.map Zb.aP).Nodup->(∀m∈ms,Up w m.aP/\(((RZ w.nodes m.aP).1.aD m).1.name=(RZ w.nodes m.aP).1.name)/\((RZ w.nodes m.aP).1.aD m).2.length<=1)->w.L.length<=120 ->
 ∃N,w.go ms.length={w with L:=rest++(ms.map fun m=>((RZ w.nodes m.aP).1.aD m).2).flatten,nodes:=N,aA:=w.aA+ms.length}/\(∀m∈ms,RZ N m.aP=(((RZ w.nodes m.aP).1.aD m).1,T))/\(∀s,(∀m∈ms,m.aP≠s)->RZ N s=RZ w.nodes s)/\(∀s,Qe N s=Qe w.nodes s)/\N.length=w.nodes.length
 | [],w,rest,hL,_,_,_=>⟨w.nodes,by
  rw[show w.go ([]:List Zb).length=w from rfl];obtain⟨L,nodes,asks,since,texts,mover,aB,aC,ops,aA,events⟩:=w;have I:L=rest:=hL;subst I;simp,fun _ hm=>absurd hm za,fun _ _=>rfl,fun _=>rfl,rfl⟩
 |m::ms,w,rest,hL,hnd,hup,hl=>by
  obtain⟨D,a0,a5⟩:=hup m (by simp);have I:=hL;have a2:(ms++rest).length+1<=120:=by rw[I]at hl;exact hl
  have a3:(w.aR 0).1={w with L:=ms++(rest++((RZ w.nodes m.aP).1.aD m).2),nodes:=w.nodes.set (Qe w.nodes m.aP) (((RZ w.nodes m.aP).1.aD m).1,T),aA:=w.aA+1}:=by
   rw[Jak I,D.cli];show(if m.aP=J8 then _ else _)=_;rw[if_neg D.mv];unfold Ya.node;rw[if_pos ⟨D.has,D.up⟩];show({w with L:=(ms++rest)++(((RZ w.nodes m.aP).1.aD m).2).take (120-(ms++rest).length),nodes:=w.nodes.set (Qe w.nodes m.aP) (((RZ w.nodes m.aP).1.aD m).1,T),aA:=w.aA+1}:Ya)=_;rw[zg (by omega),an]
  have Z:∀s,Qe (w.nodes.set (Qe w.nodes m.aP) (((RZ w.nodes m.aP).1.aD m).1,T)) s=Qe w.nodes s:=fun s=>Jp9 (by exact a0) s
  have H:∀s,RZ (w.nodes.set (Qe w.nodes m.aP) (((RZ w.nodes m.aP).1.aD m).1,T)) s=if s=m.aP then(((RZ w.nodes m.aP).1.aD m).1,T)else RZ w.nodes s:=fun s=>by
   refine(show _=Jc _ (Qe _ s)from rfl).trans ?_;rw[Z,Jod D.has];by_cases e:s=m.aP
   ·rw[e,if_pos rfl,if_pos rfl]
   ·rw[if_neg e,if_neg]
    ·rfl
    intro e2;have J:Qe w.nodes s<w.nodes.length:=by rw[e2];exact D.has
    have K:=tM J;rw[e2,tM D.has]at K;exact e K.symm
  have O:∀x∈ms,x.aP≠m.aP:=fun x B e=>by
   have:=(bh.1 hnd).1;exact this (e▸zi B)
  obtain⟨N,h1,h2,J,K,h5⟩:=Jbm ms {w with L:=ms++(rest++((RZ w.nodes m.aP).1.aD m).2),nodes:=w.nodes.set (Qe w.nodes m.aP) (((RZ w.nodes m.aP).1.aD m).1,T),aA:=w.aA+1} (rest++((RZ w.nodes m.aP).1.aD m).2) rfl (bh.1 hnd).2 (fun x B=>by
   obtain⟨U,u2,u3⟩:=hup x (ai _ B);have e:RZ (w.nodes.set (Qe w.nodes m.aP) (((RZ w.nodes m.aP).1.aD m).1,T)) x.aP=RZ w.nodes x.aP:=by rw[H,if_neg (O x B)]
   refine⟨⟨?_,?_,U.cli,U.mv⟩,?_,?_⟩
   ·show Qe (w.nodes.set _ _) x.aP<(w.nodes.set _ _).length;rw[Z,al];exact U.has
   ·show(RZ (w.nodes.set _ _) x.aP).2=T;rw[e];exact U.up
   ·show((RZ (w.nodes.set _ _) x.aP).1.aD x).1.name=(RZ (w.nodes.set _ _) x.aP).1.name;rw[e];exact u2
   ·show((RZ (w.nodes.set _ _) x.aP).1.aD x).2.length<=1;rw[e];exact u3) (by
   show(ms++(rest++((RZ w.nodes m.aP).1.aD m).2)).length<=120;rw[ab]at a2;rw[ab,ab];omega)
  have a4:(ms.map fun x=>((RZ (w.nodes.set (Qe w.nodes m.aP) (((RZ w.nodes m.aP).1.aD m).1,T)) x.aP).1.aD x).2)=ms.map fun x=>((RZ w.nodes x.aP).1.aD x).2:=ar fun x B=>by rw[H,if_neg (O x B)]
  refine⟨N,?_,fun x B=>?_,fun s hs=>?_,fun s=>(K s).trans (Z s),h5.trans (al ..)⟩
  ·show Ya.go ms.length (w.aR 0).1=_;rw[a3,h1];show({w with L:=rest++((RZ w.nodes m.aP).1.aD m).2++(ms.map fun x=>((RZ (w.nodes.set (Qe w.nodes m.aP) (((RZ w.nodes m.aP).1.aD m).1,T)) x.aP).1.aD x).2).flatten,nodes:=N,aA:=w.aA+1+ms.length}:Ya)=_;rw[a4,zb,List.flatten_cons,an,ze,show w.aA+1+(ms.length:Int)=w.aA+((ms.length+1:Nat):Int) by omega]
  ·rcases ax.1 B with e|B
   ·subst e;rw[J x.aP fun y hy=>O y hy];show RZ (w.nodes.set _ _) x.aP=_;rw[H,if_pos rfl]
   ·rw[h2 x B];show(((RZ (w.nodes.set _ _) x.aP).1.aD x).1,T)=_;rw[H,if_neg (O x B)]
  ·rw[J s fun y hy=>hs y (ai _ hy)];show RZ (w.nodes.set _ _) s=_;rw[H,if_neg fun e=>hs m (by simp) e.symm]
def Za.run:Za->List Zb->Za×List Zb
 |a,[]=>(a,[])
 |a,m::ms=>(((a.aD m).1.run ms).1,(a.aD m).2++((a.aD m).1.run ms).2)
def Za.goes:Za->List Zb->Prop
 |_,[]=>True
 |a,m::ms=>(a.aD m).1.st≠.done/\(a.aD m).1.st≠.refused/\(a.aD m).1.goes ms
theorem JaE:∀(ms l:List Zb) (a:Za),a.run (ms++l)=(((a.run ms).1.run l).1,(a.run ms).2++((a.run ms).1.run l).2)
 | [],l,a=>rfl
 |m::ms,l,a=>by
  show(((a.aD m).1.run (ms++l)).1,(a.aD m).2++((a.aD m).1.run (ms++l)).2)=_;rw[JaE ms l];show(_,(a.aD m).2++(((a.aD m).1.run ms).2++_))=(_,(a.aD m).2++((a.aD m).1.run ms).2++_);rw[an];rfl
theorem Jaz:∀(ms l:List Zb) (a:Za),a.goes ms->(a.run ms).1.goes l->a.goes (ms++l)
 | [],_,_,_,h=>h
 |_::ms,l,_,h,h2=>⟨h.1,h.2.1,Jaz ms l _ h.2.2 h2⟩
theorem Jag (w:Ya):∀(a b:Nat),w.go (a+b)=(w.go a).go b:=by
 intro a
 induction a generalizing w with
 |zero=>intro b;rw[Nat.zero_add];rfl
 |succ a ih =>
  intro b;rw[show a+1+b=(a+b)+1 by omega];exact ih _ b
theorem Jau {w:Ya}{l:List Zb}(h:w.L.length+l.length<=120):w.send l={w with L:=w.L++l}:=by
 unfold Ya.send;rw[zg (by omega)]
theorem Jay {who:Nat}(O:who<6):∀(ms:List Zb) (w:Ya) (rest:List Zb) (a:Za),w.L=ms++rest->w.asks.length=6->Xf w.asks who=S a->(∀m∈ms,YN m.aP=S who)->a.goes ms->w.L.length+(a.run ms).2.length<=120 ->
 w.go ms.length={w with L:=rest++(a.run ms).2,asks:=w.asks.set who (S (a.run ms).1),aA:=w.aA+ms.length}
 | [],w,rest,a,hL,hl,ha,_,_,_=>by
  have D:w.asks.set who (S a)=w.asks:=by
   refine List.ext_getElem? fun j=>?_
   rw[ba];split
   ·rename_i e;subst e;unfold Xf at ha;rw[ag]at ha;rw[if_pos (by omega)];rw[List.getElem?_eq_getElem (by omega)]at ha ⊢;exact congrArg S ha.symm
   ·rfl
  show w={w with L:=rest++ [],asks:=w.asks.set who (S a),aA:=w.aA+((0:Nat):Int)};rw[D,aj,<-show w.L=rest from hL];obtain⟨L,nodes,asks,since,texts,mover,aB,aC,ops,aA,events⟩:=w;simp
 |m::ms,w,rest,a,hL,hl,ha,hto,hg,hlen=>by
  have B:w.L=m::(ms++rest):=hL;have H:(a.run (m::ms)).2=(a.aD m).2++((a.aD m).1.run ms).2:=rfl;rw[H,ab,B,ze]at hlen;have I:(w.aR 0).1={w with L:=ms++(rest++(a.aD m).2),asks:=w.asks.set who (S (a.aD m).1),aA:=w.aA+1}:=by
   rw[Jak B,hto m (by simp)];show Ya.aD {w with L:=ms++rest,aA:=w.aA+1} who m=_;unfold Ya.aD;rw[show Xf ({w with L:=ms++rest,aA:=w.aA+1}:Ya).asks who=S a from ha];show Ya.after (Ya.send {w with L:=ms++rest,aA:=w.aA+1,asks:=w.asks.set who (S (a.aD m).1)} (a.aD m).2) who (a.aD m).1=_;rw[Jau (by show(ms++rest).length+_<=120;omega)];have J:∀u:Ya,u.after who (a.aD m).1=u:=fun u=>by
    unfold Ya.after;cases e:(a.aD m).1.st with
    |done=>exact absurd e hg.1
    |refused=>exact absurd e hg.2.1
    |looking=>rfl
    |sealing=>rfl
    |keeping=>rfl
   rw[J];show({w with L:=(ms++rest)++(a.aD m).2,asks:=w.asks.set who (S (a.aD m).1),aA:=w.aA+1}:Ya)=_;rw[an]
  show Ya.go ms.length (w.aR 0).1=_;rw[I];rw[Jay O ms {w with L:=ms++(rest++(a.aD m).2),asks:=w.asks.set who (S (a.aD m).1),aA:=w.aA+1} (rest++(a.aD m).2) (a.aD m).1 rfl (by show(w.asks.set _ _).length=6;rw[al];exact hl) (by show Xf (w.asks.set _ _) who=_;rw[Y9 (by omega),if_pos rfl]) (fun x K=>hto x (ai _ K)) hg.2.2 (by
   show(ms++(rest++(a.aD m).2)).length+_<=120;rw[ab]at hlen;rw[ab,ab];omega)]
  show({w with L:=rest++(a.aD m).2++((a.aD m).1.run ms).2,asks:=(w.asks.set who (S (a.aD m).1)).set who (S ((a.aD m).1.run ms).1),aA:=w.aA+1+ms.length}:Ya)={w with L:=rest++((a.aD m).2++((a.aD m).1.run ms).2),asks:=w.asks.set who (S ((a.aD m).1.run ms).1),aA:=w.aA+((ms.length+1:Nat):Int)};rw[aE,an,show w.aA+1+(ms.length:Int)=w.aA+((ms.length+1:Nat):Int) by omega]
theorem Ja1 {who:Nat}:∀(ms:List Zb) (w:Ya) (rest:List Zb),w.L=ms++rest->Xf w.asks who=ak->(∀m∈ms,YN m.aP=S who)->w.go ms.length={w with L:=rest,aA:=w.aA+ms.length}
 | [],w,rest,hL,_,_=>by
  show w={w with L:=rest,aA:=w.aA+((0:Nat):Int)};rw[<-show w.L=rest from hL];obtain⟨L,nodes,asks,since,texts,mover,aB,aC,ops,aA,events⟩:=w;simp
 |m::ms,w,rest,hL,ha,hto=>by
  have B:(w.aR 0).1={w with L:=ms++rest,aA:=w.aA+1}:=by
   rw[Jak (show w.L=m::(ms++rest)from hL),hto m (by simp)];show Ya.aD {w with L:=ms++rest,aA:=w.aA+1} who m=_;unfold Ya.aD;rw[show Xf ({w with L:=ms++rest,aA:=w.aA+1}:Ya).asks who=ak from ha]
  show Ya.go ms.length (w.aR 0).1=_;rw[B,Ja1 ms {w with L:=ms++rest,aA:=w.aA+1} rest rfl ha fun x D=>hto x (ai _ D)];show({w with L:=rest,aA:=w.aA+1+ms.length}:Ya)={w with L:=rest,aA:=w.aA+((ms.length+1:Nat):Int)};rw[show w.aA+1+(ms.length:Int)=w.aA+((ms.length+1:Nat):Int) by omega]
theorem Jbx {w:Ya}{m:Zb}{rest:List Zb}{a:Za}(B:w.L=m::rest)(D:Xf w.asks who=S a)(H:YN m.aP=S who)(I:(a.aD m).2=[])(J:(a.aD m).1.st=.done):
 (w.aR 0).1={w with L:=rest,asks:=w.asks.set who ak,aA:=w.aA+1,events:=w.events++ [⟨who,(a.aD m).1.put,(a.aD m).1.found,if(a.aD m).1.found then(a.aD m).1.tag else(0,0),if(a.aD m).1.found then(a.aD m).1.text else⟨#[]⟩,w.since.getD who 0,w.aA+1⟩]}:=by
 rw[Jak B,H];show Ya.aD {w with L:=rest,aA:=w.aA+1} who m=_;unfold Ya.aD;rw[show Xf ({w with L:=rest,aA:=w.aA+1}:Ya).asks who=S a from D];show Ya.after (Ya.send {w with L:=rest,aA:=w.aA+1,asks:=w.asks.set who (S (a.aD m).1)} (a.aD m).2) who (a.aD m).1=_;rw[I];unfold Ya.after;rw[J];show({w with L:=rest++([]:List Zb).take (120-rest.length),asks:=(w.asks.set who (S (a.aD m).1)).set who ak,aA:=w.aA+1,events:=w.events++ [⟨who,(a.aD m).1.put,(a.aD m).1.found,if(a.aD m).1.found then(a.aD m).1.tag else(0,0),if(a.aD m).1.found then(a.aD m).1.text else⟨#[]⟩,w.since.getD who 0,w.aA+1⟩]}:Ya)=_;rw[aE,List.take_nil,aj]
section
def Za.at_ (a:Za)(l:Nat->List Yb)(i:Nat):Za:={a with from_:=a.c.L.take i,L:=(aa i).map l}
def Za.n9 (a:Za)(l:Nat->List Yb)(i:Nat):Zb:=⟨Yc a.c.L i,a.name,a.st.waits,a.key,a.op,a.config,F,l i⟩
section
variable {n k:Nat} {a:Za} {l:Nat->List Yb}
theorem Jb0 (B:i<a.c.L.length):(a.at_ l i).heard (a.n9 l i)=a.at_ l (i+1):=by
 unfold Za.heard Za.at_ Za.n9;dsimp only;rw[List.take_succ_eq_append_getElem B,bg,aw,Xk _ _ B];rfl
theorem Jb1 (J:XS n k a.c)(K:a.st.waits≠⟨#[]⟩)(D:i<a.c.L.length):(a.at_ l i).aM (a.n9 l i)=true:=by
 unfold Za.aM;rw[av,av,decide_eq_true_eq];refine⟨⟨K,rfl,rfl,rfl,rfl,rfl⟩,Zl.2 (oQ D),?_⟩;cases e:Xu (a.at_ l i).from_ (a.n9 l i).from_ with
 |false=>rfl
 |true =>
  have H:Yc a.c.L i∈a.c.L.take i:=Zl.1 e;obtain⟨j,I,B⟩:=tF H;rw[au]at I;rw[Jrb (by omega),Xk _ _ D,Xk _ _ (by omega)]at B;have:=(zf J.nodup).1 B;omega
theorem Jax (H:XS n k a.c)(I:a.st.waits≠⟨#[]⟩)(B:i<a.c.L.length):(a.at_ l i).aD (a.n9 l i)=if i+1<Jh a.c then(a.at_ l (i+1),[])
 else if a.st=.keeping then({a.at_ l (i+1)with st:=.done},[])
 else if(a.at_ l (i+1)).aF.found=F then({(a.at_ l (i+1)).aF with st:=.done},[])
 else((a.at_ l (i+1)).aF.keeps,(a.at_ l (i+1)).aF.keeps.send JJ T):=by
 have D:(a.at_ l (i+1)).from_.length=i+1:=by
  show(a.c.L.take (i+1)).length=i+1;rw[au];omega
 unfold Za.aD;rw[if_neg (by rw[Jb1 H I B];decide),if_neg (fun h=>by cases h.1),Jb0 B,D];rfl
theorem Jav (J:XS n k a.c)(B:a.st.waits≠⟨#[]⟩):∀i,i<Jh a.c->i<=a.c.L.length->(a.at_ l 0).run ((aa i).map (a.n9 l))=(a.at_ l i,[])/\(a.at_ l 0).goes ((aa i).map (a.n9 l))
 |0,_,_=>⟨rfl,trivial⟩
 |i+1,hi,hl=>by
  obtain⟨H,K⟩:=Jav J B i (by omega) (by omega);have D:=Jax (l:=l) J B (i:=i) (by omega);rw[if_pos hi]at D;have I:a.st≠.done/\a.st≠.refused:=by
   constructor<;>intro e<;>rw[e]at B<;>exact B rfl
  rw[bg,aw];constructor
  ·rw[JaE,H];show(((a.at_ l i).aD (a.n9 l i)).1,[]++(((a.at_ l i).aD (a.n9 l i)).2++ []))=_;rw[D];rfl
  ·refine Jaz _ _ _ K ?_;rw[H];show((a.at_ l i).aD (a.n9 l i)).1.st≠.done/\((a.at_ l i).aD (a.n9 l i)).1.st≠.refused/\True;rw[D];exact⟨I.1,I.2,trivial⟩
theorem Jbz {b:Za}(B:b.st≠.done/\b.st≠.refused):∀ms:List Zb,(∀m∈ms,b.aM m=F)->b.run ms=(b,[])/\b.goes ms
 | [],_=>⟨rfl,trivial⟩
 |m::ms,h=>by
  have e:b.aD m=(b,[]):=if_pos (h m (by simp));obtain⟨D,H⟩:=Jbz B ms fun x I=>h x (ai _ I)
  constructor
  ·show(((b.aD m).1.run ms).1,(b.aD m).2++((b.aD m).1.run ms).2)=_;rw[e];show((b.run ms).1,[]++(b.run ms).2)=_;rw[D];rfl
  ·show(b.aD m).1.st≠.done/\(b.aD m).1.st≠.refused/\(b.aD m).1.goes ms;rw[e];exact⟨B.1,B.2,H⟩
theorem Jas {m:Nat}(J:1<=e)(K:e<=m):aa m=aa (e-1)++(e-1)::(aa (m-e)).map (·+e):=by
 refine List.ext_getElem (by simp;omega) fun i H I=>?_
 rw[zc,List.getElem_append];split
 ·rw[zc]
 ·rename_i D;rw[ac]at D;rw[List.getElem_cons];split
  ·rename_i B;rw[ac]at B;omega
  ·rename_i B;rw[List.getElem_map,zc];rw[ac]at B ⊢;omega
theorem JaP (b:Za):b.keeps.st=.keeping:=by
 unfold Za.keeps;split<;>rfl
theorem Ja8 (B:XS n k a.c)(I:a.st=.looking∨a.st=.sealing)(hf:(a.at_ l (Jh a.c)).aF.found=T):(a.at_ l 0).run ((aa n).map (a.n9 l))=((a.at_ l (Jh a.c)).aF.keeps,(a.at_ l (Jh a.c)).aF.keeps.send JJ T)/\(a.at_ l 0).goes ((aa n).map (a.n9 l)):=by
 have J:a.st.waits≠⟨#[]⟩:=by rcases I with h|h<;>rw[h]<;>decide
 have Z:a.st≠.keeping:=by rcases I with h|h<;>rw[h]<;>decide
 have a0:a.st.waits≠iS:=by rcases I with h|h<;>rw[h]<;>decide
 have K:1<=Jh a.c/\Jh a.c<=n:=by
  have D:=B.k1;have O:=B.kn;unfold Jh;rw[B.n_,B.k_];simp only[aq];omega
 have hn:=B.len;obtain⟨D,O⟩:=Jav (l:=l) B J (Jh a.c-1) (by omega) (by omega);have H:=Jax (l:=l) B J (i:=Jh a.c-1) (by omega);rw[show Jh a.c-1+1=Jh a.c by omega,if_neg (by omega),if_neg Z,if_neg (by rw[hf];decide)]at H;have U:=Jbz (b:=(a.at_ l (Jh a.c)).aF.keeps) (by rw[JaP];decide) (((aa (n-Jh a.c)).map (·+Jh a.c)).map (a.n9 l)) fun m hm=>by
  obtain⟨i,_,rfl⟩:=am.1 hm;unfold Za.aM;rw[Bool.and_eq_false_iff];refine ah (decide_eq_false fun h=>a0 ?_);have:=h.2.1;rw[JaP]at this;exact this
 have a2:(aa n).map (a.n9 l)=(aa (Jh a.c-1)).map (a.n9 l)++a.n9 l (Jh a.c-1)::((aa (n-Jh a.c)).map (·+Jh a.c)).map (a.n9 l):=by
  rw[Jas K.1 K.2,aw,zb]
 rw[a2];constructor
 ·rw[JaE,D];show((((a.at_ l (Jh a.c-1)).aD (a.n9 l (Jh a.c-1))).1.run _).1,[]++(((a.at_ l (Jh a.c-1)).aD (a.n9 l (Jh a.c-1))).2++(((a.at_ l (Jh a.c-1)).aD (a.n9 l (Jh a.c-1))).1.run _).2))=_;rw[H];dsimp only;rw[U.1,ap,aj]
 ·refine Jaz _ _ _ O ?_;rw[D];show((a.at_ l (Jh a.c-1)).aD (a.n9 l (Jh a.c-1))).1.st≠.done/\((a.at_ l (Jh a.c-1)).aD (a.n9 l (Jh a.c-1))).1.st≠.refused/\((a.at_ l (Jh a.c-1)).aD (a.n9 l (Jh a.c-1))).1.goes _;rw[H];dsimp only;rw[JaP];exact⟨by decide,by decide,U.2⟩
end
end
structure Req (m:Je) (x:Zb) (aP:BA) (j D:Nat):Prop where
 jaz:x.aP=aP
 key:x.key=wX
 cfg:x.config=(j:Int)
 lt:j<D
 kind:x.kind=ZW∨x.kind=Q3∨(x.kind=Y3/\∃v,x.L=[v]/\Y7 v=T/\(Qn m x.config).2=F/\∀u∈(Qn m x.config).1,(u.n,u.who)=(v.n,v.who)->u=v)
theorem JbD {w:Ya}{I:Nat->Zb}(hc:XS n k c)(hL:w.L=(aa n).map I)(a4:∀x∈c.L,Up w x)(a5:∀s,Qy D B (RZ w.nodes s).1)(hD:D<=12)(hB:B<60)(O:∀i,i<n->Req (RZ w.nodes (Yc c.L i)).1 (I i) (Yc c.L i) j D):
 ∃N J,w.go n={w with L:=(aa n).map J,nodes:=N,aA:=w.aA+n}/\(∀i,i<n->(RZ N (Yc c.L i)).2=T/\MemDoes (RZ w.nodes (Yc c.L i)).1 (I i) (RZ N (Yc c.L i)).1 [J i])/\(∀s,s∉c.L->RZ N s=RZ w.nodes s)/\(∀s,Qy D (B+1) (RZ N s).1)/\(∀s,Qe N s=Qe w.nodes s)/\N.length=w.nodes.length:=by
 have hn:=hc.len;have K:∀i,i<n->(I i).aP=Yc c.L i:=fun i H=>(O i H).jaz
 have hx:∀i,i<n->Yc c.L i∈c.L:=fun i H=>oQ (by omega)
 have a6:∀i,i<n->(RZ w.nodes (Yc c.L i)).1.name=Yc c.L i:=fun i H=>tM (a4 _ (hx i H)).has
 have hh:∀i,i<n->Qy D (B+1) ((RZ w.nodes (Yc c.L i)).1.aD (I i)).1/\((RZ w.nodes (Yc c.L i)).1.aD (I i)).2≠[]:=fun i H=>by
  have r:=O i H;exact(a5 _).jaB hD hB (by rw[r.jaz,a6 i H]) r.key (by rw[r.cfg];omega) (by rw[r.cfg];have:=r.lt;omega) r.kind
 have a7:∀i,i<n->∃o,((RZ w.nodes (Yc c.L i)).1.aD (I i)).2=[o]:=fun i H=>by
  obtain⟨_,h2⟩:=UG (RZ w.nodes (Yc c.L i)).1 (I i) (O i H).key;cases h2 with
  |none h _=>exact absurd h (hh i H).2
  |look _ h _=>exact⟨_,h⟩
  |shut _ h _=>exact⟨_,h⟩
  |dJ _ h _ _=>exact⟨_,h⟩
  |aS _ _ _ h _ _ _ _=>exact⟨_,h⟩
 obtain⟨J,a0⟩:∃J:Nat->Zb,∀i,i<n->((RZ w.nodes (Yc c.L i)).1.aD (I i)).2=[J i]:=by
  refine⟨fun i=>(((RZ w.nodes (Yc c.L i)).1.aD (I i)).2).headD ⟨⟨#[]⟩,⟨#[]⟩,⟨#[]⟩,⟨#[]⟩,0,0,F,[]⟩,fun i H=>?_⟩;obtain⟨o,ho⟩:=a7 i H;dsimp only;rw[ho];rfl
 obtain⟨N,h1,h2,h3,h4,h5⟩:=Jbm ((aa n).map I) w [] (by rw[aj];exact hL) (by
  rw[bp];refine zj.2 ((bc (n:=n)).imp_of_mem fun {a b} ha hb a8 e=>a8 ?_);have a9:=af.1 ha;have b0:=af.1 hb;have e':(I a).aP=(I b).aP:=e;rw[K a a9,K b b0,Xk _ _ (by omega),Xk _ _ (by omega)]at e';exact(zf hc.nodup).1 e') (fun m hm=>by
  obtain⟨i,H,rfl⟩:=am.1 hm;have U:=af.1 H;rw[K i U];refine⟨a4 _ (hx i U),(UG _ _ (O i U).key).1,?_⟩;rw[a0 i U];exact zd _) (by rw[hL,ae,ac];have:=hc.n12;omega)
 rw[ae,ac]at h1;have a2:∀i,i<n->RZ N (Yc c.L i)=(((RZ w.nodes (Yc c.L i)).1.aD (I i)).1,T):=fun i H=>by
  have:=h2 (I i) (zi (af.2 H));rw[K i H]at this;exact this
 have a3:∀s,s∉c.L->RZ N s=RZ w.nodes s:=fun s Z=>h3 s fun m hm e=>by
  obtain⟨i,H,rfl⟩:=am.1 hm;rw[K i (af.1 H)]at e;exact Z (e▸hx i (af.1 H))
 have b1:(((aa n).map I).map fun m=>((RZ w.nodes m.aP).1.aD m).2).flatten=(aa n).map J:=by
  rw[bp];have:(aa n).map ((fun m=>((RZ w.nodes m.aP).1.aD m).2)∘I)=(aa n).map fun i=>[J i]:=ar fun i H=>by
   show((RZ w.nodes (I i).aP).1.aD (I i)).2=_;rw[K i (af.1 H)];exact a0 i (af.1 H)
  rw[this,<-List.flatMap_def]
  induction aa n with
  |nil=>rfl
  |cons x r ih=>rw[List.flatMap_cons,ih];rfl
 refine⟨N,J,by rw[h1,b1,ap],fun i H=>?_,a3,fun s=>?_,h4,h5⟩
 ·rw[a2 i H];refine⟨rfl,?_⟩;have:=(UG (RZ w.nodes (Yc c.L i)).1 (I i) (O i H).key).2;rw[a0 i H]at this;exact this
 ·by_cases Z:s∈c.L
  ·obtain⟨i,H,rfl⟩:=tF Z;rw[a2 i (by omega)];exact(hh i (by omega)).1
  ·rw[a3 s Z];exact(a5 s).mono nR (bt _)
section
structure Zm (n k:Nat) (w:Ya) (c:Xg) (j D B:Nat) (V:List (JC×BA)):Prop where
 iL:XS n k c
 up:∀s,Qe w.nodes s<w.nodes.length->Up w s
 has:∀x∈c.L,Qe w.nodes x<w.nodes.length
 mem:∀s,Qy D B (RZ w.nodes s).1
 lt:j<D
 holds:∀i,i<n->∀v,v∈(wH w (Yc c.L i) j).1↔∃p∈V,v=gU k p.1 p.2 i
 open_:∀i,i<n->(wH w (Yc c.L i) j).2=F
section
variable {n k D B j:Nat} {w:Ya} {c:Xg} {V:List (JC×BA)}
theorem Up.of {w w':Ya}(h:Up w s)(H:Qe w'.nodes s<w'.nodes.length)(I:(RZ w'.nodes s).2=T):Up w' s:=⟨H,I,h.cli,h.mv⟩
theorem JaH (h:Zm n k w c j D B V)(Z:∀i,i<n->(RZ N (Yc c.L i)).2=T)(h2:∀s,s∉c.L->RZ N s=RZ w.nodes s)(h4:∀s,Qe N s=Qe w.nodes s)(h5:N.length=w.nodes.length){w':Ya}(K:w'.nodes=N):(∀s,Qe w'.nodes s<w'.nodes.length->Up w' s)/\∀x∈c.L,Qe w'.nodes x<w'.nodes.length:=by
 have H:∀s,Qe w'.nodes s<w'.nodes.length↔Qe w.nodes s<w.nodes.length:=fun s=>by rw[K,h4,h5]
 refine⟨fun s I=>(h.up s ((H s).1 I)).of I ?_,fun x O=>(H x).2 (h.has x O)⟩;rw[K];by_cases J:s∈c.L
 ·obtain⟨i,U,rfl⟩:=tF J;exact Z i (by rw[<-h.iL.len];exact U)
 ·rw[h2 s J];exact(h.up s ((H s).1 I)).up
theorem JaU (h:Zm n k w c j D B V)(hD:D<=12)(hB:B<60)(hL:w.L=(aa n).map fun i=>⟨name,Yc c.L i,rO,wX,op,(j:Int),F,[]⟩):
 ∃(N:List (Je×Bool)) (l:Nat->List Yb),w.go n={w with L:=(aa n).map fun i=>⟨Yc c.L i,name,sW,wX,op,(j:Int),F,l i⟩,nodes:=N,aA:=w.aA+n}/\Zm n k {w with nodes:=N} c j D (B+1) V/\∀i,i<n->∀v,v∈l i↔∃p∈V,v=gU k p.1 p.2 i:=by
 obtain⟨N,O,U,I,Z,h4,h5,h6⟩:=JbD (j:=j) h.iL hL (fun x hx=>h.up x (h.has x hx)) h.mem hD hB fun i _=>⟨rfl,rfl,rfl,h.lt,ah rfl⟩
 have hn:=h.iL.len;have J:∀i,i<n->O i=⟨Yc c.L i,name,sW,wX,op,(j:Int),F,(wH w (Yc c.L i) j).1⟩/\∀d,Qn (RZ N (Yc c.L i)).1 d=Qn (RZ w.nodes (Yc c.L i)).1 d:=fun i H=>by
  have a0:(RZ w.nodes (Yc c.L i)).1.name=Yc c.L i:=tM (h.has _ (oQ (by omega)));cases (I i H).2 with
  |none e _=>cases e
  |look _ e hs =>
   refine⟨?_,hs⟩;have e':=(aO e).1;rw[e'];show(⟨(RZ w.nodes (Yc c.L i)).1.name,name,pU,wX,op,(j:Int),(wH w (Yc c.L i) j).2,(wH w (Yc c.L i) j).1⟩:Zb)=_;rw[a0,h.open_ i H];rfl
  |shut e _ _=>exact absurd (show rO=Q3 from e) (by decide)
  |dJ e _ _ _=>exact absurd (show rO=Y3 from e) (by decide)
  |aS _ e _ _ _ _ _ _=>exact absurd (show rO=Y3 from e) (by decide)
 have K:∀i,i<n->wH {w with nodes:=N} (Yc c.L i) j=wH w (Yc c.L i) j:=fun i H=>(J i H).2 j
 obtain⟨u1,u2⟩:=JaH h (fun i H=>(I i H).1) Z h5 h6 (w':={w with nodes:=N}) rfl;refine⟨N,fun i=>(wH w (Yc c.L i) j).1,?_,⟨h.iL,u1,u2,h4,h.lt,fun i H v=>?_,fun i H=>?_⟩,h.holds⟩
 ·rw[U,ar fun i H=>(J i (af.1 H)).1]
 ·rw[K i H];exact h.holds i H v
 ·rw[K i H];exact h.open_ i H
theorem Jb4 (H:1<=k)(I:k9 t.1 t.2=T)(J:s.size<=1000)(K:i<12):Y7 (gU k t s i)=true:=by
 unfold Y7 gU;dsimp only;rw[I,Bool.true_and,decide_eq_true_eq];refine⟨by omega,by omega,by omega,by omega,?_⟩;rw[show(JW k s i).size=Jk k s.size from BM k s i];have:Jk k s.size<=s.size:=by
  unfold Jk;rw[Nat.div_le_iff_le_mul (by omega)];have:s.size*1<=s.size*k:=Nat.mul_le_mul_left _ H;omega
 omega
theorem JaV (h:Zm n k w c j D B V)(hD:D<=12)(hB:B<60)(ht:k9 t.1 t.2=T)(hs:s.size<=1000)(a4:∀p∈V,p.1=t->p.2=s)(hL:w.L=(aa n).map fun i=>⟨name,Yc c.L i,JJ,wX,op,(j:Int),F,[gU k t s i]⟩):
 ∃N,w.go n={w with L:=(aa n).map fun i=>⟨Yc c.L i,name,iS,wX,op,(j:Int),F,[]⟩,nodes:=N,aA:=w.aA+n}/\Zm n k {w with nodes:=N} c j D (B+1) (V++ [(t,s)]):=by
 have hn:=h.iL.len;have a5:=h.iL.n12;obtain⟨N,a0,h1,K,h3,h4,h5,h6⟩:=JbD (j:=j) h.iL hL (fun x hx=>h.up x (h.has x hx)) h.mem hD hB fun i H=>⟨rfl,rfl,rfl,h.lt,ao (ao ⟨rfl,gU k t s i,rfl,Jb4 h.iL.k1 ht hs (by omega),h.open_ i H,fun u hu O=>by
  obtain⟨p,I,e⟩:=(h.holds i H u).1 hu;have U:p.1=t:=by
   rw[e]at O;exact O
  rw[e,U,a4 p I U]⟩)⟩
 have J:∀i,i<n->a0 i=⟨Yc c.L i,name,iS,wX,op,(j:Int),F,[]⟩/\(Qn (RZ N (Yc c.L i)).1 (j:Int)).2=F/\∀u,u∈(Qn (RZ N (Yc c.L i)).1 (j:Int)).1↔u∈(wH w (Yc c.L i) j).1∨u=gU k t s i:=fun i H=>by
  have a2:(RZ w.nodes (Yc c.L i)).1.name=Yc c.L i:=tM (h.has _ (oQ (by omega)));cases (K i H).2 with
  |none e _=>cases e
  |look e _ _=>exact absurd (show JJ=ZW from e) (by decide)
  |shut e _ _=>exact absurd (show JJ=Q3 from e) (by decide)
  |dJ _ _ ho _ =>
   have:=h.open_ i H;rw[show(wH w (Yc c.L i) j).2=T from ho]at this;cases this
  |aS v _ hv e _ g2 Z _ =>
   have a3:=(aO hv).1.symm;rw[a3]at Z;refine⟨?_,g2.trans (h.open_ i H),Z⟩;have e':=(aO e).1;rw[e'];show(⟨(RZ w.nodes (Yc c.L i)).1.name,name,nK,wX,op,(j:Int),F,[]⟩:Zb)=_;rw[a2];rfl
 obtain⟨u1,u2⟩:=JaH h (fun i H=>(K i H).1) h3 h5 h6 (w':={w with nodes:=N}) rfl;refine⟨N,?_,h.iL,u1,u2,h4,h.lt,fun i H v=>?_,fun i H=>(J i H).2.1⟩
 ·rw[h1,ar fun i H=>(J i (af.1 H)).1]
 ·refine((J i H).2.2 v).trans ?_;rw[h.holds i H v];constructor
  ·rintro(⟨p,I,e⟩|e)
   ·exact⟨p,List.mem_append_left _ I,e⟩
   ·exact⟨(t,s),by simp,e⟩
  ·rintro⟨p,I,e⟩;rcases zh.1 I with I|I
   ·exact ah ⟨p,I,e⟩
   ·rw[az.1 I]at e;exact ao e
theorem JaW (h:Zm n k w c j D B V)(hD:D<=12)(hB:B<60)(hL:w.L=(aa n).map fun i=>⟨name,Yc c.L i,pX,wX,op,(j:Int),F,[]⟩):
 ∃(N:List (Je×Bool)) (l:Nat->List Yb),w.go n={w with L:=(aa n).map fun i=>⟨Yc c.L i,name,Q7,wX,op,(j:Int),F,l i⟩,nodes:=N,aA:=w.aA+n}/\(∀s,Qe N s<N.length->Up {w with nodes:=N} s)/\(∀s,Qe N s=Qe w.nodes s)/\N.length=w.nodes.length/\(∀s,Qy D (B+1) (RZ N s).1)/\∀i,i<n->∀v,v∈l i↔∃p∈V,v=gU k p.1 p.2 i:=by
 obtain⟨N,O,U,I,Z,h4,J,K⟩:=JbD (j:=j) h.iL hL (fun x hx=>h.up x (h.has x hx)) h.mem hD hB fun i _=>⟨rfl,rfl,rfl,h.lt,ao (ah rfl)⟩
 have hn:=h.iL.len;have hw:∀i,i<n->O i=⟨Yc c.L i,name,Q7,wX,op,(j:Int),F,(wH w (Yc c.L i) j).1⟩:=fun i H=>by
  have a0:(RZ w.nodes (Yc c.L i)).1.name=Yc c.L i:=tM (h.has _ (oQ (by omega)));cases (I i H).2 with
  |none e _=>cases e
  |look e _ _=>exact absurd (show pX=ZW from e) (by decide)
  |shut _ e _ =>
   have e':=(aO e).1;rw[e'];show(⟨(RZ w.nodes (Yc c.L i)).1.name,name,o9,wX,op,(j:Int),F,(wH w (Yc c.L i) j).1⟩:Zb)=_;rw[a0];rfl
  |dJ e _ _ _=>exact absurd (show pX=Y3 from e) (by decide)
  |aS _ e _ _ _ _ _ _=>exact absurd (show pX=Y3 from e) (by decide)
 obtain⟨u1,_⟩:=JaH h (fun i H=>(I i H).1) Z J K (w':={w with nodes:=N}) rfl;refine⟨N,fun i=>(wH w (Yc c.L i) j).1,?_,u1,J,K,h4,h.holds⟩;rw[U,ar fun i H=>hw i (af.1 H)]
end
end
section
section
variable {n k D B j:Nat} {w:Ya} {c:Xg} {V:List (JC×BA)}
theorem Zm.of {w':Ya}(h:Zm n k w c j D B V)(e:w'.nodes=w.nodes):Zm n k w' c j D B V:=by
 have J:∀x d,wH w' x d=wH w x d:=fun x d=>by unfold wH;rw[e]
 refine⟨h.iL,fun s H=>?_,fun x O=>by rw[e];exact h.has x O,fun s=>by rw[e];exact h.mem s,h.lt,fun i I v=>by rw[J];exact h.holds i I v,fun i I=>by rw[J];exact h.open_ i I⟩;have K:Qe w.nodes s<w.nodes.length:=by rw[e]at H;exact H
 exact(h.up s K).of H (by rw[e];exact(h.up s K).up)
theorem JaA {a:Za}(J:a.from_=[])(K:a.L=[]):a.at_ l 0=a:=by
 unfold Za.at_;obtain⟨name,key,who,op,config,c,next,put,aI,st,from_,L,tag,text,found⟩:=a;have H:from_=[]:=J;have I:L=[]:=K;subst H I;rfl
theorem Jbf {b:Za}(h:b.aI=F):b.keeps={b with st:=.keeping,from_:=[],L:=[]}:=by
 unfold Za.keeps;rw[h];rfl
theorem JaC:∀who,who<6->YN (QW who)=S who:=by decide
theorem Jad (H:XS n k c):1<=Jh c/\Jh c<=n:=by
 have I:=H.k1;have J:=H.kn;unfold Jh;rw[H.n_,H.k_];simp only[aq];omega
theorem JbB (hw:who<6){a:Za}(K:XS n k a.c)(b1:w.asks.length=6)(ha:Xf w.asks who=S a)(a4:a.st=.keeping)(b2:a.name=QW who)(b3:a.from_=[])(b4:a.L=[])(hL:w.L=(aa n).map (a.n9 fun _=>[])):
 ∃te,w.go n={w with L:=[],asks:=w.asks.set who ak,aA:=w.aA+n,events:=w.events++ [⟨who,a.put,a.found,if a.found then a.tag else(0,0),if a.found then a.text else⟨#[]⟩,w.since.getD who 0,te⟩]}:=by
 obtain⟨a5,a6⟩:=Jad K;have hn:=K.len;have b5:=K.n12;have a0:a.st.waits≠⟨#[]⟩:=by rw[a4];decide
 have U:∀i,YN (a.n9 (fun _=>[]) i).aP=S who:=fun i=>by show YN a.name=_;rw[b2];exact JaC who hw
 obtain⟨Z,r2⟩:=Jav (l:=fun _=>[]) K a0 (Jh a.c-1) (by omega) (by omega);rw[JaA b3 b4]at Z r2;have a7:w.L=(aa (Jh a.c-1)).map (a.n9 fun _=>[])++(a.n9 (fun _=>[]) (Jh a.c-1)::((aa (n-Jh a.c)).map (·+Jh a.c)).map (a.n9 fun _=>[])):=by
  rw[hL,Jas a5 a6,aw,zb]
 have b6:w.L.length=n:=by rw[hL,ae,ac]
 have H:=Jay hw ((aa (Jh a.c-1)).map (a.n9 fun _=>[])) w _ a a7 b1 ha (fun m hm=>by obtain⟨i,_,rfl⟩:=am.1 hm;exact U i) r2 (by rw[Z];show w.L.length+0<=120;omega);rw[Z,aj,ae,ac]at H;have O:=Jax (l:=fun _=>[]) K a0 (i:=Jh a.c-1) (by omega);rw[show Jh a.c-1+1=Jh a.c by omega,if_neg (by omega),if_pos a4]at O;obtain⟨J,a2⟩:=Xb (w.go (Jh a.c-1));rw[<-a2]at H;have a8:Xf J.asks who=S (a.at_ (fun _=>[]) (Jh a.c-1)):=by
  rw[H];show Xf (w.asks.set who _) who=_;rw[Y9 (by omega),if_pos rfl]
 have I:=Jbx (w:=J) (who:=who) (m:=a.n9 (fun _=>[]) (Jh a.c-1)) (a:=a.at_ (fun _=>[]) (Jh a.c-1)) (rest:=((aa (n-Jh a.c)).map (·+Jh a.c)).map (a.n9 fun _=>[])) (by rw[H]) a8 (U _) (by rw[O]) (by rw[O]);rw[O]at I;dsimp only at I;obtain⟨w2,a3⟩:=Xb ((J.aR 0).1);rw[<-a3]at I;have a9:Xf w2.asks who=none:=by
  rw[I];show Xf (J.asks.set who ak) who=ak;rw[H];show Xf ((w.asks.set who _).set who ak) who=ak;rw[Y9 (by rw[al];omega),if_pos rfl]
 have g3:=Ja1 (who:=who) (((aa (n-Jh a.c)).map (·+Jh a.c)).map (a.n9 fun _=>[])) w2 [] (by rw[I,aj]) a9 (fun m hm=>by obtain⟨i,_,rfl⟩:=am.1 hm;exact U i);rw[ae,ae,ac]at g3;have b0:w.go n=w2.go (n-Jh a.c):=by
  rw[a3,a2];rw[show n=(Jh a.c-1)+((n-Jh a.c)+1) by omega,Jag];rw[show Jh a.c-1+(n-Jh a.c+1)-Jh a.c=n-Jh a.c by omega];rfl
 refine⟨J.aA+1,?_⟩;rw[b0,g3,I,H];show({w with L:=[],asks:=(w.asks.set who (S (a.at_ (fun _=>[]) (Jh a.c-1)))).set who ak,aA:=w.aA+((Jh a.c-1:Nat):Int)+1+((n-Jh a.c:Nat):Int),events:=_}:Ya)=_;rw[aE,show w.aA+((Jh a.c-1:Nat):Int)+1+((n-Jh a.c:Nat):Int)=w.aA+(n:Int) by omega];rfl
theorem JaR (h:Zm n k w c j D B V)(hD:D<=12)(hB:B+1<60)(hw:who<6){a:Za}(a7:w.asks.length=6)(ha:Xf w.asks who=S a)(a8:a.st=.looking)(a9:a.aI=F)(b0:a.name=QW who)(U:a.key=wX)(Z:a.config=(j:Int))(K:a.c=c)(b5:a.from_=[])(b6:a.L=[])(hL:w.L=a.begin)(ht:k9 t.1 t.2=T)(hs:s.size<=1000)(b7:∀p∈V,p.1=t->p.2=s)
 (b8:∀l:Nat->List Yb,(∀i,i<n->∀v,v∈l i↔∃p∈V,v=gU k p.1 p.2 i)->(a.at_ l (Jh a.c)).aF={a.at_ l (Jh a.c)with tag:=t,text:=s,found:=T}):
 ∃N te,w.go (n+(n+(n+n)))={w with L:=[],nodes:=N,asks:=w.asks.set who ak,aA:=w.aA+(n+(n+(n+n)):Nat),events:=w.events++ [⟨who,a.put,T,t,s,w.since.getD who 0,te⟩]}/\Zm n k {w with nodes:=N} c j D (B+2) (V++ [(t,s)]):=by
 have hc:XS n k a.c:=by rw[K];exact h.iL
 have hn:c.L.length=n:=h.iL.len;have c8:=h.iL.n12;have b1:w.L=(aa n).map fun i=>⟨a.name,Yc c.L i,rO,wX,a.op,(j:Int),F,[]⟩:=by
  rw[hL];unfold Za.begin;rw[a9,if_neg (by decide)];unfold Za.send;rw[K,hn,U,Z];rfl
 obtain⟨N1,l,H,I1,hl⟩:=JaU h hD (by omega) b1;have a0:=b8 l hl;have ek:(a.at_ l (Jh a.c)).aF.keeps={a with tag:=t,text:=s,found:=T,st:=.keeping,from_:=[],L:=[]}:=by
  rw[a0];exact Jbf (show Za.aI {a.at_ l (Jh a.c)with tag:=t,text:=s,found:=T}=F from a9)
 obtain⟨O,r2⟩:=Ja8 (l:=l) hc (ah a8) (by rw[a0]);rw[JaA b5 b6]at O r2;rw[ek]at O;have b2:(fun i=>(⟨Yc c.L i,a.name,sW,wX,a.op,(j:Int),F,l i⟩:Zb))=a.n9 l:=by
  funext i
  unfold Za.n9;rw[K,a8,U,Z];rfl
 rw[b2]at H;obtain⟨w1,a2⟩:=Xb (w.go n);rw[<-a2]at H;have a3:w1.L=(aa n).map (a.n9 l)++ []:=by rw[H,aj]
 have a4:(Za.send {a with tag:=t,text:=s,found:=T,st:=.keeping,from_:=[],L:=[]} JJ T)=(aa n).map fun i=>⟨a.name,Yc c.L i,JJ,wX,a.op,(j:Int),F,[gU k t s i]⟩:=by
  unfold Za.send;show(aa a.c.L.length).map (fun i=>(⟨a.name,Yc a.c.L i,JJ,a.key,a.op,a.config,F,[(⟨t.1,t.2,(s.size:Int),(i:Int),JW a.c.k.toNat s i⟩:Yb)]⟩:Zb))=_;rw[K,hn,U,Z,h.iL.k_,aq];rfl
 have I:=Jay hw ((aa n).map (a.n9 l)) w1 [] a a3 (by rw[H];exact a7) (by rw[H];exact ha) (fun m hm=>by obtain⟨i,_,rfl⟩:=am.1 hm;show YN a.name=_;rw[b0];exact JaC who hw) r2 (by rw[O,a3,a4];simp;omega);rw[O,ae,ac,ap]at I;dsimp only at I;rw[a4]at I;obtain⟨w2,a5⟩:=Xb (w1.go n);rw[<-a5]at I;have I2:Zm n k w2 c j D (B+1) V:=I1.of (by rw[I,H]);obtain⟨N3,J,I3⟩:=JaV (name:=a.name) (op:=a.op) I2 hD (by omega) ht hs b7 (by rw[I]);obtain⟨w3,a6⟩:=Xb (w2.go n);rw[<-a6]at J;have b3:Xf w3.asks who=S {a with tag:=t,text:=s,found:=T,st:=.keeping,from_:=[],L:=[]}:=by
  rw[J,I,H];show Xf (w.asks.set who _) who=_;rw[Y9 (by omega),if_pos rfl]
 have b4:(fun i=>(⟨Yc c.L i,a.name,iS,wX,a.op,(j:Int),F,[]⟩:Zb))=Za.n9 {a with tag:=t,text:=s,found:=T,st:=.keeping,from_:=[],L:=[]} fun _=>[]:=by
  funext i
  show _=(⟨Yc a.c.L i,a.name,iS,a.key,a.op,a.config,F,[]⟩:Zb);rw[K,U,Z]
 obtain⟨te,g4⟩:=JbB (w:=w3) hw (a:={a with tag:=t,text:=s,found:=T,st:=.keeping,from_:=[],L:=[]}) hc (by rw[J,I,H];show(w.asks.set _ _).length=6;rw[al];exact a7) b3 rfl b0 rfl rfl (by rw[J];show(aa n).map _=_;rw[b4]);refine⟨N3,te,?_,I3.of rfl⟩;rw[Jag,<-a2,Jag,<-a5,Jag,<-a6,g4,J,I,H];show({w with L:=[],nodes:=N3,asks:=(w.asks.set who _).set who ak,aA:=w.aA+n+n+n+n,events:=_}:Ya)=_;rw[aE,show w.aA+(n:Int)+n+n+n=w.aA+((n+(n+(n+n)):Nat):Int) by omega];rfl
end
end
section
section
variable {n k D B j:Nat} {w:Ya} {c:Xg} {V:List (JC×BA)}
theorem JbC (hw:who<6){a b:Za}(K:XS n k a.c)(a9:w.asks.length=6)(ha:Xf w.asks who=S a)(b0:a.st.waits≠⟨#[]⟩)(b1:a.name=QW who)(b2:a.from_=[])(b3:a.L=[])(hL:w.L=(aa n).map (a.n9 l))(h3:(a.at_ l (Jh a.c-1)).aD (a.n9 l (Jh a.c-1))=(b,[]))(hb:b.st=.done):
 ∃te,w.go n={w with L:=[],asks:=w.asks.set who ak,aA:=w.aA+n,events:=w.events++ [⟨who,b.put,b.found,if b.found then b.tag else(0,0),if b.found then b.text else⟨#[]⟩,w.since.getD who 0,te⟩]}:=by
 obtain⟨a3,a4⟩:=Jad K;have hn:=K.len;have b4:=K.n12;have O:∀i,YN (a.n9 l i).aP=S who:=fun i=>by show YN a.name=_;rw[b1];exact JaC who hw
 obtain⟨U,r2⟩:=Jav (l:=l) K b0 (Jh a.c-1) (by omega) (by omega);rw[JaA b2 b3]at U r2;have a5:w.L=(aa (Jh a.c-1)).map (a.n9 l)++(a.n9 l (Jh a.c-1)::((aa (n-Jh a.c)).map (·+Jh a.c)).map (a.n9 l)):=by
  rw[hL,Jas a3 a4,aw,zb]
 have b5:w.L.length=n:=by rw[hL,ae,ac]
 have H:=Jay hw ((aa (Jh a.c-1)).map (a.n9 l)) w _ a a5 a9 ha (fun m Z=>by obtain⟨i,_,rfl⟩:=am.1 Z;exact O i) r2 (by rw[U];show w.L.length+0<=120;omega);rw[U,aj,ae,ac]at H;obtain⟨J,a0⟩:=Xb (w.go (Jh a.c-1));rw[<-a0]at H;have a6:Xf J.asks who=S (a.at_ l (Jh a.c-1)):=by
  rw[H];show Xf (w.asks.set who _) who=_;rw[Y9 (by omega),if_pos rfl]
 have I:=Jbx (w:=J) (who:=who) (m:=a.n9 l (Jh a.c-1)) (a:=a.at_ l (Jh a.c-1)) (rest:=((aa (n-Jh a.c)).map (·+Jh a.c)).map (a.n9 l)) (by rw[H]) a6 (O _) (by rw[h3]) (by rw[h3];exact hb);rw[h3]at I;dsimp only at I;obtain⟨w2,a2⟩:=Xb ((J.aR 0).1);rw[<-a2]at I;have a7:Xf w2.asks who=none:=by
  rw[I];show Xf (J.asks.set who ak) who=ak;rw[H];show Xf ((w.asks.set who _).set who ak) who=ak;rw[Y9 (by rw[al];omega),if_pos rfl]
 have g3:=Ja1 (who:=who) (((aa (n-Jh a.c)).map (·+Jh a.c)).map (a.n9 l)) w2 [] (by rw[I,aj]) a7 (fun m Z=>by obtain⟨i,_,rfl⟩:=am.1 Z;exact O i);rw[ae,ae,ac]at g3;have a8:w.go n=w2.go (n-Jh a.c):=by
  rw[a2,a0];rw[show n=(Jh a.c-1)+((n-Jh a.c)+1) by omega,Jag];rw[show Jh a.c-1+(n-Jh a.c+1)-Jh a.c=n-Jh a.c by omega];rfl
 refine⟨J.aA+1,?_⟩;rw[a8,g3,I,H];show({w with L:=[],asks:=(w.asks.set who (S (a.at_ l (Jh a.c-1)))).set who ak,aA:=w.aA+((Jh a.c-1:Nat):Int)+1+((n-Jh a.c:Nat):Int),events:=_}:Ya)=_;rw[aE,show w.aA+((Jh a.c-1:Nat):Int)+1+((n-Jh a.c:Nat):Int)=w.aA+(n:Int) by omega]
theorem JbN (h:Zm n k w c j D B V)(hD:D<=12)(hB:B<60)(hw:who<6){a:Za}(b1:w.asks.length=6)(ha:Xf w.asks who=S a)(O:a.st=.looking)(b2:a.aI=F)(b3:a.name=QW who)(a4:a.key=wX)(a5:a.config=(j:Int))(I:a.c=c)(b4:a.from_=[])(b5:a.L=[])(hL:w.L=a.begin)
 (b6:∀l:Nat->List Yb,(∀i,i<n->∀v,v∈l i↔∃p∈V,v=gU k p.1 p.2 i)->(a.at_ l (Jh a.c)).aF.found=F) (b7:a.put=F):
 ∃N J,w.go (n+n)={w with L:=[],nodes:=N,asks:=w.asks.set who ak,aA:=w.aA+(n+n:Nat),events:=w.events++ [⟨who,F,F,(0,0),⟨#[]⟩,w.since.getD who 0,J⟩]}/\Zm n k {w with nodes:=N} c j D (B+1) V:=by
 have K:XS n k a.c:=by rw[I];exact h.iL
 have U:c.L.length=n:=h.iL.len;obtain⟨a6,a7⟩:=Jad K;have a8:w.L=(aa n).map fun i=>⟨a.name,Yc c.L i,rO,wX,a.op,(j:Int),F,[]⟩:=by
  rw[hL];unfold Za.begin;rw[b2,if_neg (by decide)];unfold Za.send;rw[I,U,a4,a5];rfl
 obtain⟨Z,l,H,I1,hl⟩:=JaU h hD hB a8;have a0:=b6 l hl;have a9:(fun i=>(⟨Yc c.L i,a.name,sW,wX,a.op,(j:Int),F,l i⟩:Zb))=a.n9 l:=by
  funext i
  unfold Za.n9;rw[I,O,a4,a5];rfl
 rw[a9]at H;obtain⟨w1,a2⟩:=Xb (w.go n);rw[<-a2]at H;have a3:a.st.waits≠⟨#[]⟩:=by rw[O];decide
 have h3:=Jax (l:=l) K a3 (i:=Jh a.c-1) (by rw[I,U];rw[I]at a6 a7;omega);rw[show Jh a.c-1+1=Jh a.c by omega,if_neg (by omega),if_neg (by rw[O];decide),if_pos a0]at h3;obtain⟨J,g2⟩:=JbC (w:=w1) hw K (by rw[H];exact b1) (by rw[H];exact ha) a3 b3 b4 b5 (by rw[H]) h3 rfl;have b0:∀b:Za,b.put=F->b.aF.put=false:=fun b hb=>by unfold Za.aF;rw[if_neg (by rw[hb];decide)];exact hb
 refine⟨Z,J,?_,I1.of rfl⟩;rw[Jag,<-a2,g2];dsimp only;rw[a0,b0 _ (show(a.at_ l (Jh a.c)).put=F from b7),H];show({w with L:=[],nodes:=Z,asks:=w.asks.set who ak,aA:=w.aA+n+n,events:=_}:Ya)=_;rw[show w.aA+(n:Int)+n=w.aA+((n+n:Nat):Int) by omega];rfl
theorem JaN:∀(ms:List Zb) (w:Ya) (rest:List Zb) (a:Za),w.L=ms++rest->w.mover=S a->(∀m∈ms,m.aP=J8)->a.goes ms->w.L.length+(a.run ms).2.length<=120 ->
 w.go ms.length={w with L:=rest++(a.run ms).2,mover:=S (a.run ms).1,aA:=w.aA+ms.length}
 | [],w,rest,a,hL,ha,_,_,_=>by
  show w={w with L:=rest++ [],mover:=S a,aA:=w.aA+((0:Nat):Int)};rw[aj,<-show w.L=rest from hL,<-ha];obtain⟨L,nodes,asks,since,texts,mover,aB,aC,ops,aA,events⟩:=w;simp
 |m::ms,w,rest,a,hL,ha,hto,hg,hlen=>by
  have H:w.L=m::(ms++rest):=hL;have I:(a.run (m::ms)).2=(a.aD m).2++((a.aD m).1.run ms).2:=rfl;rw[I,ab,H,ze]at hlen;have J:(w.aR 0).1={w with L:=ms++(rest++(a.aD m).2),mover:=S (a.aD m).1,aA:=w.aA+1}:=by
   rw[Jak H,hto m (by simp),show YN J8=ak from by decide];show(if J8=J8 then Ya.aI {w with L:=ms++rest,aA:=w.aA+1} m else _)=_;rw[if_pos rfl];unfold Ya.aI;rw[show({w with L:=ms++rest,aA:=w.aA+1}:Ya).mover=S a from ha];dsimp only;rw[if_neg hg.1,if_neg (fun h=>h.elim hg.1 hg.2.1),Jau (by show(ms++rest).length+_<=120;omega)];show({w with L:=(ms++rest)++(a.aD m).2,mover:=S (a.aD m).1,aA:=w.aA+1}:Ya)=_;rw[an]
  show Ya.go ms.length (w.aR 0).1=_;rw[J];rw[JaN ms {w with L:=ms++(rest++(a.aD m).2),mover:=S (a.aD m).1,aA:=w.aA+1} (rest++(a.aD m).2) (a.aD m).1 rfl rfl (fun x K=>hto x (ai _ K)) hg.2.2 (by
   show(ms++(rest++(a.aD m).2)).length+_<=120;rw[ab]at hlen;rw[ab,ab];omega)]
  show({w with L:=rest++(a.aD m).2++((a.aD m).1.run ms).2,mover:=S ((a.aD m).1.run ms).1,aA:=w.aA+1+ms.length}:Ya)={w with L:=rest++((a.aD m).2++((a.aD m).1.run ms).2),mover:=S ((a.aD m).1.run ms).1,aA:=w.aA+((ms.length+1:Nat):Int)};rw[an,show w.aA+1+(ms.length:Int)=w.aA+((ms.length+1:Nat):Int) by omega]
theorem Ja4:∀(ms:List Zb) (w:Ya) (rest:List Zb),w.L=ms++rest->w.mover=ak->(∀m∈ms,m.aP=J8)->w.go ms.length={w with L:=rest,aA:=w.aA+ms.length}
 | [],w,rest,hL,_,_=>by
  show w={w with L:=rest,aA:=w.aA+((0:Nat):Int)};rw[<-show w.L=rest from hL];obtain⟨L,nodes,asks,since,texts,mover,aB,aC,ops,aA,events⟩:=w;simp
 |m::ms,w,rest,hL,ha,hto=>by
  have H:(w.aR 0).1={w with L:=ms++rest,aA:=w.aA+1}:=by
   rw[Jak (show w.L=m::(ms++rest)from hL),hto m (by simp),show YN J8=ak from by decide];show(if J8=J8 then Ya.aI {w with L:=ms++rest,aA:=w.aA+1} m else _)=_;rw[if_pos rfl];unfold Ya.aI;rw[show({w with L:=ms++rest,aA:=w.aA+1}:Ya).mover=ak from ha]
  show Ya.go ms.length (w.aR 0).1=_;rw[H,Ja4 ms {w with L:=ms++rest,aA:=w.aA+1} rest rfl ha fun x I=>hto x (ai _ I)];show({w with L:=rest,aA:=w.aA+1+ms.length}:Ya)={w with L:=rest,aA:=w.aA+((ms.length+1:Nat):Int)};rw[show w.aA+1+(ms.length:Int)=w.aA+((ms.length+1:Nat):Int) by omega]
theorem JaL {a b:Za}(K:XS n k a.c)(ha:w.mover=S a)(a7:a.st.waits≠⟨#[]⟩)(a8:a.name=J8)(a9:a.from_=[])(b0:a.L=[])(hL:w.L=(aa n).map (a.n9 l))(h3:(a.at_ l (Jh a.c-1)).aD (a.n9 l (Jh a.c-1))=(b,[]))(hb:b.st=.done):
 w.go n={w with L:=[],mover:=ak,aC:=w.aB.length-1,aA:=w.aA+n}:=by
 obtain⟨a3,a4⟩:=Jad K;have hn:=K.len;have b1:=K.n12;have O:∀i,(a.n9 l i).aP=J8:=fun i=>a8
 obtain⟨U,r2⟩:=Jav (l:=l) K a7 (Jh a.c-1) (by omega) (by omega);rw[JaA a9 b0]at U r2;have a5:w.L=(aa (Jh a.c-1)).map (a.n9 l)++(a.n9 l (Jh a.c-1)::((aa (n-Jh a.c)).map (·+Jh a.c)).map (a.n9 l)):=by
  rw[hL,Jas a3 a4,aw,zb]
 have b2:w.L.length=n:=by rw[hL,ae,ac]
 have I:=JaN ((aa (Jh a.c-1)).map (a.n9 l)) w _ a a5 ha (fun m Z=>by obtain⟨i,_,rfl⟩:=am.1 Z;exact O i) r2 (by rw[U];show w.L.length+0<=120;omega);rw[U,aj,ae,ac]at I;obtain⟨H,a0⟩:=Xb (w.go (Jh a.c-1));rw[<-a0]at I;have J:(H.aR 0).1={H with L:=((aa (n-Jh a.c)).map (·+Jh a.c)).map (a.n9 l),mover:=ak,aC:=H.aB.length-1,aA:=H.aA+1}:=by
  rw[Jak (m:=a.n9 l (Jh a.c-1)) (r:=((aa (n-Jh a.c)).map (·+Jh a.c)).map (a.n9 l)) (by rw[I]),O,show YN J8=ak from by decide];show(if J8=J8 then Ya.aI {H with L:=((aa (n-Jh a.c)).map (·+Jh a.c)).map (a.n9 l),aA:=H.aA+1} (a.n9 l (Jh a.c-1))else _)=_;rw[if_pos rfl];unfold Ya.aI;rw[show({H with L:=((aa (n-Jh a.c)).map (·+Jh a.c)).map (a.n9 l),aA:=H.aA+1}:Ya).mover=S (a.at_ l (Jh a.c-1)) by rw[I]];dsimp only;rw[h3];dsimp only;rw[if_pos hb,if_pos (ah hb),Jau (by simp;omega)];simp
 obtain⟨w2,a2⟩:=Xb ((H.aR 0).1);rw[<-a2]at J;have g3:=Ja4 (((aa (n-Jh a.c)).map (·+Jh a.c)).map (a.n9 l)) w2 [] (by rw[J,aj]) (by rw[J]) (fun m Z=>by obtain⟨i,_,rfl⟩:=am.1 Z;exact O i);rw[ae,ae,ac]at g3;have a6:w.go n=w2.go (n-Jh a.c):=by
  rw[a2,a0];rw[show n=(Jh a.c-1)+((n-Jh a.c)+1) by omega,Jag];rw[show Jh a.c-1+(n-Jh a.c+1)-Jh a.c=n-Jh a.c by omega];rfl
 rw[a6,g3,J,I];show({w with L:=[],mover:=ak,aC:=w.aB.length-1,aA:=w.aA+((Jh a.c-1:Nat):Int)+1+((n-Jh a.c:Nat):Int)}:Ya)=_;rw[show w.aA+((Jh a.c-1:Nat):Int)+1+((n-Jh a.c:Nat):Int)=w.aA+(n:Int) by omega]
end
end
section
section
variable {n k D B j:Nat} {w:Ya} {c c':Xg} {V:List (JC×BA)}
theorem JbF (h:Qy D B m){d:Nat}(O:D<=d):Qn m (d:Int)=([],F):=by
 have I:¬Yf m.L (d:Int)<m.L.length:=fun H=>by
  have J:=nO H;have K:=h.below _ H;omega
 unfold Qn;rw[tG (by omega)];rfl
theorem Zm.fresh (O:XS n k c')(U:∀s,Qe w.nodes s<w.nodes.length->Up w s)(Z:∀x∈c'.L,Qe w.nodes x<w.nodes.length)(I:∀s,Qy (j+1) B (RZ w.nodes s).1):Zm n k w c' (j+1) (j+2) B []:=by
 have H:∀x,wH w x (j+1)=([],F):=fun x=>JbF (I x) nR
 refine⟨O,U,Z,fun s=>(I s).mono (by omega) nR,by omega,fun i _ v=>?_,fun i _=>by rw[H]⟩;rw[H];constructor
 ·intro J;cases J
 ·rintro⟨p,K,_⟩;cases K
theorem Jbs {b:Za}(h:b.aI=T):b.keeps={b with st:=.keeping,from_:=[],L:=[],c:=b.next,config:=b.config+1}:=by
 unfold Za.keeps;rw[h];rfl
theorem JbG (h:Zm n k w c j (j+1) B V)(hD:j+2<=12)(hB:B+1<60){a:Za}(ha:w.mover=S a)(a0:a.st=.sealing)(a9:a.aI=T)(b0:a.name=J8)(U:a.key=wX)(Z:a.config=(j:Int))(a2:a.c=c)(b5:a.next=c')(b6:a.from_=[])(b7:a.L=[])(hL:w.L=a.begin)(I:XS n k c')(b8:∀x∈c'.L,Qe w.nodes x<w.nodes.length)(ht:k9 t.1 t.2=T)(hs:s.size<=1000)
 (c8:∀l:Nat->List Yb,(∀i,i<n->∀v,v∈l i↔∃p∈V,v=gU k p.1 p.2 i)->(a.at_ l (Jh a.c)).aF={a.at_ l (Jh a.c)with tag:=t,text:=s,found:=T}):
 ∃N,w.go (n+(n+(n+n)))={w with L:=[],nodes:=N,mover:=ak,aC:=w.aB.length-1,aA:=w.aA+(n+(n+(n+n)):Nat)}/\Zm n k {w with nodes:=N} c' (j+1) (j+2) (B+2) ([]++ [(t,s)]):=by
 have hc:XS n k a.c:=by rw[a2];exact h.iL
 have hn:=h.iL.len;have d0:=h.iL.n12;have b1:w.L=(aa n).map fun i=>⟨a.name,Yc c.L i,pX,wX,a.op,(j:Int),F,[]⟩:=by
  rw[hL];unfold Za.begin;rw[a9,if_pos rfl,if_pos a0];unfold Za.send;rw[a2,hn,U,Z];rfl
 obtain⟨N1,l,J,u1,u2,u3,u4,hl⟩:=JaW h (by omega) (by omega) b1;have a3:=c8 l hl;have ek:(a.at_ l (Jh a.c)).aF.keeps={a with tag:=t,text:=s,found:=T,st:=.keeping,from_:=[],L:=[],c:=c',config:=a.config+1}:=by
  rw[a3,<-b5];exact Jbs (show Za.aI {a.at_ l (Jh a.c)with tag:=t,text:=s,found:=T}=T from a9)
 obtain⟨K,r2⟩:=Ja8 (l:=l) hc (ao a0) (by rw[a3]);rw[JaA b6 b7]at K r2;rw[ek]at K;have b2:(fun i=>(⟨Yc c.L i,a.name,Q7,wX,a.op,(j:Int),F,l i⟩:Zb))=a.n9 l:=by
  funext i
  unfold Za.n9;rw[a2,a0,U,Z];rfl
 rw[b2]at J;obtain⟨w1,a4⟩:=Xb (w.go n);rw[<-a4]at J;have a5:w1.L=(aa n).map (a.n9 l)++ []:=by rw[J,aj]
 have a6:(Za.send {a with tag:=t,text:=s,found:=T,st:=.keeping,from_:=[],L:=[],c:=c',config:=a.config+1} JJ T)=(aa n).map fun i=>⟨a.name,Yc c'.L i,JJ,wX,a.op,((j+1:Nat):Int),F,[gU k t s i]⟩:=by
  unfold Za.send;show(aa c'.L.length).map (fun i=>(⟨a.name,Yc c'.L i,JJ,a.key,a.op,a.config+1,F,[(⟨t.1,t.2,(s.size:Int),(i:Int),JW c'.k.toNat s i⟩:Yb)]⟩:Zb))=_;rw[I.len,U,Z,I.k_,aq];rfl
 have H:=JaN ((aa n).map (a.n9 l)) w1 [] a a5 (by rw[J];exact ha) (fun m hm=>by obtain⟨i,_,rfl⟩:=am.1 hm;exact b0) r2 (by rw[K,a5,a6];simp;omega);rw[K,ae,ac,ap]at H;dsimp only at H;rw[a6]at H;obtain⟨w2,a7⟩:=Xb (w1.go n);rw[<-a7]at H;have I2:Zm n k w2 c' (j+1) (j+2) (B+1) []:=(Zm.fresh (w:={w with nodes:=N1}) I u1 (fun x hx=>by show Qe N1 x<N1.length;rw[u2,u3];exact b8 x hx) u4).of (by rw[H,J]);obtain⟨N3,O,I3⟩:=JaV (name:=a.name) (op:=a.op) I2 hD (by omega) ht hs (fun p hp=>absurd hp za) (by rw[H]);obtain⟨w3,a8⟩:=Xb (w2.go n);rw[<-a8]at O;have b3:w3.mover=S {a with tag:=t,text:=s,found:=T,st:=.keeping,from_:=[],L:=[],c:=c',config:=a.config+1}:=by rw[O,H]
 have b4:(fun i=>(⟨Yc c'.L i,a.name,iS,wX,a.op,((j+1:Nat):Int),F,[]⟩:Zb))=Za.n9 {a with tag:=t,text:=s,found:=T,st:=.keeping,from_:=[],L:=[],c:=c',config:=a.config+1} fun _=>[]:=by
  funext i
  show _=(⟨Yc c'.L i,a.name,iS,a.key,a.op,a.config+1,F,[]⟩:Zb);rw[U,Z];rfl
 obtain⟨d1,d2⟩:=Jad I;have h3:=Jax (a:={a with tag:=t,text:=s,found:=T,st:=.keeping,from_:=[],L:=[],c:=c',config:=a.config+1}) (l:=fun _=>[]) I (by dsimp only;decide) (i:=Jh c'-1) (by show _<c'.L.length;rw[I.len];omega);rw[show Jh c'-1+1=Jh c' by omega,if_neg (Nat.lt_irrefl _),if_pos rfl]at h3;have g4:=JaL (w:=w3) (a:={a with tag:=t,text:=s,found:=T,st:=.keeping,from_:=[],L:=[],c:=c',config:=a.config+1}) I b3 (by dsimp only;decide) b0 rfl rfl (by rw[O];show(aa n).map _=_;rw[b4]) h3 rfl;refine⟨N3,?_,I3.of rfl⟩;rw[Jag,<-a4,Jag,<-a7,Jag,<-a8,g4,O,H,J];show({w with L:=[],nodes:=N3,mover:=ak,aC:=w.aB.length-1,aA:=w.aA+n+n+n+n}:Ya)=_;rw[show w.aA+(n:Int)+n+n+n=w.aA+((n+(n+(n+n)):Nat):Int) by omega]
theorem JbQ (h:Zm n k w c j (j+1) B V)(hD:j+2<=12)(hB:B+1<60){a:Za}(ha:w.mover=S a)(K:a.st=.sealing)(a9:a.aI=T)(b0:a.name=J8)(a2:a.key=wX)(a3:a.config=(j:Int))(J:a.c=c)(b1:a.from_=[])(b2:a.L=[])(hL:w.L=a.begin)(b3:XS n k c')(b4:∀x∈c'.L,Qe w.nodes x<w.nodes.length)
 (b5:∀l:Nat->List Yb,(∀i,i<n->∀v,v∈l i↔∃p∈V,v=gU k p.1 p.2 i)->(a.at_ l (Jh a.c)).aF.found=F):
 ∃N,w.go (n+n)={w with L:=[],nodes:=N,mover:=ak,aC:=w.aB.length-1,aA:=w.aA+(n+n:Nat)}/\Zm n k {w with nodes:=N} c' (j+1) (j+2) (B+1) []:=by
 have O:XS n k a.c:=by rw[J];exact h.iL
 have U:=h.iL.len;have a4:w.L=(aa n).map fun i=>⟨a.name,Yc c.L i,pX,wX,a.op,(j:Int),F,[]⟩:=by
  rw[hL];unfold Za.begin;rw[a9,if_pos rfl,if_pos K];unfold Za.send;rw[J,U,a2,a3];rfl
 obtain⟨H,l,I,u1,u2,u3,u4,hl⟩:=JaW h (by omega) (by omega) a4;have a5:=b5 l hl;have a6:(fun i=>(⟨Yc c.L i,a.name,Q7,wX,a.op,(j:Int),F,l i⟩:Zb))=a.n9 l:=by
  funext i
  unfold Za.n9;rw[J,K,a2,a3];rfl
 rw[a6]at I;obtain⟨w1,Z⟩:=Xb (w.go n);rw[<-Z]at I;obtain⟨a7,a8⟩:=Jad O;have a0:a.st.waits≠⟨#[]⟩:=by rw[K];decide
 have h3:=Jax (l:=l) O a0 (i:=Jh a.c-1) (by rw[J,U];rw[J]at a7 a8;omega);rw[show Jh a.c-1+1=Jh a.c by omega,if_neg (by omega),if_neg (by rw[K];decide),if_pos a5]at h3;have g2:=JaL (w:=w1) O (by rw[I];exact ha) a0 b0 b1 b2 (by rw[I]) h3 rfl;refine⟨H,?_,Zm.fresh (w:={w with nodes:=H}) b3 u1 (fun x hx=>by show Qe H x<H.length;rw[u2,u3];exact b4 x hx) u4⟩;rw[Jag,<-Z,g2,I];show({w with L:=[],nodes:=H,mover:=ak,aC:=w.aB.length-1,aA:=w.aA+n+n}:Ya)=_;rw[show w.aA+(n:Int)+n=w.aA+((n+n:Nat):Int) by omega]
end
end
section
structure VOk (V:List (JC×BA)) (B:Nat):Prop where
 tag:∀p∈V,k9 p.1.1 p.1.2=T
 size:∀p∈V,p.2.size<=1000
 num:∀p∈V,p.1.1<=(B:Int)
 one:∀p∈V,∀q∈V,p.1=q.1->p=q
def JaT (V:List (JC×BA)):Option BA->Prop
 |none=>V=[]
 |some s=>∃t,(t,s)∈V/\∀q∈V,Qd t q.1=F
section
variable {n k B:Nat} {c:Xg} {V:List (JC×BA)} {a:Za} {l:Nat->List Yb}
theorem VOk.IA (h:VOk V B):qD fun t s=>(t,s)∈V:=⟨fun _ _ _ D H=>(Prod.mk.inj (h.one _ D _ H rfl)).2,fun _ _ D=>h.tag _ D,fun _ _ D=>h.size _ D⟩
theorem Jbu (H:XS n k a.c)(U:e<=n)(I:i<e):Yv (a.at_ l e).from_ (a.at_ l e).L (Yc a.c.L i)=l i:=by
 have K:=H.len;have J:ZJ (a.c.L.take e) (Yc a.c.L i)=i:=by
  refine DQ (by rw[au];omega) (Jrb I) fun q O D=>?_
  rw[Jrb (by omega),Xk _ _ (by omega),Xk _ _ (by omega)]at D;have:=(zf H.nodup).1 D;omega
 show((aa e).map l).getD (ZJ (a.c.L.take e) (Yc a.c.L i)) []=l i;rw[J,ag,List.getElem?_map,List.getElem?_range I];rfl
theorem JbL (I:XS n k a.c)(K:e<=n){x:BA}:x∈(a.at_ l e).from_↔∃i,i<e/\Yc a.c.L i=x:=by
 have J:=I.len;show x∈a.c.L.take e↔_;constructor
 ·intro h;obtain⟨i,D,H⟩:=tF h;rw[au]at D;exact⟨i,by omega,by rw[<-H,Jrb (by omega)]⟩
 ·rintro⟨i,D,rfl⟩;rw[<-Jrb D];exact oQ (by rw[au];omega)
theorem Ja0 (D:XS n k a.c):jP a.c (a.at_ l (Jh a.c)).from_:=by
 obtain⟨I,J⟩:=Jad D;have K:=D.len;refine⟨List.Nodup.sublist (List.take_sublist _ _) D.nodup,fun x H=>List.mem_of_mem_take H,?_⟩;show _<=(a.c.L.take (Jh a.c)).length;rw[au];omega
theorem JbM (D:XS n k a.c)(U:∀i,i<n->∀v,v∈l i↔∃p∈V,v=gU k p.1 p.2 i):∀x∈(a.at_ l (Jh a.c)).from_,∀v∈Yv (a.at_ l (Jh a.c)).from_ (a.at_ l (Jh a.c)).L x,iQ n k a.c (fun t s=>(t,s)∈V) x v:=by
 obtain⟨Z,H⟩:=Jad D;intro x J v I;obtain⟨i,K,rfl⟩:=(JbL D H).1 J;rw[Jbu D H K]at I;obtain⟨p,O,e⟩:=(U i (by omega) v).1 I;exact⟨p.1,p.2,i,e,by omega,rfl,O⟩
theorem Jbv (D:XS n k a.c)(O:∀i,i<n->∀v,v∈l i↔∃p∈V,v=gU k p.1 p.2 i){p:JC×BA}(U:p∈V):∃Y:List BA,Y.Nodup/\(∀x∈Y,x∈(a.at_ l (Jh a.c)).from_)/\k<=Y.length/\∀x∈Y,∃v∈Yv (a.at_ l (Jh a.c)).from_ (a.at_ l (Jh a.c)).L x,(v.n,v.who)=p.1:=by
 obtain⟨Z,I⟩:=Jad D;have J:=Ja0 (l:=l) D;have hk:=D.kn;refine⟨_,J.1,fun x H=>H,?_,fun x H=>?_⟩
 ·refine bo ?_ J.2.2;unfold Jh;rw[D.n_,D.k_];simp only[aq];omega
 ·obtain⟨i,K,rfl⟩:=(JbL D I).1 H;rw[Jbu D I K];exact⟨gU k p.1 p.2 i,(O i (by omega) _).2 ⟨p,U,rfl⟩,rfl⟩
theorem Jbk (D:XS n k a.c)(J:a.put=F)(e:Nat):(a.at_ l e).aF={a.at_ l e with tag:=(Ys n k (Xq (a.at_ l e).from_ (a.at_ l e).L a.c.L).flatten (Xq (a.at_ l e).from_ (a.at_ l e).L a.c.L).flatten).1,text:=(Ys n k (Xq (a.at_ l e).from_ (a.at_ l e).L a.c.L).flatten (Xq (a.at_ l e).from_ (a.at_ l e).L a.c.L).flatten).2.1,found:=(Ys n k (Xq (a.at_ l e).from_ (a.at_ l e).L a.c.L).flatten (Xq (a.at_ l e).from_ (a.at_ l e).L a.c.L).flatten).2.2}:=by
 have H:(a.at_ l e).c.k.toNat=k:=by show a.c.k.toNat=k;rw[D.k_];rfl
 have I:(a.at_ l e).c.n.toNat=n:=by show a.c.n.toNat=n;rw[D.n_];rfl
 unfold Za.aF;rw[if_neg (show ¬(a.at_ l e).put=T by show ¬a.put=T;rw[J];decide),H,I];rfl
theorem Jbl (D:XS n k a.c)(hp:a.put=F)(K:VOk V B)(H:(t,s)∈V)(a0:∀q∈V,Qd t q.1=F)(I:∀i,i<n->∀v,v∈l i↔∃p∈V,v=gU k p.1 p.2 i):(a.at_ l (Jh a.c)).aF={a.at_ l (Jh a.c)with tag:=t,text:=s,found:=T}:=by
 rw[Jbk D hp];rcases BP D K.IA (Ja0 (l:=l) D) (JbM D I)with⟨_,O⟩|⟨u,r,U,J,Z⟩
 ·exact absurd (Jbv D I H) (O t)
 ·have h1:=Z t (Jbv D I H);have h2:=a0 _ J;have e1:u=t:=IL h1 h2;subst e1;have e2:=(Prod.mk.inj (K.one _ J _ H rfl)).2;subst e2;rw[U]
theorem Ja3 (D:XS n k a.c)(J:a.put=F)(K:VOk V B)(O:V=[])(U:∀i,i<n->∀v,v∈l i↔∃p∈V,v=gU k p.1 p.2 i):(a.at_ l (Jh a.c)).aF.found=false:=by
 rw[Jbk D J];rcases BP D K.IA (Ja0 (l:=l) D) (JbM D U)with⟨I,_⟩|⟨u,r,_,H,_⟩
 ·rw[I]
 ·rw[O]at H;cases H
theorem JbY (hc:XS n k a.c)(D:a.put=T)(hV:VOk V B)(hB:(B:Int)<=1099511627776){m:Int}(h0:0<=m)(hm:∀p∈V,p.1.1<=m)(a0:m=0∨∃p∈V,p.1.1=m)(I:∀i,i<n->∀v,v∈l i↔∃p∈V,v=gU k p.1 p.2 i):(a.at_ l (Jh a.c)).aF={a.at_ l (Jh a.c)with tag:=(m+1,a.who),text:=a.text,found:=T}:=by
 obtain⟨h1,h2⟩:=Jad hc;have J:∀v,v∈(a.at_ l (Jh a.c)).L.flatten->∃p∈V,v.n=p.1.1:=fun v H=>by
  obtain⟨r,K,H⟩:=bd.1 H;obtain⟨i,O,rfl⟩:=am.1 (show r∈(aa (Jh a.c)).map l from K);have:=af.1 O;obtain⟨p,D,e⟩:=(I i (by omega) v).1 H;exact⟨p,D,by rw[e];rfl⟩
 have e:XF (a.at_ l (Jh a.c)).L=m:=by
  have h3:XF (a.at_ l (Jh a.c)).L<=m:=SX h0 fun v H=>by
   obtain⟨p,D,e⟩:=J v H;rw[e];exact hm p D
  have h4:=(sH (a.at_ l (Jh a.c)).L).1;rcases a0 with U|⟨p,D,U⟩
  ·omega
  ·have Z:gU k p.1 p.2 0∈(a.at_ l (Jh a.c)).L.flatten:=bd.2 ⟨l 0,am.2 ⟨0,af.2 (by omega),rfl⟩,(I 0 (by omega) _).2 ⟨p,D,rfl⟩⟩;have h5:=OF Z (by have:=hV.num p D;show p.1.1<=_;omega);have h6:p.1.1<=XF (a.at_ l (Jh a.c)).L:=h5;omega
 unfold Za.aF;rw[if_pos (show(a.at_ l (Jh a.c)).put=T from D),e];rfl
theorem Jbw:∀V:List (JC×BA),(∀p∈V,0<=p.1.1)->∃m:Int,0<=m/\(∀p∈V,p.1.1<=m)/\(m=0∨∃p∈V,p.1.1=m)
 | [],_=>⟨0,aN _,fun _ h=>absurd h za,ah rfl⟩
 |p::V,h=>by
  obtain⟨m,I,H,J⟩:=Jbw V fun q D=>h q (ai _ D)
  by_cases e:m<=p.1.1
  ·exact⟨p.1.1,h p (by simp),fun q D=>by
    rcases ax.1 D with rfl|D
    ·exact aN _
    ·exact Int.le_trans (H q D) e,ao ⟨p,by simp,rfl⟩⟩
  ·exact⟨m,I,fun q D=>by
    rcases ax.1 D with rfl|D
    ·omega
    ·exact H q D,J.imp id fun⟨q,D,e⟩=>⟨q,ai _ D,e⟩⟩
end
end
section
structure Jaj (n k:Nat) (w:Ya) (V:List (JC×BA)) (B:Nat):Prop where
 L0:w.L=[]
 jac:∀i,Xf w.asks i=ak
 la:w.asks.length=6
 lt:w.texts.length=6
 bI:w.mover=ak
 act:w.aC+1=w.aB.length
 nodes:Zm n k w (aG w.aB w.aC) w.aC (w.aC+1) B V
 vok:VOk V B
section
variable {n k B:Nat} {w:Ya} {V:List (JC×BA)}
theorem VOk.mono (h:VOk V B)(hB:B<=D):VOk V D:=⟨h.tag,h.size,fun p H=>by have:=h.num p H;omega,h.one⟩
theorem VOk.snoc {J:Nat}(h:VOk V B)(hB:B<=J)(O:k9 t.1 t.2=T)(U:s.size<=1000)(Z:t.1<=(J:Int))(K:∀p∈V,p.1=t->p.2=s):VOk (V++ [(t,s)]) J:=by
 have H:∀p,p∈V++ [(t,s)]->p∈V∨p=(t,s):=fun p D=>by
  rcases zh.1 D with D|D
  ·exact ah D
  ·exact ao (az.1 D)
 refine⟨fun p D=>?_,fun p D=>?_,fun p D=>?_,fun p D q I e=>?_⟩
 ·rcases H p D with D|rfl
  ·exact h.tag p D
  ·exact O
 ·rcases H p D with D|rfl
  ·exact h.size p D
  ·exact U
 ·rcases H p D with D|rfl
  ·have:=h.num p D;omega
  ·exact Z
 ·rcases H p D with D|rfl
  ·rcases H q I with I|rfl
   ·exact h.one p D q I e
   ·exact Prod.ext e (K p D e)
  ·rcases H q I with I|rfl
   ·exact Prod.ext e (K q I e.symm).symm
   ·rfl
theorem Jaj.opens (h:Jaj n k w V B)(I:who<6)(put:Bool)(O:text.size<=1000):
 w.open_ who put text=({w with L:=(YA who w.ops w.aC (aG w.aB w.aC) put text).begin,since:=w.since.set who w.aA,texts:=w.texts.set who text,asks:=w.asks.set who (S (YA who w.ops w.aC (aG w.aB w.aC) put text)),ops:=w.ops+1},0):=by
 have J:=h.nodes.iL.len;have K:=h.nodes.iL.n12;unfold Ya.open_;rw[if_neg (by omega)];have D:=aq who;rw[D,h.jac who,if_neg (by decide)];have H:Yc (w.texts.set who text) who=text:=by
  unfold Yc;rw[ag,ba,if_pos rfl,if_pos (by rw[h.lt];exact I)];rfl
 unfold Ya.begin;dsimp only;rw[H,Jau]
 ·dsimp only;rw[h.L0,ap]
 ·dsimp only;rw[h.L0];show 0+((aa (aG w.aB w.aC).L.length).map _).length<=120;rw[ae,ac];omega
theorem JaQ {l:List (Option Za)}{o:Option Za}(D:l.length=6)(H:who<6)(h:∀i,Xf l i=ak)(i:Nat):Xf ((l.set who o).set who ak) i=none:=by
 rw[aE,Y9 (by omega)];split
 ·rfl
 ·exact h i
theorem Jaj.jaQ (h:Jaj n k w V B)(hB:B+2<60)(hD:w.aC+1<=12)(K:who<6)(O:text.size<=1000):
 (w.open_ who T text).2=0/\∃U e,Jaj n k ((w.open_ who T text).1.go (n+(n+(n+n)))) U (B+2)/\JaT U (S text)/\((w.open_ who T text).1.go (n+(n+(n+n)))).events=w.events++ [e]/\((w.open_ who T text).1.go (n+(n+(n+n)))).aB=w.aB/\((w.open_ who T text).1.go (n+(n+(n+n)))).aC=w.aC:=by
 rw[h.opens K T O];refine⟨rfl,?_⟩;dsimp only;obtain⟨a,D⟩:=Xb (YA who w.ops w.aC (aG w.aB w.aC) T text);rw[<-D];obtain⟨m,m0,m1,m2⟩:=Jbw V fun p H=>by
  have:=h.vok.tag p H;unfold k9 at this;simp only[av,decide_eq_true_eq]at this;exact this.1.1.1
 have a3:m<=(B:Int):=by
  rcases m2 with e|⟨p,H,e⟩
  ·omega
  ·rw[<-e];exact h.vok.num p H
 have Z:∀p∈V,p.1=(m+1,(who:Int))->p.2=text:=fun p H e=>by
  have h1:=m1 p H;rw[e]at h1;dsimp only at h1;omega
 have a0:k9 (m+1) (who:Int)=true:=by
  unfold k9;simp only[av,decide_eq_true_eq];omega
 have a2:a.c=aG w.aB w.aC:=by rw[D];rfl
 obtain⟨N,te,g,I⟩:=JaR (w:={w with L:=a.begin,since:=w.since.set who w.aA,texts:=w.texts.set who text,asks:=w.asks.set who (S a),ops:=w.ops+1}) (a:=a) (t:=(m+1,(who:Int))) (s:=text) (h.nodes.of rfl) hD (by omega) K (by show(w.asks.set _ _).length=6;rw[al];exact h.la) (by show Xf (w.asks.set _ _) who=_;rw[Y9 (by rw[h.la];exact K),if_pos rfl]) (by rw[D];rfl) (by rw[D];rfl) (by rw[D];rfl) (by rw[D];rfl) (by rw[D];rfl) a2 (by rw[D];rfl) (by rw[D];rfl) rfl a0 O Z fun l hl=>by
  have:=JbY (a:=a) (l:=l) (by rw[a2];exact h.nodes.iL) (by rw[D];rfl) h.vok (by omega) m0 m1 m2 hl;rw[this];have e1:a.who=(who:Int):=by rw[D];rfl
  have e2:a.text=text:=by rw[D];rfl
  rw[e1,e2]
 rw[g];refine⟨V++ [((m+1,(who:Int)),text)],⟨(who:Int),a.put,T,(m+1,(who:Int)),text,(w.since.set who w.aA).getD who 0,te⟩,⟨rfl,fun i=>JaQ h.la K h.jac i,?_,?_,h.bI,h.act,I.of rfl,?_⟩,⟨(m+1,(who:Int)),by simp,fun q J=>?_⟩,rfl,rfl,rfl⟩
 ·show((w.asks.set who _).set who ak).length=6;rw[al,al];exact h.la
 ·show(w.texts.set who text).length=6;rw[al];exact h.lt
 ·exact h.vok.snoc (by omega) a0 O (by dsimp only;omega) Z
 ·cases e:Qd (m+1,(who:Int)) q.1 with
  |false=>rfl
  |true =>
   rw[X8]at e;dsimp only at e;rcases zh.1 J with J|J
   ·have:=m1 q J;omega
   ·rw[az.1 J]at e;dsimp only at e;omega
theorem Jaj.jaK (h:Jaj n k w V B)(hB:B+2<60)(hD:w.aC+1<=12)(J:who<6){U:Option BA}(hT:JaT V U):
 (w.open_ who F ⟨#[]⟩).2=0/\∃m e,m<=n+(n+(n+n))/\((w.open_ who F ⟨#[]⟩).1.go m).L=[]/\(∀i,Xf ((w.open_ who F ⟨#[]⟩).1.go m).asks i=ak)/\((w.open_ who F ⟨#[]⟩).1.go m).events=w.events++ [e]/\e.put=F/\e.found=U.isSome/\e.text=U.getD ⟨#[]⟩:=by
 rw[h.opens J F (by decide)];refine⟨rfl,?_⟩;dsimp only;obtain⟨a,D⟩:=Xb (YA who w.ops w.aC (aG w.aB w.aC) F ⟨#[]⟩);rw[<-D];have Z:a.c=aG w.aB w.aC:=by rw[D];rfl
 have a0:XS n k a.c:=by rw[Z];exact h.nodes.iL
 have K:a.put=false:=by rw[D];rfl
 obtain⟨H,I⟩:∃H:Ya,H={w with L:=a.begin,since:=w.since.set who w.aA,texts:=w.texts.set who ⟨#[]⟩,asks:=w.asks.set who (S a),ops:=w.ops+1}:=⟨_,rfl⟩;rw[<-I];have q1:H.asks.length=6:=by rw[I];show(w.asks.set _ _).length=6;rw[al];exact h.la
 have q2:Xf H.asks who=S a:=by rw[I];show Xf (w.asks.set _ _) who=_;rw[Y9 (by rw[h.la];exact J),if_pos rfl]
 have q3:H.L=a.begin:=by rw[I]
 have q4:H.events=w.events:=by rw[I]
 have q5:∀i,Xf (H.asks.set who ak) i=none:=fun i=>by rw[I];exact JaQ h.la J h.jac i
 have I0:Zm n k H (aG w.aB w.aC) w.aC (w.aC+1) B V:=h.nodes.of (by rw[I]);cases U with
 |none =>
  obtain⟨N,te,g,_⟩:=JbN I0 hD (by omega) J q1 q2 (by rw[D];rfl) (by rw[D];rfl) (by rw[D];rfl) (by rw[D];rfl) (by rw[D];rfl) Z (by rw[D];rfl) (by rw[D];rfl) q3 (fun l hl=>Ja3 a0 K h.vok hT hl) K;refine⟨n+n,_,by omega,by rw[g],fun i=>by rw[g];exact q5 i,by rw[g];show H.events++_=_;rw[q4],rfl,rfl,rfl⟩
 |some s =>
  obtain⟨t,O,a2⟩:=hT;obtain⟨N,te,g,_⟩:=JaR I0 hD (by omega) J q1 q2 (by rw[D];rfl) (by rw[D];rfl) (by rw[D];rfl) (by rw[D];rfl) (by rw[D];rfl) Z (by rw[D];rfl) (by rw[D];rfl) q3 (h.vok.tag _ O) (h.vok.size _ O) (fun p a3 e=>(Prod.mk.inj (h.vok.one p a3 _ O e)).2) fun l hl=>Jbl a0 K h.vok O a2 hl
  refine⟨_,_,zd _,by rw[g],fun i=>by rw[g];exact q5 i,by rw[g];show H.events++_=_;rw[q4],K,rfl,rfl⟩
end
end
section
attribute [local instance low] Classical.propDecidable
def Jam (N:List (Je×Bool))(s:BA):Prop:=Qe N s<N.length
theorem Jar (h:¬Jam N s):RZ N s=(⟨⟨#[]⟩,[]⟩,F):=by
 unfold RZ Jc;rw[ag,aW (Nat.le_of_not_lt h)];rfl
theorem Jbi (N:List (Je×Bool))(s x:BA):(Jam (N++ [(⟨s,[]⟩,T)]) x↔Jam N x∨x=s)/\RZ (N++ [(⟨s,[]⟩,T)]) x=if Jam N x then RZ N x else if x=s then(⟨s,[]⟩,T)else RZ N x:=by
 have a0:Qe N x<=N.length:=List.findIdx_le_length;have O:(N++ [((⟨s,[]⟩:Je),T)]).length=N.length+1:=by rw[ab];rfl
 have D:Qe (N++ [(⟨s,[]⟩,T)]) x=if Qe N x<N.length then Qe N x else if s=x then N.length else N.length+1:=by
  unfold Qe;rw[List.findIdx_append];split
  ·rfl
  ·by_cases J:s=x
   ·rw[if_pos J,bb,J];simp
   ·rw[if_neg J,bb];simp[J];omega
 by_cases H:Jam N x
 ·have K:Qe N x<N.length:=H;rw[if_pos K]at D;constructor
  ·refine⟨fun _=>ah H,fun _=>?_⟩;show Qe _ x<_;rw[D,O];omega
  ·rw[if_pos H];unfold RZ Jc;rw[D,ag,List.getElem?_append_left K,ag]
 ·have K:¬Qe N x<N.length:=H;rw[if_neg K]at D;by_cases I:s=x
  ·rw[if_pos I]at D;constructor
   ·refine⟨fun _=>ao I.symm,fun _=>?_⟩;show Qe _ x<_;rw[D,O];omega
   ·rw[if_neg H,if_pos I.symm];unfold RZ Jc;rw[D,ag,List.getElem?_append_right nR,Nat.sub_self];rfl
  ·rw[if_neg I]at D;have U:¬Jam (N++ [(⟨s,[]⟩,T)]) x:=fun h=>by
    have Z:Qe _ x<_:=h;rw[D,O]at Z;omega
   refine⟨⟨fun h=>absurd h U,fun h=>?_⟩,?_⟩
   ·rcases h with h|h
    ·exact absurd h H
    ·exact absurd h.symm I
   ·rw[if_neg H,if_neg fun e=>I e.symm,Jar U,Jar H]
theorem Jan:∀(l:List BA) (w:Ya),(∀x,Jam (w.eX l).nodes x↔Jam w.nodes x∨x∈l)/\∀x,RZ (w.eX l).nodes x=if Jam w.nodes x then RZ w.nodes x else if x∈l then(⟨x,[]⟩,T)else RZ w.nodes x
 | [],w=>⟨fun x=>⟨fun h=>ah h,fun h=>h.elim id fun h=>absurd h za⟩,fun x=>by
  show RZ w.nodes x=_;split
  ·rfl
  ·rw[if_neg za]⟩
 |s::l,w=>by
  rw[CZ];by_cases J:Qe w.nodes s<w.nodes.length
  ·rw[if_pos J];obtain⟨K,O⟩:=Jan l w;refine⟨fun x=>?_,fun x=>?_⟩
   ·rw[K x,ax];constructor
    ·exact fun h=>h.imp id ao
    ·rintro(h|h|h)
     ·exact ah h
     ·exact ah (h▸J)
     ·exact ao h
   ·rw[O x];by_cases D:Jam w.nodes x
    ·rw[if_pos D,if_pos D]
    ·have Z:x≠s:=fun e=>D (e▸J)
     rw[if_neg D,if_neg D];by_cases H:x∈l
     ·rw[if_pos H,if_pos (ai _ H)]
     ·rw[if_neg H,if_neg fun h=>(ax.1 h).elim Z H]
  ·rw[if_neg J];obtain⟨K,O⟩:=Jan l {w with nodes:=w.nodes++ [(⟨s,[]⟩,T)]};refine⟨fun x=>?_,fun x=>?_⟩
   ·rw[K x,(Jbi w.nodes s x).1,ax];constructor
    ·rintro((h|h)|h)
     ·exact ah h
     ·exact ao (ah h)
     ·exact ao (ao h)
    ·rintro(h|h|h)
     ·exact ah (ah h)
     ·exact ah (ao h)
     ·exact ao h
   ·rw[O x];obtain⟨a1,U⟩:=Jbi w.nodes s x;by_cases D:Jam w.nodes x
    ·rw[if_pos (a1.2 (ah D)),U,if_pos D,if_pos D]
    ·by_cases I:x=s
     ·rw[if_pos (a1.2 (ao I)),U,if_neg D,if_pos I,if_neg D,if_pos (by rw[I];simp),I]
     ·rw[if_neg fun h=>(a1.1 h).elim D I,if_neg D];by_cases H:x∈l
      ·rw[if_pos H,if_pos (ai _ H)]
      ·rw[if_neg H,if_neg fun h=>(ax.1 h).elim I H,U,if_neg D,if_neg I]
section
variable {n k B:Nat} {w:Ya} {V:List (JC×BA)}
theorem Zm.eX (h:Zm n k w c j D B V){l:List BA}(hl:∀x∈l,YN x=ak/\x≠J8):Zm n k (w.eX l) c j D B V:=by
 obtain⟨Z,I⟩:=Jan l w;have a0:∀x∈c.L,RZ (w.eX l).nodes x=RZ w.nodes x:=fun x J=>by rw[I x,if_pos (show Jam w.nodes x from h.has x J)]
 have hn:=h.iL.len;refine⟨h.iL,fun s K=>?_,fun x J=>(Z x).2 (ah (h.has x J)),fun s=>?_,h.lt,fun i O v=>?_,fun i O=>?_⟩
 ·by_cases H:Jam w.nodes s
  ·refine(h.up s H).of K ?_;rw[I s,if_pos H];exact(h.up s H).up
  ·have U:s∈l:=((Z s).1 K).elim (fun h=>absurd h H) id;refine⟨K,?_,(hl s U).1,(hl s U).2⟩;rw[I s,if_neg H,if_pos U]
 ·rw[I s];split
  ·exact h.mem s
  ·split
   ·exact Qy.nil _ _ _
   ·exact h.mem s
 ·show v∈(Qn (RZ (w.eX l).nodes (Yc c.L i)).1 (j:Int)).1↔_;rw[a0 _ (oQ (by omega))];exact h.holds i O v
 ·show(Qn (RZ (w.eX l).nodes (Yc c.L i)).1 (j:Int)).2=F;rw[a0 _ (oQ (by omega))];exact h.open_ i O
theorem Jaj.aI (h:Jaj n k w V B)(hB:B+2<60)(hD:w.aC+2<=12){a2:Option BA}(hT:JaT V a2){l:List BA}{H:Xg}(a7:XS n k H)(b4:∀x∈H.L,x∈l)(hl:∀x∈l,YN x=ak/\x≠J8):
 ∃m V',m<=n+(n+(n+n))/\Jaj n k ((w.dS l H).go m) V' (B+2)/\JaT V' a2/\((w.dS l H).go m).events=w.events/\((w.dS l H).go m).aB=w.aB++ [H]:=by
 obtain⟨N,hN,_⟩:=l3 l w;have b5:=h.nodes.iL.len;have b6:=h.nodes.iL.n12;obtain⟨a,D⟩:=Xb (JD w.ops w.aC (aG w.aB w.aC) H);have J:w.dS l H={w with nodes:=(w.eX l).nodes,L:=a.begin,mover:=S a,aB:=w.aB++ [H],ops:=w.ops+1}:=by
  unfold Ya.dS;rw[<-D,Jau]
  ·rw[hN];dsimp only;rw[h.L0,ap]
  ·rw[hN,D];show w.L.length+((aa (aG w.aB w.aC).L.length).map _).length<=120;rw[h.L0,ae,ac];show 0+_<=120;omega
 obtain⟨K,a8⟩:=Xb (w.dS l H);rw[<-a8]at J ⊢;have I0:Zm n k K (aG w.aB w.aC) w.aC (w.aC+1) B V:=(h.nodes.eX hl).of (by rw[J]);have a3:∀x∈H.L,Qe K.nodes x<K.nodes.length:=fun x hx=>by
  have:=(Jan l w).1 x;rw[J];exact this.2 (ao (b4 x hx))
 have a4:K.mover=S a:=by rw[J]
 have hL:K.L=a.begin:=by rw[J]
 have a0:a.c=aG w.aB w.aC:=by rw[D];rfl
 have a5:XS n k a.c:=by rw[a0];exact h.nodes.iL
 have hp:a.put=false:=by rw[D];rfl
 have a9:(w.aB++ [H]).length-1=w.aC+1:=by
  rw[ab,<-h.act];rfl
 have b0:aG (w.aB++ [H]) (w.aC+1)=H:=by rw[h.act];exact KP _ _
 have a6:∀(O:List (Je×Bool)) (d:Int) (V1:List (JC×BA)) (B1:Nat),Zm n k {K with nodes:=O} H (w.aC+1) (w.aC+2) B1 V1->VOk V1 B1->Jaj n k {K with L:=[],nodes:=O,mover:=ak,aC:=K.aB.length-1,aA:=d} V1 B1:=fun O d V1 B1 I b1=>by
  rw[J]at I ⊢;dsimp only at I ⊢;rw[a9];refine⟨rfl,h.jac,h.la,h.lt,rfl,?_,?_,b1⟩
  ·show w.aC+1+1=(w.aB++ [H]).length;rw[ab,<-h.act];rfl
  ·show Zm n k _ (aG (w.aB++ [H]) (w.aC+1)) (w.aC+1) (w.aC+1+1) B1 V1;rw[b0];exact I.of rfl
 cases a2 with
 |none =>
  obtain⟨O,g,I⟩:=JbQ I0 hD (by omega) a4 (by rw[D];rfl) (by rw[D];rfl) (by rw[D];rfl) (by rw[D];rfl) (by rw[D];rfl) a0 (by rw[D];rfl) (by rw[D];rfl) hL a7 a3 fun q U=>Ja3 a5 hp h.vok hT U
  refine⟨n+n,[],by omega,?_,rfl,by rw[g,J],by rw[g,J]⟩;rw[g];have hv:VOk ([]:List (JC×BA)) (B+1):=⟨fun _ h=>absurd h za,fun _ h=>absurd h za,fun _ h=>absurd h za,fun _ h=>absurd h za⟩;have C:=a6 O (K.aA+(n+n:Nat)) [] (B+1) I hv;exact⟨C.L0,C.jac,C.la,C.lt,C.bI,C.act,⟨C.nodes.iL,C.nodes.up,C.nodes.has,fun s=>(C.nodes.mem s).mono nR (by omega),C.nodes.lt,C.nodes.holds,C.nodes.open_⟩,C.vok.mono (by omega)⟩
 |some s =>
  obtain⟨t,Z,b2⟩:=hT;obtain⟨O,g,I⟩:=JbG I0 hD (by omega) a4 (by rw[D];rfl) (by rw[D];rfl) (by rw[D];rfl) (by rw[D];rfl) (by rw[D];rfl) a0 (by rw[D];rfl) (by rw[D];rfl) (by rw[D];rfl) hL a7 a3 (h.vok.tag _ Z) (h.vok.size _ Z) fun q U=>Jbl a5 hp h.vok Z b2 U
  have b3:VOk ([]:List (JC×BA)) B:=⟨fun _ h=>absurd h za,fun _ h=>absurd h za,fun _ h=>absurd h za,fun _ h=>absurd h za⟩;have hv:VOk ([]++ [(t,s)]) (B+2):=b3.snoc (by omega) (h.vok.tag _ Z) (h.vok.size _ Z) (by have:=h.vok.num _ Z;dsimp only at this;omega) fun p hp=>absurd hp za
  refine⟨_,[]++ [(t,s)],zd _,?_,⟨t,by simp,fun q U=>?_⟩,by rw[g,J],by rw[g,J]⟩
  ·rw[g];exact a6 O _ _ (B+2) I hv
  ·rw[ap]at U;rw[az.1 U];exact G9 t
theorem Jaj.new {l:List BA}(hc:XS n k c)(a2:∀x∈c.L,x∈l)(hl:∀x∈l,YN x=ak/\x≠J8):Jaj n k (Ya.new l c) [] 0:=by
 obtain⟨D,H⟩:∃D:Ya,D=⟨[],[],aJ 6 ak,aJ 6 0,aJ 6 ⟨#[]⟩,ak,[c],0,0,0,[]⟩:=⟨_,rfl⟩;obtain⟨N,hN,_⟩:=l3 l D;obtain⟨O,h2⟩:=Jan l D;have I:∀x,¬Jam D.nodes x:=fun x h=>by rw[H]at h;exact absurd h (ay _)
 have J:∀x,RZ (D.eX l).nodes x=if x∈l then(⟨x,[]⟩,T)else RZ D.nodes x:=fun x=>by rw[h2 x,if_neg (I x)]
 have U:∀x d,Qn (RZ (D.eX l).nodes x).1 d=([],F):=fun x d=>by
  rw[J x];split
  ·rfl
  ·rw[Jar (I x)];rfl
 unfold Ya.new;rw[<-H];have a0:∀i,Xf D.asks i=none:=fun i=>by
  rw[H];show(aJ 6 ak).getD i ak=ak;rw[ag,List.getElem?_replicate];split<;>rfl
 have e:∀{α:Type} (f:Ya->α),(∀N,f {D with nodes:=N}=f D)->f (D.eX l)=f D:=fun f hf=>by rw[hN];exact hf N
 refine⟨(e Ya.L fun _=>rfl).trans (by rw[H]),fun i=>by rw[e Ya.asks fun _=>rfl];exact a0 i,by rw[e Ya.asks fun _=>rfl,H];rfl,by rw[e Ya.texts fun _=>rfl,H];rfl,by rw[e Ya.mover fun _=>rfl,H],by rw[e Ya.aC fun _=>rfl,e Ya.aB fun _=>rfl,H];rfl,?_,⟨fun _ h=>absurd h za,fun _ h=>absurd h za,fun _ h=>absurd h za,fun _ h=>absurd h za⟩⟩;rw[e Ya.aC fun _=>rfl,e Ya.aB fun _=>rfl];have e1:aG D.aB D.aC=c:=by rw[H];rfl
 have e2:D.aC=0:=by rw[H]
 rw[e1,e2];refine⟨hc,fun s Z=>?_,fun x hx=>(O x).2 (ao (a2 x hx)),fun s=>?_,by omega,fun i _ v=>?_,fun i _=>?_⟩
 ·have K:s∈l:=((O s).1 Z).elim (fun h=>absurd h (I s)) id;exact⟨Z,by rw[J s,if_pos K],(hl s K).1,(hl s K).2⟩
 ·rw[J s];split
  ·exact Qy.nil _ _ _
  ·rw[Jar (I s)];exact Qy.nil _ _ _
 ·show v∈(Qn (RZ (D.eX l).nodes (Yc c.L i)).1 ((0:Nat):Int)).1↔_;rw[U];constructor
  ·intro h;cases h
  ·rintro⟨p,hp,_⟩;cases hp
 ·show(Qn (RZ (D.eX l).nodes (Yc c.L i)).1 ((0:Nat):Int)).2=F;rw[U]
end
end
theorem Jbn {w:Ya}(h:w.L=[]):w.aR 0=(w,5):=by
 unfold Ya.aR;rw[if_pos (by rw[h];exact ao (aN _))]
theorem JbA {w:Ya}(h:w.L=[]):∀m,w.go m=w
 |0=>rfl
 |m+1=>by
  show Ya.go m (w.aR 0).1=w;rw[Jbn h];exact JbA h m
theorem JaY:∀(m:Nat) (w:Ya),(w.go m).L=[]->∃i,i<=m/\(w.go i).L=[]/\(∀j,j<i->(w.go j).L≠[])/\w.go i=w.go m
 |0,w,h=>⟨0,zd _,h,fun j B=>absurd B (ay j),rfl⟩
 |m+1,w,h=>by
  by_cases D:w.L=[]
  ·exact⟨0,bf _,D,fun j B=>absurd B (ay j),(JbA D (m+1)).symm⟩
  ·obtain⟨i,K,H,I,J⟩:=JaY m (w.aR 0).1 h;refine⟨i+1,by omega,H,fun j B=>?_,J⟩;cases j with
   |zero=>exact D
   |succ j=>exact I j (by omega)
theorem MF (w:Ya)(who:Nat)(a:Za):(w.after who a).events=w.events∨∃x,(w.after who a).events=w.events++ [x]:=by
 unfold Ya.after;split
 ·exact ao ⟨_,rfl⟩
 ·split<;>exact ah rfl
 ·exact ah rfl
theorem FB (w:Ya)(l:List BA):(w.eX l).events=w.events:=by
 obtain⟨N,h,_⟩:=l3 l w;rw[h]
theorem Jrs {w w':Ya}(h:WStep n k w w'):w'.events=w.events∨∃x,w'.events=w.events++ [x]:=by
 cases h with
 |open_ who put text =>
  refine ah ?_;unfold Ya.open_;split
  ·rfl
  ·split<;>rfl
 |aR i =>
  unfold Ya.aR;split
  ·exact ah rfl
  ·have B:∀o:Option Nat,(match o with
    |some who=>Ya.aD {w.off i.toNat with aA:=w.aA+1} who (Yg w.L i.toNat)
    |none=>if(Yg w.L i.toNat).aP=J8 then Ya.aI {w.off i.toNat with aA:=w.aA+1} (Yg w.L i.toNat)else Ya.node {w.off i.toNat with aA:=w.aA+1} (Yg w.L i.toNat)).events=w.events∨∃x,(match o with
    |some who=>Ya.aD {w.off i.toNat with aA:=w.aA+1} who (Yg w.L i.toNat)
    |none=>if(Yg w.L i.toNat).aP=J8 then Ya.aI {w.off i.toNat with aA:=w.aA+1} (Yg w.L i.toNat)else Ya.node {w.off i.toNat with aA:=w.aA+1} (Yg w.L i.toNat)).events=w.events++ [x]:=fun o=>by
    cases o with
    |some who =>
     show(Ya.aD {w.off i.toNat with aA:=w.aA+1} who (Yg w.L i.toNat)).events=_∨∃x,(Ya.aD {w.off i.toNat with aA:=w.aA+1} who (Yg w.L i.toNat)).events=_;unfold Ya.aD;split
     ·exact ah rfl
     ·exact MF _ _ _
    |none =>
     refine ah ?_;show(if(Yg w.L i.toNat).aP=J8 then Ya.aI {w.off i.toNat with aA:=w.aA+1} (Yg w.L i.toNat)else Ya.node {w.off i.toNat with aA:=w.aA+1} (Yg w.L i.toNat)).events=_;split
     ·unfold Ya.aI;split<;>rfl
     ·unfold Ya.node;split<;>rfl
   exact B _
 |drop i=>refine ah ?_;unfold Ya.drop;split<;>rfl
 |bC i =>
  refine ah ?_;unfold Ya.bC;split
  ·rfl
  ·split<;>rfl
 |set s up=>refine ah ?_;unfold Ya.set;split<;>rfl
 |again who =>
  refine ah ?_;unfold Ya.again;split
  ·rfl
  ·split
   ·rfl
   ·split<;>rfl
 |a8 who =>
  refine ah ?_;unfold Ya.a8;split
  ·rfl
  ·split
   ·rfl
   ·split
    ·split<;>rfl
    ·rfl
 |change nodes c D H=>exact ah (FB w nodes)
 |none=>exact ah rfl
theorem bP.bV {m:Nat}{w:Ya}(h:bP n k m w):w.events.length<=m:=by
 induction h with
 |new nodes c D =>
  unfold Ya.new;rw[FB];exact zd _
 |step m w w' h B ih =>
  rcases Jrs B with e|⟨x,e⟩
  ·rw[e];omega
  ·rw[e,ab,List.length_singleton];omega
end Go.Proofs.YtgapmoniajcliaaGreatDoor

/- Texts laid together. -/
import Derived.Test.YtfgapcknnoeplaaGreatDoorX24
import Derived.JoinedOf
set_option maxRecDepth 10000
set_option maxHeartbeats 8000000
open Bool renaming false->aa,true->T,not_eq_true'->ao,and_eq_true->ap
open Go.RowKit renaming Below->ab
open List renaming getD_eq_getElem?_getD->ac,getElem?_eq_getElem->ai,length_take->aj,length_set->al,getElem_of_mem->am,length_map->aq
open Nat renaming le_refl->ae,zero_le->ah,not_lt_zero->ak
open Option renaming some->af,none->N
open Go renaming bodyPost_ret->ag,results->ar,Calls->az
namespace Go.Proofs.YtfgapcknnoeplaaGreatDoor
open Go.Proofs.Tryz
open Go.RowKit
variable {a b:Ev}{L:List Ev}{i q:Nat}
section
open Ring
def gA (m:Ya):Prop:=∀e∈m.events,e.text.size<=1000
section
variable {w w':World} {B h:Nat} {O O':Nat->Option Whose} {m m':Ya} {X:WB} {ml:List (Zb×Lv)} {nb hn:Nat->Nat} {n k t:Nat} {ad:Nat->Addr} {S:Nat->Prop}
theorem gA.same (h:gA m)(e:m'.events=m.events):gA m':=fun x D=>h x (by rw[<-e];exact D)
theorem gA.after {w:Ya}(h:gA w)(who:Nat){a:Za}(H:XA a):gA (w.after who a):=by
 unfold Ya.after;split
 ·intro x D;have D:x∈w.events++ [_]:=D;rcases List.mem_append.1 D with D|D
  ·exact h x D
  ·rw[List.mem_singleton.1 D];show(if a.found=T then a.text else⟨#[]⟩:ByteArray).size<=1000;split
   ·exact H.aN.text
   ·decide
 ·split
  ·exact h.same rfl
  ·exact h
 ·exact h
theorem gA.aR {w:Ya}(D:WZ n k w)(h:gA w)(i:Int):gA (w.aR i).1:=by
 unfold Ya.aR;split
 ·exact h
 ·rename_i U;have H:YF (Yg w.L i.toNat):=D.msgs _ (oB (by omega));have I:∀o:Option Nat,gA (match o with
   |some who=>Ya.aD {w.off i.toNat with aA:=w.aA+1} who (Yg w.L i.toNat)
   |none=>if(Yg w.L i.toNat).aP=J8 then Ya.aI {w.off i.toNat with aA:=w.aA+1} (Yg w.L i.toNat)else Ya.node {w.off i.toNat with aA:=w.aA+1} (Yg w.L i.toNat)):=fun o=>by
   cases o with
   |some who =>
    show gA (Ya.aD {w.off i.toNat with aA:=w.aA+1} who (Yg w.L i.toNat));unfold Ya.aD;split
    ·exact h.same rfl
    ·rename_i a J;obtain⟨K,_,Z⟩:=D.asks who a J;refine gA.after ?_ who (K.aD H (by omega)).1;exact h.same rfl
   |none =>
    show gA (if(Yg w.L i.toNat).aP=J8 then Ya.aI {w.off i.toNat with aA:=w.aA+1} (Yg w.L i.toNat)else Ya.node {w.off i.toNat with aA:=w.aA+1} (Yg w.L i.toNat));split
    ·unfold Ya.aI;split<;>exact h.same rfl
    ·unfold Ya.node;split<;>exact h.same rfl
  exact I _
theorem RD (w:Ya)(i:Int):(w.aR i).1.nodes.length=w.nodes.length:=by
 unfold Ya.aR;split
 ·rfl
 ·have D:∀o:Option Nat,(match o with
   |some who=>Ya.aD {w.off i.toNat with aA:=w.aA+1} who (Yg w.L i.toNat)
   |none=>if(Yg w.L i.toNat).aP=J8 then Ya.aI {w.off i.toNat with aA:=w.aA+1} (Yg w.L i.toNat)else Ya.node {w.off i.toNat with aA:=w.aA+1} (Yg w.L i.toNat)).nodes.length=w.nodes.length:=fun o=>by
   cases o with
   |some who =>
    show(Ya.aD {w.off i.toNat with aA:=w.aA+1} who (Yg w.L i.toNat)).nodes.length=_;unfold Ya.aD;split
    ·rfl
    ·unfold Ya.after;split
     ·rfl
     ·split<;>rfl
     ·rfl
   |none =>
    show(if(Yg w.L i.toNat).aP=J8 then Ya.aI {w.off i.toNat with aA:=w.aA+1} (Yg w.L i.toNat)else Ya.node {w.off i.toNat with aA:=w.aA+1} (Yg w.L i.toNat)).nodes.length=_;split
    ·unfold Ya.aI;split<;>rfl
    ·unfold Ya.node;split
     ·show(List.set _ _ _).length=_;rw[al];rfl
     ·rfl
  exact D _
def WdO (n k:Nat)(w:World)(B h:Nat)(S:Nat->Prop)(m:Ya):Prop:=∃O X ml nb hn,Ye w B h O m X ml nb hn/\WZ n k m/\m.nodes.length<=16/\gA m/\m.events.length<=1000000/\S=fun j=>O j≠N
theorem QQ (hB:RC ad (iZ ad) w (fun j=>O j≠N)):Yi ad w O:=fun W D H=>(hB W D (fun j I hn=>H j I (by
 cases e:O j with
 |none=>rfl
 |some o=>exact absurd (show O j≠N by rw[e];exact fun e=>by cases e) hn))).2
theorem Xe.MD {r:Ya×Int}{e:Ending}(Z:bP n k t m)(ht:t<=400)(hs:WStep n k m r.1)(hz:WZ n k r.1)(a0:r.1.nodes.length<=16)(a2:gA r.1)(hA:Xe ad w B h O r nb hn e w'):X5 ad WdO n k B h (fun j=>O j≠N) r w e w':=by
 obtain⟨D,H,I,J,K,U⟩:=hA;exact⟨D,_,⟨H,I,J,nb,hn,K,hz,a0,a2,by have:=(bP.step t m r.1 Z hs).bV;omega,rfl⟩,U⟩
theorem B3 (m:Ya)(who:Int)(put:Bool)(text:ByteArray):(m.open_ who put text).1.nodes=m.nodes/\(m.open_ who put text).1.events=m.events:=by
 unfold Ya.open_;split
 ·exact⟨rfl,rfl⟩
 ·split<;>exact⟨rfl,rfl⟩
theorem Jcw (ad:Nat->Addr):Jan ad (iZ ad) WdO where
 dH:=fun {n k w B h S m} I j hj=>by
  obtain⟨O,X,ml,nb,hn,D,_,_,_,_,rfl⟩:=I;cases e:O j with
  |none=>exact absurd e hj
  |some o=>exact D.aO j o e
 aS:=fun {n k w w' B h S m} I hs hk=>by
  obtain⟨O,X,ml,nb,hn,D,J,h3,h4,h5,rfl⟩:=I;exact⟨O,X,ml,nb,hn,D.aS hs (fun j o e=>hk j (by show O j≠N;rw[e];exact fun e=>by cases e)),J,h3,h4,h5,rfl⟩
 dX:=fun W hX=>hX.x.2
 bO:=fun {n k w B h S m} I=>by
  obtain⟨O,X,ml,nb,hn,D,H,Z,a0,a2,rfl⟩:=I;refine⟨by have:=H.bO;omega,Z,fun x hx=>?_⟩;obtain⟨i,hi,rfl⟩:=am hx;have h1:=(H.nodes i hi).name;unfold Jc at h1;rw[ac,ai hi]at h1;have h1:m.nodes[i].1.name.size<=16:=h1;omega
 new:=fun l n k p cap w hs hc _ hl hx hn hk _ hX=>by
  refine(GR ad p l cap n k w (by omega) hc (fun x h=>by have:=hx x h;omega) hn hk hs hX).mono fun e w' K=>?_
  obtain⟨K,hb⟩:=K;refine⟨?_,hb⟩;rcases K with⟨h1,ev,J,h3⟩|⟨h1,h,c,e1,e2,e3,e4,e5,O,X,ml,nb,hn,D⟩
  ·exact Or.inl ⟨h1,ev,J,h3⟩
  ·have hN:¬0<(Xj l).1:=fun h=>h1 (by unfold Zr;rw[if_pos h];exact h)
   obtain⟨_,b2,a6⟩:=QV (l:=l) (by omega);obtain⟨a7,a3⟩:=YP (l:=l) (by omega);have a4:XS n.toNat k.toNat c:=by
    obtain⟨h1,J,_,_,h5⟩:=Xm e5;exact⟨by omega,by omega,by omega,by omega,by omega,by omega,h5⟩
   refine Or.inr ⟨h1,h,_,c,e1,e4,e2,e3,a4,O,X,ml,nb,hn,?_,?_,?_,?_,?_,rfl⟩
   ·rw[pM c a3];exact D
   ·rw[pM c a3];exact(GO e5 a4).kQ a7
   ·rw[pM c a3];show([]++l.map _).length<=16;rw[List.nil_append,aq];exact a6
   ·rw[pM c a3];exact fun x hx=>by cases hx
   ·rw[pM c a3];exact ah _
 put:=fun {n k w B h S m t} who text I U ht b3 hB=>by
  obtain⟨O,X,ml,nb,hn,D,H,Z,a0,_,rfl⟩:=I;have ho:=U.ops;have J:=B3 m who T text;exact(GI D H who text (by omega) ho.1 (by omega) (QQ hB)).mono fun e w' K=>K.MD U ht (WStep.open_ m who T text) (H.lZ _ _ _) (by rw[J.1];exact Z) (a0.same J.2)
 get:=fun {n k w B h S m t} who I U ht hB=>by
  obtain⟨O,X,ml,nb,hn,D,H,Z,a0,_,rfl⟩:=I;have ho:=U.ops;have J:=B3 m who aa ⟨#[]⟩;exact(Jsp D H who ho.1 (by omega) (QQ hB)).mono fun e w' K=>K.MD U ht (WStep.open_ m who aa ⟨#[]⟩) (H.lZ _ _ _) (by rw[J.1];exact Z) (a0.same J.2)
 aR:=fun {n k w B h S m t} i I U ht hB=>by
  obtain⟨O,X,ml,nb,hn,D,H,Z,a0,a2,rfl⟩:=I;have ho:=U.ops;obtain⟨⟨G,hG⟩,a8,b4⟩:=U.inv (by omega);exact(VL D H i ho.1 (by omega) a8 (by omega) a2 (by omega) (QQ hB) (hG.fC i.toNat)).mono fun e w' K=>K.MD U ht (WStep.aR m i) (H.jI i (hG.fC i.toNat)) (by rw[RD];exact Z) (gA.aR H a0 i)
 drop:=fun {n k w B h S m t} i I U ht hB=>by
  obtain⟨O,X,ml,nb,hn,D,H,Z,a0,_,rfl⟩:=I;have J:(m.drop i).1.nodes=m.nodes/\(m.drop i).1.events=m.events:=by unfold Ya.drop;split<;>exact⟨rfl,rfl⟩
  exact(NU D H i (QQ hB)).mono fun e w' K=>K.MD U ht (WStep.drop m i) (H.rU i) (by rw[J.1];exact Z) (a0.same J.2)
 bC:=fun {n k w B h S m t} i I U ht hB=>by
  obtain⟨O,X,ml,nb,hn,D,H,Z,a0,_,rfl⟩:=I;have J:(m.bC i).1.nodes=m.nodes/\(m.bC i).1.events=m.events:=by
   unfold Ya.bC;split
   ·exact⟨rfl,rfl⟩
   ·split<;>exact⟨rfl,rfl⟩
  exact(Jok D H i (QQ hB)).mono fun e w' K=>K.MD U ht (WStep.bC m i) (H.mW i) (by rw[J.1];exact Z) (a0.same J.2)
 down:=fun {n k w B h S m t} s I U ht _ hB=>by
  obtain⟨O,X,ml,nb,hn,D,H,Z,a0,_,rfl⟩:=I;have J:(m.set s aa).1.nodes.length=m.nodes.length/\(m.set s aa).1.events=m.events:=by
   unfold Ya.set;split
   ·exact⟨al,rfl⟩
   ·exact⟨rfl,rfl⟩
  exact(JqA D s (by omega) (QQ hB)).mono fun e w' K=>K.MD U ht (WStep.set m s aa) (H.pH s aa) (by rw[J.1];exact Z) (a0.same J.2)
 up:=fun {n k w B h S m t} s I U ht _ hB=>by
  obtain⟨O,X,ml,nb,hn,D,H,Z,a0,_,rfl⟩:=I;have J:(m.set s T).1.nodes.length=m.nodes.length/\(m.set s T).1.events=m.events:=by
   unfold Ya.set;split
   ·exact⟨al,rfl⟩
   ·exact⟨rfl,rfl⟩
  exact(W7 D s (by omega) (QQ hB)).mono fun e w' K=>K.MD U ht (WStep.set m s T) (H.pH s T) (by rw[J.1];exact Z) (a0.same J.2)
 events:=fun {n k w B h S m} I=>by
  obtain⟨O,X,ml,nb,hn,D,H,Z,a0,a2,rfl⟩:=I;refine⟨a2,(SE D a2 a0).mono fun e w' K=>?_⟩;obtain⟨⟨v,e1,hO⟩,hb⟩:=K;obtain⟨p,c,rfl,U,hc,_⟩:=hO.form;exact⟨⟨p,c,e1,hc,U⟩,hb⟩
 oV:=fun {n k w B h S m} I=>by
  obtain⟨O,X,ml,nb,hn,D,H,Z,a0,a2,rfl⟩:=I;exact Jcd D
 nodes:=fun {n k w B h S m} I=>by
  obtain⟨O,X,ml,nb,hn,D,H,Z,a0,a2,rfl⟩:=I;refine(JbU D (by omega) (fun x hx=>?_)).mono fun e w' K=>?_
  ·obtain⟨i,hi,rfl⟩:=am hx;have h1:=(H.nodes i hi).name;unfold Jc at h1;rw[ac,ai hi]at h1;have h1:m.nodes[i].1.name.size<=16:=h1;omega
  ·obtain⟨⟨v,e1,hO⟩,hb⟩:=K;obtain⟨p,c,rfl,hs,_,_,a9⟩:=hO.form;have b0:m.names.length=m.nodes.length:=aq _;rw[b0]at e1;exact⟨⟨p,c,e1,hs,fun b o b1 hS=>by
    have h1:=a9 b o b1;cases a5:O b with
    |none=>exact hS a5
    |some x=>have:=(D.aO b x a5).2;omega⟩,hb⟩
end
end
theorem Jba (h:q<i):Qq (L.take i) q=Qq L q:=by
 unfold Qq;rw[ac,ac,List.getElem?_take_of_lt h]
theorem JbS (D:i<L.length)(B:q<i)(h:JQ (Qq L i) (Qq L q)=T):r9 L i=true:=JaT (l:=L.take i) (i:=q) (by rw[aj];omega) (by rw[Jba B];exact h)
theorem Jbk (h:∀q,q<i->JQ (Qq L i) (Qq L q)=aa):r9 L i=false:=Jaw fun q B=>by
 rw[aj]at B;rw[Jba (by omega)];exact h q (by omega)
theorem JbC (h:JQ b a=T):¬b.from_<a.aP/\a.found=T/\(b.found=aa∨Qd b.tag a.tag=T∨(b.put=T/\b.tag=a.tag)):=by
 unfold JQ at h;simp only[ap,Bool.or_eq_true,ao,decide_eq_true_eq]at h;obtain⟨⟨H,D⟩,B⟩:=h;refine⟨by omega,D,?_⟩;rcases B with(B|B)|B
 ·exact Or.inl B
 ·exact Or.inr (Or.inl B)
 ·exact Or.inr (Or.inr B)
theorem Jca (h:Y5 b a=T):b.put=aa/\b.found=T/\a.put=T/\a.tag=b.tag/\a.text≠b.text:=by
 unfold Y5 at h;simp only[ap,ao,decide_eq_true_eq]at h;obtain⟨⟨⟨⟨B,D⟩,H⟩,I⟩,J⟩:=h;exact⟨B,D,H,I,J⟩
theorem JbD (L:List Ev)(p:Option Addr)(cap:Nat)(w:World)(hr:Ql XI w p L)(hl:L.length<=1000000):
 az prog 13 #[.slice p L.length cap] w fun e w'=>e=.returned (.agg #[.int .i64 (r8 L).1,.int .i64 (r8 L).2])/\ab w.heap.size w w':=by
 obtain⟨K,g0⟩:∃K,K=w.alloc (.cells #[.int .i64 0,.int .i64 0] 45):=⟨_,rfl⟩;have g1:ab w.heap.size w K:=x8 g0;have h5:K.heap[w.heap.size]?=af (.cells #[.int .i64 0,.int .i64 0] 45 (0,0)):=by
  rw[g0];show(w.heap.push _)[w.heap.size]?=_;simp
 have h6:w.heap.size<K.heap.size:=by rw[g0];simp
 have HR:Hid (Ql XI K p L):=hr.below g1;have m5:Hid (K.heap[w.heap.size]?=af (.cells #[.int .i64 0,.int .i64 0] 45 (0,0))):=h5;have k0:Hid (ab w.heap.size w K):=g1;have m6:Hid (K=w.alloc (.cells #[.int .i64 0,.int .i64 0] 45)):=g0;have m7:Hid (w.heap.size<K.heap.size):=h6;have g9:Hid (∀(x y:Int×Int) (W:World),az prog 26 #[.agg #[.int .i64 x.1,.int .i64 x.2],.agg #[.int .i64 y.1,.int .i64 y.2]] W fun e w'=>e=.returned (.bool (Qd x y))/\ab W.heap.size W w'):=fun x y W=>JpF x y W
 have m8:Hid (∀W,az prog 27 #[] W fun e w'=>e=.returned (.agg #[.int .i64 0,.int .i64 (-1)])/\ab W.heap.size W w'):=fun W=>R5 W
 have e5:Hid (∀W,ab K.heap.size K W->(W.cell? ⟨w.heap.size,0,N⟩=af (.int .i64 0)/\W.cell? ⟨w.heap.size,1,N⟩=af (.int .i64 0)/\W.frozen? ⟨w.heap.size,0,N⟩=aa/\W.frozen? ⟨w.heap.size,1,N⟩=aa)/\ab w.heap.size w W):=fun W hW=>by
  have hk:=(hW.block _ h6).trans h5;exact⟨⟨(Xa hk 0).1,(Xa hk 1).1,(Xa hk 0).2,(Xa hk 1).2⟩,g1.trans (hW.mono g1.size)⟩
 clear hr g0 g1 h5 h6;go_enter func13,ntmps13;go_wp2_with (first|rw[<-m6.out]|fail)
 go_loopw [3] (fun x wr=>∃i:Nat,i<=L.length/\x=.int .i64 i/\(∀j,j<i->r9 L j=aa/\H7 L j=aa)/\ab K.heap.size K wr) (fun x _=>L.length-(intOf x).toNat)
 case atStart=>exact⟨0,ah _,rfl,fun j hj=>absurd hj (ak _),Below.refl _ _⟩
 case round =>
  obtain⟨i,hi,rfl,f5,hB⟩:=hrel;obtain⟨w1,rfl⟩:∃w1,w1=wr:=⟨_,rfl⟩;have HB:Hid (ab K.heap.size K w1):=hB;by_cases f6:i<L.length
  ·obtain⟨pb,po,g2,n5,b0,b1,b2,b3,b4,b5,b6,b7⟩:=qX (HR.out.below hB) f6;have h7:Hid (∀q,q<i->JQ (Qq L i) (Qq L q)=T->r8 L=(10,(i:Int))):=fun q hq hb=>by
    have ho:=JbS f6 hq hb;have:=JaO f6 f5 (by rw[ho];rfl);rw[ho]at this;exact this
   have h8:Hid ((∀q,q<i->JQ (Qq L i) (Qq L q)=aa)->∀q,q<L.length->Y5 (Qq L i) (Qq L q)=T->r8 L=(5,(i:Int))):=fun hn q hq hb=>by
    have ho:=Jbk hn;have ht:H7 L i=true:=JaT hq hb;have:=JaO f6 f5 (by rw[ho,ht];rfl);rw[ho]at this;exact this
   have h9:Hid ((∀q,q<i->JQ (Qq L i) (Qq L q)=aa)->(∀q,q<L.length->Y5 (Qq L i) (Qq L q)=aa)->∀j,j<i+1->r9 L j=aa/\H7 L j=aa):=fun h1 h2 j hj=>by
    by_cases e:j=i
    ·rw[e];exact⟨Jbk h1,Jaw h2⟩
    ·exact f5 j (by omega)
   subst g2;clear hB f5;generalize Qq L i=x at *;obtain⟨xw,H,J,⟨B,D⟩,O,U,xb⟩:=x;dsimp only at b0 b1 b2 b3 b4 b5 b6 b7;obtain⟨I,g3⟩:∃I,I=w1.alloc (.cells #[.int .i64 xw,.bool H,.bool J,.int .i64 B,.int .i64 D,.string O,.int .i64 U,.int .i64 xb] 41):=⟨_,rfl⟩;have k2:ab w1.heap.size w1 I:=x8 g3;have e6:I.heap[w1.heap.size]?=af (.cells #[.int .i64 xw,.bool H,.bool J,.int .i64 B,.int .i64 D,.string O,.int .i64 U,.int .i64 xb] 41 (0,0)):=by
    rw[g3];show(w1.heap.push _)[w1.heap.size]?=_;simp
   have d9:Hid (ab K.heap.size K I):=HB.out.trans (k2.mono HB.out.size);have h0:Hid (∀W,ab I.heap.size I W->W.heap[w1.heap.size]?=af (.cells #[.int .i64 xw,.bool H,.bool J,.int .i64 B,.int .i64 D,.string O,.int .i64 U,.int .i64 xb] 41 (0,0))):=fun W hW=>(hW.block _ (by rw[g3];simp)).trans e6
   have m9:Hid (I=w1.alloc (.cells #[.int .i64 xw,.bool H,.bool J,.int .i64 B,.int .i64 D,.string O,.int .i64 U,.int .i64 xb] 41)):=g3;clear g3 k2 e6;go_wp2_with (first|rw[<-m9.out]|fail)
   go_loopw [5] (fun z wr=>∃q:Nat,q<=i/\z=.int .i64 q/\(∀j,j<q->JQ ⟨xw,H,J,(B,D),O,U,xb⟩ (Qq L j)=aa)/\ab I.heap.size I wr) (fun z _=>i-(intOf z).toNat)
   case atStart=>exact⟨0,ah _,rfl,fun j hj=>absurd hj (ak _),Below.refl _ _⟩
   case round =>
    obtain⟨q,hq,rfl,k3,g4⟩:=hrel;have f7:Hid (∀j,j<q->JQ ⟨xw,H,J,(B,D),O,U,xb⟩ (Qq L j)=aa):=k3;clear k3;obtain⟨w3,rfl⟩:∃w3,w3=wr:=⟨_,rfl⟩;by_cases e8:q<i
    ·obtain⟨_,_,g2,n0,a0,a1,a2,a3,a4,a5,a6,a7⟩:=qX ((HR.out.below d9.out).below g4) (Nat.lt_trans e8 f6);cases g2;have k4:JQ ⟨xw,H,J,(B,D),O,U,xb⟩ (Qq L q)=T->r8 L=(10,(i:Int)):=h7.out q e8;have k5:JQ ⟨xw,H,J,(B,D),O,U,xb⟩ (Qq L q)=aa->∀j,j<q+1->JQ ⟨xw,H,J,(B,D),O,U,xb⟩ (Qq L j)=false:=fun h j hj=>by
      by_cases e:j=q
      ·rw[e];exact h
      ·exact f7.out j (by omega)
     have i0:Hid (JQ ⟨xw,H,J,(B,D),O,U,xb⟩ (Qq L q)=T->r8 L=(10,(i:Int))):=k4;have i1:Hid (JQ ⟨xw,H,J,(B,D),O,U,xb⟩ (Qq L q)=aa->∀j,j<q+1->JQ ⟨xw,H,J,(B,D),O,U,xb⟩ (Qq L j)=aa):=k5;clear k4 k5;generalize Qq L q=y at *;obtain⟨yw,yp,yf,⟨Z,y2⟩,yt,ya,yb⟩:=y;dsimp only at a0 a1 a2 a3 a4 a5 a6 a7;obtain⟨w4,e3⟩:∃w4,w4=w3.alloc (.cells #[.int .i64 yw,.bool yp,.bool yf,.int .i64 Z,.int .i64 y2,.string yt,.int .i64 ya,.int .i64 yb] 41):=⟨_,rfl⟩;have g5:ab w3.heap.size w3 w4:=x8 e3;have f8:w4.heap[w3.heap.size]?=af (.cells #[.int .i64 yw,.bool yp,.bool yf,.int .i64 Z,.int .i64 y2,.string yt,.int .i64 ya,.int .i64 yb] 41 (0,0)):=by
      rw[e3];show(w3.heap.push _)[w3.heap.size]?=_;simp
     have a8:Hid (ab I.heap.size I w4):=g4.trans (g5.mono g4.size);obtain⟨c0,c1,c2,c3,c4,c5,c6,c7⟩:=Zm f8;obtain⟨d0,d1,d2,d3,d4,d5,d6,d7⟩:=Zm (h0.out w4 a8.out);have d8:Hid (w4=w3.alloc (.cells #[.int .i64 yw,.bool yp,.bool yf,.int .i64 Z,.int .i64 y2,.string yt,.int .i64 ya,.int .i64 yb] 41)):=e3;have k6:Hid (∀W,ab w4.heap.size w4 W->W.heap[w3.heap.size]?=af (.cells #[.int .i64 yw,.bool yp,.bool yf,.int .i64 Z,.int .i64 y2,.string yt,.int .i64 ya,.int .i64 yb] 41 (0,0))):=fun W hW=>(hW.block _ (by rw[e3];simp)).trans f8
     clear e3 g5 f8 b0 b1 b2 b3 b4 b5 b6 b7 c0 c5 c6 d0 d5 d7;by_cases a9:JQ ⟨xw,H,J,(B,D),O,U,xb⟩ ⟨yw,yp,yf,(Z,y2),yt,ya,yb⟩=T
     ·have HF:Hid (r8 L=(10,(i:Int))):=i0.out a9;obtain⟨h1,rfl,i2⟩:¬U<yb/\yf=T/\(J=aa∨Qd (B,D) (Z,y2)=T∨(H=T/\(B,D)=(Z,y2))):=JbC a9;have i3:Hid (ab K.heap.size K w4):=d9.out.trans (a8.out.mono d9.out.size);clear i0 i1 f7 h7 h8 h9 a9;cases J with
      |false =>
       clear i2;obtain⟨⟨r1,r2,f1,f2⟩,e0⟩:=e5.out w4 (i3.out);have e9:Hid (ab w.heap.size w w4):=e0;clear e0 e5;go_wp2_with (first|rw[<-d8.out]|fail)
       rw[HF.out];refine ag (v:=.agg #[.int .i64 10,.int .i64 (i:Int)]) (by simp[ar,results13,go_sem,r1,r2]) rfl ⟨rfl,?_⟩;exact(e9.out.setCell (ae _) _).setCell (ae _) _
      |true =>
       have i4:Hid (Qd (B,D) (Z,y2)=T∨(H=T/\(B,D)=(Z,y2))):=i2.resolve_left (fun h=>by cases h);have h4:=g9.out (B,D) (Z,y2);clear i2 g9;generalize Qd (B,D) (Z,y2)=ls at *;go_wp2_with (first|rw[<-d8.out]|fail)
       refine(h4 _).mono ?_;rintro e w5 ⟨rfl,f3⟩;have f4:Hid (ab I.heap.size I w5):=a8.out.trans (f3.mono a8.out.size);clear c1 c2 c3 c4 c7 d1 d2 d3 d4 d6 h4;obtain⟨c0,c1,c2,c3,c4,c5,c6,c7⟩:=Zm (k6.out w5 f3);obtain⟨d0,d1,d2,d3,d4,d5,d6,d7⟩:=Zm (h0.out w5 f4.out);clear c0 c5 c6 d0 d5 d7 f3;have k7:Hid (ab K.heap.size K w5):=d9.out.trans (f4.out.mono d9.out.size);cases ls with
       |true =>
        clear i4;obtain⟨⟨r1,r2,f1,f2⟩,e0⟩:=e5.out w5 (k7.out);have e9:Hid (ab w.heap.size w w5):=e0;clear e0 e5;go_wp2;rw[HF.out];refine ag (v:=.agg #[.int .i64 10,.int .i64 (i:Int)]) (by simp[ar,results13,go_sem,r1,r2]) rfl ⟨rfl,?_⟩;exact(e9.out.setCell (ae _) _).setCell (ae _) _
       |false =>
        obtain⟨rfl,h2⟩:=i4.out.resolve_left (fun h=>by cases h);injection h2 with e1 e2
        subst e1 e2;clear i4;obtain⟨⟨r1,r2,f1,f2⟩,e0⟩:=e5.out w5 (k7.out);have e9:Hid (ab w.heap.size w w5):=e0;clear e0 e5;go_wp2;rw[HF.out];refine ag (v:=.agg #[.int .i64 10,.int .i64 (i:Int)]) (by simp[ar,results13,go_sem,r1,r2]) rfl ⟨rfl,?_⟩;exact(e9.out.setCell (ae _) _).setCell (ae _) _
     have a9:JQ ⟨xw,H,J,(B,D),O,U,xb⟩ ⟨yw,yp,yf,(Z,y2),yt,ya,yb⟩=false:=by simpa using a9
     have g6:Hid (∀j,j<q+1->JQ ⟨xw,H,J,(B,D),O,U,xb⟩ (Qq L j)=aa):=i1.out a9;have b8:=TR a9;dsimp only at b8;clear i0 i1 f7 a9;by_cases h1:U<yb
     ·clear b8;go_wp2_with (first|rw[<-d8.out]|fail)
      go_roundw
      case rel=>exact⟨q+1,e8,rfl,g6.out,a8.out⟩
      case measure=>simp[intOf];omega
     cases yf with
     |false =>
      clear b8;go_wp2_with (first|rw[<-d8.out]|fail)
      go_roundw
      case rel=>exact⟨q+1,e8,rfl,g6.out,a8.out⟩
      case measure=>simp[intOf];omega
     |true =>
      obtain⟨rfl,l0,l7⟩:J=T/\Qd (B,D) (Z,y2)=aa/\(H=aa∨(B,D)≠(Z,y2)):=by
       rcases b8 with h|h|h
       ·exact absurd h h1
       ·cases h
       ·exact h
      have h4:Hid (∀W,az prog 26 #[.agg #[.int .i64 B,.int .i64 D],.agg #[.int .i64 Z,.int .i64 y2]] W fun e w'=>e=.returned (.bool aa)/\ab W.heap.size W w'):=fun W=>by
       have:=g9.out (B,D) (Z,y2) W;rw[l0]at this;exact this
      have n1:Hid (H=aa∨(B,D)≠(Z,y2)):=l7;clear b8 l7 l0;go_wp2_with (first|rw[<-d8.out]|fail)
      refine(h4.out _).mono ?_;rintro e w5 ⟨rfl,f3⟩;have f4:Hid (ab I.heap.size I w5):=a8.out.trans (f3.mono a8.out.size);clear c1 c2 c3 c4 c7 d1 d2 d3 d4 d6;obtain⟨c0,c1,c2,c3,c4,c5,c6,c7⟩:=Zm (k6.out w5 f3);obtain⟨d0,d1,d2,d3,d4,d5,d6,d7⟩:=Zm (h0.out w5 f4.out);clear c0 c5 c6 d0 d5 d7 f3;cases H with
      |false =>
       go_wp2;go_roundw
       case rel=>exact⟨q+1,e8,rfl,g6.out,f4.out⟩
       case measure=>simp[intOf];omega
      |true =>
       have i5:¬(B=Z/\D=y2):=by
        rcases n1.out with h|h
        ·cases h
        ·exact fun h2=>h (by rw[h2.1,h2.2])
       by_cases e1:B=Z
       ·subst e1;have e2:¬D=y2:=fun h=>i5 ⟨rfl,h⟩
        clear i5;go_wp2;go_roundw
        case rel=>exact⟨q+1,e8,rfl,g6.out,f4.out⟩
        case measure=>simp[intOf];omega
       ·clear i5;go_wp2;go_roundw
        case rel=>exact⟨q+1,e8,rfl,g6.out,f4.out⟩
        case measure=>simp[intOf];omega
    ·obtain rfl:q=i:=by omega
     have n2:Hid (ab I.heap.size I w3):=g4;have i8:Hid (∀u,u<L.length->Y5 ⟨xw,H,J,(B,D),O,U,xb⟩ (Qq L u)=T->r8 L=(5,(q:Int))):=h8.out f7.out;have i9:Hid ((∀u,u<L.length->Y5 ⟨xw,H,J,(B,D),O,U,xb⟩ (Qq L u)=aa)->∀j,j<q+1->r9 L j=aa/\H7 L j=aa):=h9.out f7.out;clear h7 h8 h9 f7;clear g4 hq b0 b1 b2 b3 b4 b5 b6 b7;go_wp2;go_loopw [7] (fun z wr=>∃r:Nat,r<=L.length/\z=.int .i64 r/\(∀j,j<r->Y5 ⟨xw,H,J,(B,D),O,U,xb⟩ (Qq L j)=aa)/\ab I.heap.size I wr) (fun z _=>L.length-(intOf z).toNat)
     case atStart=>exact⟨0,ah _,rfl,fun j hj=>absurd hj (ak _),n2.out⟩
     case round =>
      obtain⟨r,hr,rfl,l9,g7⟩:=hrel;have g8:Hid (∀j,j<r->Y5 ⟨xw,H,J,(B,D),O,U,xb⟩ (Qq L j)=aa):=l9;clear l9;obtain⟨w6,rfl⟩:∃w6,w6=wr:=⟨_,rfl⟩;by_cases e7:r<L.length
      ·obtain⟨_,_,g2,n0,a0,a1,a2,a3,a4,a5,a6,a7⟩:=qX ((HR.out.below d9.out).below g7) e7;cases g2;have j0:Hid (Y5 ⟨xw,H,J,(B,D),O,U,xb⟩ (Qq L r)=T->r8 L=(5,(q:Int))):=i8.out r e7;have j1:Hid (Y5 ⟨xw,H,J,(B,D),O,U,xb⟩ (Qq L r)=aa->∀j,j<r+1->Y5 ⟨xw,H,J,(B,D),O,U,xb⟩ (Qq L j)=aa):=fun h j hj=>by
        by_cases e:j=r
        ·rw[e];exact h
        ·exact g8.out j (by omega)
       generalize Qq L r=y at *;obtain⟨yw,yp,yf,⟨Z,y2⟩,yt,ya,yb⟩:=y;dsimp only at a0 a1 a2 a3 a4 a5 a6 a7;obtain⟨w4,e3⟩:∃w4,w4=w6.alloc (.cells #[.int .i64 yw,.bool yp,.bool yf,.int .i64 Z,.int .i64 y2,.string yt,.int .i64 ya,.int .i64 yb] 41):=⟨_,rfl⟩;have g5:ab w6.heap.size w6 w4:=x8 e3;have f8:w4.heap[w6.heap.size]?=af (.cells #[.int .i64 yw,.bool yp,.bool yf,.int .i64 Z,.int .i64 y2,.string yt,.int .i64 ya,.int .i64 yb] 41 (0,0)):=by
        rw[e3];show(w6.heap.push _)[w6.heap.size]?=_;simp
       have a8:Hid (ab I.heap.size I w4):=g7.trans (g5.mono g7.size);obtain⟨c0,c1,c2,c3,c4,c5,c6,c7⟩:=Zm f8;obtain⟨d0,d1,d2,d3,d4,d5,d6,d7⟩:=Zm (h0.out w4 a8.out);have d8:Hid (w4=w6.alloc (.cells #[.int .i64 yw,.bool yp,.bool yf,.int .i64 Z,.int .i64 y2,.string yt,.int .i64 ya,.int .i64 yb] 41)):=e3;clear e3 g5 f8 c0 c2 c6 c7 d0 d6 d7;by_cases a9:Y5 ⟨xw,H,J,(B,D),O,U,xb⟩ ⟨yw,yp,yf,(Z,y2),yt,ya,yb⟩=T
       ·have HF:Hid (r8 L=(5,(q:Int))):=j0.out a9;obtain⟨rfl,rfl,rfl,h2,h3⟩:H=aa/\J=T/\yp=T/\(Z,y2)=(B,D)/\yt≠O:=Jca a9;injection h2 with e1 e2
        subst e1 e2;have e4:=YT h3;have i3:Hid (ab K.heap.size K w4):=d9.out.trans (a8.out.mono d9.out.size);clear j0 j1 g8 i8 i9 a9 h3;obtain⟨⟨r1,r2,f1,f2⟩,e0⟩:=e5.out w4 (i3.out);have e9:Hid (ab w.heap.size w w4):=e0;clear e0 e5;go_wp2_with (first|rw[<-d8.out]|fail)
        rw[HF.out];refine ag (v:=.agg #[.int .i64 5,.int .i64 (q:Int)]) (by simp[ar,results13,go_sem,r1,r2]) rfl ⟨rfl,?_⟩;exact(e9.out.setCell (ae _) _).setCell (ae _) _
       have a9:Y5 ⟨xw,H,J,(B,D),O,U,xb⟩ ⟨yw,yp,yf,(Z,y2),yt,ya,yb⟩=false:=by simpa using a9
       have f9:Hid (∀j,j<r+1->Y5 ⟨xw,H,J,(B,D),O,U,xb⟩ (Qq L j)=aa):=j1.out a9;have b8:=PW a9;dsimp only at b8;clear j0 j1 g8 a9;cases H with
       |true =>
        clear b8;go_wp2_with (first|rw[<-d8.out]|fail)
        go_roundw
        case rel=>exact⟨r+1,e7,rfl,f9.out,a8.out⟩
        case measure=>simp[intOf];omega
       |false =>
       cases J with
       |false =>
        clear b8;go_wp2_with (first|rw[<-d8.out]|fail)
        go_roundw
        case rel=>exact⟨r+1,e7,rfl,f9.out,a8.out⟩
        case measure=>simp[intOf];omega
       |true =>
       cases yp with
       |false =>
        clear b8;go_wp2_with (first|rw[<-d8.out]|fail)
        go_roundw
        case rel=>exact⟨r+1,e7,rfl,f9.out,a8.out⟩
        case measure=>simp[intOf];omega
       |true =>
       by_cases e1:Z=B
       ·by_cases e2:y2=D
        ·subst e1;subst e2;obtain rfl:yt=O:=by
          rcases b8 with h|h|h|h|h
          ·cases h
          ·cases h
          ·cases h
          ·exact absurd rfl h
          ·exact h
         clear b8;go_wp2_with (first|rw[<-d8.out]|fail)
         go_roundw
         case rel=>exact⟨r+1,e7,rfl,f9.out,a8.out⟩
         case measure=>simp[intOf];omega
        ·subst e1;clear b8;go_wp2_with (first|rw[<-d8.out]|fail)
         go_roundw
         case rel=>exact⟨r+1,e7,rfl,f9.out,a8.out⟩
         case measure=>simp[intOf];omega
       ·clear b8;go_wp2_with (first|rw[<-d8.out]|fail)
        go_roundw
        case rel=>exact⟨r+1,e7,rfl,f9.out,a8.out⟩
        case measure=>simp[intOf];omega
      ·have n3:Hid (ab I.heap.size I w6):=g7;have n4:Hid (∀j,j<q+1->r9 L j=aa/\H7 L j=aa):=i9.out fun j hj=>g8.out j (by omega)
       clear g7 i8 i9 g8;go_wp2;go_roundw
       case rel=>exact⟨q+1,f6,rfl,n4.out,d9.out.trans (n3.out.mono d9.out.size)⟩
       case measure=>simp[intOf];omega
  ·obtain rfl:i=L.length:=by omega
   have m0:Hid (ab K.heap.size K w1):=hB;have HF:Hid (r8 L=(0,-1)):=JaL f5;clear hB f5 HR g9;go_wp2_with fail
   refine(m8.out _).mono ?_;rintro e I ⟨rfl,m4⟩;have j2:ab K.heap.size K I:=m0.out.trans (m4.mono m0.out.size);have e6:=(j2.block _ m7.out).trans m5.out;have d9:Hid (ab w.heap.size w I):=k0.out.trans (j2.mono k0.out.size);have r1:I.cell? ⟨w.heap.size,0,N⟩=af (.int .i64 0):=by simp[World.cell?,e6]
   have r2:I.cell? ⟨w.heap.size,1,N⟩=af (.int .i64 0):=by simp[World.cell?,e6]
   have f1:I.frozen? ⟨w.heap.size,0,N⟩=false:=by simp[World.frozen?,e6]
   have f2:I.frozen? ⟨w.heap.size,1,N⟩=false:=by simp[World.frozen?,e6]
   clear j2 m4 e6;go_wp2;rw[HF.out];refine ag (v:=.agg #[.int .i64 0,.int .i64 (-1)]) (by simp[ar,results13,go_sem,r1,r2]) rfl ⟨rfl,?_⟩;exact(d9.out.setCell (ae _) _).setCell (ae _) _
section
section
variable {ad:Nat->Addr} {X:World->Prop} {Wd:Nat->Nat->World->Nat->Nat->(Nat->Prop)->Ya->Prop}
theorem Jbf (hW:Jan ad X Wd)(hE:∀W,Zp W ad->X W->W.cell? ⟨0,0,N⟩=af (.iface 335 (.pointer (af (ad 9)))))(L:List Ev)(p:Option Addr)(cap:Nat)(w:World)
 (hL:L.length<=9223372036854775807) (hr:Ql XI w p L) (hx:∀x∈L,x.text.size<=9223372036854775807) (hS:O0 w ad)
 (hX:∀W:World,w.heap.size<=W.heap.size->(∀j,j<w.heap.size->W.heap[j]?=w.heap[j]?)->Zp W ad/\X W):
 az prog 4 #[.slice p L.length cap] w fun e w'=>e=.returned (.bool T)/\ab w.heap.size w w':=by
 have d9:=JbF hW hE w hX;have HR:Hid (Ql XI w p L):=hr;have a9:Hid (∀W,ab w.heap.size w W->O0 W ad):=fun W hW=>hS.dI hW.block
 have b0:Hid (∀W,ab w.heap.size w W->W.cell? ⟨0,0,N⟩=af (.iface 335 (.pointer (af (ad 9))))/\W.cell? ⟨1,0,N⟩=af (.iface 335 (.pointer (af (ad 4))))):=fun W hB=>⟨(hS.dI hB.block).c9,(hS.dI hB.block).c4⟩
 have b1:Hid (∀i,i<L.length->(Qq L i).text.size<=9223372036854775807):=fun i hi=>hx _ (Jbq hi)
 clear hW hE hr hx hS hX;go_enter func4,ntmps4;go_wp2_with fail
 refine d9.mono ?_;rintro e w1 ⟨rfl,e0⟩;have b2:Hid (ab w.heap.size w w1):=e0;clear e0 d9;by_cases f5:40<L.length
 ·have f6:(40:Int)<(L.length:Int):=by omega
  go_wp2;go_ret;exact⟨rfl,b2.out⟩
 have f6:¬(40:Int)<(L.length:Int):=by omega
 have g4:L.length<=40:=by omega
 clear f5;go_wp2_with fail
 go_loopw [4,5] (fun v x wr=>∃i:Nat,i<=L.length/\x=.int .i64 i/\Zc XI 42 wr w.heap.size v (L.take i)/\ab w.heap.size w wr) (fun _ x _=>L.length-(intOf x).toNat)
 case atStart=>exact⟨0,ah _,rfl,Zc.nil _ _ _,b2.out⟩
 case round =>
  obtain⟨i,hi,rfl,hO,hB⟩:=hrel;obtain⟨D,rfl⟩:∃D,D=wr:=⟨_,rfl⟩;obtain⟨pv,cv,rfl,e1,e2,_,_⟩:=hO.form;have HO:Hid (Zc XI 42 D w.heap.size (.slice pv (L.take i).length cv) (L.take i)):=hO;have J:Hid (ab w.heap.size w D):=hB;have a3:Hid (Ql XI D pv (L.take i)/\(L.take i).length<=cv):=⟨e1,e2⟩;have f7:(L.take i).length<=40:=by rw[aj];omega
  clear hO e1 e2 b2;by_cases a7:i<L.length
  ·have HT:Hid (L.take (i+1)=L.take i++ [Qq L i]):=by show _=_;rw[List.take_succ_eq_append_getElem a7,nF a7]
   obtain⟨b,o,f8,g5,d0,d1,d2,d3,d4,d5,d6,d7⟩:=qX (HR.out.below hB) a7;subst f8;have f9:=b1.out i a7;clear hB b1 HR b0 a9 a3;generalize Qq L i=x at *;generalize L.take i=done at *;obtain⟨K,O,U,⟨Z,x2⟩,I,xa,xb⟩:=x;dsimp only at d0 d1 d2 d3 d4 d5 d6 d7 f9;obtain⟨B,a4⟩:∃B,B=D.alloc (.cells #[.int .i64 K,.bool O,.bool U,.int .i64 Z,.int .i64 x2,.string I,.int .i64 xa,.int .i64 xb] 41):=⟨_,rfl⟩;have b3:B.heap[D.heap.size]?=af (.cells #[.int .i64 K,.bool O,.bool U,.int .i64 Z,.int .i64 x2,.string I,.int .i64 xa,.int .i64 xb] 41 (0,0)):=by
    rw[a4];show(D.heap.push _)[D.heap.size]?=_;simp
   have a8:ab D.heap.size D B:=x8 a4;have a0:Hid (ab w.heap.size w B):=J.out.trans (a8.mono J.out.size);obtain⟨c0,c1,c2,c3,c4,c5,c6,c7⟩:=Zm b3;have e3:Hid (B=D.alloc (.cells #[.int .i64 K,.bool O,.bool U,.int .i64 Z,.int .i64 x2,.string I,.int .i64 xa,.int .i64 xb] 41)):=a4;by_cases ht:100<I.size
   ·have g0:(100:Int)<(I.size:Int):=by omega
    clear a4 b3 a8 ht;go_wp2_with (first|rw[<-e3.out]|fail)
    go_ret;exact⟨rfl,a0.out⟩
   ·have g0:¬(100:Int)<(I.size:Int):=by omega
    obtain⟨H,a5⟩:∃H,H=B.alloc (.cells #[.int .i64 K,.bool O,.bool U,.int .i64 Z,.int .i64 x2,.string I,.int .i64 xa,.int .i64 xb] 42):=⟨_,rfl⟩;have b4:ab B.heap.size B H:=x8 a5;have g1:Hid (∀j u,(XI.enc ⟨K,O,U,(Z,x2),I,xa,xb⟩)[j]?=af u->H.cell? ⟨B.heap.size,0+j,N⟩=af u):=fun j u hj=>by
     rw[a5,World.cell?_alloc_at _ _ _ _ rfl,Nat.zero_add];simpa[XI,oH]using hj
    have g2:Hid (H=B.alloc (.cells #[.int .i64 K,.bool O,.bool U,.int .i64 Z,.int .i64 x2,.string I,.int .i64 xa,.int .i64 xb] 42)):=a5;have e4:Hid (Zc XI 42 H w.heap.size (.slice pv done.length cv) done):=(HO.out.kept a8).kept b4;have a2:Hid (ab w.heap.size w H):=a0.out.trans (b4.mono a0.out.size);have e5:Hid (w.heap.size<=H.heap.size/\B.heap.size<H.heap.size):=⟨a2.out.size,by rw[a5];simp⟩;clear a4 b3 a8 ht a5 b4 HO J a0;go_wp2_with (first|rw[<-e3.out]|rw[<-g2.out]|(at_builtin;refine wJ (E:=XI) rfl (.tmp 30) (.tmp 46) 34 42 rfl (.agg #[.int .i64 0,.bool aa,.bool aa,.int .i64 0,.int .i64 0,.string ⟨#[]⟩,.int .i64 0,.int .i64 0]) 64 underlying34 DC rfl w.heap.size (.slice pv done.length cv) done rfl e4.out B.heap.size 0 1 ⟨K,O,U,(Z,x2),I,xa,xb⟩ rfl g1.out (by unfold maxLen;omega) (by omega) e5.out.1 e5.out.2 ?_;intro v5 w5 e6 a6))
    have g3:Hid (Zc XI 42 w5 w.heap.size v5 (done++ [⟨K,O,U,(Z,x2),I,xa,xb⟩])):=e6;have b5:Hid (ab w.heap.size w w5):=a2.out.trans a6;clear e6 a6 e4 a2 d0 d1 d2 d3 d4 d5 d6 d7 c0 c1 c2 c3 c4 c5 c6 c7;go_wp2;go_roundw
    case rel=>exact⟨i+1,by omega,by go_num,by rw[HT.out];exact g3.out,b5.out⟩
    case measure=>simp[intOf];omega
  ·have e7:i=L.length:=by omega
   have HT:Hid (L.take i=L):=by show _=_;rw[e7,List.take_length]
   rw[HT.out]at a3 ⊢;have b6:=Ja1 ad L pv cv D a3.out.1 a3.out.2 (by omega) (fun V hV=>b0.out V (J.out.trans (hV.mono J.out.size)));have b7:Hid (∀W,ab D.heap.size D W->az prog 13 #[.slice p L.length cap] W fun e w'=>e=.returned (.agg #[.int .i64 (r8 L).1,.int .i64 (r8 L).2])/\ab W.heap.size W w'):=fun W hW=>JbD L p cap W ((HR.out.below J.out).below hW) (by omega)
   generalize r8 L=F at *;obtain⟨fc,fa⟩:=F;dsimp only at b6 b7;clear e7 HT f7 HO a3 b0 b1 HR hB;generalize L.length=n at *;go_wp2_with fail
   refine b6.mono ?_;rintro e B ⟨⟨ev,rfl,e8⟩,b8⟩;have a0:Hid (ab w.heap.size w B):=J.out.trans (b8.mono J.out.size);have e9:Hid (Jd B ad ev fc fa):=e8;have f3:=b7.out B b8;clear b8 e8 b6 b7;go_wp2_with fail
   refine f3.mono ?_;rintro e H ⟨rfl,d8⟩;have a2:Hid (ab w.heap.size w H):=a0.out.trans (d8.mono a0.out.size);have f4:=Jbp ad ev fc fa H (a9.out H a2.out) (e9.out.below d8);clear d8 f3 e9 a9;go_wp2_with fail
   refine f4.mono ?_;rintro e w5 ⟨rfl,a6⟩;have b5:Hid (ab w.heap.size w w5):=a2.out.trans (a6.mono a2.out.size);clear a6 f4;go_wp2;go_ret;exact⟨rfl,b5.out⟩
end
end
theorem Jbx:(Rows.playTellsRow.inPlace==prog.inPlace 4)=true:=by kernel_rfl
theorem Ja9:(Rows.playTellsRow.unfollowed==prog.unfollowed 4)=true:=by kernel_rfl
theorem Jbs:(Rows.playTellsRow.recurses==prog.recurses 4)=true:=by kernel_rfl
theorem JbZ:(Rows.playTellsRow.named==prog.varsNamed 4)=true:=by kernel_rfl
theorem Jcu:joinedFacts prog 4 f4 Rows.playTellsSpec Rows.playTellsRow=true:=by
 unfold joinedFacts;rw[Jbx,Ja9,Jbs,JbZ]
 kernel_rfl
end Go.Proofs.YtfgapcknnoeplaaGreatDoor

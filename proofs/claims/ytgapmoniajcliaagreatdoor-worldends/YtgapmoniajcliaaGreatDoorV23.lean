/- Texts laid together. -/
import Derived.Test.YtgapmoniajcliaaGreatDoorV17
import Derived.Test.YtgapmoniajcliaaGreatDoorV21
import Derived.JoinedOf
set_option maxRecDepth 10000
set_option maxHeartbeats 4000000
open Option renaming none->aa,some->ab
open Bool renaming false->F,true->ai
open Go renaming Calls->ac,Addr->aq
open Go.RowKit renaming Below->ae
open List renaming take_of_length_le->af,length_append->ag,replicate->ak
open Nat renaming zero_le->ah,not_lt_zero->aj,lt_of_lt_of_le->al,le_refl->ap,le_trans->ax
namespace Go.Proofs.YtgapmoniajcliaaGreatDoor
open Go.Proofs.Tryz
open Go.RowKit
variable {l T:List ByteArray}{n k B h t who i:Nat}{w:World}{S:Nat->Prop}{m:Ya}{text:ByteArray}
section
open Ring
def Jbd (ad:Nat->aq)(I:Nat->Nat->World->Nat->Nat->(Nat->Prop)->Ya->Prop)(n k B h:Nat)(S:Nat->Prop)(r:Ya×Int)(w:World)(e:Ending)(w':World):Prop :=
 (∃D,e=.returned D/\Jd w' ad D r.2 (-1))/\∃H,I n k w' B h H r.1/\Yd S H w w'
def Jaq (ad:Nat->aq)(X:World->Prop)(w:World)(S:Nat->Prop):Prop:=∀W:World,w.heap.size<=W.heap.size->(∀k,k<w.heap.size->¬S k->W.heap[k]?=w.heap[k]?)->Zp W ad/\X W
def Jcb (n k:Nat)(l:List ByteArray)(m m':Ya):Prop:=m'=m∨∃c,m'=m.dS l c/\m.mover=aa/\XS n k c/\(∀x∈c.L,x∈l)/\∀x∈l,YN x=aa/\x≠J8
theorem JaX {n k:Int}(h:¬0<(Zr l n k).1):∀x∈l,YN x=aa/\x≠J8:=fun x D=>by
 have H:¬0<(Xj l).1:=fun B=>h (by unfold Zr;rw[if_pos B];exact B)
 have I:¬iJ l<l.length:=fun B=>h (by unfold Zr;rw[if_neg H,if_pos B];show(0:Int)<6;decide)
 have B:Yz x=false:=by
  cases e:Yz x with
  |false=>rfl
  |true=>exact absurd (List.findIdx_lt_length_of_exists (p:=Yz) ⟨x,D,e⟩) I
 unfold Yz at B;rw[Bool.or_eq_false_iff]at B;exact⟨by simpa using B.2,of_decide_eq_false B.1⟩
structure Jae (ad:Nat->aq) (X:World->Prop) (Wd:Nat->Nat->World->Nat->Nat->(Nat->Prop)->Ya->Prop):Prop where
 dH:∀{n k w B h S m},Wd n k w B h S m->∀j,S j->B<=j/\j<w.heap.size
 aS:∀{n k w w' B h S m},Wd n k w B h S m->w.heap.size<=w'.heap.size->(∀j,S j->w'.heap[j]?=w.heap[j]?)->Wd n k w' B h S m
 born:∀w:World,Zp w ad->X w->ac prog 4 #[] w fun e w'=>e=.returned (.bool ai)/\ae w.heap.size w w'
 new:∀(l:List ByteArray) (n k:Int) (p:Option aq) (cap:Nat) (w:World),Strs w p l->l.length<=cap->(p=aa->l=[]/\cap=0)->l.length<=30->(∀x∈l,x.size<=100)->Zt n->Zt k->Zp w ad->X w->ac prog 6 #[.slice p l.length cap,.int .i64 n,.int .i64 k] w fun e w'=>((0<(Zr l n k).1/\∃ev,e=.returned (.tuple #[.pointer aa,ev])/\Jd w' ad ev (Zr l n k).1 (Zr l n k).2)∨(¬0<(Zr l n k).1/\∃h S c,e=.returned (.tuple #[.pointer (ab ⟨h,0,aa⟩),.nilIface])/\XC (Xy wX) l c.L/\XS n.toNat k.toNat c/\Wd n.toNat k.toNat w' w.heap.size h S (Ya.new l c)))/\ae w.heap.size w w'
 put:∀{n k w B h S m t} (who:Int) (text:ByteArray),Wd n k w B h S m->bP n k t m->t<=4000->text.size<=2000->Jaq ad X w S->ac prog 8 #[.pointer (ab ⟨h,0,aa⟩),.int .i64 who,.string text] w (Jbd ad Wd n k B h S (m.open_ who ai text) w)
 get:∀{n k w B h S m t} (who:Int),Wd n k w B h S m->bP n k t m->t<=4000->Jaq ad X w S->ac prog 11 #[.pointer (ab ⟨h,0,aa⟩),.int .i64 who] w (Jbd ad Wd n k B h S (m.open_ who F ⟨#[]⟩) w)
 aR:∀{n k w B h S m t} (i:Int),Wd n k w B h S m->bP n k t m->t<=4000->Jaq ad X w S->ac prog 20 #[.pointer (ab ⟨h,0,aa⟩),.int .i64 i] w (Jbd ad Wd n k B h S (m.aR i) w)
 change:∀{n k w B h S m t} (l:List ByteArray) (p:Option aq) (cap:Nat),Wd n k w B h S m->bP n k t m->t<=4000->Strs w p l->l.length<=cap->l.length<=30->(∀x∈l,x.size<=100)->Jaq ad X w S->ac prog 10 #[.pointer (ab ⟨h,0,aa⟩),.slice p l.length cap] w fun e w'=>(∃ev,e=.returned ev)/\∃S' m',Wd n k w' B h S' m'/\Yd S S' w w'/\WStep n k m m'/\Jcb n k l m m'
 events:∀{n k w B h S m},Wd n k w B h S m->ac prog 12 #[.pointer (ab ⟨h,0,aa⟩)] w fun e w'=>(∃p c,e=.returned (.slice p m.events.length c)/\Ql XI w' p m.events)/\ae w.heap.size w w'
 state:∀{n k w B h S m} (who:Int),Wd n k w B h S m->ac prog 13 #[.pointer (ab ⟨h,0,aa⟩),.int .i64 who] w fun e w'=>e=.returned (.string (m.state who))/\ae w.heap.size w w'
 jaf:∀{n k w B h S m},Wd n k w B h S m->ac prog 15 #[.pointer (ab ⟨h,0,aa⟩)] w fun e w'=>(∃p c,e=.returned (.slice p m.L.length c))/\ae w.heap.size w w'
 bO:∀{n k w B h S m},Wd n k w B h S m->m.L.length<=120
end
section
theorem Jbg {w:Ya}(h:w.L≠[]):(w.aR 0).2=0:=by
 unfold Ya.aR;have B:0<w.L.length:=List.length_pos_iff.2 h;rw[if_neg (by omega)]
theorem Jbt (w:Ya)(i:Nat):w.go (i+1)=((w.go i).aR 0).1:=by
 rw[Jag];rfl
theorem JaS {n k t:Nat}{m:Ya}(h:bP n k t m):∀i,bP n k (t+i) (m.go i)
 |0=>h
 |i+1=>by
  rw[Jbt];exact bP.step (t+i) _ _ (JaS h i) (WStep.aR _ 0)
section
variable {ad:Nat->aq} {X:World->Prop} {Wd:Nat->Nat->World->Nat->Nat->(Nat->Prop)->Ya->Prop}
theorem Jbh (J:Jae ad X Wd)(hw:Wd n k w B h S m)(hr:bP n k t m)(ht:t<=2000)(hE:Jaq ad X w S)(r:Nat)(b7:r<=100)(hL:(m.go r).L=[]):
 ac prog 9 #[.pointer (ab ⟨h,0,aa⟩)] w fun e w'=>e=.returned (.bool ai)/\∃D,Wd n k w' B h D (m.go r)/\Yd S D w w':=by
 obtain⟨q,b4,a6,a2,a7⟩:=JaY r m hL;rw[<-a7];have a3:Hid (∀i W D,i<q->Wd n k W B h D (m.go i)->Yd S D w W->ac prog 15 #[.pointer (ab ⟨h,0,aa⟩)] W fun e K=>∃p c f,e=.returned (.slice p f c)/\Hid (f≠0) /\
  ac prog 20 #[.pointer (ab ⟨h,0,aa⟩),.int .i64 0] K fun e W3=>e=.returned .nilIface/\Hid (∃O,Wd n k W3 B h O (m.go (i+1))/\Yd S O w W3)):=fun i W D hi H I=>(J.jaf H).mono fun e K hq=>by
  obtain⟨⟨p,c,e1⟩,U⟩:=hq;have b1:=J.aS H U.size (fun j Z=>U.block j (J.dH H j Z).2);have a0:Yd S D w K:=I.trans (Yd.aJ U);refine⟨p,c,_,e1,fun h0=>a2 i hi (List.length_eq_zero_iff.1 h0),?_⟩;refine(J.aR 0 b1 (JaS hr i) (by omega) (fun V hs hk=>hE V (ax a0.size hs) (fun j Z hn=>(hk j (al Z a0.size) (fun h=>by rcases a0.new j h with h|h;exact hn h;omega)).trans (a0.block j Z hn)))).mono fun e W3 hq=>?_
  obtain⟨⟨ev,e2,e3⟩,O,a8,b2⟩:=hq;rw[Jbg (a2 i hi)]at e3;rw[<-Jbt]at a8;exact⟨by rw[e2,e3.none (by decide)],O,a8,a0.trans b2⟩
 have a4:Hid (∀W D,Wd n k W B h D (m.go q)->Yd S D w W->ac prog 15 #[.pointer (ab ⟨h,0,aa⟩)] W fun e K=>∃p c,e=.returned (.slice p 0 c)/\Hid (∃O,Wd n k K B h O (m.go q)/\Yd S O w K)):=fun W D H I=>(J.jaf H).mono fun e K b3=>by
  obtain⟨⟨p,c,e1⟩,U⟩:=b3;rw[a6]at e1;exact⟨p,c,e1,D,J.aS H U.size (fun j Z=>U.block j (J.dH H j Z).2),I.trans (Yd.aJ U)⟩
 have a5:Hid (Wd n k w B h S (m.go 0)):=hw;clear J hw hr hE hL a6 a2 a7;go_enter func9,ntmps9;go_wp2_with fail
 go_loopw [3] (fun x wr=>∃i D,i<=q/\x=.int .i64 ((i:Nat):Int)/\Wd n k wr B h D (m.go i)/\Yd S D w wr) (fun x _=>q+1-(intOf x).toNat)
 case atStart=>exact⟨0,S,ah _,rfl,a5.out,Yd.aJ (Below.refl _ _)⟩
 case round =>
  obtain⟨i,D,hi,rfl,H,I⟩:=hrel;obtain⟨w3,rfl⟩:∃w3,w3=wr:=⟨_,rfl⟩;have b5:(i:Int)<1000:=by omega
  by_cases a9:i<q
  ·have HF:=a3.out i w3 D a9 H I;clear H I a3 a4 a5;go_wp2_with fail
   refine HF.mono ?_;rintro e w4 ⟨p,c,f,rfl,b0,HD⟩;have b0:¬(f:Int)=0:=by have:=b0.out;omega
   have b6:¬f=0:=by omega
   clear HF;go_wp2_with fail
   refine HD.mono ?_;rintro e w5 ⟨rfl,H5⟩;clear HD;obtain⟨S5,h5⟩:∃S5,Hid (Wd n k w5 B h S5 (m.go (i+1))/\Yd S S5 w w5):=H5.out;clear H5;go_wp2;go_roundw
   case rel=>exact⟨i+1,S5,a9,by go_num,h5.out.1,h5.out.2⟩
   case measure=>simp[intOf];omega
  ·obtain rfl:i=q:=by omega
   have HF:=a4.out w3 D H I;clear H I a3 a4 a5;go_wp2_with fail
   refine HF.mono ?_;rintro e w4 ⟨p,c,rfl,H4⟩;clear HF;go_wp2;go_ret;exact⟨rfl,H4.out⟩
end
end
section
open Ring
def Jai (n k:Nat)(m:Ya)(q:Nat)(top:Option ByteArray)(i c:Nat):Prop:=∃V B t,Jaj n k m V B/\JaT V top/\m.events.length=q/\B<=2*i/\m.aB.length<=c+1/\bP n k t m/\t<=60*i
section
variable {n k q i c:Nat} {m m':Ya} {top:Option ByteArray}
theorem Jai.run (h:Jai n k m q top i c)(I:i<=20):∃t,t<=1200/\bP n k t m:=by
 obtain⟨V,B,t,_,_,_,_,_,D,H⟩:=h;exact⟨t,by omega,D⟩
theorem Jai.new {cf:Xg}(B:XS n k cf)(H:∀x∈cf.L,x∈l)(I:∀x∈l,YN x=aa/\x≠J8):Jai n k (Ya.new l cf) 0 aa 0 0:=by
 have D:=Jaj.new B H I;refine⟨[],0,0,D,rfl,?_,ap _,?_,bP.new l cf B,ap _⟩
 ·have:=(bP.new l cf B).bV;omega
 ·unfold Ya.new;obtain⟨N,h,_⟩:=l3 l ⟨[],[],ak 6 aa,ak 6 0,ak 6 ⟨#[]⟩,aa,[cf],0,0,0,[]⟩;rw[h];exact ap _
theorem Jai.put (h:Jai n k m q top i c)(hi:i<=16)(hc:c<=8)(hw:who<6)(ht:text.size<=1000):
 (m.open_ who ai text).2=0/\∃r,r<=100/\((m.open_ who ai text).1.go r).L=[]/\Jai n k ((m.open_ who ai text).1.go r) (q+1) (ab text) (i+1) c:=by
 obtain⟨V,B,t,D,h2,I,h4,J,K,h7⟩:=h;have ha:=D.act;have hn:=D.nodes.iL.n12;obtain⟨O,U,e,H,Z,g4,g5,g6⟩:=D.jaQ (by omega) (by omega) hw ht;refine⟨O,_,by omega,H.L0,U,B+2,_,H,Z,by rw[g4,ag,I];rfl,by omega,by rw[g5];exact J,JaS (bP.step t m _ K (WStep.open_ m who ai text)) _,by omega⟩
theorem Jai.change (h:Jai n k m q top i c)(hi:i<=16)(hc:c<=8)(hs:WStep n k m m')(hm:Jcb n k l m m'):∃r,r<=100/\(m'.go r).L=[]/\Jai n k (m'.go r) q top (i+1) (c+1):=by
 obtain⟨V,B,t,D,H,I,h4,O,J,h7⟩:=h;have ha:=D.act;have hn:=D.nodes.iL.n12;rcases hm with rfl|⟨cf,rfl,_,U,Z,hl⟩
 ·exact⟨0,ah _,D.L0,V,B,t,D,H,I,by omega,Nat.le_succ_of_le O,J,by omega⟩
 ·obtain⟨r,V',g1,K,g3,g4,g5⟩:=D.aI (by omega) (by omega) H U Z hl;exact⟨r,by omega,K.L0,V',B+2,_,K,g3,by rw[g4];exact I,by omega,by rw[g5,ag];simp;omega,JaS (bP.step t m _ J hs) r,by omega⟩
theorem Jai.get (h:Jai n k m q top i c)(hi:i<=20)(hc:c<=8):(m.open_ 0 F ⟨#[]⟩).2=0/\∃r e,r<=100/\((m.open_ 0 F ⟨#[]⟩).1.go r).L=[]/\((m.open_ 0 F ⟨#[]⟩).1.go r).state 0=pQ/\((m.open_ 0 F ⟨#[]⟩).1.go r).events.length=q+1/\Qq ((m.open_ 0 F ⟨#[]⟩).1.go r).events q=e/\e.put=F/\e.found=top.isSome/\e.text=top.getD ⟨#[]⟩:=by
 obtain⟨V,B,t,I,K,J,h4,h5,h6,h7⟩:=h;have ha:=I.act;have hn:=I.nodes.iL.n12;obtain⟨O,r,e,g2,U,H,D,Z,g7,g8⟩:=I.jaK (who:=0) (by omega) (by omega) (by decide) K;refine⟨O,r,e,by omega,U,?_,?_,?_,Z,g7,g8⟩
 ·unfold Ya.state;rw[if_neg (by decide)];show(match Xf _ 0 with|none=>pQ|some a=>a.st.word)=pQ;have H:=H 0;rw[show((0:Nat):Int)=0 from rfl]at H;rw[H]
 ·have D:((m.open_ 0 F ⟨#[]⟩).1.go r).events=m.events++ [e]:=D;rw[D,ag,J];rfl
 ·have D:((m.open_ 0 F ⟨#[]⟩).1.go r).events=m.events++ [e]:=D;rw[D];unfold Qq;rw[List.getD_eq_getElem?_getD,List.getElem?_append_right (by omega),J,Nat.sub_self];rfl
end
end
section
open Ring
theorem Yd.jan {H:Nat->Prop}{w':World}(h:Yd S H w w')(hB:B<=w.heap.size)(I:∀j,S j->B<=j):ae B w w':=⟨h.os,h.tape,h.output,h.size,fun j J=>h.block j (by omega) (fun D=>by have:=I j D;omega)⟩
def StE (Wd:Nat->Nat->World->Nat->Nat->(Nat->Prop)->Ya->Prop)(n k:Nat)(w0:World)(h:Nat)(W:World)(q:Nat)(top:Option ByteArray)(i c:Nat):Prop:=∃B S m,Jai n k m q top i c/\Wd n k W B h S m/\w0.heap.size<=B/\ae w0.heap.size w0 W
section
variable {ad:Nat->aq} {X:World->Prop} {Wd:Nat->Nat->World->Nat->Nat->(Nat->Prop)->Ya->Prop} {n k h q i c:Nat} {top:Option ByteArray} {w0 W W':World}
theorem StE.below (J:Jae ad X Wd)(Z:StE Wd n k w0 h W q top i c)(D:ae W.heap.size W W'):StE Wd n k w0 h W' q top i c:=by
 obtain⟨B,S,m,K,H,O,I⟩:=Z;exact⟨B,S,m,K,J.aS H D.size (fun j U=>D.block j (J.dH H j U).2),O,I.trans (D.mono I.size)⟩
def JaD (ad:Nat->aq)(X:World->Prop)(w0:World):Prop:=∀W:World,w0.heap.size<=W.heap.size->(∀j,j<w0.heap.size->W.heap[j]?=w0.heap[j]?)->Zp W ad/\X W
theorem JaD.beside (K:JaD ad X w0)(O:Jae ad X Wd)(U:Wd n k W B h S m)(hB:w0.heap.size<=B)(D:ae w0.heap.size w0 W):Jaq ad X W S:=fun V I J=>K V (ax D.size I) (fun j H=>(J j (al H D.size) (fun h=>by have:=(O.dH U j h).1;omega)).trans (D.block j H))
theorem JaI (I:Jae ad X Wd)(hX:JaD ad X w0){r:Nat}(J:Wd n k W B h S m)(hB:w0.heap.size<=B)(K:ae w0.heap.size w0 W)(hr:bP n k t m)(ht:t<=2000)(a0:r<=100)(hL:(m.go r).L=[]):
 ac prog 9 #[.pointer (ab ⟨h,0,aa⟩)] W fun e D=>e=.returned (.bool ai)/\∃H,Wd n k D B h H (m.go r)/\ae w0.heap.size w0 D :=
 (Jbh I J hr ht (hX.beside I J hB K) r a0 hL).mono fun e D O=>by
  obtain⟨U,H,Z,h2⟩:=O;exact⟨U,H,Z,K.trans (h2.jan K.size (fun j hj=>by have:=(I.dH J j hj).1;omega))⟩
theorem StE.put (D:Jae ad X Wd)(hX:JaD ad X w0)(hs:StE Wd n k w0 h W q top i c)(hi:i<=16)(hc:c<=8)(a7:who<6)(ht:text.size<=60):
 ac prog 8 #[.pointer (ab ⟨h,0,aa⟩),.int .i64 (who:Int),.string text] W fun e H=>e=.returned .nilIface/\Hid (ae w0.heap.size w0 H)/\ac prog 9 #[.pointer (ab ⟨h,0,aa⟩)] H fun e U=>e=.returned (.bool ai)/\Hid (StE Wd n k w0 h U (q+1) (ab text) (i+1) c):=by
 obtain⟨B,S,m,Z,I,J,K⟩:=hs;obtain⟨t,a8,a0⟩:=Z.run (by omega);obtain⟨g1,r,g2,g3,g4⟩:=Z.put hi hc a7 (text:=text) (by omega);refine(D.put (who:Int) text I a0 (by omega) (by omega) (hX.beside D I J K)).mono fun e H O=>?_
 obtain⟨⟨ev,e1,e2⟩,S1,a3,a4⟩:=O;rw[g1]at e2;have a2:=K.trans (a4.jan K.size (fun j hj=>by have:=(D.dH I j hj).1;omega));refine⟨by rw[e1,e2.none (by decide)],a2,(JaI D hX a3 J a2 (bP.step t m _ a0 (WStep.open_ m who ai text)) (by omega) g2 g3).mono fun e U O=>?_⟩;obtain⟨e3,S2,a5,a6⟩:=O;exact⟨e3,B,S2,_,g4,a5,J,a6⟩
theorem StE.chg (D:Jae ad X Wd)(hX:JaD ad X w0)(hs:StE Wd n k w0 h W q top i c)(hi:i<=16)(hc:c<=8){p:Option aq}{cap:Nat}(hl:Strs W p l)(a8:l.length<=cap)(a9:l.length<=30)(hx:∀x∈l,x.size<=100):
 ac prog 10 #[.pointer (ab ⟨h,0,aa⟩),.slice p l.length cap] W fun e O=>(∃ev,e=.returned ev)/\ac prog 9 #[.pointer (ab ⟨h,0,aa⟩)] O fun e U=>e=.returned (.bool ai)/\Hid (StE Wd n k w0 h U q top (i+1) (c+1)):=by
 obtain⟨B,S,m,Z,H,I,J⟩:=hs;obtain⟨t,b0,a0⟩:=Z.run (by omega);refine(D.change l p cap H a0 (by omega) hl a8 a9 hx (hX.beside D H I J)).mono fun e O K=>?_
 obtain⟨e1,S1,m1,a3,a4,a2,a5⟩:=K;obtain⟨r,g2,g3,g4⟩:=Z.change hi hc a2 a5;refine⟨e1,(JaI D hX a3 I (J.trans (a4.jan J.size (fun j hj=>by have:=(D.dH H j hj).1;omega))) (bP.step t m _ a0 a2) (by omega) g2 g3).mono fun e U K=>?_⟩;obtain⟨e3,S2,a6,a7⟩:=K;exact⟨e3,B,S2,_,g4,a6,I,a7⟩
theorem StE.get (H:Jae ad X Wd)(hX:JaD ad X w0)(hs:StE Wd n k w0 h W q top i c)(hi:i<=20)(hc:c<=8):
 ac prog 11 #[.pointer (ab ⟨h,0,aa⟩),.int .i64 0] W fun e W1=>e=.returned .nilIface/\ac prog 9 #[.pointer (ab ⟨h,0,aa⟩)] W1 fun e W2=>e=.returned (.bool ai) /\
  ac prog 12 #[.pointer (ab ⟨h,0,aa⟩)] W2 fun e D=>∃b o cap xw x1 x2 xa xb,e=.returned (.slice (ab ⟨b,o,aa⟩) (q+1) cap) /\
   Hid (b<D.heap.size/\D.cell? ⟨b,o+q*8,aa⟩=ab (.int .i64 xw)/\D.cell? ⟨b,o+q*8+1,aa⟩=ab (.bool F)/\D.cell? ⟨b,o+q*8+2,aa⟩=ab (.bool top.isSome)/\D.cell? ⟨b,o+q*8+3,aa⟩=ab (.int .i64 x1)/\D.cell? ⟨b,o+q*8+4,aa⟩=ab (.int .i64 x2)/\D.cell? ⟨b,o+q*8+5,aa⟩=ab (.string (top.getD ⟨#[]⟩))/\D.cell? ⟨b,o+q*8+6,aa⟩=ab (.int .i64 xa)/\D.cell? ⟨b,o+q*8+7,aa⟩=ab (.int .i64 xb)) /\
   Hid (∀K,ae D.heap.size D K->ac prog 13 #[.pointer (ab ⟨h,0,aa⟩),.int .i64 0] K fun e W5=>e=.returned (.string ⟨#[105,100,108,101]⟩)/\ae w0.heap.size w0 W5):=by
 obtain⟨B,S,m,h1,O,h3,U⟩:=hs;obtain⟨t,b4,a4⟩:=h1.run hi;obtain⟨g1,r,e,g2,g3,g4,g5,g6,g7,g8,g9⟩:=h1.get hi hc;refine(H.get 0 O a4 (by omega) (hX.beside H O h3 U)).mono fun Z W1 I=>?_
 obtain⟨⟨ev,e1,e2⟩,S1,a9,b0⟩:=I;rw[g1]at e2;refine⟨by rw[e1,e2.none (by decide)],(JaI H hX a9 h3 (U.trans (b0.jan U.size (fun j J=>by have:=(H.dH O j J).1;omega))) (bP.step t m _ a4 (WStep.open_ m 0 F ⟨#[]⟩)) (by omega) g2 g3).mono fun Z W2 I=>?_⟩;obtain⟨e3,S2,a0,a5⟩:=I;generalize (m.open_ 0 F ⟨#[]⟩).1.go r=m2 at *;refine⟨e3,(H.events a0).mono fun Z D I=>?_⟩;obtain⟨⟨p,cap,e4,b1⟩,a2⟩:=I;obtain⟨b,o,rfl,b2,c0,c1,c2,c3,c4,c5,c6,c7⟩:=qX b1 (i:=q) (by omega);rw[g6]at c0 c1 c2 c3 c4 c5 c6 c7;rw[g7]at c1;rw[g8]at c2;rw[g9]at c5;rw[g5]at e4;have a6:ae w0.heap.size w0 D:=a5.trans (a2.mono a5.size);have a7:=H.aS a0 a2.size (fun j J=>a2.block j (H.dH a0 j J).2);refine⟨b,o,cap,_,_,_,_,_,e4,⟨b2,c0,c1,c2,c3,c4,c5,c6,c7⟩,fun K a3=>(H.state 0 (H.aS a7 a3.size (fun j J=>a3.block j (H.dH a7 j J).2))).mono fun Z W5 I=>?_⟩;obtain⟨e5,b3⟩:=I;rw[g4]at e5;have a8:=a6.trans (a3.mono a6.size);exact⟨e5,a8.trans (b3.mono a8.size)⟩
end
end
section
open Ring
def Jal (T:List ByteArray)(i:Nat):Option ByteArray:=(T.take i).getLast?
theorem JbU (h:i<T.length):Jal T (i+1)=ab (Yc T i):=by
 unfold Jal;rw[List.take_succ_eq_append_getElem h,List.getLast?_append,Xk T i h];rfl
theorem JbV (h:¬i<T.length):Jal T (i+1)=Jal T i:=by
 unfold Jal;rw[af (by omega),af (by omega)]
theorem JbW (h:T.length<=i):(Jal T i).isSome=decide (0<T.length):=by
 unfold Jal;rw[af h];cases T with
 |nil=>rfl
 |cons x r=>simp
section
variable {ad:Nat->aq} {X:World->Prop} {Wd:Nat->Nat->World->Nat->Nat->(Nat->Prop)->Ya->Prop}
theorem Jb9 (I:Jae ad X Wd){q c:Nat}{J:Option ByteArray}{B W:World}(hX:JaD ad X B)(K:StE Wd n k B h W q J i c)(hi:i<=16)(hc:c<=8){x:Nm}(hx:JaO B x)(hl:fY x.l=F):
 ac prog 7 #[.slice x.p x.l.length x.c] W fun e H=>∃D d,e=.returned (.slice D x.l.length d)/\ac prog 10 #[.pointer (ab ⟨h,0,aa⟩),.slice D x.l.length d] H fun e O=>(∃U,e=.returned U) /\
  ac prog 9 #[.pointer (ab ⟨h,0,aa⟩)] O fun e Z=>e=.returned (.bool ai)/\Hid (StE Wd n k B h Z q J (i+1) (c+1)):=by
 obtain⟨h1,h2⟩:=zI hl;obtain⟨g1,_,_,g4⟩:=hx;have hb:ae B.heap.size B W:=by
  obtain⟨_,_,_,_,_,_,h4⟩:=K;exact h4
 refine(A9 x.l x.p x.c W (by omega) (g1.below hb) g4).mono fun e H hq=>?_
 obtain⟨⟨D,d,e1,a0,hd,_,_⟩,a2⟩:=hq;exact⟨D,d,e1,(K.below I a2).chg I hX hi hc a0 hd h1 h2⟩
theorem Jbc (hW:Jae ad X Wd)(l:List ByteArray)(n k:Int)(T:List ByteArray)(C:List Nm)(p:Option aq)(cap:Nat)(q:Option aq)(l0:Nat)(r:Option aq)(l7:Nat)(w:World)
 (hl:l.length<=9223372036854775807) (i3:∀x∈l,x.size<=9223372036854775807) (hs:Strs w p l) (hn:p=aa->l=[]/\cap=0) (i4:Zt n) (i5:Zt k) (hT:Strs w q T) (i8:∀x∈T,x.size<=9223372036854775807) (n0:T.length<=9223372036854775807) (hC:Ql nmE w r C) (i9:∀x∈C,JaO w x) (n1:C.length<=9223372036854775807) (hX:JaD ad X w):
 ac prog 3 #[.slice p l.length cap,.int .i64 n,.int .i64 k,.slice q T.length l0,.slice r C.length l7] w fun e w'=>e=.returned (.bool ai)/\ae w.heap.size w w':=by
 have HW:Hid (Jae ad X Wd):=hW;have HS:Hid (Strs w p l/\(p=aa->l=[]/\cap=0)/\∀x∈l,x.size<=9223372036854775807):=⟨hs,hn,i3⟩;have HT:Hid (Strs w q T/\∀i,i<T.length->(Yc T i).size<=9223372036854775807):=⟨hT,fun i B=>i8 _ (oQ B)⟩;have U:Hid (Ql nmE w r C/\∀i,i<C.length->JaO w (wS C i)):=⟨hC,fun i B=>i9 _ (JbZ B)⟩;have HX:Hid (JaD ad X w):=hX;have a5:Hid (∀W,ae w.heap.size w W->Zp W ad/\X W):=fun W hB=>hX W hB.size hB.block
 have d9:Hid (Zt n/\Zt k):=⟨i4,i5⟩;clear hW hs hn i3 hT i8 hC i9 hX i4 i5;go_enter func3,ntmps3;go_wp2_with fail
 refine(HW.out.born w (a5.out w (Below.refl _ _)).1 (a5.out w (Below.refl _ _)).2).mono ?_;rintro e w1 ⟨rfl,f4⟩;have K:Hid (ae w.heap.size w w1):=f4;clear f4;go_wp2_with fail
 refine(D7 l p cap w1 hl HS.out.2.2 (HS.out.1.below K.out)).mono ?_;rintro e w2 ⟨rfl,rfl⟩;cases f5:fY l with
 |true =>
  go_wp2;go_ret;exact⟨rfl,K.out⟩
 |false =>
 by_cases l9:8<T.length
 ·have f6:(8:Int)<(T.length:Int):=by omega
  go_wp2;go_ret;exact⟨rfl,K.out⟩
 have f6:¬(8:Int)<(T.length:Int):=by omega
 by_cases m0:8<C.length
 ·have f7:(8:Int)<(C.length:Int):=by omega
  go_wp2;go_ret;exact⟨rfl,K.out⟩
 have f7:¬(8:Int)<(C.length:Int):=by omega
 have b0:Hid (l.length<=30/\∀x∈l,x.size<=100):=zI f5;clear f5;go_wp2_with fail
 refine(A9 l p cap w2 (by have:=b0.out.1;omega) (HS.out.1.below K.out) HS.out.2.1).mono ?_;rintro e w4 ⟨⟨po,co,rfl,f8,f9,g0,j1⟩,g5⟩;have D:Hid (ae w.heap.size w w4):=K.out.trans (g5.mono K.out.size);have b1:Hid (Strs w4 po l/\l.length<=co/\(po=aa->l=[]/\co=0)):=⟨f8,f9,g0⟩;clear f8 f9 g0 j1 g5 K;go_wp2_with fail
 refine(HW.out.new l n k po co w4 b1.out.1 b1.out.2.1 b1.out.2.2 b0.out.1 b0.out.2 d9.out.1 d9.out.2 (a5.out w4 D.out).1 (a5.out w4 D.out).2).mono ?_;rintro e w5 ⟨⟨hc,ev,rfl,j2⟩|⟨g6,h,S,c,rfl,g7,g8,g9⟩,b3⟩
 ·have Z:Hid (ae w.heap.size w w5):=D.out.trans (b3.mono D.out.size);rcases j2 with⟨_,h2,_⟩|⟨i,_,rfl,_⟩|⟨i,fb,_,rfl,_⟩
  ·omega
  ·clear hc;go_wp2;go_ret;exact⟨rfl,Z.out⟩
  ·clear hc;go_wp2;go_ret;exact⟨rfl,Z.out⟩
 ·have I:Hid (StE Wd n.toNat k.toNat w h w5 0 aa 0 0):=⟨_,S,_,Jai.new g8 g7.mem (JaX g6),g9,D.out.size,D.out.trans (b3.mono D.out.size)⟩;have Z:Hid (ae w.heap.size w w5):=D.out.trans (b3.mono D.out.size);clear g8 g7 g6 g9 b3 HS b1 b0 d9 D a5;go_wp2_with fail
  go_loopw [14] (fun x wr=>∃i:Nat,i<=C.length/\x=.int .i64 i/\(∀j,j<i->fY (wS C j).l=F)/\wr=w5) (fun x _=>C.length-(intOf x).toNat)
  case atStart=>exact⟨0,ah _,rfl,fun j hj=>absurd hj (aj _),rfl⟩
  case round =>
   obtain⟨i,B,rfl,h3,rfl⟩:=hrel;have b4:Hid (∀j,j<i->fY (wS C j).l=F):=h3;clear h3;by_cases b5:i<C.length
   ·obtain⟨b,o,rfl,c0⟩:=Jby (U.out.1.below Z.out) b5;obtain⟨g1,g2,g3,g4⟩:=U.out.2 i b5;have h5:=D7 (wS C i).l (wS C i).p (wS C i).c wr g2 g3 (g1.below Z.out);have h6:Hid (∀v,fY (wS C i).l=v->v=F->∀j,j<i+1->fY (wS C j).l=F):=fun v h1 h2 j hj=>by
     by_cases e:j=i
     ·rw[e,h1,h2]
     ·exact b4.out j (by omega)
    clear g1 g2 g3 g4 b4;generalize fY (wS C i).l=lg at *;generalize (wS C i).l.length=nl at *;generalize (wS C i).p=np at *;generalize (wS C i).c=nc at *;go_wp2_with fail
    refine h5.mono ?_;rintro e O ⟨rfl,rfl⟩;cases lg with
    |true =>
     go_wp2;go_ret;exact⟨rfl,Z.out⟩
    |false =>
     have HN:Hid (∀j,j<i+1->fY (wS C j).l=F):=h6.out F rfl rfl;clear h6 h5;go_wp2;go_roundw
     case rel=>exact⟨i+1,b5,rfl,HN.out,trivial⟩
     case measure=>simp[intOf];omega
   ·have b6:Hid (∀j,j<C.length->fY (wS C j).l=F):=fun j hj=>b4.out j (by omega)
    clear b4;go_wp2_with fail
    clear B b5;go_loopw [15,16] (fun v x wr=>∃i:Nat,i<=8/\(i<=T.length∨i<=C.length)/\x=.int .i64 i/\v=.string ((Jal T i).getD ⟨#[]⟩)/\StE Wd n.toNat k.toNat w h wr (min i T.length) (Jal T i) (min i T.length+min i C.length) (min i C.length)) (fun _ x _=>T.length+C.length-(intOf x).toNat)
    case atStart=>exact⟨0,ah _,Or.inl (ah _),rfl,rfl,by rw[Nat.zero_min,Nat.zero_min];exact I.out⟩
    case round =>
     clear I Z;obtain⟨i,k0,B,rfl,rfl,e0⟩:=hrel;obtain⟨O,rfl⟩:∃O,O=wr:=⟨_,rfl⟩;have e1:Hid (ae w.heap.size w O):=by
      obtain⟨_,_,_,_,_,_,h4⟩:=e0;exact h4
     have I:Hid (StE Wd n.toNat k.toNat w h O (min i T.length) (Jal T i) (min i T.length+min i C.length) (min i C.length)):=e0;clear e0;have a0:Hid (∀W q e2 t c,StE Wd n.toNat k.toNat w h W q e2 t c->t<=16->c<=8->i<C.length->ac prog 7 #[.slice (wS C i).p (wS C i).l.length (wS C i).c] W fun e W1=>∃q' d,e=.returned (.slice q' (wS C i).l.length d)/\ac prog 10 #[.pointer (ab ⟨h,0,aa⟩),.slice q' (wS C i).l.length d] W1 fun e W2=>(∃ev,e=.returned ev) /\
      ac prog 9 #[.pointer (ab ⟨h,0,aa⟩)] W2 fun e W3=>e=.returned (.bool ai)/\Hid (StE Wd n.toNat k.toNat w h W3 q e2 (t+1) (c+1))):=fun W q e2 t c hs ht hc B=>Jb9 HW.out HX.out hs ht hc (U.out.2 i B) (b6.out i B)
     have a2:Hid (∀W,ae w.heap.size w W->i<C.length->∃b o,r=ab ⟨b,o,aa⟩/\W.cell? ⟨b,o+i,aa⟩=ab (.slice (wS C i).p (wS C i).l.length (wS C i).c)):=fun W hb B=>Jby (U.out.1.below hb) B
     generalize (wS C i).l.length=nl at *;generalize (wS C i).p=np at *;generalize (wS C i).c=nc at *;by_cases H:i<T.length
     ·obtain⟨b,o,k2,_,hc⟩:∃b o,q=ab ⟨b,o,aa⟩/\b<w.heap.size/\∀i,i<T.length->w.cell? ⟨b,o+i,aa⟩=ab (.string (Yc T i)):=by
       rcases HT.out.1 with h0|h0
       ·rw[h0]at H;exact absurd H (aj _)
       ·exact h0
      subst k2;have e3:Hid (∀W,ae w.heap.size w W->W.cell? ⟨b,o+i,aa⟩=ab (.string (Yc T i))):=fun W hb=>by
       rcases HT.out.1.below hb with h0|⟨b',o',k3,_,k4⟩
       ·rw[h0]at H;exact absurd H (aj _)
       ·cases k3;exact k4 i H
      have q1:=e3.out O e1.out;have m4:=HT.out.2 i H;have e4:=fun(ht:(Yc T i).size<=60)=>I.out.put HW.out HX.out (by omega) (by omega) (who:=i%6) (by omega) (text:=Yc T i) ht
      have J:Hid (Jal T (i+1)=ab (Yc T i)):=JbU H;clear I U b6 hc HT;generalize Yc T i=tx at *;by_cases m5:60<tx.size
      ·have k5:(60:Int)<(tx.size:Int):=by omega
       clear e4 a0 a2 J;go_wp2;go_ret;exact⟨rfl,e1.out⟩
      have k5:¬(60:Int)<(tx.size:Int):=by omega
      have e5:=e4 (by omega);have e6:((i%6:Nat):Int)=(i:Int)%6:=by omega
      rw[e6]at e5;clear e4 e6;go_wp2_with fail
      refine e5.mono ?_;rintro e w7 ⟨rfl,h7,a6⟩;have q2:=e3.out w7 h7.out;clear e5 q1 e3;go_wp2_with fail
      refine a6.mono ?_;rintro e w8 ⟨rfl,b7⟩;have k6:Hid (ae w.heap.size w w8):=by
       obtain⟨_,_,_,_,_,_,h4⟩:=b7.out;exact h4
      clear a6 q2 h7;by_cases a4:i<C.length
      ·have a7:=a0.out w8 _ _ _ _ b7.out (by omega) (by omega) a4;obtain⟨b2,o2,rfl,q3⟩:=a2.out w8 k6.out a4;clear b7 a0 a2;go_wp2_with fail
       refine a7.mono ?_;rintro e w9 ⟨q',d,rfl,a8⟩;clear a7 q3;go_wp2_with fail
       refine a8.mono ?_;rintro e a3 ⟨⟨ev,rfl⟩,a9⟩;clear a8;go_wp2_with fail
       refine a9.mono ?_;rintro e e7 ⟨rfl,e8⟩;clear a9;go_wp2;go_roundw
       case rel=>exact⟨i+1,by omega,Or.inl H,by go_num,by rw[J.out];rfl,by
        have h:=e8.out;rw[J.out,show min (i+1) T.length=min i T.length+1 by omega,show min (i+1) C.length=min i C.length+1 by omega,show min i T.length+1+(min i C.length+1)=min i T.length+min i C.length+1+1 by omega];exact h⟩
       case measure=>simp[intOf];omega
      ·clear a0 a2;go_wp2;go_roundw
       case rel=>exact⟨i+1,by omega,Or.inl H,by go_num,by rw[J.out];rfl,by
        have h:=b7.out;rw[J.out,show min (i+1) T.length=min i T.length+1 by omega,show min (i+1) C.length=min i C.length by omega,show min i T.length+1+min i C.length=min i T.length+min i C.length+1 by omega];exact h⟩
       case measure=>simp[intOf];omega
     ·have J:Hid (Jal T (i+1)=Jal T i):=JbV H;by_cases a4:i<C.length
      ·have a7:=a0.out O _ _ _ _ I.out (by omega) (by omega) a4;obtain⟨b2,o2,rfl,q3⟩:=a2.out O e1.out a4;clear I a0 a2 U b6 HT;go_wp2_with fail
       refine a7.mono ?_;rintro e w9 ⟨q',d,rfl,a8⟩;clear a7 q3;go_wp2_with fail
       refine a8.mono ?_;rintro e a3 ⟨⟨ev,rfl⟩,a9⟩;clear a8;go_wp2_with fail
       refine a9.mono ?_;rintro e e7 ⟨rfl,e8⟩;clear a9;go_wp2;go_roundw
       case rel=>exact⟨i+1,by omega,Or.inr a4,by go_num,by rw[J.out],by
        have h:=e8.out;rw[J.out,show min (i+1) T.length=min i T.length by omega,show min (i+1) C.length=min i C.length+1 by omega];exact h⟩
       case measure=>simp[intOf];omega
      ·have e9:=I.out.get HW.out HX.out (by omega) (by omega);have b8:=JbW (T:=T) (i:=i) (by omega);rw[show min i T.length=T.length by omega]at e9;clear I a0 a2 U b6 HT J;have m6:IntKind.i64.wrap ((T.length:Int)+1)=(T.length:Int)+1:=by rw[IntKind.wrap_i64];omega
       have m7:IntKind.i64.wrap (T.length:Int)=(T.length:Int):=by rw[IntKind.wrap_i64];omega
       generalize (Jal T i).getD ⟨#[]⟩=tx at *;generalize (Jal T i).isSome=fd at *;clear f6 f7 B k0;generalize T.length=tl at *;go_wp2_with fail
       refine e9.mono ?_;rintro e w7 ⟨rfl,a6⟩;clear e9;go_wp2_with fail
       refine a6.mono ?_;rintro e w8 ⟨rfl,h8⟩;clear a6;go_wp2_with fail
       refine h8.mono ?_;rintro e w9 ⟨b,o,cp,xw,x1,x2,xa,xb,rfl,h9,i0⟩;obtain⟨m8,c0,c1,c2,c3,c4,c5,c6,c7⟩:=h9.out;obtain⟨a3,c8⟩:∃a3,a3=w9.alloc (.cells #[.int .i64 xw,.bool F,.bool fd,.int .i64 x1,.int .i64 x2,.string tx,.int .i64 xa,.int .i64 xb] 41):=⟨_,rfl⟩;have i1:a3.heap[w9.heap.size]?=ab (.cells #[.int .i64 xw,.bool F,.bool fd,.int .i64 x1,.int .i64 x2,.string tx,.int .i64 xa,.int .i64 xb] 41 (0,0)):=by
        rw[c8];show(w9.heap.push _)[w9.heap.size]?=_;simp
       obtain⟨d0,d1,d2,d3,d4,d5,d6,d7⟩:=nW i1;have i2:=i0.out a3 (zBe c8);have d8:Hid (a3=w9.alloc (.cells #[.int .i64 xw,.bool F,.bool fd,.int .i64 x1,.int .i64 x2,.string tx,.int .i64 xa,.int .i64 xb] 41)):=c8;clear c8 i1 h8 h9 i0;by_cases k7:tl=0
       ·subst k7;rw[Nat.zero_mul,Nat.add_zero]at c0 c1 c2 c3 c4 c5 c6 c7;have h2:fd=false:=by rw[b8,decide_eq_false (by omega)]
        clear b8;subst h2;go_wp2_with (first|rw[<-d8.out]|fail)
        try rw[<-d8.out]
        refine i2.mono ?_;rintro e e7 ⟨rfl,f3⟩;go_wp2;go_ret;exact⟨rfl,f3⟩
       ·have m9:(0:Int)<(tl:Int):=by omega
        have h2:fd=true:=by rw[b8,decide_eq_true (by omega)]
        clear b8;subst h2;go_wp2_with (first|rw[<-d8.out]|fail)
        try rw[<-d8.out]
        refine i2.mono ?_;rintro e e7 ⟨rfl,f3⟩;go_wp2;go_ret;exact⟨rfl,f3⟩
end
end
theorem Jbp:(Rows.worldEndsRow.inPlace==prog.inPlace 3)=true:=by kernel_rfl
theorem Ja2:(Rows.worldEndsRow.unfollowed==prog.unfollowed 3)=true:=by kernel_rfl
theorem Jbe:(Rows.worldEndsRow.recurses==prog.recurses 3)=true:=by kernel_rfl
theorem JbX:(Rows.worldEndsRow.named==prog.varsNamed 3)=true:=by kernel_rfl
theorem Jb3:joinedFacts prog 3 f3 Rows.worldEndsSpec Rows.worldEndsRow=true:=by
 unfold joinedFacts;rw[Jbp,Ja2,Jbe,JbX]
 kernel_rfl
end Go.Proofs.YtgapmoniajcliaaGreatDoor

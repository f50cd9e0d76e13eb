/- Texts laid together. -/
import Derived.Test.YtgapmoniajcliaaGreatDoorV21
import Derived.Test.YtgapmoniajcliaaGreatDoorV17
set_option maxRecDepth 10000
set_option maxHeartbeats 8000000
open Option renaming none->aa,some->ab
open Bool renaming false->ac,true->aw
open List renaming getD_eq_getElem?_getD->ae,replicate->ah,getElem?_eq_getElem->aj,setIfInBounds_toArray->al,length_map->am,getElem?_replicate->ap,set_cons_zero->ay,set_cons_succ->az,length_append->aE,getElem?_append_right->aF,getElem?_append_left->za,range->ze,length_take->zh,getElem_mem->zi
open Go.RowKit renaming Below->af
open Go renaming Calls->ag,Value->ar,Addr->aR
open Array renaming getElem?_eq_some_iff->ai,getElem?_setIfInBounds->av,getElem?_push->ax
open Nat renaming not_lt_zero->ak,lt_of_lt_of_le->an,le_trans->aq,le_refl->aI,zero_le->zd
open Go.RowKit.Below renaming heap_setCell->ao,refl->zf
open Go.World renaming cell?_of_block->au,frozen?_of_block->zc
open Or renaming inr->zb,inl->bk
namespace Go.Proofs.YtgapmoniajcliaaGreatDoor
open Go.Proofs.Tryz
open Go.RowKit
variable {b n k i g o:Nat}{S:Nat->Prop}{s:BA}{W H w K:World}{l:List BA}{c:Xg}{a:Za}{T:TypeId}
section
section
variable {w w':World} {B h:Nat} {O O':Nat->Option Whose} {m:Ya} {X:WB} {ml:List (Zb×Lv)} {nb hn:Nat->Nat} {n k:Nat} {ad:Nat->aR}
def Q4 (w:World)(B h:Nat)(O:Nat->Option Whose)(m:Ya)(w':World):Prop:=∃O' X ml nb hn,Ye w' B h O' m X ml nb hn/\Yd (fun k=>O k≠aa) (fun k=>O' k≠aa) w w'
theorem XE.dA {x:Je}(K:XE w B b S x)(U:w.heap.size<=w'.heap.size)(Z:∀k,S k->w'.heap[k]?=w.heap[k]?):XE w' B b S x:=by
 obtain⟨mp,D,H,I,J⟩:=K;exact⟨mp,D,H,I,J.aS U Z⟩
theorem OB:(prog.info? 84).map (fun i=>(i.zero,i.size,i.bytes))=ab (ab (.pointer aa),j5.k,8):=by kernel_rfl
theorem Ye.gI (hp:Ye w B h O m X ml nb hn){w2:World}{hb:Nat}(b0:af w.heap.size w w2)(hs:XE w2 w.heap.size hb S ⟨s,[]⟩)(hf:m.nodes.length<=1000)(U:af w2.heap.size w2 W){I:World}(a2:I=(W.alloc (.cells #[.pointer (ab ⟨hb,0,aa⟩),.string s,.bool ac] 86)).alloc (.cells #[.pointer (ab ⟨W.heap.size,0,aa⟩)] 84)):
 ∃J H,(∀ty,(Builtin.append_ #[60,60] ty #[X.vn,.slice (ab ⟨W.heap.size+1,0,aa⟩) 1 1]).run prog I=.ok J H)/\(∃q n c,J=.slice q n c)/\H.cell? ⟨h,31,aa⟩=ab X.vn/\H.frozen? ⟨h,31,aa⟩=ac/\Q4 w B h O (m.cE [s]) (H.setCell ⟨h,31,aa⟩ J):=by
 obtain⟨W1,Z⟩:=Xb (W.alloc (.cells #[.pointer (ab ⟨hb,0,aa⟩),.string s,.bool ac] 86));rw[<-Z]at a2;have b1:=QT Z;have a3:=Zk Z;have a0:=Zk a2;have a4:=b0.trans (U.mono b0.size);have a5:=a4.trans (a3.mono a4.size);have a6:=a5.trans (a0.mono a5.size);have b2:=JH Z;have b3:=(a0.block _ (by omega)).trans b2;have b4:I.cell? ⟨W.heap.size+1,0,aa⟩=ab (.pointer (ab ⟨W.heap.size,0,aa⟩)):=by
  rw[a2,<-b1,World.cell?_alloc_at _ _ _ _ rfl];rfl
 have b5:W.heap.size+1<I.heap.size:=by rw[a2];simp;omega
 have D:=hp.below a6;have a7:((ze m.nodes.length).map nb).length=m.nodes.length:=by simp
 obtain⟨J,H,ha,K,h2,h3⟩:=vX (w:=I) (E:=j5) 60 84 _ 8 underlying60 OB rfl B X.vn ((ze m.nodes.length).map nb) D.cD (ab ⟨W.heap.size+1,0,aa⟩) [W.heap.size] 1 (zb ⟨W.heap.size+1,0,rfl,b5,fun i x hi j u hu=>by
  obtain⟨rfl,rfl⟩:i=0/\x=W.heap.size:=by
   cases i with
   |zero=>exact⟨rfl,by simpa using hi.symm⟩
   |succ i=>simp at hi
  cases j with
  |zero=>simp only[j5,List.getElem?_cons_zero,Option.some.injEq]at hu;rw[<-hu];exact b4
  |succ j=>simp[j5]at hu⟩) (fun e=>by cases e) (by rw[a7];unfold maxLen;show m.nodes.length+1<=_;omega) (by rw[a7];show(m.nodes.length+1)*8<=_;omega) D.base
 have b6:X.vn.ownBlock≠ab h:=fun e=>by have:=D.bU h e;rw[D.self]at this;cases this
 have a8:=h2.block h D.lt (fun e=>b6 e.symm);have a9:=hs.dH;have b7:XE I w.heap.size hb S ⟨s,[]⟩:=hs.dA (aq U.size (aq a3.size a0.size)) (fun k hk=>by
  have K:=(a9 k hk).2;have h2:=an K U.size;exact(a0.block k (by omega)).trans ((a3.block k h2).trans (U.block k K)))
 obtain⟨O',b8,c8,g1,g2⟩:=hp.jO (g:=W.heap.size) a6 b7 a4.size (fun e=>by have:=(a9 _ e).2;have:=U.size;omega) b3 K h2 h3;obtain⟨q,c,hv,_⟩:=K.form;exact⟨J,H,ha,⟨q,_,c,hv⟩,(au (a:=⟨h,31,aa⟩) a8).trans (D.cell 31).1,(zc (a:=⟨h,31,aa⟩) a8).trans (D.cell 31).2,O',_,ml,b8,c8,g1,g2⟩
theorem Q4.trans {m2:Ya}{D:World}{I:Nat->Option Whose}(hU:Yd (fun k=>O k≠aa) (fun k=>I k≠aa) w D)(h2:Q4 D B h I m2 H):Q4 w B h O m2 H:=by
 obtain⟨O',X',J,K,U,Z,g2⟩:=h2;exact⟨O',X',J,K,U,Z,hU.trans' g2⟩
theorem DF (hp:Ye w B h O m X ml nb hn)(p:Option aR)(l:List BA)(cap:Nat)(hl:m.nodes.length+l.length<=1000)(hx:∀x∈l,Jo x=aw)(hs:Strs w p l)(b6:∀b o,p=ab ⟨b,o,aa⟩->O b=aa)(hE:Yi ad w O):
 ag prog 17 #[.pointer (ab ⟨h,0,aa⟩),.slice p l.length cap] w fun e w'=>e=.returned (.tuple #[])/\Q4 w B h O (m.cE l) w':=by
 have HC:Hid (∀i,i<l.length->∀S' W,Yd (fun k=>O k≠aa) S' w W->∃b o,p=ab ⟨b,o,aa⟩/\W.cell? ⟨b,o+i,aa⟩=ab (.string (Yc l i))):=fun i H S' W hU=>by
  rcases hs with h0|⟨b,o,hp,b7,hc⟩
  ·rw[h0]at H;exact absurd H (ak _)
  ·exact⟨b,o,hp,(au (a:=⟨b,o+i,aa⟩) (hU.block b b7 (fun e=>e (b6 b o hp)))).trans (hc i H)⟩
 have HX:Hid (∀i,i<l.length->Jo (Yc l i)=aw):=fun i H=>hx _ (by rw[Xk l i H];exact zi H)
 have HM:Hid (∀i,i<l.length->m.cE (l.take (i+1))=(m.cE (l.take i)).cE [Yc l i]):=fun i H=>by
  rw[show l.take (i+1)=l.take i++ [Yc l i] by rw[List.take_add_one,aj H,Xk l i H];rfl,SK]
 have a6:Hid (∀i,i<l.length->(m.cE (l.take i)).nodes.length<=1000):=fun i H=>by
  show(m.nodes++_).length<=1000;rw[aE,am,zh];omega
 have a7:Hid _:=B8 m;have a8:Hid (m.cE (l.take l.length)=m.cE l):=by show _=_;rw[List.take_length]
 obtain⟨F,hF⟩:∃F:Nat->Ya,F=fun i=>m.cE (l.take i):=⟨_,rfl⟩
 have HM:Hid (∀i,i<l.length->F (i+1)=(F i).cE [Yc l i]):=by rw[hF];exact HM.out
 have a6:Hid (∀i,i<l.length->(F i).nodes.length<=1000):=by rw[hF];exact a6.out
 have a7:Hid (F 0=m):=by rw[hF];exact a7.out
 have a8:Hid (F l.length=m.cE l):=by rw[hF];exact a8.out
 have U:Hid (Q4 w B h O m w):=⟨O,X,ml,nb,hn,hp,Yd.aJ bR⟩;obtain⟨D,hD⟩:∃D:Nat->World->Prop,D=fun i=>Q4 w B h O (F i):=⟨_,rfl⟩
 have a9:Hid (∀i,i<l.length->∀wr,D i wr->∃b o I vn J,p=ab ⟨b,o,aa⟩/\wr.cell? ⟨b,o+i,aa⟩=ab (.string (Yc l i)) /\
  ag prog 33 #[.string (Yc l i)] wr fun e w2=>∃K,e=.returned (.tuple #[.pointer (ab ⟨K,0,aa⟩),.nilIface])/\w2.drew.cell? ⟨h,31,aa⟩=ab (.slice I vn J) /\
   ag prog 19 #[.string (Yc l i)] w2.drew fun e W=>e=.returned (.string (Yc l i))/\W.cell? ⟨h,31,aa⟩=ab (.slice I vn J)/\∃q' n' c' Z,
    (W.alloc (.cells #[.pointer (ab ⟨K,0,aa⟩),.string (Yc l i),.bool ac] 86)).cell? ⟨h,31,aa⟩=ab (.slice I vn J) /\
    ((W.alloc (.cells #[.pointer (ab ⟨K,0,aa⟩),.string (Yc l i),.bool ac] 86)).alloc (.cells #[.pointer (ab ⟨W.heap.size,0,aa⟩)] 84)).cell? ⟨h,31,aa⟩=ab (.slice I vn J) /\
    (∀ty,(Builtin.append_ #[60,60] ty #[.slice I vn J,.slice (ab ⟨W.heap.size+1,0,aa⟩) 1 1]).run prog ((W.alloc (.cells #[.pointer (ab ⟨K,0,aa⟩),.string (Yc l i),.bool ac] 86)).alloc (.cells #[.pointer (ab ⟨W.heap.size,0,aa⟩)] 84))=.ok (.slice q' n' c') Z) /\
    Z.cell? ⟨h,31,aa⟩=ab (.slice I vn J)/\Z.frozen? ⟨h,31,aa⟩=ac/\Hid (D (i+1) (Z.setCell ⟨h,31,aa⟩ (.slice q' n' c')))):=fun i H wr b1=>by
  rw[hD]at b1;obtain⟨O1,X1,e0,b8,e4,p1,U1⟩:=b1;obtain⟨b,o,g1,g2⟩:=HC.out i H _ wr U1;obtain⟨I,J,hv,_⟩:=p1.cD.form;have c8:=hE.next U1;refine⟨b,o,I,((ze (F i).nodes.length).map b8).length,J,g1,g2,(UC ad (Yc l i) wr (by have:=QF (HX.out i H);omega) (fun W hW=>(c8.below hW).here.q.c3)).mono fun e w2 hq=>?_⟩;obtain⟨hq,b0⟩:=hq;rcases hq with⟨_,K,S,e1,e2⟩|⟨b2,_⟩
  ·have c2:=(p1.below b0).cell 31;refine⟨K,e1,by rw[<-hv];exact c2.1,(Xs (Yc l i) w2.drew (by have:=QF (HX.out i H);omega)).mono fun e W hq=>?_⟩;obtain⟨e3,d5⟩:=hq;have b3:=(zf _ w2).drew.trans d5;obtain⟨v',Z,a1,⟨q',n',c',rfl⟩,a3,a4,a5⟩:=p1.gI b0 e2 (a6.out i H) b3 rfl;rw[hv]at a1 a3;have a0:=b0.trans (b3.mono b0.size);have k1:=(p1.below (a0.alloc a0.size (.cells #[.pointer (ab ⟨K,0,aa⟩),.string (Yc l i),.bool ac] 86))).cell 31;have k2:=(p1.below ((a0.alloc a0.size (.cells #[.pointer (ab ⟨K,0,aa⟩),.string (Yc l i),.bool ac] 86)).alloc (by simp;have:=a0.size;omega) (.cells #[.pointer (ab ⟨W.heap.size,0,aa⟩)] 84))).cell 31;exact⟨e3,by rw[<-hv];exact((p1.below a0).cell 31).1,q',n',c',Z,by rw[<-hv];exact k1.1,by rw[<-hv];exact k2.1,a1,a3,a4,by rw[hD];show Q4 w B h O (F (i+1)) _;rw[HM.out i H];exact Q4.trans U1 a5⟩
  ·rw[HX.out i H]at b2;cases b2
 have a2:Hid (∀i W,i=l.length->Q4 w B h O (F i) W->Q4 w B h O (m.cE l) W):=fun i W e hW=>by rw[<-a8.out,<-e];exact hW
 generalize Q4 w B h O (m.cE l)=G at *;have U:Hid (Q4 w B h O (F 0) w):=by rw[a7.out];exact U.out
 have U:Hid (D 0 w):=by rw[hD];exact U.out
 have a2:Hid (∀i W,i=l.length->D i W->G W):=by rw[hD];exact a2.out
 have e5:l.length<=1000:=by omega
 clear hp hl hx hs b6 hE HC HX HM a6 a7 a8 hF hD;obtain⟨tx,b4⟩:∃tx:Nat->BA,tx=Yc l:=⟨_,rfl⟩;rw[<-b4]at a9;clear b4;generalize l.length=L at *;go_enter func17,ntmps17;go_wp2;go_loopw [10] (fun x wr=>∃i:Nat,i<=L/\x=.int .i64 i/\D i wr) (fun x _=>L-(intOf x).toNat)
 case atStart=>exact⟨0,zd _,rfl,U.out⟩
 case round =>
  obtain⟨i,H,rfl,hd⟩:=hrel;have HD:Hid _:=hd;clear hd;by_cases d6:i<L
  ·obtain⟨b,o,I,vn,J,rfl,q1,b5⟩:=a9.out i d6 wr HD.out;clear a9 a2 U HD;generalize tx i=t at *;go_wp2_with fail
   refine b5.mono ?_;rintro e w2 ⟨K,rfl,e6,d7⟩;clear b5;go_wp2_with fail
   go_region_law (first|(go_simp;go_at_call 19;refine d7.mono ?_;rintro e w5 ⟨rfl,d0,q',n',c',Z,d1,d2,ha,d3,d4,d8⟩;go_simp)|(refine XU rfl (.tmp 23) (.tmp 29) 60 60 rfl _ _ (by first|(simp[Act.eval];done)|(simp[Act.eval,Act.put];done)) (by first|(simp[Act.eval];done)|(simp[Act.eval,Act.put];done)) (fun ty=>ha ty) ?_))
   all_goals clear ha d0 d1 d2
   all_goals go_wp2
   all_goals go_roundw
   all_goals first|exact⟨i+1,by omega,by go_num,d8.out⟩|(simp[intOf];omega)
  ·have d9:i=L:=by omega
   have HG:Hid _:=a2.out i wr d9 HD.out;clear a9 a2 U;go_wp2
   go_end0
   exact⟨rfl,HG.out⟩
end
end
section
open Ring
def Ya.bare (c:Xg):Ya:=⟨[],[],ah 6 aa,ah 6 0,ah 6 ⟨#[]⟩,aa,[c],0,0,0,[]⟩
theorem EE {l:List (Je×Bool)}:Qe l s<l.length↔∃x∈l,x.1.name=s:=by
 unfold Qe;rw[List.findIdx_lt_length];simp
theorem SL (m:Ya){x:BA}(h:x≠s):Qe (m.cE [s]).nodes x<(m.cE [s]).nodes.length↔Qe m.nodes x<m.nodes.length:=by
 rw[EE,EE];show(∃y∈m.nodes++ [((⟨s,[]⟩,aw):Je×Bool)],y.1.name=x)↔_;constructor
 ·rintro⟨y,D,e⟩;rcases List.mem_append.1 D with D|D
  ·exact⟨y,D,e⟩
  ·rw[List.mem_singleton.1 D]at e;exact absurd e.symm h
 ·rintro⟨y,D,e⟩;exact⟨y,List.mem_append_left _ D,e⟩
theorem LV (m:Ya)(a b:List BA):(m.cE a).cE b=m.cE (a++b):=by
 unfold Ya.cE;rw[List.map_append,<-List.append_assoc]
theorem tI:∀(l:List BA) (m:Ya),l.Nodup->m.eX l=m.cE (m.fresh l)
 | [],m,_=>(B8 m).symm
 |s::l,m,h=>by
  obtain⟨H,D⟩:=List.nodup_cons.1 h;rw[CZ];by_cases e:Qe m.nodes s<m.nodes.length
  ·rw[if_pos e,tI l m D]
   congr 1
   unfold Ya.fresh;rw[List.filter_cons_of_neg (by simp[e])]
  ·rw[if_neg e];have I:({m with nodes:=m.nodes++ [(⟨s,[]⟩,aw)]}:Ya)=m.cE [s]:=rfl;rw[I,tI l (m.cE [s]) D,LV]
   congr 1
   unfold Ya.fresh;rw[List.filter_cons_of_pos (by simp[e])];show s::_=s::_
   congr 1
   refine List.filter_congr fun x J=>?_
   have K:x≠s:=fun U=>H (U▸J)
   have:=SL m K;by_cases q:Qe m.nodes x<m.nodes.length
   ·rw[decide_eq_true q,decide_eq_true (this.2 q)]
   ·rw[decide_eq_false q,decide_eq_false (fun e=>q (this.1 e))]
theorem NX (c:Xg)(l:List BA):(Ya.bare c).fresh l=l:=by
 unfold Ya.fresh;rw[List.filter_eq_self];intro x _;have D:decide (Qe (Ya.bare c).nodes x<(Ya.bare c).nodes.length)=false:=decide_eq_false (fun e=>absurd e (ak _));rw[D];rfl
theorem pM (c:Xg)(h:l.Nodup):Ya.new l c=(Ya.bare c).cE l:=by
 have:=tI l (Ya.bare c) h;rw[NX]at this;exact this
theorem WZ.kQ {m:Ya}(D:WZ n k m)(J:∀x∈l,Jo x=aw):WZ n k (m.cE l):=by
 refine⟨D.bO,D.msgs,D.la,D.lt,D.ls,D.gD,D.act,D.many,D.dN,D.dO,D.cU,D.asks,D.bI,fun i H=>?_⟩;have H:i<(m.nodes++l.map fun s=>((⟨s,[]⟩,aw):Je×Bool)).length:=H;rw[aE,am]at H;show jJ (Jc (m.nodes++l.map fun s=>((⟨s,[]⟩,aw):Je×Bool)) i).1;by_cases e:i<m.nodes.length
 ·have:Jc (m.nodes++l.map fun s=>((⟨s,[]⟩,aw):Je×Bool)) i=Jc m.nodes i:=by
   unfold Jc;rw[ae,ae,za e]
  rw[this];exact D.nodes i e
 ·have I:i-m.nodes.length<l.length:=by omega
  have:Jc (m.nodes++l.map fun s=>((⟨s,[]⟩,aw):Je×Bool)) i=(⟨l[i-m.nodes.length],[]⟩,aw):=by
   unfold Jc;rw[ae,aF (by omega),List.getElem?_map,aj I];rfl
  rw[this];exact jJ.new (QF (J _ (zi I))).2
theorem GO (K:¬0<(Jg c).1)(U:XS n k c):WZ n k (Ya.bare c):=by
 have H:∀i,Xf (ah 6 aa) i=none:=fun i=>by
  unfold Xf;rw[ae,ap];split<;>rfl
 refine⟨zd _,(fun x I=>by cases I),rfl,rfl,rfl,fun i=>?_,Nat.lt_succ_self 0,by show 1<=12;decide,fun _=>rfl,(fun a e=>by cases e),fun j D=>?_,(fun i a e=>by have e:Xf (ah 6 aa) i=ab a:=e;rw[H]at e;cases e),(fun a e=>by cases e),(fun i J=>absurd J (ak i))⟩
 ·show(Yc (ah 6 ⟨#[]⟩) i).size<=1000;unfold Yc;rw[ae,ap];split<;>decide
 ·have D:j<1:=D;rw[show j=0 by omega];exact⟨K,U⟩
theorem iZ.fO {ad:Nat->aR}(h:iZ ad w)(H:∀k,k<w.heap.size->W.heap[k]?=w.heap[k]?):iZ ad W:=by
 have D:∀{b:Nat} {v:ar},w.cell? ⟨b,0,aa⟩=ab v->W.cell? ⟨b,0,aa⟩=ab v:=fun {b v} e=>(au (a:=⟨b,0,aa⟩) (H b (Yl e))).trans e
 refine⟨⟨D h.q.c1,D h.q.c2,D h.q.c3,D h.q.c4,D h.q.c5⟩,⟨?_,TabIs.dJ h.x.2 H⟩,h.sv.dI H,D h.bO,D h.held⟩;obtain⟨z,I⟩:=h.x.1;exact⟨z,D I⟩
section
variable {w w':World} {B h:Nat} {O O':Nat->Option Whose} {m:Ya} {X:WB} {ml:List (Zb×Lv)} {nb hn:Nat->Nat} {n k:Nat} {ad:Nat->aR}
def yY (c:fB):WB:=⟨.slice aa 0 0,fun _=>⟨aa,ac,⟨#[]⟩,0,0⟩,.slice aa 0 0,aa,⟨⟨0,0,[]⟩,aa,0⟩,c,0,0,0,.slice aa 0 0⟩
open Classical in
theorem JsZ {c:fB}(K:w'.heap[h]?=ab (.cells (Zi (yY c)) 65 (0,0)))(hB:w.heap.size<=h)(hc:Yn w' c.c c.p c.cap)(a0:∀b o,c.p=ab ⟨b,o,aa⟩->w.heap.size<=b/\b<w'.heap.size/\b≠h):∃O,Ye w' w.heap.size h O (Ya.bare c.c) (yY c) [] (fun _=>0) (fun _=>0)/\∀k,O k≠aa->w.heap.size<=k:=by
 have a2:h<w'.heap.size:=by
  rcases Nat.lt_or_ge h w'.heap.size with H|H
  ·exact H
  ·rw[Array.getElem?_eq_none H]at K;cases K
 obtain⟨O,I⟩:∃O:Nat->Option Whose,O=fun k=>if k=h then ab .self else if ∃o,c.p=ab ⟨k,o,aa⟩then ab .bD else none:=⟨_,rfl⟩
 have oh:O h=ab .self:=by rw[I];exact if_pos rfl
 have oc:∀b o,c.p=ab ⟨b,o,aa⟩->O b=ab .bD:=fun b o e=>by
  rw[I];show(if b=h then _ else _)=_;rw[if_neg (a0 b o e).2.2,if_pos ⟨o,e⟩]
 have U:∀k o,O k=ab o->w.heap.size<=k/\k<w'.heap.size:=fun k o e=>by
  rw[I]at e;have e:(if k=h then ab Whose.self else if ∃o,c.p=ab ⟨k,o,aa⟩then ab .bD else aa)=ab o:=e;by_cases Z:k=h
  ·rw[Z];exact⟨hB,a2⟩
  ·rw[if_neg Z]at e;by_cases D:∃o,c.p=ab ⟨k,o,aa⟩
   ·obtain⟨o2,D⟩:=D;have:=a0 k o2 D;omega
   ·rw[if_neg D]at e;cases e
 have ha:∀i,Xf (ah 6 aa) i=none:=fun i=>by
  unfold Xf;rw[ae,ap];split<;>rfl
 refine⟨O,{aO:=U,row:=Zc.nil _ _ _,cX:=(fun k e=>by cases e),dK:=rfl,bD:=(fun x hx=>by cases hx),bV:=Zc.nil _ _ _,cS:=(fun k e=>by cases e),cD:=Zc.nil _ _ _,bU:=(fun k e=>by cases e),node:=(fun i J=>absurd J (ak i)),mem:=(fun i J=>absurd J (ak i)),ask:=fun i _=>?_,bI:=rfl,cf:=⟨hc,oc⟩,blk:=K,self:=oh,cV:=rfl,dF:=(fun e=>by cases e),aW:=⟨rfl,rfl,rfl⟩},fun k e=>?_⟩
 ·show kA _ _ _ _ (Xf (ah 6 aa) i) _ _ _;rw[ha];rfl
 ·cases D:O k with
  |none=>exact absurd D e
  |some o=>exact(U k o D).1
end
end
section
open Ring
section
variable {w w':World} {B h:Nat} {O O':Nat->Option Whose} {m:Ya} {X:WB} {ml:List (Zb×Lv)} {nb hn:Nat->Nat} {ad:Nat->aR}
theorem Yd.jG {U:World}(D:af H.heap.size H K)(Z:∀k,O k≠aa->H.heap.size<=k)(I:Yd (fun k=>O k≠aa) S K U):af H.heap.size H U:=⟨I.os.trans D.os,I.tape.trans D.tape,I.output.trans D.output,aq D.size I.size,fun k J=>(I.block k (an J D.size) (fun e=>by have:=Z k e;omega)).trans (D.block k J)⟩
def qJ (ad:Nat->aR)(w:World)(l:List BA)(n k:Int)(e:Ending)(w':World):Prop :=
 ((0<(Zr l n k).1/\∃D,e=.returned (.tuple #[.pointer aa,D])/\Jd w' ad D (Zr l n k).1 (Zr l n k).2) ∨
  (¬0<(Zr l n k).1/\∃h c,e=.returned (.tuple #[.pointer (ab ⟨h,0,aa⟩),.nilIface])/\c.n=n/\c.k=k/\XC (Xy wX) l c.L/\¬0<(Jg c).1/\∃O X ml nb hn,Ye w' w.heap.size h O ((Ya.bare c).cE l) X ml nb hn))/\af w.heap.size w w'
theorem GR (ad:Nat->aR)(p:Option aR)(l:List BA)(cap:Nat)(n k:Int)(w:World)(hl:l.length<=1000)(hc:l.length<=cap)(hx:∀x∈l,x.size<=1000)(hn:Zt n)(hk:Zt k)(hs:Strs w p l)(hE:iZ ad w):
 ag prog 6 #[.slice p l.length cap,.int .i64 n,.int .i64 k] w (qJ ad w l n k):=by
 have a4:=FN ad p l cap n k w hl hc hx hn hk hs hE;by_cases J:0<(Zr l n k).1
 ·have a3:ag prog 16 #[.slice p l.length cap,.int .i64 n,.int .i64 k] w fun e I=>∃t v,e=.returned (.tuple #[.agg #[.int .i64 0,.int .i64 0,.slice aa 0 0],.iface t v])/\Hid (∀W,af I.heap.size I W->qJ ad w l n k (.returned (.tuple #[.pointer aa,.iface t v])) W):=a4.mono fun e I H=>by
   obtain⟨H,Z⟩:=H;rcases H with⟨_,ev,K,h2⟩|⟨K,_⟩
   ·obtain⟨t,v,rfl⟩:=h2.some J;exact⟨t,v,K,fun W hW=>⟨bk ⟨J,_,rfl,h2.below hW⟩,Z.trans (hW.mono Z.size)⟩⟩
   ·exact absurd J K
  generalize qJ ad w l n k=G at *;clear a4 J hE hs hk hn hx hc hl;go_enter func6,ntmps6;go_wp2_with fail
  refine a3.mono ?_;rintro e I ⟨t,v,rfl,HG⟩;clear a3;go_wp2;exact HG.out _ (bR.alloc nR _)
 ·have a3:ag prog 16 #[.slice p l.length cap,.int .i64 n,.int .i64 k] w fun e I=>∃c:fB,e=.returned (.tuple #[.agg #[.int .i64 c.c.n,.int .i64 c.c.k,.slice c.p c.c.L.length c.cap],.nilIface])/\Hid (∀D w3,D=I.alloc (.cells #[.int .i64 c.c.n,.int .i64 c.c.k,.slice c.p c.c.L.length c.cap] 49)->w3=D.alloc (.cells #[.slice aa 0 0,.pointer aa,.bool ac,.string ⟨#[]⟩,.int .i64 0,.int .i64 0,.pointer aa,.bool ac,.string ⟨#[]⟩,.int .i64 0,.int .i64 0,.pointer aa,.bool ac,.string ⟨#[]⟩,.int .i64 0,.int .i64 0,.pointer aa,.bool ac,.string ⟨#[]⟩,.int .i64 0,.int .i64 0,.pointer aa,.bool ac,.string ⟨#[]⟩,.int .i64 0,.int .i64 0,.pointer aa,.bool ac,.string ⟨#[]⟩,.int .i64 0,.int .i64 0,.slice aa 0 0,.pointer aa,.int .i64 0,.int .i64 0,.slice aa 0 0,.int .i64 c.c.n,.int .i64 c.c.k,.slice c.p c.c.L.length c.cap,.int .i64 0,.int .i64 0,.int .i64 0,.slice aa 0 0] 65)->ag prog 17 #[.pointer (ab ⟨D.heap.size,0,aa⟩),.slice p l.length cap] w3 fun e w4=>e=.returned (.tuple #[])/\Hid (qJ ad w l n k (.returned (.tuple #[.pointer (ab ⟨D.heap.size,0,aa⟩),.nilIface])) w4)):=a4.mono fun e I H=>by
   obtain⟨H,Z⟩:=H;rcases H with⟨K,_⟩|⟨_,c,K,h2,h3,h4,h5,h6,h7⟩
   ·exact absurd K J
   ·refine⟨c,K,fun D w3 a0 U=>?_⟩;have a6:=Zk a0;have b2:=Zk U;have a7:=a6.trans (b2.mono a6.size);have a5:=Z.trans (a7.mono Z.size);have b3:=a6.size;have d0:=fQ U;have b4:w3.heap[D.heap.size]?=ab (.cells (Zi (yY c)) 65 (0,0)):=by
     rw[U];show(D.heap.push _)[D.heap.size]?=_;rw[Array.getElem?_push_size];rfl
    obtain⟨O,hp,hO⟩:=JsZ (w:=w) b4 (aq Z.size b3) (h6.below a7) (fun b o e=>⟨(h7 b o e).1,by have:=(h7 b o e).2;omega,by have:=(h7 b o e).2;omega⟩);have hN:¬0<(Xj l).1:=fun h=>J (by unfold Zr;rw[if_pos h];exact h)
    obtain⟨_,a8,d1⟩:=QV (l:=l) (by omega);refine(DF (ad:=ad) hp p l cap (by show 0+l.length<=1000;omega) (YP (by omega)).1 (hs.below a5) (fun b o e=>?_) (fun W d2 a2=>hE.fO (fun k hk=>?_))).mono fun e w4 H=>⟨H.1,zb ⟨J,D.heap.size,c.c,rfl,h2,h3,h4,h5,?_⟩,?_⟩
    ·cases e2:O b with
     |none=>rfl
     |some o2 =>
      have h8:=hO b (by rw[e2];exact fun e=>by cases e);rcases hs with h0|⟨b',o',b5,d3,_⟩
      ·rw[h0]at a8;exact absurd a8 (by decide)
      ·rw[b5]at e;injection e with e;injection e with e;omega
    ·have h8:O k=none:=by
      cases e2:O k with
      |none=>rfl
      |some o2=>have:=hO k (by rw[e2];exact fun e=>by cases e);omega
     exact(a2 k (an hk a5.size) h8).trans (a5.block k hk)
    ·obtain⟨O4,X4,a9,b0,b1,g1,_⟩:=H.2;exact⟨O4,X4,a9,b0,b1,g1⟩
    ·obtain⟨O4,X4,a9,b0,b1,_,g2⟩:=H.2;exact Yd.jG a5 hO g2
  generalize qJ ad w l n k=G at *;clear a4 J hE hs hk hn hx hc hl;go_enter func6,ntmps6;go_wp2_with fail
  refine a3.mono ?_;rintro e I ⟨c,rfl,HG⟩;obtain⟨D,a0⟩:=Xb (I.alloc (.cells #[.int .i64 c.c.n,.int .i64 c.c.k,.slice c.p c.c.L.length c.cap] 49));obtain⟨w3,U⟩:=Xb (D.alloc (.cells #[.slice aa 0 0,.pointer aa,.bool ac,.string ⟨#[]⟩,.int .i64 0,.int .i64 0,.pointer aa,.bool ac,.string ⟨#[]⟩,.int .i64 0,.int .i64 0,.pointer aa,.bool ac,.string ⟨#[]⟩,.int .i64 0,.int .i64 0,.pointer aa,.bool ac,.string ⟨#[]⟩,.int .i64 0,.int .i64 0,.pointer aa,.bool ac,.string ⟨#[]⟩,.int .i64 0,.int .i64 0,.pointer aa,.bool ac,.string ⟨#[]⟩,.int .i64 0,.int .i64 0,.slice aa 0 0,.pointer aa,.int .i64 0,.int .i64 0,.slice aa 0 0,.int .i64 c.c.n,.int .i64 c.c.k,.slice c.p c.c.L.length c.cap,.int .i64 0,.int .i64 0,.int .i64 0,.slice aa 0 0] 65));have b6:=HG.out D w3 a0 U;have a2:=JH a0;have x0:=(Xa a2 0).1;have x1:=(Xa a2 1).1;have x2:=(Xa a2 2).1;have b7:Hid _:=a0;have b8:Hid _:=U;clear a3 HG a2 a0 U;generalize c.c.L.length=cl at *;generalize c.c.n=cn at *;generalize c.c.k=ck at *;go_wp2_with (first|rw[<-b8.out]|rw[<-b7.out]|fail)
  refine b6.mono ?_;rintro e w4 ⟨rfl,c8⟩;go_wp2;exact c8.out
end
end
section
section
variable {w w':World} {B h:Nat} {O O':Nat->Option Whose} {m:Ya} {X:WB} {ml:List (Zb×Lv)} {nb hn:Nat->Nat} {n k:Nat} {ad:Nat->aR}
theorem XM.dA (h:XM w B b S a)(Z:w.heap.size<=w'.heap.size)(hk:∀k,S k->w'.heap[k]?=w.heap[k]?):XM w' B b S a:=by
 obtain⟨⟨H,P,F,T,asks,I,J,mm,D,row,K⟩,U⟩:=h;exact⟨⟨H,P,F,T,asks,I,J,mm,D,row,K.aS Z hk⟩,U⟩
theorem XM.dH (h:XM w B b S a):∀k,S k->B<=k/\k<w.heap.size:=by
 obtain⟨⟨I,P,F,T,asks,J,K,mm,D,row,H⟩,U⟩:=h;exact H.aO
theorem XM.base {J:Nat}(h:XM w J b S a)(hB:B<=J):XM w B b S a:=by
 obtain⟨⟨K,P,F,T,asks,U,Z,mm,D,row,H⟩,hf⟩:=h;exact⟨⟨K,P,F,T,asks,U,Z,mm,D,row,{H with aO:=fun k I=>⟨aq hB (H.aO k I).1,(H.aO k I).2⟩}⟩,hf⟩
theorem sC (J:Ye w B h O m X ml nb hn):ag prog 21 #[.pointer (ab ⟨h,32,aa⟩)] w fun e w'=>e=.returned (.bool m.mover.isSome)/\w'=w:=by
 have H:w.cell? ⟨h,32,aa⟩=ab (J3 X.mp):=(J.cell 32).1;have D:=J.bI;cases I:m.mover with
 |none =>
  rw[I]at D;have D:=D;rw[D]at H;change w.cell? ⟨h,32,aa⟩=ab (.pointer aa)at H;show ag _ _ _ _ fun e w'=>e=.returned (.bool ac)/\_
  clear D I J;go_enter func21,ntmps21;go_wp2;go_ret;exact⟨rfl,rfl⟩
 |some a =>
  rw[I]at D;obtain⟨b,K,_⟩:=D;rw[K]at H;change w.cell? ⟨h,32,aa⟩=ab (.pointer (ab ⟨b,0,aa⟩))at H;show ag _ _ _ _ fun e w'=>e=.returned (.bool aw)/\_
  clear K I J;go_enter func21,ntmps21;go_wp2;go_ret;exact⟨rfl,rfl⟩
theorem Ye.rH (D:Ye w B h O m X ml nb hn){K:Nat->Prop}(hX:X.mp=ab b)(hm:m.mover.isSome)(U:XM w' B b K a)(I:Yd (fun k=>O k=ab .bI) K w w')(a0:iR w O X.nx):
 ∃O',Ye w' B h O' {m with mover:=ab a} X ml nb hn/\(∀k,w.heap.size<=k->k<w'.heap.size->¬K k->O' k=ab .bD)/\Yd (fun k=>O k≠aa) (fun k=>O' k≠aa) w w':=by
 have J:=Qv.call (t:=.bI) (fun e=>by cases e) D.aO D.base I (fun k H=>(U.dH k H).2);refine⟨_,{D.toXJ.mJ (m':={m with mover:=ab a}) (X':=X) J rfl rfl rfl ⟨rfl,rfl,rfl⟩ rfl rfl rfl rfl ?_ (D.cf.kept J.bD J.size (fun k H=>J.kept k _ H (fun e=>by cases e) (fun e=>by cases e)))with blk:=?_,self:=?_,cV:=D.cV,dF:=fun _=>D.dF hm,aW:=D.aW},fun k Z h2 h3=>oK (fun k o e=>(D.aO k o e).2) h3 Z h2,QM ⟨I.os,I.tape,I.output,I.size,fun k H h=>I.block k H (fun e=>h (bk e)),fun k H=>(I.new k H).imp (fun h=>bk h) id⟩ I.new⟩
 ·refine⟨b,hX,?_,a0.kept J.bD J.size (fun k H=>J.kept k _ H (fun e=>by cases e) (fun e=>by cases e))⟩;have e:(fun k=>turnO O .bI K w.heap.size w'.heap.size k=ab .bI)=K:=funext fun k=>propext (ZU (fun e=>by cases e) k)
  rw[e];exact U
 ·exact(I.block h D.lt (fun e=>by have e:O h=ab .bI:=e;rw[D.self]at e;cases e)).trans D.blk
 ·exact(J.same .self h (fun e=>by cases e) (fun e=>by cases e)).2 D.self
end
end
section
section
variable {w w':World} {B h:Nat} {O O':Nat->Option Whose} {m:Ya} {X:WB} {ml:List (Zb×Lv)} {nb hn:Nat->Nat} {n k:Nat} {ad:Nat->aR}
theorem RQ (H:WZ n k m):(m.aB.length:Int)=(m.aC:Int)+1+(if m.mover.isSome then 1 else 0):=by
 cases D:m.mover with
 |none=>have:=H.dN D;simp;omega
 |some a=>have:=H.dO a D;simp;omega
theorem EL (K:Ye w B h O m X ml nb hn)(U:WZ n k m):ag prog 14 #[.pointer (ab ⟨h,0,aa⟩)] w fun e w'=>e=.returned (.tuple #[.int .i64 m.aB.length,.int .i64 m.aC])/\af w.heap.size w w':=by
 have I:=sC K;have D:Hid _:=RQ U;have hc:w.cell? ⟨h,39,aa⟩=ab (.int .i64 X.act):=(K.cell 39).1;rw[K.aW.1]at hc;have a0:m.aC<=100:=by have:=U.act;have:=U.many;omega
 clear K U;generalize m.aB.length=L at *;generalize m.aC=a at *;cases J:m.mover.isSome with
 |false =>
  rw[J]at I D;have Z:Hid ((L:Int)=(a:Int)+1):=by show _=_;have:=D.out;simpa using this
  clear D J;go_enter func14,ntmps14;go_wp2_with fail
  refine I.mono ?_;rintro e w1 ⟨rfl,H⟩;rw[H];clear H w1;go_wp2;go_quiet (fail)
  go_wp2
  go_ret2
  refine⟨?_,below_drewN bR _⟩;rw[Z.out];rfl
 |true =>
  rw[J]at I D;have Z:Hid ((L:Int)=(a:Int)+1+1):=by show _=_;have:=D.out;simpa using this
  clear D J;go_enter func14,ntmps14;go_wp2_with fail
  refine I.mono ?_;rintro e w1 ⟨rfl,H⟩;rw[H];clear H w1;go_wp2;go_quiet (fail)
  go_wp2
  go_ret2
  refine⟨?_,below_drewN bR _⟩;rw[Z.out];rfl
theorem KI (hp:Ye w B h O m X ml nb hn)(who:Int):ag prog 13 #[.pointer (ab ⟨h,0,aa⟩),.int .i64 who] w fun e w'=>e=.returned (.string (m.state who))/\af w.heap.size w w':=by
 have I:=uM who w;by_cases J:0<=who/\who<6
 ·obtain⟨i,rfl⟩:∃i:Nat,who=(i:Int):=⟨who.toNat,by omega⟩;have hi:i<6:=by omega
  rw[decide_eq_true J]at I;have a0:=XV hp hi;have H:Hid (m.state (i:Int)=match Xf m.asks i with|none=>pQ|some a=>a.st.word):=by show _=_;unfold Ya.state;rw[if_neg (by omega),Int.toNat_natCast];cases Xf m.asks i<;>rfl
  have z1:(0:Int)<=(i:Int):=by omega
  have z2:(i:Int)<6:=by omega
  cases ha:Xf m.asks i with
  |none =>
   rw[ha]at a0 H;have K:Hid _:=H.out;generalize m.state (i:Int)=R at *;clear H hp J ha;go_enter func13,ntmps13;go_wp2_with fail
   refine I.mono ?_;rintro e U ⟨rfl,D⟩;rw[D];clear D U;go_wp2_with fail
   refine a0.mono ?_;rintro e w2 ⟨rfl,Z⟩;have HB:Hid _:=Z;clear Z;go_wp2;go_ret;exact⟨by rw[K.out];rfl,HB.out⟩
  |some a =>
   rw[ha]at a0 H;have K:Hid (m.state (i:Int)=kV (ab a)):=H.out;generalize m.state (i:Int)=R at *;clear H hp J ha;generalize kV (ab a)=sw at *;go_enter func13,ntmps13;go_wp2_with fail
   refine I.mono ?_;rintro e U ⟨rfl,D⟩;rw[D];clear D U;go_wp2_with fail
   refine a0.mono ?_;rintro e w2 ⟨rfl,Z⟩;have HB:Hid _:=Z;clear Z;go_wp2;go_ret;exact⟨by rw[K.out];rfl,HB.out⟩
 ·rw[decide_eq_false J]at I;have K:Hid (m.state who=⟨#[105,100,108,101]⟩):=by show _=_;unfold Ya.state;rw[if_pos (by omega)];rfl
  generalize m.state who=R at *;clear hp J;go_enter func13,ntmps13;go_wp2_with fail
  refine I.mono ?_;rintro e U ⟨rfl,D⟩;rw[D];clear D U;go_wp2;go_ret;exact⟨by rw[K.out];rfl,zf _ _⟩
end
end
theorem Joe (w:World):ag prog 48 #[.slice aa 0 0] w fun e w'=>e=.returned (.slice aa 0 0)/\w'=w:=by
 have B:∀W,Sem.run prog (binOp .eql 46 (.slice aa 0 0) (.slice aa 0 0)) W=.ok (.bool aw) W:=fun W=>by kernel_rfl
 go_enter func48,ntmps48;go_wp2;go_ret;exact⟨rfl,rfl⟩
theorem MN (ad:aR)(c:Nat)(w:World):ag prog 48 #[.slice (ab ad) 0 c] w fun e w'=>(∃B,e=.returned B/\Zc mE 90 w' w.heap.size B [])/\af w.heap.size w w':=by
 have D:∀W,Sem.run prog (binOp .eql 46 (.slice (ab ad) 0 c) (.slice aa 0 0)) W=.ok (.bool ac) W:=fun W=>by kernel_rfl
 go_enter func48,ntmps48;go_wp2;go_ret;refine⟨⟨_,rfl,rfl,zb ⟨w.heap.size,0,#[],rfl,aI _,?_,aI _,by unfold maxLen;omega,rfl,rfl⟩⟩,bR.alloc nR _⟩;show(w.heap.push _)[w.heap.size]?=_;simp
theorem V2 (q:Option aR)(l:List (Zb×Lv))(c:Nat)(w:World)(hr:Ql mE w q l)(hq:q=aa->l=[]/\c=0)(hl:l.length<=1000):ag prog 48 #[.slice q l.length c] w fun e w'=>(∃H,e=.returned H/\Zc mE 90 w' w.heap.size H l)/\af w.heap.size w w':=by
 cases q with
 |none =>
  obtain⟨D,I⟩:=hq rfl;subst D I;exact(Joe w).mono fun e w' B=>⟨⟨_,B.1,Zc.nil _ _ _⟩,by rw[B.2];exact zf _ _⟩
 |some ad =>
  by_cases J:l=[]
  ·subst J;exact(MN ad c w).mono fun e w' B=>⟨B.1,B.2⟩
  ·rcases hr with D|⟨b,o,B,a5,O⟩
   ·exact absurd D J
   obtain rfl:ad=⟨b,o,aa⟩:=Option.some.inj B;obtain⟨U,Z,a0,a2,a3⟩:=info_parts oR;have a4:∀j u,(Qb mE l)[j]?=ab u->w.cell? ⟨b,o+j,aa⟩=ab u:=fun j u hj=>by
    have:=Ql.cells (E:=mE) O j u hj;by_cases K:j=0
    ·subst K;simpa[Addr.add]using this
    ·simpa[Addr.add,K]using this
   exact(slices_CloneM U _ 8 112 Z a0 a2 a3 rfl (by decide) (fun W=>by kernel_rfl) b o l.length c (Qb mE l) w (Qr mE l) (by unfold maxLen;omega) (by omega) a4 (Zz mE l)).mono fun e w' ⟨H,D,I,_,h4⟩=>⟨⟨H,D,I⟩,h4⟩
theorem Zc.kY {B:Nat}{v:ar}{l:List Yb}(h:Zc Ze 142 w B v l)(Z:i<l.length):∃b o c,v=.slice (ab ⟨b,o,aa⟩) l.length c/\w.cell? ⟨b,o+i*5+4,aa⟩=ab (.string (Xd l i).text)/\w.frozen? ⟨b,o+i*5+4,aa⟩=ac/\B<=b/\b<w.heap.size:=by
 obtain⟨p,c,I,J,_,_,K⟩:=h.form;obtain⟨b,o,rfl,a0,_,_,_,_,O⟩:=QU J Z;refine⟨b,o,c,I,O,?_,K b o rfl⟩;rcases h.2 with⟨D,_⟩|⟨g,cap,a2,D,_,U,_⟩
 ·rw[I]at D;cases D
 ·rw[I]at D;injection D with H _ _
  injection H with H
  injection H with H _ _
  subst H;exact(Xa U _).2
theorem PL {a0 a1 a2 a3 a4 a5 a6 a7:ar}(hb:W.heap[b]?=ab (.cells #[a0,a1,a2,a3,a4,a5,a6,a7] T (0,0)))(B D H I J K O U:ar):((((((((W.setCell ⟨b,0,aa⟩ B).setCell ⟨b,1,aa⟩ D).setCell ⟨b,2,aa⟩ H).setCell ⟨b,3,aa⟩ I).setCell ⟨b,4,aa⟩ J).setCell ⟨b,5,aa⟩ K).setCell ⟨b,6,aa⟩ O).setCell ⟨b,7,aa⟩ U).heap[b]?=ab (.cells #[B,D,H,I,J,K,O,U] T (0,0)):=by
 have Z:=Qc hb 0 B;generalize W.setCell (pA b 0) B=w0 at *;have h1:=Qc Z 1 D;generalize w0.setCell (pA b 1) D=w1 at *;have h2:=Qc h1 2 H;generalize w1.setCell (pA b 2) H=w2 at *;have h3:=Qc h2 3 I;generalize w2.setCell (pA b 3) I=w3 at *;have h4:=Qc h3 4 J;generalize w3.setCell (pA b 4) J=w4 at *;have h5:=Qc h4 5 K;generalize w4.setCell (pA b 5) K=w5 at *;have h6:=Qc h5 6 O;generalize w5.setCell (pA b 6) O=w6 at *;have h7:=Qc h6 7 U;rw[h7];simp only[al,ay,az]
theorem SH (x:Zb×Lv)(w:World)(hL:Jn w x)(hx:YF x.1):ag prog 49 #[Z1 x.1 (fI x.2)] w fun e w'=>(∃lv:Lv,e=.returned (Z1 x.1 (fI lv))/\Jn w' (x.1,lv)/\∀b o,lv.1=ab ⟨b,o,aa⟩->w.heap.size<=b/\b<w'.heap.size)/\af w.heap.size w w':=by
 obtain⟨⟨fr,aP,ki,ke,op,cf,I,L⟩,q,nl,c⟩:=x;have g9:nl=L.length:=hL.len;subst g9;have J:Ql Ze w q L:=hL.eC;have U:q=aa->L=[]/\c=0:=hL.empty;have h0:fr.size<=100:=hx.fr;have h2:aP.size<=100:=hx.aP;have h3:ki.size<=100:=hx.ki;have h4:ke.size<=100:=hx.ke;have p3:L.length<=60:=hx.bO;have b6:∀i,i<L.length->(Xd L i).text.size<=1000:=fun i hi=>(hx.cM _ (by have:=Xx hi;exact List.mem_of_getElem? this)).2
 obtain⟨B,a2⟩:=Xb ((w.alloc (.cells #[.string fr,.string aP,.string ki,.string ke,.int .i64 op,.int .i64 cf,.bool I,.slice q L.length c] 90)).alloc (.cells #[.string ⟨#[]⟩,.string ⟨#[]⟩,.string ⟨#[]⟩,.string ⟨#[]⟩,.int .i64 0,.int .i64 0,.bool ac,.slice aa 0 0] 90));have b0:af w.heap.size w B:=by rw[a2];exact(bR.alloc nR _).alloc (by simp) _
 have h6:B.heap.size=w.heap.size+2:=by rw[a2];simp
 have b8:B.heap[w.heap.size]?=ab (.cells #[.string fr,.string aP,.string ki,.string ke,.int .i64 op,.int .i64 cf,.bool I,.slice q L.length c] 90 (0,0)):=by
  rw[a2];show((w.heap.push _).push _)[w.heap.size]?=_;rw[ax,ax];simp
 have c8:B.heap[w.heap.size+1]?=ab (.cells #[.string ⟨#[]⟩,.string ⟨#[]⟩,.string ⟨#[]⟩,.string ⟨#[]⟩,.int .i64 0,.int .i64 0,.bool ac,.slice aa 0 0] 90 (0,0)):=by
  rw[a2];show((w.heap.push _).push _)[w.heap.size+1]?=_;rw[ax];simp
 have HK:Hid (∀W,af B.heap.size B W->W.heap[w.heap.size]?=ab (.cells #[.string fr,.string aP,.string ki,.string ke,.int .i64 op,.int .i64 cf,.bool I,.slice q L.length c] 90 (0,0))/\W.heap[w.heap.size+1]?=ab (.cells #[.string ⟨#[]⟩,.string ⟨#[]⟩,.string ⟨#[]⟩,.string ⟨#[]⟩,.int .i64 0,.int .i64 0,.bool ac,.slice aa 0 0] 90 (0,0))):=fun W K=>⟨(K.block _ (by omega)).trans b8,(K.block _ (by omega)).trans c8⟩
 have HF:Hid (∀W,af B.heap.size B W->(W.cell? (pA w.heap.size 0)=ab (.string fr)/\W.cell? (pA w.heap.size 1)=ab (.string aP)/\W.cell? (pA w.heap.size 2)=ab (.string ki)/\W.cell? (pA w.heap.size 3)=ab (.string ke))/\(W.frozen? (pA w.heap.size 0)=ac/\W.frozen? (pA w.heap.size 1)=ac/\W.frozen? (pA w.heap.size 2)=ac/\W.frozen? (pA w.heap.size 3)=ac)/\(W.setCell (pA w.heap.size 0) (.string fr)=W/\W.setCell (pA w.heap.size 1) (.string aP)=W/\W.setCell (pA w.heap.size 2) (.string ki)=W/\W.setCell (pA w.heap.size 3) (.string ke)=W)):=fun W K=>by
  have H:=(HK.out W K).1;have c0:W.cell? (pA w.heap.size 0)=ab (.string fr):=(Xa H 0).1;have c1:W.cell? (pA w.heap.size 1)=ab (.string aP):=(Xa H 1).1;have c2:W.cell? (pA w.heap.size 2)=ab (.string ki):=(Xa H 2).1;have c3:W.cell? (pA w.heap.size 3)=ab (.string ke):=(Xa H 3).1;exact⟨⟨c0,c1,c2,c3⟩,⟨(Xa H 0).2,(Xa H 1).2,(Xa H 2).2,(Xa H 3).2⟩,⟨Yo c0,Yo c1,Yo c2,Yo c3⟩⟩
 have HC:Hid (∀s:BA,s.size<=100->∀W,af B.heap.size B W->ag prog 19 #[.string s] W fun e w'=>e=.returned (.string s)/\((w'.cell? (pA w.heap.size 0)=ab (.string fr)/\w'.cell? (pA w.heap.size 1)=ab (.string aP)/\w'.cell? (pA w.heap.size 2)=ab (.string ki)/\w'.cell? (pA w.heap.size 3)=ab (.string ke))/\(w'.frozen? (pA w.heap.size 0)=ac/\w'.frozen? (pA w.heap.size 1)=ac/\w'.frozen? (pA w.heap.size 2)=ac/\w'.frozen? (pA w.heap.size 3)=ac)/\(w'.setCell (pA w.heap.size 0) (.string fr)=w'/\w'.setCell (pA w.heap.size 1) (.string aP)=w'/\w'.setCell (pA w.heap.size 2) (.string ki)=w'/\w'.setCell (pA w.heap.size 3) (.string ke)=w'))/\Hid (af B.heap.size B w')):=fun s hs W K=>(Xs s W (by omega)).mono fun e w' U=>⟨U.1,HF.out w' (K.trans (U.2.mono K.size)),K.trans (U.2.mono K.size)⟩
 have HV:Hid (∀W,af B.heap.size B W->ag prog 69 #[.slice q L.length c] W fun e w'=>∃D c1,e=.returned (.slice D L.length c1)/\Hid (Zc Ze 142 w' B.heap.size (.slice D L.length c1) L/\af B.heap.size B w')):=fun W K=>by
  have h7:af w.heap.size w W:=b0.trans (K.mono b0.size);refine(IQ q L c W (J.below h7) U (by omega)).mono fun e w' U=>?_
  obtain⟨⟨v,e1,Z⟩,hb⟩:=U;obtain⟨D,c1,rfl,_⟩:=Z.form;exact⟨D,c1,e1,Z.base K.size,K.trans (hb.mono K.size)⟩
 have HT:Hid (∀i,i<L.length->∀W,ag prog 19 #[.string (Xd L i).text] W fun e w'=>e=.returned (.string (Xd L i).text)/\af W.heap.size W w'):=fun i hi W=>Xs _ W (by have:=b6 i hi;omega)
 have a5:Hid (w.heap.size<B.heap.size/\w.heap.size+1<B.heap.size/\af w.heap.size w B):=⟨by omega,by omega,b0⟩;have d8:Hid (B=(w.alloc (.cells #[.string fr,.string aP,.string ki,.string ke,.int .i64 op,.int .i64 cf,.bool I,.slice q L.length c] 90)).alloc (.cells #[.string ⟨#[]⟩,.string ⟨#[]⟩,.string ⟨#[]⟩,.string ⟨#[]⟩,.int .i64 0,.int .i64 0,.bool ac,.slice aa 0 0] 90)):=a2;have b2:Hid (∀W D c1,Zc Ze 142 W B.heap.size (.slice D L.length c1) L->af w.heap.size w W->W.heap[w.heap.size+1]?=ab (.cells #[.string ⟨#[]⟩,.string ⟨#[]⟩,.string ⟨#[]⟩,.string ⟨#[]⟩,.int .i64 0,.int .i64 0,.bool ac,.slice aa 0 0] 90 (0,0))->∀O,O=(((((((W.setCell (pA (w.heap.size+1) 0) (.string fr)).setCell (pA (w.heap.size+1) 1) (.string aP)).setCell (pA (w.heap.size+1) 2) (.string ki)).setCell (pA (w.heap.size+1) 3) (.string ke)).setCell (pA (w.heap.size+1) 4) (.int .i64 op)).setCell (pA (w.heap.size+1) 5) (.int .i64 cf)).setCell (pA (w.heap.size+1) 6) (.bool I)).setCell (pA (w.heap.size+1) 7) (.slice D L.length c1)->O.heap[w.heap.size+1]?=ab (.cells #[.string fr,.string aP,.string ki,.string ke,.int .i64 op,.int .i64 cf,.bool I,.slice D L.length c1] 90 (0,0))/\((∃lv:Lv,(Ending.returned (.agg #[.string fr,.string aP,.string ki,.string ke,.int .i64 op,.int .i64 cf,.bool I,.slice D L.length c1]))=.returned (Z1 ⟨fr,aP,ki,ke,op,cf,I,L⟩ (fI lv))/\Jn O (⟨fr,aP,ki,ke,op,cf,I,L⟩,lv)/\∀b o,lv.1=ab (pA b o)->w.heap.size<=b/\b<O.heap.size)/\af w.heap.size w O)):=fun W D c1 Z hB H O a3=>by
  have h9:=PL H (.string fr) (.string aP) (.string ki) (.string ke) (.int .i64 op) (.int .i64 cf) (.bool I) (.slice D L.length c1);have h8:=xE W (w.heap.size+1) (w.heap.size+1) nR (.string fr) (.string aP) (.string ki) (.string ke) (.int .i64 op) (.int .i64 cf) (.bool I) (.slice D L.length c1);have d9:=xE W (w.heap.size+1) w.heap.size (Nat.le_succ _) (.string fr) (.string aP) (.string ki) (.string ke) (.int .i64 op) (.int .i64 cf) (.bool I) (.slice D L.length c1);rw[<-a3]at h9 h8 d9;have i0:Zc Ze 142 O B.heap.size (.slice D L.length c1) L:=Z.dC (fun k H=>by
   have h1:=(Z.block H).1;rw[a3];have i1:k≠w.heap.size+1:=by omega
   iterate 8 rw[ao _ _ _ _ i1])
  obtain⟨p2,c2,hv,g1,g2,g3,g4⟩:=i0.form;obtain⟨e1,_,e3⟩:=Value.slice.inj hv;subst e1 e3;exact⟨h9,⟨⟨(D,L.length,c1),rfl,⟨rfl,g1,g2,g3⟩,fun b o e=>by have:=g4 b o e;omega⟩,hB.trans d9⟩⟩
 clear hx hL b6 J U b8 c8 h6 a2 b0;have e8:af B.heap.size B B.drew:=bR.drew;obtain⟨⟨i2,i3,i4,i5⟩,⟨i8,i9,j1,j2⟩,⟨k0,k2,k3,k4⟩⟩:=HF.out B bR;show ag _ _ #[.agg #[.string fr,.string aP,.string ki,.string ke,.int .i64 op,.int .i64 cf,.bool I,.slice q L.length c]] _ _;go_enter func49,ntmps49;go_wp2_with (rw[<-d8.out])
 go_cut []from 4 to 11 (fun W=>af B.heap.size B W)
 case first =>
  go_region_law (go_simp;go_at_call 19;refine(HC.out _ (by first|exact h0|exact h2) _ (by first|exact e8|exact a6.out)).mono ?_;rintro e w5 ⟨rfl,⟨⟨k5,k6,l0,l7⟩,⟨l9,m0,m4,m5⟩,⟨m6,m8,m9,n0⟩⟩,a6⟩;go_simp)
  all_goals (go_wp2_with fail;go_meet)
  all_goals exact a6.out
 case rest =>
  obtain⟨⟨n1,n2,n3,n4⟩,⟨n5,n6,n7,n8⟩,⟨n9,o1,o2,o3⟩⟩:=HF.out wc hcut;have e9:af B.heap.size B wc.drew:=hcut.drew;clear hcut e8 i2 i3 i4 i5 i8 i9 j1 j2 k0 k2 k3 k4;go_wp2_with fail
  go_cut []from 12 to 19 (fun W=>af B.heap.size B W)
  case first =>
   go_region_law (go_simp;go_at_call 19;refine(HC.out _ (by first|exact h3|exact h4) _ (by first|exact e9|exact a6.out)).mono ?_;rintro e w5 ⟨rfl,⟨⟨k5,k6,l0,l7⟩,⟨l9,m0,m4,m5⟩,⟨m6,m8,m9,n0⟩⟩,a6⟩;go_simp)
   all_goals (go_wp2_with fail;go_meet)
   all_goals exact a6.out
  case rest =>
   clear n1 n2 n3 n4 n5 n6 n7 n8 n9 o1 o2 o3 e9 HC HF;obtain⟨w4,b3⟩:=Xb wc;have b1:af B.heap.size B w4:=by rw[b3];exact hcut
   rw[<-b3];clear hcut b3;have o4:Hid (af B.heap.size B w4):=b1;have q7:w4.cell? (pA w.heap.size 7)=ab (.slice q L.length c):=(Xa (HK.out w4 b1).1 7).1;have f8:=HV.out w4 b1;clear b1 HV;go_wp2_with fail
   refine f8.mono ?_;rintro e w5 ⟨D,c1,rfl,a8⟩;have a9:=HK.out w5 a8.out.2;have a7:w5.cell? (pA w.heap.size 7)=ab (.slice q L.length c):=(Xa a9.1 7).1;have f7:=(Xa a9.1 7).2;obtain⟨w6,a4⟩:=Xb (w5.setCell (pA w.heap.size 7) (.slice D L.length c1));have b4:w6.heap[w.heap.size]?=ab (.cells #[.string fr,.string aP,.string ki,.string ke,.int .i64 op,.int .i64 cf,.bool I,.slice D L.length c1] 90 (0,0)):=by rw[a4];exact Qc a9.1 7 _
   have f9:w6.heap[w.heap.size+1]?=ab (.cells #[.string ⟨#[]⟩,.string ⟨#[]⟩,.string ⟨#[]⟩,.string ⟨#[]⟩,.int .i64 0,.int .i64 0,.bool ac,.slice aa 0 0] 90 (0,0)):=by rw[a4];exact(ao _ _ _ _ (by show w.heap.size+1≠w.heap.size;omega)).trans a9.2
   have g0:af w.heap.size w w6:=by rw[a4];exact(a5.out.2.2.trans (a8.out.2.mono a5.out.2.2.size)).setCell nR _
   have g5:Zc Ze 142 w6 B.heap.size (.slice D L.length c1) L:=a8.out.1.dC (fun k H=>by rw[a4];exact ao _ _ _ _ (by have:=(a8.out.1.block H).1;have:=a5.out.1;show k≠w.heap.size;omega));have b5:Hid (Zc Ze 142 w6 B.heap.size (.slice D L.length c1) L/\w6.heap[w.heap.size]?=ab (.cells #[.string fr,.string aP,.string ki,.string ke,.int .i64 op,.int .i64 cf,.bool I,.slice D L.length c1] 90 (0,0))/\w6.heap[w.heap.size+1]?=ab (.cells #[.string ⟨#[]⟩,.string ⟨#[]⟩,.string ⟨#[]⟩,.string ⟨#[]⟩,.int .i64 0,.int .i64 0,.bool ac,.slice aa 0 0] 90 (0,0))/\af w.heap.size w w6):=⟨g5,b4,f9,g0⟩;have b7:w6.cell? (pA w.heap.size 7)=ab (.slice D L.length c1):=(Xa b4 7).1;have o5:Hid (w6=w5.setCell (pA w.heap.size 7) (.slice D L.length c1)):=a4;clear a9 b4 f9 g0 g5 a4 a8 f8 o4 HK d8;go_wp2_with (rw[<-o5.out])
   clear a7 f7 b7 q7;go_loopw [27] (fun x wr=>∃i:Nat,i<=L.length/\x=.int .i64 i/\Zc Ze 142 wr B.heap.size (.slice D L.length c1) L/\wr.heap[w.heap.size]?=ab (.cells #[.string fr,.string aP,.string ki,.string ke,.int .i64 op,.int .i64 cf,.bool I,.slice D L.length c1] 90 (0,0))/\wr.heap[w.heap.size+1]?=ab (.cells #[.string ⟨#[]⟩,.string ⟨#[]⟩,.string ⟨#[]⟩,.string ⟨#[]⟩,.int .i64 0,.int .i64 0,.bool ac,.slice aa 0 0] 90 (0,0))/\af w.heap.size w wr) (fun x _=>L.length-(intOf x).toNat)
   case atStart=>exact⟨0,zd _,rfl,b5.out⟩
   case round =>
    obtain⟨i,hi,rfl,Z,H,J,hB⟩:=hrel;by_cases g6:i<L.length
    ·obtain⟨b,o,c2,hv,h5,f5,p4,g7⟩:=Z.kY g6;obtain rfl:D=ab (pA b o):=by injection hv
     clear hv;have k7:wr.cell? (pA w.heap.size 7)=ab (.slice (ab (pA b o)) L.length c1):=(Xa H 7).1;have g8:w.heap.size<wr.heap.size:=(ai.1 H).1;have o6:w.heap.size+1<wr.heap.size:=(ai.1 J).1;have o7:ag prog 19 #[.string (Xd L i).text] wr.drew fun e W=>e=.returned (.string (Xd L i).text)/\W.cell? (pA w.heap.size 7)=ab (.slice (ab (pA b o)) L.length c1)/\(W.cell? (pA b (o+i*5+4))=ab (.string (Xd L i).text)/\W.frozen? (pA b (o+i*5+4))=ac/\W.setCell (pA b (o+i*5+4)) (.string (Xd L i).text)=W)/\Hid (Zc Ze 142 W B.heap.size (.slice (ab (pA b o)) L.length c1) L/\W.heap[w.heap.size]?=ab (.cells #[.string fr,.string aP,.string ki,.string ke,.int .i64 op,.int .i64 cf,.bool I,.slice (ab (pA b o)) L.length c1] 90 (0,0))/\W.heap[w.heap.size+1]?=ab (.cells #[.string ⟨#[]⟩,.string ⟨#[]⟩,.string ⟨#[]⟩,.string ⟨#[]⟩,.int .i64 0,.int .i64 0,.bool ac,.slice aa 0 0] 90 (0,0))/\af w.heap.size w W):=(HT.out i g6 wr.drew).mono fun e W U=>by
      have K:af wr.heap.size wr W:=(zf _ wr).drew.trans U.2;have hc:=(K.cell (p:=(pA b (o+i*5+4))) g7).trans h5;exact⟨U.1,(K.cell (p:=(pA w.heap.size 7)) g8).trans k7,⟨hc,(zc (a:=(pA b (o+i*5+4))) (K.block b g7)).trans f5,Yo hc⟩,Z.kept K,(K.block _ g8).trans H,(K.block _ o6).trans J,hB.trans (K.mono hB.size)⟩
     clear Z H J hB f5 HT b5 b2 a5;generalize (Xd L i).text=t at *;go_wp2_with fail
     go_region_law (go_simp;go_at_call 19;refine o7.mono ?_;rintro e w7 ⟨rfl,m7,⟨g1,g2,g3⟩,H7⟩;go_simp)
     all_goals clear g1 g2 g3
     all_goals go_wp2
     all_goals go_roundw
     all_goals first|exact⟨i+1,by omega,by go_num,H7.out⟩|(simp[intOf];omega)
    ·obtain⟨O,a3⟩:=Xb ((((((((wr.setCell (pA (w.heap.size+1) 0) (.string fr)).setCell (pA (w.heap.size+1) 1) (.string aP)).setCell (pA (w.heap.size+1) 2) (.string ki)).setCell (pA (w.heap.size+1) 3) (.string ke)).setCell (pA (w.heap.size+1) 4) (.int .i64 op)).setCell (pA (w.heap.size+1) 5) (.int .i64 cf)).setCell (pA (w.heap.size+1) 6) (.bool I)).setCell (pA (w.heap.size+1) 7) (.slice D L.length c1));obtain⟨a0,hG⟩:=b2.out wr D c1 Z hB J O a3;have d0:wr.cell? (pA w.heap.size 0)=ab (.string fr):=(Xa H 0).1;have d1:wr.cell? (pA w.heap.size 1)=ab (.string aP):=(Xa H 1).1;have d2:wr.cell? (pA w.heap.size 2)=ab (.string ki):=(Xa H 2).1;have d3:wr.cell? (pA w.heap.size 3)=ab (.string ke):=(Xa H 3).1;have d4:wr.cell? (pA w.heap.size 4)=ab (.int .i64 op):=(Xa H 4).1;have d5:wr.cell? (pA w.heap.size 5)=ab (.int .i64 cf):=(Xa H 5).1;have d6:wr.cell? (pA w.heap.size 6)=ab (.bool I):=(Xa H 6).1;have d7:wr.cell? (pA w.heap.size 7)=ab (.slice D L.length c1):=(Xa H 7).1;have e0:wr.cell? (pA (w.heap.size+1) 0)=ab (.string ⟨#[]⟩):=(Xa J 0).1;have e1:wr.cell? (pA (w.heap.size+1) 1)=ab (.string ⟨#[]⟩):=(Xa J 1).1;have e2:wr.cell? (pA (w.heap.size+1) 2)=ab (.string ⟨#[]⟩):=(Xa J 2).1;have e3:wr.cell? (pA (w.heap.size+1) 3)=ab (.string ⟨#[]⟩):=(Xa J 3).1;have e4:wr.cell? (pA (w.heap.size+1) 4)=ab (.int .i64 0):=(Xa J 4).1;have e5:wr.cell? (pA (w.heap.size+1) 5)=ab (.int .i64 0):=(Xa J 5).1;have e6:wr.cell? (pA (w.heap.size+1) 6)=ab (.bool ac):=(Xa J 6).1;have e7:wr.cell? (pA (w.heap.size+1) 7)=ab (.slice aa 0 0):=(Xa J 7).1;have f0:=(Xa J 0).2;have f1:=(Xa J 1).2;have f2:=(Xa J 2).2;have f3:=(Xa J 3).2;have f4:=(Xa J 4).2;have f5:=(Xa J 5).2;have f6:=(Xa J 6).2;have f7:=(Xa J 7).2;have r0:O.cell? (pA (w.heap.size+1) 0)=ab (.string fr):=(Xa a0 0).1;have r1:O.cell? (pA (w.heap.size+1) 1)=ab (.string aP):=(Xa a0 1).1;have r2:O.cell? (pA (w.heap.size+1) 2)=ab (.string ki):=(Xa a0 2).1;have r3:O.cell? (pA (w.heap.size+1) 3)=ab (.string ke):=(Xa a0 3).1;have r4:O.cell? (pA (w.heap.size+1) 4)=ab (.int .i64 op):=(Xa a0 4).1;have r5:O.cell? (pA (w.heap.size+1) 5)=ab (.int .i64 cf):=(Xa a0 5).1;have r6:O.cell? (pA (w.heap.size+1) 6)=ab (.bool I):=(Xa a0 6).1;have r7:O.cell? (pA (w.heap.size+1) 7)=ab (.slice D L.length c1):=(Xa a0 7).1;have HG:Hid ((∃lv:Lv,(Ending.returned (.agg #[.string fr,.string aP,.string ki,.string ke,.int .i64 op,.int .i64 cf,.bool I,.slice D L.length c1]))=.returned (Z1 ⟨fr,aP,ki,ke,op,cf,I,L⟩ (fI lv))/\Jn O (⟨fr,aP,ki,ke,op,cf,I,L⟩,lv)/\∀b o,lv.1=ab (pA b o)->w.heap.size<=b/\b<O.heap.size)/\af w.heap.size w O):=hG;have p0:Hid (O=(((((((wr.setCell (pA (w.heap.size+1) 0) (.string fr)).setCell (pA (w.heap.size+1) 1) (.string aP)).setCell (pA (w.heap.size+1) 2) (.string ki)).setCell (pA (w.heap.size+1) 3) (.string ke)).setCell (pA (w.heap.size+1) 4) (.int .i64 op)).setCell (pA (w.heap.size+1) 5) (.int .i64 cf)).setCell (pA (w.heap.size+1) 6) (.bool I)).setCell (pA (w.heap.size+1) 7) (.slice D L.length c1)):=a3;clear a3 hG a0 Z H J hB HT b5 b2 a5;go_wp2;rw[<-p0.out];refine bodyPost_ret (v:=.agg #[.string fr,.string aP,.string ki,.string ke,.int .i64 op,.int .i64 cf,.bool I,.slice D L.length c1]) (by simp[results,results49,go_sem,r0,r1,r2,r3,r4,r5,r6,r7]) rfl HG.out
def j0 (W:World)(g B:Nat):List ar->World
 | []=>W
 |v::vs=>j0 (W.setCell ⟨g,B,aa⟩ v) g (B+1) vs
def lJ (B:Array ar)(D:Nat):List ar->Array ar
 | []=>B
 |v::vs=>lJ (B.setIfInBounds D v) (D+1) vs
theorem yZ:∀(B:List ar) (H:Array ar) (D k:Nat),(k<D∨D+B.length<=k)->(lJ H D B)[k]?=H[k]?
 | [],_,_,_,_=>rfl
 |v::B,H,D,k,h=>by
  have I:(v::B).length=B.length+1:=rfl;show(lJ (H.setIfInBounds D v) (D+1) B)[k]?=H[k]?;rw[yZ B _ _ k (by omega),av,if_neg (by omega)]
theorem F7:∀(D:List ar) (H:Array ar) (B t:Nat) (u:ar),D[t]?=ab u->B+t<H.size->(lJ H B D)[B+t]?=ab u
 | [],_,_,_,_,h,_=>by simp at h
 |v::D,H,B,0,u,h,hs=>by
  have e:v=u:=by simpa using h
  show(lJ (H.setIfInBounds B v) (B+1) D)[B+0]?=ab u;rw[yZ D _ _ _ (by omega),av,Nat.add_zero,if_pos rfl,if_pos (by omega),e]
 |v::D,H,B,t+1,u,h,hs=>by
  show(lJ (H.setIfInBounds B v) (B+1) D)[B+(t+1)]?=ab u;rw[show B+(t+1)=B+1+t by omega];exact F7 D _ _ t u (by simpa using h) (by rw[Array.size_setIfInBounds];omega)
theorem zW:∀(D:List ar) {W:World} {g B:Nat} {H:Array ar} {T:TypeId},W.heap[g]?=ab (.cells H T (0,0))->(j0 W g B D).heap[g]?=ab (.cells (lJ H B D) T (0,0))
 | [],_,_,_,_,_,h=>h
 |v::D,W,g,B,_,_,h=>zW D (W:=W.setCell ⟨g,B,aa⟩ v) (Qc h B v)
theorem DR:∀(D:List ar) {w W:World} {B g H:Nat},af B w W->B<=g->af B w (j0 W g H D)
 | [],_,_,_,_,_,h,_=>h
 |v::D,_,W,_,g,H,h,hg=>DR D (W:=W.setCell ⟨g,H,aa⟩ v) (h.setCell hg v) hg
theorem wT:∀(B:List ar) {W:World} {g D k:Nat},k≠g->(j0 W g D B).heap[k]?=W.heap[k]?
 | [],_,_,_,_,_=>rfl
 |v::B,W,g,D,_,h=>(wT B (W:=W.setCell ⟨g,D,aa⟩ v) h).trans (ao _ _ _ _ h)
theorem uL:∀(B:List ar) {W:World} {g D:Nat},(j0 W g D B).heap.size=W.heap.size
 | [],_,_,_=>rfl
 |v::B,W,g,D=>by
  show(j0 (W.setCell ⟨g,D,aa⟩ v) g (D+1) B).heap.size=_;rw[uL B];simp[World.setCell]
theorem V4 {D:List (Zb×Lv)}{I:Array ar}(hr:Ql mE W (ab ⟨g,o,aa⟩) D)(J:i<D.length)(hg:W.heap[g]?=ab (.cells I T (0,0)))(y:Zb×Lv):Ql mE (j0 W g (o+i*8) (Jw y)) (ab ⟨g,o,aa⟩) (D.set i y):=by
 rcases hr with h0|⟨b,o',K,a3,Z⟩
 ·rw[h0]at J;exact absurd J (ak _)
 ·obtain⟨rfl,rfl⟩:g=b/\o=o':=by injection K with K;injection K with h1 h2 _;exact⟨h1,h2⟩
  have a0:∀B,W.cell? ⟨g,B,aa⟩=I[B]?:=fun B=>(Xa hg B).1
  have a4:∀B,(j0 W g (o+i*8) (Jw y)).cell? ⟨g,B,aa⟩=(lJ I (o+i*8) (Jw y))[B]?:=fun B=>(Xa (zW (Jw y) hg) B).1
  refine zb ⟨g,o,rfl,by rw[uL];exact a3,fun j x H t u O=>?_⟩;have ht:t<8:=by
   have:=(List.getElem?_eq_some_iff.1 O).1
   rwa[mE.len]at this
  show(j0 W g (o+i*8) (Jw y)).cell? ⟨g,o+j*8+t,aa⟩=ab u;rw[a4];by_cases e:j=i
  ·subst e;have hx:x=y:=by
    rw[List.getElem?_set_self J]at H;exact(Option.some.inj H).symm
   subst hx;have hz:D[j]?=ab D[j]:=aj J;have a5:t<(mE.enc D[j]).length:=by rw[mE.len];exact ht
   obtain⟨U,a6⟩:∃U,(mE.enc D[j])[t]?=ab U:=⟨_,aj a5⟩;have a2:=Z j _ hz t U a6;rw[show mE.k=8 from rfl,a0]at a2;exact F7 (Jw x) I (o+j*8) t u O (ai.1 a2).1
  ·rw[List.getElem?_set_ne (fun h=>e h.symm)]at H;have:=Z j x H t u O;rw[show mE.k=8 from rfl,a0]at this;rw[yZ _ _ _ _ (by show _∨o+i*8+8<=_;omega)];exact this
structure Q9 (w:World) (g o n:Nat) (ml:List (Zb×Lv)) (i:Nat) (wr:World) (ML:List (Zb×Lv)):Prop where
 len:ML.length=n
 fst:ML.map Prod.fst=ml.map Prod.fst
 eC:Ql mE wr (ab ⟨g,o,aa⟩) ML
 blk:∃cur,wr.heap[g]?=ab (.cells cur 90 (0,0))
 has:∀x∈ML,Jn wr x/\∀b o,x.2.1=ab ⟨b,o,aa⟩->b≠g
 below:af w.heap.size w wr
theorem Q9.later {wr:World}{I J:List (Zb×Lv)}(h:Q9 w g o n I i wr J)(B:af wr.heap.size wr W):Q9 w g o n I i W J:=by
 obtain⟨K,D⟩:=h.blk;exact⟨h.len,h.fst,h.eC.below B,⟨K,(B.block g (ai.1 D).1).trans D⟩,fun x H=>⟨(h.has x H).1.below B,(h.has x H).2⟩,h.below.trans (B.mono h.below.size)⟩
theorem Q9.put {K B:List (Zb×Lv)}(h:Q9 w g o n K i W B)(hi:i<n)(hg:w.heap.size<=g){lv:Lv}(hl:Jn W ((JN B i).1,lv))(O:∀b o,lv.1=ab ⟨b,o,aa⟩->b≠g):Q9 w g o n K (i+1) (j0 W g (o+i*8) (Jw ((JN B i).1,lv))) (B.set i ((JN B i).1,lv)):=by
 obtain⟨a0,I⟩:=h.blk;have H:i<B.length:=by rw[h.len];exact hi
 refine⟨by rw[List.length_set];exact h.len,?_,V4 h.eC H I _,⟨_,zW _ I⟩,fun x U=>?_,DR _ h.below hg⟩
 ·rw[<-h.fst,List.map_set];show(B.map Prod.fst).set i (JN B i).1=B.map Prod.fst;rw[<-rR H];have:(B[i]).1=(B.map Prod.fst)[i]'(by rw[am];exact H):=by rw[List.getElem_map]
  rw[this,List.set_getElem_self]
 ·have D:x∈B∨x=((JN B i).1,lv):=List.mem_or_eq_of_mem_set U;rcases D with D|D
  ·obtain⟨Z,J⟩:=h.has x D;exact⟨Z.kept (by rw[uL];exact aI _) (fun b o e=>wT _ (J b o e)),J⟩
  ·rw[D];exact⟨hl.kept (by rw[uL];exact aI _) (fun b o e=>wT _ (O b o e)),O⟩
section
section
variable {w w':World} {B h:Nat} {O O':Nat->Option Whose} {m:Ya} {X:WB} {ml:List (Zb×Lv)} {nb hn:Nat->Nat} {n k:Nat} {ad:Nat->aR}
theorem K9 (hp:Ye w B h O m X ml nb hn)(hz:WZ n k m):ag prog 27 #[.pointer (ab ⟨h,0,aa⟩)] w fun e w'=>(∃p c,e=.returned (.slice p m.L.length c)/\mN w' p m.L)/\af w.heap.size w w':=by
 obtain⟨p,c,hv,hr,_,U,_⟩:=hp.row.form;have b0:ml.length=m.L.length:=by rw[<-hp.dK,am]
 have c0:w.cell? ⟨h,0,aa⟩=ab (.slice p m.L.length c):=by rw[<-b0,<-hv];exact(hp.cell 0).1
 have Z:=V2 p ml c w hr U (by have:=hz.bO;omega);rw[b0]at Z;have b4:=hp.dK;have b8:=hz.msgs;have d9:=hz.bO;have b5:∀x∈ml,Jn w x/\∀b o,x.2.1=ab ⟨b,o,aa⟩->b<w.heap.size:=fun x J=>⟨(hp.bD x J).1,fun b o e=>(hp.aO b _ ((hp.bD x J).2 b o e)).2⟩
 by_cases h0:m.L.length=0
 ·have b1:Hid (∀W p1 c1,af w.heap.size w W->(∃p c,(Ending.returned (.slice p1 0 c1))=.returned (.slice p 0 c)/\mN W p m.L)/\af w.heap.size w W):=fun W p1 c1 hW=>⟨⟨p1,c1,rfl,[],(List.length_eq_zero_iff.1 h0).symm,bk rfl,fun x J=>by cases J⟩,hW⟩
  have d2:ag prog 48 #[.slice p 0 c] w fun e w'=>∃p1 c1,e=.returned (.slice p1 0 c1)/\Hid (af w.heap.size w w'):=by
   rw[h0]at Z;refine Z.mono fun e w' U=>?_
   obtain⟨⟨v,e1,hO⟩,hb⟩:=U;obtain⟨p1,c1,rfl,_⟩:=hO.form;rw[b0,h0]at e1;exact⟨p1,c1,e1,hb⟩
  rw[h0]at c0 ⊢;clear hp hz hv hr U b0 b4 b8 d9 b5 h0 Z;generalize m.L=H at *;go_enter func27,ntmps27;go_wp2_with fail
  refine d2.mono ?_;rintro e w1 ⟨p1,c1,rfl,e0⟩;clear d2 c0;go_wp2;go_loopw [12] (fun x wr=>x=.int .i64 0/\af w.heap.size w wr) (fun x _=>0)
  case atStart=>exact⟨rfl,e0.out⟩
  case round =>
   obtain⟨rfl,hB⟩:=hrel;have HB:Hid _:=hB;clear hB;go_wp2;go_ret;exact b1.out _ _ _ HB.out
 ·have Z:ag prog 48 #[.slice p m.L.length c] w fun e w'=>∃g o c1,e=.returned (.slice (ab ⟨g,o,aa⟩) m.L.length c1)/\Hid (w.heap.size<=g/\Q9 w g o m.L.length ml 0 w' ml):=by
   refine Z.mono fun e w' U=>?_
   obtain⟨⟨v,e1,hO⟩,hb⟩:=U;rcases hO.2 with⟨_,h2⟩|⟨g,cap,d3,h2,h3,e5,_⟩
   ·omega
   ·have h2:v=.slice (ab ⟨g,0,aa⟩) ml.length cap:=h2;obtain⟨p2,c2,d4,e6,_⟩:=hO.form;rw[h2]at d4;obtain⟨e3,_,e4⟩:=Value.slice.inj d4;subst e3 e4;refine⟨g,0,cap,by rw[e1,h2,b0],h3,b0,rfl,e6,⟨d3,e5⟩,fun x J=>⟨(b5 x J).1.below hb,fun b o e=>?_⟩,hb⟩;have:=(b5 x J).2 b o e;omega
  have b2:Hid (∀g o i wr H,w.heap.size<=g->i<m.L.length->Q9 w g o m.L.length ml i wr H->∃fr aP ki ke op cf I q nl c,(wr.cell? ⟨g,o+i*8,aa⟩=ab (.string fr)/\wr.cell? ⟨g,o+i*8+1,aa⟩=ab (.string aP)/\wr.cell? ⟨g,o+i*8+2,aa⟩=ab (.string ki)/\wr.cell? ⟨g,o+i*8+3,aa⟩=ab (.string ke)/\wr.cell? ⟨g,o+i*8+4,aa⟩=ab (.int .i64 op)/\wr.cell? ⟨g,o+i*8+5,aa⟩=ab (.int .i64 cf)/\wr.cell? ⟨g,o+i*8+6,aa⟩=ab (.bool I)/\wr.cell? ⟨g,o+i*8+7,aa⟩=ab (.slice q nl c))/\ag prog 49 #[.agg #[.string fr,.string aP,.string ki,.string ke,.int .i64 op,.int .i64 cf,.bool I,.slice q nl c]] wr fun e W=>∃q2 a8 c2,e=.returned (.agg #[.string fr,.string aP,.string ki,.string ke,.int .i64 op,.int .i64 cf,.bool I,.slice q2 a8 c2])/\(W.cell? ⟨g,o+i*8,aa⟩=ab (.string fr)/\W.cell? ⟨g,o+i*8+1,aa⟩=ab (.string aP)/\W.cell? ⟨g,o+i*8+2,aa⟩=ab (.string ki)/\W.cell? ⟨g,o+i*8+3,aa⟩=ab (.string ke)/\W.cell? ⟨g,o+i*8+4,aa⟩=ab (.int .i64 op)/\W.cell? ⟨g,o+i*8+5,aa⟩=ab (.int .i64 cf)/\W.cell? ⟨g,o+i*8+6,aa⟩=ab (.bool I)/\W.cell? ⟨g,o+i*8+7,aa⟩=ab (.slice q nl c))/\(W.frozen? ⟨g,o+i*8,aa⟩=ac/\W.frozen? ⟨g,o+i*8+1,aa⟩=ac/\W.frozen? ⟨g,o+i*8+2,aa⟩=ac/\W.frozen? ⟨g,o+i*8+3,aa⟩=ac/\W.frozen? ⟨g,o+i*8+4,aa⟩=ac/\W.frozen? ⟨g,o+i*8+5,aa⟩=ac/\W.frozen? ⟨g,o+i*8+6,aa⟩=ac/\W.frozen? ⟨g,o+i*8+7,aa⟩=ac)/\Hid (∃e7,Q9 w g o m.L.length ml (i+1) ((((((((W.setCell ⟨g,o+i*8,aa⟩ (.string fr)).setCell ⟨g,o+i*8+1,aa⟩ (.string aP)).setCell ⟨g,o+i*8+2,aa⟩ (.string ki)).setCell ⟨g,o+i*8+3,aa⟩ (.string ke)).setCell ⟨g,o+i*8+4,aa⟩ (.int .i64 op)).setCell ⟨g,o+i*8+5,aa⟩ (.int .i64 cf)).setCell ⟨g,o+i*8+6,aa⟩ (.bool I)).setCell ⟨g,o+i*8+7,aa⟩ (.slice q2 a8 c2)) e7)):=fun g o i wr H hg hi hc=>by
   have c8:i<H.length:=by rw[hc.len];exact hi
   obtain⟨b,o2,d0,e8,k0,k1,k2,k3,k4,k5,k6,k7⟩:=vF hc.eC c8;obtain⟨rfl,rfl⟩:g=b/\o=o2:=by injection d0 with d0;injection d0 with h1 h2 _;exact⟨h1,h2⟩
   have e9:=rR c8;rw[e9]at k0 k1 k2 k3 k4 k5 k6 k7;have d5:=vV c8;have f8:=b8 _ (by rw[<-b4,<-hc.fst];exact List.mem_map_of_mem d5);have f9:=(hc.has _ d5).1;have b3:=SH (JN H i) wr f9 f8;obtain⟨⟨⟨fr,aP,ki,ke,op,cf,I,L⟩,q,nl,c⟩,J⟩:∃x,x=JN H i:=⟨_,rfl⟩;rw[<-J]at k0 k1 k2 k3 k4 k5 k6 k7 b3;refine⟨fr,aP,ki,ke,op,cf,I,q,nl,c,⟨k0,k1,k2,k3,k4,k5,k6,k7⟩,b3.mono fun e W U=>?_⟩;obtain⟨⟨⟨q2,a8,c2⟩,e1,e2,e3⟩,hW⟩:=U;have d6:=hc.later hW;obtain⟨d3,a9⟩:=d6.blk;have hk:∀b6 v,wr.cell? ⟨g,b6,aa⟩=ab v->W.cell? ⟨g,b6,aa⟩=ab v:=fun b6 v e=>(hW.cell (p:=⟨g,b6,aa⟩) e8).trans e
   have d7:=d6.put hi hg (lv:=(q2,a8,c2)) (by rw[<-J];exact e2) (fun b o e=>by have:=(e3 b o e).1;omega);rw[<-J]at d7;exact⟨q2,a8,c2,e1,⟨hk _ _ k0,hk _ _ k1,hk _ _ k2,hk _ _ k3,hk _ _ k4,hk _ _ k5,hk _ _ k6,hk _ _ k7⟩,⟨(Xa a9 _).2,(Xa a9 _).2,(Xa a9 _).2,(Xa a9 _).2,(Xa a9 _).2,(Xa a9 _).2,(Xa a9 _).2,(Xa a9 _).2⟩,_,d7⟩
  have b1:Hid (∀g o i wr H,Q9 w g o m.L.length ml i wr H->mN wr (ab ⟨g,o,aa⟩) m.L/\af w.heap.size w wr):=fun g o i wr H hc=>⟨⟨H,hc.fst.trans b4,hc.eC,fun x J=>(hc.has x J).1⟩,hc.below⟩
  clear hp hz hv hr U b0 b4 b8 b5 h0;generalize m.L.length=N at *;obtain⟨D,hD⟩:∃D:Nat->Nat->Nat->World->Prop,D=fun g o i wr=>∃H,Q9 w g o N ml i wr H:=⟨_,rfl⟩
  have Z:ag prog 48 #[.slice p N c] w fun e w'=>∃g o c1,e=.returned (.slice (ab ⟨g,o,aa⟩) N c1)/\Hid (w.heap.size<=g/\D g o 0 w'):=Z.mono fun e w' U=>by
   obtain⟨g,o,c1,e1,e2⟩:=U;exact⟨g,o,c1,e1,e2.out.1,by rw[hD];exact⟨ml,e2.out.2⟩⟩
  have b2:Hid (∀g o i wr,w.heap.size<=g->i<N->D g o i wr->∃fr aP ki ke op cf I q nl c,(wr.cell? ⟨g,o+i*8,aa⟩=ab (.string fr)/\wr.cell? ⟨g,o+i*8+1,aa⟩=ab (.string aP)/\wr.cell? ⟨g,o+i*8+2,aa⟩=ab (.string ki)/\wr.cell? ⟨g,o+i*8+3,aa⟩=ab (.string ke)/\wr.cell? ⟨g,o+i*8+4,aa⟩=ab (.int .i64 op)/\wr.cell? ⟨g,o+i*8+5,aa⟩=ab (.int .i64 cf)/\wr.cell? ⟨g,o+i*8+6,aa⟩=ab (.bool I)/\wr.cell? ⟨g,o+i*8+7,aa⟩=ab (.slice q nl c))/\ag prog 49 #[.agg #[.string fr,.string aP,.string ki,.string ke,.int .i64 op,.int .i64 cf,.bool I,.slice q nl c]] wr fun e W=>∃q2 a8 c2,e=.returned (.agg #[.string fr,.string aP,.string ki,.string ke,.int .i64 op,.int .i64 cf,.bool I,.slice q2 a8 c2])/\(W.cell? ⟨g,o+i*8,aa⟩=ab (.string fr)/\W.cell? ⟨g,o+i*8+1,aa⟩=ab (.string aP)/\W.cell? ⟨g,o+i*8+2,aa⟩=ab (.string ki)/\W.cell? ⟨g,o+i*8+3,aa⟩=ab (.string ke)/\W.cell? ⟨g,o+i*8+4,aa⟩=ab (.int .i64 op)/\W.cell? ⟨g,o+i*8+5,aa⟩=ab (.int .i64 cf)/\W.cell? ⟨g,o+i*8+6,aa⟩=ab (.bool I)/\W.cell? ⟨g,o+i*8+7,aa⟩=ab (.slice q nl c))/\(W.frozen? ⟨g,o+i*8,aa⟩=ac/\W.frozen? ⟨g,o+i*8+1,aa⟩=ac/\W.frozen? ⟨g,o+i*8+2,aa⟩=ac/\W.frozen? ⟨g,o+i*8+3,aa⟩=ac/\W.frozen? ⟨g,o+i*8+4,aa⟩=ac/\W.frozen? ⟨g,o+i*8+5,aa⟩=ac/\W.frozen? ⟨g,o+i*8+6,aa⟩=ac/\W.frozen? ⟨g,o+i*8+7,aa⟩=ac)/\Hid (D g o (i+1) ((((((((W.setCell ⟨g,o+i*8,aa⟩ (.string fr)).setCell ⟨g,o+i*8+1,aa⟩ (.string aP)).setCell ⟨g,o+i*8+2,aa⟩ (.string ki)).setCell ⟨g,o+i*8+3,aa⟩ (.string ke)).setCell ⟨g,o+i*8+4,aa⟩ (.int .i64 op)).setCell ⟨g,o+i*8+5,aa⟩ (.int .i64 cf)).setCell ⟨g,o+i*8+6,aa⟩ (.bool I)).setCell ⟨g,o+i*8+7,aa⟩ (.slice q2 a8 c2)))):=fun g o i wr hg hi K=>by
   rw[hD]at K ⊢;obtain⟨H,K⟩:=K;exact b2.out g o i wr H hg hi K
  have b1:Hid (∀g o i wr,D g o i wr->mN wr (ab ⟨g,o,aa⟩) m.L/\af w.heap.size w wr):=fun g o i wr K=>by
   rw[hD]at K;obtain⟨H,K⟩:=K;exact b1.out g o i wr H K
  clear hD;go_enter func27,ntmps27;go_wp2_with fail
  refine Z.mono ?_;rintro e w1 ⟨g,o,c1,rfl,b7⟩;clear Z c0;go_wp2;go_loopw [12] (fun x wr=>∃i:Nat,i<=N/\x=.int .i64 i/\D g o i wr) (fun x _=>N-(intOf x).toNat)
  case atStart=>exact⟨0,zd _,rfl,b7.out.2⟩
  case round =>
   obtain⟨i,hi,rfl,K⟩:=hrel;have HD:Hid _:=K;clear K;by_cases g0:i<N
   ·obtain⟨fr,aP,ki,ke,op,cf,I,q,nl,c9,⟨k0,k1,k2,k3,k4,k5,k6,k7⟩,b3⟩:=b2.out g o i wr b7.out.1 g0 HD.out;clear b2 b1 b7 HD;go_wp2_with fail
    refine b3.mono ?_;rintro e w5 ⟨q2,a8,c2,rfl,⟨a0,a1,a2,a3,a4,a5,a6,a7⟩,⟨f0,f1,f2,f3,f4,f5,f6,f7⟩,d8⟩;obtain⟨w6,d1⟩:=Xb ((((((((w5.setCell ⟨g,o+i*8,aa⟩ (.string fr)).setCell ⟨g,o+i*8+1,aa⟩ (.string aP)).setCell ⟨g,o+i*8+2,aa⟩ (.string ki)).setCell ⟨g,o+i*8+3,aa⟩ (.string ke)).setCell ⟨g,o+i*8+4,aa⟩ (.int .i64 op)).setCell ⟨g,o+i*8+5,aa⟩ (.int .i64 cf)).setCell ⟨g,o+i*8+6,aa⟩ (.bool I)).setCell ⟨g,o+i*8+7,aa⟩ (.slice q2 a8 c2));rw[<-d1]at d8;have g1:Hid _:=d1;clear d1 b3 k0 k1 k2 k3 k4 k5 k6 k7;go_wp2_with (rw[<-g1.out])
    clear a0 a1 a2 a3 a4 a5 a6 a7 f0 f1 f2 f3 f4 f5 f6 f7;go_wp2;go_roundw
    case rel=>exact⟨i+1,by omega,by go_num,d8.out⟩
    case measure=>simp[intOf];omega
   ·have HE:Hid (mN wr (ab ⟨g,o,aa⟩) m.L/\af w.heap.size w wr):=b1.out g o i wr HD.out;clear b2 b1 b7 HD;go_wp2;go_ret;exact⟨⟨_,_,rfl,HE.out.1⟩,HE.out.2⟩
theorem VR (I:Ye w B h O m X ml nb hn)(J:WZ n k m):ag prog 15 #[.pointer (ab ⟨h,0,aa⟩)] w fun e w'=>(∃p c,e=.returned (.slice p m.L.length c)/\mN w' p m.L)/\af w.heap.size w w':=by
 have D:=K9 I J;have D:ag prog 27 #[.pointer (ab ⟨h,0,aa⟩)] w fun e w'=>∃p c,e=.returned (.slice p m.L.length c)/\Hid (mN w' p m.L/\af w.heap.size w w'):=D.mono fun e w' K=>by
  obtain⟨⟨p,c,U,Z⟩,h3⟩:=K;exact⟨p,c,U,Z,h3⟩
 clear I J;generalize m.L.length=N at *;go_enter func15,ntmps15;go_wp2_with fail
 refine D.mono ?_;rintro e w1 ⟨p,c,rfl,H⟩;clear D;go_wp2;go_ret;exact⟨⟨p,c,rfl,H.out.1⟩,H.out.2⟩
end
end
section
open Ring
section
variable {w w':World} {B h:Nat} {O O':Nat->Option Whose} {m:Ya} {X:WB} {ml:List (Zb×Lv)} {nb hn:Nat->Nat} {n k:Nat} {ad:Nat->aR}
theorem NG (J:Ye w' B h O m X ml nb hn)(K:iZ ad w)(hB:w.heap.size<=B)(H:af w.heap.size w w'):Yi ad w' O:=fun W _ I=>K.fO (fun j D=>(I j (an D H.size) (by
 cases e:O j with
 |none=>rfl
 |some o=>have:=(J.aO j o e).1;omega)).trans (H.block j D))
def JT:List BA:=[⟨#[97]⟩,⟨#[98]⟩,⟨#[100]⟩]
theorem Jo7:¬0<(Zr JT 3 1).1:=by decide +kernel
theorem PD {m:Ya}(D:m.asks.length=6)(put:Bool):(m.begin 0 put).state 0=⟨#[108,111,111,107,105,110,103]⟩:=by
 unfold Ya.state;rw[if_neg (by decide)];show(match Xf (m.asks.set 0 (ab _)) 0 with|none=>pQ|some a=>a.st.word)=_;rw[ZZ (by omega),if_pos rfl];rfl
theorem MY (ad:Nat->aR)(w:World)(hE:iZ ad w):ag prog 4 #[] w fun e w'=>e=.returned (.bool aw)/\af w.heap.size w w':=by
 obtain⟨Z,H⟩:=Xb (w.alloc (.cells #[.string ⟨#[97]⟩,.string ⟨#[98]⟩,.string ⟨#[100]⟩] 9));have I:=Zk H;have a5:=JH H;have a6:Strs Z (ab ⟨w.heap.size,0,aa⟩) JT:=zb ⟨w.heap.size,0,rfl,by rw[H];simp,fun i hi=>by
  have hi:i<3:=hi;have hc:=(Xa a5 i).1;rw[Nat.zero_add,hc]
  match i,hi with
  |0,_=>rfl
  |1,_=>rfl
  |2,_=>rfl⟩
 have a0:=hE.fO (fun j hj=>I.block j hj);have a7:ag prog 6 #[.slice (ab ⟨w.heap.size,0,aa⟩) 3 3,.int .i64 3,.int .i64 1] Z fun e w2=>∃h,e=.returned (.tuple #[.pointer (ab ⟨h,0,aa⟩),.nilIface]) /\
  ag prog 14 #[.pointer (ab ⟨h,0,aa⟩)] w2 fun e w3=>e=.returned (.tuple #[.int .i64 1,.int .i64 0]) /\
   ag prog 13 #[.pointer (ab ⟨h,0,aa⟩),.int .i64 0] w3 fun e w4=>e=.returned (.string ⟨#[105,100,108,101]⟩) /\
    ag prog 8 #[.pointer (ab ⟨h,0,aa⟩),.int .i64 0,.string ⟨#[120]⟩] w4 fun e w5=>e=.returned .nilIface /\
     ag prog 15 #[.pointer (ab ⟨h,0,aa⟩)] w5 fun e w6=>(∃p c,e=.returned (.slice p 3 c)) /\
      ag prog 13 #[.pointer (ab ⟨h,0,aa⟩),.int .i64 0] w6 fun e w7=>e=.returned (.string ⟨#[108,111,111,107,105,110,103]⟩)/\Hid (af w.heap.size w w7):=by
  refine(GR ad (ab ⟨w.heap.size,0,aa⟩) JT 3 3 1 Z (by decide) (by decide) (by decide +kernel) ⟨by decide,by decide⟩ ⟨by decide,by decide⟩ a6 a0).mono fun e w2 D=>?_
  obtain⟨D,a8⟩:=D;rcases D with⟨J,_⟩|⟨_,h,c,e1,U,e3,e4,e5,O,X,ml,nb,hn,K⟩
  ·exact absurd J Jo7
  have a9:XS 3 1 c:=by
   obtain⟨J,h2,_,_,h5⟩:=Xm e5;exact⟨U,e3,by decide,by decide,by decide,by omega,h5⟩
  have hz:WZ 3 1 ((Ya.bare c).cE JT):=(GO e5 a9).kQ (by decide +kernel);have b7:=NG K a0 nR a8;have b0:=I.trans (a8.mono I.size);refine⟨h,e1,(EL K hz).mono fun e w3 D=>⟨D.1,?_⟩⟩;have a2:=D.2;have b8:=K.below a2;refine(KI b8 0).mono fun e w4 D=>⟨D.1,?_⟩
  have a3:=a2.trans (D.2.mono a2.size);have c8:=K.below a3;have d0:((Ya.bare c).cE JT).open_ 0 aw ⟨#[120]⟩=(Ya.begin {(Ya.bare c).cE JT with since:=((Ya.bare c).cE JT).since.set 0 ((Ya.bare c).cE JT).aA,texts:=((Ya.bare c).cE JT).texts.set 0 ⟨#[120]⟩} 0 aw,0):=rfl;refine(GI c8 hz 0 ⟨#[120]⟩ (by decide) (Int.le_refl _) (by show(0:Int)<=_;decide) (b7.below a3)).mono fun e w5 D=>?_
  obtain⟨⟨ev,e6,e7⟩,O5,X5,d7,a4,d1⟩:=D;rw[d0]at e7 a4;have d2:WZ 3 1 (Ya.begin {(Ya.bare c).cE JT with since:=((Ya.bare c).cE JT).since.set 0 ((Ya.bare c).cE JT).aA,texts:=((Ya.bare c).cE JT).texts.set 0 ⟨#[120]⟩} 0 aw):=(hz.opened (by decide) (by decide) _).begin (by decide) _;have d3:(Ya.begin {(Ya.bare c).cE JT with since:=((Ya.bare c).cE JT).since.set 0 ((Ya.bare c).cE JT).aA,texts:=((Ya.bare c).cE JT).texts.set 0 ⟨#[120]⟩} 0 aw).L.length=3:=by
   show([]++List.take 120 (((ze c.L.length).map _))).length=3;rw[List.nil_append,zh,am,List.length_range,a9.len];rfl
  have d4:∀j,O j≠aa->w.heap.size<=j:=fun j e=>by
   cases U:O j with
   |none=>exact absurd U e
   |some o=>exact aq I.size (K.aO j o U).1
  have b1:=Yd.jG (b0.trans (a3.mono b0.size)) d4 d1;refine⟨by rw[e6,e7.none (by dsimp only;decide)],(VR a4 d2).mono fun e w6 D=>?_⟩;obtain⟨⟨p,cc,e8,_⟩,b2⟩:=D;rw[d3]at e8;refine⟨⟨p,cc,e8⟩,(KI (a4.below b2) 0).mono fun e w7 D=>⟨?_,?_⟩⟩
  ·rw[D.1,PD rfl]
  ·have J:=b1.trans (b2.mono b1.size);exact J.trans (D.2.mono J.size)
 have d5:Hid _:=H;clear H I a5 a6 a0 hE;go_enter func4,ntmps4;go_wp2_with (rw[<-d5.out])
 refine a7.mono ?_;rintro e w2 ⟨h,rfl,b3⟩;clear a7;go_wp2_with fail
 refine b3.mono ?_;rintro e w3 ⟨rfl,b4⟩;clear b3;go_wp2_with fail
 refine b4.mono ?_;rintro e w4 ⟨rfl,b5⟩;clear b4;go_wp2_with fail
 refine b5.mono ?_;rintro e w5 ⟨rfl,b6⟩;clear b5;go_wp2_with fail
 refine b6.mono ?_;rintro e w6 ⟨⟨p,c,rfl⟩,d6⟩;clear b6;go_wp2_with fail
 refine d6.mono ?_;rintro e w7 ⟨rfl,HB⟩;go_wp2;go_ret;exact⟨rfl,HB.out⟩
end
end
section
section
variable {w w':World} {B h:Nat} {O O':Nat->Option Whose} {m:Ya} {X:WB} {ml:List (Zb×Lv)} {nb hn:Nat->Nat} {n k:Nat} {ad:Nat->aR}
theorem RJ (J:Ye w B h O m X ml nb hn)(hz:WZ n k m)(U:m.mover=ab a){x:Zb×Lv}(hL:Jn w x)(hx:YF x.1)(hE:Yi ad w O):∃b,X.mp=ab b/\∀W,af w.heap.size w W->ag prog 58 #[.pointer (ab ⟨b,0,aa⟩),Z1 x.1 (fI x.2)] W fun e w'=>∃p c,e=.returned (.slice p (a.aD x.1).2.length c)/\∃H,Ye w' B h H {m with mover:=ab (a.aD x.1).1} X ml nb hn/\Qp c (fun b=>H b=ab .bD) w' p (a.aD x.1).2/\Yd (fun k=>O k≠aa) (fun k=>H k≠aa) w w':=by
 obtain⟨b,Z,a0,a2⟩:∃b,X.mp=ab b/\XM w B b (fun k=>O k=ab .bI) a/\iR w O X.nx:=by have:=J.bI;rw[U]at this;exact this
 obtain⟨a3,a8,_⟩:=hz.bI a U;refine⟨b,Z,fun W D=>?_⟩;have a4:=J.below D;have a5:iR W O X.nx:=a2.kept (fun _ h=>h) D.size (fun k I=>D.block k (J.aO k _ I).2);refine(LU ad (a0.dA D.size (fun k I=>D.block k (J.aO k _ I).2)) x (hL.below D) (a3.small hx) (fun v hv=>(hx.cM v hv).1) (fun V hs I=>?_)).mono fun e w' hq=>?_
 ·have:=(hE.below D) V hs (fun k a6 a7=>I k a6 (fun e=>by have e:O k=ab .bI:=e;rw[a7]at e;cases e));exact⟨this.q,this.x.1⟩
 ·obtain⟨S',⟨p,c,e1,e2⟩,e3,e4⟩:=hq;obtain⟨H,g1,g3,g4⟩:=a4.rH Z (by rw[U];rfl) e3 e4 a5;exact⟨p,c,e1,H,g1,e2.mono (fun b K=>g3 b K.1 K.2.1 K.2.2),(Yd.aJ D).trans' g4⟩
def tY:fB:=⟨⟨0,0,[]⟩,aa,0⟩
theorem Jte (X:WB)(c:Int):(((((((((Zi X).setIfInBounds 36 (.int .i64 X.nx.c.n)).setIfInBounds 37 (.int .i64 X.nx.c.k)).setIfInBounds 38 X.nx.v).setIfInBounds 39 (.int .i64 c)).setIfInBounds 32 (.pointer aa)).setIfInBounds 33 (.int .i64 0)).setIfInBounds 34 (.int .i64 0)).setIfInBounds 35 (.slice aa 0 0))=Zi {X with cf:=X.nx,act:=c,mp:=aa,nx:=tY}:=by
 unfold Zi;simp only[al,ay,az];rfl
def lC (w:World)(h:Nat)(X:WB)(c:Int):World:=(((((((w.setCell ⟨h,36,aa⟩ (.int .i64 X.nx.c.n)).setCell ⟨h,37,aa⟩ (.int .i64 X.nx.c.k)).setCell ⟨h,38,aa⟩ X.nx.v).setCell ⟨h,39,aa⟩ (.int .i64 c)).setCell ⟨h,32,aa⟩ (.pointer aa)).setCell ⟨h,33,aa⟩ (.int .i64 0)).setCell ⟨h,34,aa⟩ (.int .i64 0)).setCell ⟨h,35,aa⟩ (.slice aa 0 0)
theorem MV (hb:w.heap[h]?=ab (.cells (Zi X) 65 (0,0)))(c:Int):(lC w h X c).heap[h]?=ab (.cells (Zi {X with cf:=X.nx,act:=c,mp:=aa,nx:=tY}) 65 (0,0))/\Yp h w (lC w h X c):=by
 unfold lC;rw[<-Jte X c];have D:=Qc hb 36 (.int .i64 X.nx.c.n);have H:=(Yp.refl h w).set 36 (.int .i64 X.nx.c.n);generalize w.setCell ⟨h,36,aa⟩ (.int .i64 X.nx.c.n)=I at *;have J:=Qc D 37 (.int .i64 X.nx.c.k);have K:=H.set 37 (.int .i64 X.nx.c.k);generalize I.setCell ⟨h,37,aa⟩ (.int .i64 X.nx.c.k)=U at *;have Z:=Qc J 38 X.nx.v;have v2:=K.set 38 X.nx.v;generalize U.setCell ⟨h,38,aa⟩ X.nx.v=w2 at *;have b3:=Qc Z 39 (.int .i64 c);have v3:=v2.set 39 (.int .i64 c);generalize w2.setCell ⟨h,39,aa⟩ (.int .i64 c)=w3 at *;have b4:=Qc b3 32 (.pointer aa);have v4:=v3.set 32 (.pointer aa);generalize w3.setCell ⟨h,32,aa⟩ (.pointer aa)=w4 at *;have b5:=Qc b4 33 (.int .i64 0);have v5:=v4.set 33 (.int .i64 0);generalize w4.setCell ⟨h,33,aa⟩ (.int .i64 0)=w5 at *;have b6:=Qc b5 34 (.int .i64 0);have v6:=v5.set 34 (.int .i64 0);generalize w5.setCell ⟨h,34,aa⟩ (.int .i64 0)=w6 at *;have b7:=Qc b6 35 (.slice aa 0 0);have v7:=v6.set 35 (.slice aa 0 0);generalize w6.setCell ⟨h,35,aa⟩ (.slice aa 0 0)=w7 at *;exact⟨b7,v7⟩
theorem Ye.kP (H:Ye w B h O m X ml nb hn)(U:m.mover=ab a):∃O',Ye (lC w h X (X.act+1)) B h O' {m with aC:=m.aC+1,mover:=aa} {X with cf:=X.nx,act:=X.act+1,mp:=aa,nx:=tY} ml nb hn/\Yd (fun k=>O k≠aa) (fun k=>O' k≠aa) w (lC w h X (X.act+1)):=by
 obtain⟨Z,I⟩:=MV H.blk (X.act+1);have a0:iR w O X.nx:=by have:=H.bI;rw[U]at this;obtain⟨_,_,_,g⟩:=this;exact g
 have K:Yd (fun k=>O k=ab .bI∨O k=ab .self) (fun _=>False) w (lC w h X (X.act+1)):=⟨I.os,I.tape,I.output,I.size,fun k D a2=>I.cW k D (fun e=>a2 (zb (e▸H.self))),fun k D=>D.elim⟩;have J:=Qv.of (t:=.bI) (fun e=>by cases e) H.aO H.base K (fun k D=>D.elim) (fun k D=>D.elim);refine⟨_,{H.toXJ.mJ (m':={m with aC:=m.aC+1,mover:=aa}) (X':={X with cf:=X.nx,act:=X.act+1,mp:=aa,nx:=tY}) J rfl rfl rfl ⟨rfl,rfl,rfl⟩ rfl rfl rfl rfl rfl (a0.kept J.bD J.size (fun k D=>J.kept k _ D (fun e=>by cases e) (fun e=>by cases e)))with blk:=Z,self:=(J.same .self h (fun e=>by cases e) (fun e=>by cases e)).2 H.self,cV:=H.dF (by rw[U];rfl),dF:=(fun e=>by cases e),aW:=⟨?_,H.aW.2.1,H.aW.2.2⟩},QM K (fun k D=>D.elim)⟩;show X.act+1=((m.aC+1:Nat):Int);rw[H.aW.1];omega
end
end
section
def Ya.eP (m:Ya)(c:Xg):Ya:=Ya.send {m with mover:=ab (JD m.ops m.aC (aG m.aB m.aC) c),aB:=m.aB++ [c],ops:=m.ops+1} (JD m.ops m.aC (aG m.aB m.aC) c).begin
section
variable {w w':World} {B h:Nat} {O O':Nat->Option Whose} {m:Ya} {X:WB} {ml:List (Zb×Lv)} {nb hn:Nat->Nat} {n k:Nat} {ad:Nat->aR}
theorem DU {l:List Xg}{j:Nat}(D:j<l.length):aG (l++ [c]) j=aG l j:=by
 unfold aG;rw[ae,ae,za D]
theorem G1 (l:List Xg)(c:Xg):aG (l++ [c]) l.length=c:=by
 unfold aG;rw[ae,aF nR,Nat.sub_self];rfl
open Classical in
theorem Ye.yV (H:Ye w B h O m X ml nb hn){P:Nat->Prop}{O0:Nat->Option Whose}(U:∀k,P k->K.heap.size<=k/\k<w.heap.size/\O k=aa)(hB:B<=K.heap.size)(I:Yd (fun k=>O0 k≠aa) (fun k=>O k≠aa) K w):
 ∃O',Ye w B h O' m X ml nb hn/\(∀k,P k->O' k=ab .bD)/\Yd (fun k=>O0 k≠aa) (fun k=>O' k≠aa) K w:=by
 obtain⟨O',a0⟩:∃O':Nat->Option Whose,O'=fun k=>if P k then ab .bD else O k:=⟨_,rfl⟩
 have oP:∀k,P k->O' k=ab .bD:=fun k Z=>by rw[a0];exact if_pos Z
 have J:∀k,¬P k->O' k=O k:=fun k Z=>by rw[a0];exact if_neg Z
 have hT:Qv (.ask 6) O O' B w w:=by
  refine⟨fun o k _ hi=>?_,fun k e=>?_,fun k o e=>?_,aI _,fun _ _ _ _ _=>rfl⟩
  ·by_cases e:P k
   ·rw[oP k e,(U k e).2.2];exact⟨fun e=>(by injection e with e;exact absurd e.symm hi),fun e=>(by cases e)⟩
   ·rw[J k e]
  ·rw[J k (fun D=>by rw[(U k D).2.2]at e;cases e)];exact e
  ·by_cases D:P k
   ·have:=U k D;omega
   ·rw[J k D]at e;exact H.aO k o e
 refine⟨O',{H.toXJ.gH (i:=6) hT rfl rfl rfl rfl (fun j _ _=>⟨rfl,rfl,rfl⟩) rfl rfl rfl rfl rfl rfl (fun _ _=>rfl) (fun hi=>absurd hi (by omega))with blk:=H.blk,self:=(hT.same .self h (fun e=>by cases e) (fun e=>by cases e)).2 H.self,cV:=H.cV,dF:=H.dF,aW:=H.aW},oP,⟨I.os,I.tape,I.output,I.size,I.block,fun k e=>?_⟩⟩;by_cases D:P k
 ·exact zb (U k D).1
 ·rw[J k D]at e;exact I.new k e
theorem Ye.nA (H:Ye w B h O m X ml nb hn)(hz:WZ n k m)(hm:m.mover=aa)(J:Yp h w w'){K:Nat}{c:fB}{U:Int}(a3:w'.heap[h]?=ab (.cells (Zi {X with aY:=U,mp:=ab K,nx:=c}) 65 (0,0)))(ha:XM w' B K S a)(Z:∀k,S k->w.heap.size<=k)(a4:iR w O c):
 ∃O',Ye w' B h O' {m with mover:=ab a,aB:=m.aB++ [c.c],ops:=U} {X with aY:=U,mp:=ab K,nx:=c} ml nb hn/\(∀k,w.heap.size<=k->k<w'.heap.size->¬S k->O' k=ab .bD)/\Yd (fun k=>O k≠aa) (fun k=>O' k≠aa) w w':=by
 have a0:∀k,S k->k<w'.heap.size:=fun k D=>(ha.dH k D).2
 have hU:Yd (fun k=>O k=ab .bI∨O k=ab .self) S w w':=⟨J.os,J.tape,J.output,J.size,fun k D a2=>J.cW k D (fun e=>a2 (zb (e▸H.self))),fun k D=>zb (Z k D)⟩;have I:=Qv.of (t:=.bI) (fun e=>by cases e) H.aO H.base hU (fun k D=>zb (Z k D)) a0;refine⟨_,{H.toXJ.mJ (m':={m with mover:=ab a,aB:=m.aB++ [c.c],ops:=U}) (X':={X with aY:=U,mp:=ab K,nx:=c}) I rfl rfl rfl ⟨rfl,rfl,rfl⟩ rfl rfl rfl rfl ⟨K,rfl,?_,a4.kept I.bD I.size (fun k D=>I.kept k _ D (fun e=>by cases e) (fun e=>by cases e))⟩ (H.cf.kept I.bD I.size (fun k D=>I.kept k _ D (fun e=>by cases e) (fun e=>by cases e)))with blk:=a3,self:=(I.same .self h (fun e=>by cases e) (fun e=>by cases e)).2 H.self,cV:=?_,dF:=fun _=>?_,aW:=⟨H.aW.1,rfl,H.aW.2.2⟩},fun k h1 h2 h3=>oK (fun k o e=>(H.aO k o e).2) h3 h1 h2,QM hU (fun k D=>zb (Z k D))⟩
 ·have e:(fun k=>turnO O .bI S w.heap.size w'.heap.size k=ab .bI)=S:=funext fun k=>propext (ZU (fun e=>by cases e) k)
  rw[e];exact ha
 ·show X.cf.c=aG (m.aB++ [c.c]) m.aC;rw[DU hz.act];exact H.cV
 ·show c.c=aG (m.aB++ [c.c]) (m.aC+1);rw[<-hz.dN hm,G1]
theorem zU (D:WZ n k m)(K:¬0<(Jg c).1):XA (JD m.ops m.aC (aG m.aB m.aC) c):=by
 have I:=D.cU m.aC D.act;have U:=D.act;have Z:=D.many;exact⟨⟨I.1,by show wX.size<=100;decide,by show J8.size<=100;decide,by show(⟨#[]⟩:BA).size<=1000;decide,(fun e=>by cases e),(fun _ e=>by cases e),List.nodup_nil,(fun x J=>by cases J),rfl,(fun e=>by cases e),(fun l H=>by cases H)⟩,(fun l H=>by cases H),⟨by show(0:Int)<=(m.aC:Int);omega,by show(m.aC:Int)<=1000;omega⟩,⟨Int.le_refl _,by show(0:Int)<6;decide⟩,fun _=>K⟩
theorem WZ.lP (D:WZ n k m)(U:m.mover=aa)(hl:m.aB.length<12)(H:¬0<(Jg c).1)(Z:XS n k c):WZ n k (m.eP c)/\WZ n k {m with mover:=ab (JD m.ops m.aC (aG m.aB m.aC) c),aB:=m.aB++ [c],ops:=m.ops+1}:=by
 have a0:=D.dN U;have a2:(m.aB++ [c]).length=m.aB.length+1:=by rw[aE];rfl
 have I:WZ n k {m with mover:=ab (JD m.ops m.aC (aG m.aB m.aC) c),aB:=m.aB++ [c],ops:=m.ops+1}:=by
  refine⟨D.bO,D.msgs,D.la,D.lt,D.ls,D.gD,?_,?_,fun e=>(by cases e),fun a J=>?_,fun j K=>?_,D.asks,fun a J=>?_,D.nodes⟩
  ·show m.aC<(m.aB++ [c]).length;have:=D.act;omega
  ·show(m.aB++ [c]).length<=12;omega
  ·show(m.aB++ [c]).length=m.aC+2;omega
  ·have K:j<(m.aB++ [c]).length:=K;show ¬0<(Jg (aG (m.aB++ [c]) j)).1/\XS n k (aG (m.aB++ [c]) j);by_cases e:j<m.aB.length
   ·rw[DU e];exact D.cU j e
   ·rw[show j=m.aB.length by omega,G1];exact⟨H,Z⟩
  ·rw[<-Option.some.inj J];exact⟨zU D H,rfl,bk ⟨rfl,rfl⟩⟩
 exact⟨I.send (zU D H).begin,I⟩
def mZ (w:World)(h D:Nat)(c:fB):World:=(((w.setCell ⟨h,32,aa⟩ (.pointer (ab ⟨D,0,aa⟩))).setCell ⟨h,33,aa⟩ (.int .i64 c.c.n)).setCell ⟨h,34,aa⟩ (.int .i64 c.c.k)).setCell ⟨h,35,aa⟩ c.v
theorem UI (hb:w.heap[h]?=ab (.cells (Zi X) 65 (0,0)))(D:Nat)(c:fB):(mZ w h D c).heap[h]?=ab (.cells (Zi {X with mp:=ab D,nx:=c}) 65 (0,0))/\Yp h w (mZ w h D c):=by
 unfold mZ;have e:(((((Zi X).setIfInBounds 32 (.pointer (ab ⟨D,0,aa⟩))).setIfInBounds 33 (.int .i64 c.c.n)).setIfInBounds 34 (.int .i64 c.c.k)).setIfInBounds 35 c.v)=Zi {X with mp:=ab D,nx:=c}:=by
  unfold Zi;simp only[al,ay,az];rfl
 rw[<-e];have H:=Qc hb 32 (.pointer (ab ⟨D,0,aa⟩));have I:=(Yp.refl h w).set 32 (.pointer (ab ⟨D,0,aa⟩));generalize w.setCell ⟨h,32,aa⟩ (.pointer (ab ⟨D,0,aa⟩))=J at *;have K:=Qc H 33 (.int .i64 c.c.n);have U:=I.set 33 (.int .i64 c.c.n);generalize J.setCell ⟨h,33,aa⟩ (.int .i64 c.c.n)=Z at *;have b2:=Qc K 34 (.int .i64 c.c.k);have v2:=U.set 34 (.int .i64 c.c.k);generalize Z.setCell ⟨h,34,aa⟩ (.int .i64 c.c.k)=w2 at *;have b3:=Qc b2 35 c.v;have v3:=v2.set 35 c.v;generalize w2.setCell ⟨h,35,aa⟩ c.v=w3 at *;exact⟨b3,v3⟩
theorem JlS (I:Ye w B h O m X ml nb hn)(K:WZ n k m)(h0:0<=m.ops){c:fB}(hc:Yn w' c.c c.p c.cap)(hf:¬0<(Jg c.c).1)(hE:Zp w' ad)(hW:Yp h w w'):
 ag prog 43 #[.int .i64 m.ops,.agg #[.int .i64 X.cf.c.n,.int .i64 X.cf.c.k,.slice X.cf.p X.cf.c.L.length X.cf.cap],.agg #[.int .i64 c.c.n,.int .i64 c.c.k,.slice c.p c.c.L.length c.cap],.int .i64 X.act,.string ⟨#[120]⟩] w' fun e U=>∃J S,e=.returned (.tuple #[.pointer (ab ⟨J,0,aa⟩),.nilIface])/\XM U w'.heap.size J S (JD m.ops m.aC (aG m.aB m.aC) c.c)/\af w'.heap.size w' U:=by
 have Z:X.cf.c=aG m.aB m.aC:=I.cV;have a0:Yn w' X.cf.c X.cf.p X.cf.cap:=by
  obtain⟨D,H⟩:=I.cf;exact⟨D.strs.same hW.size (fun b o e=>hW.cW b (I.aO b _ (H b o e)).2 (fun e'=>by have:=H b o e;rw[e',I.self]at this;cases this)),D.room,D.empty,D.len,D.size,D.ints⟩
 have a2:=(K.cU m.aC K.act).1;have ha:=K.act;have hm:=K.many;have a3:X.act=(m.aC:Int):=I.aW.1;have hF:¬0<(lH ⟨m.ops,X.cf.c,c.c,X.act,⟨#[120]⟩⟩).1:=by
  unfold lH;rw[if_neg (by rw[Z];exact a2),if_neg hf,if_neg (by show ¬Jo (⟨#[120]⟩:BA)=ac;decide +kernel),if_pos ⟨h0,by show(0:Int)<=X.act;omega,by show X.act<9223372036854775807;omega⟩];decide
 refine(RI ad ⟨m.ops,X.cf.c,c.c,X.act,⟨#[120]⟩⟩ X.cf.p X.cf.cap c.p c.cap w' a0 hc ⟨by show _<=X.act;omega,by show X.act<=_;omega⟩ hE).mono fun e U hq=>?_
 obtain⟨⟨ev,D,H⟩,g3⟩:=hq;rcases H with⟨H,_⟩|⟨_,J,S,g4,g5⟩
 ·exact absurd H hF
 ·rw[D.none hF]at g4;refine⟨J,S,g4,?_,g3⟩;have e:(⟨m.ops,X.cf.c,c.c,X.act,⟨#[120]⟩⟩:lN).mover=JD m.ops m.aC (aG m.aB m.aC) c.c:=by
   rw[Z,a3];rfl
  rw[<-e];exact g5
end
end
end Go.Proofs.YtgapmoniajcliaaGreatDoor

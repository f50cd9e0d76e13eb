/- Texts laid together. -/
import Derived.Test.YtgapmoniajcliaaGreatDoorV19
set_option maxRecDepth 10000
set_option maxHeartbeats 4000000
open Option renaming some->aa,none->ab
open Go.RowKit renaming Below->ae
open List renaming getD_eq_getElem?_getD->af,range->an,getElem?_eq_getElem->ar,length_append->ax,findIdx_getElem->aF,map_append->aS,findIdx_eq->zf,filter_nil->zg,append_nil->zh,mem_range->zj
open Or renaming inr->ag,inl->ap
open Go.RowKit.Below renaming heap_setCell->ah,refl->ao
open Array renaming getElem?_eq_some_iff->ai,toList_inj->aR
open Go renaming Calls->aj,bodyPost_ret->au,below_drewN->za,Value->zb,Addr->aP,results->zi
open Bool renaming false->ak,true->ay
open Go.AllReadyH renaming nil->al
open Nat renaming zero_le->am,not_lt_zero->aE,lt_of_lt_of_le->zc,lt_or_ge->zd,le_trans->aM,lt_trans->bf,add_zero->bg
open Go.ByteArray renaming toList_eq->aq
open Go.Act renaming put->av
open Go.World renaming cell?_of_block->aw,setCell->aI
namespace Go.Proofs.YtgapmoniajcliaaGreatDoor
open Go.Proofs.Tryz
open Go.RowKit
variable {X':WB}{i b:Nat}{a:Za}{c at_:Int}{x:Zb×Lv}{s:BA}{l:List BA}{W w:World}{O I:zb}{T:TypeId}{ad:Nat->aP}{S:Nat->Prop}
section
theorem DC:(prog.info? 41).map (fun i=>(i.zero,i.size,i.bytes))=aa (aa (.agg #[.int .i64 0,.bool ak,.bool ak,.int .i64 0,.int .i64 0,.string ⟨#[]⟩,.int .i64 0,.int .i64 0]),XI.k,64):=by kernel_rfl
section
variable {w w':World} {B h:Nat} {O O':Nat->Option Whose} {m:Ya} {X:WB} {ml:List (Zb×Lv)} {nb hn:Nat->Nat} {n k:Nat} {ad:Nat->aP}
theorem XJ.u7 (H:XJ w B O m X ml nb hn)(D:Qv .bV O O' B w w'){m':Ya}(e1:m'.L=m.L)(J:m'.nodes=m.nodes)(e4:m'.mover=m.mover)(K:m'.asks=m.asks/\m'.texts=m.texts/\m'.since=m.since)
 (U:X'.vm=X.vm) (Z:X'.vn=X.vn) (x4:X'.mp=X.mp) (x5:X'.nx=X.nx) (x6:X'.cf=X.cf) (x7:X'.cl=X.cl) (hr:Zc XI 41 w' B X'.ve m'.events) (a0:∀k,X'.ve.ownBlock=aa k->O' k=aa .bV):XJ w' B O' m' X' ml nb hn where
 aO:=D.aO
 row:=by rw[U];exact(H.cO D (fun e=>by cases e)).1
 cX:=by rw[U];exact(H.cO D (fun e=>by cases e)).2
 dK:=by rw[e1];exact H.dK
 bD:=H.eR D (fun e=>by cases e)
 bV:=hr
 cS:=a0
 cD:=by rw[Z,J];exact(H.bY D (fun e=>by cases e)).1
 bU:=by rw[Z];exact(H.bY D (fun e=>by cases e)).2
 node:=fun j I=>by rw[J]at I ⊢;exact H.dB D I (fun e=>by cases e)
 mem:=fun j I=>by rw[J]at I ⊢;exact H.dZ D I (fun e=>by cases e)
 ask:=fun j I=>by rw[K.1,K.2.1,K.2.2,x7];exact(H.ask j I).kept D (fun e=>by cases e)
 bI:=by rw[e4,x4,x5];exact H.bI.kept D (fun e=>by cases e) (fun e=>by cases e)
 cf:=by rw[x6];exact H.cf.kept D.bD D.size (fun k hk=>D.kept k _ hk (fun e=>by cases e) (fun e=>by cases e))
theorem Ye.rT (D:Ye w B h O m X ml nb hn){J:World}{H:zb}{E:List Ev}(h1:Zc XI 41 J B H E)(U:w.grownBy J X.ve.ownBlock)(K:H.ownBlock=X.ve.ownBlock∨∃k,H.ownBlock=aa k/\w.heap.size<=k):∃O',Ye (J.setCell ⟨h,42,ab⟩ H) B h O' {m with events:=E} {X with ve:=H} ml nb hn/\Yd (fun k=>O k≠ab) (fun k=>O' k≠ab) w (J.setCell ⟨h,42,ab⟩ H):=by
 have a0:X.ve.ownBlock≠aa h:=fun e=>by have:=D.cS h e;rw[D.self]at this;cases this
 have hb:=U.block h D.lt (fun e=>a0 e.symm);have a3:H.ownBlock≠aa h:=fun e=>by
  rcases K with K|⟨k,K,h4⟩
  ·exact a0 (K.symm.trans e)
  ·rw[K]at e;injection e with e;have:=D.lt;omega
 have a4:(J.setCell ⟨h,42,ab⟩ H).heap.size=J.heap.size:=by simp[aI]
 have a2:Zc XI 41 (J.setCell ⟨h,42,ab⟩ H) B H E:=h1.dC (fun k I=>Deep.blk_setCell_other _ _ _ _ (fun e=>a3 (by rw[I,e])));have Z:∀k,H.ownBlock=aa k->O k=aa .bV∨w.heap.size<=k:=fun k I=>by
  rcases K with e|⟨k',e,a5⟩
  ·exact ap (D.cS k (e.symm.trans I))
  ·rw[I]at e;injection e with e;exact ag (by omega)
 have hU:Yd (fun k=>O k=aa .bV∨O k=aa .self) (fun k=>H.ownBlock=aa k) w (J.setCell ⟨h,42,ab⟩ H):=⟨U.os,U.tape,U.output,by rw[a4];exact U.size,fun k I hn=>(ah _ _ _ _ (fun e=>hn (ag (by have e:k=h:=e;rw[e];exact D.self)))).trans (U.block k I (fun e=>hn (ap (D.cS k e.symm)))),fun k I=>(Z k I).imp ap id⟩;have hT:=Qv.of (t:=.bV) (fun e=>by cases e) D.aO D.base hU Z (fun k I=>(a2.block I).2);exact⟨_,{D.toXJ.u7 (m':={m with events:=E}) (X':={X with ve:=H}) hT rfl rfl rfl ⟨rfl,rfl,rfl⟩ rfl rfl rfl rfl rfl rfl a2 (fun k I=>(ZU (fun e=>by cases e) k).2 I)with blk:=Qc (hb.trans D.blk) 42 H,self:=(hT.same .self h (fun e=>by cases e) (fun e=>by cases e)).2 D.self,cV:=D.cV,dF:=D.dF,aW:=D.aW},QM hU Z⟩
end
end
section
section
variable {w w':World} {B h:Nat} {O O':Nat->Option Whose} {m:Ya} {X:WB} {ml:List (Zb×Lv)} {nb hn:Nat->Nat} {n k:Nat} {ad:Nat->aP}
def lY (m:Ya)(i:Nat)(a:Za):Ev:=⟨i,a.put,a.found,if a.found then a.tag else(0,0),if a.found then a.text else⟨#[]⟩,m.since.getD i 0,m.aA⟩
theorem Jsb (hp:Ye w B h O m X ml nb hn)(hi:i<6)(ha:Xf m.asks i=aa a)(hs:a.st=.done)(f8:m.events.length<=1000000):
 aj prog 62 #[.pointer (aa ⟨h,0,ab⟩),.int .i64 (i:Int)] w fun e w'=>e=.returned (.tuple #[])/\∃O' v',Ye w' B h O' {m with events:=m.events++ [lY m i a]} {X with ve:=v'} ml nb hn/\Yd (fun k=>O k≠ab) (fun k=>O' k≠ab) w w':=by
 obtain⟨b,c8,a2,a6,e7,e8,a7⟩:∃b,(X.cl i).p=aa b/\Qw w B b (fun k=>O k=aa (.ask i)) a/\(X.cl i).put=a.put/\(X.cl i).text=Yc m.texts i/\(X.cl i).cfg=a.config/\(X.cl i).fr=m.since.getD i 0:=by have:=hp.ask i hi;rw[ha]at this;exact this
 have c0:w.cell? ⟨h,1+i*5,ab⟩=aa (.pointer (aa ⟨b,0,ab⟩)):=by have:=(Yx hp.blk hi).1;rw[c8]at this;exact this
 obtain⟨U,Z,tx,f,d0,d1⟩:∃U Z tx f,(if a.st=.done/\a.found=ay then Value.tuple #[.agg #[.int .i64 a.tag.1,.int .i64 a.tag.2],.string a.text,.bool ay]else .tuple #[.agg #[.int .i64 0,.int .i64 0],.string ⟨#[]⟩,.bool ak])=.tuple #[.agg #[.int .i64 U,.int .i64 Z],.string tx,.bool f]/\lY m i a=⟨i,a.put,f,(U,Z),tx,m.since.getD i 0,m.aA⟩:=by
  cases hf:a.found with
  |true=>exact⟨_,_,_,_,if_pos ⟨hs,rfl⟩,by unfold lY;rw[hf];rfl⟩
  |false=>exact⟨_,_,_,_,if_neg (fun h=>by cases h.2),by unfold lY;rw[hf];rfl⟩
 have d2:aj prog 82 #[.pointer (aa ⟨b,0,ab⟩)] w fun e w'=>e=.returned (.tuple #[.agg #[.int .i64 U,.int .i64 Z],.string tx,.bool f])/\Hid (ae w.heap.size w w'):=(AR a2).mono fun e w' hq=>⟨by rw[<-d0];exact hq.1,hq.2⟩
 obtain⟨ev,a9⟩:∃ev:Ev,ev=⟨i,a.put,f,(U,Z),tx,m.since.getD i 0,m.aA⟩:=⟨_,rfl⟩;obtain⟨p,c,b2,_⟩:=hp.bV.form;have a8:=hp.aW.2.2;have b3:Hid (∀J W,ae w.heap.size w J->ae J.heap.size J W->W.cell? ⟨h,42,ab⟩=aa (.slice p m.events.length c)/\W.cell? ⟨h,1+i*5+1,ab⟩=aa (.bool a.put)/\W.cell? ⟨h,1+i*5+4,ab⟩=aa (.int .i64 (m.since.getD i 0))/\W.cell? ⟨h,41,ab⟩=aa (.int .i64 m.aA)):=fun J W h1 h2=>by
  have hq:=(hp.below (h1.trans (h2.mono h1.size))).blk;refine⟨by rw[<-b2];exact(Xa hq 42).1,by have:=(Yx hq hi).2.1;rw[a6]at this;exact this,by have:=(Yx hq hi).2.2.2.2;rw[a7]at this;exact this,by rw[<-a8];exact(Xa hq 41).1⟩
 have d3:Hid (∀H W tb,ae w.heap.size w H->w.heap.size<=tb->H.heap[tb]?=aa (.cells #[.int .i64 U,.int .i64 Z] 39 (0,0))->W=(H.alloc (.cells #[.int .i64 (i:Int),.bool a.put,.bool f,.int .i64 U,.int .i64 Z,.string tx,.int .i64 (m.since.getD i 0),.int .i64 m.aA] 41)).drew->∃p' n' c' w3,(∀ty,(Builtin.append_ #[36,36] ty #[.slice p m.events.length c,.slice (aa ⟨H.heap.size,0,ab⟩) 1 1]).run prog W=.ok (.slice p' n' c') w3)/\(∃v0,w3.cell? ⟨h,42,ab⟩=aa v0)/\w3.frozen? ⟨h,42,ab⟩=ak/\(∀V,V=w3∨V=w3.setCell ⟨h,42,ab⟩ (.slice p' n' c')->(V.cell? ⟨h,1+i*5+1,ab⟩=aa (.bool a.put)/\V.cell? ⟨h,1+i*5+4,ab⟩=aa (.int .i64 (m.since.getD i 0))/\V.cell? ⟨h,41,ab⟩=aa (.int .i64 m.aA)/\V.cell? ⟨tb,0,ab⟩=aa (.int .i64 U)/\V.cell? ⟨tb,1,ab⟩=aa (.int .i64 Z)))/\Hid (∃O' v',Ye (w3.setCell ⟨h,42,ab⟩ (.slice p' n' c')) B h O' {m with events:=m.events++ [lY m i a]} {X with ve:=v'} ml nb hn/\Yd (fun k=>O k≠ab) (fun k=>O' k≠ab) w (w3.setCell ⟨h,42,ab⟩ (.slice p' n' c')))):=fun H W tb a3 f9 d4 hW=>by
  have b4:ae H.heap.size H W:=by rw[hW];exact(bR.alloc nR _).drew
  have d5:W.heap[H.heap.size]?=aa (.cells #[.int .i64 (i:Int),.bool a.put,.bool f,.int .i64 U,.int .i64 Z,.string tx,.int .i64 (m.since.getD i 0),.int .i64 m.aA] 41 (0,0)):=by
   rw[hW];show(H.heap.push _)[H.heap.size]?=_;simp
  have d6:=a3.trans (b4.mono a3.size);have a0:=hp.below d6;have e9:Ql XI W (aa ⟨H.heap.size,0,ab⟩) [ev]:=ag ⟨H.heap.size,0,rfl,(ai.1 d5).1,fun j x hx jj u hu=>by
   obtain rfl:j=0:=by
    rcases j with _|j
    ·rfl
    ·simp at hx
   obtain rfl:ev=x:=by simpa using hx
   rw[Nat.zero_mul,bg,Nat.zero_add,(Xa d5 jj).1];rw[a9]at hu;rw[List.getElem?_toArray];exact hu⟩
  obtain⟨v',w3,g1,g2,g3,g4⟩:=vX (w:=W) (E:=XI) 36 41 _ 64 underlying36 DC rfl B X.ve m.events a0.bV (aa ⟨H.heap.size,0,ab⟩) [ev] 1 e9 (fun e=>by cases e) (by show m.events.length+1<=_;unfold maxLen;omega) (by show(m.events.length+1)*64<=_;omega) a0.base;obtain⟨p',c',f3,_⟩:=g2.form;obtain⟨O3,d7,f4⟩:=a0.rT g2 g3 g4;have f5:X.ve.ownBlock≠aa h:=fun e=>by have:=a0.cS h e;rw[a0.self]at this;cases this
  have b5:=g3.block h a0.lt (fun e=>f5 e.symm);rw[b2]at g1;subst f3;refine⟨p',(m.events++ [ev]).length,c',w3,g1,⟨_,(aw (a:=⟨h,42,ab⟩) b5).trans (a0.cell 42).1⟩,(World.frozen?_of_block (a:=⟨h,42,ab⟩) b5).trans (a0.cell 42).2,fun V hV=>?_,O3,.slice p' (m.events++ [ev]).length c',?_,(Yd.aJ d6).trans' f4⟩
  ·have d8:tb<H.heap.size:=(ai.1 d4).1;have b6:=(g3.block tb (zc d8 b4.size) (fun e=>by have:=(hp.aO tb _ (hp.cS tb e.symm)).2;omega)).trans ((b4.block tb d8).trans d4);have f6:tb≠h:=by have:=hp.lt;omega
   rcases hV with rfl|rfl
   ·have hq:V.heap[h]?=aa (.cells (Zi X) 65 (0,0)):=b5.trans a0.blk;exact⟨by have:=(Yx hq hi).2.1;rw[a6]at this;exact this,by have:=(Yx hq hi).2.2.2.2;rw[a7]at this;exact this,by rw[<-a8];exact(Xa hq 41).1,(Xa b6 0).1,(Xa b6 1).1⟩
   ·have hq:=d7.blk;have d9:=(ah w3 ⟨h,42,ab⟩ (.slice p' (m.events++ [ev]).length c') tb f6).trans b6;exact⟨by have:=(Yx hq hi).2.1;rw[show({X with ve:=.slice p' (m.events++ [ev]).length c'}:WB).cl=X.cl from rfl,a6]at this;exact this,by have:=(Yx hq hi).2.2.2.2;rw[show({X with ve:=.slice p' (m.events++ [ev]).length c'}:WB).cl=X.cl from rfl,a7]at this;exact this,by rw[<-a8];exact(Xa hq 41).1,(Xa d9 0).1,(Xa d9 1).1⟩
  ·rw[d1,<-a9];exact d7
 have z1:(0:Int)<=(i:Int):=by omega
 have z2:(i:Int)<6:=by omega
 have e0:Hid (∀W,(∃O' v',Ye W B h O' {m with events:=m.events++ [lY m i a]} {X with ve:=v'} ml nb hn/\Yd (fun k=>O k≠ab) (fun k=>O' k≠ab) w W)->∃O' v',Ye W B h O' {m with events:=m.events++ [lY m i a]} {X with ve:=v'} ml nb hn/\Yd (fun k=>O k≠ab) (fun k=>O' k≠ab) w W):=fun _ h=>h
 clear hp c8 a2 a6 e7 e8 a7 d0 d1 a9 b2 a8 ha hs f8;generalize m.since.getD i 0=fr at *;generalize m.aA=dl at *;generalize m.events.length=en at *;generalize a.put=pu at *;go_enter func62,ntmps62;go_wp2_with fail
 refine d2.mono ?_;rintro e J ⟨rfl,a4⟩;obtain⟨H,a3⟩:=Xb (J.alloc (.cells #[.int .i64 U,.int .i64 Z] 39));have a2:ae J.heap.size J H:=by rw[a3];exact bR.alloc nR _
 have a5:H.heap[J.heap.size]?=aa (.cells #[.int .i64 U,.int .i64 Z] 39 (0,0)):=by
  rw[a3];show(J.heap.push _)[J.heap.size]?=_;simp
 have f7:Hid _:=a3;have b0:=(Xa a5 0).1;have b1:=(Xa a5 1).1;obtain⟨q0,q1,q2,q3⟩:=b3.out J H a4.out a2;obtain⟨r0,_⟩:=b3.out J (H.alloc (.cells #[.int .i64 (i:Int),.bool pu,.bool f,.int .i64 U,.int .i64 Z,.string tx,.int .i64 fr,.int .i64 dl] 41)) a4.out (a2.trans ((bR.alloc nR _).mono a2.size));obtain⟨p',n',c',w3,e1,⟨v3,u3⟩,u4,b7,e2⟩:=d3.out H _ J.heap.size (a4.out.trans (a2.mono a4.out.size)) a4.out.size a5 rfl;have e3:=b7 w3 (ap rfl);have e4:=b7 _ (ag rfl);have e5:H.drew.cell? ⟨h,1+i*5+1,ab⟩=aa (.bool pu)/\H.drew.cell? ⟨h,1+i*5+4,ab⟩=aa (.int .i64 fr)/\H.drew.cell? ⟨h,41,ab⟩=aa (.int .i64 dl)/\H.drew.cell? ⟨J.heap.size,0,ab⟩=aa (.int .i64 U)/\H.drew.cell? ⟨J.heap.size,1,ab⟩=aa (.int .i64 Z):=⟨q1,q2,q3,b0,b1⟩;have b8:(H.alloc (.cells #[.int .i64 (i:Int),.bool pu,.bool f,.int .i64 U,.int .i64 Z,.string tx,.int .i64 fr,.int .i64 dl] 41)).drew.cell? ⟨h,1+i*5+1,ab⟩=aa (.bool pu)/\(H.alloc (.cells #[.int .i64 (i:Int),.bool pu,.bool f,.int .i64 U,.int .i64 Z,.string tx,.int .i64 fr,.int .i64 dl] 41)).drew.cell? ⟨h,1+i*5+4,ab⟩=aa (.int .i64 fr)/\(H.alloc (.cells #[.int .i64 (i:Int),.bool pu,.bool f,.int .i64 U,.int .i64 Z,.string tx,.int .i64 fr,.int .i64 dl] 41)).drew.cell? ⟨h,41,ab⟩=aa (.int .i64 dl)/\(H.alloc (.cells #[.int .i64 (i:Int),.bool pu,.bool f,.int .i64 U,.int .i64 Z,.string tx,.int .i64 fr,.int .i64 dl] 41)).drew.cell? ⟨J.heap.size,0,ab⟩=aa (.int .i64 U)/\(H.alloc (.cells #[.int .i64 (i:Int),.bool pu,.bool f,.int .i64 U,.int .i64 Z,.string tx,.int .i64 fr,.int .i64 dl] 41)).drew.cell? ⟨J.heap.size,1,ab⟩=aa (.int .i64 Z):=by
  have hb:=(ao H.heap.size H).alloc nR (.cells #[.int .i64 (i:Int),.bool pu,.bool f,.int .i64 U,.int .i64 Z,.string tx,.int .i64 fr,.int .i64 dl] 41);have e6:=(ai.1 a5).1;have hl:=uU q0;exact⟨(hb.cell (p:=⟨h,1+i*5+1,ab⟩) hl).trans q1,(hb.cell (p:=⟨h,1+i*5+4,ab⟩) hl).trans q2,(hb.cell (p:=⟨h,41,ab⟩) hl).trans q3,(hb.cell (p:=⟨J.heap.size,0,ab⟩) e6).trans b0,(hb.cell (p:=⟨J.heap.size,1,ab⟩) e6).trans b1⟩
 clear b7;clear a5 a3 a2 b3 d3 d2 a4 c0;go_wp2_with (rw[<-f7.out])
 refine wp_region_held_drew (S:=fun W=>(W.cell? ⟨h,1+i*5+1,ab⟩=aa (.bool pu)/\W.cell? ⟨h,1+i*5+4,ab⟩=aa (.int .i64 fr)/\W.cell? ⟨h,41,ab⟩=aa (.int .i64 dl)/\W.cell? ⟨J.heap.size,0,ab⟩=aa (.int .i64 U)/\W.cell? ⟨J.heap.size,1,ab⟩=aa (.int .i64 Z))) (by kernel_rfl) e5 (fun D=>?_);refine tk 0 _ D ?_;refine tk 1 _ D ?_;refine tk 2 _ D ?_;refine tk 3 _ D ?_;refine tk 5 _ D ?_;refine tk 6 _ D ?_;refine tk 7 _ D ?_;refine tk 8 _ D ?_;refine tk 9 _ D ?_;refine tk 10 _ D ?_;refine tk 11 _ D ?_;refine tk 12 _ D ?_;refine tk 13 _ D ?_;refine tk 14 _ D ?_;refine tk 15 _ D ?_;refine tk 16 _ D ?_;refine tk 17 _ D ?_;refine tk 18 _ D ?_;refine tk 19 _ D ?_;refine tk 20 _ D ?_;refine tk 21 _ D ?_;refine tk 22 _ D ?_;simp only[av,sA,sZ,sS];refine rdy 4 [23] _ (fun K I=>?_) ?_
 ·skip
  go_simp;refine I.out _ _ e5 (fun D=>?_);clear I K;try simp only[av,sA,sZ,sS]
  refine rdy 23 [] _ (fun K I=>?_) al;go_simp;refine I.out _ _ b8 (fun D=>?_);clear I K;try simp only[av,sA,sZ,sS]
  refine rdy 24 [] _ (fun K I=>?_) al;refine XU rfl (.tmp 26) (.tmp 45) 36 36 rfl _ _ (by first|(simp[Act.eval];done)|(simp[Act.eval,Act.put];done)) (by first|(simp[Act.eval];done)|(simp[Act.eval,Act.put];done)) (fun ty=>e1 ty) ?_;refine I.out _ _ e3 (fun D=>?_);clear I K;try simp only[av,sA,sZ,sS]
  refine tk 25 _ D ?_;refine tk 26 _ D ?_;simp only[av,sA,sZ,sS];refine rdy 27 [] _ (fun K I=>?_) al;go_simp;refine I.out _ _ e4 (fun D=>?_);clear I K;try simp only[av,sA,sZ,sS]
  refine wpAnyH_done (by kernel_rfl) ?_ _;go_wp2_with fail
  go_end0
  exact⟨rfl,e0.out _ e2.out⟩
 ·refine AllReadyH.cons (o:=⟨aa 45,.buildSlice 36 1 #[(0,.tmp 44)],36, "client.go:88",#[⟨22,.data⟩],ab⟩) rfl (fun K I=>?_) al;go_simp;refine I.out _ _ b8 (fun D=>?_);clear I K;try simp only[av,sA,sZ,sS]
  refine rdy 4 [] _ (fun K I=>?_) al;go_simp;refine I.out _ _ b8 (fun D=>?_);clear I K;try simp only[av,sA,sZ,sS]
  refine rdy 24 [] _ (fun K I=>?_) al;refine XU rfl (.tmp 26) (.tmp 45) 36 36 rfl _ _ (by first|(simp[Act.eval];done)|(simp[Act.eval,Act.put];done)) (by first|(simp[Act.eval];done)|(simp[Act.eval,Act.put];done)) (fun ty=>e1 ty) ?_;refine I.out _ _ e3 (fun D=>?_);clear I K;try simp only[av,sA,sZ,sS]
  refine tk 25 _ D ?_;refine tk 26 _ D ?_;simp only[av,sA,sZ,sS];refine rdy 27 [] _ (fun K I=>?_) al;go_simp;refine I.out _ _ e4 (fun D=>?_);clear I K;try simp only[av,sA,sZ,sS]
  refine wpAnyH_done (by kernel_rfl) ?_ _;go_wp2_with fail
  go_end0
  exact⟨rfl,e0.out _ e2.out⟩
end
end
section
section
variable {w w':World} {B h:Nat} {O O':Nat->Option Whose} {m:Ya} {X:WB} {ml:List (Zb×Lv)} {nb hn:Nat->Nat} {n k:Nat} {ad:Nat->aP}
theorem Ye.ended (H:Ye w B h O m X ml nb hn)(I:Yp h w w'){c:fS}(Z:i<m.asks.length)(a2:w'.heap[h]?=aa (.cells (Zi {X with cl:=JA X.cl i c}) 65 (0,0)))(hc:c.p=ab):∃O',Ye w' B h O' {m with asks:=m.asks.set i ab} {X with cl:=JA X.cl i c} ml nb hn/\Yd (fun k=>O k≠ab) (fun k=>O' k≠ab) w w':=by
 have K:Yd (fun k=>O k=aa (.ask i)∨O k=aa .self) (fun _=>False) w w':=⟨I.os,I.tape,I.output,I.size,fun k D a0=>I.cW k D (fun e=>a0 (ag (e▸H.self))),fun k D=>D.elim⟩;have U:=Qv.of (t:=.ask i) (fun e=>by cases e) H.aO H.base K (fun k D=>D.elim) (fun k D=>D.elim);refine⟨_,{H.toXJ.gH (m':={m with asks:=m.asks.set i ab}) (X':={X with cl:=JA X.cl i c}) U rfl rfl rfl rfl (fun j _ J=>⟨by show Xf (m.asks.set i ab) j=_;rw[ZZ Z,if_neg J],rfl,rfl⟩) rfl rfl rfl rfl rfl rfl (fun j J=>yF _ _ J) (fun _=>?_)with blk:=a2,self:=(U.same .self h (fun e=>by cases e) (fun e=>by cases e)).2 H.self,cV:=H.cV,dF:=H.dF,aW:=H.aW},QM K (fun k D=>D.elim)⟩;show kA _ _ _ _ (Xf (m.asks.set i ab) i) (JA X.cl i c i) _ _;rw[ZZ Z,if_pos rfl,YZ];exact hc
theorem Jqr (I:Ye w B h O m X ml nb hn)(hz:WZ n k m)(hi:i<6)(ha:Xf m.asks i=aa a)(hL:Jn w x)(hx:YF x.1)(hE:Yi ad w O):∃b,(∀W O2 m2 J a0,Ye W B h O2 m2 J a0 nb hn->J.cl=X.cl->W.cell? ⟨h,1+i*5,ab⟩=aa (.pointer (aa ⟨b,0,ab⟩)))/\∀W,ae w.heap.size w W->aj prog 61 #[.pointer (aa ⟨b,0,ab⟩),Z1 x.1 (fI x.2)] W fun e w'=>∃p c,e=.returned (.slice p (a.aD x.1).2.length c)/\∃H,Ye w' B h H {m with asks:=m.asks.set i (aa (a.aD x.1).1)} X ml nb hn/\Qp c (fun b=>H b=aa .bD) w' p (a.aD x.1).2/\Yd (fun k=>O k≠ab) (fun k=>H k≠ab) w w'/\∀k,w.heap.size<=k->k<W.heap.size->w'.heap[k]?=W.heap[k]?:=by
 obtain⟨b,a2,a3,a4,a5,a6,a7⟩:∃b,(X.cl i).p=aa b/\Qw w B b (fun k=>O k=aa (.ask i)) a/\(X.cl i).put=a.put/\(X.cl i).text=Yc m.texts i/\(X.cl i).cfg=a.config/\(X.cl i).fr=m.since.getD i 0:=by have:=I.ask i hi;rw[ha]at this;exact this
 obtain⟨a8,a9,_⟩:=hz.asks i a ha;obtain⟨s1,s2,s3⟩:=zX x.1 a9;refine⟨b,fun W O2 m2 J a0 K he=>by have:=(Yx K.blk hi).1;rw[he,a2]at this;exact this,fun W D=>?_⟩;have b0:=I.below D;refine(EK ad (a3.dA D.size (fun k U=>D.block k (I.aO k _ U).2)) x (hL.below D) (a8.small hx) (fun v hv=>(hx.cM v hv).1) (fun V hs U=>?_)).mono fun e w' K=>?_
 ·have:=(hE.below D) V hs (fun k b1 b2=>U k b1 (fun e=>by have e:O k=aa (.ask i):=e;rw[b2]at e;cases e));exact⟨this.q,this.x.1⟩
 ·obtain⟨S',⟨p,c,e1,e2⟩,e3,e4⟩:=K;obtain⟨H,g1,g2,g3,g4⟩:=b0.asked hi a2 e3 e4 (by rw[s3];exact a4) a5 (by rw[s2];exact a6) a7 hz.la;exact⟨p,c,e1,H,g1,e2.mono (fun b Z=>g3 b Z.1 Z.2.1 Z.2.2),(Yd.aJ D).trans' g4,fun k h1 h2=>e4.block k h2 (fun e=>by have e:O k=aa (.ask i):=e;have:=(I.aO k _ e).2;omega)⟩
theorem I7 (h:XA a){x:Zb}(hx:YF x)(hc:a.config<=999):(a.aD x).2.length<=12:=by
 obtain⟨D,_⟩:=h.aD hx hc;have H:∀b:Za,XA b->(b.send JJ ay).length<=12:=fun b I=>by
  obtain⟨⟨_,_,h3⟩,h4,_⟩:=Xm I.aN.cfg;rw[zT];omega
 unfold Za.aD at D ⊢;split
 ·exact am _
 ·rename_i J;rw[if_neg J]at D;split
  ·exact am _
  ·rename_i K;rw[if_neg K]at D;split
   ·exact am _
   ·rename_i U;rw[if_neg U]at D;split
    ·exact am _
    ·rename_i Z;rw[if_neg Z]at D;split
     ·exact am _
     ·rename_i n5;rw[if_neg n5]at D;exact H _ D
theorem Jl9 (hp:Ye w B h O m X ml nb hn)(hz:WZ n k m)(hi:i<6)(ha:Xf m.asks i=aa a)(hL:Jn w x)(hx:YF x.1)(hE:Yi ad w O)(h0:0<=m.ops)(h1:m.ops<=1152921504606846976)(h6:m.events.length<=1000000):
 aj prog 40 #[.pointer (aa ⟨h,0,ab⟩),.int .i64 (i:Int),Z1 x.1 (fI x.2)] w fun e w'=>e=.returned (.tuple #[])/\Yj w B h O (m.aD i x.1) nb hn w':=by
 have h7:a.st≠.done->True:=fun _=>trivial
 obtain⟨b,d7,d8⟩:=Jqr hp hz hi ha hL hx hE;obtain⟨b3,d9,e0⟩:=hz.asks i a ha;obtain⟨e7,e8⟩:=b3.aD hx (by omega);obtain⟨s1,s2,s3⟩:=zX x.1 d9;obtain⟨m2,a2⟩:=Xb (Ya.send {m with asks:=m.asks.set i (aa (a.aD x.1).1)} (a.aD x.1).2);have e9:m.aD i x.1=m2.after i (a.aD x.1).1:=by unfold Ya.aD;rw[ha,a2]
 have f5:WZ n k {m with asks:=m.asks.set i (aa (a.aD x.1).1)}:=hz.asked (fun b hb=>by rw[<-Option.some.inj hb];exact⟨e7,s1,by rw[s2];exact e0⟩);have b4:WZ n k m2:=by rw[a2];exact f5.send e8
 have a8:Xf m2.asks i=aa (a.aD x.1).1:=by rw[a2];show Xf (m.asks.set i _) i=_;rw[ZZ (by rw[hz.la];exact hi),if_pos rfl]
 have b5:(a.aD x.1).2.length<=12:=I7 b3 hx (by omega);rw[e9];obtain⟨a1,a9⟩:=Xb ((a.aD x.1).1);rw[<-a9]at a8 ⊢;obtain⟨⟨K,U,Z,x3,x4,x5,x6,xL⟩,lp,ln,lc⟩:=x
 replace b5:(a.aD ⟨K,U,Z,x3,x4,x5,x6,xL⟩).2.length<=12:=b5
 obtain⟨w1,b0⟩:=Xb (w.alloc (.cells #[.string K,.string U,.string Z,.string x3,.int .i64 x4,.int .i64 x5,.bool x6,.slice lp ln lc] 90));have a5:=Zk b0;have b6:w1.heap[w.z]?=aa (.cells #[.string K,.string U,.string Z,.string x3,.int .i64 x4,.int .i64 x5,.bool x6,.slice lp ln lc] 90 (0,0)):=by
  rw[b0];show(w.heap.push _)[w.z]?=_;simp
 have f6:aj prog 26 #[.pointer (aa (pA h (1+i*5)))] w1 fun e w'=>e=.returned (.string a.st.word)/\Hid (ae w1.z w1 w'):=(XV (hp.below a5) hi).mono fun e w' J=>⟨by rw[J.1,ha];rfl,J.2⟩
 have h8:¬a.st.word.toList=[105,100,108,101]/\(a.st.word.toList==[105,100,108,101])=false:=by
  generalize a.st=st;cases st<;>exact⟨by decide +kernel,by decide +kernel⟩
 obtain⟨k3,k4⟩:=h8;have f7:Hid (∀W,ae w1.z w1 W->(W.cell? (pA h (1+i*5))=aa (.pointer (aa (pA b 0)))/\W.cell? (pA w.z 0)=aa (.string K)/\W.cell? (pA w.z 1)=aa (.string U)/\W.cell? (pA w.z 2)=aa (.string Z)/\W.cell? (pA w.z 3)=aa (.string x3)/\W.cell? (pA w.z 4)=aa (.int .i64 x4)/\W.cell? (pA w.z 5)=aa (.int .i64 x5)/\W.cell? (pA w.z 6)=aa (.bool x6)/\W.cell? (pA w.z 7)=aa (.slice lp ln lc))):=fun W hW=>by
  have a3:=(hW.block _ (ai.1 b6).1).trans b6;exact⟨d7 _ _ _ _ _ (hp.below (a5.trans (hW.mono a5.size))) rfl,(Xa a3 0).1,(Xa a3 1).1,(Xa a3 2).1,(Xa a3 3).1,(Xa a3 4).1,(Xa a3 5).1,(Xa a3 6).1,(Xa a3 7).1⟩
 have f8:Hid (∀W,ae w1.z w1 W->aj prog 61 #[.pointer (aa (pA b 0)),.agg #[.string K,.string U,.string Z,.string x3,.int .i64 x4,.int .i64 x5,.bool x6,.slice lp ln lc]] W fun e w'=>∃p c,e=.returned (.slice p (a.aD ⟨K,U,Z,x3,x4,x5,x6,xL⟩).2.length c)/\Hid (∃O1,Ye w' B h O1 {m with asks:=m.asks.set i (aa (a.aD ⟨K,U,Z,x3,x4,x5,x6,xL⟩).1)} X ml nb hn/\Qp c (fun b=>O1 b=aa .bD) w' p (a.aD ⟨K,U,Z,x3,x4,x5,x6,xL⟩).2/\Yd (fun k=>O k≠ab) (fun k=>O1 k≠ab) w w')):=fun W hW=>(d8 W (a5.trans (hW.mono a5.size))).mono fun e w' J=>by
  obtain⟨p,c,e1,O1,e2,e3,e4,e5⟩:=J;exact⟨p,c,e1,O1,e2,e3,e4⟩
 have f9:Hid (∀W p c,Hid (∃O1,Ye W B h O1 {m with asks:=m.asks.set i (aa (a.aD ⟨K,U,Z,x3,x4,x5,x6,xL⟩).1)} X ml nb hn/\Qp c (fun b=>O1 b=aa .bD) W p (a.aD ⟨K,U,Z,x3,x4,x5,x6,xL⟩).2/\Yd (fun k=>O k≠ab) (fun k=>O1 k≠ab) w W)->aj prog 45 #[.pointer (aa (pA h 0)),.slice p (a.aD ⟨K,U,Z,x3,x4,x5,x6,xL⟩).2.length c] W fun e w'=>e=.returned (.tuple #[])/\Hid (∃D H I,Ye w' B h D m2 H I nb hn/\H.cl=X.cl/\Yd (fun k=>O k≠ab) (fun k=>D k≠ab) w w')):=fun W p c hM=>by
  obtain⟨O1,h9,i0,i1⟩:=hM.out;refine(oS h9 hz.bO (by omega) i0).mono fun e w' J=>?_
  obtain⟨e1,O6,v6,i2,g0,_,i3⟩:=J;rw[<-a2]at g0;exact⟨e1,O6,_,i2,g0,rfl,i1.trans' i3⟩
 have g3:Hid (∀W D H I,Ye W B h D m2 H I nb hn->aj prog 26 #[.pointer (aa (pA h (1+i*5)))] W fun e w'=>e=.returned (.string a1.st.word)/\Hid (ae W.z W w')):=fun W D H I J=>(XV J hi).mono fun e w' J=>⟨by rw[J.1,a8];rfl,J.2⟩
 have z1:(0:Int)<=(i:Int):=by omega
 have z2:(i:Int)<6:=by omega
 have i4:Hid (w1=w.alloc (.cells #[.string K,.string U,.string Z,.string x3,.int .i64 x4,.int .i64 x5,.bool x6,.slice lp ln lc] 90)):=b0;have i5:∃b,(X.cl i).p=aa b/\Qw w B b (fun k=>O k=aa (.ask i)) a/\(X.cl i).put=a.put/\(X.cl i).text=Yc m.texts i/\(X.cl i).cfg=a.config/\(X.cl i).fr=m.since.getD i 0:=by have:=hp.ask i hi;rw[ha]at this;exact this
 obtain⟨_,_,_,y3,y4,y5,y6⟩:=i5;have e5:a1.config=a.config:=by rw[a9];exact s2
 have e6:a1.put=a.put:=by rw[a9];exact s3
 have a6:Hid (∀W D H I,Ye W B h D m2 H I nb hn->H.cl=X.cl->W.cell? (pA h (1+i*5+2+1))=aa (.int .i64 a1.config)/\W.cell? (pA h 39)=aa (.int .i64 (m.aC:Int))):=fun W D H I J he=>by
  refine⟨by have:=(Yx J.blk hi).2.2.2.1;rw[he,y5]at this;rw[e5];exact this,?_⟩;have:=(Xa J.blk 39).1;rw[show(m.aC:Int)=H.act by rw[J.aW.1,a2];rfl];exact this
 have b7:∀m3,m2.after i a1=m3->m3=m2->∀W D H I,Ye W B h D m2 H I nb hn->Yd (fun k=>O k≠ab) (fun k=>D k≠ab) w W->Yj w B h O (m2.after i a1) nb hn W:=fun m3 e1 e2 W D H I g1 g2=>by rw[e1,e2];exact⟨D,H,I,g1,g2⟩
 have a7:Hid ((((¬a1.st.word.toList=[100,111,110,101]/\(a1.st.word.toList==[100,111,110,101])=ak)/\¬a1.st.word.toList=[114,101,102,117,115,101,100]/\(a1.st.word.toList==[114,101,102,117,115,101,100])=ak)/\∀W D H I,Ye W B h D m2 H I nb hn->Yd (fun k=>O k≠ab) (fun k=>D k≠ab) w W->Yj w B h O (m2.after i a1) nb hn W)∨(a1.st.word=⟨#[100,111,110,101]⟩/\∀W D H I,Ye W B h D m2 H I nb hn->Yd (fun k=>O k≠ab) (fun k=>D k≠ab) w W->aj prog 62 #[.pointer (aa (pA h 0)),.int .i64 (i:Int)] W fun e w'=>e=.returned (.tuple #[])/\∃X3,w'.heap[h]?=aa (.cells (Zi X3) 65 (0,0))/\Hid (∀V,V=lA w' h i ⟨ab,ak,⟨#[]⟩,0,0⟩->Yj w B h O (m2.after i a1) nb hn V))∨(a1.st.word=⟨#[114,101,102,117,115,101,100]⟩/\decide (a1.config<(m.aC:Int))=ak/\¬a1.config<(m.aC:Int)/\∀W D H I,Ye W B h D m2 H I nb hn->Yd (fun k=>O k≠ab) (fun k=>D k≠ab) w W->Yj w B h O (m2.after i a1) nb hn W)∨(a1.st.word=⟨#[114,101,102,117,115,101,100]⟩/\decide (a1.config<(m.aC:Int))=ay/\a1.config<(m.aC:Int)/\∀W D H I,Ye W B h D m2 H I nb hn->H.cl=X.cl->Yd (fun k=>O k≠ab) (fun k=>D k≠ab) w W->aj prog 34 #[.pointer (aa (pA h 0)),.int .i64 (i:Int)] W fun e w'=>e=.returned (.tuple #[])/\Hid (Yj w B h O (m2.after i a1) nb hn w'))):=by
  by_cases hs:a1.st=.done
  ·refine ag (ap ⟨by rw[hs];rfl,fun W D H I J hu=>(Jsb J hi a8 hs (by rw[a2];exact h6)).mono fun e w' b8=>by
    obtain⟨q1,O3,v3,q2,q3⟩:=b8;refine⟨q1,_,q2.blk,fun V hV=>?_⟩;obtain⟨O4,g1,g2⟩:=q2.ended (CI (Yp.refl h w') i ⟨ab,ak,⟨#[]⟩,0,0⟩) (by show i<m2.asks.length;rw[b4.la];exact hi) (AM q2.blk hi _) rfl;have e:m2.after i a1={m2 with events:=m2.events++ [lY m2 i a1],asks:=m2.asks.set i ab}:=by
     unfold Ya.after;rw[hs];rfl
    rw[e,hV];exact⟨O4,_,_,g1,(hu.trans' q3).trans' g2⟩⟩)
  ·by_cases hr:a1.st=.refused
   ·by_cases hc:a1.config<(m.aC:Int)
    ·have i8:m2.after i a1=m2.begin i a1.put:=by
      unfold Ya.after;rw[hr];exact if_pos (by rw[a2];exact hc)
     refine ag (ag (ag ⟨by rw[hr];rfl,decide_eq_true hc,hc,fun W D H I J he hu=>(zG J b4 hi (put:=a1.put) (by rw[he,y3,e6]) (by rw[he,y4,a2];rfl) (by rw[he,y6,a2];rfl) (by rw[a2];exact h0) (by rw[a2];exact h1) (hE.next hu).o).mono fun e w' b8=>by
      obtain⟨q1,O4,X4,i9,q2,q3⟩:=b8;rw[i8];exact⟨q1,O4,X4,i9,q2,hu.trans' q3⟩⟩))
    ·refine ag (ag (ap ⟨by rw[hr];rfl,decide_eq_false hc,hc,b7 m2 ?_ rfl⟩));unfold Ya.after;rw[hr];exact if_neg (by rw[a2];exact hc)
   ·have h1:=qT (o:=aa a1) (st:=.done) (fun b hb e=>hs (by rw[Option.some.inj hb];exact e)) (ag (ag rfl));rw[IU]at h1;have h2:=qT (o:=aa a1) (st:=.refused) (fun b hb e=>hr (by rw[Option.some.inj hb];exact e)) (ag (ap rfl));rw[CW]at h2;refine ap ⟨⟨h1,h2⟩,b7 m2 ?_ rfl⟩;unfold Ya.after;split
    ·rename_i e;exact absurd e hs
    ·rename_i e;exact absurd e hr
    ·rfl
 clear b7;generalize a1.config=ac at *;generalize (m.aC:Int)=k5 at *;generalize Yj w B h O (m2.after i a1) nb hn=G at *;generalize a1.st.word=k6 at *;generalize (a.aD ⟨K,U,Z,x3,x4,x5,x6,xL⟩).2.length=rl at *;generalize a.st.word=sw at *;clear hp hz ha hL hx hE d7 d8 b3 d9 e0 e7 e8 s1 s2 s3 a2 e9 f5 b4 a8 b5 b0 a5 b6 a9 h7 h0 h1 h6 y3 y4 y5 y6 e5 e6;show aj prog 40 #[.pointer (aa (pA h 0)),.int .i64 (i:Int),.agg #[.string K,.string U,.string Z,.string x3,.int .i64 x4,.int .i64 x5,.bool x6,.slice lp ln lc]] w _;go_enter func40,ntmps40;go_wp2_with (rw[<-i4.out])
 refine f6.mono ?_;rintro e w3 ⟨rfl,d0⟩;obtain⟨c0,c1,c2,c3,c4,c5,c6,c7,c8⟩:=f7.out w3 d0.out;have g4:=f8.out w3.drew d0.out.drew;have g5:Hid (aj prog 61 #[.pointer (aa (pA b 0)),.agg #[.string K,.string U,.string Z,.string x3,.int .i64 x4,.int .i64 x5,.bool x6,.slice lp ln lc]] w3.drew _):=g4;clear g4 f8 f7 f6 d0;go_wp2;go_cut []from 15 to 24 (fun W=>∃D H I,Ye W B h D m2 H I nb hn/\H.cl=X.cl/\Yd (fun k=>O k≠ab) (fun k=>D k≠ab) w W)
 case first =>
  go_region_law (first|(go_simp;go_at_call 61;refine g5.out.mono ?_;rintro e w5 ⟨p5,d5,rfl,j1⟩;go_simp)|(go_simp;go_at_call 45;refine(f9.out w5 p5 d5 j1).mono ?_;rintro e w6 ⟨rfl,j2⟩;go_simp))
  all_goals (go_wp2_with fail;go_meet)
  all_goals exact j2.out
 case rest =>
  obtain⟨D,H,I,d3,g6,g7⟩:=hcut;have g8:=g3.out wc D H I d3;have b1:Hid (Ye wc B h D m2 H I nb hn/\H.cl=X.cl/\Yd (fun k=>O k≠ab) (fun k=>D k≠ab) w wc):=⟨d3,g6,g7⟩;clear d3 g6 g7 g3 c0 c1 c2 c3 c4 c5 c6 c7 c8 g5 f9;go_wp2_with fail
  refine g8.mono ?_;rintro e w7 ⟨rfl,d4⟩;have a0:Hid (Ye w7 B h D m2 H I nb hn/\H.cl=X.cl/\Yd (fun k=>O k≠ab) (fun k=>D k≠ab) w w7):=⟨b1.out.1.below d4.out,b1.out.2.1,b1.out.2.2.trans' (Yd.aJ d4.out)⟩;clear g8 b1 d4;rcases a7.out with⟨⟨⟨k7,l0⟩,l7,l9⟩,hg⟩|⟨rfl,hn⟩|⟨rfl,hd,k0,hg⟩|⟨rfl,hd,k0,hg⟩
  ·have HG:Hid (∀W D H I,Ye W B h D m2 H I nb hn->Yd (fun k=>O k≠ab) (fun k=>D k≠ab) w W->G W):=hg;clear hg a7 a6;go_wp2
   go_end0
   exact⟨rfl,HG.out _ _ _ _ a0.out.1 a0.out.2.2⟩
  ·have g9:=hn w7 D H I a0.out.1 a0.out.2.2;clear a0 hn a7 a6;go_wp2_with fail
   refine g9.mono ?_;rintro e w8 ⟨rfl,X3,a4,b2⟩;obtain⟨c0,c1,c2,c3,c4⟩:=Yx a4 hi;have f0:=(Xa a4 (1+i*5)).2;have f1:=(Xa a4 (1+i*5+1)).2;have f2:=(Xa a4 (1+i*5+2)).2;have f3:=(Xa a4 (1+i*5+3)).2;have f4:=(Xa a4 (1+i*5+4)).2;obtain⟨w9,d6⟩:=Xb (lA w8 h i ⟨ab,ak,⟨#[]⟩,0,0⟩);have h3:Hid (G w9):=b2.out w9 d6;have h4:Hid (w9=((((w8.setCell (pA h (1+i*5)) (.pointer ab)).setCell (pA h (1+i*5+1)) (.bool ak)).setCell (pA h (1+i*5+2)) (.string ⟨#[]⟩)).setCell (pA h (1+i*5+3)) (.int .i64 0)).setCell (pA h (1+i*5+4)) (.int .i64 0)):=d6;clear a4 b2 d6 g9;go_wp2_with (rw[<-h4.out])
   go_wp2;first|(rw[<-h4.out];go_end0;exact⟨rfl,h3.out⟩)|(go_end0;exact⟨rfl,h3.out⟩)
  ·have HG:Hid (∀W D H I,Ye W B h D m2 H I nb hn->Yd (fun k=>O k≠ab) (fun k=>D k≠ab) w W->G W):=hg;obtain⟨d1,d2⟩:=a6.out w7 D H I a0.out.1 a0.out.2.1;clear hg a7 a6;go_wp2;go_quiet (fail)
   go_wp2
   go_end0
   exact⟨rfl,HG.out _ _ _ _ (a0.out.1.below (za (ao w7.z w7) _)) (a0.out.2.2.trans' (Yd.aJ (za (ao w7.z w7) _)))⟩
  ·have h5:=hg;obtain⟨d1,d2⟩:=a6.out w7 D H I a0.out.1 a0.out.2.1;have k2:Hid (∀W D H I,Ye W B h D m2 H I nb hn->H.cl=X.cl->Yd (fun k=>O k≠ab) (fun k=>D k≠ab) w W->aj prog 34 #[.pointer (aa (pA h 0)),.int .i64 (i:Int)] W fun e w'=>e=.returned (.tuple #[])/\Hid (G w')):=h5;clear hg h5 a7 a6;go_wp2;go_quiet (fail)
   go_wp2_with fail
   refine(k2.out _ D H I (a0.out.1.below (za (ao w7.z w7) _)) a0.out.2.1 (a0.out.2.2.trans' (Yd.aJ (za (ao w7.z w7) _)))).mono ?_;rintro e w8 ⟨rfl,b2⟩;go_wp2
   go_end0
   exact⟨rfl,b2.out⟩
end
end
section
section
variable {w w':World} {B h:Nat} {O O':Nat->Option Whose} {m:Ya} {X:WB} {ml:List (Zb×Lv)} {nb hn:Nat->Nat} {n k:Nat} {ad:Nat->aP}
theorem Jmz (hp:Ye w B h O m X ml nb hn)(hi:i<6)(ha:Xf m.asks i=ab)(x:Zb×Lv):
 aj prog 40 #[.pointer (aa ⟨h,0,ab⟩),.int .i64 (i:Int),Z1 x.1 (fI x.2)] w fun e w'=>e=.returned (.tuple #[])/\Yj w B h O (m.aD i x.1) nb hn w':=by
 have a2:m.aD i x.1=m:=by unfold Ya.aD;rw[ha]
 rw[a2];obtain⟨⟨H,I,J,K,U,Z,x6,xL⟩,lp,ln,lc⟩:=x;obtain⟨w1,a0⟩:=Xb (w.alloc (.cells #[.string H,.string I,.string J,.string K,.int .i64 U,.int .i64 Z,.bool x6,.slice lp ln lc] 90));have D:=Zk a0;have a3:aj prog 26 #[.pointer (aa ⟨h,1+i*5,ab⟩)] w1 fun e w'=>e=.returned (.string ⟨#[105,100,108,101]⟩)/\Hid (Yj w B h O m nb hn w'):=(XV (hp.below D) hi).mono fun e w' hq=>⟨by rw[hq.1,ha];rfl,Yj.here hp (D.trans (hq.2.mono D.size))⟩
 have a4:Hid (w1=w.alloc (.cells #[.string H,.string I,.string J,.string K,.int .i64 U,.int .i64 Z,.bool x6,.slice lp ln lc] 90)):=a0;have z1:(0:Int)<=(i:Int):=by omega
 have z2:(i:Int)<6:=by omega
 generalize Yj w B h O m nb hn=G at *;clear hp a0 D a2 ha;show aj prog 40 #[.pointer (aa ⟨h,0,ab⟩),.int .i64 (i:Int),.agg #[.string H,.string I,.string J,.string K,.int .i64 U,.int .i64 Z,.bool x6,.slice lp ln lc]] w _;go_enter func40,ntmps40;go_wp2_with (rw[<-a4.out])
 refine a3.mono ?_;rintro e w3 ⟨rfl,HF⟩;go_wp2;refine au (results_none rfl _ _ _) rfl ?_;exact⟨rfl,HF.out⟩
theorem WR (H:Ye w B h O m X ml nb hn)(J:WZ n k m)(I:i<6)(K:Jn w x)(U:YF x.1)(Z:Yi ad w O)(h0:0<=m.ops)(h1:m.ops<=1152921504606846976)(a0:m.events.length<=1000000):
 aj prog 40 #[.pointer (aa ⟨h,0,ab⟩),.int .i64 (i:Int),Z1 x.1 (fI x.2)] w fun e w'=>e=.returned (.tuple #[])/\Yj w B h O (m.aD i x.1) nb hn w':=by
 cases D:Xf m.asks i with
 |none=>exact Jmz H I D x
 |some a =>
  exact Jl9 H J I D K U Z h0 h1 a0
end
end
theorem wN {a b:BA}(h:a.toList=b.toList):a=b:=by
 rw[aq,aq]at h;exact ByteArray.ext (aR.1 h)
def gM (s:BA):Int:=match YN s with|some i=>(i:Int)|none=>-1
theorem WI (D:i<6)(H:s=QW i)(I:∀j,j<i->s≠QW j):YN s=aa i:=by
 unfold YN;rw[List.find?_eq_some_iff_getElem];refine⟨decide_eq_true H,i,by simpa using D,by simp,fun j B=>?_⟩;simp only[List.getElem_range,Bool.not_eq_true',decide_eq_false_iff_not];exact I j B
theorem VD (h:∀j,j<6->s≠QW j):YN s=none:=by
 unfold YN;rw[List.find?_eq_none];intro j B;have:=h j (zj.1 B);simpa using this
theorem CE (s:BA) (w:World) (a7:Lib.TabIs prog w "internal/strconv.uint64pow10" .u64 Lib.pow10Tab):
 aj prog 39 #[.string s] w fun e w'=>e=.returned (.int .i64 (gM s))/\ae w.heap.size w w':=by
 have I:Hid (∀i:Nat,i<6->∀W,ae w.heap.size w W->aj prog 60 #[.int .i64 (i:Int)] W fun e w'=>e=.returned (.string (QW i))/\Hid (ae w.heap.size w w')):=fun i J W U=>(DB (i:Int) ⟨by omega,by omega⟩ W (TabIs.dJ a7 (fun k hk=>U.block k hk))).mono fun e w' hq=>⟨by rw[hq.1,IP (by omega) (by omega),CB J],U.trans (hq.2.mono U.size)⟩
 have K:Hid (∀i,i<6->s=QW i->(∀j,j<i->s≠QW j)->gM s=(i:Int)):=fun i J B h2=>by unfold gM;rw[WI J B h2]
 have O:Hid ((∀j,j<6->s≠QW j)->gM s=-1):=fun B=>by unfold gM;rw[VD B]
 clear a7;generalize gM s=R at *;go_enter func39,ntmps39;go_wp2;go_loopw [4] (fun x wr=>∃i:Nat,i<=6/\x=.int .i64 i/\(∀j,j<i->s≠QW j)/\ae w.heap.size w wr) (fun x _=>6-(intOf x).toNat)
 case atStart=>exact⟨0,am _,rfl,(fun j hj=>absurd hj (aE _)),ao _ _⟩
 case round =>
  obtain⟨i,J,rfl,a3,a4⟩:=hrel;have D:Hid _:=a3;have a5:Hid _:=a4;clear a3 a4;by_cases a6:i<6
  ·have Z:=I.out i a6 wr a5.out;by_cases H:s=QW i
   ·have HR:Hid (R=(i:Int)):=K.out i a6 H D.out;have a0:s.toList=(QW i).toList:=by rw[H]
    clear K O D H I;generalize QW i=nm at *;go_wp2_with fail
    refine Z.mono ?_;rintro e w2 ⟨rfl,a2⟩;go_wp2;go_ret;exact⟨by rw[HR.out];rfl,a2.out⟩
   ·have a0:¬s.toList=(QW i).toList:=fun e=>H (wN e)
    have a8:(s.toList==(QW i).toList)=false:=by simp[a0]
    have a9:Hid (∀j,j<i+1->s≠QW j):=fun j hj=>by
     rcases zd j i with B|B
     ·exact D.out j B
     ·rw[show j=i by omega];exact H
    clear K O D H I;generalize hg:QW i=nm at Z a0 a8;clear hg;go_wp2_with fail
    refine Z.mono ?_;rintro e w2 ⟨rfl,a2⟩;go_wp2;go_roundw
    case rel=>exact⟨i+1,by omega,by go_num,a9.out,a2.out⟩
    case measure=>simp[intOf];omega
  ·have b0:i=6:=by omega
   have HR:Hid _:=O.out (by rw[<-b0];exact D.out);clear K O D I;go_wp2;go_ret;exact⟨by rw[HR.out];rfl,a5.out⟩
def Yz (s:BA):Bool:=decide (s=J8)||(YN s).isSome
theorem JsD (s:BA):decide (0<=gM s)=(YN s).isSome:=by
 unfold gM;cases YN s with
 |none=>rfl
 |some i=>exact decide_eq_true (by show(0:Int)<=(i:Int);omega)
theorem RX (s:BA) (w:World) (I:Lib.TabIs prog w "internal/strconv.uint64pow10" .u64 Lib.pow10Tab):
 aj prog 30 #[.string s] w fun e w'=>e=.returned (.bool (Yz s))/\ae w.heap.size w w':=by
 have D:=CE s w I;by_cases B:s=J8
 ·have J:s.toList=[109,111,118,101,114]:=by rw[B];decide +kernel
  have H:Hid (Yz s=ay):=by show _=_;unfold Yz;rw[decide_eq_true B];rfl
  generalize Yz s=R at *;clear I B D;go_enter func30,ntmps30;go_wp2;go_ret;exact⟨by rw[H.out];rfl,ao _ _⟩
 ·have J:¬s.toList=[109,111,118,101,114]:=fun e=>B (wN (e.trans (by decide +kernel)))
  have Z:(s.toList==[109,111,118,101,114])=false:=by simp[J]
  have H:Hid (Yz s=decide (0<=gM s)):=by show _=_;unfold Yz;rw[decide_eq_false B,Bool.false_or,JsD]
  generalize Yz s=R at *;generalize gM s=cv at *;clear I B;go_enter func30,ntmps30;go_wp2_with fail
  refine D.mono ?_;rintro e O ⟨rfl,K⟩;have U:Hid (ae w.heap.size w O):=K;clear K D;go_wp2;go_ret;exact⟨by rw[H.out];rfl,U.out⟩
section
open Ring
def iJ (l:List BA):Nat:=l.findIdx Yz
theorem CY (B:i<l.length)(H:Yz (Yc l i)=ay)(I:∀j,j<i->Yz (Yc l j)=ak):iJ l=i:=by
 unfold iJ;rw[zf B];refine⟨by rw[<-Xk l i B];exact H,fun j D=>?_⟩;rw[<-Xk l j (by omega)];exact I j D
theorem L5 (h:∀j,j<l.length->Yz (Yc l j)=ak):¬iJ l<l.length:=fun B=>by
 have H:Yz l[iJ l]=true:=aF (p:=Yz) (xs:=l) (w:=B);have D:=h _ B;rw[Xk l _ B]at D;rw[H]at D;cases D
def Zr (l:List BA)(n k:Int):Int×Int:=if 0<(Xj l).1 then Xj l else if iJ l<l.length then(6,iJ l)else if 0<(Jm l n).1 then Jm l n else if 1<=k/\k<=n/\n<=12 then(0,-1)else(2,-1)
theorem FR {h:Nat}{B:List BA}{n k:Int}(H:XC h l B)(K:¬0<(Jm l n).1)(O:(B.length:Int)=n):Jg ⟨n,k,B⟩=if 1<=k/\k<=n/\n<=12 then(0,-1)else(2,-1):=by
 obtain⟨I,_,_,_⟩:=sK K;by_cases D:1<=k/\k<=n/\n<=12
 ·rw[if_pos D,wU (c:=⟨n,k,B⟩) D O];exact UY (by show 1<=B.length;omega) (by show B.length<=16;omega) (fun x J=>(YP I).1 x (H.mem x J)) H.nodup
 ·rw[if_neg D,vZ (c:=⟨n,k,B⟩) D]
def Y0 (W:World)(b:Nat)(B D H:zb):World:=((W.setCell ⟨b,0,ab⟩ B).setCell ⟨b,1,ab⟩ D).setCell ⟨b,2,ab⟩ H
theorem G2 {a1 U:zb}(Z:W.heap[b]?=aa (.cells #[O,a1,U] T (0,0)))(B D H:zb):(Y0 W b B D H).heap[b]?=aa (.cells #[B,D,H] T (0,0)):=by
 unfold Y0;have I:=Qc Z 0 B;have J:=Qc I 1 D;have K:=Qc J 2 H;rw[K];simp only[List.setIfInBounds_toArray,List.set_cons_zero,List.set_cons_succ]
theorem sM (W:World)(b:Nat)(D H I:zb){k:Nat}(B:k≠b):(Y0 W b D H I).heap[k]?=W.heap[k]?:=by
 unfold Y0;rw[ah _ _ _ _ B,ah _ _ _ _ B,ah _ _ _ _ B]
theorem xS {B:Nat}(Z:ae B w W)(D:B<=b)(H I J:zb):ae B w (Y0 W b H I J):=by
 unfold Y0;have K:=Z.setCell (p:=⟨b,0,ab⟩) D H;generalize W.setCell ⟨b,0,ab⟩ H=O at *;have U:=K.setCell (p:=⟨b,1,ab⟩) D I;generalize O.setCell ⟨b,1,ab⟩ I=W2 at *;exact U.setCell (p:=⟨b,2,ab⟩) D J
theorem Jd.pS {w':World}{x:Int}(h:Jd w ad I c at_)(hs:w.cell? ⟨b,1,ab⟩=aa (Value.int .i64 x))(J:∀k,k≠b->w'.heap[k]?=w.heap[k]?):Jd w' ad I c at_:=by
 rcases h with h|h|⟨i,B,K,O,U,Z,D⟩
 ·exact ap h
 ·exact ag (ap h)
 ·have H:B≠b:=fun e=>by
   subst e;rw[hs]at D;cases D
  exact ag (ag ⟨i,B,K,O,U,(aw (a:=⟨B,0,ab⟩) (J B H)).trans Z,(aw (a:=⟨B,1,ab⟩) (J B H)).trans D⟩)
theorem DS {a2:zb}{x0 x1:Int}(hW:ae w.heap.size w W)(U:W.heap[w.heap.size]?=aa (.cells #[.int .i64 x0,.int .i64 x1,a2] T (0,0)))(hI:Jd W ad O c at_)(H I J:zb){B:World}(K:B=Y0 W w.heap.size H I J):
 (B.cell? ⟨w.heap.size,0,ab⟩=aa H/\B.cell? ⟨w.heap.size,1,ab⟩=aa I/\B.cell? ⟨w.heap.size,2,ab⟩=aa J)/\Jd B ad O c at_/\ae w.heap.size w B:=by
 have D:=G2 U H I J;rw[<-K]at D;refine⟨⟨(Xa D 0).1,(Xa D 1).1,(Xa D 2).1⟩,?_,by rw[K];exact xS hW nR _ _ _⟩;have Z:=(Xa U 1).1;exact hI.pS Z (fun k hk=>by rw[K];exact sM _ _ _ _ _ hk)
def j3 (ad:Nat->aP)(w:World)(l:List BA)(n k:Int)(e:Ending)(w':World):Prop :=
 ((0<(Zr l n k).1/\∃B,e=.returned (.tuple #[.agg #[.int .i64 0,.int .i64 0,.slice ab 0 0],B])/\Jd w' ad B (Zr l n k).1 (Zr l n k).2) ∨
  (¬0<(Zr l n k).1/\∃c:fB,e=.returned (.tuple #[.agg #[.int .i64 c.c.n,.int .i64 c.c.k,c.v],.nilIface])/\c.c.n=n/\c.c.k=k/\XC (Xy wX) l c.c.L/\¬0<(Jg c.c).1/\Yn w' c.c c.p c.cap/\∀b o,c.p=aa ⟨b,o,ab⟩->w.heap.size<=b/\b<w'.heap.size))/\ae w.heap.size w w'
end
section
open Ring
theorem T3:∀args W,(callFunc 30 args).run prog W=.ok (.enter 30 args) W:=enters_of func30 (by kernel_rfl) rfl
theorem FN (ad:Nat->aP)(p:Option aP)(l:List BA)(cap:Nat)(n k:Int)(w:World)(hl:l.length<=1000)(hc:l.length<=cap)(hx:∀x∈l,x.size<=1000)(hn:Zt n)(hk:Zt k)(hs:Strs w p l)(hE:iZ ad w):
 aj prog 16 #[.slice p l.length cap,.int .i64 n,.int .i64 k] w (j3 ad w l n k):=by
 obtain⟨H,b3⟩:=Xb (w.alloc (.cells #[.int .i64 0,.int .i64 0,.slice ab 0 0] 49));have a3:=Zk b3;have e7:=JH b3;have f8:=fQ b3;have d5:∀W,ae w.heap.size w W->i7 W ad:=fun W J=>⟨(hE.q.below J).c1,(hE.q.below J).c3,(hE.q.below J).c5,(J.cell (Yl hE.bO)).trans hE.bO⟩
 have b1:=(FU ad).check p l cap H hl hc hx (hs.below a3) (d5 H a3);have b2:Hid _:=b3;have f4:Hid _:=a3;have HK:Hid (∀W,ae H.heap.size H W->W.heap[w.heap.size]?=aa (.cells #[.int .i64 0,.int .i64 0,.slice ab 0 0] 49 (0,0))):=fun W J=>(J.block _ f8).trans e7
 have b5:Hid (∀W t v c at_,ae H.heap.size H W->Jd W ad (.iface t v) c at_->0<c->Zr l n k=(c,at_)->∀D,D=Y0 W w.heap.size (.int .i64 0) (.int .i64 0) (.slice ab 0 0)->(D.cell? (pA w.heap.size 0)=aa (.int .i64 0)/\D.cell? (pA w.heap.size 1)=aa (.int .i64 0)/\D.cell? (pA w.heap.size 2)=aa (.slice ab 0 0))/\j3 ad w l n k (.returned (.tuple #[.agg #[.int .i64 0,.int .i64 0,.slice ab 0 0],.iface t v])) D):=fun W t v c at_ J K i1 h5 D b6=>by
  obtain⟨g1,g2,g3⟩:=DS (a3.trans (J.mono a3.size)) (HK.out W J) K _ _ _ b6;exact⟨g1,ap ⟨by rw[h5];exact i1,_,rfl,by rw[h5];exact g2⟩,g3⟩
 by_cases hN:0<(Xj l).1
 ·have a7:Hid (Zr l n k=((Xj l).1,(Xj l).2)):=by show _=_;unfold Zr;rw[if_pos hN]
  have HN:Hid _:=hN;generalize j3 ad w l n k=G at *;clear a3 e7 f8 b3 d5 hE hs hx hc hl hn hk;go_enter func16,ntmps16;go_wp2_with (rw[<-b2.out])
  refine b1.mono ?_;rintro e w2 ⟨⟨ev,rfl,K⟩,a4⟩;obtain⟨t,v,rfl⟩:=K.some HN.out;have I:Hid _:=HK.out w2 a4;have f0:=(Xa I.out 0).2;have f1:=(Xa I.out 1).2;have f2:=(Xa I.out 2).2;have a0:=(Xa I.out 0).1;have a1:=(Xa I.out 1).1;have a2:=(Xa I.out 2).1;obtain⟨D,b6⟩:=Xb (Y0 w2 w.heap.size (.int .i64 0) (.int .i64 0) (.slice ab 0 0));obtain⟨⟨d0,d1,d2⟩,hG⟩:=b5.out w2 t v _ _ a4 K HN.out a7.out D b6;have HG:Hid _:=hG;have i2:Hid (D=((w2.setCell (pA w.heap.size 0) (.int .i64 0)).setCell (pA w.heap.size 1) (.int .i64 0)).setCell (pA w.heap.size 2) (.slice ab 0 0)):=b6;clear hG b6 K a4 b1 b5 HK I HN a7 f4 b2;generalize w.heap.size=b at *;go_wp2;rw[<-i2.out];refine au (v:=.tuple #[.agg #[.int .i64 0,.int .i64 0,.slice ab 0 0],.iface t v]) (by simp[zi,results16,go_sem,d0,d1,d2]) rfl HG.out
 ·have f9:Xj l=(0,-1):=(QV (by omega)).1;have d3:Hid (∀W,ae H.heap.size H W->aj prog 29 #[.slice p l.length cap,.func (.func 30) #[] #[]] W fun e w'=>(∃r:Int,e=.returned (.int .i64 r)/\((∃i:Nat,i<l.length/\r=(i:Int)/\Yz (Yc l i)=ay/\∀j,j<i->Yz (Yc l j)=ak)∨r=-1/\∀j,j<l.length->Yz (Yc l j)=ak))/\Hid (ae H.heap.size H w')):=fun W J=>by
   have e8:ae w.heap.size w W:=a3.trans (J.mono a3.size);refine(JoZ p l cap 30 #[] Yz W (by omega) (hs.below e8) T3 (fun i hi V hV=>?_)).mono fun e w' hq=>⟨hq.1,J.trans (hq.2.mono J.size)⟩
   have i3:ae w.heap.size w V:=e8.trans (hV.mono e8.size);exact RX (Yc l i) V (TabIs.dJ hE.x.2 (fun k hk=>i3.block k hk))
  by_cases hT:iJ l<l.length
  ·have a7:Hid (Zr l n k=(((5+1:Nat):Int),(iJ l:Int))):=by show _=_;unfold Zr;rw[if_neg hN,if_pos hT];rfl
   have b7:Hid (∀r:Int,((∃i:Nat,i<l.length/\r=(i:Int)/\Yz (Yc l i)=ay/\∀j,j<i->Yz (Yc l j)=ak)∨r=-1/\∀j,j<l.length->Yz (Yc l j)=ak)->r=(iJ l:Int)):=fun r hr=>by
    rcases hr with⟨i,Z,h2,h3,h4⟩|⟨_,h2⟩
    ·rw[CY Z h3 h4];exact h2
    ·exact absurd hT (L5 h2)
   have h6:Hid (∀W,ae H.heap.size H W->W.cell? ⟨3,0,ab⟩=aa (.iface 287 (.pointer (aa (ad 5))))):=fun W J=>(hE.q.below (a3.trans (J.mono a3.size))).c5
   have HN:Hid (∀(ev:zb) W,Jd W ad ev (Xj l).1 (Xj l).2->ev=.nilIface):=fun ev W K=>K.none (by omega)
   have i4:Hid (∀W,ae H.heap.size H W->3≠w.heap.size):=fun W J=>by have:=Yl hE.q.c5;omega
   generalize j3 ad w l n k=G at *;clear a3 e7 f8 b3 d5 hE hs hx hc hl hn hk f9 hN;go_enter func16,ntmps16;go_wp2_with (rw[<-b2.out])
   refine b1.mono ?_;rintro e w2 ⟨⟨ev,rfl,K⟩,a4⟩;obtain rfl:=HN.out ev w2 K;have a8:=d3.out w2 a4;clear K a4 d3 HN b1;go_wp2_with fail
   refine a8.mono ?_;rintro e D ⟨⟨r,rfl,hr⟩,a5⟩;have HR:Hid (r=(iJ l:Int)):=b7.out r hr;obtain⟨j,hj⟩:∃j:Nat,j=iJ l:=⟨_,rfl⟩;have HJ:Hid (j=iJ l):=hj;obtain rfl:r=(j:Int):=by rw[hj];exact HR.out
   have z0:(0:Int)<=(j:Int):=by omega
   have c5:=h6.out D a5.out;have I:Hid (D.heap[w.heap.size]?=aa (.cells #[.int .i64 0,.int .i64 0,.slice ab 0 0] 49 (0,0))):=HK.out D a5.out;have f0:=(Xa I.out 0).2;have f1:=(Xa I.out 1).2;have f2:=(Xa I.out 2).2;have a0:D.cell? (pA w.heap.size 0)=aa (.int .i64 0):=(Xa I.out 0).1;have a1:D.cell? (pA w.heap.size 1)=aa (.int .i64 0):=(Xa I.out 1).1;have a2:D.cell? (pA w.heap.size 2)=aa (.slice ab 0 0):=(Xa I.out 2).1;obtain⟨ob,g8⟩:∃ob:Obj,ob=.cells #[.int .i64 (j:Int),.iface 287 (.pointer (aa (ad 5)))] 77:=⟨_,rfl⟩;have h7:ae D.heap.size D (D.alloc ob):=bR.alloc nR _;have g9:ae H.heap.size H (D.alloc ob):=a5.out.trans (h7.mono a5.out.size);have d6:Hid ((D.alloc ob).heap[w.heap.size]?=aa (.cells #[.int .i64 0,.int .i64 0,.slice ab 0 0] 49 (0,0))):=HK.out _ g9;have d0:(D.alloc ob).cell? (pA w.heap.size 0)=aa (.int .i64 0):=(Xa d6.out 0).1;have d1:(D.alloc ob).cell? (pA w.heap.size 1)=aa (.int .i64 0):=(Xa d6.out 1).1;have d2:(D.alloc ob).cell? (pA w.heap.size 2)=aa (.slice ab 0 0):=(Xa d6.out 2).1;have g0:=(Xa d6.out 0).2;have g1:=(Xa d6.out 1).2;have g2:=(Xa d6.out 2).2;have s0:=Yo a0;have s1:=Yo a1;have s2:=Yo a2;have t0:=Yo d0;have t1:=Yo d1;have t2:=Yo d2;have K:Jd (D.alloc ob).drew ad (.iface 75 (.pointer (aa (pA D.heap.size 0)))) ((5+1:Nat):Int) (iJ l:Int):=by
    rw[<-hj];exact(zP 5 (by decide) (j:Int) (by rw[g8])).below bR.drew
   have u0:=Yo (w:=(D.alloc ob).drew) d0;have u1:=Yo (w:=(D.alloc ob).drew) d1;have u2:=Yo (w:=(D.alloc ob).drew) d2;have HG:Hid (G (.returned (.tuple #[.agg #[.int .i64 0,.int .i64 0,.slice ab 0 0],.iface 75 (.pointer (aa (pA D.heap.size 0)))])) (D.alloc ob).drew):=(b5.out (D.alloc ob).drew _ _ _ _ g9.drew K (by decide) a7.out _ (by unfold Y0;rw[u0,u1,u2])).2;clear u0 u1 u2 K h7 g9 HR hj hr b7 h6 a8 HK I d6 f4 b2 b5 HJ a7 i4;rw[g8]at d0 d1 d2 g0 g1 g2 t0 t1 t2 HG;clear g8;obtain⟨O,e9⟩:=Xb ((D.alloc (.cells #[.int .i64 (j:Int),.iface 287 (.pointer (aa (ad 5)))] 77)).drew);have r0:O.cell? (pA w.heap.size 0)=aa (.int .i64 0):=by rw[e9];exact d0
   have r1:O.cell? (pA w.heap.size 1)=aa (.int .i64 0):=by rw[e9];exact d1
   have r2:O.cell? (pA w.heap.size 2)=aa (.slice ab 0 0):=by rw[e9];exact d2
   rw[<-e9]at HG;have i5:Hid (O=(D.alloc (.cells #[.int .i64 (j:Int),.iface 287 (.pointer (aa (ad 5)))] 77)).drew):=e9;clear e9;generalize w.heap.size=b at *;go_wp2;go_region
   all_goals rw[<-i5.out]
   all_goals go_wp2
   all_goals refine au (v:=.tuple #[.agg #[.int .i64 0,.int .i64 0,.slice ab 0 0],.iface 75 (.pointer (aa (pA D.heap.size 0)))]) (by simp[zi,results16,go_sem,r0,r1,r2]) rfl HG.out
  ·have b7:Hid (∀r:Int,((∃i:Nat,i<l.length/\r=(i:Int)/\Yz (Yc l i)=ay/\∀j,j<i->Yz (Yc l j)=ak) ∨ r= -1/\∀j,j<l.length->Yz (Yc l j)=ak)->r= -1):=fun r hr=>by
    rcases hr with⟨i,Z,h2,h3,h4⟩|⟨Z,h2⟩
    ·exact absurd (by rw[CY Z h3 h4];exact Z) hT
    ·exact Z
   have HN:Hid (∀(ev:zb) W,Jd W ad ev (Xj l).1 (Xj l).2->ev=.nilIface):=fun ev W K=>K.none (by omega)
   have f5:Hid (∀W,ae H.heap.size H W->aj prog 31 #[.slice p l.length cap,.string ⟨#[120]⟩,.int .i64 n] W fun e w'=>I9 w' ad W.heap.size l (Xy ⟨#[120]⟩) n e/\Hid (ae H.heap.size H w')):=fun W J=>by
    have e8:ae w.heap.size w W:=a3.trans (J.mono a3.size);exact((FU ad).jD p l cap ⟨#[120]⟩ n W hl hc hx (by decide) (hs.below e8) (d5 W e8)).mono fun e w' hq=>⟨hq.1,J.trans (hq.2.mono J.size)⟩
   by_cases hP:0<(Jm l n).1
   ·have a7:Hid (Zr l n k=((Jm l n).1,(Jm l n).2)):=by show _=_;unfold Zr;rw[if_neg hN,if_neg hT,if_pos hP]
    have HP:Hid (0<(Jm l n).1):=hP;have d7:Hid (∀W,ae H.heap.size H W->aj prog 31 #[.slice p l.length cap,.string ⟨#[120]⟩,.int .i64 n] W fun e w'=>(∃q c t v,e=.returned (.tuple #[.slice q 0 c,.iface t v])/\Jd w' ad (.iface t v) (Jm l n).1 (Jm l n).2)/\Hid (ae H.heap.size H w')):=fun W J=>(f5.out W J).mono fun e w' hq=>by
     refine⟨?_,hq.2⟩;rcases hq.1 with⟨_,q,c,ev,Z,h2⟩|⟨Z,_⟩
     ·obtain⟨t,v,rfl⟩:=h2.some hP;exact⟨q,c,t,v,Z,h2⟩
     ·exact absurd hP Z
    generalize j3 ad w l n k=G at *;clear a3 e7 f8 b3 d5 hE hs hx hc hl hn hk f9 hN f5 hT hP;go_enter func16,ntmps16;go_wp2_with (rw[<-b2.out])
    refine b1.mono ?_;rintro e w2 ⟨⟨ev,rfl,K⟩,a4⟩;obtain rfl:=HN.out ev w2 K;have a8:=d3.out w2 a4;clear K a4 d3 HN b1;go_wp2_with fail
    refine a8.mono ?_;rintro e D ⟨⟨r,rfl,hr⟩,a5⟩;obtain rfl:=b7.out r hr;have d4:=d7.out D a5.out;clear hr b7 a8 d7;go_wp2_with fail
    refine d4.mono ?_;rintro e O ⟨⟨q,c,t,v,rfl,K⟩,a9⟩;have I:Hid (O.heap[w.heap.size]?=aa (.cells #[.int .i64 0,.int .i64 0,.slice ab 0 0] 49 (0,0))):=HK.out O a9.out;have f0:=(Xa I.out 0).2;have f1:=(Xa I.out 1).2;have f2:=(Xa I.out 2).2;have a0:O.cell? (pA w.heap.size 0)=aa (.int .i64 0):=(Xa I.out 0).1;have a1:O.cell? (pA w.heap.size 1)=aa (.int .i64 0):=(Xa I.out 1).1;have a2:O.cell? (pA w.heap.size 2)=aa (.slice ab 0 0):=(Xa I.out 2).1;obtain⟨U,a6⟩:=Xb (Y0 O w.heap.size (.int .i64 0) (.int .i64 0) (.slice ab 0 0));obtain⟨⟨d0,d1,d2⟩,hG⟩:=b5.out O t v _ _ a9.out K HP.out a7.out U a6;have HG:Hid (G (.returned (.tuple #[.agg #[.int .i64 0,.int .i64 0,.slice ab 0 0],.iface t v])) U):=hG;have d8:Hid (U=((O.setCell (pA w.heap.size 0) (.int .i64 0)).setCell (pA w.heap.size 1) (.int .i64 0)).setCell (pA w.heap.size 2) (.slice ab 0 0)):=a6;clear hG a6 K d4 b5 HK I HP a7 f4 b2 a5 a9;generalize w.heap.size=b at *;go_wp2;rw[<-d8.out];refine au (v:=.tuple #[.agg #[.int .i64 0,.int .i64 0,.slice ab 0 0],.iface t v]) (by simp[zi,results16,go_sem,d0,d1,d2]) rfl HG.out
   ·have d7:Hid (∀W,ae H.heap.size H W->aj prog 31 #[.slice p l.length cap,.string ⟨#[120]⟩,.int .i64 n] W fun e w'=>(∃q c B,e=.returned (.tuple #[.slice q B.length c,.nilIface])/\Hid (XC (Xy wX) l B/\(B.length:Int)=n/\Yn w' ⟨n,k,B⟩ q c/\∀b o,q=aa (pA b o)->W.heap.size<=b/\b<w'.heap.size))/\Hid (ae H.heap.size H w')):=fun W J=>(f5.out W J).mono fun e w' hq=>by
     refine⟨?_,hq.2⟩;rcases hq.1 with⟨Z,_⟩|⟨_,v,B,Z,h2,h3,h4⟩
     ·exact absurd Z hP
     ·obtain⟨q,c,rfl,g1,g2,g3,g4⟩:=h2.form;obtain⟨r1,r2,r3,_⟩:=sK hP;exact⟨q,c,B,Z,h4,h3,⟨g1,g2,fun e=>⟨(by rcases g1 with h|⟨b,o,hq,_⟩;exact h;rw[e]at hq;cases hq),g3 e⟩,by show B.length<=1000;omega,fun x i8=>hx x (h4.mem x i8),⟨hn,hk⟩⟩,g4⟩
    have g5:Hid (∀W (q:Option aP) (c:Nat) (B:List BA),ae H.heap.size H W->Yn W ⟨n,k,B⟩ q c->aj prog 32 #[.agg #[.int .i64 n,.int .i64 k,.slice q B.length c]] W fun e w'=>(∃ev,e=.returned ev/\Jd w' ad ev (Jg ⟨n,k,B⟩).1 (Jg ⟨n,k,B⟩).2)/\Hid (ae H.heap.size H w'/\ae W.heap.size W w')):=fun W q c B J hC=>(qU ad ⟨n,k,B⟩ q c W hC (hE.q.below (a3.trans (J.mono a3.size)))).mono fun e w' hq=>⟨hq.1,J.trans (hq.2.mono J.size),hq.2⟩
    by_cases hC:1<=k/\k<=n/\n<=12
    ·have a7:Hid (Zr l n k=(0,-1)):=by show _=_;unfold Zr;rw[if_neg hN,if_neg hT,if_neg hP,if_pos hC]
     have f3:Hid (∀B,XC (Xy wX) l B->(B.length:Int)=n->Jg ⟨n,k,B⟩=(0,-1)):=fun B Z h2=>by rw[FR Z hP h2,if_pos hC]
     have h8:Hid (∀W (q:Option aP) (c:Nat) (B:List BA),ae H.heap.size H W->XC (Xy wX) l B->(B.length:Int)=n->Yn W ⟨n,k,B⟩ q c->(∀b o,q=aa (pA b o)->H.heap.size<=b/\b<W.heap.size)->∀D,D=Y0 W w.heap.size (.int .i64 n) (.int .i64 k) (.slice q B.length c)->(D.cell? (pA w.heap.size 0)=aa (.int .i64 n)/\D.cell? (pA w.heap.size 1)=aa (.int .i64 k)/\D.cell? (pA w.heap.size 2)=aa (.slice q B.length c))/\j3 ad w l n k (.returned (.tuple #[.agg #[.int .i64 n,.int .i64 k,.slice q B.length c],.nilIface])) D):=fun W q c B J Z h2 h3 h4 D b6=>by
      obtain⟨g1,_,g3⟩:=DS (a3.trans (J.mono a3.size)) (HK.out W J) (Jd.nil W ad) _ _ _ b6;have i9:D.heap.size=W.heap.size:=by rw[b6];unfold Y0;simp[aI]
      refine⟨g1,ag ⟨by rw[a7.out];decide,⟨⟨n,k,B⟩,q,c⟩,rfl,rfl,rfl,Z,by rw[f3.out B Z h2];decide,⟨h3.strs.same (by omega) (fun b o e=>?_),h3.room,h3.empty,h3.len,h3.size,h3.ints⟩,fun b o e=>?_⟩,g3⟩
      ·rw[b6];exact sM _ _ _ _ _ (by have:=(h4 b o e).1;omega)
      ·have:=h4 b o e;omega
     generalize j3 ad w l n k=G at *;clear e7 b3 d5 hE hs hx hc hl hn hk f9 hN f5 hT hP b5 hC;go_enter func16,ntmps16;go_wp2_with (rw[<-b2.out])
     refine b1.mono ?_;rintro e w2 ⟨⟨ev,rfl,K⟩,a4⟩;obtain rfl:=HN.out ev w2 K;have a8:=d3.out w2 a4;clear K a4 d3 HN b1;go_wp2_with fail
     refine a8.mono ?_;rintro e D ⟨⟨r,rfl,hr⟩,a5⟩;obtain rfl:=b7.out r hr;have d4:=d7.out D a5.out;have f6:=a5.out.size;clear hr b7 a8 d7;go_wp2_with fail
     refine d4.mono ?_;rintro e O ⟨⟨q,c,B,rfl,HO⟩,a9⟩;obtain⟨d9,e0,e1,e2⟩:=HO.out;obtain⟨U,a6⟩:=Xb (O.alloc (.cells #[.int .i64 n,.int .i64 k,.slice q B.length c] 49));have b8:=Zk a6;have b0:=JH a6;have e3:=fQ a6;have f7:ae H.heap.size H U:=a9.out.trans (b8.mono a9.out.size);have e4:=g5.out U q c B f7 (e1.below b8);have k0:U.cell? (pA O.heap.size 0)=aa (.int .i64 n):=(Xa b0 0).1;have k1:U.cell? (pA O.heap.size 1)=aa (.int .i64 k):=(Xa b0 1).1;have k2:U.cell? (pA O.heap.size 2)=aa (.slice q B.length c):=(Xa b0 2).1;rw[f3.out B d9 e0]at e4;have g6:Hid (∀W,ae U.heap.size U W->W.heap[O.heap.size]?=aa (.cells #[.int .i64 n,.int .i64 k,.slice q B.length c] 49 (0,0))/\Yn W ⟨n,k,B⟩ q c):=fun W J=>⟨(J.block _ e3).trans b0,(e1.below b8).below J⟩
     have e5:Hid (XC (Xy wX) l B/\(B.length:Int)=n/\(∀b o,q=aa (pA b o)->H.heap.size<=b/\b<U.heap.size)):=⟨d9,e0,fun b o e=>⟨aM f6 (e2 b o e).1,bf (e2 b o e).2 e3⟩⟩;have d8:Hid (U=O.alloc (.cells #[.int .i64 n,.int .i64 k,.slice q B.length c] 49)):=a6;have h9:Hid (∀W,ae H.heap.size H W->ae U.heap.size U W->Yn W ⟨n,k,B⟩ q c->∀D,D=Y0 W w.heap.size (.int .i64 n) (.int .i64 k) (.slice q B.length c)->(D.cell? (pA w.heap.size 0)=aa (.int .i64 n)/\D.cell? (pA w.heap.size 1)=aa (.int .i64 k)/\D.cell? (pA w.heap.size 2)=aa (.slice q B.length c))/\G (.returned (.tuple #[.agg #[.int .i64 n,.int .i64 k,.slice q B.length c],.nilIface])) D):=fun W Z h2 h3=>h8.out W q c B Z e5.out.1 e5.out.2.1 h3 (fun b o e=>⟨(e5.out.2.2 b o e).1,zc (e5.out.2.2 b o e).2 h2.size⟩)
     clear d9 e0 e1 e2 a6 b8 b0 e3 f7 HO d4 g5 f3 a7 f6 h8 e5;generalize B.length=ol at *;go_wp2_with (rw[<-d8.out])
     refine e4.mono ?_;rintro e w6 ⟨⟨ev,rfl,K⟩,c8⟩;obtain rfl:=K.none (by decide);obtain⟨g7,i0⟩:=g6.out w6 c8.out.2;have m0:w6.cell? (pA O.heap.size 0)=aa (.int .i64 n):=(Xa g7 0).1;have m1:w6.cell? (pA O.heap.size 1)=aa (.int .i64 k):=(Xa g7 1).1;have m2:w6.cell? (pA O.heap.size 2)=aa (.slice q ol c):=(Xa g7 2).1;have I:Hid (w6.heap[w.heap.size]?=aa (.cells #[.int .i64 0,.int .i64 0,.slice ab 0 0] 49 (0,0))):=HK.out w6 c8.out.1;have f0:=(Xa I.out 0).2;have f1:=(Xa I.out 1).2;have f2:=(Xa I.out 2).2;have a0:w6.cell? (pA w.heap.size 0)=aa (.int .i64 0):=(Xa I.out 0).1;have a1:w6.cell? (pA w.heap.size 1)=aa (.int .i64 0):=(Xa I.out 1).1;have a2:w6.cell? (pA w.heap.size 2)=aa (.slice ab 0 0):=(Xa I.out 2).1;obtain⟨w7,e6⟩:=Xb (Y0 w6 w.heap.size (.int .i64 n) (.int .i64 k) (.slice q ol c));obtain⟨⟨d0,d1,d2⟩,hG⟩:=h9.out w6 c8.out.1 c8.out.2 i0 w7 e6;have HG:Hid (G (.returned (.tuple #[.agg #[.int .i64 n,.int .i64 k,.slice q ol c],.nilIface])) w7):=hG;have h0:Hid (w7=((w6.setCell (pA w.heap.size 0) (.int .i64 n)).setCell (pA w.heap.size 1) (.int .i64 k)).setCell (pA w.heap.size 2) (.slice q ol c)):=e6;clear hG e6 K g7 i0 g6 HK I h9 e4 d8 c8 a9 a5 f4 b2 k0 k1 k2;generalize w.heap.size=b at *;generalize O.heap.size=b4 at *;go_wp2;rw[<-h0.out];refine au (v:=.tuple #[.agg #[.int .i64 n,.int .i64 k,.slice q ol c],.nilIface]) (by simp[zi,results16,go_sem,d0,d1,d2]) rfl HG.out
    ·have a7:Hid (Zr l n k=(2,-1)):=by show _=_;unfold Zr;rw[if_neg hN,if_neg hT,if_neg hP,if_neg hC]
     have f3:Hid (∀B,XC (Xy wX) l B->(B.length:Int)=n->Jg ⟨n,k,B⟩=(2,-1)):=fun B Z h2=>by rw[FR Z hP h2,if_neg hC]
     generalize j3 ad w l n k=G at *;clear e7 b3 d5 hE hs hx hc hl hn hk f9 hN f5 hT hP hC;go_enter func16,ntmps16;go_wp2_with (rw[<-b2.out])
     refine b1.mono ?_;rintro e w2 ⟨⟨ev,rfl,K⟩,a4⟩;obtain rfl:=HN.out ev w2 K;have a8:=d3.out w2 a4;clear K a4 d3 HN b1;go_wp2_with fail
     refine a8.mono ?_;rintro e D ⟨⟨r,rfl,hr⟩,a5⟩;obtain rfl:=b7.out r hr;have d4:=d7.out D a5.out;have f6:=a5.out.size;clear hr b7 a8 d7;go_wp2_with fail
     refine d4.mono ?_;rintro e O ⟨⟨q,c,B,rfl,HO⟩,a9⟩;obtain⟨d9,e0,e1,e2⟩:=HO.out;obtain⟨U,a6⟩:=Xb (O.alloc (.cells #[.int .i64 n,.int .i64 k,.slice q B.length c] 49));have b8:=Zk a6;have b0:=JH a6;have e3:=fQ a6;have f7:ae H.heap.size H U:=a9.out.trans (b8.mono a9.out.size);have e4:=g5.out U q c B f7 (e1.below b8);have k0:U.cell? (pA O.heap.size 0)=aa (.int .i64 n):=(Xa b0 0).1;have k1:U.cell? (pA O.heap.size 1)=aa (.int .i64 k):=(Xa b0 1).1;have k2:U.cell? (pA O.heap.size 2)=aa (.slice q B.length c):=(Xa b0 2).1;rw[f3.out B d9 e0]at e4;have g6:Hid (∀W,ae U.heap.size U W->W.heap[O.heap.size]?=aa (.cells #[.int .i64 n,.int .i64 k,.slice q B.length c] 49 (0,0))/\Yn W ⟨n,k,B⟩ q c):=fun W J=>⟨(J.block _ e3).trans b0,(e1.below b8).below J⟩
     have e5:Hid (XC (Xy wX) l B/\(B.length:Int)=n/\(∀b o,q=aa (pA b o)->H.heap.size<=b/\b<U.heap.size)):=⟨d9,e0,fun b o e=>⟨aM f6 (e2 b o e).1,bf (e2 b o e).2 e3⟩⟩;have d8:Hid (U=O.alloc (.cells #[.int .i64 n,.int .i64 k,.slice q B.length c] 49)):=a6;clear d9 e0 e1 e2 a6 b8 b0 e3 f7 HO d4 g5 f6;generalize B.length=ol at *;go_wp2_with (rw[<-d8.out])
     refine e4.mono ?_;rintro e w6 ⟨⟨ev,rfl,K⟩,c8⟩;obtain⟨t,v,rfl⟩:=K.some (by decide);have I:Hid (w6.heap[w.heap.size]?=aa (.cells #[.int .i64 0,.int .i64 0,.slice ab 0 0] 49 (0,0))):=HK.out w6 c8.out.1;have f0:=(Xa I.out 0).2;have f1:=(Xa I.out 1).2;have f2:=(Xa I.out 2).2;have a0:w6.cell? (pA w.heap.size 0)=aa (.int .i64 0):=(Xa I.out 0).1;have a1:w6.cell? (pA w.heap.size 1)=aa (.int .i64 0):=(Xa I.out 1).1;have a2:w6.cell? (pA w.heap.size 2)=aa (.slice ab 0 0):=(Xa I.out 2).1;obtain⟨w7,e6⟩:=Xb (Y0 w6 w.heap.size (.int .i64 0) (.int .i64 0) (.slice ab 0 0));obtain⟨⟨d0,d1,d2⟩,hG⟩:=b5.out w6 t v _ _ c8.out.1 K (by decide) a7.out w7 e6;have HG:Hid (G (.returned (.tuple #[.agg #[.int .i64 0,.int .i64 0,.slice ab 0 0],.iface t v])) w7):=hG;have h0:Hid (w7=((w6.setCell (pA w.heap.size 0) (.int .i64 0)).setCell (pA w.heap.size 1) (.int .i64 0)).setCell (pA w.heap.size 2) (.slice ab 0 0)):=e6;clear hG e6 K g6 HK I b5 e4 d8 c8 a9 a5 f4 b2 k0 k1 k2 a7 f3 e5;generalize w.heap.size=b at *;generalize O.heap.size=b4 at *;go_wp2;rw[<-h0.out];refine au (v:=.tuple #[.agg #[.int .i64 0,.int .i64 0,.slice ab 0 0],.iface t v]) (by simp[zi,results16,go_sem,d0,d1,d2]) rfl HG.out
end
section
section
variable {w w':World} {B h:Nat} {O O':Nat->Option Whose} {m:Ya} {X:WB} {ml:List (Zb×Lv)} {nb hn:Nat->Nat} {n k:Nat} {ad:Nat->aP}
theorem JpK {a b:BA}(h:a.toList=b.toList):a=b:=by
 rw[aq,aq]at h;exact ByteArray.ext (aR.1 h)
theorem JnN {l:List (Je×Bool)}(h:∀j,j<l.length->(Jc l j).1.name≠s):¬Qe l s<l.length:=fun D=>by
 have H:=aF (p:=fun x:Je×Bool=>decide (x.1.name=s)) (xs:=l) (w:=D);have I:=of_decide_eq_true H;refine h _ D ?_;unfold Jc;rw[af,ar D];exact I
theorem K7 {l:List (Je×Bool)}(I:i<l.length)(J:(Jc l i).1.name=s)(K:∀j,j<i->(Jc l j).1.name≠s):Qe l s=i:=by
 have H:∀j (D:j<l.length),Jc l j=l[j]:=fun j D=>by unfold Jc;rw[af,ar D];rfl
 unfold Qe;rw[zf I];refine⟨decide_eq_true (by rw[<-H i I];exact J),fun j D=>decide_eq_false (by rw[<-H j (by omega)];exact K j D)⟩
def J2 (m:Ya)(nb:Nat->Nat)(s:BA):Value:=if Qe m.nodes s<m.nodes.length then .pointer (aa ⟨nb (Qe m.nodes s),0,ab⟩)else .pointer ab
theorem wY (hp:Ye w B h O m X ml nb hn)(s:BA)(hf:m.nodes.length<=1000):
 aj prog 42 #[.pointer (aa ⟨h,0,ab⟩),.string s] w fun e w'=>e=.returned (J2 m nb s)/\w'=w:=by
 have a3:=hp.cD;obtain⟨p,c,hv,a4,_,_,_⟩:=a3.form;have K:((an m.nodes.length).map nb).length=m.nodes.length:=by simp
 rw[K]at hv;have b2:w.cell? ⟨h,31,ab⟩=aa (.slice p m.nodes.length c):=by rw[<-hv];exact(hp.cell 31).1
 have HC:Hid (∀i,i<m.nodes.length->∃b o,p=aa ⟨b,o,ab⟩/\w.cell? ⟨b,o+i,ab⟩=aa (.pointer (aa ⟨nb i,0,ab⟩))/\w.cell? ⟨nb i,1,ab⟩=aa (.string (Jc m.nodes i).1.name)):=fun i D=>by
  rcases a4 with h0|⟨b,o,a8,b3,hc⟩
  ·rw[h0]at K;simp at K;omega
  ·refine⟨b,o,a8,?_,(Xa (hp.node i D).1 1).1⟩;have hx:((an m.nodes.length).map nb)[i]?=aa (nb i):=by rw[List.getElem?_map,List.getElem?_range D];rfl
   have:=hc i _ hx 0 _ rfl;rw[show j5.k=1 from rfl,Nat.mul_one,bg]at this;exact this
 have HY:Hid (∀i,i<m.nodes.length->(Jc m.nodes i).1.name=s->(∀j,j<i->(Jc m.nodes j).1.name≠s)->J2 m nb s=.pointer (aa ⟨nb i,0,ab⟩)):=fun i D H h2=>by
  have e:=K7 D H h2;unfold J2;rw[e,if_pos D]
 have HN:Hid ((∀j,j<m.nodes.length->(Jc m.nodes j).1.name≠s)->J2 m nb s=.pointer ab):=fun H=>if_neg (JnN H)
 clear hp a3 hv a4 K;generalize J2 m nb s=R at *;obtain⟨nm,U⟩:∃nm:Nat->BA,nm=fun i=>(Jc m.nodes i).1.name:=⟨_,rfl⟩
 have a2:Hid (∀i,i<m.nodes.length->∃b o,p=aa ⟨b,o,ab⟩/\w.cell? ⟨b,o+i,ab⟩=aa (.pointer (aa ⟨nb i,0,ab⟩))/\w.cell? ⟨nb i,1,ab⟩=aa (.string (nm i))):=by rw[U];exact HC
 have Z:Hid (∀i,i<m.nodes.length->nm i=s->(∀j,j<i->nm j≠s)->R=.pointer (aa ⟨nb i,0,ab⟩)):=by rw[U];exact HY
 have a0:Hid ((∀j,j<m.nodes.length->nm j≠s)->R=.pointer ab):=by rw[U];exact HN
 clear HC HY HN U;generalize m.nodes.length=N at *;go_enter func42,ntmps42;go_wp2;go_loopw [12] (fun x wr=>∃i:Nat,i<=N/\x=.int .i64 i/\(∀j,j<i->nm j≠s)/\wr=w) (fun x _=>N-(intOf x).toNat)
 case atStart=>exact⟨0,am _,rfl,(fun j hj=>absurd hj (aE _)),rfl⟩
 case round =>
  obtain⟨i,D,rfl,a5,a9⟩:=hrel;subst a9;have I:Hid (∀j,j<i->nm j≠s):=a5;clear a5;by_cases a6:i<N
  ·obtain⟨b,o,rfl,q1,q2⟩:=a2.out i a6;by_cases J:nm i=s
   ·have HR:Hid (R=.pointer (aa ⟨nb i,0,ab⟩)):=Z.out i a6 J I.out;have a7:(nm i).toList=s.toList:=by rw[J]
    clear a2 Z a0 I J;go_wp2;go_ret;exact⟨by rw[HR.out];rfl,rfl⟩
   ·have a7:¬(nm i).toList=s.toList:=fun e=>J (JpK e)
    have b4:((nm i).toList==s.toList)=false:=by simp[a7]
    have b0:Hid (∀j,j<i+1->nm j≠s):=fun j hj=>by
     rcases zd j i with H|H
     ·exact I.out j H
     ·rw[show j=i by omega];exact J
    clear Z a0 I J;go_wp2;go_roundw
    case rel=>exact⟨i+1,by omega,by go_num,b0.out,by first|rfl|trivial⟩
    case measure=>simp[intOf];omega
  ·have b1:i=N:=by omega
   have HR:Hid (R=.pointer ab):=a0.out (by rw[<-b1];exact I.out);clear a2 Z a0 I;go_wp2;go_ret;exact⟨by rw[HR.out];rfl,rfl⟩
end
end
section
section
variable {w w':World} {B h:Nat} {O O':Nat->Option Whose} {m:Ya} {X:WB} {ml:List (Zb×Lv)} {nb hn:Nat->Nat} {n k:Nat} {ad:Nat->aP}
end
end
section
def Ya.cE (m:Ya)(l:List BA):Ya:={m with nodes:=m.nodes++l.map fun s=>(⟨s,[]⟩,ay)}
theorem B8 (m:Ya):m.cE []=m:=by unfold Ya.cE;rw[List.map_nil,zh]
theorem SK (m:Ya)(l:List BA)(s:BA):m.cE (l++ [s])=(m.cE l).cE [s]:=by
 unfold Ya.cE;rw[aS,<-List.append_assoc]
section
variable {w w':World} {B h:Nat} {O O':Nat->Option Whose} {m:Ya} {X:WB} {ml:List (Zb×Lv)} {nb hn:Nat->Nat} {n k:Nat} {ad:Nat->aP}
theorem XJ.spare (H:XJ w B O m X ml nb hn){t:Whose}{N:Nat}(D:Qv t O O' B w w')(I:t=.node N∨t=.mem N)(hN:m.nodes.length<=N):XJ w' B O' m X ml nb hn:=by
 have q:∀o:Whose,o≠.node N->o≠.mem N->o≠t:=fun o K U e=>by
  rcases I with I|I
  ·exact K (e.trans I)
  ·exact U (e.trans I)
 exact {aO:=D.aO,row:=(H.cO D (q _ (fun e=>by cases e) (fun e=>by cases e))).1,cX:=(H.cO D (q _ (fun e=>by cases e) (fun e=>by cases e))).2,dK:=H.dK,bD:=H.eR D (q _ (fun e=>by cases e) (fun e=>by cases e)),bV:=(H.cP D (q _ (fun e=>by cases e) (fun e=>by cases e))).1,cS:=(H.cP D (q _ (fun e=>by cases e) (fun e=>by cases e))).2,cD:=(H.bY D (q _ (fun e=>by cases e) (fun e=>by cases e))).1,bU:=(H.bY D (q _ (fun e=>by cases e) (fun e=>by cases e))).2,node:=fun i J=>H.dB D J (q _ (fun e=>by injection e with e;omega) (fun e=>by cases e)),mem:=fun i J=>H.dZ D J (q _ (fun e=>by cases e) (fun e=>by injection e with e;omega)),ask:=fun j Z=>(H.ask j Z).kept D (q _ (fun e=>by cases e) (fun e=>by cases e)),bI:=H.bI.kept D (q _ (fun e=>by cases e) (fun e=>by cases e)) (q _ (fun e=>by cases e) (fun e=>by cases e)),cf:=H.cf.kept D.bD D.size (fun k hk=>D.kept k _ hk (q _ (fun e=>by cases e) (fun e=>by cases e)) (fun e=>by cases e))}
theorem XJ.pV (H:XJ w B O m X ml nb hn)(D:Qv .cD O O' B w w'){m':Ya}{I J:Nat->Nat}(e1:m'.L=m.L)(e3:m'.events=m.events)(e4:m'.mover=m.mover)(K:m'.asks=m.asks/\m'.texts=m.texts/\m'.since=m.since)
 (U:X'.vm=X.vm) (Z:X'.ve=X.ve) (x4:X'.mp=X.mp) (x5:X'.nx=X.nx) (x6:X'.cf=X.cf) (x7:X'.cl=X.cl) (hr:Zc j5 84 w' B X'.vn ((an m'.nodes.length).map I)) (a0:∀k,X'.vn.ownBlock=aa k->O' k=aa .cD)
 (a2:∀i,i<m'.nodes.length->w'.heap[I i]?=aa (.cells #[.pointer (aa ⟨J i,0,ab⟩),.string (Jc m'.nodes i).1.name,.bool (!(Jc m'.nodes i).2)] 86 (0,0))/\O' (I i)=aa (.node i)) (a3:∀i,i<m'.nodes.length->XE w' B (J i) (fun k=>O' k=aa (.mem i)) (Jc m'.nodes i).1):XJ w' B O' m' X' ml I J where
 aO:=D.aO
 row:=by rw[U];exact(H.cO D (fun e=>by cases e)).1
 cX:=by rw[U];exact(H.cO D (fun e=>by cases e)).2
 dK:=by rw[e1];exact H.dK
 bD:=H.eR D (fun e=>by cases e)
 bV:=by rw[Z,e3];exact(H.cP D (fun e=>by cases e)).1
 cS:=by rw[Z];exact(H.cP D (fun e=>by cases e)).2
 cD:=hr
 bU:=a0
 node:=a2
 mem:=a3
 ask:=fun j hj=>by rw[K.1,K.2.1,K.2.2,x7];exact(H.ask j hj).kept D (fun e=>by cases e)
 bI:=by rw[e4,x4,x5];exact H.bI.kept D (fun e=>by cases e) (fun e=>by cases e)
 cf:=by rw[x6];exact H.cf.kept D.bD D.size (fun k hk=>D.kept k _ hk (fun e=>by cases e) (fun e=>by cases e))
theorem XE.base {J:Nat}{x:Je}(Z:XE w J b S x)(hB:B<=J):XE w B b S x:=by
 obtain⟨mp,D,K,U,H⟩:=Z;exact⟨mp,D,K,U,{H with aO:=fun k I=>⟨aM hB (H.aO k I).1,(H.aO k I).2⟩}⟩
theorem XE.dH {x:Je}(I:XE w B b S x):∀k,S k->B<=k/\k<w.heap.size:=by
 obtain⟨mp,D,J,K,H⟩:=I;exact H.aO
theorem D8 {l:List (Je×Bool)}(D:i<l.length)(x:Je×Bool):Jc (l++ [x]) i=Jc l i:=by
 unfold Jc;rw[af,af,List.getElem?_append_left D]
theorem B9 (l:List (Je×Bool))(x:Je×Bool):Jc (l++ [x]) l.length=x:=by
 unfold Jc;rw[af,List.getElem?_append_right nR,Nat.sub_self];rfl
theorem LR (N g:Nat)(nb:Nat->Nat):(an (N+1)).map (fun i=>if i=N then g else nb i)=(an N).map nb++ [g]:=by
 rw[List.range_succ,aS,List.map_singleton,if_pos rfl]
 congr 1
 exact List.map_congr_left fun i D=>if_neg (by have:=zj.1 D;omega)
open Classical in
theorem Ye.jO (U:Ye w B h O m X ml nb hn){Z w3:World}{hb g:Nat}(hB:ae w.heap.size w Z)(hs:XE Z w.heap.size hb S ⟨s,[]⟩)(hg:w.heap.size<=g)(b7:¬S g)
 (a9:Z.heap[g]?=aa (.cells #[.pointer (aa ⟨hb,0,ab⟩),.string s,.bool ak] 86 (0,0)))
 (h1:Zc j5 84 w3 B I ((an m.nodes.length).map nb++ [g])) (h2:Z.grownBy w3 X.vn.ownBlock) (h3:I.ownBlock=X.vn.ownBlock∨∃k,I.ownBlock=aa k/\Z.heap.size<=k):
 ∃O' b8 c8,Ye (w3.setCell ⟨h,31,ab⟩ I) B h O' (m.cE [s]) {X with vn:=I} ml b8 c8/\Yd (fun k=>O k≠ab) (fun k=>O' k≠ab) w (w3.setCell ⟨h,31,ab⟩ I):=by
 have d5:g<Z.heap.size:=by
  rcases zd g Z.heap.size with h'|h'
  ·exact h'
  ·rw[Array.getElem?_eq_none h']at a9;cases a9
 have a4:∀k,w.heap.size<=k->O k=none:=fun k D=>by
  cases e:O k with
  |none=>rfl
  |some o=>have:=(U.aO k o e).2;omega
 have a3:=hs.dH;obtain⟨N,hN⟩:=Xb m.nodes.length;obtain⟨J,b0⟩:∃J:Nat->Option Whose,J=fun k=>if k=g then aa (.node N)else O k:=⟨_,rfl⟩
 have a5:J g=aa (.node N):=by rw[b0];exact if_pos rfl
 have a2:∀k,k≠g->J k=O k:=fun k D=>by rw[b0];exact if_neg D
 obtain⟨K,a6⟩:∃K:Nat->Option Whose,K=fun k=>if S k then aa (.mem N)else if J k=aa (.mem N)then aa .bD else J k:=⟨_,rfl⟩
 have b1:∀k,S k->K k=aa (.mem N):=fun k D=>by rw[a6];exact if_pos D
 have a0:∀k,¬S k->J k≠aa (.mem N)->K k=J k:=fun k D a7=>by rw[a6];simp only[if_neg D,if_neg a7]
 have b2:∀k,¬S k->J k=aa (.mem N)->K k=aa .bD:=fun k D a7=>by rw[a6];simp only[if_neg D,if_pos a7]
 have s1:∀k,S k->J k=none:=fun k D=>by rw[a2 k (fun e=>b7 (e▸D))];exact a4 k (a3 k D).1
 have T1:Qv (.node N) O J B w Z:=by
  refine⟨fun o k ho hi=>?_,fun k e=>?_,fun k o e=>?_,hB.size,fun k o e _ _=>hB.block k (U.aO k o e).2⟩
  ·by_cases e:k=g
   ·rw[e,a5,a4 g hg];exact⟨fun e=>(by injection e with e;exact absurd e.symm ho),fun e=>(by cases e)⟩
   ·rw[a2 k e]
  ·rw[a2 k (fun e'=>by rw[e',a4 g hg]at e;cases e)];exact e
  ·by_cases e':k=g
   ·have:=U.base;omega
   ·rw[a2 k e']at e;have:=U.aO k o e;have:=hB.size;omega
 have T2:Qv (.mem N) J K B Z Z:=by
  refine⟨fun o k ho hi=>?_,fun k e=>?_,fun k o e=>?_,Nat.le_refl _,fun _ _ _ _ _=>rfl⟩
  ·by_cases e:S k
   ·rw[b1 k e,s1 k e];exact⟨fun e=>(by injection e with e;exact absurd e.symm ho),fun e=>(by cases e)⟩
   ·by_cases e2:J k=aa (.mem N)
    ·rw[b2 k e e2,e2];exact⟨fun e=>(by injection e with e;exact absurd e.symm hi),fun e=>(by injection e with e;exact absurd e.symm ho)⟩
    ·rw[a0 k e e2]
  ·rw[a0 k (fun e'=>by rw[s1 k e']at e;cases e) (fun e'=>by rw[e']at e;cases e)];exact e
  ·by_cases e':S k
   ·have:=a3 k e';have:=U.base;omega
   ·by_cases e2:J k=aa (.mem N)
    ·exact T1.aO k _ e2
    ·rw[a0 k e' e2]at e;exact T1.aO k o e
 have px:=(U.toXJ.spare T1 (ap rfl) (by omega)).spare T2 (ag rfl) (by omega);have b3:J h=aa .self:=by rw[a2 h (fun e=>by have:=U.lt;omega)];exact U.self
 have d0:K h=aa .self:=by
  rw[a0 h (fun e=>by have:=(a3 h e).1;have:=U.lt;omega) (fun e=>by rw[b3]at e;cases e)];exact b3
 have H:Ye Z B h K m X ml nb hn:={px with blk:=(hB.block h U.lt).trans U.blk,self:=d0,cV:=U.cV,dF:=U.dF,aW:=U.aW};have d1:Yd (fun k=>O k≠ab) (fun k=>K k≠ab) w Z:=by
  refine⟨hB.os,hB.tape,hB.output,hB.size,fun k D _=>hB.block k D,fun k e=>?_⟩;by_cases e1:S k
  ·exact ag (a3 k e1).1
  ·by_cases e2:k=g
   ·exact ag (by omega)
   ·refine ap ?_;rw[<-a2 k e2];intro e3;exact e (by rw[a0 k e1 (fun e4=>by rw[e3]at e4;cases e4)];exact e3)
 have b4:X.vn.ownBlock≠aa h:=fun e=>by have:=H.bU h e;rw[H.self]at this;cases this
 have d2:=h2.block h H.lt (fun e=>b4 e.symm);have d3:I.ownBlock≠aa h:=fun e=>by
  rcases h3 with h3|⟨k,h3,h4⟩
  ·exact b4 (h3.symm.trans e)
  ·rw[h3]at e;injection e with e;have:=H.lt;omega
 have d4:(w3.setCell ⟨h,31,ab⟩ I).heap.size=w3.heap.size:=by simp[aI]
 have b5:Zc j5 84 (w3.setCell ⟨h,31,ab⟩ I) B I ((an m.nodes.length).map nb++ [g]):=h1.dC (fun k D=>Deep.blk_setCell_other _ _ _ _ (fun e=>d3 (by rw[D,e])));have a8:∀k,I.ownBlock=aa k->K k=aa .cD∨Z.heap.size<=k:=fun k D=>by
  rcases h3 with e|⟨k',e,d6⟩
  ·exact ap (H.bU k (e.symm.trans D))
  ·rw[D]at e;injection e with e;exact ag (by omega)
 have hU:Yd (fun k=>K k=aa .cD∨K k=aa .self) (fun k=>I.ownBlock=aa k) Z (w3.setCell ⟨h,31,ab⟩ I):=⟨h2.os,h2.tape,h2.output,by rw[d4];exact h2.size,fun k D hn=>(ah _ _ _ _ (fun e=>hn (ag (by have e:k=h:=e;rw[e];exact H.self)))).trans (h2.block k D (fun e=>hn (ap (H.bU k e.symm)))),fun k D=>(a8 k D).imp ap id⟩;have hT:=Qv.of (t:=.cD) (fun e=>by cases e) H.aO H.base hU a8 (fun k D=>(b5.block D).2);have b6:K g=aa (.node N):=by rw[a0 g b7 (fun e=>by rw[a5]at e;cases e)];exact a5
 have eS:(fun k=>K k=aa (.mem N))=S:=funext fun k=>propext ⟨fun e=>by
  rcases em (S k)with h'|h'
  ·exact h'
  ·exfalso;by_cases e2:J k=aa (.mem N)
   ·rw[b2 k h' e2]at e;cases e
   ·rw[a0 k h' e2]at e;exact e2 e,fun h'=>b1 k h'⟩
 exact⟨_,fun i=>if i=N then g else nb i,fun i=>if i=N then hb else hn i,{H.toXJ.pV (m':=m.cE [s]) (X':={X with vn:=I}) hT rfl rfl rfl ⟨rfl,rfl,rfl⟩ rfl rfl rfl rfl rfl rfl (by
  show Zc _ _ _ _ I ((an (m.nodes++ [((⟨s,[]⟩,ay):Je×Bool)]).length).map _);rw[ax,<-hN];show Zc _ _ _ _ I ((an (N+1)).map _);rw[LR,hN];exact b5) (fun k D=>(ZU (fun e=>by cases e) k).2 D) (fun i hi=>by
  have hi:i<(m.nodes++ [((⟨s,[]⟩,ay):Je×Bool)]).length:=hi;rw[ax]at hi;have hi:i<m.nodes.length+1:=hi;show _=aa (Obj.cells #[_,.string (Jc (m.nodes++ [((⟨s,[]⟩,ay):Je×Bool)]) i).1.name,.bool (!(Jc (m.nodes++ [((⟨s,[]⟩,ay):Je×Bool)]) i).2)] _ _)/\_;by_cases e:i=N
  ·simp only[if_pos e];rw[e,hN,B9,<-hN];exact⟨(hT.kept g _ b6 (fun e=>by cases e) (fun e=>by cases e)).trans a9,(hT.same _ g (fun e=>by cases e) (fun e=>by cases e)).2 b6⟩
  ·simp only[if_neg e];rw[D8 (by omega)];exact H.dB hT (by omega) (fun e=>by cases e)) (fun i hi=>by
  have hi:i<(m.nodes++ [((⟨s,[]⟩,ay):Je×Bool)]).length:=hi;rw[ax]at hi;have hi:i<m.nodes.length+1:=hi;show XE _ _ _ _ (Jc (m.nodes++ [((⟨s,[]⟩,ay):Je×Bool)]) i).1;by_cases e:i=N
  ·simp only[if_pos e];rw[e,hN,B9,<-hN];have h0:XE Z B hb (fun k=>K k=aa (.mem N)) ⟨s,[]⟩:=by rw[eS];exact hs.base U.base
   exact h0.kept (fun k=>hT.same _ k (fun e=>by cases e) (fun e=>by cases e)) hT.size (fun k D=>hT.kept k _ D (fun e=>by cases e) (fun e=>by cases e))
  ·simp only[if_neg e];rw[D8 (by omega)];exact H.dZ hT (by omega) (fun e=>by cases e))with blk:=Qc (d2.trans H.blk) 31 I,self:=(hT.same .self h (fun e=>by cases e) (fun e=>by cases e)).2 H.self,cV:=H.cV,dF:=H.dF,aW:=H.aW},d1.trans' (QM hU a8)⟩
end
end
section
def Ya.fresh (m:Ya)(l:List BA):List BA:=l.filter fun s=>!decide (Qe m.nodes s<m.nodes.length)
theorem Jnz (m:Ya)(l:List BA)(D:i<l.length):m.fresh (l.take (i+1))=m.fresh (l.take i)++(if Qe m.nodes (Yc l i)<m.nodes.length then []else [Yc l i]):=by
 have e:l.take (i+1)=l.take i++ [Yc l i]:=by rw[List.take_add_one,ar D,Xk l i D];rfl
 unfold Ya.fresh;rw[e,List.filter_append]
 congr 1
 by_cases h:Qe m.nodes (Yc l i)<m.nodes.length
 ·rw[if_pos h,List.filter_cons_of_neg (by simp[h]),zg]
 ·rw[if_neg h,List.filter_cons_of_pos (by simp[h]),zg]
theorem EV (m:Ya)(l:List BA):(m.fresh l).length<=l.length:=List.length_filter_le _ _
section
variable {w w':World} {B h:Nat} {O O':Nat->Option Whose} {m:Ya} {X:WB} {ml:List (Zb×Lv)} {nb hn:Nat->Nat} {n k:Nat} {ad:Nat->aP}
theorem SQ (hp:Ye w B h O m X ml nb hn)(hf:m.nodes.length<=1000)(p:Option aP)(l:List BA)(cap:Nat)(hl:l.length<=1000)(hs:Strs w p l):
 aj prog 22 #[.pointer (aa ⟨h,0,ab⟩),.slice p l.length cap] w fun e w'=>(∃v,e=.returned v/\Zq w' w.heap.size v (m.fresh l))/\ae w.heap.size w w':=by
 have I:Hid (∀i,i<l.length->∀W,ae w.heap.size w W->aj prog 42 #[.pointer (aa ⟨h,0,ab⟩),.string (Yc l i)] W fun e w'=>e=.returned (J2 m nb (Yc l i))/\w'=W):=fun i D W hW=>wY (hp.below hW) (Yc l i) hf
 have HS:Hid (Strs w p l):=hs;have H:Hid (∀i,i<l.length->(Qe m.nodes (Yc l i)<m.nodes.length/\m.fresh (l.take (i+1))=m.fresh (l.take i)/\∃b,J2 m nb (Yc l i)=.pointer (aa ⟨b,0,ab⟩))∨(m.fresh (l.take (i+1))=m.fresh (l.take i)++ [Yc l i]/\J2 m nb (Yc l i)=.pointer ab)):=fun i D=>by
  have:=Jnz m l D;by_cases e:Qe m.nodes (Yc l i)<m.nodes.length
  ·rw[if_pos e,zh]at this;exact ap ⟨e,this,_,if_pos e⟩
  ·rw[if_neg e]at this;exact ag ⟨this,if_neg e⟩
 have a3:Hid (∀i,(m.fresh (l.take i)).length<=1000):=fun i=>by have:=EV m (l.take i);have:=List.length_take_le i l;have:=List.length_take (i:=i) (l:=l);omega
 have a4:Hid (m.fresh (l.take l.length)=m.fresh l):=by show _=_;rw[List.take_length]
 have a5:Hid (m.fresh (l.take 0)=[]):=rfl;generalize (fun i=>m.fresh (l.take i))=F at *;obtain⟨F,U⟩:∃F:Nat->List BA,F=fun i=>m.fresh (l.take i):=⟨_,rfl⟩
 have H:Hid (∀i,i<l.length->(F (i+1)=F i/\∃b,J2 m nb (Yc l i)=.pointer (aa ⟨b,0,ab⟩))∨(F (i+1)=F i++ [Yc l i]/\J2 m nb (Yc l i)=.pointer ab)):=by rw[U];exact fun i D=>(H.out i D).imp (fun h=>⟨h.2.1,h.2.2⟩) id
 have a3:Hid (∀i,(F i).length<=1000):=by rw[U];exact a3.out
 have a4:Hid (F l.length=m.fresh l):=by rw[U];exact a4.out
 have a5:Hid (F 0=[]):=by rw[U];exact a5.out
 generalize m.fresh l=R at *;clear hp hs hf U;obtain⟨tx,a6⟩:∃tx:Nat->BA,tx=Yc l:=⟨_,rfl⟩;have HC:Hid (∀i,i<l.length->∀W,ae w.heap.size w W->∃b o,p=aa ⟨b,o,ab⟩/\W.cell? ⟨b,o+i,ab⟩=aa (.string (tx i))):=fun i D W hW=>by
  rw[a6];rcases HS.out.below hW with h0|⟨b,o,hp,_,hc⟩
  ·rw[h0]at D;exact absurd D (aE _)
  ·exact⟨b,o,hp,hc i D⟩
 rw[<-a6]at I H;clear a6 HS;obtain⟨Z,a7⟩:∃Z:Nat->zb,Z=fun i=>J2 m nb (tx i):=⟨_,rfl⟩
 have I:Hid (∀i,i<l.length->∀W,ae w.heap.size w W->aj prog 42 #[.pointer (aa ⟨h,0,ab⟩),.string (tx i)] W fun e w'=>e=.returned (Z i)/\w'=W):=by rw[a7];exact I.out
 have H:Hid (∀i,i<l.length->(F (i+1)=F i/\∃b,Z i=.pointer (aa ⟨b,0,ab⟩))∨(F (i+1)=F i++ [tx i]/\Z i=.pointer ab)):=by rw[a7];exact H.out
 clear a7;generalize l.length=L at *;go_enter func22,ntmps22;go_wp2;go_loopw [5,10] (fun y x wr=>∃i:Nat,i<=L/\x=.int .i64 i/\Zq wr w.heap.size y (F i)/\ae w.heap.size w wr) (fun _ x _=>L-(intOf x).toNat)
 case atStart=>exact⟨0,am _,rfl,by rw[a5.out];exact Zq.nil _ _,ao _ _⟩
 case round =>
  obtain⟨i,D,rfl,hO,hB⟩:=hrel;obtain⟨q,c,rfl,_⟩:=hO.form;have HO:Hid (Zq wr w.heap.size (.slice q (F i).length c) (F i)):=hO;have J:Hid _:=hB;clear hO hB;by_cases a8:i<L
  ·obtain⟨b,o,rfl,q1⟩:=HC.out i a8 wr J.out;have K:=I.out i a8 wr J.out;rcases H.out i a8 with⟨a0,b2,hP⟩|⟨a0,hP⟩
   ·have a9:Hid (F (i+1)=F i):=a0;rw[hP]at K;clear a0 hP I H HC;generalize (F i).length=fl at *;go_wp2_with fail
    refine K.mono ?_;rintro e w2 ⟨rfl,a2⟩;rw[a2];clear a2 w2 K;go_wp2;go_roundw
    case rel=>exact⟨i+1,by omega,by go_num,by rw[a9.out];exact HO.out,J.out⟩
    case measure=>simp[intOf];omega
   ·have a9:Hid (F (i+1)=F i++ [tx i]):=a0;rw[hP]at K;have b6:=a3.out i;have b4:=J.out.size;clear a0 hP I H HC;generalize tx i=t at *;generalize F i=Fi at *;go_wp2_with fail
    refine K.mono ?_;rintro e w2 ⟨rfl,a2⟩;rw[a2];clear a2 w2 K;go_wp2_with (first|(at_builtin;refine JfI rfl (.tmp 18) (.tmp 20) rfl w.heap.size (.slice q Fi.length c) Fi rfl (HO.out.kept (bR.alloc nR _)) ⟨wr.heap.size,0,ab⟩ t 1 rfl (by rw[World.cell?_alloc_at _ _ _ _ rfl];rfl) (by omega) (by simp;omega) ?_;intro v8 w8 b0 b1;have b3:Hid (Zq w8 w.heap.size v8 (Fi++ [t])/\ae w.heap.size w w8):=⟨b0,J.out.trans (((ao _ wr).alloc nR _).mono b4 |>.trans b1)⟩;clear b0 b1))
    go_roundw
    case rel=>exact⟨i+1,by omega,by go_num,by rw[a9.out];exact b3.out.1,b3.out.2⟩
    case measure=>simp[intOf];omega
  ·have b5:i=L:=by omega
   have HR:Hid (F i=R):=by rw[b5];exact a4.out
   clear I H HC;generalize (F i).length=fl at *;go_wp2;go_ret;exact⟨⟨_,rfl,by rw[<-HR.out];exact HO.out⟩,J.out⟩
end
end
end Go.Proofs.YtgapmoniajcliaaGreatDoor

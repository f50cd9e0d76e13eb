/- Texts laid together. -/
import Derived.Test.YtflpelnbjekjbaaGreatDoorZ20
import Derived.Test.YtflpelnbjekjbaaGreatDoorZ14
set_option maxRecDepth 10000
set_option maxHeartbeats 4000000
open Option renaming some->aa,none->N
open Go.RowKit renaming Below->ab
open Go renaming Calls->ae,below_drewN->ar,Value->aE,Addr->zb
open Int renaming toNat_natCast->af
open Nat renaming lt_of_lt_of_le->ag,le_trans->an,zero_le->aq
open Go.RowKit.Below renaming heap_setCell->ah,refl->al
open Bool renaming false->F,true->av
open Array renaming getElem?_eq_some_iff->ai
open Go.World renaming cell?_of_block->aj,frozen?_of_block->ao,setCell->az
open Or renaming inr->ak,inl->au
open Go.AllReadyH renaming nil->am
open Go.Act renaming put->ap
namespace Go.Proofs.YtflpelnbjekjbaaGreatDoor
open Go.Proofs.Tryz
open Go.RowKit
variable {ad:Nat->zb}{i b:Nat}{c:fS}{T:TypeId}{W w:World}{m':Ya}{a:Za}{x:Zb×Lv}{s:BA}{l:List BA}{O:aE}{at_:Int}
section
section
variable {w w':World} {B h:Nat} {O:Nat->Option Whose} {m:Ya} {X:WB} {ml:List (Zb×Lv)} {nb hn:Nat->Nat} {n k:Nat}
theorem zG (K:Ye w B h O m X ml nb hn)(hz:WZ n k m)(hi:i<6){put:Bool}(a2:(X.cl i).put=put)(a3:(X.cl i).text=Yc m.texts i)(a9:(X.cl i).fr=m.since.getD i 0)(h0:0<=m.ops)(h1:m.ops<=1152921504606846976)(hE:yT ad w O):
 ae prog 38 #[.pointer (aa ⟨h,0,N⟩),.int .i64 (i:Int)] w fun e w'=>e=.returned (.tuple #[])/\Yj w B h O (m.begin i put) nb hn w':=by
 have d4:Hid (∀w',Yj w B h O (Ya.send {m with asks:=m.asks.set i (aa (YA i m.ops m.aC (aG m.aB m.aC) put (Yc m.texts i))),ops:=m.ops+1} (YA i m.ops m.aC (aG m.aB m.aC) put (Yc m.texts i)).begin) nb hn w'->Yj w B h O (m.begin i put) nb hn w'):=fun w' hw=>hw
 generalize Yj w B h O (m.begin i put) nb hn=G at *;have b1:X.aY=m.ops:=K.aW.2.1;have b2:=DI K.blk (by rw[b1];exact h0) (by rw[b1];exact h1);rw[b1]at b2;obtain⟨H,a5⟩:=Xb (w.setCell ⟨h,40,N⟩ (.int .i64 (m.ops+1)));rw[<-a5]at b2;have U:Yp h w H:=by rw[a5];exact(Yp.refl h w).set 40 _
 have Z:H.heap[h]?=aa (.cells (Zi {X with aY:=m.ops+1}) 74 (0,0)):=by rw[a5];exact Qc K.blk 40 _
 obtain⟨c0,c1,c2,c3,c4⟩:=Yx Z hi;rw[show({X with aY:=m.ops+1}:WB).cl=X.cl from rfl]at c0 c1 c2 c3 c4;rw[a2]at c1;rw[a3]at c2;have f0:=(Xa Z (1+i*5)).2;have e6:H.cell? ⟨h,36,N⟩=aa (.int .i64 X.cf.c.n):=(Xa Z 36).1;have e7:H.cell? ⟨h,37,N⟩=aa (.int .i64 X.cf.c.k):=(Xa Z 37).1;have e8:H.cell? ⟨h,38,N⟩=aa (.slice X.cf.p X.cf.c.L.length X.cf.cap):=(Xa Z 38).1;have e9:H.cell? ⟨h,39,N⟩=aa (.int .i64 X.act):=(Xa Z 39).1;have b3:Hid (put=av->Hid (ae prog 63 #[.int .i64 (i:Int),.int .i64 m.ops,.agg #[.int .i64 X.cf.c.n,.int .i64 X.cf.c.k,.slice X.cf.p X.cf.c.L.length X.cf.cap],.int .i64 X.act,.string ⟨#[120]⟩,.string (Yc m.texts i)] H.drew fun e I=>∃D,e=.returned (.tuple #[.pointer (aa ⟨D,0,N⟩),.nilIface])/\(∃v0,I.cell? ⟨h,1+i*5,N⟩=aa v0)/\I.frozen? ⟨h,1+i*5,N⟩=F/\Hid (∃S,Qw I H.heap.size D S (YA i m.ops m.aC (aG m.aB m.aC) av (Yc m.texts i)))/\Hid (ab H.heap.size H I))):=fun hb=>by
  subst hb;exact(BI K hz hi h0 h1 hE (U.below bR.drew) av).mono fun e I hq=>by
   obtain⟨D,g1,g2,g3⟩:=hq;have a0:ab H.heap.size H I:=(al _ H).drew.trans g3.out;have hl:=ag K.lt U.size;exact⟨D,g1,⟨_,(aj (a:=⟨h,1+i*5,N⟩) (a0.block h hl)).trans c0⟩,(ao (a:=⟨h,1+i*5,N⟩) (a0.block h hl)).trans f0,g2,a0⟩
 have b4:Hid (put=F->Hid (ae prog 64 #[.int .i64 (i:Int),.int .i64 m.ops,.agg #[.int .i64 X.cf.c.n,.int .i64 X.cf.c.k,.slice X.cf.p X.cf.c.L.length X.cf.cap],.int .i64 X.act,.string ⟨#[120]⟩] H.drew fun e I=>∃D,e=.returned (.tuple #[.pointer (aa ⟨D,0,N⟩),.nilIface])/\(∃v0,I.cell? ⟨h,1+i*5,N⟩=aa v0)/\I.frozen? ⟨h,1+i*5,N⟩=F/\Hid (∃S,Qw I H.heap.size D S (YA i m.ops m.aC (aG m.aB m.aC) F (Yc m.texts i)))/\Hid (ab H.heap.size H I))):=fun hb=>by
  subst hb;exact(BI K hz hi h0 h1 hE (U.below bR.drew) F).mono fun e I hq=>by
   obtain⟨D,g1,g2,g3⟩:=hq;have a0:ab H.heap.size H I:=(al _ H).drew.trans g3.out;have hl:=ag K.lt U.size;exact⟨D,g1,⟨_,(aj (a:=⟨h,1+i*5,N⟩) (a0.block h hl)).trans c0⟩,(ao (a:=⟨h,1+i*5,N⟩) (a0.block h hl)).trans f0,g2,a0⟩
 have HP:Hid (Ye w B h O m X ml nb hn/\WZ n k m/\Yp h w H/\H.heap[h]?=aa (.cells (Zi {X with aY:=m.ops+1}) 74 (0,0))/\(X.cl i).put=put/\(X.cl i).text=Yc m.texts i/\(X.cl i).fr=m.since.getD i 0):=⟨K,hz,U,Z,a2,a3,a9⟩;have f3:Hid (H=w.setCell ⟨h,40,N⟩ (.int .i64 (m.ops+1))):=a5;have z1:(0:Int)<=(i:Int):=by omega
 have z2:(i:Int)<6:=by omega
 clear K hz hE U Z a5 a2 a3 a9 b1 h0 h1;go_enter func38,ntmps38;go_wp2_with fail
 refine b2.mono ?_;rintro e f4 ⟨rfl,d5⟩;rw[d5];clear d5 f4
 go_upto_if 17 with fail
 go_cut []from 18 to 56 (fun W=>∃D I,W=I.setCell ⟨h,1+i*5,N⟩ (.pointer (aa ⟨D,0,N⟩))/\(∃S,Qw I H.heap.size D S (YA i m.ops m.aC (aG m.aB m.aC) put (Yc m.texts i)))/\ab H.heap.size H I)
 case first =>
  cases put with
  |true =>
   have a6:=(b3.out rfl).out;have b7:Hid (ae prog 63 _ H.drew _):=a6;clear a6 b3 b4;go_wp2_with fail
   go_region_law (go_simp;go_at_call 63;refine b7.out.mono ?_;rintro e I ⟨D,rfl,⟨v0,u0⟩,u1,b8,c8⟩;go_simp)
   all_goals (go_wp2_with fail;go_meet)
   all_goals exact⟨D,I,rfl,b8.out,c8.out⟩
  |false =>
   have a6:=(b4.out rfl).out;have b7:Hid (ae prog 64 _ H.drew _):=a6;clear a6 b3 b4;go_wp2_with fail
   go_region_law (go_simp;go_at_call 64;refine b7.out.mono ?_;rintro e I ⟨D,rfl,⟨v0,u0⟩,u1,b8,c8⟩;go_simp)
   all_goals (go_wp2_with fail;go_meet)
   all_goals exact⟨D,I,rfl,b8.out,c8.out⟩
 case rest =>
  obtain⟨D,I,a7,⟨S,b5⟩,d0⟩:=hcut;obtain⟨K,hz,U,Z,a2,a3,a9⟩:=HP.out;have d6:h<H.heap.size:=ag K.lt U.size;have d7:=(d0.block h d6).trans Z;have d8:Yp h w wc:=by rw[a7];exact(U.below d0).set _ _
  have b0:wc.heap[h]?=aa (.cells (Zi {X with aY:=m.ops+1,cl:=JA X.cl i {X.cl i with p:=aa D}}) 74 (0,0)):=by
   rw[a7];have:=Qc d7 (1+i*5) (J3 (aa D));rw[UR _ hi]at this;exact this
  have d9:Qw wc H.heap.size D S (YA i m.ops m.aC (aG m.aB m.aC) put (Yc m.texts i)):=b5.dA (by rw[a7];simp[az]) (fun k hk=>by rw[a7];exact ah _ _ _ _ (by have:=(b5.dH k hk).1;show k≠h;omega));obtain⟨J,a4⟩:=Xb (wc.setCell ⟨h,1+i*5+3,N⟩ (.int .i64 X.act));have e0:Yp h w J:=by rw[a4];exact d8.set _ _
  have d1:J.heap[h]?=aa (.cells (Zi {X with aY:=m.ops+1,cl:=JA X.cl i ⟨aa D,put,Yc m.texts i,(m.aC:Int),m.since.getD i 0⟩}) 74 (0,0)):=by
   rw[a4];have:=Qc b0 (1+i*5+3) (.int .i64 X.act);rw[Jt0 _ hi]at this;rw[this]
   congr 3
   have e:JA (JA X.cl i {X.cl i with p:=aa D}) i {JA X.cl i {X.cl i with p:=aa D} i with cfg:=X.act}=JA X.cl i ⟨aa D,put,Yc m.texts i,(m.aC:Int),m.since.getD i 0⟩:=by
    funext j
    unfold JA;by_cases hj:j=i
    ·rw[if_pos hj,if_pos hj,if_pos rfl,K.aW.1,<-a2,<-a3,<-a9]
    ·rw[if_neg hj,if_neg hj,if_neg hj]
   rw[e]
  have b6:Qw J H.heap.size D S (YA i m.ops m.aC (aG m.aB m.aC) put (Yc m.texts i)):=d9.dA (by rw[a4];simp[az]) (fun k hk=>by rw[a4];exact ah _ _ _ _ (by have:=(b5.dH k hk).1;show k≠h;omega));obtain⟨O4,d2,_,_,e4⟩:=K.started e0 hi hz.la d1 (b6.base (an K.base U.size)) (fun k hk=>an U.size (b6.dH k hk).1) rfl;have d3:Hid (WZ n k {m with asks:=m.asks.set i (aa (YA i m.ops m.aC (aG m.aB m.aC) put (Yc m.texts i))),ops:=m.ops+1}/\(YA i m.ops m.aC (aG m.aB m.aC) put (Yc m.texts i)).begin.length<=12):=⟨hz.begun hi put,zR (xV hz hi m.ops)⟩;have g7:wc.cell? ⟨h,39,N⟩=aa (.int .i64 X.act):=(Xa b0 39).1;have r3:wc.cell? ⟨h,1+i*5+3,N⟩=aa (.int .i64 (JA X.cl i {X.cl i with p:=aa D} i).cfg):=(Yx b0 hi).2.2.2.1;have g3:=(Xa b0 (1+i*5+3)).2;have s0:J.cell? ⟨h,1+i*5,N⟩=aa (.pointer (aa ⟨D,0,N⟩)):=by
   have:=(Yx d1 hi).1;rw[show({X with aY:=m.ops+1,cl:=JA X.cl i ⟨aa D,put,Yc m.texts i,(m.aC:Int),m.since.getD i 0⟩}:WB).cl=JA X.cl i ⟨aa D,put,Yc m.texts i,(m.aC:Int),m.since.getD i 0⟩from rfl,YZ]at this;exact this
  have f5:Hid (ae prog 37 #[.pointer (aa ⟨D,0,N⟩)] J.drew fun e w'=>∃p c,e=.returned (.slice p (YA i m.ops m.aC (aG m.aB m.aC) put (Yc m.texts i)).begin.length c)/\w'.cell? ⟨h,1+i*5,N⟩=aa (.pointer (aa ⟨D,0,N⟩))/\Hid (QE c J.heap.size w' p (YA i m.ops m.aC (aG m.aB m.aC) put (Yc m.texts i)).begin/\ab J.heap.size J w')):=(yJ (b6.dA (w':=J.drew) nR (fun _ _=>rfl))).mono fun e w' hq=>by
   obtain⟨⟨p,c,e1,e2⟩,e3⟩:=hq;have hb:ab J.heap.size J w':=(al _ J).drew.trans e3;exact⟨p,c,e1,(hb.cell (p:=⟨h,1+i*5,N⟩) d2.lt).trans s0,e2,hb⟩
  have f6:Hid (J=wc.setCell ⟨h,1+i*5+3,N⟩ (.int .i64 X.act)):=a4;have f7:Hid (∀W p c,Hid (QE c J.heap.size W p (YA i m.ops m.aC (aG m.aB m.aC) put (Yc m.texts i)).begin/\ab J.heap.size J W)->ae prog 36 #[.pointer (aa ⟨h,0,N⟩),.slice p (YA i m.ops m.aC (aG m.aB m.aC) put (Yc m.texts i)).begin.length c] W fun e w'=>e=.returned (.tuple #[])/\w'.cell? ⟨h,1+i*5,N⟩=aa (.pointer (aa ⟨D,0,N⟩))/\Hid (G w')):=fun W p c hM=>by
   obtain⟨O5,f8,f9,g0,_⟩:=d2.grow hM.out.2;refine(oS f8 d3.out.1.bO (by have:=d3.out.2;omega) (hM.out.1.out (fun b h1 h2=>f9 b h1 h2))).mono fun e w' hq=>?_
   obtain⟨e1,O6,v6,g4,e5,_,g5⟩:=hq;refine⟨e1,?_,d4.out _ ⟨O6,_,g4,e5,(e4.trans' g0).trans' g5⟩⟩;have:=(Yx e5.blk hi).1;rw[show({X with vm:=v6,aY:=m.ops+1,cl:=JA X.cl i ⟨aa D,put,Yc m.texts i,(m.aC:Int),m.since.getD i 0⟩}:WB).cl=JA X.cl i ⟨aa D,put,Yc m.texts i,(m.aC:Int),m.since.getD i 0⟩from rfl,YZ]at this;exact this
  generalize (JA X.cl i {X.cl i with p:=aa D} i).cfg=oc at r3;generalize (YA i m.ops m.aC (aG m.aB m.aC) put (Yc m.texts i)).begin=BL at *;clear d3 d4 a7 b5 d0 K hz U Z a2 a3 a9 d6 d7 d8 b0 d9 e0 d1 b6 d2 e4 a4 HP b3 b4 b2 f3 c0 c1 c2 c3 c4 f0 e6 e7 e8 e9;go_wp2_with (rw[<-f6.out])
  go_region_held3 (fun W=>W.cell? ⟨h,1+i*5,N⟩=aa (.pointer (aa ⟨D,0,N⟩))) (first|assumption|exact s0) (first|(go_at_call 37;refine f5.out.mono ?_;rintro e w5 ⟨p5,c5,rfl,g8,g6⟩)|(go_at_call 36;refine(f7.out w5 p5 c5 g6).mono ?_;rintro e w6 ⟨rfl,g9,HF⟩))
  go_wp2
  go_end0
  exact⟨rfl,HF.out⟩
end
end
section
structure iZ (ad:Nat->zb) (w:World):Prop where
 q:Zp w ad
 x:qO w
 sv:kN w ad
 bO:w.cell? ⟨8,0,N⟩=aa (.iface 301 (.pointer (aa (ad 7))))
 held:w.cell? ⟨4,0,N⟩=aa (.iface 301 (.pointer (aa (ad 10))))
def Yi (ad:Nat->zb)(w:World)(O:Nat->Option Whose):Prop:=∀W:World,w.heap.size<=W.heap.size->(∀k,k<w.heap.size->O k=N->W.heap[k]?=w.heap[k]?)->iZ ad W
section
variable {w w':World} {B h:Nat} {O O':Nat->Option Whose} {m:Ya} {X:WB} {ml:List (Zb×Lv)} {nb hn:Nat->Nat} {n k:Nat} {ad:Nat->zb}
theorem Yi.o (I:Yi ad w O):yT ad w O:=fun W D H=>⟨(I W D H).q,(I W D H).x⟩
theorem Yi.next (U:Yi ad w O)(D:Yd (fun k=>O k≠N) (fun k=>O' k≠N) w w'):Yi ad w' O':=fun W J K=>U W (an D.size J) (fun k H I=>(K k (ag H D.size) (by
 cases e:O' k with
 |none=>rfl
 |some o =>
  rcases D.new k (by rw[e];exact fun e=>(by cases e))with h|h
  ·exact absurd I h
  ·omega)).trans (D.block k H (fun h=>h I)))
theorem Yi.here (D:Yi ad w O):iZ ad w:=D w nR (fun _ _ _=>rfl)
theorem Yi.wrote (U:Yi ad w O)(Z:O h=aa .self)(H:Yp h w w'):Yi ad w' O:=fun W J K=>U W (an H.size J) (fun k I D=>(K k (ag I H.size) D).trans (H.cW k I (fun e=>by rw[e,Z]at D;cases D)))
theorem Yi.below (U:Yi ad w O)(D:ab w.heap.size w w'):Yi ad w' O:=fun W I J=>U W (an D.size I) (fun k H K=>(J k (ag H D.size) K).trans (D.block k H))
theorem OV (X:WB)(D:i<6)(c:fS):(((((Zi X).setIfInBounds (1+i*5) (J3 c.p)).setIfInBounds (1+i*5+1) (.bool c.put)).setIfInBounds (1+i*5+2) (.string c.text)).setIfInBounds (1+i*5+3) (.int .i64 c.cfg)).setIfInBounds (1+i*5+4) (.int .i64 c.fr)=Zi {X with cl:=JA X.cl i c}:=by
 match i,D with
 |0,_=>rfl
 |1,_=>rfl
 |2,_=>rfl
 |3,_=>rfl
 |4,_=>rfl
 |5,_=>rfl
def lA (w:World)(h i:Nat)(c:fS):World:=((((w.setCell ⟨h,1+i*5,N⟩ (J3 c.p)).setCell ⟨h,1+i*5+1,N⟩ (.bool c.put)).setCell ⟨h,1+i*5+2,N⟩ (.string c.text)).setCell ⟨h,1+i*5+3,N⟩ (.int .i64 c.cfg)).setCell ⟨h,1+i*5+4,N⟩ (.int .i64 c.fr)
theorem CI (hW:Yp h w w')(i:Nat)(c:fS):Yp h w (lA w' h i c):=by
 unfold lA;have D:=hW.set (1+i*5) (J3 c.p);generalize w'.setCell ⟨h,1+i*5,N⟩ (J3 c.p)=H at *;have I:=D.set (1+i*5+1) (.bool c.put);generalize H.setCell ⟨h,1+i*5+1,N⟩ (.bool c.put)=J at *;have K:=I.set (1+i*5+2) (.string c.text);generalize J.setCell ⟨h,1+i*5+2,N⟩ (.string c.text)=U at *;have Z:=K.set (1+i*5+3) (.int .i64 c.cfg);generalize U.setCell ⟨h,1+i*5+3,N⟩ (.int .i64 c.cfg)=w4 at *;exact Z.set (1+i*5+4) (.int .i64 c.fr)
theorem AM (hb:w.heap[h]?=aa (.cells (Zi X) 74 (0,0)))(hi:i<6)(c:fS):(lA w h i c).heap[h]?=aa (.cells (Zi {X with cl:=JA X.cl i c}) 74 (0,0)):=by
 unfold lA;rw[<-OV X hi c];have D:=Qc hb (1+i*5) (J3 c.p);generalize w.setCell ⟨h,1+i*5,N⟩ (J3 c.p)=H at *;have I:=Qc D (1+i*5+1) (.bool c.put);generalize H.setCell ⟨h,1+i*5+1,N⟩ (.bool c.put)=J at *;have K:=Qc I (1+i*5+2) (.string c.text);generalize J.setCell ⟨h,1+i*5+2,N⟩ (.string c.text)=U at *;have Z:=Qc K (1+i*5+3) (.int .i64 c.cfg);generalize U.setCell ⟨h,1+i*5+3,N⟩ (.int .i64 c.cfg)=w4 at *;exact Qc Z (1+i*5+4) (.int .i64 c.fr)
theorem Ye.idle (D:Ye w B h O m X ml nb hn)(J:Yp h w w'){T:List BA}{U:List Int}(a0:w'.heap[h]?=aa (.cells (Zi {X with cl:=JA X.cl i c}) 74 (0,0)))(hc:c.p=N)(ho:i<6->Xf m.asks i=N)(a2:∀j,j≠i->Yc T j=Yc m.texts j/\U.getD j 0=m.since.getD j 0):Ye w' B h O {m with texts:=T,since:=U} {X with cl:=JA X.cl i c} ml nb hn:=by
 have I:=D.toXJ.aS J.size (fun k o e K=>J.cW k (D.aO k o e).2 (fun Z=>by rw[Z,D.self]at e;injection e with e;exact K e.symm));refine {I.gH (m':={m with texts:=T,since:=U}) (X':={X with cl:=JA X.cl i c}) (i:=i) (O':=O) ⟨fun _ _ _ _=>Iff.rfl,fun _ h=>h,I.aO,Nat.le_refl _,fun _ _ _ _ _=>rfl⟩ rfl rfl rfl rfl (fun j _ H=>⟨rfl,a2 j H⟩) rfl rfl rfl rfl rfl rfl (fun j H=>yF _ _ H) (fun hi=>?_)with blk:=a0,self:=D.self,cV:=D.cV,dF:=D.dF,aW:=D.aW};show kA _ _ _ _ (Xf m.asks i) (JA X.cl i c i) _ _;rw[ho hi,YZ];exact hc
end
end
section
section
variable {w w':World} {B h:Nat} {O O':Nat->Option Whose} {m:Ya} {X:WB} {ml:List (Zb×Lv)} {nb hn:Nat->Nat} {n k:Nat} {ad:Nat->zb}
theorem WZ.opened (D:WZ n k m)(H:i<6){text:BA}(I:text.size<=1000)(s:Int):WZ n k {m with since:=m.since.set i s,texts:=m.texts.set i text}:=by
 refine⟨D.bO,D.msgs,D.la,by show(m.texts.set i text).length=6;rw[List.length_set];exact D.lt,by show(m.since.set i s).length=6;rw[List.length_set];exact D.ls,fun j=>?_,D.act,D.many,D.dN,D.dO,D.cU,D.asks,D.bI,D.nodes⟩;show(Yc (m.texts.set i text) j).size<=1000;rw[vK (by rw[D.lt];exact H)];split
 ·exact I
 ·exact D.gD j
def Xe (ad:Nat->zb)(w:World)(B h:Nat)(O:Nat->Option Whose)(r:Ya×Int)(nb hn:Nat->Nat)(e:Ending)(w':World):Prop:=(∃D,e=.returned D/\Jd w' ad D r.2 (-1))/\Yj w B h O r.1 nb hn w'
theorem DE (hp:Ye w B h O m X ml nb hn)(hz:WZ n k m)(who:Int)(put:Bool)(text:BA)(ht:text.size<=1000)(h0:0<=m.ops)(h1:m.ops<=1152921504606846976)(hE:Yi ad w O):
 ae prog 27 #[.pointer (aa ⟨h,0,N⟩),.int .i64 who,.agg #[.bool put,.string text]] w (Xe ad w B h O (m.open_ who put text) nb hn):=by
 obtain⟨D,a0⟩:=Xb (w.alloc (.cells #[.bool put,.string text] 65));have H:=Zk a0;have b2:=JH a0;have a5:=hp.below H;have a6:=hE.below H;have a7:∀W,ab w.heap.size w W->Yj w B h O m nb hn W:=fun W hW=>⟨O,X,ml,hp.below hW,Yd.aJ hW⟩
 have a9:=uM who D;have b4:Hid (D=w.alloc (.cells #[.bool put,.string text] 65)):=a0;by_cases hw:0<=who/\who<6
 ·obtain⟨i,rfl⟩:∃i:Nat,who=(i:Int):=⟨who.toNat,by omega⟩;have I:i<6:=by omega
  rw[decide_eq_true hw]at a9;have J:=XV a5 I;have z1:(0:Int)<=(i:Int):=by omega
  have z2:(i:Int)<6:=by omega
  cases ha:Xf m.asks i with
  |some a =>
   have U:m.open_ (i:Int) put text=(m,11):=by
    unfold Ya.open_;rw[if_neg (by omega),if_pos (by rw[af,ha];rfl)]
   rw[U];rw[ha]at J;have e6:¬a.st.word.toList=[105,100,108,101]:=by
    generalize a.st=st;cases st<;>decide +kernel
   have e7:(a.st.word.toList==[105,100,108,101])=false:=by
    generalize a.st=st;cases st<;>decide +kernel
   have J:ae prog 35 #[.pointer (aa ⟨h,1+i*5,N⟩)] D fun e w'=>e=.returned (.string a.st.word)/\w'.cell? ⟨4,0,N⟩=aa (.iface 301 (.pointer (aa (ad 10))))/\Hid (ab w.heap.size w w'):=J.mono fun e w' K=>⟨K.1,(a6.below K.2).here.held,H.trans (K.2.mono H.size)⟩
   have d5:Hid (∀W,ab w.heap.size w W->Yj w B h O m nb hn W):=a7;have d6:Hid (∀e W,(∃ev,e=.returned ev/\Jd W ad ev 11 (-1))->Yj w B h O m nb hn W->Xe ad w B h O (m,11) nb hn e W):=fun e W h1 h2=>⟨h1,h2⟩
   generalize Xe ad w B h O (m,11) nb hn=G at *;generalize Yj w B h O m nb hn=T at *;clear a5 a6 H b2 a0 a7 ha U hp hz hE ht h0 h1;generalize a.st.word=sw at *;go_enter func27,ntmps27;go_wp2_with (rw[<-b4.out])
   refine a9.mono ?_;rintro e w2 ⟨rfl,rfl⟩;go_wp2_with fail
   refine J.mono ?_;rintro e w3 ⟨rfl,e8,b3⟩;go_wp2;exact d6.out _ _ ⟨_,rfl,Jd.b8 10 (by decide)⟩ (d5.out _ b3.out)
  |none =>
   obtain⟨m1,Z⟩:∃m1:Ya,m1={m with since:=m.since.set i m.aA,texts:=m.texts.set i text}:=⟨_,rfl⟩;have U:m.open_ (i:Int) put text=(m1.begin i put,0):=by
    unfold Ya.open_;rw[if_neg (by omega),if_neg (by rw[af,ha];decide),af,Z]
   rw[U];rw[ha]at J;have b6:WZ n k m1:=by rw[Z];exact hz.opened I ht _
   have b7:X.del=m.aA:=hp.aW.2.2;have c8:∀W,ab D.heap.size D W->(W.cell? ⟨w.heap.size,0,N⟩=aa (.bool put)/\W.cell? ⟨w.heap.size,1,N⟩=aa (.string text))/\W.cell? ⟨h,41,N⟩=aa (.int .i64 m.aA)/\W.heap[h]?=aa (.cells (Zi X) 74 (0,0)):=fun W hW=>by
    have hk:=(hW.block _ (by rw[a0];simp)).trans b2;have hb:=(a5.below hW).blk;exact⟨⟨(Xa hk 0).1,(Xa hk 1).1⟩,by rw[<-b7];exact(Xa hb 41).1,hb⟩
   have J:ae prog 35 #[.pointer (aa ⟨h,1+i*5,N⟩)] D fun e w'=>e=.returned (.string ⟨#[105,100,108,101]⟩)/\Hid (ab D.heap.size D w'):=J.mono fun e w' K=>⟨K.1,K.2⟩
   have d0:Hid (∀W,ab D.heap.size D W->(W.cell? ⟨w.heap.size,0,N⟩=aa (.bool put)/\W.cell? ⟨w.heap.size,1,N⟩=aa (.string text))/\W.cell? ⟨h,41,N⟩=aa (.int .i64 m.aA)/\W.heap[h]?=aa (.cells (Zi X) 74 (0,0))):=c8;have d1:Hid (∀W W',ab D.heap.size D W->W'=lA W.drew h i ⟨N,put,text,0,m.aA⟩->ae prog 38 #[.pointer (aa ⟨h,0,N⟩),.int .i64 (i:Int)] W' fun e w'=>e=.returned (.tuple #[])/\Hid (Xe ad w B h O (m1.begin i put,0) nb hn (.returned .nilIface) w')):=fun W W' hW d2=>by
    have a2:ab w.heap.size w W:=H.trans (hW.mono H.size);have d7:=hp.below a2;have d3:=d7.aS (w':=W.drew) nR (fun _ _ _=>rfl);have a4:Yp h W.drew W':=by rw[d2];exact CI (Yp.refl h _) i _
    have d8:Ye W' B h O m1 {X with cl:=JA X.cl i ⟨N,put,text,0,m.aA⟩} ml nb hn:=by
     rw[Z];exact d3.idle a4 (by rw[d2];exact AM d3.blk I _) rfl (fun _=>ha) (fun j hj=>⟨by rw[vK (by rw[hz.lt];exact I),if_neg hj],by rw[D1 (by rw[hz.ls];exact I),if_neg hj]⟩)
    have d4:Yd (fun k=>O k≠N) (fun k=>O k≠N) w W':=⟨a4.os.trans a2.os,a4.tape.trans a2.tape,a4.output.trans a2.output,an a2.size a4.size,fun k hk hn=>(a4.cW k (ag hk a2.size) (fun e=>hn (by rw[e,hp.self];exact fun e=>(by cases e)))).trans (a2.block k hk),fun k hk=>au hk⟩;refine(zG d8 b6 I (put:=put) ?_ ?_ ?_ (by rw[Z];exact h0) (by rw[Z];exact h1) (hE.next d4).o).mono fun e w' K=>⟨K.1,⟨_,rfl,Jd.nil _ _⟩,?_⟩
    ·show(JA X.cl i _ i).put=put;rw[YZ]
    ·show(JA X.cl i _ i).text=Yc m1.texts i;rw[YZ,Z];show text=Yc (m.texts.set i text) i;rw[vK (by rw[hz.lt];exact I),if_pos rfl]
    ·show(JA X.cl i _ i).fr=m1.since.getD i 0;rw[YZ,Z];show m.aA=(m.since.set i m.aA).getD i 0;rw[D1 (by rw[hz.ls];exact I),if_pos rfl]
    ·obtain⟨O4,X4,d9,e0,e1⟩:=K.2;exact⟨O4,X4,d9,e0,d4.trans' e1⟩
   generalize Xe ad w B h O (m1.begin i put,0) nb hn=G at *;generalize m.aA=dl at *;clear a5 a6 H b2 a0 a7 ha U hp hz hE ht h0 h1 Z b6 b7 c8;go_enter func27,ntmps27;go_wp2_with (rw[<-b4.out])
   refine a9.mono ?_;rintro e w2 ⟨rfl,rfl⟩;go_wp2_with fail
   refine J.mono ?_;rintro e w3 ⟨rfl,b3⟩;obtain⟨⟨b0,b1⟩,e2,a3⟩:=d0.out w3 b3.out;obtain⟨c0,c1,c2,c3,c4⟩:=Yx a3 I;have f0:=(Xa a3 (1+i*5)).2;have f1:=(Xa a3 (1+i*5+1)).2;have f2:=(Xa a3 (1+i*5+2)).2;have f3:=(Xa a3 (1+i*5+3)).2;have f4:=(Xa a3 (1+i*5+4)).2;obtain⟨w4,b5⟩:=Xb (lA w3.drew h i ⟨N,put,text,0,dl⟩);have e3:=d1.out w3 w4 b3.out b5;have e4:Hid (w4=(((((w3.setCell ⟨h,1+i*5,N⟩ (.pointer N)).setCell ⟨h,1+i*5+1,N⟩ (.bool put)).setCell ⟨h,1+i*5+2,N⟩ (.string text)).setCell ⟨h,1+i*5+3,N⟩ (.int .i64 0)).setCell ⟨h,1+i*5+4,N⟩ (.int .i64 dl)).drew):=b5;clear a3 b5 d1 d0 J;go_wp2;go_region
   rw[<-e4.out];clear b0 b1 e2 c0 c1 c2 c3 c4 f0 f1 f2 f3 f4;go_wp2_with fail
   refine e3.mono ?_;rintro e w5 ⟨rfl,e5⟩;go_wp2;exact e5.out
 ·have U:m.open_ who put text=(m,2):=by
   unfold Ya.open_;rw[if_pos (by omega)]
  rw[U,];rw[decide_eq_false hw]at a9;have e9:=a6.here.q.c1;have HF:Hid (Xe ad w B h O (m,2) nb hn (.returned (.iface 301 (.pointer (aa (ad 1))))) D):=⟨⟨_,rfl,Jd.b8 1 (by decide)⟩,a7 _ H⟩;generalize Xe ad w B h O (m,2) nb hn=G at *;clear a5 a6 H b2 a0 a7 U hp hz hE ht h0 h1 hw;go_enter func27,ntmps27;go_wp2_with (rw[<-b4.out])
  refine a9.mono ?_;rintro e w2 ⟨rfl,rfl⟩;go_wp2;exact HF.out
end
end
section
section
variable {w w':World} {B h:Nat} {O O':Nat->Option Whose} {m:Ya} {X:WB} {ml:List (Zb×Lv)} {nb hn:Nat->Nat} {n k:Nat} {ad:Nat->zb}
theorem Yj.here (H:Ye w B h O m X ml nb hn)(D:ab w.heap.size w W):Yj w B h O m nb hn W:=⟨O,X,ml,H.below D,Yd.aJ D⟩
theorem Yj.since (U:ab w.heap.size w W)(Z:Yj W B h O m' nb hn w'):Yj w B h O m' nb hn w':=by
 obtain⟨D,H,I,J,K⟩:=Z;exact⟨D,H,I,J,(Yd.aJ U).trans' K⟩
theorem Xe.since {r:Ya×Int}{e:Ending}(H:ab w.heap.size w W)(D:Xe ad W B h O r nb hn e w'):Xe ad w B h O r nb hn e w':=⟨D.1,D.2.since H⟩
theorem GI (H:Ye w B h O m X ml nb hn)(K:WZ n k m)(who:Int)(text:BA)(ht:text.size<=100000)(U:0<=m.ops)(Z:m.ops<=1152921504606846976)(I:Yi ad w O):
 ae prog 9 #[.pointer (aa ⟨h,0,N⟩),.int .i64 who,.string text] w (Xe ad w B h O (m.open_ who av text) nb hn):=by
 by_cases a5:1000<text.size
 ·have ho:m.open_ who av text=(m,2):=by unfold Ya.open_;rw[if_pos (ak (ak a5))]
  rw[ho];have a7:=I.here.q.c1;have HF:Hid (Xe ad w B h O (m,2) nb hn (.returned (.iface 301 (.pointer (aa (ad 1))))) w):=⟨⟨_,rfl,Jd.b8 1 (by decide)⟩,Yj.here H bR⟩;have hd:decide ((1000:Int)<(text.size:Int))=true:=decide_eq_true (by omega);have a6:(1000:Int)<(text.size:Int):=by omega
  generalize Xe ad w B h O (m,2) nb hn=G at *;clear H K I U Z ho;go_enter func9,ntmps9;go_wp2;exact HF.out
 ·have a0:=Xs text w (by omega);have a2:Hid (∀W,ab w.heap.size w W->ae prog 27 #[.pointer (aa ⟨h,0,N⟩),.int .i64 who,.agg #[.bool av,.string text]] W fun e w'=>(∃D,e=.returned D)/\Xe ad w B h O (m.open_ who av text) nb hn e w'):=fun W J=>(DE (H.below J) K who av text (by omega) U Z (I.below J)).mono fun e w' hq=>⟨by obtain⟨D,e1,_⟩:=hq.1;exact⟨D,e1⟩,hq.since J⟩
  generalize Xe ad w B h O (m.open_ who av text) nb hn=G at *;have hd:=decide_eq_false (by omega);have a6:¬(1000:Int)<(text.size:Int):=by omega
  clear H K I U Z;go_enter func9,ntmps9;go_wp2_with fail
  refine a0.mono ?_;rintro e w1 ⟨rfl,a3⟩;have a4:=a2.out w1 a3;clear a2 a0 a3;go_wp2_with fail
  refine a4.mono ?_;rintro e w2 ⟨⟨D,rfl⟩,hG⟩;have HG:Hid _:=hG;clear hG a4;go_wp2;exact HG.out
theorem Jsp (K:Ye w B h O m X ml nb hn)(U:WZ n k m)(who:Int)(Z:0<=m.ops)(h1:m.ops<=1152921504606846976)(hE:Yi ad w O):
 ae prog 10 #[.pointer (aa ⟨h,0,N⟩),.int .i64 who] w (Xe ad w B h O (m.open_ who F ⟨#[]⟩) nb hn):=by
 have H:ae prog 27 #[.pointer (aa ⟨h,0,N⟩),.int .i64 who,.agg #[.bool F,.string ⟨#[]⟩]] w fun e w'=>(∃D,e=.returned D)/\Xe ad w B h O (m.open_ who F ⟨#[]⟩) nb hn e w':=(DE K U who F ⟨#[]⟩ (by decide) Z h1 hE).mono fun e w' I=>⟨by obtain⟨D,e1,_⟩:=I.1;exact⟨D,e1⟩,I⟩
 generalize Xe ad w B h O (m.open_ who F ⟨#[]⟩) nb hn=G at *;clear K U hE Z h1;go_enter func10,ntmps10;go_wp2_with fail
 refine H.mono ?_;rintro e w2 ⟨⟨D,rfl⟩,J⟩;have HG:Hid _:=J;clear J H;go_wp2;exact HG.out
theorem Ye.mU (D:Ye w B h O m X ml nb hn):∃p c,w.cell? ⟨h,0,N⟩=aa (.slice p m.L.length c)/\ml.length=m.L.length:=by
 obtain⟨p,c,I,_⟩:=D.row.form;have H:ml.length=m.L.length:=by rw[<-D.dK,List.length_map]
 refine⟨p,c,?_,H⟩;rw[<-H,<-I];exact(D.cell 0).1
theorem wA {α β:Type}{f:α->β}:∀(l:List α) (i:Nat),(l.eraseIdx i).map f=(l.map f).eraseIdx i
 | [],_=>by simp
 |_::_,0=>rfl
 |x::l,i+1=>by rw[List.eraseIdx_cons_succ,List.map_cons,List.map_cons,List.eraseIdx_cons_succ,wA l i]
theorem Yj.oV (J:Ye w B h O m X ml nb hn){H:List (Zb×Lv)}(D:kB h B X.vm H w w')(a0:∀x∈H,x∈ml){L:List Zb}(hL:H.map Prod.fst=L):Yj w B h O {m with L:=L} nb hn w':=by
 obtain⟨v',D⟩:=D;obtain⟨K,I,_,U⟩:=J.oV D (fun x Z=>J.bD x (a0 x Z));rw[hL]at I;exact⟨K,_,_,I,U⟩
theorem NU (D:Ye w B h O m X ml nb hn)(K:WZ n k m)(i:Int)(U:Yi ad w O):
 ae prog 11 #[.pointer (aa ⟨h,0,N⟩),.int .i64 i] w (Xe ad w B h O (m.drop i) nb hn):=by
 obtain⟨p,c,a0,Z⟩:=D.mU;have I:=xA h m.L.length c p i w a0;by_cases J:0<=i/\i<(m.L.length:Int)
 ·have H:m.drop i=(m.off i.toNat,0):=by unfold Ya.drop;rw[if_neg (by omega)]
  rw[H];obtain⟨j,rfl⟩:∃j:Nat,i=(j:Int):=⟨i.toNat,by omega⟩;rw[decide_eq_true J]at I;have a2:ae prog 30 #[.pointer (aa ⟨h,0,N⟩),.int .i64 (j:Int)] w fun e w'=>(∃ev,e=.returned ev)/\Hid (Xe ad w B h O (m.off (j:Int).toNat,0) nb hn (.returned .nilIface) w'):=(F6 h B X.vm ml j w (by have:=K.bO;omega) (by omega) (D.cell 0).1 (D.cell 0).2 D.gV D.row).mono fun e w' hq=>⟨⟨_,hq.1⟩,⟨_,rfl,Jd.nil _ _⟩,Yj.oV D hq.2 (fun x hx=>List.mem_of_mem_eraseIdx hx) (by rw[af,<-D.dK];exact wA ml j)⟩
  generalize Xe ad w B h O (m.off (j:Int).toNat,0) nb hn=G at *;clear D K U H J Z;go_enter func11,ntmps11;go_wp2_with fail
  refine I.mono ?_;rintro e w1 ⟨rfl,rfl⟩;go_wp2_with fail
  refine a2.mono ?_;rintro e w2 ⟨⟨ev,rfl⟩,HG⟩;go_wp2;exact HG.out
 ·have H:m.drop i=(m,5):=by unfold Ya.drop;rw[if_pos (by omega)]
  rw[H];rw[decide_eq_false J]at I;have a3:=U.here.q.c4;have HF:Hid (Xe ad w B h O (m,5) nb hn (.returned (.iface 301 (.pointer (aa (ad 4))))) w):=⟨⟨_,rfl,Jd.b8 4 (by decide)⟩,Yj.here D bR⟩;generalize Xe ad w B h O (m,5) nb hn=G at *;clear D K U H J Z;go_enter func11,ntmps11;go_wp2_with fail
  refine I.mono ?_;rintro e w1 ⟨rfl,rfl⟩;go_wp2;exact HF.out
end
end
section
section
variable {w w':World} {B h:Nat} {O O':Nat->Option Whose} {m:Ya} {X:WB} {ml:List (Zb×Lv)} {nb hn:Nat->Nat} {n k:Nat} {ad:Nat->zb}
theorem Jlj:St.looking.word.toList=[108,111,111,107,105,110,103]:=by decide +kernel
theorem CW:St.refused.word.toList=[114,101,102,117,115,101,100]:=by decide +kernel
theorem IU:St.done.word.toList=[100,111,110,101]:=by decide +kernel
theorem qT {o:Option Za}{st:St}(h:∀a,o=aa a->a.st≠st)(D:st=.looking∨st=.refused∨st=.done):¬(kV o).toList=st.word.toList/\((kV o).toList==st.word.toList)=false:=by
 cases o with
 |none=>rcases D with rfl|rfl|rfl<;>exact⟨by decide +kernel,by decide +kernel⟩
 |some a =>
  have:=h a rfl;show ¬a.st.word.toList=_/\(a.st.word.toList==_)=F;generalize a.st=s at *;rcases D with rfl|rfl|rfl<;>cases s<;>first|exact absurd rfl this|exact⟨by decide +kernel,by decide +kernel⟩
theorem PQ (H:Ye w B h O m X ml nb hn)(hz:WZ n k m)(who:Int)(hE:Yi ad w O):
 ae prog 15 #[.pointer (aa ⟨h,0,N⟩),.int .i64 who] w (Xe ad w B h O (m.again who) nb hn):=by
 have Z:=uM who w;by_cases hw:0<=who/\who<6
 ·obtain⟨i,rfl⟩:∃i:Nat,who=(i:Int):=⟨who.toNat,by omega⟩;have hi:i<6:=by omega
  rw[decide_eq_true hw]at Z;have U:=XV H hi;have z1:(0:Int)<=(i:Int):=by omega
  have z2:(i:Int)<6:=by omega
  by_cases hl:∃a,Xf m.asks i=aa a/\a.st=.looking
  ·obtain⟨a,I,hs⟩:=hl;have J:m.again (i:Int)=(m.send a.begin,0):=by
    unfold Ya.again;rw[if_neg (by omega),af,I];exact if_pos hs
   rw[J];obtain⟨a2,_⟩:=hz.asks i a I;obtain⟨b,a3,a4,_⟩:∃b,(X.cl i).p=aa b/\Qw w B b (fun k=>O k=aa (.ask i)) a/\_:=by have:=H.ask i hi;rw[I]at this;exact this
   have a0:∀W X2 O2 a5 m2,Ye W B h O2 m2 X2 a5 nb hn->X2.cl=X.cl->W.cell? (pA h (1+i*5))=aa (.pointer (aa (pA b 0))):=fun W X2 O2 a5 m2 D he=>by
    have:=(Yx D.blk hi).1;rw[he,a3]at this;exact this
   have U:ae prog 35 #[.pointer (aa (pA h (1+i*5)))] w fun e w'=>e=.returned (.string ⟨#[108,111,111,107,105,110,103]⟩)/\Hid (ab w.z w w'):=U.mono fun e w' D=>⟨by rw[D.1,I];show Ending.returned (.string a.st.word)=_;rw[hs];rfl,D.2⟩
   have a9:Hid (∀W,ab w.z w W->ae prog 37 #[.pointer (aa (pA b 0))] W fun e w'=>∃p c,e=.returned (.slice p a.begin.length c)/\w'.cell? (pA h (1+i*5))=aa (.pointer (aa (pA b 0)))/\Hid (QE c w.z w' p a.begin/\ab w.z w w')):=fun W K=>(yJ (a4.dA K.size (fun k hk=>K.block k (H.aO k _ hk).2))).mono fun e w' D=>by
    obtain⟨⟨p,c,e1,e2⟩,e3⟩:=D;have hb:=K.trans (e3.mono K.size);exact⟨p,c,e1,a0 _ _ _ _ _ (H.below hb) rfl,e2.mono K.size,hb⟩
   have b0:Hid (∀W p c,Hid (QE c w.z W p a.begin/\ab w.z w W)->ae prog 36 #[.pointer (aa (pA h 0)),.slice p a.begin.length c] W fun e w'=>e=.returned (.tuple #[])/\w'.cell? (pA h (1+i*5))=aa (.pointer (aa (pA b 0)))/\Hid (Xe ad w B h O (m.send a.begin,0) nb hn (.returned .nilIface) w')):=fun W p c hM=>by
    obtain⟨O5,b1,b2,b3,_⟩:=H.grow hM.out.2;refine(oS b1 hz.bO (by have:=zR a2;omega) (hM.out.1.out (fun b h1 h2=>b2 b h1 h2))).mono fun e w' D=>?_
    obtain⟨e1,O6,v6,b4,a6,_,b5⟩:=D;exact⟨e1,a0 _ _ _ _ _ a6 rfl,⟨_,rfl,Jd.nil _ _⟩,O6,_,b4,a6,b3.trans' b5⟩
   have b6:Hid (∀W,ab w.z w W->W.cell? (pA h (1+i*5))=aa (.pointer (aa (pA b 0)))):=fun W K=>a0 _ _ _ _ _ (H.below K) rfl
   generalize Xe ad w B h O (m.send a.begin,0) nb hn=G at *;generalize a.begin=BL at *;clear H hz hE J hw I hs a2 a3 a4 a0;go_enter func15,ntmps15;go_wp2_with fail
   refine Z.mono ?_;rintro e w1 ⟨rfl,rfl⟩;go_wp2_with fail
   refine U.mono ?_;rintro e w2 ⟨rfl,a7⟩;have s0:=b6.out w2 a7.out;have s1:=s0;have b7:Hid _:=a7.out.drew;go_wp2;go_region_held3 (fun W=>W.cell? (pA h (1+i*5))=aa (.pointer (aa (pA b 0)))) (first|assumption|exact s1) (first|(go_at_call 37;refine(a9.out _ b7.out).mono ?_;rintro e w5 ⟨p5,c5,rfl,d2,c8⟩)|(go_at_call 36;refine(b0.out w5 p5 c5 c8).mono ?_;rintro e w6 ⟨rfl,d3,HF⟩))
   go_wp2;exact HF.out
  ·have J:m.again (i:Int)=(m,5):=by
    unfold Ya.again;rw[if_neg (by omega),af];cases I:Xf m.asks i with
    |none=>rfl
    |some a=>exact if_neg (fun e=>hl ⟨a,I,e⟩)
   rw[J];obtain⟨d0,d1⟩:=qT (o:=Xf m.asks i) (st:=.looking) (fun a I e=>hl ⟨a,I,e⟩) (au rfl);rw[Jlj]at d0 d1;have U:ae prog 35 #[.pointer (aa (pA h (1+i*5)))] w fun e w'=>e=.returned (.string (kV (Xf m.asks i)))/\w'.cell? ⟨1,0,N⟩=aa (.iface 301 (.pointer (aa (ad 4))))/\Hid (Xe ad w B h O (m,5) nb hn (.returned (.iface 301 (.pointer (aa (ad 4))))) w'):=U.mono fun e w' D=>⟨D.1,(hE.below D.2).here.q.c4,⟨_,rfl,Jd.b8 4 (by decide)⟩,Yj.here H D.2⟩
   generalize Xe ad w B h O (m,5) nb hn=G at *;generalize kV (Xf m.asks i)=sw at *;clear H hz hE J hw hl;go_enter func15,ntmps15;go_wp2_with fail
   refine Z.mono ?_;rintro e w1 ⟨rfl,rfl⟩;go_wp2_with fail
   refine U.mono ?_;rintro e w2 ⟨rfl,d4,HF⟩;go_wp2;exact HF.out
 ·have J:m.again who=(m,2):=by unfold Ya.again;rw[if_pos (by omega)]
  rw[J];rw[decide_eq_false hw]at Z;have d5:=hE.here.q.c1;have HF:Hid (Xe ad w B h O (m,2) nb hn (.returned (.iface 301 (.pointer (aa (ad 1))))) w):=⟨⟨_,rfl,Jd.b8 1 (by decide)⟩,Yj.here H bR⟩;generalize Xe ad w B h O (m,2) nb hn=G at *;clear H hz hE J hw;go_enter func15,ntmps15;go_wp2_with fail
  refine Z.mono ?_;rintro e w1 ⟨rfl,rfl⟩;go_wp2;exact HF.out
theorem MX (H:Ye w B h O m X ml nb hn)(hz:WZ n k m)(who:Int)(h0:0<=m.ops)(h1:m.ops<=1152921504606846976)(U:Yi ad w O):
 ae prog 16 #[.pointer (aa ⟨h,0,N⟩),.int .i64 who] w (Xe ad w B h O (m.a8 who) nb hn):=by
 have a0:=uM who w;by_cases hw:0<=who/\who<6
 ·obtain⟨i,rfl⟩:∃i:Nat,who=(i:Int):=⟨who.toNat,by omega⟩;have hi:i<6:=by omega
  rw[decide_eq_true hw]at a0;have Z:=XV H hi;have z1:(0:Int)<=(i:Int):=by omega
  have z2:(i:Int)<6:=by omega
  by_cases hl:∃a,Xf m.asks i=aa a/\a.st=.refused
  ·obtain⟨a,I,hs⟩:=hl;obtain⟨b1,_⟩:=hz.asks i a I;obtain⟨b,b2,b3,a3,a4,a5,a6⟩:∃b,(X.cl i).p=aa b/\Qw w B b (fun k=>O k=aa (.ask i)) a/\(X.cl i).put=a.put/\(X.cl i).text=Yc m.texts i/\(X.cl i).cfg=a.config/\(X.cl i).fr=m.since.getD i 0:=by have:=H.ask i hi;rw[I]at this;exact this
   have a7:=H.aW.1;have a9:∀W,ab w.z w W->W.cell? (pA h (1+i*5+3))=aa (.int .i64 a.config)/\W.cell? (pA h 39)=aa (.int .i64 (m.aC:Int)):=fun W K=>by
    have D:=(H.below K).blk;refine⟨by have:=(Yx D hi).2.2.2.1;rw[a5]at this;exact this,?_⟩;rw[<-a7];exact(Xa D 39).1
   have Z:ae prog 35 #[.pointer (aa (pA h (1+i*5)))] w fun e w'=>e=.returned (.string ⟨#[114,101,102,117,115,101,100]⟩)/\Hid (ab w.z w w'):=Z.mono fun e w' D=>⟨by rw[D.1,I];show Ending.returned (.string a.st.word)=_;rw[hs];rfl,D.2⟩
   have b4:Hid _:=a9;by_cases hold:(m.aC:Int)<=a.config
   ·have J:m.a8 (i:Int)=(m,10):=by
     unfold Ya.a8;rw[if_neg (by omega),af,I];show(if a.st=.refused then(if(m.aC:Int)<=a.config then(m,(10:Int))else(m.begin i a.put,0))else(m,5))=_;rw[if_pos hs,if_pos hold]
    rw[J];have b5:Hid (∀W,ab w.z w W->W.cell? ⟨3,0,N⟩=aa (.iface 301 (.pointer (aa (ad 9))))/\Xe ad w B h O (m,10) nb hn (.returned (.iface 301 (.pointer (aa (ad 9))))) W):=fun W K=>⟨(U.below K).here.sv.eZ.c9,⟨_,rfl,Jd.b8 9 (by decide)⟩,Yj.here H K⟩
    have hd:=decide_eq_true hold;generalize Xe ad w B h O (m,10) nb hn=G at *;generalize a.config=ac at *;generalize (m.aC:Int)=b6 at *;clear H hz U J hw I hs b1 b2 b3 a3 a4 a5 a6 a7 a9 h0 h1;go_enter func16,ntmps16;go_wp2_with fail
    refine a0.mono ?_;rintro e w1 ⟨rfl,rfl⟩;go_wp2_with fail
    refine Z.mono ?_;rintro e w2 ⟨rfl,a2⟩;obtain⟨c3,b7⟩:=b4.out w2 a2.out;have b0:Hid _:=a2.out;obtain⟨e9,hG⟩:=b5.out w2.drew a2.out.drew;have d3:w2.cell? ⟨3,0,N⟩=aa (.iface 301 (.pointer (aa (ad 9)))):=e9;have c8:=b5;go_wp2;go_quiet (fail)
    go_wp2;exact(c8.out _ (ar b0.out _)).2
   ·have J:m.a8 (i:Int)=(m.begin i a.put,0):=by
     unfold Ya.a8;rw[if_neg (by omega),af,I];show(if a.st=.refused then(if(m.aC:Int)<=a.config then(m,(10:Int))else(m.begin i a.put,0))else(m,5))=_;rw[if_pos hs,if_neg hold]
    rw[J];have d0:Hid (∀W,ab w.z w W->ae prog 38 #[.pointer (aa (pA h 0)),.int .i64 (i:Int)] W fun e w'=>e=.returned (.tuple #[])/\Hid (Xe ad w B h O (m.begin i a.put,0) nb hn (.returned .nilIface) w')):=fun W K=>(zG (H.below K) hz hi a3 a4 a6 h0 h1 (U.below K).o).mono fun e w' D=>⟨D.1,⟨_,rfl,Jd.nil _ _⟩,D.2.since K⟩
    have hd:decide ((m.aC:Int)<=a.config)=false:=decide_eq_false hold;generalize Xe ad w B h O (m.begin i a.put,0) nb hn=G at *;generalize a.config=ac at *;generalize (m.aC:Int)=b6 at *;clear H hz U J hw I hs b1 b2 b3 a3 a4 a5 a6 a7 a9 h0 h1;go_enter func16,ntmps16;go_wp2_with fail
    refine a0.mono ?_;rintro e w1 ⟨rfl,rfl⟩;go_wp2_with fail
    refine Z.mono ?_;rintro e w2 ⟨rfl,a2⟩;obtain⟨c3,b7⟩:=b4.out w2 a2.out;have b0:Hid (ab w1.z w1 w2):=a2.out;go_wp2;go_quiet (fail)
    go_wp2_with fail
    refine(d0.out _ (ar b0.out _)).mono ?_;rintro e w5 ⟨rfl,HF⟩;go_wp2;exact HF.out
  ·have J:m.a8 (i:Int)=(m,5):=by
    unfold Ya.a8;rw[if_neg (by omega),af];cases I:Xf m.asks i with
    |none=>rfl
    |some a=>exact if_neg (fun e=>hl ⟨a,I,e⟩)
   rw[J];obtain⟨d1,d2⟩:=qT (o:=Xf m.asks i) (st:=.refused) (fun a I e=>hl ⟨a,I,e⟩) (ak (au rfl));rw[CW]at d1 d2;have Z:ae prog 35 #[.pointer (aa (pA h (1+i*5)))] w fun e w'=>e=.returned (.string (kV (Xf m.asks i)))/\w'.cell? ⟨1,0,N⟩=aa (.iface 301 (.pointer (aa (ad 4))))/\Hid (Xe ad w B h O (m,5) nb hn (.returned (.iface 301 (.pointer (aa (ad 4))))) w'):=Z.mono fun e w' D=>⟨D.1,(U.below D.2).here.q.c4,⟨_,rfl,Jd.b8 4 (by decide)⟩,Yj.here H D.2⟩
   generalize Xe ad w B h O (m,5) nb hn=G at *;generalize kV (Xf m.asks i)=sw at *;clear H hz U J hw hl h0 h1;go_enter func16,ntmps16;go_wp2_with fail
   refine a0.mono ?_;rintro e w1 ⟨rfl,rfl⟩;go_wp2_with fail
   refine Z.mono ?_;rintro e w2 ⟨rfl,d4,HF⟩;go_wp2;exact HF.out
 ·have J:m.a8 who=(m,2):=by unfold Ya.a8;rw[if_pos (by omega)]
  rw[J];rw[decide_eq_false hw]at a0;have d5:=U.here.q.c1;have HF:Hid (Xe ad w B h O (m,2) nb hn (.returned (.iface 301 (.pointer (aa (ad 1))))) w):=⟨⟨_,rfl,Jd.b8 1 (by decide)⟩,Yj.here H bR⟩;generalize Xe ad w B h O (m,2) nb hn=G at *;clear H hz U J hw h0 h1;go_enter func16,ntmps16;go_wp2_with fail
  refine a0.mono ?_;rintro e w1 ⟨rfl,rfl⟩;go_wp2;exact HF.out
end
end
section
theorem DC:(prog.info? 47).map (fun i=>(i.zero,i.size,i.bytes))=aa (aa (.agg #[.int .i64 0,.bool F,.bool F,.int .i64 0,.int .i64 0,.string ⟨#[]⟩,.int .i64 0,.int .i64 0]),XI.k,64):=by kernel_rfl
section
variable {w w':World} {B h:Nat} {O O':Nat->Option Whose} {m:Ya} {X:WB} {ml:List (Zb×Lv)} {nb hn:Nat->Nat} {n k:Nat} {ad:Nat->zb}
theorem XJ.u7 (H:XJ w B O m X ml nb hn)(D:Qv .bV O O' B w w'){X':WB}(e1:m'.L=m.L)(J:m'.nodes=m.nodes)(e4:m'.mover=m.mover)(K:m'.asks=m.asks/\m'.texts=m.texts/\m'.since=m.since)
 (U:X'.vm=X.vm) (Z:X'.vn=X.vn) (x4:X'.mp=X.mp) (x5:X'.nx=X.nx) (x6:X'.cf=X.cf) (x7:X'.cl=X.cl) (hr:Zc XI 47 w' B X'.ve m'.events) (a0:∀k,X'.ve.ownBlock=aa k->O' k=aa .bV):XJ w' B O' m' X' ml nb hn where
 aO:=D.aO
 row:=by rw[U];exact(H.cO D (fun e=>by cases e)).1
 cX:=by rw[U];exact(H.cO D (fun e=>by cases e)).2
 dK:=by rw[e1];exact H.dK
 bD:=H.eR D (fun e=>by cases e)
 bV:=hr
 cS:=a0
 cD:=by rw[Z,J];exact(H.bY D (fun e=>by cases e)).1
 bU:=by rw[Z];exact(H.bY D (fun e=>by cases e)).2
 node:=fun j I=>by rw[J]at I ⊢;exact H.dB D I (fun e=>by cases e)
 mem:=fun j I=>by rw[J]at I ⊢;exact H.dZ D I (fun e=>by cases e)
 ask:=fun j I=>by rw[K.1,K.2.1,K.2.2,x7];exact(H.ask j I).kept D (fun e=>by cases e)
 bI:=by rw[e4,x4,x5];exact H.bI.kept D (fun e=>by cases e) (fun e=>by cases e)
 cf:=by rw[x6];exact H.cf.kept D.bD D.size (fun k hk=>D.kept k _ hk (fun e=>by cases e) (fun e=>by cases e))
theorem Ye.rT (D:Ye w B h O m X ml nb hn){J:World}{H:aE}{E:List Ev}(h1:Zc XI 47 J B H E)(U:w.grownBy J X.ve.ownBlock)(K:H.ownBlock=X.ve.ownBlock∨∃k,H.ownBlock=aa k/\w.heap.size<=k):∃O',Ye (J.setCell ⟨h,42,N⟩ H) B h O' {m with events:=E} {X with ve:=H} ml nb hn/\Yd (fun k=>O k≠N) (fun k=>O' k≠N) w (J.setCell ⟨h,42,N⟩ H):=by
 have a0:X.ve.ownBlock≠aa h:=fun e=>by have:=D.cS h e;rw[D.self]at this;cases this
 have hb:=U.block h D.lt (fun e=>a0 e.symm);have a3:H.ownBlock≠aa h:=fun e=>by
  rcases K with K|⟨k,K,h4⟩
  ·exact a0 (K.symm.trans e)
  ·rw[K]at e;injection e with e;have:=D.lt;omega
 have a4:(J.setCell ⟨h,42,N⟩ H).heap.size=J.heap.size:=by simp[az]
 have a2:Zc XI 47 (J.setCell ⟨h,42,N⟩ H) B H E:=h1.dC (fun k I=>Deep.blk_setCell_other _ _ _ _ (fun e=>a3 (by rw[I,e])));have Z:∀k,H.ownBlock=aa k->O k=aa .bV∨w.heap.size<=k:=fun k I=>by
  rcases K with e|⟨k',e,a5⟩
  ·exact au (D.cS k (e.symm.trans I))
  ·rw[I]at e;injection e with e;exact ak (by omega)
 have hU:Yd (fun k=>O k=aa .bV∨O k=aa .self) (fun k=>H.ownBlock=aa k) w (J.setCell ⟨h,42,N⟩ H):=⟨U.os,U.tape,U.output,by rw[a4];exact U.size,fun k I hn=>(ah _ _ _ _ (fun e=>hn (ak (by have e:k=h:=e;rw[e];exact D.self)))).trans (U.block k I (fun e=>hn (au (D.cS k e.symm)))),fun k I=>(Z k I).imp au id⟩;have hT:=Qv.of (t:=.bV) (fun e=>by cases e) D.aO D.base hU Z (fun k I=>(a2.block I).2);exact⟨_,{D.toXJ.u7 (m':={m with events:=E}) (X':={X with ve:=H}) hT rfl rfl rfl ⟨rfl,rfl,rfl⟩ rfl rfl rfl rfl rfl rfl a2 (fun k I=>(ZU (fun e=>by cases e) k).2 I)with blk:=Qc (hb.trans D.blk) 42 H,self:=(hT.same .self h (fun e=>by cases e) (fun e=>by cases e)).2 D.self,cV:=D.cV,dF:=D.dF,aW:=D.aW},QM hU Z⟩
end
end
section
section
variable {w w':World} {B h:Nat} {O O':Nat->Option Whose} {m:Ya} {X:WB} {ml:List (Zb×Lv)} {nb hn:Nat->Nat} {n k:Nat} {ad:Nat->zb}
def lY (m:Ya)(i:Nat)(a:Za):Ev:=⟨i,a.put,a.found,if a.found then a.tag else(0,0),if a.found then a.text else⟨#[]⟩,m.since.getD i 0,m.aA⟩
theorem Jsb (hp:Ye w B h O m X ml nb hn)(hi:i<6)(ha:Xf m.asks i=aa a)(hs:a.st=.done)(f9:m.events.length<=1000000):
 ae prog 71 #[.pointer (aa ⟨h,0,N⟩),.int .i64 (i:Int)] w fun e w'=>e=.returned (.tuple #[])/\∃O' v',Ye w' B h O' {m with events:=m.events++ [lY m i a]} {X with ve:=v'} ml nb hn/\Yd (fun k=>O k≠N) (fun k=>O' k≠N) w w':=by
 obtain⟨b,d0,a2,a6,e8,e9,a7⟩:∃b,(X.cl i).p=aa b/\Qw w B b (fun k=>O k=aa (.ask i)) a/\(X.cl i).put=a.put/\(X.cl i).text=Yc m.texts i/\(X.cl i).cfg=a.config/\(X.cl i).fr=m.since.getD i 0:=by have:=hp.ask i hi;rw[ha]at this;exact this
 have c0:w.cell? ⟨h,1+i*5,N⟩=aa (.pointer (aa ⟨b,0,N⟩)):=by have:=(Yx hp.blk hi).1;rw[d0]at this;exact this
 obtain⟨U,Z,tx,f,d1,d2⟩:∃U Z tx f,(if a.st=.done/\a.found=av then Value.tuple #[.agg #[.int .i64 a.tag.1,.int .i64 a.tag.2],.string a.text,.bool av]else .tuple #[.agg #[.int .i64 0,.int .i64 0],.string ⟨#[]⟩,.bool F])=.tuple #[.agg #[.int .i64 U,.int .i64 Z],.string tx,.bool f]/\lY m i a=⟨i,a.put,f,(U,Z),tx,m.since.getD i 0,m.aA⟩:=by
  cases hf:a.found with
  |true=>exact⟨_,_,_,_,if_pos ⟨hs,rfl⟩,by unfold lY;rw[hf];rfl⟩
  |false=>exact⟨_,_,_,_,if_neg (fun h=>by cases h.2),by unfold lY;rw[hf];rfl⟩
 have d3:ae prog 91 #[.pointer (aa ⟨b,0,N⟩)] w fun e w'=>e=.returned (.tuple #[.agg #[.int .i64 U,.int .i64 Z],.string tx,.bool f])/\Hid (ab w.heap.size w w'):=(AR a2).mono fun e w' hq=>⟨by rw[<-d1];exact hq.1,hq.2⟩
 obtain⟨ev,b2⟩:∃ev:Ev,ev=⟨i,a.put,f,(U,Z),tx,m.since.getD i 0,m.aA⟩:=⟨_,rfl⟩;obtain⟨p,c,b3,_⟩:=hp.bV.form;have a9:=hp.aW.2.2;have b4:Hid (∀J W,ab w.heap.size w J->ab J.heap.size J W->W.cell? ⟨h,42,N⟩=aa (.slice p m.events.length c)/\W.cell? ⟨h,1+i*5+1,N⟩=aa (.bool a.put)/\W.cell? ⟨h,1+i*5+4,N⟩=aa (.int .i64 (m.since.getD i 0))/\W.cell? ⟨h,41,N⟩=aa (.int .i64 m.aA)):=fun J W h1 h2=>by
  have hq:=(hp.below (h1.trans (h2.mono h1.size))).blk;refine⟨by rw[<-b3];exact(Xa hq 42).1,by have:=(Yx hq hi).2.1;rw[a6]at this;exact this,by have:=(Yx hq hi).2.2.2.2;rw[a7]at this;exact this,by rw[<-a9];exact(Xa hq 41).1⟩
 have d4:Hid (∀H W tb,ab w.heap.size w H->w.heap.size<=tb->H.heap[tb]?=aa (.cells #[.int .i64 U,.int .i64 Z] 43 (0,0))->W=(H.alloc (.cells #[.int .i64 (i:Int),.bool a.put,.bool f,.int .i64 U,.int .i64 Z,.string tx,.int .i64 (m.since.getD i 0),.int .i64 m.aA] 47)).drew->∃p' n' c' w3,(∀ty,(Builtin.append_ #[40,40] ty #[.slice p m.events.length c,.slice (aa ⟨H.heap.size,0,N⟩) 1 1]).run prog W=.ok (.slice p' n' c') w3)/\(∃v0,w3.cell? ⟨h,42,N⟩=aa v0)/\w3.frozen? ⟨h,42,N⟩=F/\(∀V,V=w3∨V=w3.setCell ⟨h,42,N⟩ (.slice p' n' c')->(V.cell? ⟨h,1+i*5+1,N⟩=aa (.bool a.put)/\V.cell? ⟨h,1+i*5+4,N⟩=aa (.int .i64 (m.since.getD i 0))/\V.cell? ⟨h,41,N⟩=aa (.int .i64 m.aA)/\V.cell? ⟨tb,0,N⟩=aa (.int .i64 U)/\V.cell? ⟨tb,1,N⟩=aa (.int .i64 Z)))/\Hid (∃O' v',Ye (w3.setCell ⟨h,42,N⟩ (.slice p' n' c')) B h O' {m with events:=m.events++ [lY m i a]} {X with ve:=v'} ml nb hn/\Yd (fun k=>O k≠N) (fun k=>O' k≠N) w (w3.setCell ⟨h,42,N⟩ (.slice p' n' c')))):=fun H W tb a3 g0 d5 hW=>by
  have b5:ab H.heap.size H W:=by rw[hW];exact(bR.alloc nR _).drew
  have d6:W.heap[H.heap.size]?=aa (.cells #[.int .i64 (i:Int),.bool a.put,.bool f,.int .i64 U,.int .i64 Z,.string tx,.int .i64 (m.since.getD i 0),.int .i64 m.aA] 47 (0,0)):=by
   rw[hW];show(H.heap.push _)[H.heap.size]?=_;simp
  have d7:=a3.trans (b5.mono a3.size);have a0:=hp.below d7;have f3:Ql XI W (aa ⟨H.heap.size,0,N⟩) [ev]:=ak ⟨H.heap.size,0,rfl,(ai.1 d6).1,fun j x hx jj u hu=>by
   obtain rfl:j=0:=by
    rcases j with _|j
    ·rfl
    ·simp at hx
   obtain rfl:ev=x:=by simpa using hx
   rw[Nat.zero_mul,Nat.add_zero,Nat.zero_add,(Xa d6 jj).1];rw[b2]at hu;rw[List.getElem?_toArray];exact hu⟩
  obtain⟨v',w3,g1,g2,g3,g4⟩:=vX (w:=W) (E:=XI) 40 47 _ 64 underlying40 DC rfl B X.ve m.events a0.bV (aa ⟨H.heap.size,0,N⟩) [ev] 1 f3 (fun e=>by cases e) (by show m.events.length+1<=_;unfold maxLen;omega) (by show(m.events.length+1)*64<=_;omega) a0.base;obtain⟨p',c',f4,_⟩:=g2.form;obtain⟨O3,d8,f5⟩:=a0.rT g2 g3 g4;have f6:X.ve.ownBlock≠aa h:=fun e=>by have:=a0.cS h e;rw[a0.self]at this;cases this
  have b6:=g3.block h a0.lt (fun e=>f6 e.symm);rw[b3]at g1;subst f4;refine⟨p',(m.events++ [ev]).length,c',w3,g1,⟨_,(aj (a:=⟨h,42,N⟩) b6).trans (a0.cell 42).1⟩,(ao (a:=⟨h,42,N⟩) b6).trans (a0.cell 42).2,fun V hV=>?_,O3,.slice p' (m.events++ [ev]).length c',?_,(Yd.aJ d7).trans' f5⟩
  ·have d9:tb<H.heap.size:=(ai.1 d5).1;have b7:=(g3.block tb (ag d9 b5.size) (fun e=>by have:=(hp.aO tb _ (hp.cS tb e.symm)).2;omega)).trans ((b5.block tb d9).trans d5);have f7:tb≠h:=by have:=hp.lt;omega
   rcases hV with rfl|rfl
   ·have hq:V.heap[h]?=aa (.cells (Zi X) 74 (0,0)):=b6.trans a0.blk;exact⟨by have:=(Yx hq hi).2.1;rw[a6]at this;exact this,by have:=(Yx hq hi).2.2.2.2;rw[a7]at this;exact this,by rw[<-a9];exact(Xa hq 41).1,(Xa b7 0).1,(Xa b7 1).1⟩
   ·have hq:=d8.blk;have e0:=(ah w3 ⟨h,42,N⟩ (.slice p' (m.events++ [ev]).length c') tb f7).trans b7;exact⟨by have:=(Yx hq hi).2.1;rw[show({X with ve:=.slice p' (m.events++ [ev]).length c'}:WB).cl=X.cl from rfl,a6]at this;exact this,by have:=(Yx hq hi).2.2.2.2;rw[show({X with ve:=.slice p' (m.events++ [ev]).length c'}:WB).cl=X.cl from rfl,a7]at this;exact this,by rw[<-a9];exact(Xa hq 41).1,(Xa e0 0).1,(Xa e0 1).1⟩
  ·rw[d2,<-b2];exact d8
 have z1:(0:Int)<=(i:Int):=by omega
 have z2:(i:Int)<6:=by omega
 have e1:Hid (∀W,(∃O' v',Ye W B h O' {m with events:=m.events++ [lY m i a]} {X with ve:=v'} ml nb hn/\Yd (fun k=>O k≠N) (fun k=>O' k≠N) w W)->∃O' v',Ye W B h O' {m with events:=m.events++ [lY m i a]} {X with ve:=v'} ml nb hn/\Yd (fun k=>O k≠N) (fun k=>O' k≠N) w W):=fun _ h=>h
 clear hp d0 a2 a6 e8 e9 a7 d1 d2 b2 b3 a9 ha hs f9;generalize m.since.getD i 0=fr at *;generalize m.aA=dl at *;generalize m.events.length=en at *;generalize a.put=pu at *;go_enter func71,ntmps71;go_wp2_with fail
 refine d3.mono ?_;rintro e J ⟨rfl,a4⟩;obtain⟨H,a3⟩:=Xb (J.alloc (.cells #[.int .i64 U,.int .i64 Z] 43));have a2:ab J.heap.size J H:=by rw[a3];exact bR.alloc nR _
 have a5:H.heap[J.heap.size]?=aa (.cells #[.int .i64 U,.int .i64 Z] 43 (0,0)):=by
  rw[a3];show(J.heap.push _)[J.heap.size]?=_;simp
 have f8:Hid _:=a3;have b0:=(Xa a5 0).1;have b1:=(Xa a5 1).1;obtain⟨q0,q1,q2,q3⟩:=b4.out J H a4.out a2;obtain⟨r0,_⟩:=b4.out J (H.alloc (.cells #[.int .i64 (i:Int),.bool pu,.bool f,.int .i64 U,.int .i64 Z,.string tx,.int .i64 fr,.int .i64 dl] 47)) a4.out (a2.trans ((bR.alloc nR _).mono a2.size));obtain⟨p',n',c',w3,e2,⟨v3,u3⟩,u4,b8,e3⟩:=d4.out H _ J.heap.size (a4.out.trans (a2.mono a4.out.size)) a4.out.size a5 rfl;have e4:=b8 w3 (au rfl);have e5:=b8 _ (ak rfl);have e6:H.drew.cell? ⟨h,1+i*5+1,N⟩=aa (.bool pu)/\H.drew.cell? ⟨h,1+i*5+4,N⟩=aa (.int .i64 fr)/\H.drew.cell? ⟨h,41,N⟩=aa (.int .i64 dl)/\H.drew.cell? ⟨J.heap.size,0,N⟩=aa (.int .i64 U)/\H.drew.cell? ⟨J.heap.size,1,N⟩=aa (.int .i64 Z):=⟨q1,q2,q3,b0,b1⟩;have c8:(H.alloc (.cells #[.int .i64 (i:Int),.bool pu,.bool f,.int .i64 U,.int .i64 Z,.string tx,.int .i64 fr,.int .i64 dl] 47)).drew.cell? ⟨h,1+i*5+1,N⟩=aa (.bool pu)/\(H.alloc (.cells #[.int .i64 (i:Int),.bool pu,.bool f,.int .i64 U,.int .i64 Z,.string tx,.int .i64 fr,.int .i64 dl] 47)).drew.cell? ⟨h,1+i*5+4,N⟩=aa (.int .i64 fr)/\(H.alloc (.cells #[.int .i64 (i:Int),.bool pu,.bool f,.int .i64 U,.int .i64 Z,.string tx,.int .i64 fr,.int .i64 dl] 47)).drew.cell? ⟨h,41,N⟩=aa (.int .i64 dl)/\(H.alloc (.cells #[.int .i64 (i:Int),.bool pu,.bool f,.int .i64 U,.int .i64 Z,.string tx,.int .i64 fr,.int .i64 dl] 47)).drew.cell? ⟨J.heap.size,0,N⟩=aa (.int .i64 U)/\(H.alloc (.cells #[.int .i64 (i:Int),.bool pu,.bool f,.int .i64 U,.int .i64 Z,.string tx,.int .i64 fr,.int .i64 dl] 47)).drew.cell? ⟨J.heap.size,1,N⟩=aa (.int .i64 Z):=by
  have hb:=(al H.heap.size H).alloc nR (.cells #[.int .i64 (i:Int),.bool pu,.bool f,.int .i64 U,.int .i64 Z,.string tx,.int .i64 fr,.int .i64 dl] 47);have e7:=(ai.1 a5).1;have hl:=uU q0;exact⟨(hb.cell (p:=⟨h,1+i*5+1,N⟩) hl).trans q1,(hb.cell (p:=⟨h,1+i*5+4,N⟩) hl).trans q2,(hb.cell (p:=⟨h,41,N⟩) hl).trans q3,(hb.cell (p:=⟨J.heap.size,0,N⟩) e7).trans b0,(hb.cell (p:=⟨J.heap.size,1,N⟩) e7).trans b1⟩
 clear b8;clear a5 a3 a2 b4 d4 d3 a4 c0;go_wp2_with (rw[<-f8.out])
 refine wp_region_held_drew (S:=fun W=>(W.cell? ⟨h,1+i*5+1,N⟩=aa (.bool pu)/\W.cell? ⟨h,1+i*5+4,N⟩=aa (.int .i64 fr)/\W.cell? ⟨h,41,N⟩=aa (.int .i64 dl)/\W.cell? ⟨J.heap.size,0,N⟩=aa (.int .i64 U)/\W.cell? ⟨J.heap.size,1,N⟩=aa (.int .i64 Z))) (by kernel_rfl) e6 (fun D=>?_);refine tk 0 _ D ?_;refine tk 1 _ D ?_;refine tk 2 _ D ?_;refine tk 3 _ D ?_;refine tk 5 _ D ?_;refine tk 6 _ D ?_;refine tk 7 _ D ?_;refine tk 8 _ D ?_;refine tk 9 _ D ?_;refine tk 10 _ D ?_;refine tk 11 _ D ?_;refine tk 12 _ D ?_;refine tk 13 _ D ?_;refine tk 14 _ D ?_;refine tk 15 _ D ?_;refine tk 16 _ D ?_;refine tk 17 _ D ?_;refine tk 18 _ D ?_;refine tk 19 _ D ?_;refine tk 20 _ D ?_;refine tk 21 _ D ?_;refine tk 22 _ D ?_;simp only[ap,sA,sZ,sS];refine rdy 4 [23] _ (fun K I=>?_) ?_
 ·skip
  go_simp;refine I.out _ _ e6 (fun D=>?_);clear I K;try simp only[ap,sA,sZ,sS]
  refine rdy 23 [] _ (fun K I=>?_) am;go_simp;refine I.out _ _ c8 (fun D=>?_);clear I K;try simp only[ap,sA,sZ,sS]
  refine rdy 24 [] _ (fun K I=>?_) am;refine XU rfl (.tmp 26) (.tmp 45) 40 40 rfl _ _ (by first|(simp[Act.eval];done)|(simp[Act.eval,Act.put];done)) (by first|(simp[Act.eval];done)|(simp[Act.eval,Act.put];done)) (fun ty=>e2 ty) ?_;refine I.out _ _ e4 (fun D=>?_);clear I K;try simp only[ap,sA,sZ,sS]
  refine tk 25 _ D ?_;refine tk 26 _ D ?_;simp only[ap,sA,sZ,sS];refine rdy 27 [] _ (fun K I=>?_) am;go_simp;refine I.out _ _ e5 (fun D=>?_);clear I K;try simp only[ap,sA,sZ,sS]
  refine wpAnyH_done (by kernel_rfl) ?_ _;go_wp2_with fail
  go_end0
  exact⟨rfl,e1.out _ e3.out⟩
 ·refine AllReadyH.cons (o:=⟨aa 45,.buildSlice 40 1 #[(0,.tmp 44)],40, "client.go:88",#[⟨22,.data⟩],N⟩) rfl (fun K I=>?_) am;go_simp;refine I.out _ _ c8 (fun D=>?_);clear I K;try simp only[ap,sA,sZ,sS]
  refine rdy 4 [] _ (fun K I=>?_) am;go_simp;refine I.out _ _ c8 (fun D=>?_);clear I K;try simp only[ap,sA,sZ,sS]
  refine rdy 24 [] _ (fun K I=>?_) am;refine XU rfl (.tmp 26) (.tmp 45) 40 40 rfl _ _ (by first|(simp[Act.eval];done)|(simp[Act.eval,Act.put];done)) (by first|(simp[Act.eval];done)|(simp[Act.eval,Act.put];done)) (fun ty=>e2 ty) ?_;refine I.out _ _ e4 (fun D=>?_);clear I K;try simp only[ap,sA,sZ,sS]
  refine tk 25 _ D ?_;refine tk 26 _ D ?_;simp only[ap,sA,sZ,sS];refine rdy 27 [] _ (fun K I=>?_) am;go_simp;refine I.out _ _ e5 (fun D=>?_);clear I K;try simp only[ap,sA,sZ,sS]
  refine wpAnyH_done (by kernel_rfl) ?_ _;go_wp2_with fail
  go_end0
  exact⟨rfl,e1.out _ e3.out⟩
end
end
section
section
variable {w w':World} {B h:Nat} {O O':Nat->Option Whose} {m:Ya} {X:WB} {ml:List (Zb×Lv)} {nb hn:Nat->Nat} {n k:Nat} {ad:Nat->zb}
theorem Ye.ended (H:Ye w B h O m X ml nb hn)(I:Yp h w w')(Z:i<m.asks.length)(a2:w'.heap[h]?=aa (.cells (Zi {X with cl:=JA X.cl i c}) 74 (0,0)))(hc:c.p=N):∃O',Ye w' B h O' {m with asks:=m.asks.set i N} {X with cl:=JA X.cl i c} ml nb hn/\Yd (fun k=>O k≠N) (fun k=>O' k≠N) w w':=by
 have K:Yd (fun k=>O k=aa (.ask i)∨O k=aa .self) (fun _=>False) w w':=⟨I.os,I.tape,I.output,I.size,fun k D a0=>I.cW k D (fun e=>a0 (ak (e▸H.self))),fun k D=>D.elim⟩;have U:=Qv.of (t:=.ask i) (fun e=>by cases e) H.aO H.base K (fun k D=>D.elim) (fun k D=>D.elim);refine⟨_,{H.toXJ.gH (m':={m with asks:=m.asks.set i N}) (X':={X with cl:=JA X.cl i c}) U rfl rfl rfl rfl (fun j _ J=>⟨by show Xf (m.asks.set i N) j=_;rw[ZZ Z,if_neg J],rfl,rfl⟩) rfl rfl rfl rfl rfl rfl (fun j J=>yF _ _ J) (fun _=>?_)with blk:=a2,self:=(U.same .self h (fun e=>by cases e) (fun e=>by cases e)).2 H.self,cV:=H.cV,dF:=H.dF,aW:=H.aW},QM K (fun k D=>D.elim)⟩;show kA _ _ _ _ (Xf (m.asks.set i N) i) (JA X.cl i c i) _ _;rw[ZZ Z,if_pos rfl,YZ];exact hc
theorem Jqr (I:Ye w B h O m X ml nb hn)(hz:WZ n k m)(hi:i<6)(ha:Xf m.asks i=aa a)(hL:Jn w x)(hx:YF x.1)(hE:Yi ad w O):∃b,(∀W O2 m2 J a0,Ye W B h O2 m2 J a0 nb hn->J.cl=X.cl->W.cell? ⟨h,1+i*5,N⟩=aa (.pointer (aa ⟨b,0,N⟩)))/\∀W,ab w.heap.size w W->ae prog 70 #[.pointer (aa ⟨b,0,N⟩),Z1 x.1 (fI x.2)] W fun e w'=>∃p c,e=.returned (.slice p (a.aD x.1).2.length c)/\∃H,Ye w' B h H {m with asks:=m.asks.set i (aa (a.aD x.1).1)} X ml nb hn/\Qp c (fun b=>H b=aa .bD) w' p (a.aD x.1).2/\Yd (fun k=>O k≠N) (fun k=>H k≠N) w w'/\∀k,w.heap.size<=k->k<W.heap.size->w'.heap[k]?=W.heap[k]?:=by
 obtain⟨b,a2,a3,a4,a5,a6,a7⟩:∃b,(X.cl i).p=aa b/\Qw w B b (fun k=>O k=aa (.ask i)) a/\(X.cl i).put=a.put/\(X.cl i).text=Yc m.texts i/\(X.cl i).cfg=a.config/\(X.cl i).fr=m.since.getD i 0:=by have:=I.ask i hi;rw[ha]at this;exact this
 obtain⟨a9,b0,_⟩:=hz.asks i a ha;obtain⟨s1,s2,s3⟩:=zX x.1 b0;refine⟨b,fun W O2 m2 J a0 K he=>by have:=(Yx K.blk hi).1;rw[he,a2]at this;exact this,fun W D=>?_⟩;have b1:=I.below D;refine(EK ad (a3.dA D.size (fun k U=>D.block k (I.aO k _ U).2)) x (hL.below D) (a9.small hx) (fun v hv=>(hx.cM v hv).1) (fun V hs U=>?_)).mono fun e w' K=>?_
 ·have:=(hE.below D) V hs (fun k b2 b3=>U k b2 (fun e=>by have e:O k=aa (.ask i):=e;rw[b3]at e;cases e));exact⟨this.q,this.x.1⟩
 ·obtain⟨S',⟨p,c,e1,e2⟩,e3,e4⟩:=K;obtain⟨H,g1,g2,g3,g4⟩:=b1.asked hi a2 e3 e4 (by rw[s3];exact a4) a5 (by rw[s2];exact a6) a7 hz.la;exact⟨p,c,e1,H,g1,e2.mono (fun b Z=>g3 b Z.1 Z.2.1 Z.2.2),(Yd.aJ D).trans' g4,fun k h1 h2=>e4.block k h2 (fun e=>by have e:O k=aa (.ask i):=e;have:=(I.aO k _ e).2;omega)⟩
theorem I7 (h:XA a){x:Zb}(hx:YF x)(hc:a.config<=999):(a.aD x).2.length<=12:=by
 obtain⟨D,_⟩:=h.aD hx hc;have H:∀b:Za,XA b->(b.send JJ av).length<=12:=fun b I=>by
  obtain⟨⟨_,_,h3⟩,h4,_⟩:=Xm I.aN.cfg;rw[zT];omega
 unfold Za.aD at D ⊢;split
 ·exact aq _
 ·rename_i J;rw[if_neg J]at D;split
  ·exact aq _
  ·rename_i K;rw[if_neg K]at D;split
   ·exact aq _
   ·rename_i U;rw[if_neg U]at D;split
    ·exact aq _
    ·rename_i Z;rw[if_neg Z]at D;split
     ·exact aq _
     ·rename_i n5;rw[if_neg n5]at D;exact H _ D
theorem Jl9 (hp:Ye w B h O m X ml nb hn)(hz:WZ n k m)(hi:i<6)(ha:Xf m.asks i=aa a)(hL:Jn w x)(hx:YF x.1)(hE:Yi ad w O)(h0:0<=m.ops)(h1:m.ops<=1152921504606846976)(h7:m.events.length<=1000000):
 ae prog 44 #[.pointer (aa ⟨h,0,N⟩),.int .i64 (i:Int),Z1 x.1 (fI x.2)] w fun e w'=>e=.returned (.tuple #[])/\Yj w B h O (m.aD i x.1) nb hn w':=by
 have h8:a.st≠.done->True:=fun _=>trivial
 obtain⟨b,d8,d9⟩:=Jqr hp hz hi ha hL hx hE;obtain⟨b4,e0,e7⟩:=hz.asks i a ha;obtain⟨e8,e9⟩:=b4.aD hx (by omega);obtain⟨s1,s2,s3⟩:=zX x.1 e0;obtain⟨m2,a2⟩:=Xb (Ya.send {m with asks:=m.asks.set i (aa (a.aD x.1).1)} (a.aD x.1).2);have f5:m.aD i x.1=m2.after i (a.aD x.1).1:=by unfold Ya.aD;rw[ha,a2]
 have f6:WZ n k {m with asks:=m.asks.set i (aa (a.aD x.1).1)}:=hz.asked (fun b hb=>by rw[<-Option.some.inj hb];exact⟨e8,s1,by rw[s2];exact e7⟩);have b5:WZ n k m2:=by rw[a2];exact f6.send e9
 have a9:Xf m2.asks i=aa (a.aD x.1).1:=by rw[a2];show Xf (m.asks.set i _) i=_;rw[ZZ (by rw[hz.la];exact hi),if_pos rfl]
 have b6:(a.aD x.1).2.length<=12:=I7 b4 hx (by omega);rw[f5];obtain⟨a1,b0⟩:=Xb ((a.aD x.1).1);rw[<-b0]at a9 ⊢;obtain⟨⟨K,U,Z,x3,x4,x5,x6,xL⟩,lp,ln,lc⟩:=x
 replace b6:(a.aD ⟨K,U,Z,x3,x4,x5,x6,xL⟩).2.length<=12:=b6
 obtain⟨w1,b1⟩:=Xb (w.alloc (.cells #[.string K,.string U,.string Z,.string x3,.int .i64 x4,.int .i64 x5,.bool x6,.slice lp ln lc] 81));have a5:=Zk b1;have b7:w1.heap[w.z]?=aa (.cells #[.string K,.string U,.string Z,.string x3,.int .i64 x4,.int .i64 x5,.bool x6,.slice lp ln lc] 81 (0,0)):=by
  rw[b1];show(w.heap.push _)[w.z]?=_;simp
 have f7:ae prog 35 #[.pointer (aa (pA h (1+i*5)))] w1 fun e w'=>e=.returned (.string a.st.word)/\Hid (ab w1.z w1 w'):=(XV (hp.below a5) hi).mono fun e w' J=>⟨by rw[J.1,ha];rfl,J.2⟩
 have h9:¬a.st.word.toList=[105,100,108,101]/\(a.st.word.toList==[105,100,108,101])=false:=by
  generalize a.st=st;cases st<;>exact⟨by decide +kernel,by decide +kernel⟩
 obtain⟨k4,k5⟩:=h9;have f8:Hid (∀W,ab w1.z w1 W->(W.cell? (pA h (1+i*5))=aa (.pointer (aa (pA b 0)))/\W.cell? (pA w.z 0)=aa (.string K)/\W.cell? (pA w.z 1)=aa (.string U)/\W.cell? (pA w.z 2)=aa (.string Z)/\W.cell? (pA w.z 3)=aa (.string x3)/\W.cell? (pA w.z 4)=aa (.int .i64 x4)/\W.cell? (pA w.z 5)=aa (.int .i64 x5)/\W.cell? (pA w.z 6)=aa (.bool x6)/\W.cell? (pA w.z 7)=aa (.slice lp ln lc))):=fun W hW=>by
  have a3:=(hW.block _ (ai.1 b7).1).trans b7;exact⟨d8 _ _ _ _ _ (hp.below (a5.trans (hW.mono a5.size))) rfl,(Xa a3 0).1,(Xa a3 1).1,(Xa a3 2).1,(Xa a3 3).1,(Xa a3 4).1,(Xa a3 5).1,(Xa a3 6).1,(Xa a3 7).1⟩
 have f9:Hid (∀W,ab w1.z w1 W->ae prog 70 #[.pointer (aa (pA b 0)),.agg #[.string K,.string U,.string Z,.string x3,.int .i64 x4,.int .i64 x5,.bool x6,.slice lp ln lc]] W fun e w'=>∃p c,e=.returned (.slice p (a.aD ⟨K,U,Z,x3,x4,x5,x6,xL⟩).2.length c)/\Hid (∃O1,Ye w' B h O1 {m with asks:=m.asks.set i (aa (a.aD ⟨K,U,Z,x3,x4,x5,x6,xL⟩).1)} X ml nb hn/\Qp c (fun b=>O1 b=aa .bD) w' p (a.aD ⟨K,U,Z,x3,x4,x5,x6,xL⟩).2/\Yd (fun k=>O k≠N) (fun k=>O1 k≠N) w w')):=fun W hW=>(d9 W (a5.trans (hW.mono a5.size))).mono fun e w' J=>by
  obtain⟨p,c,e1,O1,e2,e3,e4,e5⟩:=J;exact⟨p,c,e1,O1,e2,e3,e4⟩
 have g0:Hid (∀W p c,Hid (∃O1,Ye W B h O1 {m with asks:=m.asks.set i (aa (a.aD ⟨K,U,Z,x3,x4,x5,x6,xL⟩).1)} X ml nb hn/\Qp c (fun b=>O1 b=aa .bD) W p (a.aD ⟨K,U,Z,x3,x4,x5,x6,xL⟩).2/\Yd (fun k=>O k≠N) (fun k=>O1 k≠N) w W)->ae prog 36 #[.pointer (aa (pA h 0)),.slice p (a.aD ⟨K,U,Z,x3,x4,x5,x6,xL⟩).2.length c] W fun e w'=>e=.returned (.tuple #[])/\Hid (∃D H I,Ye w' B h D m2 H I nb hn/\H.cl=X.cl/\Yd (fun k=>O k≠N) (fun k=>D k≠N) w w')):=fun W p c hM=>by
  obtain⟨O1,i0,i1,i2⟩:=hM.out;refine(oS i0 hz.bO (by omega) i1).mono fun e w' J=>?_
  obtain⟨e1,O6,v6,i3,g3,_,i4⟩:=J;rw[<-a2]at g3;exact⟨e1,O6,_,i3,g3,rfl,i2.trans' i4⟩
 have g4:Hid (∀W D H I,Ye W B h D m2 H I nb hn->ae prog 35 #[.pointer (aa (pA h (1+i*5)))] W fun e w'=>e=.returned (.string a1.st.word)/\Hid (ab W.z W w')):=fun W D H I J=>(XV J hi).mono fun e w' J=>⟨by rw[J.1,a9];rfl,J.2⟩
 have z1:(0:Int)<=(i:Int):=by omega
 have z2:(i:Int)<6:=by omega
 have i5:Hid (w1=w.alloc (.cells #[.string K,.string U,.string Z,.string x3,.int .i64 x4,.int .i64 x5,.bool x6,.slice lp ln lc] 81)):=b1;have i8:∃b,(X.cl i).p=aa b/\Qw w B b (fun k=>O k=aa (.ask i)) a/\(X.cl i).put=a.put/\(X.cl i).text=Yc m.texts i/\(X.cl i).cfg=a.config/\(X.cl i).fr=m.since.getD i 0:=by have:=hp.ask i hi;rw[ha]at this;exact this
 obtain⟨_,_,_,y3,y4,y5,y6⟩:=i8;have e5:a1.config=a.config:=by rw[b0];exact s2
 have e6:a1.put=a.put:=by rw[b0];exact s3
 have a6:Hid (∀W D H I,Ye W B h D m2 H I nb hn->H.cl=X.cl->W.cell? (pA h (1+i*5+2+1))=aa (.int .i64 a1.config)/\W.cell? (pA h 39)=aa (.int .i64 (m.aC:Int))):=fun W D H I J he=>by
  refine⟨by have:=(Yx J.blk hi).2.2.2.1;rw[he,y5]at this;rw[e5];exact this,?_⟩;have:=(Xa J.blk 39).1;rw[show(m.aC:Int)=H.act by rw[J.aW.1,a2];rfl];exact this
 have b8:∀m3,m2.after i a1=m3->m3=m2->∀W D H I,Ye W B h D m2 H I nb hn->Yd (fun k=>O k≠N) (fun k=>D k≠N) w W->Yj w B h O (m2.after i a1) nb hn W:=fun m3 e1 e2 W D H I g1 g2=>by rw[e1,e2];exact⟨D,H,I,g1,g2⟩
 have a7:Hid ((((¬a1.st.word.toList=[100,111,110,101]/\(a1.st.word.toList==[100,111,110,101])=F)/\¬a1.st.word.toList=[114,101,102,117,115,101,100]/\(a1.st.word.toList==[114,101,102,117,115,101,100])=F)/\∀W D H I,Ye W B h D m2 H I nb hn->Yd (fun k=>O k≠N) (fun k=>D k≠N) w W->Yj w B h O (m2.after i a1) nb hn W)∨(a1.st.word=⟨#[100,111,110,101]⟩/\∀W D H I,Ye W B h D m2 H I nb hn->Yd (fun k=>O k≠N) (fun k=>D k≠N) w W->ae prog 71 #[.pointer (aa (pA h 0)),.int .i64 (i:Int)] W fun e w'=>e=.returned (.tuple #[])/\∃X3,w'.heap[h]?=aa (.cells (Zi X3) 74 (0,0))/\Hid (∀V,V=lA w' h i ⟨N,F,⟨#[]⟩,0,0⟩->Yj w B h O (m2.after i a1) nb hn V))∨(a1.st.word=⟨#[114,101,102,117,115,101,100]⟩/\decide (a1.config<(m.aC:Int))=F/\¬a1.config<(m.aC:Int)/\∀W D H I,Ye W B h D m2 H I nb hn->Yd (fun k=>O k≠N) (fun k=>D k≠N) w W->Yj w B h O (m2.after i a1) nb hn W)∨(a1.st.word=⟨#[114,101,102,117,115,101,100]⟩/\decide (a1.config<(m.aC:Int))=av/\a1.config<(m.aC:Int)/\∀W D H I,Ye W B h D m2 H I nb hn->H.cl=X.cl->Yd (fun k=>O k≠N) (fun k=>D k≠N) w W->ae prog 38 #[.pointer (aa (pA h 0)),.int .i64 (i:Int)] W fun e w'=>e=.returned (.tuple #[])/\Hid (Yj w B h O (m2.after i a1) nb hn w'))):=by
  by_cases hs:a1.st=.done
  ·refine ak (au ⟨by rw[hs];rfl,fun W D H I J hu=>(Jsb J hi a9 hs (by rw[a2];exact h7)).mono fun e w' d0=>by
    obtain⟨q1,O3,v3,q2,q3⟩:=d0;refine⟨q1,_,q2.blk,fun V hV=>?_⟩;obtain⟨O4,g1,g2⟩:=q2.ended (CI (Yp.refl h w') i ⟨N,F,⟨#[]⟩,0,0⟩) (by show i<m2.asks.length;rw[b5.la];exact hi) (AM q2.blk hi _) rfl;have e:m2.after i a1={m2 with events:=m2.events++ [lY m2 i a1],asks:=m2.asks.set i N}:=by
     unfold Ya.after;rw[hs];rfl
    rw[e,hV];exact⟨O4,_,_,g1,(hu.trans' q3).trans' g2⟩⟩)
  ·by_cases hr:a1.st=.refused
   ·by_cases hc:a1.config<(m.aC:Int)
    ·have i9:m2.after i a1=m2.begin i a1.put:=by
      unfold Ya.after;rw[hr];exact if_pos (by rw[a2];exact hc)
     refine ak (ak (ak ⟨by rw[hr];rfl,decide_eq_true hc,hc,fun W D H I J he hu=>(zG J b5 hi (put:=a1.put) (by rw[he,y3,e6]) (by rw[he,y4,a2];rfl) (by rw[he,y6,a2];rfl) (by rw[a2];exact h0) (by rw[a2];exact h1) (hE.next hu).o).mono fun e w' d0=>by
      obtain⟨q1,O4,X4,j1,q2,q3⟩:=d0;rw[i9];exact⟨q1,O4,X4,j1,q2,hu.trans' q3⟩⟩))
    ·refine ak (ak (au ⟨by rw[hr];rfl,decide_eq_false hc,hc,b8 m2 ?_ rfl⟩));unfold Ya.after;rw[hr];exact if_neg (by rw[a2];exact hc)
   ·have h1:=qT (o:=aa a1) (st:=.done) (fun b hb e=>hs (by rw[Option.some.inj hb];exact e)) (ak (ak rfl));rw[IU]at h1;have h2:=qT (o:=aa a1) (st:=.refused) (fun b hb e=>hr (by rw[Option.some.inj hb];exact e)) (ak (au rfl));rw[CW]at h2;refine au ⟨⟨h1,h2⟩,b8 m2 ?_ rfl⟩;unfold Ya.after;split
    ·rename_i e;exact absurd e hs
    ·rename_i e;exact absurd e hr
    ·rfl
 clear b8;generalize a1.config=ac at *;generalize (m.aC:Int)=k6 at *;generalize Yj w B h O (m2.after i a1) nb hn=G at *;generalize a1.st.word=k7 at *;generalize (a.aD ⟨K,U,Z,x3,x4,x5,x6,xL⟩).2.length=rl at *;generalize a.st.word=sw at *;clear hp hz ha hL hx hE d8 d9 b4 e0 e7 e8 e9 s1 s2 s3 a2 f5 f6 b5 a9 b6 b1 a5 b7 b0 h8 h0 h1 h7 y3 y4 y5 y6 e5 e6;show ae prog 44 #[.pointer (aa (pA h 0)),.int .i64 (i:Int),.agg #[.string K,.string U,.string Z,.string x3,.int .i64 x4,.int .i64 x5,.bool x6,.slice lp ln lc]] w _;go_enter func44,ntmps44;go_wp2_with (rw[<-i5.out])
 refine f7.mono ?_;rintro e w3 ⟨rfl,d3⟩;obtain⟨c0,c1,c2,c3,c4,c5,c6,c7,c8⟩:=f8.out w3 d3.out;have g5:=f9.out w3.drew d3.out.drew;have g6:Hid (ae prog 70 #[.pointer (aa (pA b 0)),.agg #[.string K,.string U,.string Z,.string x3,.int .i64 x4,.int .i64 x5,.bool x6,.slice lp ln lc]] w3.drew _):=g5;clear g5 f9 f8 f7 d3;go_wp2;go_cut []from 15 to 24 (fun W=>∃D H I,Ye W B h D m2 H I nb hn/\H.cl=X.cl/\Yd (fun k=>O k≠N) (fun k=>D k≠N) w W)
 case first =>
  go_region_law (first|(go_simp;go_at_call 70;refine g6.out.mono ?_;rintro e w5 ⟨p5,d5,rfl,j2⟩;go_simp)|(go_simp;go_at_call 36;refine(g0.out w5 p5 d5 j2).mono ?_;rintro e w6 ⟨rfl,k0⟩;go_simp))
  all_goals (go_wp2_with fail;go_meet)
  all_goals exact k0.out
 case rest =>
  obtain⟨D,H,I,d4,g7,g8⟩:=hcut;have g9:=g4.out wc D H I d4;have b2:Hid (Ye wc B h D m2 H I nb hn/\H.cl=X.cl/\Yd (fun k=>O k≠N) (fun k=>D k≠N) w wc):=⟨d4,g7,g8⟩;clear d4 g7 g8 g4 c0 c1 c2 c3 c4 c5 c6 c7 c8 g6 g0;go_wp2_with fail
  refine g9.mono ?_;rintro e w7 ⟨rfl,d6⟩;have a0:Hid (Ye w7 B h D m2 H I nb hn/\H.cl=X.cl/\Yd (fun k=>O k≠N) (fun k=>D k≠N) w w7):=⟨b2.out.1.below d6.out,b2.out.2.1,b2.out.2.2.trans' (Yd.aJ d6.out)⟩;clear g9 b2 d6;rcases a7.out with⟨⟨⟨l0,l7⟩,l9,m0⟩,hg⟩|⟨rfl,hn⟩|⟨rfl,hd,k2,hg⟩|⟨rfl,hd,k2,hg⟩
  ·have HG:Hid (∀W D H I,Ye W B h D m2 H I nb hn->Yd (fun k=>O k≠N) (fun k=>D k≠N) w W->G W):=hg;clear hg a7 a6;go_wp2
   go_end0
   exact⟨rfl,HG.out _ _ _ _ a0.out.1 a0.out.2.2⟩
  ·have h3:=hn w7 D H I a0.out.1 a0.out.2.2;clear a0 hn a7 a6;go_wp2_with fail
   refine h3.mono ?_;rintro e w8 ⟨rfl,X3,a4,b3⟩;obtain⟨c0,c1,c2,c3,c4⟩:=Yx a4 hi;have f0:=(Xa a4 (1+i*5)).2;have f1:=(Xa a4 (1+i*5+1)).2;have f2:=(Xa a4 (1+i*5+2)).2;have f3:=(Xa a4 (1+i*5+3)).2;have f4:=(Xa a4 (1+i*5+4)).2;obtain⟨w9,d7⟩:=Xb (lA w8 h i ⟨N,F,⟨#[]⟩,0,0⟩);have h4:Hid (G w9):=b3.out w9 d7;have h5:Hid (w9=((((w8.setCell (pA h (1+i*5)) (.pointer N)).setCell (pA h (1+i*5+1)) (.bool F)).setCell (pA h (1+i*5+2)) (.string ⟨#[]⟩)).setCell (pA h (1+i*5+3)) (.int .i64 0)).setCell (pA h (1+i*5+4)) (.int .i64 0)):=d7;clear a4 b3 d7 h3;go_wp2_with (rw[<-h5.out])
   go_wp2;first|(rw[<-h5.out];go_end0;exact⟨rfl,h4.out⟩)|(go_end0;exact⟨rfl,h4.out⟩)
  ·have HG:Hid (∀W D H I,Ye W B h D m2 H I nb hn->Yd (fun k=>O k≠N) (fun k=>D k≠N) w W->G W):=hg;obtain⟨d1,d2⟩:=a6.out w7 D H I a0.out.1 a0.out.2.1;clear hg a7 a6;go_wp2;go_quiet (fail)
   go_wp2
   go_end0
   exact⟨rfl,HG.out _ _ _ _ (a0.out.1.below (ar (al w7.z w7) _)) (a0.out.2.2.trans' (Yd.aJ (ar (al w7.z w7) _)))⟩
  ·have h6:=hg;obtain⟨d1,d2⟩:=a6.out w7 D H I a0.out.1 a0.out.2.1;have k3:Hid (∀W D H I,Ye W B h D m2 H I nb hn->H.cl=X.cl->Yd (fun k=>O k≠N) (fun k=>D k≠N) w W->ae prog 38 #[.pointer (aa (pA h 0)),.int .i64 (i:Int)] W fun e w'=>e=.returned (.tuple #[])/\Hid (G w')):=h6;clear hg h6 a7 a6;go_wp2;go_quiet (fail)
   go_wp2_with fail
   refine(k3.out _ D H I (a0.out.1.below (ar (al w7.z w7) _)) a0.out.2.1 (a0.out.2.2.trans' (Yd.aJ (ar (al w7.z w7) _)))).mono ?_;rintro e w8 ⟨rfl,b3⟩;go_wp2
   go_end0
   exact⟨rfl,b3.out⟩
end
end
section
section
variable {w w':World} {B h:Nat} {O O':Nat->Option Whose} {m:Ya} {X:WB} {ml:List (Zb×Lv)} {nb hn:Nat->Nat} {n k:Nat} {ad:Nat->zb}
theorem Jmz (hp:Ye w B h O m X ml nb hn)(hi:i<6)(ha:Xf m.asks i=N)(x:Zb×Lv):
 ae prog 44 #[.pointer (aa ⟨h,0,N⟩),.int .i64 (i:Int),Z1 x.1 (fI x.2)] w fun e w'=>e=.returned (.tuple #[])/\Yj w B h O (m.aD i x.1) nb hn w':=by
 have a2:m.aD i x.1=m:=by unfold Ya.aD;rw[ha]
 rw[a2];obtain⟨⟨H,I,J,K,U,Z,x6,xL⟩,lp,ln,lc⟩:=x;obtain⟨w1,a0⟩:=Xb (w.alloc (.cells #[.string H,.string I,.string J,.string K,.int .i64 U,.int .i64 Z,.bool x6,.slice lp ln lc] 81));have D:=Zk a0;have a3:ae prog 35 #[.pointer (aa ⟨h,1+i*5,N⟩)] w1 fun e w'=>e=.returned (.string ⟨#[105,100,108,101]⟩)/\Hid (Yj w B h O m nb hn w'):=(XV (hp.below D) hi).mono fun e w' hq=>⟨by rw[hq.1,ha];rfl,Yj.here hp (D.trans (hq.2.mono D.size))⟩
 have a4:Hid (w1=w.alloc (.cells #[.string H,.string I,.string J,.string K,.int .i64 U,.int .i64 Z,.bool x6,.slice lp ln lc] 81)):=a0;have z1:(0:Int)<=(i:Int):=by omega
 have z2:(i:Int)<6:=by omega
 generalize Yj w B h O m nb hn=G at *;clear hp a0 D a2 ha;show ae prog 44 #[.pointer (aa ⟨h,0,N⟩),.int .i64 (i:Int),.agg #[.string H,.string I,.string J,.string K,.int .i64 U,.int .i64 Z,.bool x6,.slice lp ln lc]] w _;go_enter func44,ntmps44;go_wp2_with (rw[<-a4.out])
 refine a3.mono ?_;rintro e w3 ⟨rfl,HF⟩;go_wp2;refine bodyPost_ret (results_none rfl _ _ _) rfl ?_;exact⟨rfl,HF.out⟩
theorem WR (H:Ye w B h O m X ml nb hn)(J:WZ n k m)(I:i<6)(K:Jn w x)(U:YF x.1)(Z:Yi ad w O)(h0:0<=m.ops)(h1:m.ops<=1152921504606846976)(a0:m.events.length<=1000000):
 ae prog 44 #[.pointer (aa ⟨h,0,N⟩),.int .i64 (i:Int),Z1 x.1 (fI x.2)] w fun e w'=>e=.returned (.tuple #[])/\Yj w B h O (m.aD i x.1) nb hn w':=by
 cases D:Xf m.asks i with
 |none=>exact Jmz H I D x
 |some a =>
  exact Jl9 H J I D K U Z h0 h1 a0
end
end
theorem wN {a b:BA}(h:a.toList=b.toList):a=b:=by
 rw[ByteArray.toList_eq,ByteArray.toList_eq]at h;exact ByteArray.ext (Array.toList_inj.1 h)
def gM (s:BA):Int:=match YN s with|some i=>(i:Int)|none=>-1
theorem WI (D:i<6)(H:s=QW i)(I:∀j,j<i->s≠QW j):YN s=aa i:=by
 unfold YN;rw[List.find?_eq_some_iff_getElem];refine⟨decide_eq_true H,i,by simpa using D,by simp,fun j B=>?_⟩;simp only[List.getElem_range,Bool.not_eq_true',decide_eq_false_iff_not];exact I j B
theorem VD (h:∀j,j<6->s≠QW j):YN s=none:=by
 unfold YN;rw[List.find?_eq_none];intro j B;have:=h j (List.mem_range.1 B);simpa using this
theorem CE (s:BA) (w:World) (a7:Lib.TabIs prog w "internal/strconv.uint64pow10" .u64 Lib.pow10Tab):
 ae prog 43 #[.string s] w fun e w'=>e=.returned (.int .i64 (gM s))/\ab w.heap.size w w':=by
 have I:Hid (∀i:Nat,i<6->∀W,ab w.heap.size w W->ae prog 69 #[.int .i64 (i:Int)] W fun e w'=>e=.returned (.string (QW i))/\Hid (ab w.heap.size w w')):=fun i J W U=>(DB (i:Int) ⟨by omega,by omega⟩ W (TabIs.dJ a7 (fun k hk=>U.block k hk))).mono fun e w' hq=>⟨by rw[hq.1,IP (by omega) (by omega),CB J],U.trans (hq.2.mono U.size)⟩
 have K:Hid (∀i,i<6->s=QW i->(∀j,j<i->s≠QW j)->gM s=(i:Int)):=fun i J B h2=>by unfold gM;rw[WI J B h2]
 have O:Hid ((∀j,j<6->s≠QW j)->gM s=-1):=fun B=>by unfold gM;rw[VD B]
 clear a7;generalize gM s=R at *;go_enter func43,ntmps43;go_wp2;go_loopw [4] (fun x wr=>∃i:Nat,i<=6/\x=.int .i64 i/\(∀j,j<i->s≠QW j)/\ab w.heap.size w wr) (fun x _=>6-(intOf x).toNat)
 case atStart=>exact⟨0,aq _,rfl,(fun j hj=>absurd hj (Nat.not_lt_zero _)),al _ _⟩
 case round =>
  obtain⟨i,J,rfl,a3,a4⟩:=hrel;have D:Hid _:=a3;have a5:Hid _:=a4;clear a3 a4;by_cases a6:i<6
  ·have Z:=I.out i a6 wr a5.out;by_cases H:s=QW i
   ·have HR:Hid (R=(i:Int)):=K.out i a6 H D.out;have a0:s.toList=(QW i).toList:=by rw[H]
    clear K O D H I;generalize QW i=nm at *;go_wp2_with fail
    refine Z.mono ?_;rintro e w2 ⟨rfl,a2⟩;go_wp2;go_ret;exact⟨by rw[HR.out];rfl,a2.out⟩
   ·have a0:¬s.toList=(QW i).toList:=fun e=>H (wN e)
    have a9:(s.toList==(QW i).toList)=false:=by simp[a0]
    have b0:Hid (∀j,j<i+1->s≠QW j):=fun j hj=>by
     rcases Nat.lt_or_ge j i with B|B
     ·exact D.out j B
     ·rw[show j=i by omega];exact H
    clear K O D H I;generalize hg:QW i=nm at Z a0 a9;clear hg;go_wp2_with fail
    refine Z.mono ?_;rintro e w2 ⟨rfl,a2⟩;go_wp2;go_roundw
    case rel=>exact⟨i+1,by omega,by go_num,b0.out,a2.out⟩
    case measure=>simp[intOf];omega
  ·have b1:i=6:=by omega
   have HR:Hid _:=O.out (by rw[<-b1];exact D.out);clear K O D I;go_wp2;go_ret;exact⟨by rw[HR.out];rfl,a5.out⟩
def Yz (s:BA):Bool:=decide (s=J8)||(YN s).isSome
theorem JsD (s:BA):decide (0<=gM s)=(YN s).isSome:=by
 unfold gM;cases YN s with
 |none=>rfl
 |some i=>exact decide_eq_true (by show(0:Int)<=(i:Int);omega)
theorem RX (s:BA) (w:World) (I:Lib.TabIs prog w "internal/strconv.uint64pow10" .u64 Lib.pow10Tab):
 ae prog 52 #[.string s] w fun e w'=>e=.returned (.bool (Yz s))/\ab w.heap.size w w':=by
 have D:=CE s w I;by_cases B:s=J8
 ·have J:s.toList=[109,111,118,101,114]:=by rw[B];decide +kernel
  have H:Hid (Yz s=av):=by show _=_;unfold Yz;rw[decide_eq_true B];rfl
  generalize Yz s=R at *;clear I B D;go_enter func52,ntmps52;go_wp2;go_ret;exact⟨by rw[H.out];rfl,al _ _⟩
 ·have J:¬s.toList=[109,111,118,101,114]:=fun e=>B (wN (e.trans (by decide +kernel)))
  have Z:(s.toList==[109,111,118,101,114])=false:=by simp[J]
  have H:Hid (Yz s=decide (0<=gM s)):=by show _=_;unfold Yz;rw[decide_eq_false B,Bool.false_or,JsD]
  generalize Yz s=R at *;generalize gM s=cv at *;clear I B;go_enter func52,ntmps52;go_wp2_with fail
  refine D.mono ?_;rintro e O ⟨rfl,K⟩;have U:Hid (ab w.heap.size w O):=K;clear K D;go_wp2;go_ret;exact⟨by rw[H.out];rfl,U.out⟩
section
open Ring
def iJ (l:List BA):Nat:=l.findIdx Yz
theorem CY (B:i<l.length)(H:Yz (Yc l i)=av)(I:∀j,j<i->Yz (Yc l j)=F):iJ l=i:=by
 unfold iJ;rw[List.findIdx_eq B];refine⟨by rw[<-Xk l i B];exact H,fun j D=>?_⟩;rw[<-Xk l j (by omega)];exact I j D
theorem L5 (h:∀j,j<l.length->Yz (Yc l j)=F):¬iJ l<l.length:=fun B=>by
 have H:Yz l[iJ l]=true:=List.findIdx_getElem (p:=Yz) (xs:=l) (w:=B);have D:=h _ B;rw[Xk l _ B]at D;rw[H]at D;cases D
def Zr (l:List BA)(n k:Int):Int×Int:=if 0<(Xj l).1 then Xj l else if iJ l<l.length then(6,iJ l)else if 0<(Jm l n).1 then Jm l n else if 1<=k/\k<=n/\n<=12 then(0,-1)else(2,-1)
theorem FR {h:Nat}{B:List BA}{n k:Int}(H:XC h l B)(K:¬0<(Jm l n).1)(O:(B.length:Int)=n):Jg ⟨n,k,B⟩=if 1<=k/\k<=n/\n<=12 then(0,-1)else(2,-1):=by
 obtain⟨I,_,_,_⟩:=sK K;by_cases D:1<=k/\k<=n/\n<=12
 ·rw[if_pos D,wU (c:=⟨n,k,B⟩) D O];exact UY (by show 1<=B.length;omega) (by show B.length<=16;omega) (fun x J=>(YP I).1 x (H.mem x J)) H.nodup
 ·rw[if_neg D,vZ (c:=⟨n,k,B⟩) D]
def Y0 (W:World)(b:Nat)(B D H:aE):World:=((W.setCell ⟨b,0,N⟩ B).setCell ⟨b,1,N⟩ D).setCell ⟨b,2,N⟩ H
theorem G2 {a1 U:aE}(Z:W.heap[b]?=aa (.cells #[O,a1,U] T (0,0)))(B D H:aE):(Y0 W b B D H).heap[b]?=aa (.cells #[B,D,H] T (0,0)):=by
 unfold Y0;have I:=Qc Z 0 B;have J:=Qc I 1 D;have K:=Qc J 2 H;rw[K];simp only[List.setIfInBounds_toArray,List.set_cons_zero,List.set_cons_succ]
theorem sM (W:World)(b:Nat)(D H I:aE){k:Nat}(B:k≠b):(Y0 W b D H I).heap[k]?=W.heap[k]?:=by
 unfold Y0;rw[ah _ _ _ _ B,ah _ _ _ _ B,ah _ _ _ _ B]
theorem xS {B:Nat}(Z:ab B w W)(D:B<=b)(H I J:aE):ab B w (Y0 W b H I J):=by
 unfold Y0;have K:=Z.setCell (p:=⟨b,0,N⟩) D H;generalize W.setCell ⟨b,0,N⟩ H=O at *;have U:=K.setCell (p:=⟨b,1,N⟩) D I;generalize O.setCell ⟨b,1,N⟩ I=W2 at *;exact U.setCell (p:=⟨b,2,N⟩) D J
theorem Jd.pS {w':World}{I:aE}{c x:Int}(h:Jd w ad I c at_)(hs:w.cell? ⟨b,1,N⟩=aa (Value.int .i64 x))(J:∀k,k≠b->w'.heap[k]?=w.heap[k]?):Jd w' ad I c at_:=by
 rcases h with h|h|⟨i,B,K,O,U,Z,D⟩
 ·exact au h
 ·exact ak (au h)
 ·have H:B≠b:=fun e=>by
   subst e;rw[hs]at D;cases D
  exact ak (ak ⟨i,B,K,O,U,(aj (a:=⟨B,0,N⟩) (J B H)).trans Z,(aj (a:=⟨B,1,N⟩) (J B H)).trans D⟩)
theorem DS {a2:aE}{c x0 x1:Int}(hW:ab w.heap.size w W)(U:W.heap[w.heap.size]?=aa (.cells #[.int .i64 x0,.int .i64 x1,a2] T (0,0)))(hI:Jd W ad O c at_)(H I J:aE){B:World}(K:B=Y0 W w.heap.size H I J):
 (B.cell? ⟨w.heap.size,0,N⟩=aa H/\B.cell? ⟨w.heap.size,1,N⟩=aa I/\B.cell? ⟨w.heap.size,2,N⟩=aa J)/\Jd B ad O c at_/\ab w.heap.size w B:=by
 have D:=G2 U H I J;rw[<-K]at D;refine⟨⟨(Xa D 0).1,(Xa D 1).1,(Xa D 2).1⟩,?_,by rw[K];exact xS hW nR _ _ _⟩;have Z:=(Xa U 1).1;exact hI.pS Z (fun k hk=>by rw[K];exact sM _ _ _ _ _ hk)
def j3 (ad:Nat->zb)(w:World)(l:List BA)(n k:Int)(e:Ending)(w':World):Prop :=
 ((0<(Zr l n k).1/\∃B,e=.returned (.tuple #[.agg #[.int .i64 0,.int .i64 0,.slice N 0 0],B])/\Jd w' ad B (Zr l n k).1 (Zr l n k).2) ∨
  (¬0<(Zr l n k).1/\∃c:fB,e=.returned (.tuple #[.agg #[.int .i64 c.c.n,.int .i64 c.c.k,c.v],.nilIface])/\c.c.n=n/\c.c.k=k/\XC (Xy wX) l c.c.L/\¬0<(Jg c.c).1/\Yn w' c.c c.p c.cap/\∀b o,c.p=aa ⟨b,o,N⟩->w.heap.size<=b/\b<w'.heap.size))/\ab w.heap.size w w'
end
end Go.Proofs.YtflpelnbjekjbaaGreatDoor

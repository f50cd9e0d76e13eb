/- Texts laid together. -/
import Derived.Test.YtfgapcknnoeplaaGreatDoorX17
import Derived.Lib.LaidTab
import Derived.OpenShut
import Derived.ChangeOld
import Derived.Deep.SlicePairs
import Derived.Lib.SmallJoins
import Derived.Deep.Heap
import Derived.Lib.AtoiAll
import Derived.Lib.ItoaNum
import Derived.Lib.IndexMore
import Derived.Shelf.SlSortCmp.QuietGrown
set_option maxRecDepth 100000
set_option maxHeartbeats 4000000
open Option renaming some->aa,none->ab
open Or renaming inl->ac,inr->ay
open Nat renaming lt_of_lt_of_le->ae,le_trans->ak,le_refl->av,lt_or_ge->ze,mod_eq_of_lt->zi,zero_le->bc
open Bool renaming false->F,true->af,not_eq_true'->zh,and_eq_true->bb
open Go.RowKit renaming Below->ag
open Go renaming Calls->ah,Value->bo,Addr->zk
open List renaming getD_eq_getElem?_getD->ai,length_set->an,range->ap,length_append->aq,getElem?_eq_some_iff->au,getElem?_eq_getElem->aw,eraseIdx_cons_succ->ax,getElem?_range->zb,getElem?_map->zg,getElem_mem->ba,mem_append->bd,mem_range->bf,map_cons->zj
open Go.DataW renaming trod->aj,trod_int->am
open Int renaming toNat_natCast->al,le_refl->bA
open Go.ByteArray renaming toList_eq->ao
open Go.Addr renaming add_lit->aE
namespace Go.Proofs
open Go.Shelf
def Tryz.laysCloneE_ren:Go.Shelf.Ren:=⟨fun | 41=>23 | n=>n,fun | 22=>34 | 23=>42 | 4=>4 | n=>n,fun | n=>n⟩
theorem Tryz.laysCloneE:Go.Proofs.SlLaysE0.n41 Tryz.prog Tryz.laysCloneE_ren:={
 mixed:=by kernel_rfl
 f41:=⟨Tryz.f23.name,by decide,Tryz.func23.trans (congrArg aa (by kernel_rfl))⟩
 t4:=Tryz.underlying4
 a4:=Tryz.isAgg4
 z4:=Tryz.sizeOf4
 v4:=Tryz.zeroValue4
 t22:=Tryz.underlying34
 a22:=Tryz.isAgg34
 z22:=Tryz.sizeOf34
 v22:=Tryz.zeroValue34 }
open Go.RowKit in
theorem Tryz.slices_CloneE (i0:TypeInfo)(z:bo)(size bytes:Nat)(hi:Tryz.prog.info? 42=aa i0)(hz0:i0.zero=aa z)(hz1:i0.size=size)(hz2:i0.bytes=bytes)(hzs:z.cells.size=size)(hsz:0 < size)
 (z23:∀ w,(Go.sizeOf 42).run Tryz.prog w=.ok size w) (b off n c:Nat) (news:List bo) (w:World) (hl:news.length=n*size) (hn:n<=maxLen) (hbig:n*bytes<=140737488355328)
 (hc:∀ j u,news[j]?=aa u->w.cell? ⟨b,off+j,ab⟩=aa u) (h1:∀ u ∈ news,u.oneCell'=af) :
 ah Tryz.prog 23 #[.slice (aa ⟨b,off,ab⟩) n c] w fun e w'=>∃ v',e=.returned v'/\w'.ownsRow w.heap.size 42 size v' n news/\v'≠.slice ab 0 0/\ag w.heap.size w w':=AnyE.slices_Clone Tryz.laysCloneE i0 z size bytes hi hz0 hz1 hz2 hzs hsz z23 b off n c news w hl hn hbig hc h1
end Go.Proofs
namespace Go.Proofs.YtfgapcknnoeplaaGreatDoor
open Go.RowKit
variable {i fuel B n k m:Nat}{T:TypeId}{W w:World}{H:Type}{v:bo}{a s:BA}{l:List (Je×Bool)}{ns:List ByteArray}
section
section
variable {w w':World} {B h:Nat} {O:Nat->Option Whose} {m:Ya} {X:WB} {ml:List (Zb×Lv)} {nb hn:Nat->Nat} {n k:Nat}
theorem zG {ad:Nat->zk}(K:Ye w B h O m X ml nb hn)(hz:WZ n k m)(hi:i<6){put:Bool}(a2:(X.cl i).put=put)(a3:(X.cl i).text=Yc m.texts i)(a8:(X.cl i).fr=m.since.getD i 0)(h0:0<=m.ops)(h1:m.ops<=1152921504606846976)(hE:yT ad w O):
 ah Tryz.prog 88 #[.pointer (aa ⟨h,0,ab⟩),.int .i64 (i:Int)] w fun e w'=>e=.returned (.tuple #[])/\Yj w B h O (m.begin i put) nb hn w':=by
 have d4:Hid (∀w',Yj w B h O (Ya.send {m with asks:=m.asks.set i (aa (YA i m.ops m.aC (aG m.aB m.aC) put (Yc m.texts i))),ops:=m.ops+1} (YA i m.ops m.aC (aG m.aB m.aC) put (Yc m.texts i)).begin) nb hn w'->Yj w B h O (m.begin i put) nb hn w'):=fun w' hw=>hw
 generalize Yj w B h O (m.begin i put) nb hn=G at *;have b0:X.aY=m.ops:=K.aW.2.1;have b1:=DI K.blk (by rw[b0];exact h0) (by rw[b0];exact h1);rw[b0]at b1;obtain⟨H,a5⟩:=Xb (w.setCell ⟨h,40,ab⟩ (.int .i64 (m.ops+1)));rw[<-a5]at b1;have U:Yp h w H:=by rw[a5];exact(Yp.refl h w).set 40 _
 have Z:H.heap[h]?=aa (.cells (Zi {X with aY:=m.ops+1}) 66 (0,0)):=by rw[a5];exact Qc K.blk 40 _
 obtain⟨c0,c1,c2,c3,c4⟩:=Yx Z hi;rw[show({X with aY:=m.ops+1}:WB).cl=X.cl from rfl]at c0 c1 c2 c3 c4;rw[a2]at c1;rw[a3]at c2;have f0:=(Xa Z (1+i*5)).2;have e6:H.cell? ⟨h,36,ab⟩=aa (.int .i64 X.cf.c.n):=(Xa Z 36).1;have e7:H.cell? ⟨h,37,ab⟩=aa (.int .i64 X.cf.c.k):=(Xa Z 37).1;have e8:H.cell? ⟨h,38,ab⟩=aa (.slice X.cf.p X.cf.c.L.length X.cf.cap):=(Xa Z 38).1;have e9:H.cell? ⟨h,39,ab⟩=aa (.int .i64 X.act):=(Xa Z 39).1;have b2:Hid (put=af->Hid (ah Tryz.prog 111 #[.int .i64 (i:Int),.int .i64 m.ops,.agg #[.int .i64 X.cf.c.n,.int .i64 X.cf.c.k,.slice X.cf.p X.cf.c.L.length X.cf.cap],.int .i64 X.act,.string ⟨#[120]⟩,.string (Yc m.texts i)] H.drew fun e I=>∃D,e=.returned (.tuple #[.pointer (aa ⟨D,0,ab⟩),.nilIface])/\(∃v0,I.cell? ⟨h,1+i*5,ab⟩=aa v0)/\I.frozen? ⟨h,1+i*5,ab⟩=F/\Hid (∃S,Qw I H.heap.size D S (YA i m.ops m.aC (aG m.aB m.aC) af (Yc m.texts i)))/\Hid (ag H.heap.size H I))):=fun hb=>by
  subst hb;exact(BI K hz hi h0 h1 hE (U.below bR.drew) af).mono fun e I hq=>by
   obtain⟨D,g1,g2,g3⟩:=hq;have a0:ag H.heap.size H I:=(Below.refl _ H).drew.trans g3.out;have hl:=ae K.lt U.size;exact⟨D,g1,⟨_,(World.cell?_of_block (a:=⟨h,1+i*5,ab⟩) (a0.block h hl)).trans c0⟩,(World.frozen?_of_block (a:=⟨h,1+i*5,ab⟩) (a0.block h hl)).trans f0,g2,a0⟩
 have b3:Hid (put=F->Hid (ah Tryz.prog 112 #[.int .i64 (i:Int),.int .i64 m.ops,.agg #[.int .i64 X.cf.c.n,.int .i64 X.cf.c.k,.slice X.cf.p X.cf.c.L.length X.cf.cap],.int .i64 X.act,.string ⟨#[120]⟩] H.drew fun e I=>∃D,e=.returned (.tuple #[.pointer (aa ⟨D,0,ab⟩),.nilIface])/\(∃v0,I.cell? ⟨h,1+i*5,ab⟩=aa v0)/\I.frozen? ⟨h,1+i*5,ab⟩=F/\Hid (∃S,Qw I H.heap.size D S (YA i m.ops m.aC (aG m.aB m.aC) F (Yc m.texts i)))/\Hid (ag H.heap.size H I))):=fun hb=>by
  subst hb;exact(BI K hz hi h0 h1 hE (U.below bR.drew) F).mono fun e I hq=>by
   obtain⟨D,g1,g2,g3⟩:=hq;have a0:ag H.heap.size H I:=(Below.refl _ H).drew.trans g3.out;have hl:=ae K.lt U.size;exact⟨D,g1,⟨_,(World.cell?_of_block (a:=⟨h,1+i*5,ab⟩) (a0.block h hl)).trans c0⟩,(World.frozen?_of_block (a:=⟨h,1+i*5,ab⟩) (a0.block h hl)).trans f0,g2,a0⟩
 have HP:Hid (Ye w B h O m X ml nb hn/\WZ n k m/\Yp h w H/\H.heap[h]?=aa (.cells (Zi {X with aY:=m.ops+1}) 66 (0,0))/\(X.cl i).put=put/\(X.cl i).text=Yc m.texts i/\(X.cl i).fr=m.since.getD i 0):=⟨K,hz,U,Z,a2,a3,a8⟩;have f3:Hid (H=w.setCell ⟨h,40,ab⟩ (.int .i64 (m.ops+1))):=a5;have z1:(0:Int)<=(i:Int):=by omega
 have z2:(i:Int)<6:=by omega
 clear K hz hE U Z a5 a2 a3 a8 b0 h0 h1;go_enter Tryz.func88,Tryz.ntmps88;go_wp2_with fail
 refine b1.mono ?_;rintro e f4 ⟨rfl,d5⟩;rw[d5];clear d5 f4
 go_upto_if 17 with fail
 go_cut []from 18 to 56 (fun W=>∃D I,W=I.setCell ⟨h,1+i*5,ab⟩ (.pointer (aa ⟨D,0,ab⟩))/\(∃S,Qw I H.heap.size D S (YA i m.ops m.aC (aG m.aB m.aC) put (Yc m.texts i)))/\ag H.heap.size H I)
 case first =>
  cases put with
  |true =>
   have a6:=(b2.out rfl).out;have b6:Hid (ah Tryz.prog 111 _ H.drew _):=a6;clear a6 b2 b3;go_wp2_with fail
   go_region_law (go_simp;go_at_call 111;refine b6.out.mono ?_;rintro e I ⟨D,rfl,⟨v0,u0⟩,u1,b7,b8⟩;go_simp)
   all_goals (go_wp2_with fail;go_meet)
   all_goals exact⟨D,I,rfl,b7.out,b8.out⟩
  |false =>
   have a6:=(b3.out rfl).out;have b6:Hid (ah Tryz.prog 112 _ H.drew _):=a6;clear a6 b2 b3;go_wp2_with fail
   go_region_law (go_simp;go_at_call 112;refine b6.out.mono ?_;rintro e I ⟨D,rfl,⟨v0,u0⟩,u1,b7,b8⟩;go_simp)
   all_goals (go_wp2_with fail;go_meet)
   all_goals exact⟨D,I,rfl,b7.out,b8.out⟩
 case rest =>
  obtain⟨D,I,a7,⟨S,b4⟩,d0⟩:=hcut;obtain⟨K,hz,U,Z,a2,a3,a8⟩:=HP.out;have d6:h<H.heap.size:=ae K.lt U.size;have d7:=(d0.block h d6).trans Z;have d8:Yp h w wc:=by rw[a7];exact(U.below d0).set _ _
  have a9:wc.heap[h]?=aa (.cells (Zi {X with aY:=m.ops+1,cl:=JA X.cl i {X.cl i with p:=aa D}}) 66 (0,0)):=by
   rw[a7];have:=Qc d7 (1+i*5) (J3 (aa D));rw[UR _ hi]at this;exact this
  have d9:Qw wc H.heap.size D S (YA i m.ops m.aC (aG m.aB m.aC) put (Yc m.texts i)):=b4.dA (by rw[a7];simp[World.setCell]) (fun k hk=>by rw[a7];exact Below.heap_setCell _ _ _ _ (by have:=(b4.dH k hk).1;show k≠h;omega));obtain⟨J,a4⟩:=Xb (wc.setCell ⟨h,1+i*5+3,ab⟩ (.int .i64 X.act));have e0:Yp h w J:=by rw[a4];exact d8.set _ _
  have d1:J.heap[h]?=aa (.cells (Zi {X with aY:=m.ops+1,cl:=JA X.cl i ⟨aa D,put,Yc m.texts i,(m.aC:Int),m.since.getD i 0⟩}) 66 (0,0)):=by
   rw[a4];have:=Qc a9 (1+i*5+3) (.int .i64 X.act);rw[Jt0 _ hi]at this;rw[this]
   congr 3
   have e:JA (JA X.cl i {X.cl i with p:=aa D}) i {JA X.cl i {X.cl i with p:=aa D} i with cfg:=X.act}=JA X.cl i ⟨aa D,put,Yc m.texts i,(m.aC:Int),m.since.getD i 0⟩:=by
    funext j
    unfold JA;by_cases hj:j=i
    ·rw[if_pos hj,if_pos hj,if_pos rfl,K.aW.1,<-a2,<-a3,<-a8]
    ·rw[if_neg hj,if_neg hj,if_neg hj]
   rw[e]
  have b5:Qw J H.heap.size D S (YA i m.ops m.aC (aG m.aB m.aC) put (Yc m.texts i)):=d9.dA (by rw[a4];simp[World.setCell]) (fun k hk=>by rw[a4];exact Below.heap_setCell _ _ _ _ (by have:=(b4.dH k hk).1;show k≠h;omega));obtain⟨O4,d2,_,_,e4⟩:=K.started e0 hi hz.la d1 (b5.base (ak K.base U.size)) (fun k hk=>ak U.size (b5.dH k hk).1) rfl;have d3:Hid (WZ n k {m with asks:=m.asks.set i (aa (YA i m.ops m.aC (aG m.aB m.aC) put (Yc m.texts i))),ops:=m.ops+1}/\(YA i m.ops m.aC (aG m.aB m.aC) put (Yc m.texts i)).begin.length<=12):=⟨hz.begun hi put,zR (JaS hz hi m.ops)⟩;have g7:wc.cell? ⟨h,39,ab⟩=aa (.int .i64 X.act):=(Xa a9 39).1;have r3:wc.cell? ⟨h,1+i*5+3,ab⟩=aa (.int .i64 (JA X.cl i {X.cl i with p:=aa D} i).cfg):=(Yx a9 hi).2.2.2.1;have g3:=(Xa a9 (1+i*5+3)).2;have s0:J.cell? ⟨h,1+i*5,ab⟩=aa (.pointer (aa ⟨D,0,ab⟩)):=by
   have:=(Yx d1 hi).1;rw[show({X with aY:=m.ops+1,cl:=JA X.cl i ⟨aa D,put,Yc m.texts i,(m.aC:Int),m.since.getD i 0⟩}:WB).cl=JA X.cl i ⟨aa D,put,Yc m.texts i,(m.aC:Int),m.since.getD i 0⟩from rfl,YZ]at this;exact this
  have f5:Hid (ah Tryz.prog 113 #[.pointer (aa ⟨D,0,ab⟩)] J.drew fun e w'=>∃p c,e=.returned (.slice p (YA i m.ops m.aC (aG m.aB m.aC) put (Yc m.texts i)).begin.length c)/\w'.cell? ⟨h,1+i*5,ab⟩=aa (.pointer (aa ⟨D,0,ab⟩))/\Hid (QE c J.heap.size w' p (YA i m.ops m.aC (aG m.aB m.aC) put (Yc m.texts i)).begin/\ag J.heap.size J w')):=(yJ (b5.dA (w':=J.drew) nR (fun _ _=>rfl))).mono fun e w' hq=>by
   obtain⟨⟨p,c,e1,e2⟩,e3⟩:=hq;have hb:ag J.heap.size J w':=(Below.refl _ J).drew.trans e3;exact⟨p,c,e1,(hb.cell (p:=⟨h,1+i*5,ab⟩) d2.lt).trans s0,e2,hb⟩
  have f6:Hid (J=wc.setCell ⟨h,1+i*5+3,ab⟩ (.int .i64 X.act)):=a4;have f7:Hid (∀W p c,Hid (QE c J.heap.size W p (YA i m.ops m.aC (aG m.aB m.aC) put (Yc m.texts i)).begin/\ag J.heap.size J W)->ah Tryz.prog 82 #[.pointer (aa ⟨h,0,ab⟩),.slice p (YA i m.ops m.aC (aG m.aB m.aC) put (Yc m.texts i)).begin.length c] W fun e w'=>e=.returned (.tuple #[])/\w'.cell? ⟨h,1+i*5,ab⟩=aa (.pointer (aa ⟨D,0,ab⟩))/\Hid (G w')):=fun W p c hM=>by
   obtain⟨O5,f8,f9,g0,_⟩:=d2.grow hM.out.2;refine(oS f8 d3.out.1.bO (by have:=d3.out.2;omega) (hM.out.1.out (fun b h1 h2=>f9 b h1 h2))).mono fun e w' hq=>?_
   obtain⟨e1,O6,v6,g4,e5,_,g5⟩:=hq;refine⟨e1,?_,d4.out _ ⟨O6,_,g4,e5,(e4.trans' g0).trans' g5⟩⟩;have:=(Yx e5.blk hi).1;rw[show({X with vm:=v6,aY:=m.ops+1,cl:=JA X.cl i ⟨aa D,put,Yc m.texts i,(m.aC:Int),m.since.getD i 0⟩}:WB).cl=JA X.cl i ⟨aa D,put,Yc m.texts i,(m.aC:Int),m.since.getD i 0⟩from rfl,YZ]at this;exact this
  generalize (JA X.cl i {X.cl i with p:=aa D} i).cfg=oc at r3;generalize (YA i m.ops m.aC (aG m.aB m.aC) put (Yc m.texts i)).begin=BL at *;clear d3 d4 a7 b4 d0 K hz U Z a2 a3 a8 d6 d7 d8 a9 d9 e0 d1 b5 d2 e4 a4 HP b2 b3 b1 f3 c0 c1 c2 c3 c4 f0 e6 e7 e8 e9;go_wp2_with (rw[<-f6.out])
  go_region_held3 (fun W=>W.cell? ⟨h,1+i*5,ab⟩=aa (.pointer (aa ⟨D,0,ab⟩))) (first|assumption|exact s0) (first|(go_at_call 113;refine f5.out.mono ?_;rintro e w5 ⟨p5,c5,rfl,g8,g6⟩)|(go_at_call 82;refine(f7.out w5 p5 c5 g6).mono ?_;rintro e w6 ⟨rfl,g9,HF⟩))
  go_wp2
  go_end0
  exact⟨rfl,HF.out⟩
end
end
section
structure iZ (ad:Nat->zk) (w:World):Prop where
 q:Zp w ad
 x:qO w
 sv:kN w ad
 bO:w.cell? ⟨8,0,ab⟩=aa (.iface 335 (.pointer (aa (ad 7))))
 held:w.cell? ⟨10,0,ab⟩=aa (.iface 335 (.pointer (aa (ad 10))))
def Yi (ad:Nat->zk)(w:World)(O:Nat->Option Whose):Prop:=∀W:World,w.heap.size<=W.heap.size->(∀k,k<w.heap.size->O k=ab->W.heap[k]?=w.heap[k]?)->iZ ad W
section
variable {w w':World} {B h:Nat} {O O':Nat->Option Whose} {m:Ya} {X:WB} {ml:List (Zb×Lv)} {nb hn:Nat->Nat} {n k:Nat} {ad:Nat->zk}
theorem Yi.o (I:Yi ad w O):yT ad w O:=fun W D H=>⟨(I W D H).q,(I W D H).x⟩
theorem Yi.next (U:Yi ad w O)(D:Yd (fun k=>O k≠ab) (fun k=>O' k≠ab) w w'):Yi ad w' O':=fun W J K=>U W (ak D.size J) (fun k H I=>(K k (ae H D.size) (by
 cases e:O' k with
 |none=>rfl
 |some o =>
  rcases D.new k (by rw[e];exact fun e=>(by cases e))with h|h
  ·exact absurd I h
  ·omega)).trans (D.block k H (fun h=>h I)))
theorem Yi.here (D:Yi ad w O):iZ ad w:=D w nR (fun _ _ _=>rfl)
theorem Yi.wrote (U:Yi ad w O)(Z:O h=aa .self)(H:Yp h w w'):Yi ad w' O:=fun W J K=>U W (ak H.size J) (fun k I D=>(K k (ae I H.size) D).trans (H.cW k I (fun e=>by rw[e,Z]at D;cases D)))
theorem Yi.below (U:Yi ad w O)(D:ag w.heap.size w w'):Yi ad w' O:=fun W I J=>U W (ak D.size I) (fun k H K=>(J k (ae H D.size) K).trans (D.block k H))
theorem OV (X:WB)(D:i<6)(c:fS):(((((Zi X).setIfInBounds (1+i*5) (J3 c.p)).setIfInBounds (1+i*5+1) (.bool c.put)).setIfInBounds (1+i*5+2) (.string c.text)).setIfInBounds (1+i*5+3) (.int .i64 c.cfg)).setIfInBounds (1+i*5+4) (.int .i64 c.fr)=Zi {X with cl:=JA X.cl i c}:=by
 match i,D with
 |0,_=>rfl
 |1,_=>rfl
 |2,_=>rfl
 |3,_=>rfl
 |4,_=>rfl
 |5,_=>rfl
def lA (w:World)(h i:Nat)(c:fS):World:=((((w.setCell ⟨h,1+i*5,ab⟩ (J3 c.p)).setCell ⟨h,1+i*5+1,ab⟩ (.bool c.put)).setCell ⟨h,1+i*5+2,ab⟩ (.string c.text)).setCell ⟨h,1+i*5+3,ab⟩ (.int .i64 c.cfg)).setCell ⟨h,1+i*5+4,ab⟩ (.int .i64 c.fr)
theorem CI (hW:Yp h w w')(i:Nat)(c:fS):Yp h w (lA w' h i c):=by
 unfold lA;have D:=hW.set (1+i*5) (J3 c.p);generalize w'.setCell ⟨h,1+i*5,ab⟩ (J3 c.p)=H at *;have I:=D.set (1+i*5+1) (.bool c.put);generalize H.setCell ⟨h,1+i*5+1,ab⟩ (.bool c.put)=J at *;have K:=I.set (1+i*5+2) (.string c.text);generalize J.setCell ⟨h,1+i*5+2,ab⟩ (.string c.text)=U at *;have Z:=K.set (1+i*5+3) (.int .i64 c.cfg);generalize U.setCell ⟨h,1+i*5+3,ab⟩ (.int .i64 c.cfg)=w4 at *;exact Z.set (1+i*5+4) (.int .i64 c.fr)
theorem AM (hb:w.heap[h]?=aa (.cells (Zi X) 66 (0,0)))(hi:i<6)(c:fS):(lA w h i c).heap[h]?=aa (.cells (Zi {X with cl:=JA X.cl i c}) 66 (0,0)):=by
 unfold lA;rw[<-OV X hi c];have D:=Qc hb (1+i*5) (J3 c.p);generalize w.setCell ⟨h,1+i*5,ab⟩ (J3 c.p)=H at *;have I:=Qc D (1+i*5+1) (.bool c.put);generalize H.setCell ⟨h,1+i*5+1,ab⟩ (.bool c.put)=J at *;have K:=Qc I (1+i*5+2) (.string c.text);generalize J.setCell ⟨h,1+i*5+2,ab⟩ (.string c.text)=U at *;have Z:=Qc K (1+i*5+3) (.int .i64 c.cfg);generalize U.setCell ⟨h,1+i*5+3,ab⟩ (.int .i64 c.cfg)=w4 at *;exact Qc Z (1+i*5+4) (.int .i64 c.fr)
theorem Ye.idle (D:Ye w B h O m X ml nb hn)(J:Yp h w w'){c:fS}{T:List BA}{U:List Int}(a0:w'.heap[h]?=aa (.cells (Zi {X with cl:=JA X.cl i c}) 66 (0,0)))(hc:c.p=ab)(ho:i<6->Xf m.asks i=ab)(a2:∀j,j≠i->Yc T j=Yc m.texts j/\U.getD j 0=m.since.getD j 0):Ye w' B h O {m with texts:=T,since:=U} {X with cl:=JA X.cl i c} ml nb hn:=by
 have I:=D.toXJ.aS J.size (fun k o e K=>J.cW k (D.aO k o e).2 (fun Z=>by rw[Z,D.self]at e;injection e with e;exact K e.symm));refine {I.gH (m':={m with texts:=T,since:=U}) (X':={X with cl:=JA X.cl i c}) (i:=i) (O':=O) ⟨fun _ _ _ _=>Iff.rfl,fun _ h=>h,I.aO,av _,fun _ _ _ _ _=>rfl⟩ rfl rfl rfl rfl (fun j _ H=>⟨rfl,a2 j H⟩) rfl rfl rfl rfl rfl rfl (fun j H=>yF _ _ H) (fun hi=>?_)with blk:=a0,self:=D.self,cV:=D.cV,dF:=D.dF,aW:=D.aW};show kA _ _ _ _ (Xf m.asks i) (JA X.cl i c i) _ _;rw[ho hi,YZ];exact hc
end
end
section
open Go.ChangeShapes Go.WideShapes Go.RowKit
theorem TU:Rows.playTellsRow.laid.take 3=Rows.playTellsRow.laid.take 2++ [("internal/strconv.uint64pow10",Lib.tabData .u64 Lib.pow10Tab)]:=by kernel_rfl
theorem JtM (h:laidMetH Tryz.prog Rows.playTellsRow.laid W):Lib.TabIs Tryz.prog W "internal/strconv.uint64pow10" .u64 Lib.pow10Tab:=by
 rw[JaX]at h;have h:=h.1;rw[TU]at h;have e:∃B D,Rows.playTellsRow.laid.take 2=[B,D]:=⟨_,_,rfl⟩;obtain⟨B,D,e⟩:=e;rw[e]at h;simp only[List.cons_append,List.nil_append]at h;exact Lib.tabIs_of_head (g:=13) (t:=248) (e:=220) (n:=20) (by kernel_rfl) (by kernel_rfl) Tryz.underlying248 Tryz.underlying220 (by kernel_rfl) (by kernel_rfl) h.tail.tail
theorem Jbo (h:laidMetH Tryz.prog Rows.playTellsRow.laid W):∃ad,O0 W ad/\iZ ad W:=by
 obtain⟨ad,B⟩:=Jbn h;refine⟨ad,B,⟨B.c1,B.c2,B.c3,B.c4,B.c5⟩,⟨⟨ad 11,B.c11⟩,JtM h⟩,⟨⟨B.c1,B.c3,B.c5,B.c6,B.c9⟩,fun i D=>B.row i (by omega),fun i D=>B.ne i 9 (by omega) (by omega) (by omega)⟩,B.c7,B.wS⟩
end
section
open Go.ChangeShapes Go.WideShapes Go.ChangeAt Go.RowKit
theorem Jb3:Tryz.prog.cellsOf 9=1:=by kernel_rfl
theorem Jax:Tryz.prog.cellsOf 3=1:=by kernel_rfl
theorem Ja0:Tryz.prog.cellsOf 4=1:=by kernel_rfl
theorem Jb4:Tryz.prog.cellsOf 39=2:=by kernel_rfl
theorem Jcj:Tryz.prog.cellsOf 41=8:=by kernel_rfl
theorem JbL:∃f0 f1,Tryz.prog.underlying 39=aa (.struct #[f0,f1])/\f0.offset=0/\f1.offset=1/\f0.type=3/\f1.type=3:=⟨_,_,Tryz.underlying39,rfl,rfl,rfl,rfl⟩
theorem Jb5:∃f0 f1 f2 B D H I,Tryz.prog.underlying 41=aa (.struct #[f0,f1,f2,B,D,H,I])/\(f0.offset=0/\f1.offset=1/\f2.offset=2/\B.offset=3/\D.offset=5/\H.offset=6/\I.offset=7)/\f0.type=3/\f1.type=4/\f2.type=4/\B.type=39/\D.type=9/\H.type=3/\I.type=3:=⟨_,_,_,_,_,_,_,Tryz.underlying41,⟨rfl,rfl,rfl,rfl,rfl,rfl,rfl⟩,rfl,rfl,rfl,rfl,rfl,rfl,rfl⟩
theorem Jcy {enc:TypeId×bo->H}{D:List bo}{y:DataW H×List MemPlace}(h:aj enc Tryz.prog W 0 (fun _=>af) af fuel 41 D=aa y)(a5:D.length=8):∃x:Ev,D=oH x/\x.text.size<=9223372036854775807:=by
 obtain⟨f0,f1,f2,f3,f4,f5,f6,a2,⟨o0,o1,o2,o3,o4,o5,o6⟩,t0,t1,t2,t3,t4,t5,t6⟩:=Jb5;obtain⟨a0,a1,a3,b0,b1,c0,c1⟩:=JbL;obtain⟨xs,n,_,hx,_,a4,B⟩:=DataW.trod_struct a2 h
 match D,a5,xs,a4 with
 | [v0,v1,v2,v3,v4,v5,v6,v7],_,[y0,y1,y2,y3,y4,y5,y6],_ =>
  have I:=B 0 f0 rfl;have J:=B 1 f1 rfl;have K:=B 2 f2 rfl;have O:=B 3 f3 rfl;have U:=B 4 f4 rfl;have Z:=B 5 f5 rfl;have r6:=B 6 f6 rfl;rw[t0,o0,Jax]at I;rw[t1,o1,Ja0]at J;rw[t2,o2,Ja0]at K;rw[t3,o3,Jb4]at O;rw[t4,o4,Jb3]at U;rw[t5,o5,Jax]at Z;rw[t6,o6,Jax]at r6;obtain⟨m0,h0,_,_⟩:=am Tryz.underlying3 (show aj _ _ _ _ _ _ _ _ [v0]=aa y0 from I);obtain⟨m1,h1,_⟩:=DataW.trod_bool Tryz.underlying4 (show aj _ _ _ _ _ _ _ _ [v1]=aa y1 from J);obtain⟨m2,h2,_⟩:=DataW.trod_bool Tryz.underlying4 (show aj _ _ _ _ _ _ _ _ [v2]=aa y2 from K);obtain⟨z0,z1,n3,_,_,l0,l1⟩:=trod_struct2 a3 (show aj _ _ _ _ _ _ _ _ [v3,v4]=aa y3 from O);rw[c0,b0,Jax]at l0;rw[c1,b1,Jax]at l1;obtain⟨m3,h3,_,_⟩:=am Tryz.underlying3 l0;obtain⟨m4,h4,_,_⟩:=am Tryz.underlying3 l1;obtain⟨m5,h5,_,s5⟩:=DataW.trod_string Tryz.underlying9 (show aj _ _ _ _ _ _ _ _ [v5]=aa y4 from U);obtain⟨m6,h6,_,_⟩:=am Tryz.underlying3 (show aj _ _ _ _ _ _ _ _ [v6]=aa y5 from Z);obtain⟨m7,h7,_,_⟩:=am Tryz.underlying3 (show aj _ _ _ _ _ _ _ _ [v7]=aa y6 from r6);simp at h3 h4;simp only[List.cons.injEq,and_true]at h0 h1 h2 h5 h6 h7;subst h0 h1 h2 h3 h4 h5 h6 h7;have a6:maxLen=9223372036854775807:=rfl;exact⟨⟨m0,m1,m2,(m3,m4),m5,m6,m7⟩,rfl,by show m5.size<=_;omega⟩
theorem Jcz {enc:TypeId×bo->H}{y:DataW H×List MemPlace}(h:aj enc Tryz.prog W 0 (fun _=>af) af fuel 37 [v]=aa y):
 ∃p L cap,v=.slice p L.length cap/\Ql XI W p L/\(∀x∈L,x.text.size<=9223372036854775807)/\L.length<=9223372036854775807:=by
 rcases Deep.open_slice Tryz.underlying37 h with⟨K,_⟩|⟨a,B,a2,m0,nn,D,Pl,K,_,b0,b1,hm,hy,Z⟩
 ·simp at K;subst K;exact⟨ab,[],0,rfl,ac rfl,(fun x Z=>by cases Z),bc _⟩
 ·simp at K;subst K;have b2:B<=m0:=by rw[hm];split<;>omega
  have b3:maxLen=9223372036854775807:=rfl;have hv:∀i,∃x:Ev,i<B->(∀j u,(oH x)[j]?=aa u->W.cell? ((a.add (i*8)).add j)=aa u)/\x.text.size<=9223372036854775807:=fun i=>by
   by_cases I:i<B
   ·obtain⟨b4,h1,h2⟩:=Z i (by omega);rw[Jcj]at h1;obtain⟨_,J,a3⟩:=World.cells?_some h1;obtain⟨x,a4,a5⟩:=Jcy h2 J;refine⟨x,fun _=>⟨fun j u O=>?_,a5⟩⟩;have b5:j<8:=(au.1 O).1;have:=a3 j (by omega);rw[this,a4];exact O
   ·exact⟨⟨0,F,F,(0,0),⟨#[]⟩,0,0⟩,fun h=>absurd h I⟩
  obtain⟨R,hR⟩:∃R:Nat->Ev,∀i,i<B->(∀j u,(oH (R i))[j]?=aa u->W.cell? ((a.add (i*8)).add j)=aa u)/\(R i).text.size<=9223372036854775807:=⟨fun i=>Classical.choose (hv i),fun i=>Classical.choose_spec (hv i)⟩;clear hv;have J:((ap B).map R).length=B:=by simp
  have a6:∀i,i<B->((ap B).map R)[i]?=aa (R i):=fun i I=>by
   rw[zg,zb I];rfl
  refine⟨aa a,(ap B).map R,a2,by rw[J],?_,fun x a7=>?_,by rw[J];omega⟩
  ·by_cases h0:B=0
   ·exact ac (List.length_eq_zero_iff.1 (by rw[J];exact h0))
   ·obtain⟨u0,U⟩:∃u,W.cell? ((a.add (0*8)).add 0)=aa u:=⟨_,(hR 0 (by omega)).1 0 _ rfl⟩;obtain⟨b,a8,sp⟩:=a;have a9:sp=none:=by
     cases sp with
     |none=>rfl
     |some q =>
      exfalso;simp[Addr.add,World.cell?]at U
      revert U
      split<;>intro h9<;>cases h9
    subst a9;refine ay ⟨b,a8,rfl,?_,fun i x a0 j u O=>?_⟩
    ·rw[aE,aE]at U;rcases ze b W.heap.size with h'|h'
     ·exact h'
     ·simp[World.cell?,Array.getElem?_eq_none h']at U
    ·have I:i<B:=by have:=(au.1 a0).1;rw[J]at this;exact this
     rw[a6 i I]at a0;have e:=Option.some.inj a0;have hc:=(hR i I).1 j u (by rw[e];exact O);rw[aE,aE]at hc;exact hc
  ·obtain⟨i,I,rfl⟩:=List.mem_map.1 a7;exact(hR i (bf.1 I)).2
end
section
section
variable {w w':World} {B h:Nat} {O O':Nat->Option Whose} {m:Ya} {X:WB} {ml:List (Zb×Lv)} {nb hn:Nat->Nat} {n k:Nat} {ad:Nat->zk}
theorem WZ.opened (D:WZ n k m)(H:i<6){text:BA}(I:text.size<=1000)(s:Int):WZ n k {m with since:=m.since.set i s,texts:=m.texts.set i text}:=by
 refine⟨D.bO,D.msgs,D.la,by show(m.texts.set i text).length=6;rw[an];exact D.lt,by show(m.since.set i s).length=6;rw[an];exact D.ls,fun j=>?_,D.act,D.many,D.dN,D.dO,D.cU,D.asks,D.bI,D.nodes⟩;show(Yc (m.texts.set i text) j).size<=1000;rw[vK (by rw[D.lt];exact H)];split
 ·exact I
 ·exact D.gD j
def Xe (ad:Nat->zk)(w:World)(B h:Nat)(O:Nat->Option Whose)(r:Ya×Int)(nb hn:Nat->Nat)(e:Ending)(w':World):Prop:=(∃D,e=.returned D/\Jd w' ad D r.2 (-1))/\Yj w B h O r.1 nb hn w'
theorem DE (hp:Ye w B h O m X ml nb hn)(hz:WZ n k m)(who:Int)(put:Bool)(text:BA)(ht:text.size<=1000)(h0:0<=m.ops)(h1:m.ops<=1152921504606846976)(hE:Yi ad w O):
 ah Tryz.prog 62 #[.pointer (aa ⟨h,0,ab⟩),.int .i64 who,.agg #[.bool put,.string text]] w (Xe ad w B h O (m.open_ who put text) nb hn):=by
 obtain⟨D,a0⟩:=Xb (w.alloc (.cells #[.bool put,.string text] 57));have H:=Zk a0;have a9:=JH a0;have a5:=hp.below H;have a6:=hE.below H;have a7:∀W,ag w.heap.size w W->Yj w B h O m nb hn W:=fun W hW=>⟨O,X,ml,hp.below hW,Yd.aJ hW⟩
 have a8:=uM who D;have b3:Hid (D=w.alloc (.cells #[.bool put,.string text] 57)):=a0;by_cases hw:0<=who/\who<6
 ·obtain⟨i,rfl⟩:∃i:Nat,who=(i:Int):=⟨who.toNat,by omega⟩;have I:i<6:=by omega
  rw[decide_eq_true hw]at a8;have J:=XV a5 I;have z1:(0:Int)<=(i:Int):=by omega
  have z2:(i:Int)<6:=by omega
  cases ha:Xf m.asks i with
  |some a =>
   have U:m.open_ (i:Int) put text=(m,11):=by
    unfold Ya.open_;rw[if_neg (by omega),if_pos (by rw[al,ha];rfl)]
   rw[U];rw[ha]at J;have e6:¬a.st.word.toList=[105,100,108,101]:=by
    generalize a.st=st;cases st<;>decide +kernel
   have e7:(a.st.word.toList==[105,100,108,101])=false:=by
    generalize a.st=st;cases st<;>decide +kernel
   have J:ah Tryz.prog 85 #[.pointer (aa ⟨h,1+i*5,ab⟩)] D fun e w'=>e=.returned (.string a.st.word)/\w'.cell? ⟨10,0,ab⟩=aa (.iface 335 (.pointer (aa (ad 10))))/\Hid (ag w.heap.size w w'):=J.mono fun e w' K=>⟨K.1,(a6.below K.2).here.held,H.trans (K.2.mono H.size)⟩
   have d5:Hid (∀W,ag w.heap.size w W->Yj w B h O m nb hn W):=a7;have d6:Hid (∀e W,(∃ev,e=.returned ev/\Jd W ad ev 11 (-1))->Yj w B h O m nb hn W->Xe ad w B h O (m,11) nb hn e W):=fun e W h1 h2=>⟨h1,h2⟩
   generalize Xe ad w B h O (m,11) nb hn=G at *;generalize Yj w B h O m nb hn=T at *;clear a5 a6 H a9 a0 a7 ha U hp hz hE ht h0 h1;generalize a.st.word=sw at *;go_enter Tryz.func62,Tryz.ntmps62;go_wp2_with (rw[<-b3.out])
   refine a8.mono ?_;rintro e w2 ⟨rfl,rfl⟩;go_wp2_with fail
   refine J.mono ?_;rintro e w3 ⟨rfl,e8,b2⟩;go_wp2;exact d6.out _ _ ⟨_,rfl,Jd.b8 10 (by decide)⟩ (d5.out _ b2.out)
  |none =>
   obtain⟨m1,Z⟩:∃m1:Ya,m1={m with since:=m.since.set i m.aA,texts:=m.texts.set i text}:=⟨_,rfl⟩;have U:m.open_ (i:Int) put text=(m1.begin i put,0):=by
    unfold Ya.open_;rw[if_neg (by omega),if_neg (by rw[al,ha];decide),al,Z]
   rw[U];rw[ha]at J;have b5:WZ n k m1:=by rw[Z];exact hz.opened I ht _
   have b6:X.del=m.aA:=hp.aW.2.2;have b7:∀W,ag D.heap.size D W->(W.cell? ⟨w.heap.size,0,ab⟩=aa (.bool put)/\W.cell? ⟨w.heap.size,1,ab⟩=aa (.string text))/\W.cell? ⟨h,41,ab⟩=aa (.int .i64 m.aA)/\W.heap[h]?=aa (.cells (Zi X) 66 (0,0)):=fun W hW=>by
    have hk:=(hW.block _ (by rw[a0];simp)).trans a9;have hb:=(a5.below hW).blk;exact⟨⟨(Xa hk 0).1,(Xa hk 1).1⟩,by rw[<-b6];exact(Xa hb 41).1,hb⟩
   have J:ah Tryz.prog 85 #[.pointer (aa ⟨h,1+i*5,ab⟩)] D fun e w'=>e=.returned (.string ⟨#[105,100,108,101]⟩)/\Hid (ag D.heap.size D w'):=J.mono fun e w' K=>⟨K.1,K.2⟩
   have d0:Hid (∀W,ag D.heap.size D W->(W.cell? ⟨w.heap.size,0,ab⟩=aa (.bool put)/\W.cell? ⟨w.heap.size,1,ab⟩=aa (.string text))/\W.cell? ⟨h,41,ab⟩=aa (.int .i64 m.aA)/\W.heap[h]?=aa (.cells (Zi X) 66 (0,0))):=b7;have d1:Hid (∀W W',ag D.heap.size D W->W'=lA W.drew h i ⟨ab,put,text,0,m.aA⟩->ah Tryz.prog 88 #[.pointer (aa ⟨h,0,ab⟩),.int .i64 (i:Int)] W' fun e w'=>e=.returned (.tuple #[])/\Hid (Xe ad w B h O (m1.begin i put,0) nb hn (.returned .nilIface) w')):=fun W W' hW d2=>by
    have a2:ag w.heap.size w W:=H.trans (hW.mono H.size);have d7:=hp.below a2;have d3:=d7.aS (w':=W.drew) nR (fun _ _ _=>rfl);have a4:Yp h W.drew W':=by rw[d2];exact CI (Yp.refl h _) i _
    have d8:Ye W' B h O m1 {X with cl:=JA X.cl i ⟨ab,put,text,0,m.aA⟩} ml nb hn:=by
     rw[Z];exact d3.idle a4 (by rw[d2];exact AM d3.blk I _) rfl (fun _=>ha) (fun j hj=>⟨by rw[vK (by rw[hz.lt];exact I),if_neg hj],by rw[D1 (by rw[hz.ls];exact I),if_neg hj]⟩)
    have d4:Yd (fun k=>O k≠ab) (fun k=>O k≠ab) w W':=⟨a4.os.trans a2.os,a4.tape.trans a2.tape,a4.output.trans a2.output,ak a2.size a4.size,fun k hk hn=>(a4.cW k (ae hk a2.size) (fun e=>hn (by rw[e,hp.self];exact fun e=>(by cases e)))).trans (a2.block k hk),fun k hk=>ac hk⟩;refine(zG d8 b5 I (put:=put) ?_ ?_ ?_ (by rw[Z];exact h0) (by rw[Z];exact h1) (hE.next d4).o).mono fun e w' K=>⟨K.1,⟨_,rfl,Jd.nil _ _⟩,?_⟩
    ·show(JA X.cl i _ i).put=put;rw[YZ]
    ·show(JA X.cl i _ i).text=Yc m1.texts i;rw[YZ,Z];show text=Yc (m.texts.set i text) i;rw[vK (by rw[hz.lt];exact I),if_pos rfl]
    ·show(JA X.cl i _ i).fr=m1.since.getD i 0;rw[YZ,Z];show m.aA=(m.since.set i m.aA).getD i 0;rw[D1 (by rw[hz.ls];exact I),if_pos rfl]
    ·obtain⟨O4,X4,d9,e0,e1⟩:=K.2;exact⟨O4,X4,d9,e0,d4.trans' e1⟩
   generalize Xe ad w B h O (m1.begin i put,0) nb hn=G at *;generalize m.aA=dl at *;clear a5 a6 H a9 a0 a7 ha U hp hz hE ht h0 h1 Z b5 b6 b7;go_enter Tryz.func62,Tryz.ntmps62;go_wp2_with (rw[<-b3.out])
   refine a8.mono ?_;rintro e w2 ⟨rfl,rfl⟩;go_wp2_with fail
   refine J.mono ?_;rintro e w3 ⟨rfl,b2⟩;obtain⟨⟨b0,b1⟩,e2,a3⟩:=d0.out w3 b2.out;obtain⟨c0,c1,c2,c3,c4⟩:=Yx a3 I;have f0:=(Xa a3 (1+i*5)).2;have f1:=(Xa a3 (1+i*5+1)).2;have f2:=(Xa a3 (1+i*5+2)).2;have f3:=(Xa a3 (1+i*5+3)).2;have f4:=(Xa a3 (1+i*5+4)).2;obtain⟨w4,b4⟩:=Xb (lA w3.drew h i ⟨ab,put,text,0,dl⟩);have e3:=d1.out w3 w4 b2.out b4;have e4:Hid (w4=(((((w3.setCell ⟨h,1+i*5,ab⟩ (.pointer ab)).setCell ⟨h,1+i*5+1,ab⟩ (.bool put)).setCell ⟨h,1+i*5+2,ab⟩ (.string text)).setCell ⟨h,1+i*5+3,ab⟩ (.int .i64 0)).setCell ⟨h,1+i*5+4,ab⟩ (.int .i64 dl)).drew):=b4;clear a3 b4 d1 d0 J;go_wp2;go_region
   rw[<-e4.out];clear b0 b1 e2 c0 c1 c2 c3 c4 f0 f1 f2 f3 f4;go_wp2_with fail
   refine e3.mono ?_;rintro e w5 ⟨rfl,e5⟩;go_wp2;exact e5.out
 ·have U:m.open_ who put text=(m,2):=by
   unfold Ya.open_;rw[if_pos (by omega)]
  rw[U,];rw[decide_eq_false hw]at a8;have e9:=a6.here.q.c1;have HF:Hid (Xe ad w B h O (m,2) nb hn (.returned (.iface 335 (.pointer (aa (ad 1))))) D):=⟨⟨_,rfl,Jd.b8 1 (by decide)⟩,a7 _ H⟩;generalize Xe ad w B h O (m,2) nb hn=G at *;clear a5 a6 H a9 a0 a7 U hp hz hE ht h0 h1 hw;go_enter Tryz.func62,Tryz.ntmps62;go_wp2_with (rw[<-b3.out])
  refine a8.mono ?_;rintro e w2 ⟨rfl,rfl⟩;go_wp2;exact HF.out
end
end
section
section
variable {w w':World} {B h:Nat} {O O':Nat->Option Whose} {m:Ya} {X:WB} {ml:List (Zb×Lv)} {nb hn:Nat->Nat} {n k:Nat} {ad:Nat->zk}
theorem Yj.here (H:Ye w B h O m X ml nb hn)(D:ag w.heap.size w W):Yj w B h O m nb hn W:=⟨O,X,ml,H.below D,Yd.aJ D⟩
theorem Yj.since {m':Ya}(U:ag w.heap.size w W)(Z:Yj W B h O m' nb hn w'):Yj w B h O m' nb hn w':=by
 obtain⟨D,H,I,J,K⟩:=Z;exact⟨D,H,I,J,(Yd.aJ U).trans' K⟩
theorem Xe.since {r:Ya×Int}{e:Ending}(H:ag w.heap.size w W)(D:Xe ad W B h O r nb hn e w'):Xe ad w B h O r nb hn e w':=⟨D.1,D.2.since H⟩
theorem GI (H:Ye w B h O m X ml nb hn)(K:WZ n k m)(who:Int)(text:BA)(ht:text.size<=100000)(U:0<=m.ops)(Z:m.ops<=1152921504606846976)(I:Yi ad w O):
 ah Tryz.prog 38 #[.pointer (aa ⟨h,0,ab⟩),.int .i64 who,.string text] w (Xe ad w B h O (m.open_ who af text) nb hn):=by
 by_cases a5:1000<text.size
 ·have ho:m.open_ who af text=(m,2):=by unfold Ya.open_;rw[if_pos (ay (ay a5))]
  rw[ho];have a7:=I.here.q.c1;have HF:Hid (Xe ad w B h O (m,2) nb hn (.returned (.iface 335 (.pointer (aa (ad 1))))) w):=⟨⟨_,rfl,Jd.b8 1 (by decide)⟩,Yj.here H bR⟩;have hd:decide ((1000:Int)<(text.size:Int))=true:=decide_eq_true (by omega);have a6:(1000:Int)<(text.size:Int):=by omega
  generalize Xe ad w B h O (m,2) nb hn=G at *;clear H K I U Z ho;go_enter Tryz.func38,Tryz.ntmps38;go_wp2;exact HF.out
 ·have a0:=Xs text w (by omega);have a2:Hid (∀W,ag w.heap.size w W->ah Tryz.prog 62 #[.pointer (aa ⟨h,0,ab⟩),.int .i64 who,.agg #[.bool af,.string text]] W fun e w'=>(∃D,e=.returned D)/\Xe ad w B h O (m.open_ who af text) nb hn e w'):=fun W J=>(DE (H.below J) K who af text (by omega) U Z (I.below J)).mono fun e w' hq=>⟨by obtain⟨D,e1,_⟩:=hq.1;exact⟨D,e1⟩,hq.since J⟩
  generalize Xe ad w B h O (m.open_ who af text) nb hn=G at *;have hd:=decide_eq_false (by omega);have a6:¬(1000:Int)<(text.size:Int):=by omega
  clear H K I U Z;go_enter Tryz.func38,Tryz.ntmps38;go_wp2_with fail
  refine a0.mono ?_;rintro e w1 ⟨rfl,a3⟩;have a4:=a2.out w1 a3;clear a2 a0 a3;go_wp2_with fail
  refine a4.mono ?_;rintro e w2 ⟨⟨D,rfl⟩,hG⟩;have HG:Hid _:=hG;clear hG a4;go_wp2;exact HG.out
theorem Jsp (K:Ye w B h O m X ml nb hn)(U:WZ n k m)(who:Int)(Z:0<=m.ops)(h1:m.ops<=1152921504606846976)(hE:Yi ad w O):
 ah Tryz.prog 40 #[.pointer (aa ⟨h,0,ab⟩),.int .i64 who] w (Xe ad w B h O (m.open_ who F ⟨#[]⟩) nb hn):=by
 have H:ah Tryz.prog 62 #[.pointer (aa ⟨h,0,ab⟩),.int .i64 who,.agg #[.bool F,.string ⟨#[]⟩]] w fun e w'=>(∃D,e=.returned D)/\Xe ad w B h O (m.open_ who F ⟨#[]⟩) nb hn e w':=(DE K U who F ⟨#[]⟩ (by decide) Z h1 hE).mono fun e w' I=>⟨by obtain⟨D,e1,_⟩:=I.1;exact⟨D,e1⟩,I⟩
 generalize Xe ad w B h O (m.open_ who F ⟨#[]⟩) nb hn=G at *;clear K U hE Z h1;go_enter Tryz.func40,Tryz.ntmps40;go_wp2_with fail
 refine H.mono ?_;rintro e w2 ⟨⟨D,rfl⟩,J⟩;have HG:Hid _:=J;clear J H;go_wp2;exact HG.out
theorem Ye.jae (D:Ye w B h O m X ml nb hn):∃p c,w.cell? ⟨h,0,ab⟩=aa (.slice p m.L.length c)/\ml.length=m.L.length:=by
 obtain⟨p,c,I,_⟩:=D.row.form;have H:ml.length=m.L.length:=by rw[<-D.dK,List.length_map]
 refine⟨p,c,?_,H⟩;rw[<-H,<-I];exact(D.cell 0).1
theorem wA {α β:Type}{f:α->β}:∀(l:List α) (i:Nat),(l.eraseIdx i).map f=(l.map f).eraseIdx i
 | [],_=>by simp
 |_::_,0=>rfl
 |x::l,i+1=>by rw[ax,zj,zj,ax,wA l i]
theorem Yj.oV (J:Ye w B h O m X ml nb hn){H:List (Zb×Lv)}(D:kB h B X.vm H w w')(a0:∀x∈H,x∈ml){L:List Zb}(hL:H.map Prod.fst=L):Yj w B h O {m with L:=L} nb hn w':=by
 obtain⟨v',D⟩:=D;obtain⟨K,I,_,U⟩:=J.oV D (fun x Z=>J.bD x (a0 x Z));rw[hL]at I;exact⟨K,_,_,I,U⟩
theorem NU (D:Ye w B h O m X ml nb hn)(K:WZ n k m)(i:Int)(U:Yi ad w O):
 ah Tryz.prog 36 #[.pointer (aa ⟨h,0,ab⟩),.int .i64 i] w (Xe ad w B h O (m.drop i) nb hn):=by
 obtain⟨p,c,a0,Z⟩:=D.jae;have I:=JaN h m.L.length c p i w a0;by_cases J:0<=i/\i<(m.L.length:Int)
 ·have H:m.drop i=(m.off i.toNat,0):=by unfold Ya.drop;rw[if_neg (by omega)]
  rw[H];obtain⟨j,rfl⟩:∃j:Nat,i=(j:Int):=⟨i.toNat,by omega⟩;rw[decide_eq_true J]at I;have a2:ah Tryz.prog 55 #[.pointer (aa ⟨h,0,ab⟩),.int .i64 (j:Int)] w fun e w'=>(∃ev,e=.returned ev)/\Hid (Xe ad w B h O (m.off (j:Int).toNat,0) nb hn (.returned .nilIface) w'):=(F6 h B X.vm ml j w (by have:=K.bO;omega) (by omega) (D.cell 0).1 (D.cell 0).2 D.gV D.row).mono fun e w' hq=>⟨⟨_,hq.1⟩,⟨_,rfl,Jd.nil _ _⟩,Yj.oV D hq.2 (fun x hx=>List.mem_of_mem_eraseIdx hx) (by rw[al,<-D.dK];exact wA ml j)⟩
  generalize Xe ad w B h O (m.off (j:Int).toNat,0) nb hn=G at *;clear D K U H J Z;go_enter Tryz.func36,Tryz.ntmps36;go_wp2_with fail
  refine I.mono ?_;rintro e w1 ⟨rfl,rfl⟩;go_wp2_with fail
  refine a2.mono ?_;rintro e w2 ⟨⟨ev,rfl⟩,HG⟩;go_wp2;exact HG.out
 ·have H:m.drop i=(m,5):=by unfold Ya.drop;rw[if_pos (by omega)]
  rw[H];rw[decide_eq_false J]at I;have a3:=U.here.q.c4;have HF:Hid (Xe ad w B h O (m,5) nb hn (.returned (.iface 335 (.pointer (aa (ad 4))))) w):=⟨⟨_,rfl,Jd.b8 4 (by decide)⟩,Yj.here D bR⟩;generalize Xe ad w B h O (m,5) nb hn=G at *;clear D K U H J Z;go_enter Tryz.func36,Tryz.ntmps36;go_wp2_with fail
  refine I.mono ?_;rintro e w1 ⟨rfl,rfl⟩;go_wp2;exact HF.out
end
end
section
section
variable {w w':World} {B h:Nat} {O O':Nat->Option Whose} {m:Ya} {X:WB} {ml:List (Zb×Lv)} {nb hn:Nat->Nat} {n k:Nat} {ad:Nat->zk}
theorem JpK {b:BA}(h:a.toList=b.toList):a=b:=by
 rw[ao,ao]at h;exact ByteArray.ext (Array.toList_inj.1 h)
theorem JnN (h:∀j,j<l.length->(Jc l j).1.name≠s):¬Qe l s<l.length:=fun D=>by
 have H:=List.findIdx_getElem (p:=fun x:Je×Bool=>decide (x.1.name=s)) (xs:=l) (w:=D);have I:=of_decide_eq_true H;refine h _ D ?_;unfold Jc;rw[ai,aw D];exact I
theorem K7 (I:i<l.length)(J:(Jc l i).1.name=s)(K:∀j,j<i->(Jc l j).1.name≠s):Qe l s=i:=by
 have H:∀j (D:j<l.length),Jc l j=l[j]:=fun j D=>by unfold Jc;rw[ai,aw D];rfl
 unfold Qe;rw[List.findIdx_eq I];refine⟨decide_eq_true (by rw[<-H i I];exact J),fun j D=>decide_eq_false (by rw[<-H j (by omega)];exact K j D)⟩
def J2 (m:Ya)(nb:Nat->Nat)(s:BA):Value:=if Qe m.nodes s<m.nodes.length then .pointer (aa ⟨nb (Qe m.nodes s),0,ab⟩)else .pointer ab
theorem wY (hp:Ye w B h O m X ml nb hn)(s:BA)(hf:m.nodes.length<=1000):
 ah Tryz.prog 89 #[.pointer (aa ⟨h,0,ab⟩),.string s] w fun e w'=>e=.returned (J2 m nb s)/\w'=w:=by
 have a3:=hp.cD;obtain⟨p,c,hv,a4,_,_,_⟩:=a3.form;have K:((ap m.nodes.length).map nb).length=m.nodes.length:=by simp
 rw[K]at hv;have b2:w.cell? ⟨h,31,ab⟩=aa (.slice p m.nodes.length c):=by rw[<-hv];exact(hp.cell 31).1
 have HC:Hid (∀i,i<m.nodes.length->∃b o,p=aa ⟨b,o,ab⟩/\w.cell? ⟨b,o+i,ab⟩=aa (.pointer (aa ⟨nb i,0,ab⟩))/\w.cell? ⟨nb i,1,ab⟩=aa (.string (Jc m.nodes i).1.name)):=fun i D=>by
  rcases a4 with h0|⟨b,o,a8,b3,hc⟩
  ·rw[h0]at K;simp at K;omega
  ·refine⟨b,o,a8,?_,(Xa (hp.node i D).1 1).1⟩;have hx:((ap m.nodes.length).map nb)[i]?=aa (nb i):=by rw[zg,zb D];rfl
   have:=hc i _ hx 0 _ rfl;rw[show j5.k=1 from rfl,Nat.mul_one,Nat.add_zero]at this;exact this
 have HY:Hid (∀i,i<m.nodes.length->(Jc m.nodes i).1.name=s->(∀j,j<i->(Jc m.nodes j).1.name≠s)->J2 m nb s=.pointer (aa ⟨nb i,0,ab⟩)):=fun i D H h2=>by
  have e:=K7 D H h2;unfold J2;rw[e,if_pos D]
 have HN:Hid ((∀j,j<m.nodes.length->(Jc m.nodes j).1.name≠s)->J2 m nb s=.pointer ab):=fun H=>if_neg (JnN H)
 clear hp a3 hv a4 K;generalize J2 m nb s=R at *;obtain⟨nm,U⟩:∃nm:Nat->BA,nm=fun i=>(Jc m.nodes i).1.name:=⟨_,rfl⟩
 have a2:Hid (∀i,i<m.nodes.length->∃b o,p=aa ⟨b,o,ab⟩/\w.cell? ⟨b,o+i,ab⟩=aa (.pointer (aa ⟨nb i,0,ab⟩))/\w.cell? ⟨nb i,1,ab⟩=aa (.string (nm i))):=by rw[U];exact HC
 have Z:Hid (∀i,i<m.nodes.length->nm i=s->(∀j,j<i->nm j≠s)->R=.pointer (aa ⟨nb i,0,ab⟩)):=by rw[U];exact HY
 have a0:Hid ((∀j,j<m.nodes.length->nm j≠s)->R=.pointer ab):=by rw[U];exact HN
 clear HC HY HN U;generalize m.nodes.length=N at *;go_enter Tryz.func89,Tryz.ntmps89;go_wp2;go_loopw [12] (fun x wr=>∃i:Nat,i<=N/\x=.int .i64 i/\(∀j,j<i->nm j≠s)/\wr=w) (fun x _=>N-(intOf x).toNat)
 case atStart=>exact⟨0,bc _,rfl,(fun j hj=>absurd hj (Nat.not_lt_zero _)),rfl⟩
 case round =>
  obtain⟨i,D,rfl,a5,a9⟩:=hrel;subst a9;have I:Hid (∀j,j<i->nm j≠s):=a5;clear a5;by_cases a6:i<N
  ·obtain⟨b,o,rfl,q1,q2⟩:=a2.out i a6;by_cases J:nm i=s
   ·have HR:Hid (R=.pointer (aa ⟨nb i,0,ab⟩)):=Z.out i a6 J I.out;have a7:(nm i).toList=s.toList:=by rw[J]
    clear a2 Z a0 I J;go_wp2;go_ret;exact⟨by rw[HR.out];rfl,rfl⟩
   ·have a7:¬(nm i).toList=s.toList:=fun e=>J (JpK e)
    have b4:((nm i).toList==s.toList)=false:=by simp[a7]
    have b0:Hid (∀j,j<i+1->nm j≠s):=fun j hj=>by
     rcases ze j i with H|H
     ·exact I.out j H
     ·rw[show j=i by omega];exact J
    clear Z a0 I J;go_wp2;go_roundw
    case rel=>exact⟨i+1,by omega,by go_num,b0.out,by first|rfl|trivial⟩
    case measure=>simp[intOf];omega
  ·have b1:i=N:=by omega
   have HR:Hid (R=.pointer ab):=a0.out (by rw[<-b1];exact I.out);clear a2 Z a0 I;go_wp2;go_ret;exact⟨by rw[HR.out];rfl,rfl⟩
end
end
section
section
variable {w w':World} {B h:Nat} {O O':Nat->Option Whose} {m:Ya} {X:WB} {ml:List (Zb×Lv)} {nb hn:Nat->Nat} {n k:Nat} {ad:Nat->zk}
theorem Ye.rA (D:Ye w B h O m X ml nb hn)(hi:i<m.nodes.length)(d:Bool):Ye (w.setCell ⟨nb i,2,ab⟩ (.bool d)) B h O {m with nodes:=m.nodes.set i ((Jc m.nodes i).1,!d)} X ml nb hn/\Yd (fun k=>O k≠ab) (fun k=>O k≠ab) w (w.setCell ⟨nb i,2,ab⟩ (.bool d)):=by
 have U:(w.setCell ⟨nb i,2,ab⟩ (.bool d)).heap.size=w.heap.size:=by simp[World.setCell]
 have Z:∀k,k≠nb i->(w.setCell ⟨nb i,2,ab⟩ (.bool d)).heap[k]?=w.heap[k]?:=fun k J=>Below.heap_setCell _ _ _ _ J
 have K:=(D.node i hi).2;have H:Qv (.node i) O O B w (w.setCell ⟨nb i,2,ab⟩ (.bool d)):=⟨fun _ _ _ _=>Iff.rfl,fun _ h=>h,fun k o e=>by rw[U];exact D.aO k o e,by rw[U];exact av _,fun k o e ho _=>Z k (fun e'=>ho (by rw[e',K]at e;injection e with e;exact e.symm))⟩;have a0:(m.nodes.set i ((Jc m.nodes i).1,!d)).length=m.nodes.length:=an;have a2:∀j,Jc (m.nodes.set i ((Jc m.nodes i).1,!d)) j=if j=i then((Jc m.nodes i).1,!d)else Jc m.nodes j:=fun j=>uS hi _ j
 have a3:h≠nb i:=fun e=>by rw[<-e,D.self]at K;cases K
 refine⟨{aO:=H.aO,row:=(D.cO H (fun e=>by cases e)).1,cX:=D.cX,dK:=D.dK,bD:=D.eR H (fun e=>by cases e),bV:=(D.cP H (fun e=>by cases e)).1,cS:=D.cS,cD:=by show Zc _ _ _ _ _ ((ap (m.nodes.set i _).length).map nb);rw[a0];exact(D.bY H (fun e=>by cases e)).1,bU:=D.bU,node:=fun j I=>?_,mem:=fun j I=>?_,ask:=fun j I=>(D.ask j I).kept H (fun e=>by cases e),bI:=D.bI.kept H (fun e=>by cases e) (fun e=>by cases e),cf:=D.cf.kept H.bD H.size (fun k J=>H.kept k _ J (fun e=>by cases e) (fun e=>by cases e)),blk:=(Z h a3).trans D.blk,self:=D.self,cV:=D.cV,dF:=D.dF,aW:=D.aW},⟨rfl,rfl,rfl,by rw[U];exact av _,fun k _ hn=>Z k (fun e=>hn (by rw[e,K];exact fun e=>(by cases e))),fun k J=>ac J⟩⟩
 ·have I:j<(m.nodes.set i _).length:=I;rw[a0]at I;show(w.setCell ⟨nb i,2,ab⟩ (.bool d)).heap[nb j]?=aa (Obj.cells #[.pointer (aa ⟨hn j,0,ab⟩),.string (Jc (m.nodes.set i ((Jc m.nodes i).1,!d)) j).1.name,.bool (!(Jc (m.nodes.set i ((Jc m.nodes i).1,!d)) j).2)] 95 (0,0))/\O (nb j)=aa (.node j);rw[a2];by_cases e:j=i
  ·subst e;rw[if_pos rfl];have:=Qc (D.node j hi).1 2 (.bool d);refine⟨?_,K⟩;rw[this];simp only[List.setIfInBounds_toArray,List.set_cons_zero,List.set_cons_succ,Bool.not_not]
  ·rw[if_neg e];exact D.dB H I (fun e'=>e (by injection e'))
 ·have I:j<(m.nodes.set i _).length:=I;rw[a0]at I;show XE _ _ _ _ (Jc (m.nodes.set i ((Jc m.nodes i).1,!d)) j).1;rw[a2];have:=D.dZ H I (fun e=>by cases e);by_cases e:j=i
  ·subst e;rw[if_pos rfl];exact this
  ·rw[if_neg e];exact this
theorem GY (H:Ye w B h O m X ml nb hn)(s:BA)(d:Bool)(Z:m.nodes.length<=1000)(hE:Yi ad w O):
 ah Tryz.prog 64 #[.pointer (aa ⟨h,0,ab⟩),.string s,.bool d] w (Xe ad w B h O (m.set s (!d)) nb hn):=by
 have J:=wY H s Z;by_cases D:Qe m.nodes s<m.nodes.length
 ·have I:m.set s (!d)=({m with nodes:=m.nodes.set (Qe m.nodes s) ((Jc m.nodes (Qe m.nodes s)).1,!d)},0):=by unfold Ya.set;rw[if_pos D]
  rw[I];rw[show J2 m nb s=.pointer (aa ⟨nb (Qe m.nodes s),0,ab⟩)from if_pos D]at J;obtain⟨g1,g2⟩:=H.rA D d;have K:=(H.node _ D).1;have c2:=(Xa K 2).1;have f2:=(Xa K 2).2;change w.cell? ⟨nb (Qe m.nodes s),2,ab⟩=aa (.bool (!(Jc m.nodes (Qe m.nodes s)).2))at c2;have U:Hid (Xe ad w B h O ({m with nodes:=m.nodes.set (Qe m.nodes s) ((Jc m.nodes (Qe m.nodes s)).1,!d)},0) nb hn (.returned .nilIface) (w.setCell ⟨nb (Qe m.nodes s),2,ab⟩ (.bool d))):=⟨⟨_,rfl,Jd.nil _ _⟩,O,X,ml,g1,g2⟩;generalize Xe ad w B h O ({m with nodes:=m.nodes.set (Qe m.nodes s) ((Jc m.nodes (Qe m.nodes s)).1,!d)},0) nb hn=G at *;generalize nb (Qe m.nodes s)=b at *;generalize (!(Jc m.nodes (Qe m.nodes s)).2)=u at *;clear H I K g1 g2 hE D Z;go_enter Tryz.func64,Tryz.ntmps64;go_wp2_with fail
  refine J.mono ?_;rintro e w1 ⟨rfl,rfl⟩;go_wp2;exact U.out
 ·have I:m.set s (!d)=(m,5):=by unfold Ya.set;rw[if_neg D]
  rw[I];rw[show J2 m nb s=.pointer ab from if_neg D]at J;have a0:=hE.here.q.c4;have U:Hid (Xe ad w B h O (m,5) nb hn (.returned (.iface 335 (.pointer (aa (ad 4))))) w):=⟨⟨_,rfl,Jd.b8 4 (by decide)⟩,Yj.here H bR⟩;generalize Xe ad w B h O (m,5) nb hn=G at *;clear H I hE D Z;go_enter Tryz.func64,Tryz.ntmps64;go_wp2_with fail
  refine J.mono ?_;rintro e w1 ⟨rfl,rfl⟩;go_wp2;exact U.out
theorem JqA (K:Ye w B h O m X ml nb hn)(s:BA)(U:m.nodes.length<=1000)(Z:Yi ad w O):
 ah Tryz.prog 41 #[.pointer (aa ⟨h,0,ab⟩),.string s] w (Xe ad w B h O (m.set s F) nb hn):=by
 have H:ah Tryz.prog 64 #[.pointer (aa ⟨h,0,ab⟩),.string s,.bool af] w fun e w'=>(∃D,e=.returned D)/\Xe ad w B h O (m.set s F) nb hn e w':=(GY K s af U Z).mono fun e w' I=>⟨by obtain⟨D,e1,_⟩:=I.1;exact⟨D,e1⟩,I⟩
 generalize Xe ad w B h O (m.set s F) nb hn=G at *;clear K Z U;go_enter Tryz.func41,Tryz.ntmps41;go_wp2_with fail
 refine H.mono ?_;rintro e w2 ⟨⟨D,rfl⟩,J⟩;have HG:Hid _:=J;clear J H;go_wp2;exact HG.out
theorem W7 (K:Ye w B h O m X ml nb hn)(s:BA)(U:m.nodes.length<=1000)(Z:Yi ad w O):
 ah Tryz.prog 43 #[.pointer (aa ⟨h,0,ab⟩),.string s] w (Xe ad w B h O (m.set s af) nb hn):=by
 have H:ah Tryz.prog 64 #[.pointer (aa ⟨h,0,ab⟩),.string s,.bool F] w fun e w'=>(∃D,e=.returned D)/\Xe ad w B h O (m.set s af) nb hn e w':=(GY K s F U Z).mono fun e w' I=>⟨by obtain⟨D,e1,_⟩:=I.1;exact⟨D,e1⟩,I⟩
 generalize Xe ad w B h O (m.set s af) nb hn=G at *;clear K Z U;go_enter Tryz.func43,Tryz.ntmps43;go_wp2_with fail
 refine H.mono ?_;rintro e w2 ⟨⟨D,rfl⟩,J⟩;have HG:Hid _:=J;clear J H;go_wp2;exact HG.out
end
end
theorem rI {l:List UInt8}(h:a≠⟨l.toArray⟩):¬a.toList=l:=fun e=>h (by
 rw[ao]at e;exact ByteArray.ext (by rw[<-e]))
theorem XQ {l:List UInt8}(h:a≠⟨l.toArray⟩):(a.toList==l)=false:=by simpa using rI h
theorem Zc.pB {w':World}{l:List Yb}(h:Zc Ze T w B v l)(Z:∀k,v.ownBlock=aa k->w'.heap[k]?=w.heap[k]?):Zc Ze T w' B v l:=by
 obtain⟨I,D⟩:=h;refine⟨I,?_⟩;rcases D with D|⟨g,cap,J,H,K,O,U⟩
 ·exact ac D
 ·refine ay ⟨g,cap,J,H,K,?_,U⟩;rw[Z g (by rw[H];rfl)];exact O
theorem Zc.jX {l:List Yb}(h:Zc Ze T w B v l){b:Nat}(H:b<B)(i:Nat)(x:bo):Zc Ze T (w.setCell ⟨b,i,ab⟩ x) B v l:=h.pB (fun k D=>Deep.blk_setCell_other _ _ _ _ (by have:=(h.block D).1;show k≠b;omega))
def nX (n:Int):List UInt8:=Lib.itoa n++ [58]
def EU (s:BA):List UInt8:=nX (s.size:Int)++s.data.toList
def PB (x:Yh):List UInt8:=EU x.1++(nX x.2.n++(nX x.2.who++(nX x.2.size++(nX x.2.at_++EU x.2.text))))
def N6 (L:List Yh):List UInt8:=L.flatMap PB
def wrote (L:List Yh)(s:Bool):List UInt8:=nX (if s then 1 else 0)++N6 L
structure Jaz (L:List Yh):Prop where
 sorted:Yw L
 bO:L.length<=60
 fits:∀x∈L,Jo x.1=af/\Y7 x.2=af
theorem Jaz.put {L:List Yh}(h:Jaz L){s:Bool}{key:BA}{v:Yb}(B:Ju L s key v=0):Jaz (XK L key v)/\(∀x∈Xc L key,Zd x≠Zd v)/\s=F/\Jo key=af/\Y7 v=af/\L.length<60:=by
 unfold Ju at B;split at B
 ·cases B
 ·rename_i O;split at B
  ·rename_i J;split at B
   ·rename_i K;have D:∀x∈Xc L key,Zd x≠Zd v:=fun x H U=>by
     rw[KG h.sorted H U]at B;split at B<;>cases B
    rw[zQ D L.length 0 (by omega)]at B;have Z:L.length<60:=by
     refine Classical.byContradiction fun hc=>?_
     rw[if_pos (by omega)]at B;cases B
    refine⟨⟨Jlz h.sorted D,by rw[Jly];omega,fun x H=>?_⟩,D,by simpa using O,J,K,Z⟩;rcases EH.1 H with I|I
    ·exact h.fits x I
    ·rw[I];exact⟨J,K⟩
   ·cases B
  ·cases B
section
open Go.Sort
theorem xH (w:World)(n:Nat)(os:Array Obj):ag w.heap.size w (grow (w.drewN n) os):=⟨rfl,rfl,rfl,by show w.heap.size<=(w.heap++os).size;rw[Array.size_append];omega,fun _ B=>heap_grow_old (w.drewN n) os B⟩
end
def lV (s:BA):Nat->Nat
 |0=>2166136261
 |i+1=>(lV s i^^^Gf.nth (Zj s) i)*16777619%4294967296
theorem B2 (s:BA):∀i,lV s i<4294967296
 |0=>by show 2166136261<4294967296;decide
 |i+1=>Nat.mod_lt _ (by decide)
theorem WN (a b:Nat)(D:a<4294967296)(H:b<4294967296):bits .xor .u32 (a:Int) (b:Int)=((a^^^b:Nat):Int):=by
 have B:a^^^b<2^32:=Nat.xor_lt_two_pow (by omega) (by omega);show IntKind.u32.wrap ((BitVec.ofInt 32 (a:Int)^^^BitVec.ofInt 32 (b:Int)).toNat:Int)=_;rw[BitVec.toNat_xor,BitVec.ofInt_natCast,BitVec.ofInt_natCast,BitVec.toNat_ofNat,BitVec.toNat_ofNat,zi (by omega),zi (by omega)];show((a^^^b:Nat):Int)%4294967296=_;omega
theorem IH (s:BA)(w:World)(Z:s.size<=1000000):
 ah Tryz.prog 79 #[.string s] w fun e w'=>e=.returned (.int .u32 ((lV s s.size:Nat):Int))/\w'=w:=by
 go_enter Tryz.func79,Tryz.ntmps79;go_wp2
 go_loop [3,7] (fun c x=>∃i:Nat,i<=s.size/\x=.int .i64 i/\c=.int .u32 ((lV s i:Nat):Int)) (fun _ x=>s.size-(intOf x).toNat)
 case atStart=>exact⟨0,bc _,rfl,rfl⟩
 case round =>
  obtain⟨i,J,rfl,rfl⟩:=hrel;have B:=B2 s i;by_cases D:i<s.size
  ·have K:=EP s i D;have O:=xK s i;have H:Hid (lV s (i+1)=(lV s i^^^Gf.nth (Zj s) i)*16777619%4294967296):=by show _=_;rfl
   generalize lV s i=c at *;generalize Gf.nth (Zj s) i=y at *;have U:bits .xor .u32 (c:Int) (y:Int)=((c^^^y:Nat):Int):=WN _ _ B (by omega);generalize c^^^y=q at *;go_wp2
   go_round
   case rel=>exact⟨i+1,by omega,by go_num,by rw[H.out];congr 1⟩
   case measure=>simp[intOf];omega
  ·have I:i=s.size:=by omega
   subst I;go_wp2;go_ret;exact⟨rfl,rfl⟩
section
theorem TX {l:List Zb}(h:l.length<=i):Yg l i=⟨⟨#[]⟩,⟨#[]⟩,⟨#[]⟩,⟨#[]⟩,0,0,F,[]⟩:=by
 unfold Yg;rw[ai,List.getElem?_eq_none h];rfl
theorem Zh.fC {G:Gh}{w:Ya}(h:Zh n k G w)(i:Nat):∀a,w.mover=aa a->(a.aD (Yg w.L i)).1.st≠.refused:=fun a U=>by
 have M:=h.bI a U;have Z:a.st=.sealing∨a.st=.keeping:=by
  rcases M.st with B|B
  ·exact ac B.1
  ·exact ay B.1
 have J:a.st≠.refused:=by rcases Z with h|h<;>rw[h]<;>decide
 by_cases D:a.aM (Yg w.L i)=F
 ·rw[show a.aD (Yg w.L i)=(a,[])from if_pos D];exact J
 have a0:a.aM (Yg w.L i)=true:=by cases h:a.aM (Yg w.L i)with|false=>exact absurd h D|true=>rfl
 obtain⟨H,t2,t3,t4,t5,t6⟩:=Za.eQ a0;have a2:i<w.L.length:=by
  rcases ze i w.L.length with I|I
  ·exact I
  ·rw[TX I]at H;exact absurd H.symm t2
 obtain⟨j,K⟩:=h.msgs _ (oB a2);have a3:¬((Yg w.L i).shut=af/\a.st≠.sealing):=fun O=>by
  rcases M.st with⟨k1,_⟩|⟨k1,k2,_⟩
  ·exact O.2 k1
  ·have a4:(Yg w.L i).kind=iS:=by rw[H,k1];rfl
   obtain⟨_,_,_,h5⟩:=K.kept a4;have h6:=h.base.shut _ _ (h5 O.1);have h7:=K.cfg;have h8:=M.len;rw[t4,k2]at h7;omega
 unfold Za.aD;rw[if_neg D,if_neg a3];split
 ·exact J
 ·split
  ·exact fun e=>by cases e
  ·split
   ·exact fun e=>by cases e
   ·unfold Za.keeps;split<;>exact fun e=>by cases e
section
variable {n k:Nat} {m:Ya}
theorem WZ.lZ (B:WZ n k m)(who:Int)(put:Bool)(text:BA):WZ n k (m.open_ who put text).1:=by
 unfold Ya.open_;split
 ·exact B
 ·rename_i D;split
  ·exact B
  ·exact(B.opened (by omega) (by omega) _).begin (by omega) _
theorem WZ.jI (H:WZ n k m)(i:Int)(K:∀a,m.mover=aa a->(a.aD (Yg m.L i.toNat)).1.st≠.refused):WZ n k (m.aR i).1:=by
 unfold Ya.aR;split
 ·exact H
 ·rename_i O;have B:YF (Yg m.L i.toNat):=H.msgs _ (oB (by omega));have D:WZ n k {m.off i.toNat with aA:=m.aA+1}:=(H.off i.toNat).IE _;show WZ n k (match YN (Yg m.L i.toNat).aP with
   |some who=>Ya.aD {m.off i.toNat with aA:=m.aA+1} who (Yg m.L i.toNat)
   |none=>if(Yg m.L i.toNat).aP=J8 then Ya.aI {m.off i.toNat with aA:=m.aA+1} (Yg m.L i.toNat)else Ya.node {m.off i.toNat with aA:=m.aA+1} (Yg m.L i.toNat))
  cases I:YN (Yg m.L i.toNat).aP with
  |some who =>
   have J:who<6:=by
    have:=List.mem_of_find?_eq_some I;exact bf.1 this
   exact D.aD J B
  |none =>
   show WZ n k (if(Yg m.L i.toNat).aP=J8 then _ else _);split
   ·exact D.aI B K
   ·exact D.node B
theorem WZ.rU (B:WZ n k m)(i:Int):WZ n k (m.drop i).1:=by
 unfold Ya.drop;split
 ·exact B
 ·exact B.off _
theorem WZ.mW (B:WZ n k m)(i:Int):WZ n k (m.bC i).1:=by
 unfold Ya.bC;split
 ·exact B
 ·rename_i H;split
  ·exact B
  ·rename_i I;refine⟨?_,fun x D=>?_,B.la,B.lt,B.ls,B.gD,B.act,B.many,B.dN,B.dO,B.cU,B.asks,B.bI,B.nodes⟩
   ·show(m.L.take (i.toNat+1)++ [Yg m.L i.toNat]++m.L.drop (i.toNat+1)).length<=120;rw[aq,aq,List.length_take,List.length_drop];show min _ _+1+_<=120;omega
   ·have D:x∈m.L.take (i.toNat+1)++ [Yg m.L i.toNat]++m.L.drop (i.toNat+1):=D;rcases bd.1 D with D|D
    ·rcases bd.1 D with D|D
     ·exact B.msgs x (List.mem_of_mem_take D)
     ·rw[List.mem_singleton.1 D];exact B.msgs _ (oB (by omega))
    ·exact B.msgs x (List.mem_of_mem_drop D)
theorem WZ.pH (B:WZ n k m)(s:BA)(up:Bool):WZ n k (m.set s up).1:=by
 unfold Ya.set;split
 ·rename_i H;refine⟨B.bO,B.msgs,B.la,B.lt,B.ls,B.gD,B.act,B.many,B.dN,B.dO,B.cU,B.asks,B.bI,fun i D=>?_⟩;have D:=D;rw[an]at D;show jJ (Jc (m.nodes.set _ _) i).1;rw[uS H];split
  ·exact B.nodes _ H
  ·exact B.nodes i D
 ·exact B
end
theorem JqO (w:Ya)(who:Nat)(a:Za):(w.after who a).ops=w.ops∨(w.after who a).ops=w.ops+1:=by
 unfold Ya.after;split
 ·exact ac rfl
 ·split
  ·exact ay rfl
  ·exact ac rfl
 ·exact ac rfl
theorem Jst (w:Ya)(l:List BA):(w.eX l).ops=w.ops:=by
 obtain⟨N,h,_⟩:=l3 l w;rw[h]
theorem PS {w w':Ya}(h:WStep n k w w'):w'.ops=w.ops∨w'.ops=w.ops+1:=by
 cases h with
 |open_ who put text =>
  unfold Ya.open_;split
  ·exact ac rfl
  ·split
   ·exact ac rfl
   ·exact ay rfl
 |aR i =>
  unfold Ya.aR;split
  ·exact ac rfl
  ·have B:∀o:Option Nat,(match o with
    |some who=>Ya.aD {w.off i.toNat with aA:=w.aA+1} who (Yg w.L i.toNat)
    |none=>if(Yg w.L i.toNat).aP=J8 then Ya.aI {w.off i.toNat with aA:=w.aA+1} (Yg w.L i.toNat)else Ya.node {w.off i.toNat with aA:=w.aA+1} (Yg w.L i.toNat)).ops=w.ops∨(match o with
    |some who=>Ya.aD {w.off i.toNat with aA:=w.aA+1} who (Yg w.L i.toNat)
    |none=>if(Yg w.L i.toNat).aP=J8 then Ya.aI {w.off i.toNat with aA:=w.aA+1} (Yg w.L i.toNat)else Ya.node {w.off i.toNat with aA:=w.aA+1} (Yg w.L i.toNat)).ops=w.ops+1:=fun o=>by
    cases o with
    |some who =>
     show(Ya.aD {w.off i.toNat with aA:=w.aA+1} who (Yg w.L i.toNat)).ops=_∨(Ya.aD {w.off i.toNat with aA:=w.aA+1} who (Yg w.L i.toNat)).ops=_;unfold Ya.aD;split
     ·exact ac rfl
     ·exact JqO _ _ _
    |none =>
     refine ac ?_;show(if(Yg w.L i.toNat).aP=J8 then Ya.aI {w.off i.toNat with aA:=w.aA+1} (Yg w.L i.toNat)else Ya.node {w.off i.toNat with aA:=w.aA+1} (Yg w.L i.toNat)).ops=_;split
     ·unfold Ya.aI;split<;>rfl
     ·unfold Ya.node;split<;>rfl
   exact B _
 |drop i=>refine ac ?_;unfold Ya.drop;split<;>rfl
 |bC i =>
  refine ac ?_;unfold Ya.bC;split
  ·rfl
  ·split<;>rfl
 |set s up=>refine ac ?_;unfold Ya.set;split<;>rfl
 |again who =>
  refine ac ?_;unfold Ya.again;split
  ·rfl
  ·split
   ·rfl
   ·split<;>rfl
 |a8 who =>
  unfold Ya.a8;split
  ·exact ac rfl
  ·split
   ·exact ac rfl
   ·split
    ·split
     ·exact ac rfl
     ·exact ay rfl
    ·exact ac rfl
 |change nodes c D H=>exact ay rfl
 |none=>exact ac rfl
theorem bP.ops :∀{t:Nat} {w:Ya},bP n k t w->0<=w.ops/\w.ops<=t:=by
 intro t w h
 induction h with
 |new nodes c D =>
  unfold Ya.new;rw[Jst];exact⟨bA _,bA _⟩
 |step t w w' h B ih =>
  rcases PS B with e|e<;>rw[e]<;>constructor<;>omega
end
def tqT (q:Int):ByteArray:=⟨#[116]⟩++⟨(Lib.itoa q).toArray⟩
def LW (f:Nat)(q:Int):Int:=q%max 1 (f:Int)
def ML (ns:List ByteArray)(q:Int):ByteArray:=if ns=[]then⟨#[]⟩else Yc ns (q%(ns.length:Int)).toNat
def Ya.oN (m:Ya)(ns:List ByteArray)(q d:Int):Ya×Int :=
 if d<=3 then m.aR (LW m.L.length q)
 else if d=4 then m.drop (LW m.L.length q)
 else if d=5 then m.bC (LW m.L.length q)
 else if d=6 then m.open_ (q%6) af (tqT q)
 else if d=7 then m.open_ (q%6) F ⟨#[]⟩
 else m.set (ML ns q) (decide (d≠8))
theorem JbJ (m:Ya)(ns:List ByteArray)(q d:Int):WStep n k m (m.oN ns q d).1:=by
 unfold Ya.oN;split
 ·exact WStep.aR m _
 ·split
  ·exact WStep.drop m _
  ·split
   ·exact WStep.bC m _
   ·split
    ·exact WStep.open_ m _ _ _
    ·split
     ·exact WStep.open_ m _ _ _
     ·exact WStep.set m _ _
def Ya.oP (ns:List ByteArray)(r:Ya×Int)(v:Int):Ya×Int :=
 if v<0 then r else((r.1.oN ns (v/10) (v%10)).1,if(r.1.oN ns (v/10) (v%10)).2=0 then r.2+1 else r.2)
def Ya.nP (m:Ya)(ns:List ByteArray)(l:List Int):Ya×Int:=l.foldl (Ya.oP ns) (m,0)
theorem JbK {m:Ya}{l:List Int}(B:i<l.length):m.nP ns (l.take (i+1))=Ya.oP ns (m.nP ns (l.take i)) l[i]:=by
 unfold Ya.nP;rw[List.take_succ_eq_append_getElem B,List.foldl_append];rfl
theorem Jci {t:Nat}{r:Ya×Int}(h:bP n k t r.1)(v:Int):∃B,B<=t+1/\bP n k B (Ya.oP ns r v).1:=by
 unfold Ya.oP;split
 ·exact⟨t,Nat.le_succ t,h⟩
 ·exact⟨t+1,av _,bP.step t _ _ h (JbJ _ _ _ _)⟩
def RZ (N:List (Je×Bool))(s:BA):Je×Bool:=Jc N (Qe N s)
structure Up (w:Ya) (s:BA):Prop where
 has:Qe w.nodes s<w.nodes.length
 up:(RZ w.nodes s).2=af
 cli:YN s=ab
 mv:s≠J8
section
section
variable {n k:Nat} {a:Za} {l:Nat->List Yb}
end
end
section
section
variable {n k D B j:Nat} {w:Ya} {c:Xg} {V:List (JC×BA)}
end
end
section
section
variable {n k D B j:Nat} {w:Ya} {c:Xg} {V:List (JC×BA)}
end
end
section
section
variable {n k D B j:Nat} {w:Ya} {c:Xg} {V:List (JC×BA)}
end
end
section
section
variable {n k D B j:Nat} {w:Ya} {c c':Xg} {V:List (JC×BA)}
end
end
section
section
variable {n k B:Nat} {c:Xg} {V:List (JC×BA)} {a:Za} {l:Nat->List Yb}
end
end
section
section
variable {n k B:Nat} {w:Ya} {V:List (JC×BA)}
end
end
section
attribute [local instance low] Classical.propDecidable
section
variable {n k B:Nat} {w:Ya} {V:List (JC×BA)}
end
end
theorem VG {l:List Ev}(h:l.Pairwise oD)(ht:∀a∈l,∀b∈l,b.found=af->a.put=af->a.tag=b.tag->a.text=b.text)(I:i<l.length):(∀q,q<i->JQ (Qq l i) (Qq l q)=F)/\∀q,q<l.length->Y5 (Qq l i) (Qq l q)=false:=by
 constructor
 ·intro q D;have J:=List.pairwise_iff_getElem.1 h q i (by omega) I D;rw[nF I,nF (by omega)];cases e:JQ l[i] (l[q]'(by omega))with
  |false=>rfl
  |true =>
   unfold JQ at e;simp only[bb,Bool.or_eq_true,decide_eq_true_eq,zh]at e;obtain⟨⟨K,H⟩,B⟩:=e;obtain⟨O,U,Z⟩:=J K H;rcases B with(B|B)|B
   ·rw[O]at B;cases B
   ·rw[U]at B;cases B
   ·exact absurd B.2 (Z B.1)
 ·intro q D;rw[nF I,nF D];cases e:Y5 l[i] l[q]with
  |false=>rfl
  |true =>
   unfold Y5 at e;simp only[bb,decide_eq_true_eq,zh]at e;obtain⟨⟨⟨⟨_,H⟩,B⟩,e4⟩,e5⟩:=e;exact absurd (ht _ (ba _) _ (ba _) H B e4) e5
theorem MF (w:Ya)(who:Nat)(a:Za):(w.after who a).events=w.events∨∃x,(w.after who a).events=w.events++ [x]:=by
 unfold Ya.after;split
 ·exact ay ⟨_,rfl⟩
 ·split<;>exact ac rfl
 ·exact ac rfl
theorem FB (w:Ya)(l:List BA):(w.eX l).events=w.events:=by
 obtain⟨N,h,_⟩:=l3 l w;rw[h]
theorem Jrs {w w':Ya}(h:WStep n k w w'):w'.events=w.events∨∃x,w'.events=w.events++ [x]:=by
 cases h with
 |open_ who put text =>
  refine ac ?_;unfold Ya.open_;split
  ·rfl
  ·split<;>rfl
 |aR i =>
  unfold Ya.aR;split
  ·exact ac rfl
  ·have B:∀o:Option Nat,(match o with
    |some who=>Ya.aD {w.off i.toNat with aA:=w.aA+1} who (Yg w.L i.toNat)
    |none=>if(Yg w.L i.toNat).aP=J8 then Ya.aI {w.off i.toNat with aA:=w.aA+1} (Yg w.L i.toNat)else Ya.node {w.off i.toNat with aA:=w.aA+1} (Yg w.L i.toNat)).events=w.events∨∃x,(match o with
    |some who=>Ya.aD {w.off i.toNat with aA:=w.aA+1} who (Yg w.L i.toNat)
    |none=>if(Yg w.L i.toNat).aP=J8 then Ya.aI {w.off i.toNat with aA:=w.aA+1} (Yg w.L i.toNat)else Ya.node {w.off i.toNat with aA:=w.aA+1} (Yg w.L i.toNat)).events=w.events++ [x]:=fun o=>by
    cases o with
    |some who =>
     show(Ya.aD {w.off i.toNat with aA:=w.aA+1} who (Yg w.L i.toNat)).events=_∨∃x,(Ya.aD {w.off i.toNat with aA:=w.aA+1} who (Yg w.L i.toNat)).events=_;unfold Ya.aD;split
     ·exact ac rfl
     ·exact MF _ _ _
    |none =>
     refine ac ?_;show(if(Yg w.L i.toNat).aP=J8 then Ya.aI {w.off i.toNat with aA:=w.aA+1} (Yg w.L i.toNat)else Ya.node {w.off i.toNat with aA:=w.aA+1} (Yg w.L i.toNat)).events=_;split
     ·unfold Ya.aI;split<;>rfl
     ·unfold Ya.node;split<;>rfl
   exact B _
 |drop i=>refine ac ?_;unfold Ya.drop;split<;>rfl
 |bC i =>
  refine ac ?_;unfold Ya.bC;split
  ·rfl
  ·split<;>rfl
 |set s up=>refine ac ?_;unfold Ya.set;split<;>rfl
 |again who =>
  refine ac ?_;unfold Ya.again;split
  ·rfl
  ·split
   ·rfl
   ·split<;>rfl
 |a8 who =>
  refine ac ?_;unfold Ya.a8;split
  ·rfl
  ·split
   ·rfl
   ·split
    ·split<;>rfl
    ·rfl
 |change nodes c D H=>exact ac (FB w nodes)
 |none=>exact ac rfl
theorem bP.bV {w:Ya}(h:bP n k m w):w.events.length<=m:=by
 induction h with
 |new nodes c D =>
  unfold Ya.new;rw[FB];exact av _
 |step m w w' h B ih =>
  rcases Jrs B with e|⟨x,e⟩
  ·rw[e];omega
  ·rw[e,aq,List.length_singleton];omega
theorem bP.aN {w:Ya}(h:bP n k m w)(I:m<=1099511627776):∀i,i<w.events.length->(∀q,q<i->JQ (Qq w.events i) (Qq w.events q)=F)/\∀q,q<w.events.length->Y5 (Qq w.events i) (Qq w.events q)=false:=fun i B=>by
 obtain⟨D,H⟩:=LF h I;exact VG D H B
end Go.Proofs.YtfgapcknnoeplaaGreatDoor

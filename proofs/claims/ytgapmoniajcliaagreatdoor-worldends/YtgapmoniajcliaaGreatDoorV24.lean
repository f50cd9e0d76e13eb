/- Texts laid together. -/
import Derived.Test.YtgapmoniajcliaaGreatDoorV22
import Derived.Test.YtgapmoniajcliaaGreatDoorV20
import Derived.Test.YtgapmoniajcliaaGreatDoorV23
set_option maxRecDepth 10000
set_option maxHeartbeats 8000000
open Option renaming none->aa,some->ab
open Go renaming Calls->ae,Addr->aq
open Int renaming toNat_natCast->af
open Go.RowKit renaming Below->ag
open Nat renaming lt_of_lt_of_le->ah,le_trans->aj,zero_le->am,le_refl->an
open Or renaming inl->ai,inr->ao
open Bool renaming false->F,true->az
namespace Go.Proofs.YtgapmoniajcliaaGreatDoor
open Go.Proofs.Tryz
open Go.RowKit
variable {c:fB}{e:Ending}{W:World}{j i:Nat}{x:Zb×Lv}{a:Za}
section
section
variable {w w':World} {B h:Nat} {O O':Nat->Option Whose} {m:Ya} {X:WB} {ml:List (Zb×Lv)} {nb hn:Nat->Nat} {n k:Nat} {ad:Nat->aq}
theorem SG (e9:Ye w B h O m X ml nb hn)(hz:WZ n k m)(hm:m.mover=aa)(hl:m.aB.length<12)(h0:0<=m.ops)(h1:m.ops<=1152921504606846976){w0:World}{O0:Nat->Option Whose}(f3:Yd (fun k=>O0 k≠aa) (fun k=>O k≠aa) w0 w)(f4:B<=w0.heap.size)(f5:Yi ad w0 O0)(hc:Yn w c.c c.p c.cap)(hf:¬0<(Jg c.c).1)(f6:XS n k c.c)(d6:∀b o,c.p=ab ⟨b,o,aa⟩->w0.heap.size<=b/\b<w.heap.size/\O b=aa):
 ae prog 23 #[.pointer (ab ⟨h,0,aa⟩),.agg #[.int .i64 c.c.n,.int .i64 c.c.k,c.v]] w fun e w'=>e=.returned (.tuple #[])/\Q4 w0 B h O0 (m.eP c.c) w':=by
 obtain⟨O1,U,b6,hU⟩:=e9.yV (P:=fun b=>∃o,c.p=ab ⟨b,o,aa⟩) (fun b hb=>by obtain⟨o,e⟩:=hb;exact d6 b o e) f4 f3;have d7:iR w O1 c:=⟨hc,fun b o e=>b6 b ⟨o,e⟩⟩;have hE:=f5.next hU;obtain⟨f7,d8⟩:=hz.lP hm hl hf f6;obtain⟨J,a8⟩:=Xb (w.alloc (.cells #[.int .i64 c.c.n,.int .i64 c.c.k,.slice c.p c.c.L.length c.cap] 49));have b7:=Zk a8;have a9:=JH a8;have f8:=fQ a8;have b8:h<w.heap.size:=U.lt;have b0:w.heap.size≠h:=by omega
 have a0:J.heap[h]?=ab (.cells (Zi X) 65 (0,0)):=(U.below b7).blk;have b3:X.aY=m.ops:=U.aW.2.1;have b4:=DI (w:=J.drew) (h:=h) (X:=X) a0 (by rw[b3];exact h0) (by rw[b3];exact h1);rw[b3]at b4;obtain⟨I,a2⟩:=Xb (J.drew.setCell ⟨h,40,aa⟩ (.int .i64 (m.ops+1)));rw[<-a2]at b4;have c8:Yp h w J:=(Yp.refl h w).below b7;have a3:Yp h w I:=by rw[a2];exact(c8.below bR.drew).set _ _
 have a4:I.heap[h]?=ab (.cells (Zi {X with aY:=m.ops+1}) 65 (0,0)):=by rw[a2];exact Qc (w:=J.drew) a0 40 _
 have b1:I.heap[w.heap.size]?=ab (.cells #[.int .i64 c.c.n,.int .i64 c.c.k,.slice c.p c.c.L.length c.cap] 49 (0,0)):=by rw[a2];exact(Below.heap_setCell _ _ _ _ b0).trans a9
 have d9:J.heap.size=I.heap.size:=by rw[a2];simp[World.setCell]
 have e0:Yn I c.c c.p c.cap:=⟨hc.strs.same a3.size (fun b o e=>a3.cW b (d6 b o e).2.1 (fun e'=>by have:=b6 b ⟨o,e⟩;rw[e',U.self]at this;cases this)),hc.room,hc.empty,hc.len,hc.size,hc.ints⟩;have a5:=JlS (ad:=ad) U hz h0 e0 hf ((hE.wrote U.self a3).here.q) a3;have a5:ae prog 43 #[.int .i64 m.ops,.agg #[.int .i64 X.cf.c.n,.int .i64 X.cf.c.k,.slice X.cf.p X.cf.c.L.length X.cf.cap],.agg #[.int .i64 c.c.n,.int .i64 c.c.k,.slice c.p c.c.L.length c.cap],.int .i64 X.act,.string ⟨#[120]⟩] I fun e H=>∃D,e=.returned (.tuple #[.pointer (ab ⟨D,0,aa⟩),.nilIface])/\Hid (∃S,XM H I.heap.size D S (JD m.ops m.aC (aG m.aB m.aC) c.c)/\ag I.heap.size I H):=a5.mono fun e H hq=>by
  obtain⟨D,S,g1,g2,g3⟩:=hq;exact⟨D,g1,S,g2,g3⟩
 have f9:J.cell? ⟨h,36,aa⟩=ab (.int .i64 X.cf.c.n):=(Xa a0 36).1;have g0:J.cell? ⟨h,37,aa⟩=ab (.int .i64 X.cf.c.k):=(Xa a0 37).1;have g4:J.cell? ⟨h,38,aa⟩=ab (.slice X.cf.p X.cf.c.L.length X.cf.cap):=(Xa a0 38).1;have g5:J.cell? ⟨h,39,aa⟩=ab (.int .i64 X.act):=(Xa a0 39).1;have g6:I.cell? ⟨h,36,aa⟩=ab (.int .i64 X.cf.c.n):=(Xa a4 36).1;have g7:I.cell? ⟨h,37,aa⟩=ab (.int .i64 X.cf.c.k):=(Xa a4 37).1;have g8:I.cell? ⟨h,38,aa⟩=ab (.slice X.cf.p X.cf.c.L.length X.cf.cap):=(Xa a4 38).1;have g9:I.cell? ⟨h,39,aa⟩=ab (.int .i64 X.act):=(Xa a4 39).1;have x0:J.cell? ⟨w.heap.size,0,aa⟩=ab (.int .i64 c.c.n):=(Xa a9 0).1;have x1:J.cell? ⟨w.heap.size,1,aa⟩=ab (.int .i64 c.c.k):=(Xa a9 1).1;have x2:J.cell? ⟨w.heap.size,2,aa⟩=ab (.slice c.p c.c.L.length c.cap):=(Xa a9 2).1;have y0:I.cell? ⟨w.heap.size,0,aa⟩=ab (.int .i64 c.c.n):=(Xa b1 0).1;have y1:I.cell? ⟨w.heap.size,1,aa⟩=ab (.int .i64 c.c.k):=(Xa b1 1).1;have y2:I.cell? ⟨w.heap.size,2,aa⟩=ab (.slice c.p c.c.L.length c.cap):=(Xa b1 2).1;have e4:Hid (J=w.alloc (.cells #[.int .i64 c.c.n,.int .i64 c.c.k,.slice c.p c.c.L.length c.cap] 49)):=a8;have e5:ae prog 44 #[.pointer (ab ⟨h,0,aa⟩)] J.drew fun e w'=>e=.returned (.int .i64 m.ops)/\w'=I:=b4
 have b5:Hid (∀D H,(∃S,XM H I.heap.size D S (JD m.ops m.aC (aG m.aB m.aC) c.c)/\ag I.heap.size I H)->∀K,K=mZ H h D c ->
  (H.cell? ⟨w.heap.size,0,aa⟩=ab (.int .i64 c.c.n)/\H.cell? ⟨w.heap.size,1,aa⟩=ab (.int .i64 c.c.k)/\H.cell? ⟨w.heap.size,2,aa⟩=ab (.slice c.p c.c.L.length c.cap))/\(∀i,32<=i->i<=35->(∃v,H.cell? ⟨h,i,aa⟩=ab v)/\H.frozen? ⟨h,i,aa⟩=F) /\
  ae prog 46 #[.pointer (ab ⟨D,0,aa⟩)] K.drew fun e w'=>∃p d,e=.returned (.slice p (JD m.ops m.aC (aG m.aB m.aC) c.c).begin.length d) /\
   ae prog 45 #[.pointer (ab ⟨h,0,aa⟩),.slice p (JD m.ops m.aC (aG m.aB m.aC) c.c).begin.length d] w' fun e w6=>e=.returned (.tuple #[])/\Hid (Q4 w0 B h O0 (m.eP c.c) w6)):=fun D H hS K a6=>by
  obtain⟨S,d0,d1⟩:=hS;have d2:=(d1.block _ (by omega)).trans b1;have d3:=(d1.block h (by omega)).trans a4;have a7:Yp h w H:=a3.below d1;obtain⟨e6,Z⟩:=UI d3 D c;rw[<-a6]at e6 Z;have h3:Yp h w K:=⟨Z.os.trans a7.os,Z.tape.trans a7.tape,Z.output.trans a7.output,aj a7.size Z.size,fun k hk b0=>(Z.cW k (ah hk a7.size) b0).trans (a7.cW k hk b0)⟩;have d4:XM K I.heap.size D S (JD m.ops m.aC (aG m.aB m.aC) c.c):=d0.dA Z.size (fun k hk=>Z.cW k (d0.dH k hk).2 (by have:=(d0.dH k hk).1;omega));obtain⟨O4,h4,k5,h5⟩:=U.nA hz hm h3 e6 (d4.base (aj U.base (aj c8.size (Nat.le_of_eq d9)))) (fun k hk=>by have:=(d4.dH k hk).1;omega) d7;refine⟨⟨(Xa d2 0).1,(Xa d2 1).1,(Xa d2 2).1⟩,fun i k6 k7=>⟨?_,(Xa d3 i).2⟩,?_⟩
  ·have:=(Xa d3 i).1;have b8:i<(Zi {X with aY:=m.ops+1}).size:=by show i<43;omega
   rw[Array.getElem?_eq_getElem b8]at this;exact⟨_,this⟩
  ·refine(VW (d4.dA (w':=K.drew) nR (fun _ _=>rfl))).mono fun e w' hq=>?_
   obtain⟨⟨p,d,e1,e2⟩,e3⟩:=hq;have hb:ag K.heap.size K w':=(Below.refl _ K).drew.trans e3;obtain⟨O5,h6,h7,h8,_⟩:=h4.grow hb;refine⟨p,d,e1,(oS h6 d8.bO (by have:=zR (zU hz hf);omega) (e2.out (fun b h1 h2=>h7 b h1 h2))).mono fun e w6 hq=>?_⟩;obtain⟨g1,O6,v6,h9,i0,_,i1⟩:=hq;exact⟨g1,O6,_,h9,nb,hn,i0,hU.trans' ((h5.trans' h8).trans' i1)⟩
 generalize (JD m.ops m.aC (aG m.aB m.aC) c.c).begin.length=bl at *;generalize Q4 w0 B h O0 (m.eP c.c)=G at *;obtain⟨MD,d5⟩:∃MD:Nat->World->Prop,MD=fun D H=>∃S,XM H I.heap.size D S (JD m.ops m.aC (aG m.aB m.aC) c.c)/\ag I.heap.size I H:=⟨_,rfl⟩
 have a5:ae prog 43 #[.int .i64 m.ops,.agg #[.int .i64 X.cf.c.n,.int .i64 X.cf.c.k,.slice X.cf.p X.cf.c.L.length X.cf.cap],.agg #[.int .i64 c.c.n,.int .i64 c.c.k,.slice c.p c.c.L.length c.cap],.int .i64 X.act,.string ⟨#[120]⟩] I fun e H=>∃D,e=.returned (.tuple #[.pointer (ab ⟨D,0,aa⟩),.nilIface])/\Hid (MD D H):=a5.mono fun e H hq=>by
  obtain⟨D,g1,g2⟩:=hq;exact⟨D,g1,by rw[d5];exact g2.out⟩
 have b5:Hid (∀D H,MD D H->∀K,K=mZ H h D c->(H.cell? ⟨w.heap.size,0,aa⟩=ab (.int .i64 c.c.n)/\H.cell? ⟨w.heap.size,1,aa⟩=ab (.int .i64 c.c.k)/\H.cell? ⟨w.heap.size,2,aa⟩=ab (.slice c.p c.c.L.length c.cap))/\(∀i,32<=i->i<=35->(∃v,H.cell? ⟨h,i,aa⟩=ab v)/\H.frozen? ⟨h,i,aa⟩=F) /\
  ae prog 46 #[.pointer (ab ⟨D,0,aa⟩)] K.drew fun e w'=>∃p d,e=.returned (.slice p bl d)/\ae prog 45 #[.pointer (ab ⟨h,0,aa⟩),.slice p bl d] w' fun e w6=>e=.returned (.tuple #[])/\Hid (G w6)):=by rw[d5];exact b5.out
 have e7:Hid (∀H D,mZ H h D c=(((H.setCell ⟨h,32,aa⟩ (.pointer (ab ⟨D,0,aa⟩))).setCell ⟨h,33,aa⟩ (.int .i64 c.c.n)).setCell ⟨h,34,aa⟩ (.int .i64 c.c.k)).setCell ⟨h,35,aa⟩ (.slice c.p c.c.L.length c.cap)):=fun _ _=>rfl
 have hv:c.v=.slice c.p c.c.L.length c.cap:=rfl;rw[hv];clear hv d5 e9 hz hm hl h0 h1 f3 f4 f5 hc hf f6 d6 U b6 hU d7 hE f7 d8 a8 b7 a9 f8 b8 b0 a0 b3 b4 a2 c8 a3 a4 b1 d9 e0;generalize c.c.L.length=cl at *;generalize X.cf.c.L.length=fl at *;generalize c.c.n=cn at *;generalize c.c.k=ck at *;generalize X.cf.c.n=fn at *;generalize X.cf.c.k=fk at *;go_enter func23,ntmps23;go_wp2_with (rw[<-e4.out])
 go_cut [4,5]from 6 to 20 (fun x4 x5 W=>∃D,x4=.pointer (ab ⟨D,0,aa⟩)/\x5=.nilIface/\MD D W)
 case first =>
  go_region_law (first|(go_simp;go_at_call 44;refine e5.mono ?_;rintro e wn ⟨rfl,e8⟩;rw[e8];clear e8 wn;go_simp)|(go_simp;go_at_call 43;refine a5.mono ?_;rintro e H ⟨D,rfl,i2⟩;go_simp))
  all_goals (go_wp2_with fail;go_meet)
  all_goals exact⟨D,rfl,rfl,i2.out⟩
 case rest =>
  obtain⟨D,rfl,rfl,hM⟩:=hcut;obtain⟨K,a6⟩:=Xb (mZ wc h D c);obtain⟨⟨z0,z1,z2⟩,b2,i3⟩:=b5.out D wc hM K a6;obtain⟨⟨l0,i4⟩,i5⟩:=b2 32 (by decide) (by decide);obtain⟨⟨l7,i8⟩,i9⟩:=b2 33 (by decide) (by decide);obtain⟨⟨l9,j1⟩,j2⟩:=b2 34 (by decide) (by decide);obtain⟨⟨m0,k0⟩,k2⟩:=b2 35 (by decide) (by decide);rw[e7.out]at a6;have k3:Hid (K=(((wc.setCell ⟨h,32,aa⟩ (.pointer (ab ⟨D,0,aa⟩))).setCell ⟨h,33,aa⟩ (.int .i64 cn)).setCell ⟨h,34,aa⟩ (.int .i64 ck)).setCell ⟨h,35,aa⟩ (.slice c.p cl c.cap)):=a6;clear a6 b2 hM b5 e7 a5 e5 e4 f9 g0 g4 g5 g6 g7 g8 g9 x0 x1 x2 y0 y1 y2;go_wp2_with (rw[<-k3.out])
  clear z0 z1 z2 i4 i8 j1 k0 i5 i9 j2 k2;go_region_held3 (fun _=>True) (trivial) (first|(go_at_call 46;refine i3.mono ?_;rintro e w5 ⟨p5,c5,rfl,k4⟩)|(go_at_call 45;refine k4.mono ?_;rintro e w6 ⟨rfl,HF⟩))
  go_wp2
  go_end0
  exact⟨rfl,HF.out⟩
end
end
section
open Ring
def Ya.gC (m:Ya)(l:List BA):Int×Int :=
 if m.mover.isSome=az then(11,-1)else if 12<=m.aB.length then(7,-1)else if 0<(Zr l (aG m.aB m.aC).n (aG m.aB m.aC).k).1 then Zr l (aG m.aB m.aC).n (aG m.aB m.aC).k else if 16<m.nodes.length+(m.fresh l).length then(7,-1)else(0,-1)
section
variable {w w':World} {B h:Nat} {O O':Nat->Option Whose} {m:Ya} {X:WB} {ml:List (Zb×Lv)} {nb hn:Nat->Nat} {n k:Nat} {ad:Nat->aq}
def ZY (ad:Nat->aq)(w:World)(B h:Nat)(O:Nat->Option Whose)(m:Ya)(l:List BA)(e:Ending)(w':World):Prop :=
 (0<(m.gC l).1/\(∃D,e=.returned D/\Jd w' ad D (m.gC l).1 (m.gC l).2)/\Q4 w B h O m w') ∨
 (¬0<(m.gC l).1/\e=.returned .nilIface/\∃c:Xg,c.n=(aG m.aB m.aC).n/\c.k=(aG m.aB m.aC).k/\XC (Xy wX) l c.L/\¬0<(Jg c).1/\Q4 w B h O ((m.cE (m.fresh l)).eP c) w')
def mH (ad:Nat->aq)(w:World)(l:List BA)(D H:Int)(J:Nat)(I:Value)(W:World):Prop :=
 ag w.heap.size w W/\w.heap.size<=J/\((0<(Zr l D H).1/\(∃t v,I=.iface t v)/\Jd W ad I (Zr l D H).1 (Zr l D H).2) ∨
  (¬0<(Zr l D H).1/\I=.nilIface/\∃c:fB,W.heap[J]?=ab (.cells #[.int .i64 c.c.n,.int .i64 c.c.k,.slice c.p c.c.L.length c.cap] 49 (0,0))/\c.c.n=D/\c.c.k=H/\XC (Xy wX) l c.c.L/\¬0<(Jg c.c).1/\Yn W c.c c.p c.cap/\∀b o,c.p=ab ⟨b,o,aa⟩->w.heap.size<=b/\b<W.heap.size))
theorem AQ {W0 D:World}{l:List BA}{n0 k0:Int}(hb:ag w.heap.size w W0)(hq:j3 ad W0 l n0 k0 e D):
 ∃cn ck q cl cc x8,e=.returned (.tuple #[.agg #[.int .i64 cn,.int .i64 ck,.slice q cl cc],x8])/\mH ad w l n0 k0 D.heap.size x8 (D.alloc (.cells #[.int .i64 cn,.int .i64 ck,.slice q cl cc] 49)) /\
  ∀H x0 x1 x2,w.heap.size<=H->H<W0.heap.size->D.heap[H]?=ab (.cells #[.int .i64 x0,.int .i64 x1,x2] 49 (0,0))->mH ad w l n0 k0 H x8 (Y0 D H (.int .i64 cn) (.int .i64 ck) (.slice q cl cc)):=by
 obtain⟨hq,a3⟩:=hq;have I:ag w.heap.size w D:=hb.trans (a3.mono hb.size);rcases hq with⟨K,ev,h2,U⟩|⟨K,c,h2,U,h4,h5,h6,J,h8⟩
 ·have a2:=U.some K;refine⟨0,0,aa,0,0,ev,h2,⟨I.alloc I.size _,I.size,ai ⟨K,a2,U.below (bR.alloc nR _)⟩⟩,fun H x0 x1 x2 Z _ a0=>⟨xS I Z _ _ _,Z,ai ⟨K,a2,U.pS (b:=H) (x:=x1) (Xa a0 1).1 (fun k hk=>sM _ _ _ _ _ hk)⟩⟩⟩
 ·refine⟨c.c.n,c.c.k,c.p,c.c.L.length,c.cap,.nilIface,h2,⟨I.alloc I.size _,I.size,ao ⟨K,rfl,c,?_,U,h4,h5,h6,J.below (bR.alloc nR _),fun b o e=>?_⟩⟩,fun H x0 x1 x2 Z a5 a0=>⟨xS I Z _ _ _,Z,ao ⟨K,rfl,c,G2 a0 _ _ _,U,h4,h5,h6,?_,fun b o e=>?_⟩⟩⟩
  ·show(D.heap.push _)[D.heap.size]?=_;simp
  ·have:=h8 b o e;have:=hb.size;refine⟨by omega,?_⟩;show b<(D.heap.push _).size;rw[Array.size_push];omega
  ·exact⟨J.strs.same (by unfold Y0;simp[World.setCell]) (fun b o e=>sM _ _ _ _ _ (by have:=(h8 b o e).1;omega)),J.room,J.empty,J.len,J.size,J.ints⟩
  ·have a4:=h8 b o e;have:=hb.size;refine⟨by omega,?_⟩;unfold Y0;simpa[World.setCell]using a4.2
end
end
section
open Ring
section
variable {w w':World} {B h:Nat} {O O':Nat->Option Whose} {m:Ya} {X:WB} {ml:List (Zb×Lv)} {nb hn:Nat->Nat} {n k:Nat} {ad:Nat->aq}
theorem Q4.here (H:Ye w B h O m X ml nb hn)(D:ag w.heap.size w W):Q4 w B h O m W:=⟨O,X,ml,nb,hn,H.below D,Yd.aJ D⟩
theorem Ye.jW (D:Ye w B h O m X ml nb hn)(H:w.heap.size<=j):O j=none:=by
 cases e:O j with
 |none=>rfl
 |some o=>have:=(D.aO j o e).2;omega
theorem L9 (K:Ye w B h O m X ml nb hn)(hz:WZ n k m)(h0:0<=m.ops)(h1:m.ops<=1152921504606846976)(hf:m.nodes.length<=16)(p:Option aq)(l:List BA)(cap:Nat)(hl:l.length<=1000)(hs:Strs w p l)(hE:Yi ad w O)(hm:m.mover=aa)(d9:¬12<=m.aB.length){D:Nat}(hW:ag w.heap.size w W)(e0:w.heap.size<=D)(hF:¬0<(Zr l (aG m.aB m.aC).n (aG m.aB m.aC).k).1)
 (hk:W.heap[D]?=ab (.cells #[.int .i64 c.c.n,.int .i64 c.c.k,.slice c.p c.c.L.length c.cap] 49 (0,0))) (b5:c.c.n=(aG m.aB m.aC).n) (b6:c.c.k=(aG m.aB m.aC).k) (e3:XC (Xy wX) l c.c.L) (a8:¬0<(Jg c.c).1) (a0:Yn W c.c c.p c.cap) (U:∀b o,c.p=ab ⟨b,o,aa⟩->w.heap.size<=b/\b<W.heap.size):
 ae prog 22 #[.pointer (ab ⟨h,0,aa⟩),.slice p l.length cap] W fun e H=>∃q cc vp vc,e=.returned (.slice q (m.fresh l).length cc)/\H.cell? ⟨h,31,aa⟩=ab (.slice vp m.nodes.length vc)/\H.cell? ⟨2,0,aa⟩=ab (.iface 287 (.pointer (ab (ad 6)))) /\
  (16<m.nodes.length+(m.fresh l).length->Hid (ZY ad w B h O m l (.returned (.iface 287 (.pointer (ab (ad 6))))) H)) /\
  (¬16<m.nodes.length+(m.fresh l).length->ae prog 17 #[.pointer (ab ⟨h,0,aa⟩),.slice q (m.fresh l).length cc] H fun e J=>e=.returned (.tuple #[])/\(J.cell? ⟨D,0,aa⟩=ab (.int .i64 c.c.n)/\J.cell? ⟨D,1,aa⟩=ab (.int .i64 c.c.k)/\J.cell? ⟨D,2,aa⟩=ab (.slice c.p c.c.L.length c.cap)) /\
   ae prog 23 #[.pointer (ab ⟨h,0,aa⟩),.agg #[.int .i64 c.c.n,.int .i64 c.c.k,.slice c.p c.c.L.length c.cap]] J fun e w4=>e=.returned (.tuple #[])/\Hid (ZY ad w B h O m l (.returned .nilIface) w4)):=by
 have c8:=K.below hW;have hN:¬0<(Xj l).1:=fun h=>hF (by unfold Zr;rw[if_pos h];exact h)
 have d0:=(YP (l:=l) (by omega)).1;have a9:∀d,(if 16<m.nodes.length+(m.fresh l).length then((7:Int),(-1:Int))else(0,-1))=d->m.gC l=d:=fun d hd=>by
  unfold Ya.gC;rw[hm,if_neg (by decide),if_neg d9,if_neg hF];exact hd
 refine(SQ c8 (by omega) p l cap hl (hs.below hW)).mono fun e H Z=>?_
 obtain⟨⟨v,e1,hO⟩,I⟩:=Z;obtain⟨q,cc,rfl,g1,g2,g3,g4⟩:=hO.form;have a3:=hW.trans (I.mono hW.size);have a4:=K.below a3;obtain⟨vp,vc,hv,_⟩:=a4.cD.form;have d1:((List.range m.nodes.length).map nb).length=m.nodes.length:=by simp
 rw[d1]at hv;have b0:=hE.below a3;refine⟨q,cc,vp,vc,e1,by rw[<-hv];exact(a4.cell 31).1,b0.here.sv.eZ.c6,fun a5=>?_,fun a5=>?_⟩
 ·have hF:=a9 _ (if_pos a5);exact ai ⟨by rw[hF];decide,⟨_,rfl,by rw[hF];exact Jd.b8 6 (by decide)⟩,Q4.here K a3⟩
 ·have d2:=a9 _ (if_neg a5);have d3:∀b o,q=ab (pA b o)->O b=none:=fun b o e=>K.jW (by have:=(g4 b o e).1;have:=hW.size;omega)
  have b1:∀x∈m.fresh l,Jo x=true:=fun x hx=>d0 x ((List.mem_filter.1 hx).1)
  refine(DF (ad:=ad) a4 q (m.fresh l) cc (by omega) b1 g1 d3 b0).mono fun e J Z=>?_
  obtain⟨e2,O3,X3,e4,e5,e6,d4,a2⟩:=Z;have b2:∀j,w.heap.size<=j->j<H.heap.size->J.heap[j]?=H.heap[j]?:=fun j a6 b3=>a2.block j b3 (fun e=>e (K.jW a6))
  have b4:D<W.heap.size:=by
   rcases Nat.lt_or_ge D W.heap.size with h'|h'
   ·exact h'
   ·rw[Array.getElem?_eq_none h']at hk;cases hk
  have a7:=(b2 D e0 (ah b4 I.size)).trans ((I.block D b4).trans hk);have d5:=(Yd.aJ a3).trans' a2;have d6:∀j,w.heap.size<=j->j<H.heap.size->O3 j=none:=fun j a6 b3=>by
   cases e:O3 j with
   |none=>rfl
   |some o =>
    rcases a2.new j (by rw[e];exact fun e=>by cases e)with h'|h'
    ·exact absurd (K.jW a6) h'
    ·omega
  have d7:Yn J c.c c.p c.cap:=⟨a0.strs.same (aj I.size a2.size) (fun b o e=>(b2 b (U b o e).1 (ah (U b o e).2 I.size)).trans (I.block b (U b o e).2)),a0.room,a0.empty,a0.len,a0.size,a0.ints⟩;have d8:XS n k c.c:=by
   have h1:XS c.c.n.toNat c.c.k.toNat c.c:=by
    obtain⟨h1,h2,_,_,h5⟩:=Xm a8;exact⟨by omega,by omega,by omega,by omega,by omega,by omega,h5⟩
   have h2:=(hz.cU m.aC hz.act).2;rw[b5,b6,h2.n_,h2.k_,af,af]at h1;exact h1
  refine⟨e2,⟨(Xa a7 0).1,(Xa a7 1).1,(Xa a7 2).1⟩,(SG (ad:=ad) d4 (hz.kQ b1) hm (by show m.aB.length<12;omega) h0 h1 d5 K.base hE d7 a8 d8 (fun b o e=>⟨(U b o e).1,ah (U b o e).2 (aj I.size a2.size),d6 b (U b o e).1 (ah (U b o e).2 I.size)⟩)).mono fun e w4 Z=>⟨Z.1,?_⟩⟩;exact ao ⟨by rw[d2];decide,rfl,c.c,b5,b6,e3,a8,Z.2⟩
theorem SD (hp:Ye w B h O m X ml nb hn)(hz:WZ n k m)(h0:0<=m.ops)(h1:m.ops<=1152921504606846976)(hf:m.nodes.length<=16)(p:Option aq)(l:List BA)(cap:Nat)(hl:l.length<=1000)(hc:l.length<=cap)(hx:∀x∈l,x.size<=1000)(hs:Strs w p l)(hE:Yi ad w O):
 ae prog 10 #[.pointer (ab ⟨h,0,aa⟩),.slice p l.length cap] w (ZY ad w B h O m l):=by
 have a6:=sC hp;have f4:=hE.here.held;cases hm:m.mover.isSome with
 |true =>
  rw[hm]at a6;have hF:m.gC l=(11,-1):=by unfold Ya.gC;rw[hm,if_pos rfl]
  have HG:Hid (ZY ad w B h O m l (.returned (.iface 287 (.pointer (ab (ad 10))))) w):=ai ⟨by rw[hF];decide,⟨_,rfl,by rw[hF];exact Jd.b8 10 (by decide)⟩,Q4.here hp bR⟩;generalize ZY ad w B h O m l=G at *;clear hp hz h0 h1 hf hl hc hx hs hE hF hm;go_enter func10,ntmps10;go_wp2_with fail
  refine a6.mono ?_;rintro e D ⟨rfl,a3⟩;rw[a3];clear a3 D;go_wp2;exact HG.out
 |false =>
  rw[hm]at a6;have b4:m.mover=none:=by cases e:m.mover with|none=>rfl|some a=>rw[e]at hm;cases hm
  have a4:=EL hp hz;by_cases b0:12<=m.aB.length
  ·have hF:m.gC l=(7,-1):=by unfold Ya.gC;rw[hm,if_neg (by decide),if_pos b0]
   have a4:ae prog 14 #[.pointer (ab (pA h 0))] w fun e w'=>e=.returned (.tuple #[.int .i64 m.aB.length,.int .i64 m.aC])/\w'.cell? ⟨2,0,aa⟩=ab (.iface 287 (.pointer (ab (ad 6))))/\Hid (ZY ad w B h O m l (.returned (.iface 287 (.pointer (ab (ad 6))))) w'):=a4.mono fun e w' hq=>⟨hq.1,(hE.below hq.2).here.sv.eZ.c6,ai ⟨by rw[hF];decide,⟨_,rfl,by rw[hF];exact Jd.b8 6 (by decide)⟩,Q4.here hp hq.2⟩⟩
   generalize ZY ad w B h O m l=G at *;have z1:(12:Int)<=(m.aB.length:Int):=by omega
   clear hp hz h0 h1 hf hl hc hx hs hE hF hm b4 b0;generalize m.aB.length=cl at *;generalize m.aC=ac at *;go_enter func10,ntmps10;go_wp2_with fail
   refine a6.mono ?_;rintro e D ⟨rfl,a3⟩;rw[a3];clear a3 D;go_wp2_with fail
   refine a4.mono ?_;rintro e w2 ⟨rfl,c6,HG⟩;go_wp2;exact HG.out
  ·obtain⟨I,a7⟩:=Xb ((aG m.aB m.aC).n);obtain⟨J,a8⟩:=Xb ((aG m.aB m.aC).k);have b5:Zt I/\Zt J:=by
    have:=hp.cf.1.ints;rw[hp.cV]at this;rw[a7,a8];exact this
   have b6:∀W,ag w.heap.size w W->ae prog 16 #[.slice p l.length cap,.int .i64 I,.int .i64 J] W (j3 ad W l I J):=fun W hW=>FN ad p l cap I J W hl hc hx b5.1 b5.2 (hs.below hW) (hE.below hW).here
   have a4:ae prog 14 #[.pointer (ab (pA h 0))] w fun e D=>e=.returned (.tuple #[.int .i64 m.aB.length,.int .i64 m.aC])/\(D.cell? (pA h 36)=ab (.int .i64 I)/\D.cell? (pA h 37)=ab (.int .i64 J))/\((D.alloc (.cells #[.int .i64 0,.int .i64 0,.slice aa 0 0] 49)).cell? (pA h 36)=ab (.int .i64 I)/\(D.alloc (.cells #[.int .i64 0,.int .i64 0,.slice aa 0 0] 49)).cell? (pA h 37)=ab (.int .i64 J)) /\
    (ae prog 16 #[.slice p l.length cap,.int .i64 I,.int .i64 J] D.drew fun e K=>∃cn U q cl Z H,e=.returned (.tuple #[.agg #[.int .i64 cn,.int .i64 U,.slice q cl Z],H])/\Hid (mH ad w l I J K.heap.size H (K.alloc (.cells #[.int .i64 cn,.int .i64 U,.slice q cl Z] 49)))) /\
    (ae prog 16 #[.slice p l.length cap,.int .i64 I,.int .i64 J] (D.alloc (.cells #[.int .i64 0,.int .i64 0,.slice aa 0 0] 49)).drew fun e K=>∃cn U q cl Z H,e=.returned (.tuple #[.agg #[.int .i64 cn,.int .i64 U,.slice q cl Z],H])/\(K.cell? (pA D.heap.size 0)=ab (.int .i64 0)/\K.cell? (pA D.heap.size 1)=ab (.int .i64 0)/\K.cell? (pA D.heap.size 2)=ab (.slice aa 0 0))/\(K.frozen? (pA D.heap.size 0)=F/\K.frozen? (pA D.heap.size 1)=F/\K.frozen? (pA D.heap.size 2)=F)/\Hid (mH ad w l I J D.heap.size H (((K.setCell (pA D.heap.size 0) (.int .i64 cn)).setCell (pA D.heap.size 1) (.int .i64 U)).setCell (pA D.heap.size 2) (.slice q cl Z)))):=a4.mono fun e D hq=>by
    obtain⟨e1,a9⟩:=hq;have c8:ag w.heap.size w (D.alloc (.cells #[.int .i64 0,.int .i64 0,.slice aa 0 0] 49)):=a9.alloc a9.size _;have p1:=hp.below a9;have p2:=hp.below c8;have b1:X.cf.c.n=I/\X.cf.c.k=J:=by rw[hp.cV,a7,a8];exact⟨rfl,rfl⟩
    refine⟨e1,⟨by rw[<-b1.1];exact(p1.cell 36).1,by rw[<-b1.2];exact(p1.cell 37).1⟩,⟨by rw[<-b1.1];exact(p2.cell 36).1,by rw[<-b1.2];exact(p2.cell 37).1⟩,(b6 D.drew a9.drew).mono fun e K hq=>?_,(b6 _ c8.drew).mono fun e K hq=>?_⟩
    ·obtain⟨cn,U,q,cl,Z,H,g1,g2,_⟩:=AQ a9.drew hq;exact⟨cn,U,q,cl,Z,H,g1,g2⟩
    ·obtain⟨cn,U,q,cl,Z,H,g1,_,g3⟩:=AQ c8.drew hq;have d1:D.heap.size<(D.alloc (.cells #[.int .i64 0,.int .i64 0,.slice aa 0 0] 49)).drew.heap.size:=by show _<(D.heap.push _).size;rw[Array.size_push];omega
     have a5:K.heap[D.heap.size]?=ab (.cells #[.int .i64 0,.int .i64 0,.slice aa 0 0] 49 (0,0)):=(hq.2.block _ d1).trans (by show(D.heap.push _)[D.heap.size]?=_;simp);exact⟨cn,U,q,cl,Z,H,g1,⟨(Xa a5 0).1,(Xa a5 1).1,(Xa a5 2).1⟩,⟨(Xa a5 0).2,(Xa a5 1).2,(Xa a5 2).2⟩,g3 D.heap.size 0 0 (.slice aa 0 0) a9.size d1 a5⟩
   have d2:0<(Zr l I J).1->m.gC l=Zr l I J:=fun hq=>by
    unfold Ya.gC;rw[hm,if_neg (by decide),if_neg b0,<-a7,<-a8,if_pos hq]
   have b2:Hid (∀b7 H W,mH ad w l I J b7 H W->(∃t v,H=.iface t v)->ZY ad w B h O m l (.returned H) W):=fun b7 H W hR ht=>by
    obtain⟨r1,r2,r3|r3⟩:=hR
    ·have hF:=d2 r3.1;exact ai ⟨by rw[hF];exact r3.1,⟨_,rfl,by rw[hF];exact r3.2.2⟩,Q4.here hp r1⟩
    ·obtain⟨t,v,ht⟩:=ht;rw[r3.2.1]at ht;cases ht
   have b3:Hid (∀b7 H W,mH ad w l I J b7 H W->(∃t v,H=.iface t v)∨H=.nilIface/\∃cn U q cl Z,ae prog 22 #[.pointer (ab (pA h 0)),.slice p l.length cap] W fun e w2=>∃q2 d0 vp vc,e=.returned (.slice q2 (m.fresh l).length d0)/\w2.cell? (pA h 31)=ab (.slice vp m.nodes.length vc)/\w2.cell? ⟨2,0,aa⟩=ab (.iface 287 (.pointer (ab (ad 6)))) /\
    (16<m.nodes.length+(m.fresh l).length->Hid (ZY ad w B h O m l (.returned (.iface 287 (.pointer (ab (ad 6))))) w2)) /\
    (¬16<m.nodes.length+(m.fresh l).length->ae prog 17 #[.pointer (ab (pA h 0)),.slice q2 (m.fresh l).length d0] w2 fun e w3=>e=.returned (.tuple #[])/\(w3.cell? (pA b7 0)=ab (.int .i64 cn)/\w3.cell? (pA b7 1)=ab (.int .i64 U)/\w3.cell? (pA b7 2)=ab (.slice q cl Z)) /\
     ae prog 23 #[.pointer (ab (pA h 0)),.agg #[.int .i64 cn,.int .i64 U,.slice q cl Z]] w3 fun e w4=>e=.returned (.tuple #[])/\Hid (ZY ad w B h O m l (.returned .nilIface) w4))):=fun b7 H W hR=>by
    obtain⟨r1,r2,r3|⟨r3,r4,c,r5,r6,r7,r8,r9,e2,e3⟩⟩:=hR
    ·exact ai r3.2.1
    ·exact ao ⟨r4,c.c.n,c.c.k,c.p,c.c.L.length,c.cap,L9 hp hz h0 h1 hf p l cap hl hs hE b4 b0 r1 r2 (by rw[<-a7,<-a8];exact r3) r5 (by rw[<-a7];exact r6) (by rw[<-a8];exact r7) r8 r9 e2 e3⟩
   generalize ZY ad w B h O m l=G at *;have z1:¬(12:Int)<=(m.aB.length:Int):=by omega
   have z3:=EV m l;generalize (m.fresh l).length=fl at *;generalize m.nodes.length=N at *;generalize m.aB.length=f5 at *;generalize m.aC=ac at *;clear hp hz h0 h1 hc hx hs hE hm b4 b0 a7 a8 b5 b6 d2;obtain⟨RC,d3⟩:∃RC:Nat->Value->World->Prop,RC=mH ad w l I J:=⟨_,rfl⟩;rw[<-d3]at a4 b2 b3;clear d3;go_enter func10,ntmps10;go_wp2_with fail
   refine a6.mono ?_;rintro e D ⟨rfl,a3⟩;rw[a3];clear a3 D;go_wp2_with fail
   refine a4.mono ?_;rintro e D ⟨rfl,⟨e4,e5⟩,⟨e6,e7⟩,d4,d5⟩;clear a4 a6;go_wp2_with fail
   go_cut [7,8]from 23 to 37 (fun x7 H W=>∃b7 t8,t8=H/\x7=.pointer (ab (pA b7 0))/\RC b7 t8 W)
   case first =>
    go_region_law (go_simp;go_at_call 16;first|(with_reducible refine d4.mono ?_;rintro e K ⟨cn,U,q,cl,Z,H,rfl,d6⟩;go_simp)|(with_reducible refine d5.mono ?_;rintro e K ⟨cn,U,q,cl,Z,H,rfl,⟨a0,a1,a2⟩,⟨f0,f1,f2⟩,d6⟩;go_simp))
    all_goals (go_wp2_with fail;go_meet)
    all_goals exact⟨_,_,rfl,rfl,d6.out⟩
   case rest =>
    obtain⟨b7,t8,e8,rfl,hR⟩:=hcut;subst e8;have HR:Hid _:=hR;clear hR d4 d5 e4 e5 e6 e7;rcases b3.out b7 t8 wc HR.out with d7|⟨rfl,cn,U,q,cl,Z,d8⟩
    ·have HG:Hid (G (.returned t8) wc):=b2.out b7 t8 wc HR.out d7;obtain⟨t,v,rfl⟩:=d7;clear b3 b2 HR;go_wp2;exact HG.out
    ·clear b3 b2 HR;go_wp2_with fail
     refine d8.mono ?_;rintro e w2 ⟨q2,d0,vp,vc,rfl,f6,c6,hB,hA⟩;clear d8;by_cases d9:16<N+fl
     ·have HG:=hB d9;have e9:(16:Int)<(N:Int)+(fl:Int):=by omega
      clear hA hB;go_wp2;exact HG.out
     ·have e0:=hA d9;have e9:¬(16:Int)<(N:Int)+(fl:Int):=by omega
      clear hA hB;go_wp2_with fail
      refine e0.mono ?_;rintro e w3 ⟨rfl,⟨y0,y1,y2⟩,f3⟩;clear e0;go_wp2_with fail
      refine f3.mono ?_;rintro e w4 ⟨rfl,HG⟩;go_wp2;exact HG.out
end
end
section
section
variable {w w':World} {B h:Nat} {O O':Nat->Option Whose} {m:Ya} {X:WB} {ml:List (Zb×Lv)} {nb hn:Nat->Nat} {n k:Nat} {ad:Nat->aq}
theorem NR (x:Je)(y:Zb):(x.aD y).2.length<=1:=by
 unfold Je.aD;split
 ·exact am _
 ·split
  ·exact am _
  ·unfold Je.cG;split
   ·exact an _
   ·split
    ·exact an _
    ·show(if _ then _ else _:List Zb).length<=1;split
     ·exact am _
     ·exact an _
theorem Je.iM (x:Je)(y:Zb):(x.aD y).1.name=x.name:=by
 unfold Je.aD;split
 ·rfl
 ·split
  ·rfl
  ·rename_i H D;have hn:=G0 D;unfold Je.cG;split
   ·exact hn
   ·split<;>exact hn
theorem SN (hp:Ye w B h O m X ml nb hn)(hi:i<m.nodes.length)(hL:Jn w x)(a6:∀b o,x.2.1=ab ⟨b,o,aa⟩->O b=ab .bD)(K:YF x.1)(hE:Yi ad w O):∀W,ag w.heap.size w W->ae prog 63 #[.pointer (ab ⟨hn i,0,aa⟩),Z1 x.1 (fI x.2)] W fun e w'=>∃p c,e=.returned (.slice p ((Jc m.nodes i).1.aD x.1).2.length c)/\∃O1,Ye w' B h O1 {m with nodes:=m.nodes.set i (((Jc m.nodes i).1.aD x.1).1,(Jc m.nodes i).2)} X ml nb hn/\Qp c (fun b=>O1 b=ab .bD) w' p ((Jc m.nodes i).1.aD x.1).2/\Yd (fun k=>O k≠aa) (fun k=>O1 k≠aa) w w':=fun W U=>by
 have H:=hp.below U;obtain⟨mp,D,Z,Sh,a2⟩:=H.mem i hi;refine(VS a2 x (hL.below U) (fun b o e h'=>by have h':O b=ab (.mem i):=h';rw[a6 b o e]at h';cases h') ⟨⟨by have:=K.fr;omega,by have:=K.aP;omega,by have:=K.ki;omega,by have:=K.ke;omega⟩,by have:=K.bO;omega,fun v hv=>by have:=(K.cM v hv).2;omega⟩ K.cf (ad:=ad) (fun V hs J=>((hE.below U) V hs (fun k a3 a4=>J k a3 (fun e=>by have e:O k=ab (.mem i):=e;rw[a4]at e;cases e))).sv)).mono fun e w' hq=>?_
 obtain⟨p,c,S',e1,e2,e3,I⟩:=hq;have a5:∀k,S' k->k<w'.heap.size:=fun k J=>by
  obtain⟨_,_,_,_,hq⟩:=e3;exact(hq.aO k J).2
 have hT:=Qv.call (t:=.mem i) (fun e=>by cases e) H.aO H.base I a5;have a0:∀j,Jc (m.nodes.set i (((Jc m.nodes i).1.aD x.1).1,(Jc m.nodes i).2)) j=if j=i then(((Jc m.nodes i).1.aD x.1).1,(Jc m.nodes i).2)else Jc m.nodes j:=fun j=>uS hi _ j
 refine⟨p,c,e1,_,{H.toXJ.zZ (m':={m with nodes:=m.nodes.set i (((Jc m.nodes i).1.aD x.1).1,(Jc m.nodes i).2)}) hT hi rfl rfl rfl ⟨rfl,rfl,rfl⟩ List.length_set (fun j hj=>(a0 j).trans (if_neg hj)) ?_ ?_ with blk:=?_,self:=?_,cV:=H.cV,dF:=H.dF,aW:=H.aW},e2.mono (fun b Z=>oK (fun k o e=>(H.aO k o e).2) Z.2.2 Z.1 Z.2.1),(Yd.aJ U).trans' (QM ⟨I.os,I.tape,I.output,I.size,fun k J h=>I.block k J (fun e=>h (ai e)),fun k J=>(I.new k J).imp (fun h=>ai h) id⟩ I.new)⟩
 ·show(Jc (m.nodes.set i _) i).1.name=_/\(Jc (m.nodes.set i _) i).2=_;rw[a0 i,if_pos rfl];exact⟨Je.iM _ _,rfl⟩
 ·show XE _ _ _ _ (Jc (m.nodes.set i (((Jc m.nodes i).1.aD x.1).1,(Jc m.nodes i).2)) i).1;rw[a0 i,if_pos rfl];have e:(fun k=>turnO O (.mem i) S' W.heap.size w'.heap.size k=ab (.mem i))=S':=funext fun k=>propext (ZU (fun e=>by cases e) k)
  rw[e];exact e3
 ·exact(I.block h H.lt (fun e=>by have e:O h=ab (.mem i):=e;rw[H.self]at e;cases e)).trans H.blk
 ·exact(hT.same .self h (fun e=>by cases e) (fun e=>by cases e)).2 H.self
end
end
section
section
variable {w w':World} {B h:Nat} {O O':Nat->Option Whose} {m:Ya} {X:WB} {ml:List (Zb×Lv)} {nb hn:Nat->Nat} {n k:Nat} {ad:Nat->aq}
theorem WQ (hp:Ye w B h O m X ml nb hn)(hz:WZ n k m)(hL:Jn w x)(a6:∀b o,x.2.1=ab ⟨b,o,aa⟩->O b=ab .bD)(hx:YF x.1)(hf:m.nodes.length<=1000)(hE:Yi ad w O):
 ae prog 41 #[.pointer (ab ⟨h,0,aa⟩),Z1 x.1 (fI x.2)] w fun e w'=>e=.returned (.tuple #[])/\Yj w B h O (m.node x.1) nb hn w':=by
 have a5:=fun i hi=>SN (i:=i) hp hi hL a6 hx hE
 obtain⟨⟨H,D,I,J,K,U,Z,xL⟩,lp,ln,lc⟩:=x;obtain⟨w1,a3⟩:=Xb (w.alloc (.cells #[.string H,.string D,.string I,.string J,.int .i64 K,.int .i64 U,.bool Z,.slice lp ln lc] 90));have a2:=Zk a3;have a0:=JH a3;have a4:=wY (hp.below a2) D hf;have a7:Hid _:=a3;have c0:=(Xa a0 0).1;have c1:=(Xa a0 1).1;have c2:=(Xa a0 2).1;have c3:=(Xa a0 3).1;have c4:=(Xa a0 4).1;have c5:=(Xa a0 5).1;have c6:=(Xa a0 6).1;have c7:=(Xa a0 7).1;show ae prog 41 #[.pointer (ab ⟨h,0,aa⟩),.agg #[.string H,.string D,.string I,.string J,.int .i64 K,.int .i64 U,.bool Z,.slice lp ln lc]] w _;by_cases hi:Qe m.nodes D<m.nodes.length
 ·rw[show J2 m nb D=.pointer (ab ⟨nb (Qe m.nodes D),0,aa⟩)from if_pos hi]at a4;have hk:=((hp.below a2).node _ hi).1;have d0:=(Xa hk 0).1;have d2:=(Xa hk 2).1;change w1.cell? ⟨nb (Qe m.nodes D),0,aa⟩=ab (.pointer (ab ⟨hn (Qe m.nodes D),0,aa⟩))at d0;change w1.cell? ⟨nb (Qe m.nodes D),2,aa⟩=ab (.bool (!(Jc m.nodes (Qe m.nodes D)).2))at d2;cases hu:(Jc m.nodes (Qe m.nodes D)).2 with
  |true =>
   rw[hu]at d2;have hM:m.node ⟨H,D,I,J,K,U,Z,xL⟩=Ya.send {m with nodes:=m.nodes.set (Qe m.nodes D) (((Jc m.nodes (Qe m.nodes D)).1.aD ⟨H,D,I,J,K,U,Z,xL⟩).1,(Jc m.nodes (Qe m.nodes D)).2)} ((Jc m.nodes (Qe m.nodes D)).1.aD ⟨H,D,I,J,K,U,Z,xL⟩).2:=by
    rw[hu];exact if_pos (show Qe m.nodes D<m.nodes.length/\(Jc m.nodes (Qe m.nodes D)).2=az from⟨hi,hu⟩)
   have a8:Hid (ae prog 63 #[.pointer (ab ⟨hn (Qe m.nodes D),0,aa⟩),.agg #[.string H,.string D,.string I,.string J,.int .i64 K,.int .i64 U,.bool Z,.slice lp ln lc]] w1.drew fun e w'=>∃p c,e=.returned (.slice p ((Jc m.nodes (Qe m.nodes D)).1.aD ⟨H,D,I,J,K,U,Z,xL⟩).2.length c)/\Hid (∃O1,Ye w' B h O1 {m with nodes:=m.nodes.set (Qe m.nodes D) (((Jc m.nodes (Qe m.nodes D)).1.aD ⟨H,D,I,J,K,U,Z,xL⟩).1,(Jc m.nodes (Qe m.nodes D)).2)} X ml nb hn/\Qp c (fun b=>O1 b=ab .bD) w' p ((Jc m.nodes (Qe m.nodes D)).1.aD ⟨H,D,I,J,K,U,Z,xL⟩).2/\Yd (fun k=>O k≠aa) (fun k=>O1 k≠aa) w w')):=(a5 _ hi w1.drew a2.drew).mono fun e w' hq=>hq
   have a9:Hid (∀W p c,Hid (∃O1,Ye W B h O1 {m with nodes:=m.nodes.set (Qe m.nodes D) (((Jc m.nodes (Qe m.nodes D)).1.aD ⟨H,D,I,J,K,U,Z,xL⟩).1,(Jc m.nodes (Qe m.nodes D)).2)} X ml nb hn/\Qp c (fun b=>O1 b=ab .bD) W p ((Jc m.nodes (Qe m.nodes D)).1.aD ⟨H,D,I,J,K,U,Z,xL⟩).2/\Yd (fun k=>O k≠aa) (fun k=>O1 k≠aa) w W)->ae prog 45 #[.pointer (ab ⟨h,0,aa⟩),.slice p ((Jc m.nodes (Qe m.nodes D)).1.aD ⟨H,D,I,J,K,U,Z,xL⟩).2.length c] W fun e w'=>e=.returned (.tuple #[])/\Hid (Yj w B h O (m.node ⟨H,D,I,J,K,U,Z,xL⟩) nb hn w')):=fun W p c b0=>by
    obtain⟨O1,b1,b2,b3⟩:=b0.out;have d3:=NR (Jc m.nodes (Qe m.nodes D)).1 ⟨H,D,I,J,K,U,Z,xL⟩;refine(oS b1 hz.bO (by omega) b2).mono fun e w' hq=>?_
    obtain⟨e1,O6,v6,b4,b5,_,b6⟩:=hq;rw[hM];exact⟨e1,O6,_,b4,b5,b3.trans' b6⟩
   generalize Yj w B h O (m.node ⟨H,D,I,J,K,U,Z,xL⟩) nb hn=G at *;generalize ((Jc m.nodes (Qe m.nodes D)).1.aD ⟨H,D,I,J,K,U,Z,xL⟩).2.length=rl at *;generalize nb (Qe m.nodes D)=b7 at *;generalize hn (Qe m.nodes D)=b8 at *;clear hp hz hL a6 hx hf hE a5 a3 a2 a0 hi hk hu hM;go_enter func41,ntmps41;go_wp2_with (rw[<-a7.out])
   refine a4.mono ?_;rintro e w3 ⟨rfl,rfl⟩;go_wp2;go_region_law (first|(go_simp;go_at_call 63;refine a8.out.mono ?_;rintro e w5 ⟨p5,d5,rfl,c8⟩;go_simp)|(go_simp;go_at_call 45;refine(a9.out w5 p5 d5 c8).mono ?_;rintro e w6 ⟨rfl,d1⟩;go_simp))
   all_goals (go_wp2;go_end0;exact⟨rfl,d1.out⟩)
  |false =>
   rw[hu]at d2;have hM:m.node ⟨H,D,I,J,K,U,Z,xL⟩=m:=by
    unfold Ya.node;exact if_neg (fun h=>by have h2:=h.2;have h2:(Jc m.nodes (Qe m.nodes D)).2=true:=h2;rw[hu]at h2;cases h2)
   rw[hM];have HG:Hid (Yj w B h O m nb hn w1):=Yj.here hp a2;generalize Yj w B h O m nb hn=G at *;generalize nb (Qe m.nodes D)=b7 at *;generalize hn (Qe m.nodes D)=b8 at *;clear hp hz hL a6 hx hf hE a5 a3 a2 a0 hi hk hu hM;go_enter func41,ntmps41;go_wp2_with (rw[<-a7.out])
   refine a4.mono ?_;rintro e w3 ⟨rfl,rfl⟩;go_wp2
   go_end0
   exact⟨rfl,HG.out⟩
 ·rw[show J2 m nb D=.pointer aa from if_neg hi]at a4;have hM:m.node ⟨H,D,I,J,K,U,Z,xL⟩=m:=by
   unfold Ya.node;exact if_neg (fun h=>hi h.1)
  rw[hM];have HG:Hid (Yj w B h O m nb hn w1):=Yj.here hp a2;generalize Yj w B h O m nb hn=G at *;clear hp hz hL a6 hx hf hE a5 a3 a2 a0 hi hM;go_enter func41,ntmps41;go_wp2_with (rw[<-a7.out])
  refine a4.mono ?_;rintro e w3 ⟨rfl,rfl⟩;go_wp2
  go_end0
  exact⟨rfl,HG.out⟩
end
end
section
section
variable {w w':World} {B h:Nat} {O O':Nat->Option Whose} {m:Ya} {X:WB} {ml:List (Zb×Lv)} {nb hn:Nat->Nat} {n k:Nat} {ad:Nat->aq}
theorem LY (hp:Ye w B h O m X ml nb hn)(hz:WZ n k m)(ha:m.mover=ab a)(hL:Jn w x)(hx:YF x.1)(hE:Yi ad w O)(d1:(a.aD x.1).1.st≠.refused):
 ae prog 38 #[.pointer (ab ⟨h,0,aa⟩),Z1 x.1 (fI x.2)] w fun e w'=>e=.returned (.tuple #[])/\Yj w B h O (m.aI x.1) nb hn w':=by
 obtain⟨b,a7,d2⟩:=RJ hp hz ha hL hx hE;obtain⟨a8,e9,a9⟩:=hz.bI a ha;have f3:=hz.many;have f4:=hz.act;have d3:=hz.dO a ha;obtain⟨f5,f6⟩:=a8.aD hx (by rcases a9 with h|h<;>rw[h.2]<;>omega);have b0:(a.aD x.1).2.length<=12:=I7 a8 hx (by rcases a9 with h|h<;>rw[h.2]<;>omega);obtain⟨a1,a3⟩:=Xb ((a.aD x.1).1);obtain⟨m2,a2⟩:=Xb (Ya.send {m with mover:=ab a1} (a.aD x.1).2);rw[<-a3]at d1;obtain⟨mx,d4,d6⟩:∃mx,m.aI x.1=mx/\((a1.st≠.done/\mx=m2)∨(a1.st=.done/\mx={m2 with aC:=m2.aC+1,mover:=aa})):=by
  by_cases hs:a1.st=.done
  ·refine⟨_,?_,ao ⟨hs,rfl⟩⟩;unfold Ya.aI;rw[ha];dsimp only;rw[<-a3];rw[if_pos hs,if_pos (ai hs),a2];show Ya.mk _ _ _ _ _ _ _ (m.aB.length-1) _ _ _=Ya.mk _ _ _ _ _ _ _ (m.aC+1) _ _ _;rw[d3];rfl
  ·refine⟨_,?_,ai ⟨hs,rfl⟩⟩;unfold Ya.aI;rw[ha];dsimp only;rw[<-a3];rw[if_neg hs,if_neg (fun h=>by rcases h with h|h;exact hs h;exact d1 h),a2];rfl
 rw[d4];obtain⟨⟨x0,x1,x2,x3,x4,x5,x6,xL⟩,lp,ln,lc⟩:=x
 replace b0:(a.aD ⟨x0,x1,x2,x3,x4,x5,x6,xL⟩).2.length<=12:=b0
 obtain⟨K,a5⟩:=Xb (w.alloc (.cells #[.string x0,.string x1,.string x2,.string x3,.int .i64 x4,.int .i64 x5,.bool x6,.slice lp ln lc] 90));have a6:=Zk a5;have a0:=JH a5;have f7:ae prog 21 #[.pointer (ab ⟨h,32,aa⟩)] K fun e w'=>e=.returned (.bool az)/\w'=K:=(sC (hp.below a6)).mono fun e w' U=>⟨by rw[U.1,ha];rfl,U.2⟩
 have b1:∀W H m2 D I,Ye W B h H m2 D I nb hn->D.mp=X.mp->W.cell? ⟨h,32,aa⟩=ab (.pointer (ab ⟨b,0,aa⟩)):=fun W H m2 D I U he=>by have:=(Xa U.blk 32).1;rw[show(Zi D)[32]?=ab (J3 D.mp)from rfl,he,a7]at this;exact this
 obtain⟨c0,c1,c2,c3,c4,c5,c6,c7,c8⟩:K.cell? ⟨h,32,aa⟩=ab (.pointer (ab ⟨b,0,aa⟩))/\K.cell? ⟨w.heap.size,0,aa⟩=ab (.string x0)/\K.cell? ⟨w.heap.size,1,aa⟩=ab (.string x1)/\K.cell? ⟨w.heap.size,2,aa⟩=ab (.string x2)/\K.cell? ⟨w.heap.size,3,aa⟩=ab (.string x3)/\K.cell? ⟨w.heap.size,4,aa⟩=ab (.int .i64 x4)/\K.cell? ⟨w.heap.size,5,aa⟩=ab (.int .i64 x5)/\K.cell? ⟨w.heap.size,6,aa⟩=ab (.bool x6)/\K.cell? ⟨w.heap.size,7,aa⟩=ab (.slice lp ln lc):=⟨b1 _ _ _ _ _ (hp.below a6) rfl,(Xa a0 0).1,(Xa a0 1).1,(Xa a0 2).1,(Xa a0 3).1,(Xa a0 4).1,(Xa a0 5).1,(Xa a0 6).1,(Xa a0 7).1⟩;have d7:Hid (ae prog 58 #[.pointer (ab ⟨b,0,aa⟩),.agg #[.string x0,.string x1,.string x2,.string x3,.int .i64 x4,.int .i64 x5,.bool x6,.slice lp ln lc]] K.drew fun e w'=>∃p c,e=.returned (.slice p (a.aD ⟨x0,x1,x2,x3,x4,x5,x6,xL⟩).2.length c)/\Hid (∃O1,Ye w' B h O1 {m with mover:=ab a1} X ml nb hn/\Qp c (fun b=>O1 b=ab .bD) w' p (a.aD ⟨x0,x1,x2,x3,x4,x5,x6,xL⟩).2/\Yd (fun k=>O k≠aa) (fun k=>O1 k≠aa) w w')):=(d2 K.drew a6.drew).mono fun e w' U=>by
  obtain⟨p,c,e1,O1,e2,e3,e4⟩:=U;rw[a3];exact⟨p,c,e1,O1,e2,e3,e4⟩
 have d8:Hid (∀W p c,Hid (∃O1,Ye W B h O1 {m with mover:=ab a1} X ml nb hn/\Qp c (fun b=>O1 b=ab .bD) W p (a.aD ⟨x0,x1,x2,x3,x4,x5,x6,xL⟩).2/\Yd (fun k=>O k≠aa) (fun k=>O1 k≠aa) w W)->ae prog 45 #[.pointer (ab ⟨h,0,aa⟩),.slice p (a.aD ⟨x0,x1,x2,x3,x4,x5,x6,xL⟩).2.length c] W fun e w'=>e=.returned (.tuple #[])/\Hid (∃H D I,Ye w' B h H m2 D I nb hn/\D.mp=X.mp/\Yd (fun k=>O k≠aa) (fun k=>H k≠aa) w w')):=fun W p c hM=>by
  obtain⟨O1,f8,f9,g0⟩:=hM.out;refine(oS f8 hz.bO (by omega) f9).mono fun e w' U=>?_
  obtain⟨e1,O6,v6,g3,d9,_,g4⟩:=U;rw[<-a2]at d9;exact⟨e1,O6,_,g3,d9,rfl,g0.trans' g4⟩
 have b3:m2.mover=ab a1:=by rw[a2];rfl
 have e0:Hid (∀W H D I,Ye W B h H m2 D I nb hn->D.mp=X.mp->W.cell? ⟨h,32,aa⟩=ab (.pointer (ab ⟨b,0,aa⟩))/\ae prog 59 #[.pointer (ab ⟨b,0,aa⟩)] W fun e w'=>e=.returned (.string a1.st.word)/\Hid (ag W.heap.size W w')):=fun W H D I U he=>by
  refine⟨b1 _ _ _ _ _ U he,?_⟩;have hv:=U.bI;rw[b3]at hv;obtain⟨b2,g1,g2,_⟩:=hv;rw[he,a7]at g1;injection g1 with g1
  rw[g1];exact(AK g2).mono fun e w' U=>⟨U.1,U.2⟩
 have g5:Hid (K=w.alloc (.cells #[.string x0,.string x1,.string x2,.string x3,.int .i64 x4,.int .i64 x5,.bool x6,.slice lp ln lc] 90)):=a5;have b4:Hid (((¬a1.st.word.toList=[100,111,110,101]/\(a1.st.word.toList==[100,111,110,101])=F)/\∀W H D I,Ye W B h H m2 D I nb hn->Yd (fun k=>O k≠aa) (fun k=>H k≠aa) w W->Yj w B h O mx nb hn W)∨(a1.st.word=⟨#[100,111,110,101]⟩/\∀W H D I,Ye W B h H m2 D I nb hn->Yd (fun k=>O k≠aa) (fun k=>H k≠aa) w W->(0<=D.act/\D.act<=1000)/\W.heap[h]?=ab (.cells (Zi D) 65 (0,0))/\∀V,V=lC W h D (D.act+1)->Yj w B h O mx nb hn V)):=by
  rcases d6 with⟨hs,rfl⟩|⟨hs,rfl⟩
  ·have h1:=qT (o:=ab a1) (st:=.done) (fun b hb e=>hs (by rw[Option.some.inj hb];exact e)) (ao (ao rfl));rw[IU]at h1;exact ai ⟨h1,fun W H D I h1 h2=>⟨H,D,I,h1,h2⟩⟩
  ·refine ao ⟨by rw[hs];rfl,fun W H D I h1 h2=>by
    obtain⟨O4,g1,g2⟩:=h1.kP b3;have hx:D.act=(m.aC:Int):=by rw[h1.aW.1,a2];rfl
    exact⟨by rw[hx];omega,h1.blk,fun V hV=>by rw[hV];exact⟨O4,_,_,g1,h2.trans' g2⟩⟩⟩
 generalize Yj w B h O mx nb hn=G at *;generalize (a.aD ⟨x0,x1,x2,x3,x4,x5,x6,xL⟩).2.length=rl at *;clear hp hz ha hL hx hE b1 d2 a8 e9 a9 f5 f6 a2 b0 a5 a6 a0 a3 a7 b3 d6 d1 d4 f3 f4 d3;generalize a1.st.word=h9 at *;show ae prog 38 #[.pointer (ab ⟨h,0,aa⟩),.agg #[.string x0,.string x1,.string x2,.string x3,.int .i64 x4,.int .i64 x5,.bool x6,.slice lp ln lc]] w _;go_enter func38,ntmps38;go_wp2_with (rw[<-g5.out])
 refine f7.mono ?_;rintro e w3 ⟨rfl,rfl⟩;go_wp2;go_cut []from 9 to 19 (fun W=>∃H D I,Ye W B h H m2 D I nb hn/\D.mp=X.mp/\Yd (fun k=>O k≠aa) (fun k=>H k≠aa) w W)
 case first =>
  go_region_law (first|(go_simp;go_at_call 58;refine d7.out.mono ?_;rintro e w5 ⟨p5,d5,rfl,g6⟩;go_simp)|(go_simp;go_at_call 45;refine(d8.out w5 p5 d5 g6).mono ?_;rintro e w6 ⟨rfl,g7⟩;go_simp))
  all_goals (go_wp2_with fail;go_meet)
  all_goals exact g7.out
 case rest =>
  obtain⟨H,D,I,b5,b6,e5⟩:=hcut;obtain⟨i0,e6⟩:=e0.out wc H D I b5 b6;have b7:Hid (Ye wc B h H m2 D I nb hn/\D.mp=X.mp/\Yd (fun k=>O k≠aa) (fun k=>H k≠aa) w wc):=⟨b5,b6,e5⟩;clear b5 b6 e5 e0 c0 c1 c2 c3 c4 c5 c6 c7 c8 d7 d8;go_wp2_with fail
  refine e6.mono ?_;rintro e Z ⟨rfl,b8⟩;have a4:Hid (Ye Z B h H m2 D I nb hn/\Yd (fun k=>O k≠aa) (fun k=>H k≠aa) w Z):=⟨b7.out.1.below b8.out,b7.out.2.2.trans' (Yd.aJ b8.out)⟩;clear e6 b7 b8;rcases b4.out with⟨⟨i1,i2⟩,hg⟩|⟨rfl,hg⟩
  ·have HG:Hid (∀W H D I,Ye W B h H m2 D I nb hn->Yd (fun k=>O k≠aa) (fun k=>H k≠aa) w W->G W):=hg;clear hg b4;go_wp2
   go_end0
   exact⟨rfl,HG.out _ _ _ _ a4.out.1 a4.out.2⟩
  ·obtain⟨g8,J,hV⟩:=hg Z H D I a4.out.1 a4.out.2;clear hg b4;have g9:=(Xa J 32).1;have i3:=(Xa J 32).2;have h0:=(Xa J 33).1;have i4:=(Xa J 33).2;have h3:=(Xa J 34).1;have i5:=(Xa J 34).2;have h4:=(Xa J 35).1;have i8:=(Xa J 35).2;have h5:=(Xa J 36).1;have i9:=(Xa J 36).2;have h6:=(Xa J 37).1;have j1:=(Xa J 37).2;have h7:=(Xa J 38).1;have j2:=(Xa J 38).2;have h8:=(Xa J 39).1;have k0:=(Xa J 39).2;obtain⟨v9,d0⟩:=Xb (lC Z h D (D.act+1));have e7:Hid (G v9):=hV v9 d0;change Z.cell? ⟨h,33,aa⟩=ab (.int .i64 D.nx.c.n)at h0;change Z.cell? ⟨h,34,aa⟩=ab (.int .i64 D.nx.c.k)at h3;change Z.cell? ⟨h,35,aa⟩=ab (.slice D.nx.p D.nx.c.L.length D.nx.cap)at h4;change Z.cell? ⟨h,36,aa⟩=ab (.int .i64 D.cf.c.n)at h5;change Z.cell? ⟨h,37,aa⟩=ab (.int .i64 D.cf.c.k)at h6;change Z.cell? ⟨h,38,aa⟩=ab (.slice D.cf.p D.cf.c.L.length D.cf.cap)at h7;change Z.cell? ⟨h,39,aa⟩=ab (.int .i64 D.act)at h8;change Z.cell? ⟨h,32,aa⟩=ab (J3 D.mp)at g9;have k2:IntKind.i64.wrap (D.act+1)=D.act+1:=by rw[IntKind.wrap_i64];omega
   have e8:Hid (v9=(((((((Z.setCell ⟨h,36,aa⟩ (.int .i64 D.nx.c.n)).setCell ⟨h,37,aa⟩ (.int .i64 D.nx.c.k)).setCell ⟨h,38,aa⟩ (.slice D.nx.p D.nx.c.L.length D.nx.cap)).setCell ⟨h,39,aa⟩ (.int .i64 (D.act+1))).setCell ⟨h,32,aa⟩ (.pointer aa)).setCell ⟨h,33,aa⟩ (.int .i64 0)).setCell ⟨h,34,aa⟩ (.int .i64 0)).setCell ⟨h,35,aa⟩ (.slice aa 0 0)):=d0;clear hV d0 J g8 a4;go_wp2_with (rw[<-e8.out])
   go_wp2;first|(rw[<-e8.out];go_end0;exact⟨rfl,e7.out⟩)|(go_end0;exact⟨rfl,e7.out⟩)
theorem M3 (hp:Ye w B h O m X ml nb hn)(ha:m.mover=aa)(x:Zb×Lv):
 ae prog 38 #[.pointer (ab ⟨h,0,aa⟩),Z1 x.1 (fI x.2)] w fun e w'=>e=.returned (.tuple #[])/\Yj w B h O (m.aI x.1) nb hn w':=by
 have a3:m.aI x.1=m:=by unfold Ya.aI;rw[ha]
 rw[a3];obtain⟨⟨H,I,J,K,U,Z,x6,xL⟩,lp,ln,lc⟩:=x;obtain⟨D,a0⟩:=Xb (w.alloc (.cells #[.string H,.string I,.string J,.string K,.int .i64 U,.int .i64 Z,.bool x6,.slice lp ln lc] 90));have a2:=Zk a0;have a4:ae prog 21 #[.pointer (ab ⟨h,32,aa⟩)] D fun e w'=>e=.returned (.bool F)/\w'=D:=(sC (hp.below a2)).mono fun e w' hq=>⟨by rw[hq.1,ha];rfl,hq.2⟩
 have HG:Hid (Yj w B h O m nb hn D):=Yj.here hp a2;have a5:Hid (D=w.alloc (.cells #[.string H,.string I,.string J,.string K,.int .i64 U,.int .i64 Z,.bool x6,.slice lp ln lc] 90)):=a0;generalize Yj w B h O m nb hn=G at *;clear hp ha a3 a0 a2;show ae prog 38 #[.pointer (ab ⟨h,0,aa⟩),.agg #[.string H,.string I,.string J,.string K,.int .i64 U,.int .i64 Z,.bool x6,.slice lp ln lc]] w _;go_enter func38,ntmps38;go_wp2_with (rw[<-a5.out])
 refine a4.mono ?_;rintro e w3 ⟨rfl,rfl⟩;go_wp2;refine bodyPost_ret (results_none rfl _ _ _) rfl ?_;exact⟨rfl,HG.out⟩
theorem JnM (H:Ye w B h O m X ml nb hn)(I:WZ n k m)(J:Jn w x)(K:YF x.1)(U:Yi ad w O)(Z:∀a,m.mover=ab a->(a.aD x.1).1.st≠.refused):
 ae prog 38 #[.pointer (ab ⟨h,0,aa⟩),Z1 x.1 (fI x.2)] w fun e w'=>e=.returned (.tuple #[])/\Yj w B h O (m.aI x.1) nb hn w':=by
 cases D:m.mover with
 |none=>exact M3 H D x
 |some a =>
  exact LY H I D J K U (Z a D)
end
end
section
section
variable {w w':World} {B h:Nat} {O O':Nat->Option Whose} {m:Ya} {X:WB} {ml:List (Zb×Lv)} {nb hn:Nat->Nat} {n k:Nat} {ad:Nat->aq}
theorem JbR (ml:List (Zb×Lv))(D:i<ml.length):(JN ml i).1=Yg (ml.map Prod.fst) i:=by
 unfold JN Yg;rw[List.getD_eq_getElem?_getD,List.getD_eq_getElem?_getD,List.getElem?_map,List.getElem?_eq_getElem D];rfl
end
end
section
theorem JtQ (X:WB)(n:Int):(Zi X).setIfInBounds 41 (.int .i64 n)=Zi {X with del:=n}:=rfl
section
variable {w w':World} {B h:Nat} {O O':Nat->Option Whose} {m:Ya} {X:WB} {ml:List (Zb×Lv)} {nb hn:Nat->Nat} {n k:Nat} {ad:Nat->aq}
theorem Ye.l7 (H:Ye w B h O m X ml nb hn)(d:Int):Ye (w.setCell ⟨h,41,aa⟩ (.int .i64 d)) B h O {m with aA:=d} {X with del:=d} ml nb hn/\Yp h w (w.setCell ⟨h,41,aa⟩ (.int .i64 d)):=by
 have I:=(Yp.refl h w).set 41 (.int .i64 d);have D:=H.toXJ.aS I.size (fun k o e J=>I.cW k (H.aO k o e).2 (fun K=>by rw[K,H.self]at e;injection e with e;exact J e.symm));exact⟨{aO:=D.aO,row:=D.row,cX:=D.cX,dK:=D.dK,bD:=D.bD,bV:=D.bV,cS:=D.cS,cD:=D.cD,bU:=D.bU,node:=D.node,mem:=D.mem,ask:=D.ask,bI:=D.bI,cf:=D.cf,blk:=by have:=Qc H.blk 41 (.int .i64 d);rw[JtQ]at this;exact this,self:=H.self,cV:=H.cV,dF:=H.dF,aW:=⟨H.aW.1,H.aW.2.1,rfl⟩},I⟩
theorem Yp.nJ {S:Nat->Prop}(D:Yp h w w')(I:S h):Yd S S w w':=⟨D.os,D.tape,D.output,D.size,fun k H hn=>D.cW k H (fun e=>hn (e▸I)),fun _ H=>ai H⟩
theorem Jqj (D:Ye w B h O m X ml nb hn)(hz:WZ n k m)(hj:j<m.L.length):∃x:Zb×Lv,x.1=Yg m.L j/\YF x.1/\ae prog 37 #[.pointer (ab ⟨h,0,aa⟩),.int .i64 (j:Int)] w fun e w'=>e=.returned (Z1 x.1 (fI x.2))/\∃O' X' a0,Ye w' B h O' (m.off j) X' a0 nb hn/\Jn w' x/\(∀b o,x.2.1=ab ⟨b,o,aa⟩->O' b=ab .bD)/\Yd (fun k=>O k≠aa) (fun k=>O' k≠aa) w w':=by
 have a3:ml.length=m.L.length:=by rw[<-D.dK,List.length_map]
 have H:j<ml.length:=by omega
 have a2:(JN ml j).1=Yg m.L j:=by rw[JbR ml H,D.dK]
 have J:JN ml j∈ml:=vV H;refine⟨JN ml j,a2,hz.msgs _ (by rw[<-D.dK];exact List.mem_map.2 ⟨_,J,rfl⟩),?_⟩;refine(F6 h B X.vm ml j w (by have:=hz.bO;omega) H (D.cell 0).1 (D.cell 0).2 D.gV D.row).mono fun e w' K=>⟨K.1,?_⟩
 obtain⟨v',hF⟩:=K.2;obtain⟨O2,U,I,g3⟩:=D.oV hF (fun x hx=>D.bD x (List.mem_of_mem_eraseIdx hx));rw[wA,D.dK]at U;obtain⟨i1,Z⟩:=D.bD _ J;exact⟨O2,_,_,U,i1.kept I.size (fun b o e=>I.kept b _ (Z b o e) (fun e=>by cases e) (fun e=>by cases e)),fun b o e=>I.bD b (Z b o e),g3⟩
end
end
section
section
variable {w w':World} {B h:Nat} {O O':Nat->Option Whose} {m:Ya} {X:WB} {ml:List (Zb×Lv)} {nb hn:Nat->Nat} {n k:Nat} {ad:Nat->aq}
theorem VL (hp:Ye w B h O m X ml nb hn)(hz:WZ n k m)(i:Int)(h0:0<=m.ops)(h1:m.ops<=1152921504606846976)(h2:0<=m.aA)(h3:m.aA<=1152921504606846976)(f6:m.events.length<=1000000)(hf:m.nodes.length<=1000)(hE:Yi ad w O)(d7:∀a,m.mover=ab a->(a.aD (Yg m.L i.toNat)).1.st≠.refused):
 ae prog 20 #[.pointer (ab ⟨h,0,aa⟩),.int .i64 i] w (Xe ad w B h O (m.aR i) nb hn):=by
 obtain⟨p,c,h8,f7⟩:=hp.mU;have d1:=xA h m.L.length c p i w h8;by_cases hi:0<=i/\i<(m.L.length:Int)
 ·obtain⟨j,rfl⟩:∃j:Nat,i=(j:Int):=⟨i.toNat,by omega⟩;rw[af]at d7;rw[decide_eq_true hi]at d1;have f8:=hp.aW.2.2;have i4:w.cell? (pA h 41)=ab (.int .i64 m.aA):=by rw[<-f8];exact(hp.cell 41).1
  have i5:=(hp.cell 41).2;have i8:IntKind.i64.wrap (m.aA+1)=m.aA+1:=by rw[IntKind.wrap_i64];omega
  obtain⟨d8,d2⟩:=hp.l7 (m.aA+1);obtain⟨w1,d9⟩:=Xb (w.setCell (pA h 41) (.int .i64 (m.aA+1)));rw[<-d9]at d8 d2;have f9:=d2.nJ (S:=fun k=>O k≠aa) (by show O h≠aa;rw[hp.self];exact fun e=>(by cases e));have e0:WZ n k {m with aA:=m.aA+1}:=hz.IE _;obtain⟨x,a8,d3,e4⟩:=Jqj d8 e0 (j:=j) (by show j<m.L.length;omega);have a8:=a8;obtain⟨m2,a6⟩:∃m2:Ya,m2=Ya.off {m with aA:=m.aA+1} j:=⟨_,rfl⟩;rw[<-a6]at e4;have d4:WZ n k m2:=by rw[a6];exact e0.off j
  have e5:m.aR (j:Int)=(match YN x.1.aP with
   |some who=>m2.aD who x.1
   |none=>if x.1.aP=J8 then m2.aI x.1 else m2.node x.1,0):=by
   unfold Ya.aR;rw[if_neg (by omega),af,a8,a6];rfl
  rw[e5];have g8:∀a,m2.mover=ab a->(a.aD x.1).1.st≠.refused:=fun a ha=>by rw[a8];exact d7 a (by rw[a6]at ha;exact ha)
  have g9:=hE.wrote hp.self d2;have a9:0<=m2.ops/\m2.ops<=1152921504606846976/\m2.events.length<=1000000/\m2.nodes.length<=1000:=by rw[a6];exact⟨h0,h1,f6,hf⟩
  obtain⟨⟨I,D,J,K,U,Z,x6,xL⟩,lp,ln,lc⟩:=x;have d5:Hid (ae prog 37 #[.pointer (ab (pA h 0)),.int .i64 (j:Int)] w1 fun e w'=>e=.returned (.agg #[.string I,.string D,.string J,.string K,.int .i64 U,.int .i64 Z,.bool x6,.slice lp ln lc])/\Hid (∃O' X' a4,Ye w' B h O' m2 X' a4 nb hn/\Jn w' (⟨I,D,J,K,U,Z,x6,xL⟩,lp,ln,lc)/\(∀b o,lp=ab (pA b o)->O' b=ab .bD)/\Yd (fun k=>O k≠aa) (fun k=>O' k≠aa) w w'/\Yi ad w' O')):=e4.mono fun e w' hq=>by
   obtain⟨e1,O2,X2,e6,g1,g2,g3,g4⟩:=hq;exact⟨e1,O2,X2,e6,g1,g2,g3,f9.trans' g4,g9.next g4⟩
  have h4:Hid _:=d9;have HM:Hid (∀W2 W3,ag W2.z W2 W3->Hid (∃O' X' a4,Ye W2 B h O' m2 X' a4 nb hn/\Jn W2 (⟨I,D,J,K,U,Z,x6,xL⟩,lp,ln,lc)/\(∀b o,lp=ab (pA b o)->O' b=ab .bD)/\Yd (fun k=>O k≠aa) (fun k=>O' k≠aa) w W2/\Yi ad W2 O')->ae prog 38 #[.pointer (ab (pA h 0)),.agg #[.string I,.string D,.string J,.string K,.int .i64 U,.int .i64 Z,.bool x6,.slice lp ln lc]] W3 fun e w'=>e=.returned (.tuple #[])/\Hid (Yj w B h O (m2.aI ⟨I,D,J,K,U,Z,x6,xL⟩) nb hn w')):=fun W2 W3 hb hQ=>by
   obtain⟨O2,X2,e6,g1,g2,g3,g4,g5⟩:=hQ.out;exact(JnM (g1.below hb) d4 (g2.below hb) d3 (g5.below hb) g8).mono fun e w' hq=>by
    obtain⟨e1,O3,X3,e7,e2,e3⟩:=hq;exact⟨e1,O3,X3,e7,e2,(g4.trans' (Yd.aJ hb)).trans' e3⟩
  have HC:Hid (∀q:Nat,q<6->∀W2 W3,ag W2.z W2 W3->Hid (∃O' X' a4,Ye W2 B h O' m2 X' a4 nb hn/\Jn W2 (⟨I,D,J,K,U,Z,x6,xL⟩,lp,ln,lc)/\(∀b o,lp=ab (pA b o)->O' b=ab .bD)/\Yd (fun k=>O k≠aa) (fun k=>O' k≠aa) w W2/\Yi ad W2 O')->ae prog 40 #[.pointer (ab (pA h 0)),.int .i64 (q:Int),.agg #[.string I,.string D,.string J,.string K,.int .i64 U,.int .i64 Z,.bool x6,.slice lp ln lc]] W3 fun e w'=>e=.returned (.tuple #[])/\Hid (Yj w B h O (m2.aD q ⟨I,D,J,K,U,Z,x6,xL⟩) nb hn w')):=fun q h5 W2 W3 hb hQ=>by
   obtain⟨O2,X2,e6,g1,g2,g3,g4,g5⟩:=hQ.out;exact(WR (g1.below hb) d4 h5 (g2.below hb) d3 (g5.below hb) a9.1 a9.2.1 a9.2.2.1).mono fun e w' hq=>by
    obtain⟨e1,O3,X3,e7,e2,e3⟩:=hq;exact⟨e1,O3,X3,e7,e2,(g4.trans' (Yd.aJ hb)).trans' e3⟩
  have HN:Hid (∀W2 W3,ag W2.z W2 W3->Hid (∃O' X' a4,Ye W2 B h O' m2 X' a4 nb hn/\Jn W2 (⟨I,D,J,K,U,Z,x6,xL⟩,lp,ln,lc)/\(∀b o,lp=ab (pA b o)->O' b=ab .bD)/\Yd (fun k=>O k≠aa) (fun k=>O' k≠aa) w W2/\Yi ad W2 O')->ae prog 41 #[.pointer (ab (pA h 0)),.agg #[.string I,.string D,.string J,.string K,.int .i64 U,.int .i64 Z,.bool x6,.slice lp ln lc]] W3 fun e w'=>e=.returned (.tuple #[])/\Hid (Yj w B h O (m2.node ⟨I,D,J,K,U,Z,x6,xL⟩) nb hn w')):=fun W2 W3 hb hQ=>by
   obtain⟨O2,X2,e6,g1,g2,g3,g4,g5⟩:=hQ.out;exact(WQ (g1.below hb) d4 (g2.below hb) g3 d3 a9.2.2.2 (g5.below hb)).mono fun e w' hq=>by
    obtain⟨e1,O3,X3,e7,e2,e3⟩:=hq;exact⟨e1,O3,X3,e7,e2,(g4.trans' (Yd.aJ hb)).trans' e3⟩
  dsimp only at e5 ⊢;by_cases a7:D=J8
  ·have a5:YN D=none:=by rw[a7];decide +kernel
   rw[a5];dsimp only;rw[if_pos a7];have e8:Hid (∀W,Yj w B h O (m2.aI ⟨I,D,J,K,U,Z,x6,xL⟩) nb hn W->Xe ad w B h O (m2.aI ⟨I,D,J,K,U,Z,x6,xL⟩,0) nb hn (.returned .nilIface) W):=fun W hW=>⟨⟨_,rfl,Jd.nil _ _⟩,hW⟩
   generalize Xe ad w B h O (m2.aI ⟨I,D,J,K,U,Z,x6,xL⟩,0) nb hn=G at *;generalize Yj w B h O (m2.aI ⟨I,D,J,K,U,Z,x6,xL⟩) nb hn=T at *;have i9:D.toList=[109,111,118,101,114]:=by rw[a7];decide +kernel
   clear HC HN a5 a7;clear hp hz hE e5 hi f7 h0 h1 h2 h3 f6 hf d7 d8 d2 d9 f9 e0 a8 d3 e4 a6 d4 g8 g9 a9 f8;go_enter func20,ntmps20;go_wp2_with fail
   refine d1.mono ?_;rintro e wf ⟨rfl,rfl⟩;go_wp2_with (rw[<-h4.out])
   refine d5.out.mono ?_;rintro e w2 ⟨rfl,HQ⟩;obtain⟨w3,a2⟩:=Xb (w2.alloc (.cells #[.string I,.string D,.string J,.string K,.int .i64 U,.int .i64 Z,.bool x6,.slice lp ln lc] 90));have a3:=Zk a2;have H:w3.heap[w2.z]?=ab (.cells #[.string I,.string D,.string J,.string K,.int .i64 U,.int .i64 Z,.bool x6,.slice lp ln lc] 90 (0,0)):=by
    rw[a2];show(w2.heap.push _)[w2.z]?=_;simp
   have e9:Hid _:=a2;have b0:=(Xa H 0).1;have b1:=(Xa H 1).1;have b2:=(Xa H 2).1;have b3:=(Xa H 3).1;have b4:=(Xa H 4).1;have b5:=(Xa H 5).1;have b6:=(Xa H 6).1;have b7:=(Xa H 7).1;have h9:=HM.out w2 w3 a3 HQ;clear a2 a3 H HM HQ d5;go_wp2_with (rw[<-e9.out])
   refine h9.mono ?_;rintro e w4 ⟨rfl,i0⟩;go_wp2;exact e8.out _ i0.out
  ·have i1:¬D.toList=[109,111,118,101,114]:=fun e=>a7 (wN (e.trans (by decide +kernel)))
   have j1:(D.toList==[109,111,118,101,114])=false:=by simp[i1]
   have d6:Hid (∀W2 W3,ag W2.z W2 W3->Hid (∃O' X' a4,Ye W2 B h O' m2 X' a4 nb hn/\Jn W2 (⟨I,D,J,K,U,Z,x6,xL⟩,lp,ln,lc)/\(∀b o,lp=ab (pA b o)->O' b=ab .bD)/\Yd (fun k=>O k≠aa) (fun k=>O' k≠aa) w W2/\Yi ad W2 O')->ae prog 39 #[.string D] W3 fun e w'=>e=.returned (.int .i64 (gM D))/\Hid (ag W3.z W3 w')):=fun W2 W3 hb hQ=>by
    obtain⟨O2,X2,e6,g1,g2,g3,g4,g5⟩:=hQ.out;exact(CE D W3 (g5.below hb).here.x.2).mono fun e w' hq=>⟨hq.1,hq.2⟩
   cases a5:YN D with
   |some q =>
    have h5:q<6:=by
     unfold YN at a5;exact List.mem_range.1 (List.mem_of_find?_eq_some a5)
    have f3:gM D=(q:Int):=by unfold gM;rw[a5]
    rw[f3]at d6;dsimp only;have h7:Hid _:=HC.out q h5;clear HC;have e8:Hid (∀W,Yj w B h O (m2.aD q ⟨I,D,J,K,U,Z,x6,xL⟩) nb hn W->Xe ad w B h O (m2.aD q ⟨I,D,J,K,U,Z,x6,xL⟩,0) nb hn (.returned .nilIface) W):=fun W hW=>⟨⟨_,rfl,Jd.nil _ _⟩,hW⟩
    generalize Xe ad w B h O (m2.aD q ⟨I,D,J,K,U,Z,x6,xL⟩,0) nb hn=G at *;generalize Yj w B h O (m2.aD q ⟨I,D,J,K,U,Z,x6,xL⟩) nb hn=T at *;have z1:(0:Int)<=(q:Int):=by omega
    clear HM HN a5 a7 f3;clear hp hz hE e5 hi f7 h0 h1 h2 h3 f6 hf d7 d8 d2 d9 f9 e0 a8 d3 e4 a6 d4 g8 g9 a9 f8;go_enter func20,ntmps20;go_wp2_with fail
    refine d1.mono ?_;rintro e wf ⟨rfl,rfl⟩;go_wp2_with (rw[<-h4.out])
    refine d5.out.mono ?_;rintro e w2 ⟨rfl,HQ⟩;obtain⟨w3,a2⟩:=Xb (w2.alloc (.cells #[.string I,.string D,.string J,.string K,.int .i64 U,.int .i64 Z,.bool x6,.slice lp ln lc] 90));have a3:=Zk a2;have H:w3.heap[w2.z]?=ab (.cells #[.string I,.string D,.string J,.string K,.int .i64 U,.int .i64 Z,.bool x6,.slice lp ln lc] 90 (0,0)):=by
     rw[a2];show(w2.heap.push _)[w2.z]?=_;simp
    have e9:Hid _:=a2;have b0:=(Xa H 0).1;have b1:=(Xa H 1).1;have b2:=(Xa H 2).1;have b3:=(Xa H 3).1;have b4:=(Xa H 4).1;have b5:=(Xa H 5).1;have b6:=(Xa H 6).1;have b7:=(Xa H 7).1;have f4:=d6.out w2 w3 a3 HQ;have c8:Hid _:=a3;have f5:Hid (∀W,ag w3.z w3 W->W.heap[w2.z]?=ab (.cells #[.string I,.string D,.string J,.string K,.int .i64 U,.int .i64 Z,.bool x6,.slice lp ln lc] 90 (0,0))):=fun W hW=>(hW.block _ (Array.getElem?_eq_some_iff.1 H).1).trans H
    clear a2 a3 H d5 d6;go_wp2_with (rw[<-e9.out])
    refine f4.mono ?_;rintro e w4 ⟨rfl,d0⟩;have i2:=h7.out w2 w4 (c8.out.trans (d0.out.mono c8.out.size)) HQ;have a0:=f5.out w4 d0.out;have g0:=(Xa a0 0).1;have g1:=(Xa a0 1).1;have g2:=(Xa a0 2).1;have g3:=(Xa a0 3).1;have g4:=(Xa a0 4).1;have g5:=(Xa a0 5).1;have g6:=(Xa a0 6).1;have g7:=(Xa a0 7).1;clear a0 h7 HQ f5 c8 d0 f4;go_wp2_with fail
    refine i2.mono ?_;rintro e w5 ⟨rfl,h6⟩;go_wp2;exact e8.out _ h6.out
   |none =>
    have f3:gM D=-1:=by unfold gM;rw[a5]
    rw[f3]at d6;dsimp only;rw[if_neg a7];have e8:Hid (∀W,Yj w B h O (m2.node ⟨I,D,J,K,U,Z,x6,xL⟩) nb hn W->Xe ad w B h O (m2.node ⟨I,D,J,K,U,Z,x6,xL⟩,0) nb hn (.returned .nilIface) W):=fun W hW=>⟨⟨_,rfl,Jd.nil _ _⟩,hW⟩
    generalize Xe ad w B h O (m2.node ⟨I,D,J,K,U,Z,x6,xL⟩,0) nb hn=G at *;generalize Yj w B h O (m2.node ⟨I,D,J,K,U,Z,x6,xL⟩) nb hn=T at *;clear HM HC a5 a7 f3;clear hp hz hE e5 hi f7 h0 h1 h2 h3 f6 hf d7 d8 d2 d9 f9 e0 a8 d3 e4 a6 d4 g8 g9 a9 f8;go_enter func20,ntmps20;go_wp2_with fail
    refine d1.mono ?_;rintro e wf ⟨rfl,rfl⟩;go_wp2_with (rw[<-h4.out])
    refine d5.out.mono ?_;rintro e w2 ⟨rfl,HQ⟩;obtain⟨w3,a2⟩:=Xb (w2.alloc (.cells #[.string I,.string D,.string J,.string K,.int .i64 U,.int .i64 Z,.bool x6,.slice lp ln lc] 90));have a3:=Zk a2;have H:w3.heap[w2.z]?=ab (.cells #[.string I,.string D,.string J,.string K,.int .i64 U,.int .i64 Z,.bool x6,.slice lp ln lc] 90 (0,0)):=by
     rw[a2];show(w2.heap.push _)[w2.z]?=_;simp
    have e9:Hid _:=a2;have b0:=(Xa H 0).1;have b1:=(Xa H 1).1;have b2:=(Xa H 2).1;have b3:=(Xa H 3).1;have b4:=(Xa H 4).1;have b5:=(Xa H 5).1;have b6:=(Xa H 6).1;have b7:=(Xa H 7).1;have f4:=d6.out w2 w3 a3 HQ;have c8:Hid _:=a3;have f5:Hid (∀W,ag w3.z w3 W->W.heap[w2.z]?=ab (.cells #[.string I,.string D,.string J,.string K,.int .i64 U,.int .i64 Z,.bool x6,.slice lp ln lc] 90 (0,0))):=fun W hW=>(hW.block _ (Array.getElem?_eq_some_iff.1 H).1).trans H
    clear a2 a3 H d5 d6;go_wp2_with (rw[<-e9.out])
    refine f4.mono ?_;rintro e w4 ⟨rfl,d0⟩;have i3:=HN.out w2 w4 (c8.out.trans (d0.out.mono c8.out.size)) HQ;have a0:=f5.out w4 d0.out;have g0:=(Xa a0 0).1;have g1:=(Xa a0 1).1;have g2:=(Xa a0 2).1;have g3:=(Xa a0 3).1;have g4:=(Xa a0 4).1;have g5:=(Xa a0 5).1;have g6:=(Xa a0 6).1;have g7:=(Xa a0 7).1;clear a0 HN HQ f5 c8 d0 f4;go_wp2_with fail
    refine i3.mono ?_;rintro e w5 ⟨rfl,h6⟩;go_wp2;exact e8.out _ h6.out
 ·have ho:m.aR i=(m,5):=by unfold Ya.aR;rw[if_pos (by omega)]
  rw[ho];rw[decide_eq_false hi]at d1;have j2:=hE.here.q.c4;have HF:Hid (Xe ad w B h O (m,5) nb hn (.returned (.iface 287 (.pointer (ab (ad 4))))) w):=⟨⟨_,rfl,Jd.b8 4 (by decide)⟩,Yj.here hp bR⟩;generalize Xe ad w B h O (m,5) nb hn=G at *;clear hp hz hE ho hi f7 h0 h1 h2 h3 f6 hf d7;go_enter func20,ntmps20;go_wp2_with fail
  refine d1.mono ?_;rintro e w1 ⟨rfl,rfl⟩;go_wp2;exact HF.out
end
end
section
theorem PJ (w:World):ae prog 24 #[.slice aa 0 0] w fun e w'=>e=.returned (.slice aa 0 0)/\w'=w:=by
 have hn:∀W,Sem.run prog (binOp .eql 36 (.slice aa 0 0) (.slice aa 0 0)) W=.ok (.bool az) W:=fun W=>by kernel_rfl
 go_enter func24,ntmps24;go_wp2;go_ret;exact⟨rfl,rfl⟩
theorem MU (ad:aq)(c:Nat)(w:World):ae prog 24 #[.slice (ab ad) 0 c] w fun e w'=>(∃D,e=.returned D/\Zc XI 41 w' w.heap.size D [])/\ag w.heap.size w w':=by
 have hn:∀W,Sem.run prog (binOp .eql 36 (.slice (ab ad) 0 c) (.slice aa 0 0)) W=.ok (.bool F) W:=fun W=>by kernel_rfl
 go_enter func24,ntmps24;go_wp2;go_ret;refine⟨⟨_,rfl,rfl,ao ⟨w.heap.size,0,#[],rfl,an _,?_,an _,by unfold maxLen;omega,rfl,rfl⟩⟩,bR.alloc nR _⟩;show(w.heap.push _)[w.heap.size]?=_;simp
theorem M6 (q:Option aq)(l:List Ev)(c:Nat)(w:World)(hr:Ql XI w q l)(hq:q=aa->l=[]/\c=0)(hl:l.length<=1000000):ae prog 24 #[.slice q l.length c] w fun e w'=>(∃I,e=.returned I/\Zc XI 41 w' w.heap.size I l)/\ag w.heap.size w w':=by
 cases q with
 |none =>
  obtain⟨H,J⟩:=hq rfl;subst H J;exact(PJ w).mono fun e w' D=>⟨⟨_,D.1,Zc.nil _ _ _⟩,by rw[D.2];exact Below.refl _ _⟩
 |some ad =>
  by_cases K:l=[]
  ·subst K;exact(MU ad c w).mono fun e w' D=>⟨D.1,D.2⟩
  ·rcases hr with H|⟨b,o,D,a6,Z⟩
   ·exact absurd H K
   obtain rfl:ad=⟨b,o,aa⟩:=Option.some.inj D;obtain⟨i0,a0,a2,a3,a4⟩:=info_parts DC;have a5:∀j u,(Qb XI l)[j]?=ab u->w.cell? ⟨b,o+j,aa⟩=ab u:=fun j u hj=>by
    have:=Ql.cells (E:=XI) Z j u hj;by_cases U:j=0
    ·subst U;simpa[Addr.add]using this
    ·simpa[Addr.add,U]using this
   exact(slices_CloneE i0 _ 8 64 a0 a2 a3 a4 rfl (by decide) (fun W=>by kernel_rfl) b o l.length c (Qb XI l) w (Qr XI l) (by unfold maxLen;omega) (by omega) a5 (Zz XI l)).mono fun e w' ⟨I,H,J,_,h4⟩=>⟨⟨I,H,J⟩,h4⟩
section
variable {w w':World} {B h:Nat} {O O':Nat->Option Whose} {m:Ya} {X:WB} {ml:List (Zb×Lv)} {nb hn:Nat->Nat} {n k:Nat} {ad:Nat->aq}
theorem Zc.mY {w:World}{B:Nat}{v:Value}{l:List Ev}(h:Zc XI 41 w B v l)(hi:i<l.length):∃b o c,v=.slice (ab ⟨b,o,aa⟩) l.length c/\w.cell? ⟨b,o+i*8+5,aa⟩=ab (.string (Qq l i).text)/\w.frozen? ⟨b,o+i*8+5,aa⟩=F/\B<=b/\b<w.heap.size:=by
 obtain⟨p,c,I,J,_,_,K⟩:=h.form;obtain⟨b,o,rfl,a0,_,_,_,_,_,U,_,_⟩:=qX J hi;refine⟨b,o,c,I,U,?_,K b o rfl⟩;rcases h.2 with⟨D,_⟩|⟨g,cap,a2,D,_,Z,_⟩
 ·rw[I]at D;cases D
 ·rw[I]at D;injection D with H _ _
  injection H with H
  injection H with H _ _
  subst H;exact(Xa Z _).2
theorem SE (hp:Ye w B h O m X ml nb hn)(b1:m.events.length<=1000000)(a8:∀e∈m.events,e.text.size<=1000):
 ae prog 12 #[.pointer (ab ⟨h,0,aa⟩)] w fun e w'=>(∃v,e=.returned v/\Zc XI 41 w' w.heap.size v m.events)/\ag w.heap.size w w':=by
 obtain⟨p,c,D,hr,_,H,_⟩:=hp.bV.form;have a9:w.cell? ⟨h,42,aa⟩=ab (.slice p m.events.length c):=by rw[<-D];exact(hp.cell 42).1
 have a3:=M6 p m.events c w hr H b1;have HT:Hid (∀i,i<m.events.length->∀W,ae prog 19 #[.string (Qq m.events i).text] W fun e w'=>e=.returned (.string (Qq m.events i).text)/\Hid (ag W.heap.size W w')):=fun i hi W=>(Xs _ W (by have:=a8 (Qq m.events i) (by rw[nF hi];exact List.getElem_mem hi);omega)).mono fun e w' H=>⟨H.1,H.2⟩
 clear hp hr H D a8;generalize m.events=E at *;go_enter func12,ntmps12;go_wp2_with fail
 refine a3.mono ?_;rintro e w1 ⟨⟨v1,rfl,a0⟩,a2⟩;obtain⟨J,c1,rfl,_⟩:=a0.form;have K:Hid (Zc XI 41 w1 w.heap.size (.slice J E.length c1) E/\ag w.heap.size w w1):=⟨a0,a2⟩;clear a0 a2 a3 a9;go_wp2;go_loopw [12] (fun x wr=>∃i:Nat,i<=E.length/\x=.int .i64 i/\Zc XI 41 wr w.heap.size (.slice J E.length c1) E/\ag w.heap.size w wr) (fun x _=>E.length-(intOf x).toNat)
 case atStart=>exact⟨0,am _,rfl,K.out.1,K.out.2⟩
 case round =>
  obtain⟨i,hi,rfl,U,hB⟩:=hrel;have I:Hid (Zc XI 41 wr w.heap.size (.slice J E.length c1) E/\ag w.heap.size w wr):=⟨U,hB⟩;by_cases a4:i<E.length
  ·obtain⟨b,o,c2,D,h5,f5,a2,a5⟩:=U.mY a4;obtain rfl:J=ab ⟨b,o,aa⟩:=by injection D
   clear D;have a6:=HT.out i a4 wr;have a7:Hid (∀W,ag wr.heap.size wr W->(W.cell? ⟨b,o+i*8+5,aa⟩=ab (.string (Qq E i).text)/\W.frozen? ⟨b,o+i*8+5,aa⟩=F/\W.setCell ⟨b,o+i*8+5,aa⟩ (.string (Qq E i).text)=W)/\Zc XI 41 W w.heap.size (.slice (ab ⟨b,o,aa⟩) E.length c1) E/\ag w.heap.size w W):=fun W Z=>by
    have hc:=(Z.cell (p:=⟨b,o+i*8+5,aa⟩) a5).trans h5;exact⟨⟨hc,(World.frozen?_of_block (a:=⟨b,o+i*8+5,aa⟩) (Z.block b a5)).trans f5,Yo hc⟩,I.out.1.kept Z,I.out.2.trans (Z.mono I.out.2.size)⟩
   clear U hB HT K f5;generalize (Qq E i).text=t at *;go_wp2_with fail
   refine a6.mono ?_;rintro e w2 ⟨rfl,b0⟩;obtain⟨⟨g1,g2,g3⟩,h6⟩:=a7.out w2 b0.out;have H6:Hid _:=(show Hid (Zc XI 41 w2 w.heap.size (.slice (ab ⟨b,o,aa⟩) E.length c1) E/\ag w.heap.size w w2)from h6);clear h6 a7 a6;go_wp2;go_roundw
   case rel=>exact⟨i+1,by omega,by go_num,H6.out.1,H6.out.2⟩
   case measure=>simp[intOf];omega
  ·clear U hB HT K;go_wp2;go_ret;exact⟨⟨_,rfl,I.out.1⟩,I.out.2⟩
end
end
section
open Ring
def gA (m:Ya):Prop:=∀e∈m.events,e.text.size<=1000
section
variable {w w':World} {B h:Nat} {O O':Nat->Option Whose} {m m':Ya} {X:WB} {ml:List (Zb×Lv)} {nb hn:Nat->Nat} {n k t:Nat} {ad:Nat->aq} {S:Nat->Prop}
theorem gA.same (h:gA m)(e:m'.events=m.events):gA m':=fun x D=>h x (by rw[<-e];exact D)
theorem gA.after {w:Ya}(h:gA w)(who:Nat)(H:XA a):gA (w.after who a):=by
 unfold Ya.after;split
 ·intro x D;have D:x∈w.events++ [_]:=D;rcases List.mem_append.1 D with D|D
  ·exact h x D
  ·rw[List.mem_singleton.1 D];show(if a.found=az then a.text else⟨#[]⟩:ByteArray).size<=1000;split
   ·exact H.aN.text
   ·decide
 ·split
  ·exact h.same rfl
  ·exact h
 ·exact h
theorem gA.aR {w:Ya}(D:WZ n k w)(h:gA w)(i:Int):gA (w.aR i).1:=by
 unfold Ya.aR;split
 ·exact h
 ·rename_i U;have H:YF (Yg w.L i.toNat):=D.msgs _ (oB (by omega));have I:∀o:Option Nat,gA (match o with
   |some who=>Ya.aD {w.off i.toNat with aA:=w.aA+1} who (Yg w.L i.toNat)
   |none=>if(Yg w.L i.toNat).aP=J8 then Ya.aI {w.off i.toNat with aA:=w.aA+1} (Yg w.L i.toNat)else Ya.node {w.off i.toNat with aA:=w.aA+1} (Yg w.L i.toNat)):=fun o=>by
   cases o with
   |some who =>
    show gA (Ya.aD {w.off i.toNat with aA:=w.aA+1} who (Yg w.L i.toNat));unfold Ya.aD;split
    ·exact h.same rfl
    ·rename_i a J;obtain⟨K,_,Z⟩:=D.asks who a J;refine gA.after ?_ who (K.aD H (by omega)).1;exact h.same rfl
   |none =>
    show gA (if(Yg w.L i.toNat).aP=J8 then Ya.aI {w.off i.toNat with aA:=w.aA+1} (Yg w.L i.toNat)else Ya.node {w.off i.toNat with aA:=w.aA+1} (Yg w.L i.toNat));split
    ·unfold Ya.aI;split<;>exact h.same rfl
    ·unfold Ya.node;split<;>exact h.same rfl
  exact I _
theorem RD (w:Ya)(i:Int):(w.aR i).1.nodes.length=w.nodes.length:=by
 unfold Ya.aR;split
 ·rfl
 ·have D:∀o:Option Nat,(match o with
   |some who=>Ya.aD {w.off i.toNat with aA:=w.aA+1} who (Yg w.L i.toNat)
   |none=>if(Yg w.L i.toNat).aP=J8 then Ya.aI {w.off i.toNat with aA:=w.aA+1} (Yg w.L i.toNat)else Ya.node {w.off i.toNat with aA:=w.aA+1} (Yg w.L i.toNat)).nodes.length=w.nodes.length:=fun o=>by
   cases o with
   |some who =>
    show(Ya.aD {w.off i.toNat with aA:=w.aA+1} who (Yg w.L i.toNat)).nodes.length=_;unfold Ya.aD;split
    ·rfl
    ·unfold Ya.after;split
     ·rfl
     ·split<;>rfl
     ·rfl
   |none =>
    show(if(Yg w.L i.toNat).aP=J8 then Ya.aI {w.off i.toNat with aA:=w.aA+1} (Yg w.L i.toNat)else Ya.node {w.off i.toNat with aA:=w.aA+1} (Yg w.L i.toNat)).nodes.length=_;split
    ·unfold Ya.aI;split<;>rfl
    ·unfold Ya.node;split
     ·show(List.set _ _ _).length=_;rw[List.length_set];rfl
     ·rfl
  exact D _
def WdO (n k:Nat)(w:World)(B h:Nat)(S:Nat->Prop)(m:Ya):Prop:=∃O X ml nb hn,Ye w B h O m X ml nb hn/\WZ n k m/\m.nodes.length<=16/\gA m/\m.events.length<=1000000/\S=fun j=>O j≠aa
theorem QQ (hB:Jaq ad (iZ ad) w (fun j=>O j≠aa)):Yi ad w O:=fun W D H=>(hB W D (fun j I hn=>H j I (by
 cases e:O j with
 |none=>rfl
 |some o=>exact absurd (show O j≠aa by rw[e];exact fun e=>by cases e) hn))).2
theorem Xe.jal {r:Ya×Int}(Z:bP n k t m)(ht:t<=4000)(hs:WStep n k m r.1)(hz:WZ n k r.1)(a0:r.1.nodes.length<=16)(a2:gA r.1)(hA:Xe ad w B h O r nb hn e w'):Jbd ad WdO n k B h (fun j=>O j≠aa) r w e w':=by
 obtain⟨D,H,I,J,K,U⟩:=hA;exact⟨D,_,⟨H,I,J,nb,hn,K,hz,a0,a2,by have:=(bP.step t m r.1 Z hs).bV;omega,rfl⟩,U⟩
theorem B3 (m:Ya)(who:Int)(put:Bool)(text:ByteArray):(m.open_ who put text).1.nodes=m.nodes/\(m.open_ who put text).1.events=m.events:=by
 unfold Ya.open_;split
 ·exact⟨rfl,rfl⟩
 ·split<;>exact⟨rfl,rfl⟩
theorem Jb5 (ad:Nat->aq):Jae ad (iZ ad) WdO where
 dH:=fun {n k w B h S m} I j hj=>by
  obtain⟨O,X,ml,nb,hn,H,_,_,_,_,rfl⟩:=I;cases e:O j with
  |none=>exact absurd e hj
  |some o=>exact H.aO j o e
 aS:=fun {n k w w' B h S m} I hs hk=>by
  obtain⟨O,X,ml,nb,hn,H,J,h3,h4,h5,rfl⟩:=I;exact⟨O,X,ml,nb,hn,H.aS hs (fun j o e=>hk j (by show O j≠aa;rw[e];exact fun e=>by cases e)),J,h3,h4,h5,rfl⟩
 born:=fun w _ hX=>MY ad w hX
 new:=fun l n k p cap w hs hc _ hl hx hn hk _ hX=>by
  refine(GR ad p l cap n k w (by omega) hc (fun x h=>by have:=hx x h;omega) hn hk hs hX).mono fun e w' K=>?_
  obtain⟨K,hb⟩:=K;refine⟨?_,hb⟩;rcases K with⟨h1,ev,J,h3⟩|⟨h1,h,c,e1,e2,e3,e4,e5,O,X,ml,nb,hn,H⟩
  ·exact ai ⟨h1,ev,J,h3⟩
  ·have hN:¬0<(Xj l).1:=fun h=>h1 (by unfold Zr;rw[if_pos h];exact h)
   obtain⟨_,b8,b5⟩:=QV (l:=l) (by omega);obtain⟨a6,a3⟩:=YP (l:=l) (by omega);have a4:XS n.toNat k.toNat c:=by
    obtain⟨h1,J,_,_,h5⟩:=Xm e5;exact⟨by omega,by omega,by omega,by omega,by omega,by omega,h5⟩
   refine ao ⟨h1,h,_,c,e1,e4,a4,O,X,ml,nb,hn,?_,?_,?_,?_,?_,rfl⟩
   ·rw[pM c a3];exact H
   ·rw[pM c a3];exact(GO e5 a4).kQ a6
   ·rw[pM c a3];show([]++l.map _).length<=16;rw[List.nil_append,List.length_map];exact b5
   ·rw[pM c a3];exact fun x hx=>by cases hx
   ·rw[pM c a3];exact am _
 put:=fun {n k w B h S m t} who text I U ht c8 hB=>by
  obtain⟨O,X,ml,nb,hn,H,D,a0,Z,_,rfl⟩:=I;have ho:=U.ops;have J:=B3 m who az text;exact(GI H D who text (by omega) ho.1 (by omega) (QQ hB)).mono fun e w' K=>K.jal U ht (WStep.open_ m who az text) (D.lZ _ _ _) (by rw[J.1];exact a0) (Z.same J.2)
 get:=fun {n k w B h S m t} who I U ht hB=>by
  obtain⟨O,X,ml,nb,hn,H,D,a0,Z,_,rfl⟩:=I;have ho:=U.ops;have J:=B3 m who F ⟨#[]⟩;exact(Jsp H D who ho.1 (by omega) (QQ hB)).mono fun e w' K=>K.jal U ht (WStep.open_ m who F ⟨#[]⟩) (D.lZ _ _ _) (by rw[J.1];exact a0) (Z.same J.2)
 aR:=fun {n k w B h S m t} i I U ht hB=>by
  obtain⟨O,X,ml,nb,hn,H,D,a0,Z,a2,rfl⟩:=I;have ho:=U.ops;obtain⟨⟨G,hG⟩,b6,d0⟩:=U.inv (by omega);exact(VL H D i ho.1 (by omega) b6 (by omega) a2 (by omega) (QQ hB) (hG.fC i.toNat)).mono fun e w' K=>K.jal U ht (WStep.aR m i) (D.jI i (hG.fC i.toNat)) (by rw[RD];exact a0) (gA.aR D Z i)
 change:=fun {n k w B h S m t} l p cap I U ht hs hc hl hx hB=>by
  obtain⟨O,X,ml,nb,hn,H,D,a0,Z,a2,rfl⟩:=I;have ho:=U.ops;refine(SD H D ho.1 (by omega) a0 p l cap (by omega) hc (fun x h=>by have:=hx x h;omega) hs (QQ hB)).mono fun e w' K=>?_
  rcases K with⟨_,⟨ev,e1,_⟩,O2,X2,a7,a8,a9,b0,hU⟩|⟨hF,e1,c,e2,e3,e4,e5,O2,X2,a7,a8,a9,b0,hU⟩
  ·exact⟨⟨ev,e1⟩,_,m,⟨O2,X2,a7,a8,a9,b0,D,a0,Z,a2,rfl⟩,hU,WStep.none m,ai rfl⟩
  ·have a5:m.mover=none:=by
    cases e:m.mover with
    |none=>rfl
    |some a =>
     refine absurd ?_ hF;unfold Ya.gC;rw[e,if_pos (show(ab a).isSome=az from rfl)];decide
   have b2:¬12<=m.aB.length:=fun h=>hF (by
    unfold Ya.gC;rw[a5,if_neg (by decide),if_pos h];decide)
   have b1:¬0<(Zr l (aG m.aB m.aC).n (aG m.aB m.aC).k).1:=fun h=>hF (by
    unfold Ya.gC;rw[a5,if_neg (by decide),if_neg b2,if_pos h];exact h)
   have d1:¬16<m.nodes.length+(m.fresh l).length:=fun h=>hF (by
    unfold Ya.gC;rw[a5,if_neg (by decide),if_neg b2,if_neg b1,if_pos h];decide)
   have hN:¬0<(Xj l).1:=fun h=>b1 (by unfold Zr;rw[if_pos h];exact h)
   obtain⟨a6,a3⟩:=YP (l:=l) (by omega);have a4:XS n k c:=by
    have h1:XS c.n.toNat c.k.toNat c:=by
     obtain⟨h1,J,_,_,h5⟩:=Xm e5;exact⟨by omega,by omega,by omega,by omega,by omega,by omega,h5⟩
    have J:=(D.cU m.aC D.act).2;rw[e2,e3,J.n_,J.k_,af,af]at h1;exact h1
   have b3:m.dS l c=(m.cE (m.fresh l)).eP c:=by
    unfold Ya.dS;rw[tI l m a3];rfl
   have b4:WStep n k m ((m.cE (m.fresh l)).eP c):=by
    rw[<-b3];exact WStep.change m l c a5 a4
   have b7:∀x∈m.fresh l,Jo x=true:=fun x hx=>a6 x (List.mem_filter.1 hx).1
   refine⟨⟨_,e1⟩,_,_,⟨O2,X2,a7,a8,a9,b0,((D.kQ b7).lP a5 (by show m.aB.length<12;omega) e5 a4).1,?_,Z.same rfl,by have:=(bP.step t m _ U b4).bV;omega,rfl⟩,hU,b4,ao ⟨c,b3.symm,a5,a4,e4.mem,JaX b1⟩⟩;show(m.nodes++(m.fresh l).map _).length<=16;rw[List.length_append,List.length_map];omega
 events:=fun {n k w B h S m} I=>by
  obtain⟨O,X,ml,nb,hn,H,D,a0,Z,a2,rfl⟩:=I;refine(SE H a2 Z).mono fun e w' K=>?_
  obtain⟨⟨v,e1,hO⟩,hb⟩:=K;obtain⟨p,c,rfl,U,_⟩:=hO.form;exact⟨⟨p,c,e1,U⟩,hb⟩
 state:=fun {n k w B h S m} who I=>by
  obtain⟨O,X,ml,nb,hn,H,D,a0,Z,a2,rfl⟩:=I;exact KI H who
 jaf:=fun {n k w B h S m} I=>by
  obtain⟨O,X,ml,nb,hn,H,D,a0,Z,a2,rfl⟩:=I;exact(VR H D).mono fun e w' K=>by
   obtain⟨⟨p,c,h1,_⟩,J⟩:=K;exact⟨⟨p,c,h1⟩,J⟩
 bO:=fun {n k w B h S m} I=>by
  obtain⟨O,X,ml,nb,hn,H,D,a0,Z,a2,rfl⟩:=I;exact D.bO
end
end
end Go.Proofs.YtgapmoniajcliaaGreatDoor

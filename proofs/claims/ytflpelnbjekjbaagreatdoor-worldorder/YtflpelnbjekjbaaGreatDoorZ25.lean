/- Texts laid together. -/
import Derived.Test.YtflpelnbjekjbaaGreatDoorZ24
set_option maxRecDepth 10000
set_option maxHeartbeats 4000000
open Option renaming none->N,some->aa
open Int renaming toNat_natCast->ab
open Go renaming Calls->ac,Addr->za
open Go.RowKit renaming Below->ae
open Bool renaming false->F,true->al
namespace Go.Proofs.YtflpelnbjekjbaaGreatDoor
open Go.Proofs.Tryz
open Go.RowKit
variable {a:Za}{x:Zb×Lv}{i:Nat}
section
section
variable {w w':World} {B h:Nat} {O O':Nat->Option Whose} {m:Ya} {X:WB} {ml:List (Zb×Lv)} {nb hn:Nat->Nat} {n k:Nat} {ad:Nat->za}
theorem LY (hp:Ye w B h O m X ml nb hn)(hz:WZ n k m)(ha:m.mover=aa a)(hL:Jn w x)(hx:YF x.1)(hE:Yi ad w O)(d2:(a.aD x.1).1.st≠.refused):
 ac prog 42 #[.pointer (aa ⟨h,0,N⟩),Z1 x.1 (fI x.2)] w fun e w'=>e=.returned (.tuple #[])/\Yj w B h O (m.aI x.1) nb hn w':=by
 obtain⟨b,a7,d3⟩:=RJ hp hz ha hL hx hE;obtain⟨a9,f3,b0⟩:=hz.bI a ha;have f4:=hz.many;have f5:=hz.act;have d4:=hz.dO a ha;obtain⟨f6,f7⟩:=a9.aD hx (by rcases b0 with h|h<;>rw[h.2]<;>omega);have b1:(a.aD x.1).2.length<=12:=I7 a9 hx (by rcases b0 with h|h<;>rw[h.2]<;>omega);obtain⟨a1,a3⟩:=Xb ((a.aD x.1).1);obtain⟨m2,a2⟩:=Xb (Ya.send {m with mover:=aa a1} (a.aD x.1).2);rw[<-a3]at d2;obtain⟨mx,d6,d7⟩:∃mx,m.aI x.1=mx/\((a1.st≠.done/\mx=m2)∨(a1.st=.done/\mx={m2 with aC:=m2.aC+1,mover:=N})):=by
  by_cases hs:a1.st=.done
  ·refine⟨_,?_,Or.inr ⟨hs,rfl⟩⟩;unfold Ya.aI;rw[ha];dsimp only;rw[<-a3];rw[if_pos hs,if_pos (Or.inl hs),a2];show Ya.mk _ _ _ _ _ _ _ (m.aB.length-1) _ _ _=Ya.mk _ _ _ _ _ _ _ (m.aC+1) _ _ _;rw[d4];rfl
  ·refine⟨_,?_,Or.inl ⟨hs,rfl⟩⟩;unfold Ya.aI;rw[ha];dsimp only;rw[<-a3];rw[if_neg hs,if_neg (fun h=>by rcases h with h|h;exact hs h;exact d2 h),a2];rfl
 rw[d6];obtain⟨⟨x0,x1,x2,x3,x4,x5,x6,xL⟩,lp,ln,lc⟩:=x
 replace b1:(a.aD ⟨x0,x1,x2,x3,x4,x5,x6,xL⟩).2.length<=12:=b1
 obtain⟨K,a5⟩:=Xb (w.alloc (.cells #[.string x0,.string x1,.string x2,.string x3,.int .i64 x4,.int .i64 x5,.bool x6,.slice lp ln lc] 81));have a6:=Zk a5;have a0:=JH a5;have f8:ac prog 39 #[.pointer (aa ⟨h,32,N⟩)] K fun e w'=>e=.returned (.bool al)/\w'=K:=(sC (hp.below a6)).mono fun e w' U=>⟨by rw[U.1,ha];rfl,U.2⟩
 have b3:∀W H m2 D I,Ye W B h H m2 D I nb hn->D.mp=X.mp->W.cell? ⟨h,32,N⟩=aa (.pointer (aa ⟨b,0,N⟩)):=fun W H m2 D I U he=>by have:=(Xa U.blk 32).1;rw[show(Zi D)[32]?=aa (J3 D.mp)from rfl,he,a7]at this;exact this
 obtain⟨c0,c1,c2,c3,c4,c5,c6,c7,c8⟩:K.cell? ⟨h,32,N⟩=aa (.pointer (aa ⟨b,0,N⟩))/\K.cell? ⟨w.heap.size,0,N⟩=aa (.string x0)/\K.cell? ⟨w.heap.size,1,N⟩=aa (.string x1)/\K.cell? ⟨w.heap.size,2,N⟩=aa (.string x2)/\K.cell? ⟨w.heap.size,3,N⟩=aa (.string x3)/\K.cell? ⟨w.heap.size,4,N⟩=aa (.int .i64 x4)/\K.cell? ⟨w.heap.size,5,N⟩=aa (.int .i64 x5)/\K.cell? ⟨w.heap.size,6,N⟩=aa (.bool x6)/\K.cell? ⟨w.heap.size,7,N⟩=aa (.slice lp ln lc):=⟨b3 _ _ _ _ _ (hp.below a6) rfl,(Xa a0 0).1,(Xa a0 1).1,(Xa a0 2).1,(Xa a0 3).1,(Xa a0 4).1,(Xa a0 5).1,(Xa a0 6).1,(Xa a0 7).1⟩;have d8:Hid (ac prog 67 #[.pointer (aa ⟨b,0,N⟩),.agg #[.string x0,.string x1,.string x2,.string x3,.int .i64 x4,.int .i64 x5,.bool x6,.slice lp ln lc]] K.drew fun e w'=>∃p c,e=.returned (.slice p (a.aD ⟨x0,x1,x2,x3,x4,x5,x6,xL⟩).2.length c)/\Hid (∃O1,Ye w' B h O1 {m with mover:=aa a1} X ml nb hn/\Qp c (fun b=>O1 b=aa .bD) w' p (a.aD ⟨x0,x1,x2,x3,x4,x5,x6,xL⟩).2/\Yd (fun k=>O k≠N) (fun k=>O1 k≠N) w w')):=(d3 K.drew a6.drew).mono fun e w' U=>by
  obtain⟨p,c,e1,O1,e2,e3,e4⟩:=U;rw[a3];exact⟨p,c,e1,O1,e2,e3,e4⟩
 have d9:Hid (∀W p c,Hid (∃O1,Ye W B h O1 {m with mover:=aa a1} X ml nb hn/\Qp c (fun b=>O1 b=aa .bD) W p (a.aD ⟨x0,x1,x2,x3,x4,x5,x6,xL⟩).2/\Yd (fun k=>O k≠N) (fun k=>O1 k≠N) w W)->ac prog 36 #[.pointer (aa ⟨h,0,N⟩),.slice p (a.aD ⟨x0,x1,x2,x3,x4,x5,x6,xL⟩).2.length c] W fun e w'=>e=.returned (.tuple #[])/\Hid (∃H D I,Ye w' B h H m2 D I nb hn/\D.mp=X.mp/\Yd (fun k=>O k≠N) (fun k=>H k≠N) w w')):=fun W p c hM=>by
  obtain⟨O1,f9,g0,g3⟩:=hM.out;refine(oS f9 hz.bO (by omega) g0).mono fun e w' U=>?_
  obtain⟨e1,O6,v6,g4,e0,_,g5⟩:=U;rw[<-a2]at e0;exact⟨e1,O6,_,g4,e0,rfl,g3.trans' g5⟩
 have b4:m2.mover=aa a1:=by rw[a2];rfl
 have e5:Hid (∀W H D I,Ye W B h H m2 D I nb hn->D.mp=X.mp->W.cell? ⟨h,32,N⟩=aa (.pointer (aa ⟨b,0,N⟩))/\ac prog 68 #[.pointer (aa ⟨b,0,N⟩)] W fun e w'=>e=.returned (.string a1.st.word)/\Hid (ae W.heap.size W w')):=fun W H D I U he=>by
  refine⟨b3 _ _ _ _ _ U he,?_⟩;have hv:=U.bI;rw[b4]at hv;obtain⟨b2,g1,g2,_⟩:=hv;rw[he,a7]at g1;injection g1 with g1
  rw[g1];exact(AK g2).mono fun e w' U=>⟨U.1,U.2⟩
 have g6:Hid (K=w.alloc (.cells #[.string x0,.string x1,.string x2,.string x3,.int .i64 x4,.int .i64 x5,.bool x6,.slice lp ln lc] 81)):=a5;have b5:Hid (((¬a1.st.word.toList=[100,111,110,101]/\(a1.st.word.toList==[100,111,110,101])=F)/\∀W H D I,Ye W B h H m2 D I nb hn->Yd (fun k=>O k≠N) (fun k=>H k≠N) w W->Yj w B h O mx nb hn W)∨(a1.st.word=⟨#[100,111,110,101]⟩/\∀W H D I,Ye W B h H m2 D I nb hn->Yd (fun k=>O k≠N) (fun k=>H k≠N) w W->(0<=D.act/\D.act<=1000)/\W.heap[h]?=aa (.cells (Zi D) 74 (0,0))/\∀V,V=lC W h D (D.act+1)->Yj w B h O mx nb hn V)):=by
  rcases d7 with⟨hs,rfl⟩|⟨hs,rfl⟩
  ·have h1:=qT (o:=aa a1) (st:=.done) (fun b hb e=>hs (by rw[Option.some.inj hb];exact e)) (Or.inr (Or.inr rfl));rw[IU]at h1;exact Or.inl ⟨h1,fun W H D I h1 h2=>⟨H,D,I,h1,h2⟩⟩
  ·refine Or.inr ⟨by rw[hs];rfl,fun W H D I h1 h2=>by
    obtain⟨O4,g1,g2⟩:=h1.kP b4;have hx:D.act=(m.aC:Int):=by rw[h1.aW.1,a2];rfl
    exact⟨by rw[hx];omega,h1.blk,fun V hV=>by rw[hV];exact⟨O4,_,_,g1,h2.trans' g2⟩⟩⟩
 generalize Yj w B h O mx nb hn=G at *;generalize (a.aD ⟨x0,x1,x2,x3,x4,x5,x6,xL⟩).2.length=rl at *;clear hp hz ha hL hx hE b3 d3 a9 f3 b0 f6 f7 a2 b1 a5 a6 a0 a3 a7 b4 d7 d2 d6 f4 f5 d4;generalize a1.st.word=i0 at *;show ac prog 42 #[.pointer (aa ⟨h,0,N⟩),.agg #[.string x0,.string x1,.string x2,.string x3,.int .i64 x4,.int .i64 x5,.bool x6,.slice lp ln lc]] w _;go_enter func42,ntmps42;go_wp2_with (rw[<-g6.out])
 refine f8.mono ?_;rintro e w3 ⟨rfl,rfl⟩;go_wp2;go_cut []from 9 to 19 (fun W=>∃H D I,Ye W B h H m2 D I nb hn/\D.mp=X.mp/\Yd (fun k=>O k≠N) (fun k=>H k≠N) w W)
 case first =>
  go_region_law (first|(go_simp;go_at_call 67;refine d8.out.mono ?_;rintro e w5 ⟨p5,d5,rfl,g7⟩;go_simp)|(go_simp;go_at_call 36;refine(d9.out w5 p5 d5 g7).mono ?_;rintro e w6 ⟨rfl,g8⟩;go_simp))
  all_goals (go_wp2_with fail;go_meet)
  all_goals exact g8.out
 case rest =>
  obtain⟨H,D,I,b6,b7,e6⟩:=hcut;obtain⟨i1,e7⟩:=e5.out wc H D I b6 b7;have b8:Hid (Ye wc B h H m2 D I nb hn/\D.mp=X.mp/\Yd (fun k=>O k≠N) (fun k=>H k≠N) w wc):=⟨b6,b7,e6⟩;clear b6 b7 e6 e5 c0 c1 c2 c3 c4 c5 c6 c7 c8 d8 d9;go_wp2_with fail
  refine e7.mono ?_;rintro e Z ⟨rfl,d0⟩;have a4:Hid (Ye Z B h H m2 D I nb hn/\Yd (fun k=>O k≠N) (fun k=>H k≠N) w Z):=⟨b8.out.1.below d0.out,b8.out.2.2.trans' (Yd.aJ d0.out)⟩;clear e7 b8 d0;rcases b5.out with⟨⟨i2,i3⟩,hg⟩|⟨rfl,hg⟩
  ·have HG:Hid (∀W H D I,Ye W B h H m2 D I nb hn->Yd (fun k=>O k≠N) (fun k=>H k≠N) w W->G W):=hg;clear hg b5;go_wp2
   go_end0
   exact⟨rfl,HG.out _ _ _ _ a4.out.1 a4.out.2⟩
  ·obtain⟨g9,J,hV⟩:=hg Z H D I a4.out.1 a4.out.2;clear hg b5;have h0:=(Xa J 32).1;have i4:=(Xa J 32).2;have h3:=(Xa J 33).1;have i5:=(Xa J 33).2;have h4:=(Xa J 34).1;have i8:=(Xa J 34).2;have h5:=(Xa J 35).1;have i9:=(Xa J 35).2;have h6:=(Xa J 36).1;have j1:=(Xa J 36).2;have h7:=(Xa J 37).1;have j2:=(Xa J 37).2;have h8:=(Xa J 38).1;have k0:=(Xa J 38).2;have h9:=(Xa J 39).1;have k2:=(Xa J 39).2;obtain⟨v9,d1⟩:=Xb (lC Z h D (D.act+1));have e8:Hid (G v9):=hV v9 d1;change Z.cell? ⟨h,33,N⟩=aa (.int .i64 D.nx.c.n)at h3;change Z.cell? ⟨h,34,N⟩=aa (.int .i64 D.nx.c.k)at h4;change Z.cell? ⟨h,35,N⟩=aa (.slice D.nx.p D.nx.c.L.length D.nx.cap)at h5;change Z.cell? ⟨h,36,N⟩=aa (.int .i64 D.cf.c.n)at h6;change Z.cell? ⟨h,37,N⟩=aa (.int .i64 D.cf.c.k)at h7;change Z.cell? ⟨h,38,N⟩=aa (.slice D.cf.p D.cf.c.L.length D.cf.cap)at h8;change Z.cell? ⟨h,39,N⟩=aa (.int .i64 D.act)at h9;change Z.cell? ⟨h,32,N⟩=aa (J3 D.mp)at h0;have k3:IntKind.i64.wrap (D.act+1)=D.act+1:=by rw[IntKind.wrap_i64];omega
   have e9:Hid (v9=(((((((Z.setCell ⟨h,36,N⟩ (.int .i64 D.nx.c.n)).setCell ⟨h,37,N⟩ (.int .i64 D.nx.c.k)).setCell ⟨h,38,N⟩ (.slice D.nx.p D.nx.c.L.length D.nx.cap)).setCell ⟨h,39,N⟩ (.int .i64 (D.act+1))).setCell ⟨h,32,N⟩ (.pointer N)).setCell ⟨h,33,N⟩ (.int .i64 0)).setCell ⟨h,34,N⟩ (.int .i64 0)).setCell ⟨h,35,N⟩ (.slice N 0 0)):=d1;clear hV d1 J g9 a4;go_wp2_with (rw[<-e9.out])
   go_wp2;first|(rw[<-e9.out];go_end0;exact⟨rfl,e8.out⟩)|(go_end0;exact⟨rfl,e8.out⟩)
theorem M3 (hp:Ye w B h O m X ml nb hn)(ha:m.mover=N)(x:Zb×Lv):
 ac prog 42 #[.pointer (aa ⟨h,0,N⟩),Z1 x.1 (fI x.2)] w fun e w'=>e=.returned (.tuple #[])/\Yj w B h O (m.aI x.1) nb hn w':=by
 have a3:m.aI x.1=m:=by unfold Ya.aI;rw[ha]
 rw[a3];obtain⟨⟨H,I,J,K,U,Z,x6,xL⟩,lp,ln,lc⟩:=x;obtain⟨D,a0⟩:=Xb (w.alloc (.cells #[.string H,.string I,.string J,.string K,.int .i64 U,.int .i64 Z,.bool x6,.slice lp ln lc] 81));have a2:=Zk a0;have a4:ac prog 39 #[.pointer (aa ⟨h,32,N⟩)] D fun e w'=>e=.returned (.bool F)/\w'=D:=(sC (hp.below a2)).mono fun e w' hq=>⟨by rw[hq.1,ha];rfl,hq.2⟩
 have HG:Hid (Yj w B h O m nb hn D):=Yj.here hp a2;have a5:Hid (D=w.alloc (.cells #[.string H,.string I,.string J,.string K,.int .i64 U,.int .i64 Z,.bool x6,.slice lp ln lc] 81)):=a0;generalize Yj w B h O m nb hn=G at *;clear hp ha a3 a0 a2;show ac prog 42 #[.pointer (aa ⟨h,0,N⟩),.agg #[.string H,.string I,.string J,.string K,.int .i64 U,.int .i64 Z,.bool x6,.slice lp ln lc]] w _;go_enter func42,ntmps42;go_wp2_with (rw[<-a5.out])
 refine a4.mono ?_;rintro e w3 ⟨rfl,rfl⟩;go_wp2;refine bodyPost_ret (results_none rfl _ _ _) rfl ?_;exact⟨rfl,HG.out⟩
theorem JnM (H:Ye w B h O m X ml nb hn)(I:WZ n k m)(J:Jn w x)(K:YF x.1)(U:Yi ad w O)(Z:∀a,m.mover=aa a->(a.aD x.1).1.st≠.refused):
 ac prog 42 #[.pointer (aa ⟨h,0,N⟩),Z1 x.1 (fI x.2)] w fun e w'=>e=.returned (.tuple #[])/\Yj w B h O (m.aI x.1) nb hn w':=by
 cases D:m.mover with
 |none=>exact M3 H D x
 |some a =>
  exact LY H I D J K U (Z a D)
end
end
section
section
variable {w w':World} {B h:Nat} {O O':Nat->Option Whose} {m:Ya} {X:WB} {ml:List (Zb×Lv)} {nb hn:Nat->Nat} {n k:Nat} {ad:Nat->za}
theorem I3 (ml:List (Zb×Lv))(D:i<ml.length):(JN ml i).1=Yg (ml.map Prod.fst) i:=by
 unfold JN Yg;rw[List.getD_eq_getElem?_getD,List.getD_eq_getElem?_getD,List.getElem?_map,List.getElem?_eq_getElem D];rfl
theorem Jok (D:Ye w B h O m X ml nb hn)(J:WZ n k m)(i:Int)(hE:Yi ad w O):
 ac prog 12 #[.pointer (aa ⟨h,0,N⟩),.int .i64 i] w (Xe ad w B h O (m.bC i) nb hn):=by
 obtain⟨p,c,a4,a2⟩:=D.mU;have K:=xA h m.L.length c p i w a4;have a0:=KM h m.L.length c p w J.bO a4;by_cases U:0<=i/\i<(m.L.length:Int)
 ·obtain⟨j,rfl⟩:∃j:Nat,i=(j:Int):=⟨i.toNat,by omega⟩;rw[decide_eq_true U]at K;have Z:j<ml.length:=by omega
  by_cases hf:120<=m.L.length
  ·have I:m.bC (j:Int)=(m,7):=by unfold Ya.bC;rw[if_neg (by omega),if_pos hf]
   rw[I];have a6:=hE.here.sv.eZ.c6;have HF:Hid (Xe ad w B h O (m,7) nb hn (.returned (.iface 301 (.pointer (aa (ad 6))))) w):=⟨⟨_,rfl,Jd.b8 6 (by decide)⟩,Yj.here D bR⟩;have a3:(120:Int)-(m.L.length:Int)=0:=by have:=J.bO;omega
   rw[a3]at a0;generalize Xe ad w B h O (m,7) nb hn=G at *;clear D J hE I U a2 Z hf a3;go_enter func12,ntmps12;go_wp2_with fail
   refine K.mono ?_;rintro e w1 ⟨rfl,rfl⟩;go_wp2_with fail
   refine a0.mono ?_;rintro e w2 ⟨rfl,rfl⟩;go_wp2;exact HF.out
  ·have I:m.bC (j:Int)=({m with L:=m.L.take (j+1)++ [Yg m.L j]++m.L.drop (j+1)},0):=by unfold Ya.bC;rw[if_neg (by omega),if_neg hf,ab]
   rw[I];have a5:ac prog 32 #[.pointer (aa ⟨h,0,N⟩),.int .i64 (j:Int)] w fun e w'=>e=.returned (.tuple #[])/\Hid (Xe ad w B h O ({m with L:=m.L.take (j+1)++ [Yg m.L j]++m.L.drop (j+1)},0) nb hn (.returned .nilIface) w'):=(KT h B X.vm ml j w (by have:=J.bO;omega) Z (D.cell 0).1 (D.cell 0).2 D.gV D.row).mono fun e w' hq=>⟨hq.1,⟨_,rfl,Jd.nil _ _⟩,Yj.oV D hq.2 (fun x H=>by
    unfold gL at H;rcases List.mem_append.1 H with H|H
    ·rcases List.mem_append.1 H with H|H
     ·exact List.mem_of_mem_take H
     ·rw[List.mem_singleton.1 H];exact vV Z
    ·exact List.mem_of_mem_drop H) (by
    unfold gL;rw[List.map_append,List.map_append,List.map_take,List.map_drop,List.map_singleton,I3 ml Z,D.dK])⟩
   have a3:¬(120:Int)-(m.L.length:Int)=0:=by omega
   generalize (120:Int)-(m.L.length:Int)=rm at *;generalize Xe ad w B h O ({m with L:=m.L.take (j+1)++ [Yg m.L j]++m.L.drop (j+1)},0) nb hn=G at *;clear D J hE I U a2 Z hf;go_enter func12,ntmps12;go_wp2_with fail
   refine K.mono ?_;rintro e w1 ⟨rfl,rfl⟩;go_wp2_with fail
   refine a0.mono ?_;rintro e w2 ⟨rfl,rfl⟩;go_wp2_with fail
   refine a5.mono ?_;rintro e w3 ⟨rfl,HG⟩;go_wp2;exact HG.out
 ·have I:m.bC i=(m,5):=by unfold Ya.bC;rw[if_pos (by omega)]
  rw[I];rw[decide_eq_false U]at K;have a7:=hE.here.q.c4;have HF:Hid (Xe ad w B h O (m,5) nb hn (.returned (.iface 301 (.pointer (aa (ad 4))))) w):=⟨⟨_,rfl,Jd.b8 4 (by decide)⟩,Yj.here D bR⟩;generalize Xe ad w B h O (m,5) nb hn=G at *;clear D J hE I U a2 a0;go_enter func12,ntmps12;go_wp2_with fail
  refine K.mono ?_;rintro e w1 ⟨rfl,rfl⟩;go_wp2;exact HF.out
end
end
section
theorem JtQ (X:WB)(n:Int):(Zi X).setIfInBounds 41 (.int .i64 n)=Zi {X with del:=n}:=rfl
section
variable {w w':World} {B h:Nat} {O O':Nat->Option Whose} {m:Ya} {X:WB} {ml:List (Zb×Lv)} {nb hn:Nat->Nat} {n k:Nat} {ad:Nat->za}
theorem Ye.l7 (H:Ye w B h O m X ml nb hn)(d:Int):Ye (w.setCell ⟨h,41,N⟩ (.int .i64 d)) B h O {m with aA:=d} {X with del:=d} ml nb hn/\Yp h w (w.setCell ⟨h,41,N⟩ (.int .i64 d)):=by
 have I:=(Yp.refl h w).set 41 (.int .i64 d);have D:=H.toXJ.aS I.size (fun k o e J=>I.cW k (H.aO k o e).2 (fun K=>by rw[K,H.self]at e;injection e with e;exact J e.symm));exact⟨{aO:=D.aO,row:=D.row,cX:=D.cX,dK:=D.dK,bD:=D.bD,bV:=D.bV,cS:=D.cS,cD:=D.cD,bU:=D.bU,node:=D.node,mem:=D.mem,ask:=D.ask,bI:=D.bI,cf:=D.cf,blk:=by have:=Qc H.blk 41 (.int .i64 d);rw[JtQ]at this;exact this,self:=H.self,cV:=H.cV,dF:=H.dF,aW:=⟨H.aW.1,H.aW.2.1,rfl⟩},I⟩
theorem Yp.nJ {S:Nat->Prop}(D:Yp h w w')(I:S h):Yd S S w w':=⟨D.os,D.tape,D.output,D.size,fun k H hn=>D.cW k H (fun e=>hn (e▸I)),fun _ H=>Or.inl H⟩
theorem Jqj (D:Ye w B h O m X ml nb hn)(hz:WZ n k m){j:Nat}(hj:j<m.L.length):∃x:Zb×Lv,x.1=Yg m.L j/\YF x.1/\ac prog 30 #[.pointer (aa ⟨h,0,N⟩),.int .i64 (j:Int)] w fun e w'=>e=.returned (Z1 x.1 (fI x.2))/\∃O' X' a0,Ye w' B h O' (m.off j) X' a0 nb hn/\Jn w' x/\(∀b o,x.2.1=aa ⟨b,o,N⟩->O' b=aa .bD)/\Yd (fun k=>O k≠N) (fun k=>O' k≠N) w w':=by
 have a3:ml.length=m.L.length:=by rw[<-D.dK,List.length_map]
 have H:j<ml.length:=by omega
 have a2:(JN ml j).1=Yg m.L j:=by rw[I3 ml H,D.dK]
 have J:JN ml j∈ml:=vV H;refine⟨JN ml j,a2,hz.msgs _ (by rw[<-D.dK];exact List.mem_map.2 ⟨_,J,rfl⟩),?_⟩;refine(F6 h B X.vm ml j w (by have:=hz.bO;omega) H (D.cell 0).1 (D.cell 0).2 D.gV D.row).mono fun e w' K=>⟨K.1,?_⟩
 obtain⟨v',hF⟩:=K.2;obtain⟨O2,U,I,g3⟩:=D.oV hF (fun x hx=>D.bD x (List.mem_of_mem_eraseIdx hx));rw[wA,D.dK]at U;obtain⟨i1,Z⟩:=D.bD _ J;exact⟨O2,_,_,U,i1.kept I.size (fun b o e=>I.kept b _ (Z b o e) (fun e=>by cases e) (fun e=>by cases e)),fun b o e=>I.bD b (Z b o e),g3⟩
end
end
section
section
variable {w w':World} {B h:Nat} {O O':Nat->Option Whose} {m:Ya} {X:WB} {ml:List (Zb×Lv)} {nb hn:Nat->Nat} {n k:Nat} {ad:Nat->za}
theorem VL (hp:Ye w B h O m X ml nb hn)(hz:WZ n k m)(i:Int)(h0:0<=m.ops)(h1:m.ops<=1152921504606846976)(h3:0<=m.aA)(h4:m.aA<=1152921504606846976)(f7:m.events.length<=1000000)(hf:m.nodes.length<=1000)(hE:Yi ad w O)(d8:∀a,m.mover=aa a->(a.aD (Yg m.L i.toNat)).1.st≠.refused):
 ac prog 18 #[.pointer (aa ⟨h,0,N⟩),.int .i64 i] w (Xe ad w B h O (m.aR i) nb hn):=by
 obtain⟨p,c,h9,f8⟩:=hp.mU;have d2:=xA h m.L.length c p i w h9;by_cases hi:0<=i/\i<(m.L.length:Int)
 ·obtain⟨j,rfl⟩:∃j:Nat,i=(j:Int):=⟨i.toNat,by omega⟩;rw[ab]at d8;rw[decide_eq_true hi]at d2;have f9:=hp.aW.2.2;have i5:w.cell? (pA h 41)=aa (.int .i64 m.aA):=by rw[<-f9];exact(hp.cell 41).1
  have i8:=(hp.cell 41).2;have i9:IntKind.i64.wrap (m.aA+1)=m.aA+1:=by rw[IntKind.wrap_i64];omega
  obtain⟨d9,d3⟩:=hp.l7 (m.aA+1);obtain⟨w1,e0⟩:=Xb (w.setCell (pA h 41) (.int .i64 (m.aA+1)));rw[<-e0]at d9 d3;have g8:=d3.nJ (S:=fun k=>O k≠N) (by show O h≠N;rw[hp.self];exact fun e=>(by cases e));have e4:WZ n k {m with aA:=m.aA+1}:=hz.IE _;obtain⟨x,a9,d4,e5⟩:=Jqj d9 e4 (j:=j) (by show j<m.L.length;omega);have a9:=a9;obtain⟨m2,a6⟩:∃m2:Ya,m2=Ya.off {m with aA:=m.aA+1} j:=⟨_,rfl⟩;rw[<-a6]at e5;have d5:WZ n k m2:=by rw[a6];exact e4.off j
  have e6:m.aR (j:Int)=(match YN x.1.aP with
   |some who=>m2.aD who x.1
   |none=>if x.1.aP=J8 then m2.aI x.1 else m2.node x.1,0):=by
   unfold Ya.aR;rw[if_neg (by omega),ab,a9,a6];rfl
  rw[e6];have g9:∀a,m2.mover=aa a->(a.aD x.1).1.st≠.refused:=fun a ha=>by rw[a9];exact d8 a (by rw[a6]at ha;exact ha)
  have h2:=hE.wrote hp.self d3;have c8:0<=m2.ops/\m2.ops<=1152921504606846976/\m2.events.length<=1000000/\m2.nodes.length<=1000:=by rw[a6];exact⟨h0,h1,f7,hf⟩
  obtain⟨⟨I,D,J,K,U,Z,x6,xL⟩,lp,ln,lc⟩:=x;have d6:Hid (ac prog 30 #[.pointer (aa (pA h 0)),.int .i64 (j:Int)] w1 fun e w'=>e=.returned (.agg #[.string I,.string D,.string J,.string K,.int .i64 U,.int .i64 Z,.bool x6,.slice lp ln lc])/\Hid (∃O' X' a4,Ye w' B h O' m2 X' a4 nb hn/\Jn w' (⟨I,D,J,K,U,Z,x6,xL⟩,lp,ln,lc)/\(∀b o,lp=aa (pA b o)->O' b=aa .bD)/\Yd (fun k=>O k≠N) (fun k=>O' k≠N) w w'/\Yi ad w' O')):=e5.mono fun e w' hq=>by
   obtain⟨e1,O2,X2,e7,g1,g2,g3,g4⟩:=hq;exact⟨e1,O2,X2,e7,g1,g2,g3,g8.trans' g4,h2.next g4⟩
  have h5:Hid _:=e0;have HM:Hid (∀W2 W3,ae W2.z W2 W3->Hid (∃O' X' a4,Ye W2 B h O' m2 X' a4 nb hn/\Jn W2 (⟨I,D,J,K,U,Z,x6,xL⟩,lp,ln,lc)/\(∀b o,lp=aa (pA b o)->O' b=aa .bD)/\Yd (fun k=>O k≠N) (fun k=>O' k≠N) w W2/\Yi ad W2 O')->ac prog 42 #[.pointer (aa (pA h 0)),.agg #[.string I,.string D,.string J,.string K,.int .i64 U,.int .i64 Z,.bool x6,.slice lp ln lc]] W3 fun e w'=>e=.returned (.tuple #[])/\Hid (Yj w B h O (m2.aI ⟨I,D,J,K,U,Z,x6,xL⟩) nb hn w')):=fun W2 W3 hb hQ=>by
   obtain⟨O2,X2,e7,g1,g2,g3,g4,g5⟩:=hQ.out;exact(JnM (g1.below hb) d5 (g2.below hb) d4 (g5.below hb) g9).mono fun e w' hq=>by
    obtain⟨e1,O3,X3,e8,e2,e3⟩:=hq;exact⟨e1,O3,X3,e8,e2,(g4.trans' (Yd.aJ hb)).trans' e3⟩
  have HC:Hid (∀q:Nat,q<6->∀W2 W3,ae W2.z W2 W3->Hid (∃O' X' a4,Ye W2 B h O' m2 X' a4 nb hn/\Jn W2 (⟨I,D,J,K,U,Z,x6,xL⟩,lp,ln,lc)/\(∀b o,lp=aa (pA b o)->O' b=aa .bD)/\Yd (fun k=>O k≠N) (fun k=>O' k≠N) w W2/\Yi ad W2 O')->ac prog 44 #[.pointer (aa (pA h 0)),.int .i64 (q:Int),.agg #[.string I,.string D,.string J,.string K,.int .i64 U,.int .i64 Z,.bool x6,.slice lp ln lc]] W3 fun e w'=>e=.returned (.tuple #[])/\Hid (Yj w B h O (m2.aD q ⟨I,D,J,K,U,Z,x6,xL⟩) nb hn w')):=fun q h6 W2 W3 hb hQ=>by
   obtain⟨O2,X2,e7,g1,g2,g3,g4,g5⟩:=hQ.out;exact(WR (g1.below hb) d5 h6 (g2.below hb) d4 (g5.below hb) c8.1 c8.2.1 c8.2.2.1).mono fun e w' hq=>by
    obtain⟨e1,O3,X3,e8,e2,e3⟩:=hq;exact⟨e1,O3,X3,e8,e2,(g4.trans' (Yd.aJ hb)).trans' e3⟩
  have HN:Hid (∀W2 W3,ae W2.z W2 W3->Hid (∃O' X' a4,Ye W2 B h O' m2 X' a4 nb hn/\Jn W2 (⟨I,D,J,K,U,Z,x6,xL⟩,lp,ln,lc)/\(∀b o,lp=aa (pA b o)->O' b=aa .bD)/\Yd (fun k=>O k≠N) (fun k=>O' k≠N) w W2/\Yi ad W2 O')->ac prog 45 #[.pointer (aa (pA h 0)),.agg #[.string I,.string D,.string J,.string K,.int .i64 U,.int .i64 Z,.bool x6,.slice lp ln lc]] W3 fun e w'=>e=.returned (.tuple #[])/\Hid (Yj w B h O (m2.node ⟨I,D,J,K,U,Z,x6,xL⟩) nb hn w')):=fun W2 W3 hb hQ=>by
   obtain⟨O2,X2,e7,g1,g2,g3,g4,g5⟩:=hQ.out;exact(WQ (g1.below hb) d5 (g2.below hb) g3 d4 c8.2.2.2 (g5.below hb)).mono fun e w' hq=>by
    obtain⟨e1,O3,X3,e8,e2,e3⟩:=hq;exact⟨e1,O3,X3,e8,e2,(g4.trans' (Yd.aJ hb)).trans' e3⟩
  dsimp only at e6 ⊢;by_cases a7:D=J8
  ·have a5:YN D=none:=by rw[a7];decide +kernel
   rw[a5];dsimp only;rw[if_pos a7];have e9:Hid (∀W,Yj w B h O (m2.aI ⟨I,D,J,K,U,Z,x6,xL⟩) nb hn W->Xe ad w B h O (m2.aI ⟨I,D,J,K,U,Z,x6,xL⟩,0) nb hn (.returned .nilIface) W):=fun W hW=>⟨⟨_,rfl,Jd.nil _ _⟩,hW⟩
   generalize Xe ad w B h O (m2.aI ⟨I,D,J,K,U,Z,x6,xL⟩,0) nb hn=G at *;generalize Yj w B h O (m2.aI ⟨I,D,J,K,U,Z,x6,xL⟩) nb hn=T at *;have j1:D.toList=[109,111,118,101,114]:=by rw[a7];decide +kernel
   clear HC HN a5 a7;clear hp hz hE e6 hi f8 h0 h1 h3 h4 f7 hf d8 d9 d3 e0 g8 e4 a9 d4 e5 a6 d5 g9 h2 c8 f9;go_enter func18,ntmps18;go_wp2_with fail
   refine d2.mono ?_;rintro e wf ⟨rfl,rfl⟩;go_wp2_with (rw[<-h5.out])
   refine d6.out.mono ?_;rintro e w2 ⟨rfl,HQ⟩;obtain⟨w3,a2⟩:=Xb (w2.alloc (.cells #[.string I,.string D,.string J,.string K,.int .i64 U,.int .i64 Z,.bool x6,.slice lp ln lc] 81));have a3:=Zk a2;have H:w3.heap[w2.z]?=aa (.cells #[.string I,.string D,.string J,.string K,.int .i64 U,.int .i64 Z,.bool x6,.slice lp ln lc] 81 (0,0)):=by
    rw[a2];show(w2.heap.push _)[w2.z]?=_;simp
   have f3:Hid _:=a2;have b0:=(Xa H 0).1;have b1:=(Xa H 1).1;have b2:=(Xa H 2).1;have b3:=(Xa H 3).1;have b4:=(Xa H 4).1;have b5:=(Xa H 5).1;have b6:=(Xa H 6).1;have b7:=(Xa H 7).1;have i0:=HM.out w2 w3 a3 HQ;clear a2 a3 H HM HQ d6;go_wp2_with (rw[<-f3.out])
   refine i0.mono ?_;rintro e w4 ⟨rfl,i1⟩;go_wp2;exact e9.out _ i1.out
  ·have i2:¬D.toList=[109,111,118,101,114]:=fun e=>a7 (wN (e.trans (by decide +kernel)))
   have j2:(D.toList==[109,111,118,101,114])=false:=by simp[i2]
   have d7:Hid (∀W2 W3,ae W2.z W2 W3->Hid (∃O' X' a4,Ye W2 B h O' m2 X' a4 nb hn/\Jn W2 (⟨I,D,J,K,U,Z,x6,xL⟩,lp,ln,lc)/\(∀b o,lp=aa (pA b o)->O' b=aa .bD)/\Yd (fun k=>O k≠N) (fun k=>O' k≠N) w W2/\Yi ad W2 O')->ac prog 43 #[.string D] W3 fun e w'=>e=.returned (.int .i64 (gM D))/\Hid (ae W3.z W3 w')):=fun W2 W3 hb hQ=>by
    obtain⟨O2,X2,e7,g1,g2,g3,g4,g5⟩:=hQ.out;exact(CE D W3 (g5.below hb).here.x.2).mono fun e w' hq=>⟨hq.1,hq.2⟩
   cases a5:YN D with
   |some q =>
    have h6:q<6:=by
     unfold YN at a5;exact List.mem_range.1 (List.mem_of_find?_eq_some a5)
    have f4:gM D=(q:Int):=by unfold gM;rw[a5]
    rw[f4]at d7;dsimp only;have h8:Hid _:=HC.out q h6;clear HC;have e9:Hid (∀W,Yj w B h O (m2.aD q ⟨I,D,J,K,U,Z,x6,xL⟩) nb hn W->Xe ad w B h O (m2.aD q ⟨I,D,J,K,U,Z,x6,xL⟩,0) nb hn (.returned .nilIface) W):=fun W hW=>⟨⟨_,rfl,Jd.nil _ _⟩,hW⟩
    generalize Xe ad w B h O (m2.aD q ⟨I,D,J,K,U,Z,x6,xL⟩,0) nb hn=G at *;generalize Yj w B h O (m2.aD q ⟨I,D,J,K,U,Z,x6,xL⟩) nb hn=T at *;have z1:(0:Int)<=(q:Int):=by omega
    clear HM HN a5 a7 f4;clear hp hz hE e6 hi f8 h0 h1 h3 h4 f7 hf d8 d9 d3 e0 g8 e4 a9 d4 e5 a6 d5 g9 h2 c8 f9;go_enter func18,ntmps18;go_wp2_with fail
    refine d2.mono ?_;rintro e wf ⟨rfl,rfl⟩;go_wp2_with (rw[<-h5.out])
    refine d6.out.mono ?_;rintro e w2 ⟨rfl,HQ⟩;obtain⟨w3,a2⟩:=Xb (w2.alloc (.cells #[.string I,.string D,.string J,.string K,.int .i64 U,.int .i64 Z,.bool x6,.slice lp ln lc] 81));have a3:=Zk a2;have H:w3.heap[w2.z]?=aa (.cells #[.string I,.string D,.string J,.string K,.int .i64 U,.int .i64 Z,.bool x6,.slice lp ln lc] 81 (0,0)):=by
     rw[a2];show(w2.heap.push _)[w2.z]?=_;simp
    have f3:Hid _:=a2;have b0:=(Xa H 0).1;have b1:=(Xa H 1).1;have b2:=(Xa H 2).1;have b3:=(Xa H 3).1;have b4:=(Xa H 4).1;have b5:=(Xa H 5).1;have b6:=(Xa H 6).1;have b7:=(Xa H 7).1;have f5:=d7.out w2 w3 a3 HQ;have d0:Hid _:=a3;have f6:Hid (∀W,ae w3.z w3 W->W.heap[w2.z]?=aa (.cells #[.string I,.string D,.string J,.string K,.int .i64 U,.int .i64 Z,.bool x6,.slice lp ln lc] 81 (0,0))):=fun W hW=>(hW.block _ (Array.getElem?_eq_some_iff.1 H).1).trans H
    clear a2 a3 H d6 d7;go_wp2_with (rw[<-f3.out])
    refine f5.mono ?_;rintro e w4 ⟨rfl,d1⟩;have i3:=h8.out w2 w4 (d0.out.trans (d1.out.mono d0.out.size)) HQ;have a0:=f6.out w4 d1.out;have g0:=(Xa a0 0).1;have g1:=(Xa a0 1).1;have g2:=(Xa a0 2).1;have g3:=(Xa a0 3).1;have g4:=(Xa a0 4).1;have g5:=(Xa a0 5).1;have g6:=(Xa a0 6).1;have g7:=(Xa a0 7).1;clear a0 h8 HQ f6 d0 d1 f5;go_wp2_with fail
    refine i3.mono ?_;rintro e w5 ⟨rfl,h7⟩;go_wp2;exact e9.out _ h7.out
   |none =>
    have f4:gM D=-1:=by unfold gM;rw[a5]
    rw[f4]at d7;dsimp only;rw[if_neg a7];have e9:Hid (∀W,Yj w B h O (m2.node ⟨I,D,J,K,U,Z,x6,xL⟩) nb hn W->Xe ad w B h O (m2.node ⟨I,D,J,K,U,Z,x6,xL⟩,0) nb hn (.returned .nilIface) W):=fun W hW=>⟨⟨_,rfl,Jd.nil _ _⟩,hW⟩
    generalize Xe ad w B h O (m2.node ⟨I,D,J,K,U,Z,x6,xL⟩,0) nb hn=G at *;generalize Yj w B h O (m2.node ⟨I,D,J,K,U,Z,x6,xL⟩) nb hn=T at *;clear HM HC a5 a7 f4;clear hp hz hE e6 hi f8 h0 h1 h3 h4 f7 hf d8 d9 d3 e0 g8 e4 a9 d4 e5 a6 d5 g9 h2 c8 f9;go_enter func18,ntmps18;go_wp2_with fail
    refine d2.mono ?_;rintro e wf ⟨rfl,rfl⟩;go_wp2_with (rw[<-h5.out])
    refine d6.out.mono ?_;rintro e w2 ⟨rfl,HQ⟩;obtain⟨w3,a2⟩:=Xb (w2.alloc (.cells #[.string I,.string D,.string J,.string K,.int .i64 U,.int .i64 Z,.bool x6,.slice lp ln lc] 81));have a3:=Zk a2;have H:w3.heap[w2.z]?=aa (.cells #[.string I,.string D,.string J,.string K,.int .i64 U,.int .i64 Z,.bool x6,.slice lp ln lc] 81 (0,0)):=by
     rw[a2];show(w2.heap.push _)[w2.z]?=_;simp
    have f3:Hid _:=a2;have b0:=(Xa H 0).1;have b1:=(Xa H 1).1;have b2:=(Xa H 2).1;have b3:=(Xa H 3).1;have b4:=(Xa H 4).1;have b5:=(Xa H 5).1;have b6:=(Xa H 6).1;have b7:=(Xa H 7).1;have f5:=d7.out w2 w3 a3 HQ;have d0:Hid _:=a3;have f6:Hid (∀W,ae w3.z w3 W->W.heap[w2.z]?=aa (.cells #[.string I,.string D,.string J,.string K,.int .i64 U,.int .i64 Z,.bool x6,.slice lp ln lc] 81 (0,0))):=fun W hW=>(hW.block _ (Array.getElem?_eq_some_iff.1 H).1).trans H
    clear a2 a3 H d6 d7;go_wp2_with (rw[<-f3.out])
    refine f5.mono ?_;rintro e w4 ⟨rfl,d1⟩;have i4:=HN.out w2 w4 (d0.out.trans (d1.out.mono d0.out.size)) HQ;have a0:=f6.out w4 d1.out;have g0:=(Xa a0 0).1;have g1:=(Xa a0 1).1;have g2:=(Xa a0 2).1;have g3:=(Xa a0 3).1;have g4:=(Xa a0 4).1;have g5:=(Xa a0 5).1;have g6:=(Xa a0 6).1;have g7:=(Xa a0 7).1;clear a0 HN HQ f6 d0 d1 f5;go_wp2_with fail
    refine i4.mono ?_;rintro e w5 ⟨rfl,h7⟩;go_wp2;exact e9.out _ h7.out
 ·have ho:m.aR i=(m,5):=by unfold Ya.aR;rw[if_pos (by omega)]
  rw[ho];rw[decide_eq_false hi]at d2;have k0:=hE.here.q.c4;have HF:Hid (Xe ad w B h O (m,5) nb hn (.returned (.iface 301 (.pointer (aa (ad 4))))) w):=⟨⟨_,rfl,Jd.b8 4 (by decide)⟩,Yj.here hp bR⟩;generalize Xe ad w B h O (m,5) nb hn=G at *;clear hp hz hE ho hi f8 h0 h1 h3 h4 f7 hf d8;go_enter func18,ntmps18;go_wp2_with fail
  refine d2.mono ?_;rintro e w1 ⟨rfl,rfl⟩;go_wp2;exact HF.out
end
end
section
theorem PJ (w:World):ac prog 46 #[.slice N 0 0] w fun e w'=>e=.returned (.slice N 0 0)/\w'=w:=by
 have hn:∀W,Sem.run prog (binOp .eql 40 (.slice N 0 0) (.slice N 0 0)) W=.ok (.bool al) W:=fun W=>by kernel_rfl
 go_enter func46,ntmps46;go_wp2;go_ret;exact⟨rfl,rfl⟩
theorem MU (ad:za)(c:Nat)(w:World):ac prog 46 #[.slice (aa ad) 0 c] w fun e w'=>(∃D,e=.returned D/\Zc XI 47 w' w.heap.size D [])/\ae w.heap.size w w':=by
 have hn:∀W,Sem.run prog (binOp .eql 40 (.slice (aa ad) 0 c) (.slice N 0 0)) W=.ok (.bool F) W:=fun W=>by kernel_rfl
 go_enter func46,ntmps46;go_wp2;go_ret;refine⟨⟨_,rfl,rfl,Or.inr ⟨w.heap.size,0,#[],rfl,Nat.le_refl _,?_,Nat.le_refl _,by unfold maxLen;omega,rfl,rfl⟩⟩,bR.alloc nR _⟩;show(w.heap.push _)[w.heap.size]?=_;simp
theorem M6 (q:Option za)(l:List Ev)(c:Nat)(w:World)(hr:Ql XI w q l)(hq:q=N->l=[]/\c=0)(hl:l.length<=1000000):ac prog 46 #[.slice q l.length c] w fun e w'=>(∃I,e=.returned I/\Zc XI 47 w' w.heap.size I l)/\ae w.heap.size w w':=by
 cases q with
 |none =>
  obtain⟨H,J⟩:=hq rfl;subst H J;exact(PJ w).mono fun e w' D=>⟨⟨_,D.1,Zc.nil _ _ _⟩,by rw[D.2];exact Below.refl _ _⟩
 |some ad =>
  by_cases K:l=[]
  ·subst K;exact(MU ad c w).mono fun e w' D=>⟨D.1,D.2⟩
  ·rcases hr with H|⟨b,o,D,a6,Z⟩
   ·exact absurd H K
   obtain rfl:ad=⟨b,o,N⟩:=Option.some.inj D;obtain⟨i0,a0,a2,a3,a4⟩:=info_parts DC;have a5:∀j u,(Qb XI l)[j]?=aa u->w.cell? ⟨b,o+j,N⟩=aa u:=fun j u hj=>by
    have:=Ql.cells (E:=XI) Z j u hj;by_cases U:j=0
    ·subst U;simpa[Addr.add]using this
    ·simpa[Addr.add,U]using this
   exact(slices_CloneE i0 _ 8 64 a0 a2 a3 a4 rfl (by decide) (fun W=>by kernel_rfl) b o l.length c (Qb XI l) w (Qr XI l) (by unfold maxLen;omega) (by omega) a5 (Zz XI l)).mono fun e w' ⟨I,H,J,_,h4⟩=>⟨⟨I,H,J⟩,h4⟩
section
variable {w w':World} {B h:Nat} {O O':Nat->Option Whose} {m:Ya} {X:WB} {ml:List (Zb×Lv)} {nb hn:Nat->Nat} {n k:Nat} {ad:Nat->za}
theorem Zc.mY {w:World}{B:Nat}{v:Value}{l:List Ev}(h:Zc XI 47 w B v l)(hi:i<l.length):∃b o c,v=.slice (aa ⟨b,o,N⟩) l.length c/\w.cell? ⟨b,o+i*8+5,N⟩=aa (.string (Qq l i).text)/\w.frozen? ⟨b,o+i*8+5,N⟩=F/\B<=b/\b<w.heap.size:=by
 obtain⟨p,c,I,J,_,_,K⟩:=h.form;obtain⟨b,o,rfl,a0,_,_,_,_,_,U,_,_⟩:=qX J hi;refine⟨b,o,c,I,U,?_,K b o rfl⟩;rcases h.2 with⟨D,_⟩|⟨g,cap,a2,D,_,Z,_⟩
 ·rw[I]at D;cases D
 ·rw[I]at D;injection D with H _ _
  injection H with H
  injection H with H _ _
  subst H;exact(Xa Z _).2
theorem SE (hp:Ye w B h O m X ml nb hn)(b2:m.events.length<=1000000)(a9:∀e∈m.events,e.text.size<=1000):
 ac prog 19 #[.pointer (aa ⟨h,0,N⟩)] w fun e w'=>(∃v,e=.returned v/\Zc XI 47 w' w.heap.size v m.events)/\ae w.heap.size w w':=by
 obtain⟨p,c,D,hr,_,H,_⟩:=hp.bV.form;have b0:w.cell? ⟨h,42,N⟩=aa (.slice p m.events.length c):=by rw[<-D];exact(hp.cell 42).1
 have a3:=M6 p m.events c w hr H b2;have HT:Hid (∀i,i<m.events.length->∀W,ac prog 28 #[.string (Qq m.events i).text] W fun e w'=>e=.returned (.string (Qq m.events i).text)/\Hid (ae W.heap.size W w')):=fun i hi W=>(Xs _ W (by have:=a9 (Qq m.events i) (by rw[nF hi];exact List.getElem_mem hi);omega)).mono fun e w' H=>⟨H.1,H.2⟩
 clear hp hr H D a9;generalize m.events=E at *;go_enter func19,ntmps19;go_wp2_with fail
 refine a3.mono ?_;rintro e w1 ⟨⟨v1,rfl,a0⟩,a2⟩;obtain⟨J,c1,rfl,_⟩:=a0.form;have K:Hid (Zc XI 47 w1 w.heap.size (.slice J E.length c1) E/\ae w.heap.size w w1):=⟨a0,a2⟩;clear a0 a2 a3 b0;go_wp2;go_loopw [12] (fun x wr=>∃i:Nat,i<=E.length/\x=.int .i64 i/\Zc XI 47 wr w.heap.size (.slice J E.length c1) E/\ae w.heap.size w wr) (fun x _=>E.length-(intOf x).toNat)
 case atStart=>exact⟨0,Nat.zero_le _,rfl,K.out.1,K.out.2⟩
 case round =>
  obtain⟨i,hi,rfl,U,hB⟩:=hrel;have I:Hid (Zc XI 47 wr w.heap.size (.slice J E.length c1) E/\ae w.heap.size w wr):=⟨U,hB⟩;by_cases a4:i<E.length
  ·obtain⟨b,o,c2,D,h5,f5,a2,a5⟩:=U.mY a4;obtain rfl:J=aa ⟨b,o,N⟩:=by injection D
   clear D;have a6:=HT.out i a4 wr;have a7:Hid (∀W,ae wr.heap.size wr W->(W.cell? ⟨b,o+i*8+5,N⟩=aa (.string (Qq E i).text)/\W.frozen? ⟨b,o+i*8+5,N⟩=F/\W.setCell ⟨b,o+i*8+5,N⟩ (.string (Qq E i).text)=W)/\Zc XI 47 W w.heap.size (.slice (aa ⟨b,o,N⟩) E.length c1) E/\ae w.heap.size w W):=fun W Z=>by
    have hc:=(Z.cell (p:=⟨b,o+i*8+5,N⟩) a5).trans h5;exact⟨⟨hc,(World.frozen?_of_block (a:=⟨b,o+i*8+5,N⟩) (Z.block b a5)).trans f5,Yo hc⟩,I.out.1.kept Z,I.out.2.trans (Z.mono I.out.2.size)⟩
   clear U hB HT K f5;generalize (Qq E i).text=t at *;go_wp2_with fail
   refine a6.mono ?_;rintro e w2 ⟨rfl,b1⟩;obtain⟨⟨g1,g2,g3⟩,h6⟩:=a7.out w2 b1.out;have H6:Hid _:=(show Hid (Zc XI 47 w2 w.heap.size (.slice (aa ⟨b,o,N⟩) E.length c1) E/\ae w.heap.size w w2)from h6);clear h6 a7 a6;go_wp2;go_roundw
   case rel=>exact⟨i+1,by omega,by go_num,H6.out.1,H6.out.2⟩
   case measure=>simp[intOf];omega
  ·clear U hB HT K;go_wp2;go_ret;exact⟨⟨_,rfl,I.out.1⟩,I.out.2⟩
end
end
section
open Ring
def gA (m:Ya):Prop:=∀e∈m.events,e.text.size<=1000
section
variable {w w':World} {B h:Nat} {O O':Nat->Option Whose} {m m':Ya} {X:WB} {ml:List (Zb×Lv)} {nb hn:Nat->Nat} {n k t:Nat} {ad:Nat->za} {S:Nat->Prop}
theorem gA.same (h:gA m)(e:m'.events=m.events):gA m':=fun x D=>h x (by rw[<-e];exact D)
theorem gA.after {w:Ya}(h:gA w)(who:Nat)(H:XA a):gA (w.after who a):=by
 unfold Ya.after;split
 ·intro x D;have D:x∈w.events++ [_]:=D;rcases List.mem_append.1 D with D|D
  ·exact h x D
  ·rw[List.mem_singleton.1 D];show(if a.found=al then a.text else⟨#[]⟩:BA).size<=1000;split
   ·exact H.aN.text
   ·decide
 ·split
  ·exact h.same rfl
  ·exact h
 ·exact h
theorem gA.aR {w:Ya}(D:WZ n k w)(h:gA w)(i:Int):gA (w.aR i).1:=by
 unfold Ya.aR;split
 ·exact h
 ·rename_i U;have H:YF (Yg w.L i.toNat):=D.msgs _ (oB (by omega));have I:∀o:Option Nat,gA (match o with
   |some who=>Ya.aD {w.off i.toNat with aA:=w.aA+1} who (Yg w.L i.toNat)
   |none=>if(Yg w.L i.toNat).aP=J8 then Ya.aI {w.off i.toNat with aA:=w.aA+1} (Yg w.L i.toNat)else Ya.node {w.off i.toNat with aA:=w.aA+1} (Yg w.L i.toNat)):=fun o=>by
   cases o with
   |some who =>
    show gA (Ya.aD {w.off i.toNat with aA:=w.aA+1} who (Yg w.L i.toNat));unfold Ya.aD;split
    ·exact h.same rfl
    ·rename_i a J;obtain⟨K,_,Z⟩:=D.asks who a J;refine gA.after ?_ who (K.aD H (by omega)).1;exact h.same rfl
   |none =>
    show gA (if(Yg w.L i.toNat).aP=J8 then Ya.aI {w.off i.toNat with aA:=w.aA+1} (Yg w.L i.toNat)else Ya.node {w.off i.toNat with aA:=w.aA+1} (Yg w.L i.toNat));split
    ·unfold Ya.aI;split<;>exact h.same rfl
    ·unfold Ya.node;split<;>exact h.same rfl
  exact I _
theorem RD (w:Ya)(i:Int):(w.aR i).1.nodes.length=w.nodes.length:=by
 unfold Ya.aR;split
 ·rfl
 ·have D:∀o:Option Nat,(match o with
   |some who=>Ya.aD {w.off i.toNat with aA:=w.aA+1} who (Yg w.L i.toNat)
   |none=>if(Yg w.L i.toNat).aP=J8 then Ya.aI {w.off i.toNat with aA:=w.aA+1} (Yg w.L i.toNat)else Ya.node {w.off i.toNat with aA:=w.aA+1} (Yg w.L i.toNat)).nodes.length=w.nodes.length:=fun o=>by
   cases o with
   |some who =>
    show(Ya.aD {w.off i.toNat with aA:=w.aA+1} who (Yg w.L i.toNat)).nodes.length=_;unfold Ya.aD;split
    ·rfl
    ·unfold Ya.after;split
     ·rfl
     ·split<;>rfl
     ·rfl
   |none =>
    show(if(Yg w.L i.toNat).aP=J8 then Ya.aI {w.off i.toNat with aA:=w.aA+1} (Yg w.L i.toNat)else Ya.node {w.off i.toNat with aA:=w.aA+1} (Yg w.L i.toNat)).nodes.length=_;split
    ·unfold Ya.aI;split<;>rfl
    ·unfold Ya.node;split
     ·show(List.set _ _ _).length=_;rw[List.length_set];rfl
     ·rfl
  exact D _
def WdO (n k:Nat)(w:World)(B h:Nat)(S:Nat->Prop)(m:Ya):Prop:=∃O X ml nb hn,Ye w B h O m X ml nb hn/\WZ n k m/\m.nodes.length<=16/\gA m/\m.events.length<=1000000/\S=fun j=>O j≠N
theorem QQ (hB:Z3 ad (iZ ad) w (fun j=>O j≠N)):Yi ad w O:=fun W D H=>(hB W D (fun j I hn=>H j I (by
 cases e:O j with
 |none=>rfl
 |some o=>exact absurd (show O j≠N by rw[e];exact fun e=>by cases e) hn))).2
theorem Xe.bG {r:Ya×Int}{e:Ending}(hr:bP n k t m)(ht:t<=400)(D:WStep n k m r.1)(hz:WZ n k r.1)(a0:r.1.nodes.length<=16)(a2:gA r.1)(hA:Xe ad w B h O r nb hn e w'):ZQ WdO n k B h (fun j=>O j≠N) m w e w':=by
 obtain⟨⟨H,I,_⟩,J,K,U,Z,hU⟩:=hA;exact⟨⟨H,I⟩,_,r.1,D,⟨J,K,U,nb,hn,Z,hz,a0,a2,by have:=(bP.step t m r.1 hr D).bV;omega,rfl⟩,hU⟩
theorem B3 (m:Ya)(who:Int)(put:Bool)(text:BA):(m.open_ who put text).1.nodes=m.nodes/\(m.open_ who put text).1.events=m.events:=by
 unfold Ya.open_;split
 ·exact⟨rfl,rfl⟩
 ·split<;>exact⟨rfl,rfl⟩
theorem Jrw (ad:Nat->za):IJ ad (iZ ad) WdO where
 dH:=fun {n k w B h S m} K j hj=>by
  obtain⟨O,X,ml,nb,hn,I,_,_,_,_,rfl⟩:=K;cases e:O j with
  |none=>exact absurd e hj
  |some o=>exact I.aO j o e
 aS:=fun {n k w w' B h S m} K hb hk=>by
  obtain⟨O,X,ml,nb,hn,I,D,h3,h4,h5,rfl⟩:=K;exact⟨O,X,ml,nb,hn,I.aS hb.size (fun j o e=>hk j (by show O j≠N;rw[e];exact fun e=>by cases e)),D,h3,h4,h5,rfl⟩
 born:=fun w _ hX=>MY ad w hX
 new:=fun l n k p cap w hs hc _ hl hx hn hk _ hX=>by
  refine(GR ad p l cap n k w (by omega) hc (fun x h=>by have:=hx x h;omega) hn hk hs hX).mono fun e w' U=>?_
  obtain⟨U,hb⟩:=U;refine⟨?_,hb⟩;rcases U with⟨h1,ev,D,h3⟩|⟨h1,h,c,e1,e2,e3,e4,e5,O,X,ml,nb,hn,I⟩
  ·exact Or.inl ⟨ev,_,_,D,h3,h1⟩
  ·have hN:¬0<(Xj l).1:=fun h=>h1 (by unfold Zr;rw[if_pos h];exact h)
   obtain⟨_,c8,b5⟩:=QV (l:=l) (by omega);obtain⟨a6,a2⟩:=YP (l:=l) (by omega);have a3:XS n.toNat k.toNat c:=by
    obtain⟨h1,D,_,_,h5⟩:=Xm e5;exact⟨by omega,by omega,by omega,by omega,by omega,by omega,h5⟩
   refine Or.inr ⟨h,_,c,e1,a3,O,X,ml,nb,hn,?_,?_,?_,?_,?_,rfl⟩
   ·rw[pM c a2];exact I
   ·rw[pM c a2];exact(GO e5 a3).kQ a6
   ·rw[pM c a2];show([]++l.map _).length<=16;rw[List.nil_append,List.length_map];exact b5
   ·rw[pM c a2];exact fun x hx=>by cases hx
   ·rw[pM c a2];exact Nat.zero_le _
 put:=fun {n k w B h S m t} who text K J ht _ d0 hB=>by
  obtain⟨O,X,ml,nb,hn,I,H,a0,Z,_,rfl⟩:=K;have ho:=J.ops;have D:=B3 m who al text;exact(GI I H who text (by omega) ho.1 (by omega) (QQ hB)).mono fun e w' U=>U.bG J ht (WStep.open_ m who al text) (H.lZ _ _ _) (by rw[D.1];exact a0) (Z.same D.2)
 get:=fun {n k w B h S m t} who K J ht _ hB=>by
  obtain⟨O,X,ml,nb,hn,I,H,a0,Z,_,rfl⟩:=K;have ho:=J.ops;have D:=B3 m who F ⟨#[]⟩;exact(Jsp I H who ho.1 (by omega) (QQ hB)).mono fun e w' U=>U.bG J ht (WStep.open_ m who F ⟨#[]⟩) (H.lZ _ _ _) (by rw[D.1];exact a0) (Z.same D.2)
 aR:=fun {n k w B h S m t} i K J ht _ hB=>by
  obtain⟨O,X,ml,nb,hn,I,H,a0,Z,a4,rfl⟩:=K;have ho:=J.ops;obtain⟨⟨G,hG⟩,b6,d1⟩:=J.inv (by omega);exact(VL I H i ho.1 (by omega) b6 (by omega) a4 (by omega) (QQ hB) (hG.fC i.toNat)).mono fun e w' U=>U.bG J ht (WStep.aR m i) (H.jI i (hG.fC i.toNat)) (by rw[RD];exact a0) (gA.aR H Z i)
 drop:=fun {n k w B h S m t} i K J ht _ hB=>by
  obtain⟨O,X,ml,nb,hn,I,H,a0,Z,_,rfl⟩:=K;have D:(m.drop i).1.nodes=m.nodes/\(m.drop i).1.events=m.events:=by unfold Ya.drop;split<;>exact⟨rfl,rfl⟩
  exact(NU I H i (QQ hB)).mono fun e w' U=>U.bG J ht (WStep.drop m i) (H.rU i) (by rw[D.1];exact a0) (Z.same D.2)
 bC:=fun {n k w B h S m t} i K J ht _ hB=>by
  obtain⟨O,X,ml,nb,hn,I,H,a0,Z,_,rfl⟩:=K;have D:(m.bC i).1.nodes=m.nodes/\(m.bC i).1.events=m.events:=by
   unfold Ya.bC;split
   ·exact⟨rfl,rfl⟩
   ·split<;>exact⟨rfl,rfl⟩
  exact(Jok I H i (QQ hB)).mono fun e w' U=>U.bG J ht (WStep.bC m i) (H.mW i) (by rw[D.1];exact a0) (Z.same D.2)
 down:=fun {n k w B h S m t} s K J ht _ hB=>by
  obtain⟨O,X,ml,nb,hn,I,H,a0,Z,_,rfl⟩:=K;have D:(m.set s F).1.nodes.length=m.nodes.length/\(m.set s F).1.events=m.events:=by
   unfold Ya.set;split
   ·exact⟨List.length_set,rfl⟩
   ·exact⟨rfl,rfl⟩
  exact(JqA I s (by omega) (QQ hB)).mono fun e w' U=>U.bG J ht (WStep.set m s F) (H.pH s F) (by rw[D.1];exact a0) (Z.same D.2)
 up:=fun {n k w B h S m t} s K J ht _ hB=>by
  obtain⟨O,X,ml,nb,hn,I,H,a0,Z,_,rfl⟩:=K;have D:(m.set s al).1.nodes.length=m.nodes.length/\(m.set s al).1.events=m.events:=by
   unfold Ya.set;split
   ·exact⟨List.length_set,rfl⟩
   ·exact⟨rfl,rfl⟩
  exact(W7 I s (by omega) (QQ hB)).mono fun e w' U=>U.bG J ht (WStep.set m s al) (H.pH s al) (by rw[D.1];exact a0) (Z.same D.2)
 again:=fun {n k w B h S m t} who K J ht _ hB=>by
  obtain⟨O,X,ml,nb,hn,I,H,a0,Z,_,rfl⟩:=K;have D:(m.again who).1.nodes=m.nodes/\(m.again who).1.events=m.events:=by
   unfold Ya.again;split
   ·exact⟨rfl,rfl⟩
   ·split
    ·exact⟨rfl,rfl⟩
    ·split<;>exact⟨rfl,rfl⟩
  exact(PQ I H who (QQ hB)).mono fun e w' U=>U.bG J ht (WStep.again m who) (H.mV who) (by rw[D.1];exact a0) (Z.same D.2)
 a8:=fun {n k w B h S m t} who K J ht _ hB=>by
  obtain⟨O,X,ml,nb,hn,I,H,a0,Z,_,rfl⟩:=K;have ho:=J.ops;have D:(m.a8 who).1.nodes=m.nodes/\(m.a8 who).1.events=m.events:=by
   unfold Ya.a8;split
   ·exact⟨rfl,rfl⟩
   ·split
    ·exact⟨rfl,rfl⟩
    ·split
     ·split<;>exact⟨rfl,rfl⟩
     ·exact⟨rfl,rfl⟩
  exact(MX I H who ho.1 (by omega) (QQ hB)).mono fun e w' U=>U.bG J ht (WStep.a8 m who) (H.l9 who) (by rw[D.1];exact a0) (Z.same D.2)
 change:=fun {n k w B h S m t} l p cap K J ht hs hc _ _ hl hx hB=>by
  obtain⟨O,X,ml,nb,hn,I,H,a0,Z,a4,rfl⟩:=K;have ho:=J.ops;refine(SD I H ho.1 (by omega) a0 p l cap (by omega) hc (fun x h=>by have:=hx x h;omega) hs (QQ hB)).mono fun e w' U=>?_
  rcases U with⟨_,⟨ev,e1,_⟩,O2,X2,a7,a9,b0,b1,hU⟩|⟨hF,e1,c,e2,e3,e4,e5,O2,X2,a7,a9,b0,b1,hU⟩
  ·exact⟨⟨ev,e1⟩,_,m,WStep.none m,⟨O2,X2,a7,a9,b0,b1,H,a0,Z,a4,rfl⟩,hU⟩
  ·have a5:m.mover=none:=by
    cases e:m.mover with
    |none=>rfl
    |some a =>
     refine absurd ?_ hF;unfold Ya.gC;rw[e,if_pos (show(aa a).isSome=al from rfl)];decide
   have b2:¬12<=m.aB.length:=fun h=>hF (by
    unfold Ya.gC;rw[a5,if_neg (by decide),if_pos h];decide)
   have b3:¬0<(Zr l (aG m.aB m.aC).n (aG m.aB m.aC).k).1:=fun h=>hF (by
    unfold Ya.gC;rw[a5,if_neg (by decide),if_neg b2,if_pos h];exact h)
   have d2:¬16<m.nodes.length+(m.fresh l).length:=fun h=>hF (by
    unfold Ya.gC;rw[a5,if_neg (by decide),if_neg b2,if_neg b3,if_pos h];decide)
   have hN:¬0<(Xj l).1:=fun h=>b3 (by unfold Zr;rw[if_pos h];exact h)
   obtain⟨a6,a2⟩:=YP (l:=l) (by omega);have a3:XS n k c:=by
    have h1:XS c.n.toNat c.k.toNat c:=by
     obtain⟨h1,D,_,_,h5⟩:=Xm e5;exact⟨by omega,by omega,by omega,by omega,by omega,by omega,h5⟩
    have D:=(H.cU m.aC H.act).2;rw[e2,e3,D.n_,D.k_,ab,ab]at h1;exact h1
   have b7:m.dS l c=(m.cE (m.fresh l)).eP c:=by
    unfold Ya.dS;rw[tI l m a2];rfl
   have b4:WStep n k m ((m.cE (m.fresh l)).eP c):=by
    rw[<-b7];exact WStep.change m l c a5 a3
   have b8:∀x∈m.fresh l,Jo x=true:=fun x hx=>a6 x (List.mem_filter.1 hx).1
   refine⟨⟨_,e1⟩,_,_,b4,⟨O2,X2,a7,a9,b0,b1,((H.kQ b8).lP a5 (by show m.aB.length<12;omega) e5 a3).1,?_,Z.same rfl,by have:=(bP.step t m _ J b4).bV;omega,rfl⟩,hU⟩;show(m.nodes++(m.fresh l).map _).length<=16;rw[List.length_append,List.length_map];omega
 events:=fun {n k w B h S m} K=>by
  obtain⟨O,X,ml,nb,hn,I,H,a0,Z,a4,rfl⟩:=K;refine(SE I a4 Z).mono fun e w' U=>?_
  obtain⟨⟨v,e1,hO⟩,hb⟩:=U;obtain⟨p,c,rfl,J,_⟩:=hO.form;exact⟨⟨p,c,e1,J⟩,hb⟩
end
end
end Go.Proofs.YtflpelnbjekjbaaGreatDoor

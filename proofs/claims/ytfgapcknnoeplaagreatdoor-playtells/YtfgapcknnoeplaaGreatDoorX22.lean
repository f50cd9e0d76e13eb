/- Texts laid together. -/
import Derived.Test.YtfgapcknnoeplaaGreatDoorX21
set_option maxRecDepth 10000
set_option maxHeartbeats 4000000
open Option renaming none->N,some->aa
open Array renaming getElem?_eq_some_iff->ab
open Go renaming Calls->ae,below_drewN->aq,Addr->aE
open Nat renaming zero_le->af,le_refl->ax
open Go.AllReadyH renaming nil->ag
open Or renaming inr->ah,inl->aj
open Go.RowKit renaming Below->ai
open Bool renaming false->ak,true->aM
open Go.Act renaming put->al
open Option.some renaming inj->am
open Go.RowKit.Below renaming refl->ao,heap_setCell->au
open Int renaming toNat_natCast->ap
namespace Go.Proofs.YtfgapcknnoeplaaGreatDoor
open Go.Proofs.Tryz
open Go.RowKit
variable {i b:Nat}{x:Zb×Lv}{S:Nat->Prop}{a:Za}{s:BA}
section
section
variable {w w':World} {B h:Nat} {O O':Nat->Option Whose} {m:Ya} {X:WB} {ml:List (Zb×Lv)} {nb hn:Nat->Nat} {n k:Nat} {ad:Nat->aE}
theorem NR (x:Je)(y:Zb):(x.aD y).2.length<=1:=by
 unfold Je.aD;split
 ·exact af _
 ·split
  ·exact af _
  ·unfold Je.cG;split
   ·exact ax _
   ·split
    ·exact ax _
    ·show(if _ then _ else _:List Zb).length<=1;split
     ·exact af _
     ·exact ax _
theorem Je.iM (x:Je)(y:Zb):(x.aD y).1.name=x.name:=by
 unfold Je.aD;split
 ·rfl
 ·split
  ·rfl
  ·rename_i H D;have hn:=G0 D;unfold Je.cG;split
   ·exact hn
   ·split<;>exact hn
theorem SN (hp:Ye w B h O m X ml nb hn)(hi:i<m.nodes.length)(hL:Jn w x)(a6:∀b o,x.2.1=aa ⟨b,o,N⟩->O b=aa .bD)(K:YF x.1)(hE:Yi ad w O):∀W,ai w.heap.size w W->ae prog 90 #[.pointer (aa ⟨hn i,0,N⟩),Z1 x.1 (fI x.2)] W fun e w'=>∃p c,e=.returned (.slice p ((Jc m.nodes i).1.aD x.1).2.length c)/\∃O1,Ye w' B h O1 {m with nodes:=m.nodes.set i (((Jc m.nodes i).1.aD x.1).1,(Jc m.nodes i).2)} X ml nb hn/\Qp c (fun b=>O1 b=aa .bD) w' p ((Jc m.nodes i).1.aD x.1).2/\Yd (fun k=>O k≠N) (fun k=>O1 k≠N) w w':=fun W U=>by
 have H:=hp.below U;obtain⟨mp,D,Z,Sh,a2⟩:=H.mem i hi;refine(VS a2 x (hL.below U) (fun b o e h'=>by have h':O b=aa (.mem i):=h';rw[a6 b o e]at h';cases h') ⟨⟨by have:=K.fr;omega,by have:=K.aP;omega,by have:=K.ki;omega,by have:=K.ke;omega⟩,by have:=K.bO;omega,fun v hv=>by have:=(K.cM v hv).2;omega⟩ K.cf (ad:=ad) (fun V hs J=>((hE.below U) V hs (fun k a3 a4=>J k a3 (fun e=>by have e:O k=aa (.mem i):=e;rw[a4]at e;cases e))).sv)).mono fun e w' hq=>?_
 obtain⟨p,c,S',e1,e2,e3,I⟩:=hq;have a5:∀k,S' k->k<w'.heap.size:=fun k J=>by
  obtain⟨_,_,_,_,hq⟩:=e3;exact(hq.aO k J).2
 have hT:=Qv.call (t:=.mem i) (fun e=>by cases e) H.aO H.base I a5;have a0:∀j,Jc (m.nodes.set i (((Jc m.nodes i).1.aD x.1).1,(Jc m.nodes i).2)) j=if j=i then(((Jc m.nodes i).1.aD x.1).1,(Jc m.nodes i).2)else Jc m.nodes j:=fun j=>uS hi _ j
 refine⟨p,c,e1,_,{H.toXJ.zZ (m':={m with nodes:=m.nodes.set i (((Jc m.nodes i).1.aD x.1).1,(Jc m.nodes i).2)}) hT hi rfl rfl rfl ⟨rfl,rfl,rfl⟩ List.length_set (fun j hj=>(a0 j).trans (if_neg hj)) ?_ ?_ with blk:=?_,self:=?_,cV:=H.cV,dF:=H.dF,aW:=H.aW},e2.mono (fun b Z=>oK (fun k o e=>(H.aO k o e).2) Z.2.2 Z.1 Z.2.1),(Yd.aJ U).trans' (QM ⟨I.os,I.tape,I.output,I.size,fun k J h=>I.block k J (fun e=>h (aj e)),fun k J=>(I.new k J).imp (fun h=>aj h) id⟩ I.new)⟩
 ·show(Jc (m.nodes.set i _) i).1.name=_/\(Jc (m.nodes.set i _) i).2=_;rw[a0 i,if_pos rfl];exact⟨Je.iM _ _,rfl⟩
 ·show XE _ _ _ _ (Jc (m.nodes.set i (((Jc m.nodes i).1.aD x.1).1,(Jc m.nodes i).2)) i).1;rw[a0 i,if_pos rfl];have e:(fun k=>turnO O (.mem i) S' W.heap.size w'.heap.size k=aa (.mem i))=S':=funext fun k=>propext (ZU (fun e=>by cases e) k)
  rw[e];exact e3
 ·exact(I.block h H.lt (fun e=>by have e:O h=aa (.mem i):=e;rw[H.self]at e;cases e)).trans H.blk
 ·exact(hT.same .self h (fun e=>by cases e) (fun e=>by cases e)).2 H.self
end
end
section
section
variable {w w':World} {B h:Nat} {O O':Nat->Option Whose} {m:Ya} {X:WB} {ml:List (Zb×Lv)} {nb hn:Nat->Nat} {n k:Nat} {ad:Nat->aE}
theorem WQ (hp:Ye w B h O m X ml nb hn)(hz:WZ n k m)(hL:Jn w x)(a6:∀b o,x.2.1=aa ⟨b,o,N⟩->O b=aa .bD)(hx:YF x.1)(hf:m.nodes.length<=1000)(hE:Yi ad w O):
 ae prog 58 #[.pointer (aa ⟨h,0,N⟩),Z1 x.1 (fI x.2)] w fun e w'=>e=.returned (.tuple #[])/\Yj w B h O (m.node x.1) nb hn w':=by
 have a5:=fun i hi=>SN (i:=i) hp hi hL a6 hx hE
 obtain⟨⟨H,D,I,J,K,U,Z,xL⟩,lp,ln,lc⟩:=x;obtain⟨w1,a3⟩:=Xb (w.alloc (.cells #[.string H,.string D,.string I,.string J,.int .i64 K,.int .i64 U,.bool Z,.slice lp ln lc] 118));have a2:=Zk a3;have a0:=JH a3;have a4:=wY (hp.below a2) D hf;have a7:Hid _:=a3;have c0:=(Xa a0 0).1;have c1:=(Xa a0 1).1;have c2:=(Xa a0 2).1;have c3:=(Xa a0 3).1;have c4:=(Xa a0 4).1;have c5:=(Xa a0 5).1;have c6:=(Xa a0 6).1;have c7:=(Xa a0 7).1;show ae prog 58 #[.pointer (aa ⟨h,0,N⟩),.agg #[.string H,.string D,.string I,.string J,.int .i64 K,.int .i64 U,.bool Z,.slice lp ln lc]] w _;by_cases hi:Qe m.nodes D<m.nodes.length
 ·rw[show J2 m nb D=.pointer (aa ⟨nb (Qe m.nodes D),0,N⟩)from if_pos hi]at a4;have hk:=((hp.below a2).node _ hi).1;have d0:=(Xa hk 0).1;have d2:=(Xa hk 2).1;change w1.cell? ⟨nb (Qe m.nodes D),0,N⟩=aa (.pointer (aa ⟨hn (Qe m.nodes D),0,N⟩))at d0;change w1.cell? ⟨nb (Qe m.nodes D),2,N⟩=aa (.bool (!(Jc m.nodes (Qe m.nodes D)).2))at d2;cases hu:(Jc m.nodes (Qe m.nodes D)).2 with
  |true =>
   rw[hu]at d2;have hM:m.node ⟨H,D,I,J,K,U,Z,xL⟩=Ya.send {m with nodes:=m.nodes.set (Qe m.nodes D) (((Jc m.nodes (Qe m.nodes D)).1.aD ⟨H,D,I,J,K,U,Z,xL⟩).1,(Jc m.nodes (Qe m.nodes D)).2)} ((Jc m.nodes (Qe m.nodes D)).1.aD ⟨H,D,I,J,K,U,Z,xL⟩).2:=by
    rw[hu];exact if_pos (show Qe m.nodes D<m.nodes.length/\(Jc m.nodes (Qe m.nodes D)).2=aM from⟨hi,hu⟩)
   have a8:Hid (ae prog 90 #[.pointer (aa ⟨hn (Qe m.nodes D),0,N⟩),.agg #[.string H,.string D,.string I,.string J,.int .i64 K,.int .i64 U,.bool Z,.slice lp ln lc]] w1.drew fun e w'=>∃p c,e=.returned (.slice p ((Jc m.nodes (Qe m.nodes D)).1.aD ⟨H,D,I,J,K,U,Z,xL⟩).2.length c)/\Hid (∃O1,Ye w' B h O1 {m with nodes:=m.nodes.set (Qe m.nodes D) (((Jc m.nodes (Qe m.nodes D)).1.aD ⟨H,D,I,J,K,U,Z,xL⟩).1,(Jc m.nodes (Qe m.nodes D)).2)} X ml nb hn/\Qp c (fun b=>O1 b=aa .bD) w' p ((Jc m.nodes (Qe m.nodes D)).1.aD ⟨H,D,I,J,K,U,Z,xL⟩).2/\Yd (fun k=>O k≠N) (fun k=>O1 k≠N) w w')):=(a5 _ hi w1.drew a2.drew).mono fun e w' hq=>hq
   have a9:Hid (∀W p c,Hid (∃O1,Ye W B h O1 {m with nodes:=m.nodes.set (Qe m.nodes D) (((Jc m.nodes (Qe m.nodes D)).1.aD ⟨H,D,I,J,K,U,Z,xL⟩).1,(Jc m.nodes (Qe m.nodes D)).2)} X ml nb hn/\Qp c (fun b=>O1 b=aa .bD) W p ((Jc m.nodes (Qe m.nodes D)).1.aD ⟨H,D,I,J,K,U,Z,xL⟩).2/\Yd (fun k=>O k≠N) (fun k=>O1 k≠N) w W)->ae prog 82 #[.pointer (aa ⟨h,0,N⟩),.slice p ((Jc m.nodes (Qe m.nodes D)).1.aD ⟨H,D,I,J,K,U,Z,xL⟩).2.length c] W fun e w'=>e=.returned (.tuple #[])/\Hid (Yj w B h O (m.node ⟨H,D,I,J,K,U,Z,xL⟩) nb hn w')):=fun W p c b0=>by
    obtain⟨O1,b1,b2,b3⟩:=b0.out;have d4:=NR (Jc m.nodes (Qe m.nodes D)).1 ⟨H,D,I,J,K,U,Z,xL⟩;refine(oS b1 hz.bO (by omega) b2).mono fun e w' hq=>?_
    obtain⟨e1,O6,v6,b4,b5,_,b6⟩:=hq;rw[hM];exact⟨e1,O6,_,b4,b5,b3.trans' b6⟩
   generalize Yj w B h O (m.node ⟨H,D,I,J,K,U,Z,xL⟩) nb hn=G at *;generalize ((Jc m.nodes (Qe m.nodes D)).1.aD ⟨H,D,I,J,K,U,Z,xL⟩).2.length=rl at *;generalize nb (Qe m.nodes D)=b7 at *;generalize hn (Qe m.nodes D)=b8 at *;clear hp hz hL a6 hx hf hE a5 a3 a2 a0 hi hk hu hM;go_enter func58,ntmps58;go_wp2_with (rw[<-a7.out])
   refine a4.mono ?_;rintro e w3 ⟨rfl,rfl⟩;go_wp2;go_region_law (first|(go_simp;go_at_call 90;refine a8.out.mono ?_;rintro e w5 ⟨p5,d5,rfl,d1⟩;go_simp)|(go_simp;go_at_call 82;refine(a9.out w5 p5 d5 d1).mono ?_;rintro e w6 ⟨rfl,d3⟩;go_simp))
   all_goals (go_wp2;go_end0;exact⟨rfl,d3.out⟩)
  |false =>
   rw[hu]at d2;have hM:m.node ⟨H,D,I,J,K,U,Z,xL⟩=m:=by
    unfold Ya.node;exact if_neg (fun h=>by have h2:=h.2;have h2:(Jc m.nodes (Qe m.nodes D)).2=true:=h2;rw[hu]at h2;cases h2)
   rw[hM];have HG:Hid (Yj w B h O m nb hn w1):=Yj.here hp a2;generalize Yj w B h O m nb hn=G at *;generalize nb (Qe m.nodes D)=b7 at *;generalize hn (Qe m.nodes D)=b8 at *;clear hp hz hL a6 hx hf hE a5 a3 a2 a0 hi hk hu hM;go_enter func58,ntmps58;go_wp2_with (rw[<-a7.out])
   refine a4.mono ?_;rintro e w3 ⟨rfl,rfl⟩;go_wp2
   go_end0
   exact⟨rfl,HG.out⟩
 ·rw[show J2 m nb D=.pointer N from if_neg hi]at a4;have hM:m.node ⟨H,D,I,J,K,U,Z,xL⟩=m:=by
   unfold Ya.node;exact if_neg (fun h=>hi h.1)
  rw[hM];have HG:Hid (Yj w B h O m nb hn w1):=Yj.here hp a2;generalize Yj w B h O m nb hn=G at *;clear hp hz hL a6 hx hf hE a5 a3 a2 a0 hi hM;go_enter func58,ntmps58;go_wp2_with (rw[<-a7.out])
  refine a4.mono ?_;rintro e w3 ⟨rfl,rfl⟩;go_wp2
  go_end0
  exact⟨rfl,HG.out⟩
end
end
section
section
variable {w w':World} {B h:Nat} {O O':Nat->Option Whose} {m:Ya} {X:WB} {ml:List (Zb×Lv)} {nb hn:Nat->Nat} {n k:Nat} {ad:Nat->aE}
theorem CW:St.refused.word.toList=[114,101,102,117,115,101,100]:=by decide +kernel
theorem IU:St.done.word.toList=[100,111,110,101]:=by decide +kernel
theorem qT {o:Option Za}{st:St}(h:∀a,o=aa a->a.st≠st)(D:st=.looking∨st=.refused∨st=.done):¬(kV o).toList=st.word.toList/\((kV o).toList==st.word.toList)=false:=by
 cases o with
 |none=>rcases D with rfl|rfl|rfl<;>exact⟨by decide +kernel,by decide +kernel⟩
 |some a =>
  have:=h a rfl;show ¬a.st.word.toList=_/\(a.st.word.toList==_)=ak;generalize a.st=s at *;rcases D with rfl|rfl|rfl<;>cases s<;>first|exact absurd rfl this|exact⟨by decide +kernel,by decide +kernel⟩
end
end
section
section
variable {w w':World} {B h:Nat} {O O':Nat->Option Whose} {m:Ya} {X:WB} {ml:List (Zb×Lv)} {nb hn:Nat->Nat} {n k:Nat} {ad:Nat->aE}
theorem XM.dA (h:XM w B b S a)(Z:w.heap.size<=w'.heap.size)(hk:∀k,S k->w'.heap[k]?=w.heap[k]?):XM w' B b S a:=by
 obtain⟨⟨H,P,F,T,asks,I,J,mm,D,row,K⟩,U⟩:=h;exact⟨⟨H,P,F,T,asks,I,J,mm,D,row,K.aS Z hk⟩,U⟩
theorem XM.dH (h:XM w B b S a):∀k,S k->B<=k/\k<w.heap.size:=by
 obtain⟨⟨I,P,F,T,asks,J,K,mm,D,row,H⟩,U⟩:=h;exact H.aO
theorem sC (J:Ye w B h O m X ml nb hn):ae prog 81 #[.pointer (aa ⟨h,32,N⟩)] w fun e w'=>e=.returned (.bool m.mover.isSome)/\w'=w:=by
 have H:w.cell? ⟨h,32,N⟩=aa (J3 X.mp):=(J.cell 32).1;have D:=J.bI;cases I:m.mover with
 |none =>
  rw[I]at D;have D:=D;rw[D]at H;change w.cell? ⟨h,32,N⟩=aa (.pointer N)at H;show ae _ _ _ _ fun e w'=>e=.returned (.bool ak)/\_
  clear D I J;go_enter func81,ntmps81;go_wp2;go_ret;exact⟨rfl,rfl⟩
 |some a =>
  rw[I]at D;obtain⟨b,K,_⟩:=D;rw[K]at H;change w.cell? ⟨h,32,N⟩=aa (.pointer (aa ⟨b,0,N⟩))at H;show ae _ _ _ _ fun e w'=>e=.returned (.bool aM)/\_
  clear K I J;go_enter func81,ntmps81;go_wp2;go_ret;exact⟨rfl,rfl⟩
theorem Ye.rH (D:Ye w B h O m X ml nb hn){K:Nat->Prop}(hX:X.mp=aa b)(hm:m.mover.isSome)(U:XM w' B b K a)(I:Yd (fun k=>O k=aa .bI) K w w')(a0:iR w O X.nx):
 ∃O',Ye w' B h O' {m with mover:=aa a} X ml nb hn/\(∀k,w.heap.size<=k->k<w'.heap.size->¬K k->O' k=aa .bD)/\Yd (fun k=>O k≠N) (fun k=>O' k≠N) w w':=by
 have J:=Qv.call (t:=.bI) (fun e=>by cases e) D.aO D.base I (fun k H=>(U.dH k H).2);refine⟨_,{D.toXJ.mJ (m':={m with mover:=aa a}) (X':=X) J rfl rfl rfl ⟨rfl,rfl,rfl⟩ rfl rfl rfl rfl ?_ (D.cf.kept J.bD J.size (fun k H=>J.kept k _ H (fun e=>by cases e) (fun e=>by cases e)))with blk:=?_,self:=?_,cV:=D.cV,dF:=fun _=>D.dF hm,aW:=D.aW},fun k Z h2 h3=>oK (fun k o e=>(D.aO k o e).2) h3 Z h2,QM ⟨I.os,I.tape,I.output,I.size,fun k H h=>I.block k H (fun e=>h (aj e)),fun k H=>(I.new k H).imp (fun h=>aj h) id⟩ I.new⟩
 ·refine⟨b,hX,?_,a0.kept J.bD J.size (fun k H=>J.kept k _ H (fun e=>by cases e) (fun e=>by cases e))⟩;have e:(fun k=>turnO O .bI K w.heap.size w'.heap.size k=aa .bI)=K:=funext fun k=>propext (ZU (fun e=>by cases e) k)
  rw[e];exact U
 ·exact(I.block h D.lt (fun e=>by have e:O h=aa .bI:=e;rw[D.self]at e;cases e)).trans D.blk
 ·exact(J.same .self h (fun e=>by cases e) (fun e=>by cases e)).2 D.self
end
end
section
theorem DC:(prog.info? 42).map (fun i=>(i.zero,i.size,i.bytes))=aa (aa (.agg #[.int .i64 0,.bool ak,.bool ak,.int .i64 0,.int .i64 0,.string ⟨#[]⟩,.int .i64 0,.int .i64 0]),XI.k,64):=by kernel_rfl
section
variable {w w':World} {B h:Nat} {O O':Nat->Option Whose} {m:Ya} {X:WB} {ml:List (Zb×Lv)} {nb hn:Nat->Nat} {n k:Nat} {ad:Nat->aE}
theorem XJ.u7 (H:XJ w B O m X ml nb hn)(D:Qv .bV O O' B w w'){m':Ya}{X':WB}(e1:m'.L=m.L)(J:m'.nodes=m.nodes)(e4:m'.mover=m.mover)(K:m'.asks=m.asks/\m'.texts=m.texts/\m'.since=m.since)
 (U:X'.vm=X.vm) (Z:X'.vn=X.vn) (x4:X'.mp=X.mp) (x5:X'.nx=X.nx) (x6:X'.cf=X.cf) (x7:X'.cl=X.cl) (hr:Zc XI 42 w' B X'.ve m'.events) (a0:∀k,X'.ve.ownBlock=aa k->O' k=aa .bV):XJ w' B O' m' X' ml nb hn where
 aO:=D.aO
 row:=by rw[U];exact(H.cO D (fun e=>by cases e)).1
 cX:=by rw[U];exact(H.cO D (fun e=>by cases e)).2
 dK:=by rw[e1];exact H.dK
 bD:=H.eR D (fun e=>by cases e)
 bV:=hr
 cS:=a0
 cD:=by rw[Z,J];exact(H.bY D (fun e=>by cases e)).1
 bU:=by rw[Z];exact(H.bY D (fun e=>by cases e)).2
 node:=fun j I=>by rw[J]at I ⊢;exact H.dB D I (fun e=>by cases e)
 mem:=fun j I=>by rw[J]at I ⊢;exact H.dZ D I (fun e=>by cases e)
 ask:=fun j I=>by rw[K.1,K.2.1,K.2.2,x7];exact(H.ask j I).kept D (fun e=>by cases e)
 bI:=by rw[e4,x4,x5];exact H.bI.kept D (fun e=>by cases e) (fun e=>by cases e)
 cf:=by rw[x6];exact H.cf.kept D.bD D.size (fun k hk=>D.kept k _ hk (fun e=>by cases e) (fun e=>by cases e))
theorem Ye.rT (D:Ye w B h O m X ml nb hn){J:World}{H:Value}{E:List Ev}(h1:Zc XI 42 J B H E)(U:w.grownBy J X.ve.ownBlock)(K:H.ownBlock=X.ve.ownBlock∨∃k,H.ownBlock=aa k/\w.heap.size<=k):∃O',Ye (J.setCell ⟨h,42,N⟩ H) B h O' {m with events:=E} {X with ve:=H} ml nb hn/\Yd (fun k=>O k≠N) (fun k=>O' k≠N) w (J.setCell ⟨h,42,N⟩ H):=by
 have a0:X.ve.ownBlock≠aa h:=fun e=>by have:=D.cS h e;rw[D.self]at this;cases this
 have hb:=U.block h D.lt (fun e=>a0 e.symm);have a3:H.ownBlock≠aa h:=fun e=>by
  rcases K with K|⟨k,K,h4⟩
  ·exact a0 (K.symm.trans e)
  ·rw[K]at e;injection e with e;have:=D.lt;omega
 have a4:(J.setCell ⟨h,42,N⟩ H).heap.size=J.heap.size:=by simp[World.setCell]
 have a2:Zc XI 42 (J.setCell ⟨h,42,N⟩ H) B H E:=h1.dC (fun k I=>Deep.blk_setCell_other _ _ _ _ (fun e=>a3 (by rw[I,e])));have Z:∀k,H.ownBlock=aa k->O k=aa .bV∨w.heap.size<=k:=fun k I=>by
  rcases K with e|⟨k',e,a5⟩
  ·exact aj (D.cS k (e.symm.trans I))
  ·rw[I]at e;injection e with e;exact ah (by omega)
 have hU:Yd (fun k=>O k=aa .bV∨O k=aa .self) (fun k=>H.ownBlock=aa k) w (J.setCell ⟨h,42,N⟩ H):=⟨U.os,U.tape,U.output,by rw[a4];exact U.size,fun k I hn=>(au _ _ _ _ (fun e=>hn (ah (by have e:k=h:=e;rw[e];exact D.self)))).trans (U.block k I (fun e=>hn (aj (D.cS k e.symm)))),fun k I=>(Z k I).imp aj id⟩;have hT:=Qv.of (t:=.bV) (fun e=>by cases e) D.aO D.base hU Z (fun k I=>(a2.block I).2);exact⟨_,{D.toXJ.u7 (m':={m with events:=E}) (X':={X with ve:=H}) hT rfl rfl rfl ⟨rfl,rfl,rfl⟩ rfl rfl rfl rfl rfl rfl a2 (fun k I=>(ZU (fun e=>by cases e) k).2 I)with blk:=Qc (hb.trans D.blk) 42 H,self:=(hT.same .self h (fun e=>by cases e) (fun e=>by cases e)).2 D.self,cV:=D.cV,dF:=D.dF,aW:=D.aW},QM hU Z⟩
end
end
section
section
variable {w w':World} {B h:Nat} {O O':Nat->Option Whose} {m:Ya} {X:WB} {ml:List (Zb×Lv)} {nb hn:Nat->Nat} {n k:Nat} {ad:Nat->aE}
def lY (m:Ya)(i:Nat)(a:Za):Ev:=⟨i,a.put,a.found,if a.found then a.tag else(0,0),if a.found then a.text else⟨#[]⟩,m.since.getD i 0,m.aA⟩
theorem Jsb (hp:Ye w B h O m X ml nb hn)(hi:i<6)(ha:Xf m.asks i=aa a)(hs:a.st=.done)(f9:m.events.length<=1000000):
 ae prog 87 #[.pointer (aa ⟨h,0,N⟩),.int .i64 (i:Int)] w fun e w'=>e=.returned (.tuple #[])/\∃O' v',Ye w' B h O' {m with events:=m.events++ [lY m i a]} {X with ve:=v'} ml nb hn/\Yd (fun k=>O k≠N) (fun k=>O' k≠N) w w':=by
 obtain⟨b,d0,a2,a6,e8,e9,a7⟩:∃b,(X.cl i).p=aa b/\Qw w B b (fun k=>O k=aa (.ask i)) a/\(X.cl i).put=a.put/\(X.cl i).text=Yc m.texts i/\(X.cl i).cfg=a.config/\(X.cl i).fr=m.since.getD i 0:=by have:=hp.ask i hi;rw[ha]at this;exact this
 have c0:w.cell? ⟨h,1+i*5,N⟩=aa (.pointer (aa ⟨b,0,N⟩)):=by have:=(Yx hp.blk hi).1;rw[d0]at this;exact this
 obtain⟨U,Z,tx,f,d1,d2⟩:∃U Z tx f,(if a.st=.done/\a.found=aM then Value.tuple #[.agg #[.int .i64 a.tag.1,.int .i64 a.tag.2],.string a.text,.bool aM]else .tuple #[.agg #[.int .i64 0,.int .i64 0],.string ⟨#[]⟩,.bool ak])=.tuple #[.agg #[.int .i64 U,.int .i64 Z],.string tx,.bool f]/\lY m i a=⟨i,a.put,f,(U,Z),tx,m.since.getD i 0,m.aA⟩:=by
  cases hf:a.found with
  |true=>exact⟨_,_,_,_,if_pos ⟨hs,rfl⟩,by unfold lY;rw[hf];rfl⟩
  |false=>exact⟨_,_,_,_,if_neg (fun h=>by cases h.2),by unfold lY;rw[hf];rfl⟩
 have d3:ae prog 109 #[.pointer (aa ⟨b,0,N⟩)] w fun e w'=>e=.returned (.tuple #[.agg #[.int .i64 U,.int .i64 Z],.string tx,.bool f])/\Hid (ai w.heap.size w w'):=(AR a2).mono fun e w' hq=>⟨by rw[<-d1];exact hq.1,hq.2⟩
 obtain⟨ev,a9⟩:∃ev:Ev,ev=⟨i,a.put,f,(U,Z),tx,m.since.getD i 0,m.aA⟩:=⟨_,rfl⟩;obtain⟨p,c,b2,_⟩:=hp.bV.form;have a8:=hp.aW.2.2;have b3:Hid (∀J W,ai w.heap.size w J->ai J.heap.size J W->W.cell? ⟨h,42,N⟩=aa (.slice p m.events.length c)/\W.cell? ⟨h,1+i*5+1,N⟩=aa (.bool a.put)/\W.cell? ⟨h,1+i*5+4,N⟩=aa (.int .i64 (m.since.getD i 0))/\W.cell? ⟨h,41,N⟩=aa (.int .i64 m.aA)):=fun J W h1 h2=>by
  have hq:=(hp.below (h1.trans (h2.mono h1.size))).blk;refine⟨by rw[<-b2];exact(Xa hq 42).1,by have:=(Yx hq hi).2.1;rw[a6]at this;exact this,by have:=(Yx hq hi).2.2.2.2;rw[a7]at this;exact this,by rw[<-a8];exact(Xa hq 41).1⟩
 have d4:Hid (∀H W tb,ai w.heap.size w H->w.heap.size<=tb->H.heap[tb]?=aa (.cells #[.int .i64 U,.int .i64 Z] 39 (0,0))->W=(H.alloc (.cells #[.int .i64 (i:Int),.bool a.put,.bool f,.int .i64 U,.int .i64 Z,.string tx,.int .i64 (m.since.getD i 0),.int .i64 m.aA] 42)).drew->∃p' n' c' w3,(∀ty,(Builtin.append_ #[34,34] ty #[.slice p m.events.length c,.slice (aa ⟨H.heap.size,0,N⟩) 1 1]).run prog W=.ok (.slice p' n' c') w3)/\(∃v0,w3.cell? ⟨h,42,N⟩=aa v0)/\w3.frozen? ⟨h,42,N⟩=ak/\(∀V,V=w3∨V=w3.setCell ⟨h,42,N⟩ (.slice p' n' c')->(V.cell? ⟨h,1+i*5+1,N⟩=aa (.bool a.put)/\V.cell? ⟨h,1+i*5+4,N⟩=aa (.int .i64 (m.since.getD i 0))/\V.cell? ⟨h,41,N⟩=aa (.int .i64 m.aA)/\V.cell? ⟨tb,0,N⟩=aa (.int .i64 U)/\V.cell? ⟨tb,1,N⟩=aa (.int .i64 Z)))/\Hid (∃O' v',Ye (w3.setCell ⟨h,42,N⟩ (.slice p' n' c')) B h O' {m with events:=m.events++ [lY m i a]} {X with ve:=v'} ml nb hn/\Yd (fun k=>O k≠N) (fun k=>O' k≠N) w (w3.setCell ⟨h,42,N⟩ (.slice p' n' c')))):=fun H W tb a3 g0 d5 hW=>by
  have b4:ai H.heap.size H W:=by rw[hW];exact(bR.alloc nR _).drew
  have d6:W.heap[H.heap.size]?=aa (.cells #[.int .i64 (i:Int),.bool a.put,.bool f,.int .i64 U,.int .i64 Z,.string tx,.int .i64 (m.since.getD i 0),.int .i64 m.aA] 42 (0,0)):=by
   rw[hW];show(H.heap.push _)[H.heap.size]?=_;simp
  have d7:=a3.trans (b4.mono a3.size);have a0:=hp.below d7;have f3:Ql XI W (aa ⟨H.heap.size,0,N⟩) [ev]:=ah ⟨H.heap.size,0,rfl,(ab.1 d6).1,fun j x hx jj u hu=>by
   obtain rfl:j=0:=by
    rcases j with _|j
    ·rfl
    ·simp at hx
   obtain rfl:ev=x:=by simpa using hx
   rw[Nat.zero_mul,Nat.add_zero,Nat.zero_add,(Xa d6 jj).1];rw[a9]at hu;rw[List.getElem?_toArray];exact hu⟩
  obtain⟨v',w3,g1,g2,g3,g4⟩:=vX (w:=W) (E:=XI) 34 42 _ 64 underlying34 DC rfl B X.ve m.events a0.bV (aa ⟨H.heap.size,0,N⟩) [ev] 1 f3 (fun e=>by cases e) (by show m.events.length+1<=_;unfold maxLen;omega) (by show(m.events.length+1)*64<=_;omega) a0.base;obtain⟨p',c',f4,_⟩:=g2.form;obtain⟨O3,d8,f5⟩:=a0.rT g2 g3 g4;have f6:X.ve.ownBlock≠aa h:=fun e=>by have:=a0.cS h e;rw[a0.self]at this;cases this
  have b5:=g3.block h a0.lt (fun e=>f6 e.symm);rw[b2]at g1;subst f4;refine⟨p',(m.events++ [ev]).length,c',w3,g1,⟨_,(World.cell?_of_block (a:=⟨h,42,N⟩) b5).trans (a0.cell 42).1⟩,(World.frozen?_of_block (a:=⟨h,42,N⟩) b5).trans (a0.cell 42).2,fun V hV=>?_,O3,.slice p' (m.events++ [ev]).length c',?_,(Yd.aJ d7).trans' f5⟩
  ·have d9:tb<H.heap.size:=(ab.1 d5).1;have b6:=(g3.block tb (Nat.lt_of_lt_of_le d9 b4.size) (fun e=>by have:=(hp.aO tb _ (hp.cS tb e.symm)).2;omega)).trans ((b4.block tb d9).trans d5);have f7:tb≠h:=by have:=hp.lt;omega
   rcases hV with rfl|rfl
   ·have hq:V.heap[h]?=aa (.cells (Zi X) 66 (0,0)):=b5.trans a0.blk;exact⟨by have:=(Yx hq hi).2.1;rw[a6]at this;exact this,by have:=(Yx hq hi).2.2.2.2;rw[a7]at this;exact this,by rw[<-a8];exact(Xa hq 41).1,(Xa b6 0).1,(Xa b6 1).1⟩
   ·have hq:=d8.blk;have e0:=(au w3 ⟨h,42,N⟩ (.slice p' (m.events++ [ev]).length c') tb f7).trans b6;exact⟨by have:=(Yx hq hi).2.1;rw[show({X with ve:=.slice p' (m.events++ [ev]).length c'}:WB).cl=X.cl from rfl,a6]at this;exact this,by have:=(Yx hq hi).2.2.2.2;rw[show({X with ve:=.slice p' (m.events++ [ev]).length c'}:WB).cl=X.cl from rfl,a7]at this;exact this,by rw[<-a8];exact(Xa hq 41).1,(Xa e0 0).1,(Xa e0 1).1⟩
  ·rw[d2,<-a9];exact d8
 have z1:(0:Int)<=(i:Int):=by omega
 have z2:(i:Int)<6:=by omega
 have e1:Hid (∀W,(∃O' v',Ye W B h O' {m with events:=m.events++ [lY m i a]} {X with ve:=v'} ml nb hn/\Yd (fun k=>O k≠N) (fun k=>O' k≠N) w W)->∃O' v',Ye W B h O' {m with events:=m.events++ [lY m i a]} {X with ve:=v'} ml nb hn/\Yd (fun k=>O k≠N) (fun k=>O' k≠N) w W):=fun _ h=>h
 clear hp d0 a2 a6 e8 e9 a7 d1 d2 a9 b2 a8 ha hs f9;generalize m.since.getD i 0=fr at *;generalize m.aA=dl at *;generalize m.events.length=en at *;generalize a.put=pu at *;go_enter func87,ntmps87;go_wp2_with fail
 refine d3.mono ?_;rintro e J ⟨rfl,a4⟩;obtain⟨H,a3⟩:=Xb (J.alloc (.cells #[.int .i64 U,.int .i64 Z] 39));have a2:ai J.heap.size J H:=by rw[a3];exact bR.alloc nR _
 have a5:H.heap[J.heap.size]?=aa (.cells #[.int .i64 U,.int .i64 Z] 39 (0,0)):=by
  rw[a3];show(J.heap.push _)[J.heap.size]?=_;simp
 have f8:Hid _:=a3;have b0:=(Xa a5 0).1;have b1:=(Xa a5 1).1;obtain⟨q0,q1,q2,q3⟩:=b3.out J H a4.out a2;obtain⟨r0,_⟩:=b3.out J (H.alloc (.cells #[.int .i64 (i:Int),.bool pu,.bool f,.int .i64 U,.int .i64 Z,.string tx,.int .i64 fr,.int .i64 dl] 42)) a4.out (a2.trans ((bR.alloc nR _).mono a2.size));obtain⟨p',n',c',w3,e2,⟨v3,u3⟩,u4,b7,e3⟩:=d4.out H _ J.heap.size (a4.out.trans (a2.mono a4.out.size)) a4.out.size a5 rfl;have e4:=b7 w3 (aj rfl);have e5:=b7 _ (ah rfl);have e6:H.drew.cell? ⟨h,1+i*5+1,N⟩=aa (.bool pu)/\H.drew.cell? ⟨h,1+i*5+4,N⟩=aa (.int .i64 fr)/\H.drew.cell? ⟨h,41,N⟩=aa (.int .i64 dl)/\H.drew.cell? ⟨J.heap.size,0,N⟩=aa (.int .i64 U)/\H.drew.cell? ⟨J.heap.size,1,N⟩=aa (.int .i64 Z):=⟨q1,q2,q3,b0,b1⟩;have b8:(H.alloc (.cells #[.int .i64 (i:Int),.bool pu,.bool f,.int .i64 U,.int .i64 Z,.string tx,.int .i64 fr,.int .i64 dl] 42)).drew.cell? ⟨h,1+i*5+1,N⟩=aa (.bool pu)/\(H.alloc (.cells #[.int .i64 (i:Int),.bool pu,.bool f,.int .i64 U,.int .i64 Z,.string tx,.int .i64 fr,.int .i64 dl] 42)).drew.cell? ⟨h,1+i*5+4,N⟩=aa (.int .i64 fr)/\(H.alloc (.cells #[.int .i64 (i:Int),.bool pu,.bool f,.int .i64 U,.int .i64 Z,.string tx,.int .i64 fr,.int .i64 dl] 42)).drew.cell? ⟨h,41,N⟩=aa (.int .i64 dl)/\(H.alloc (.cells #[.int .i64 (i:Int),.bool pu,.bool f,.int .i64 U,.int .i64 Z,.string tx,.int .i64 fr,.int .i64 dl] 42)).drew.cell? ⟨J.heap.size,0,N⟩=aa (.int .i64 U)/\(H.alloc (.cells #[.int .i64 (i:Int),.bool pu,.bool f,.int .i64 U,.int .i64 Z,.string tx,.int .i64 fr,.int .i64 dl] 42)).drew.cell? ⟨J.heap.size,1,N⟩=aa (.int .i64 Z):=by
  have hb:=(ao H.heap.size H).alloc nR (.cells #[.int .i64 (i:Int),.bool pu,.bool f,.int .i64 U,.int .i64 Z,.string tx,.int .i64 fr,.int .i64 dl] 42);have e7:=(ab.1 a5).1;have hl:=uU q0;exact⟨(hb.cell (p:=⟨h,1+i*5+1,N⟩) hl).trans q1,(hb.cell (p:=⟨h,1+i*5+4,N⟩) hl).trans q2,(hb.cell (p:=⟨h,41,N⟩) hl).trans q3,(hb.cell (p:=⟨J.heap.size,0,N⟩) e7).trans b0,(hb.cell (p:=⟨J.heap.size,1,N⟩) e7).trans b1⟩
 clear b7;clear a5 a3 a2 b3 d4 d3 a4 c0;go_wp2_with (rw[<-f8.out])
 refine wp_region_held_drew (S:=fun W=>(W.cell? ⟨h,1+i*5+1,N⟩=aa (.bool pu)/\W.cell? ⟨h,1+i*5+4,N⟩=aa (.int .i64 fr)/\W.cell? ⟨h,41,N⟩=aa (.int .i64 dl)/\W.cell? ⟨J.heap.size,0,N⟩=aa (.int .i64 U)/\W.cell? ⟨J.heap.size,1,N⟩=aa (.int .i64 Z))) (by kernel_rfl) e6 (fun D=>?_);refine tk 0 _ D ?_;refine tk 1 _ D ?_;refine tk 2 _ D ?_;refine tk 3 _ D ?_;refine tk 5 _ D ?_;refine tk 6 _ D ?_;refine tk 7 _ D ?_;refine tk 8 _ D ?_;refine tk 9 _ D ?_;refine tk 10 _ D ?_;refine tk 11 _ D ?_;refine tk 12 _ D ?_;refine tk 13 _ D ?_;refine tk 14 _ D ?_;refine tk 15 _ D ?_;refine tk 16 _ D ?_;refine tk 17 _ D ?_;refine tk 18 _ D ?_;refine tk 19 _ D ?_;refine tk 20 _ D ?_;refine tk 21 _ D ?_;refine tk 22 _ D ?_;simp only[al,sA,sZ,sS];refine rdy 4 [23] _ (fun K I=>?_) ?_
 ·skip
  go_simp;refine I.out _ _ e6 (fun D=>?_);clear I K;try simp only[al,sA,sZ,sS]
  refine rdy 23 [] _ (fun K I=>?_) ag;go_simp;refine I.out _ _ b8 (fun D=>?_);clear I K;try simp only[al,sA,sZ,sS]
  refine rdy 24 [] _ (fun K I=>?_) ag;refine XU rfl (.tmp 26) (.tmp 45) 34 34 rfl _ _ (by first|(simp[Act.eval];done)|(simp[Act.eval,Act.put];done)) (by first|(simp[Act.eval];done)|(simp[Act.eval,Act.put];done)) (fun ty=>e2 ty) ?_;refine I.out _ _ e4 (fun D=>?_);clear I K;try simp only[al,sA,sZ,sS]
  refine tk 25 _ D ?_;refine tk 26 _ D ?_;simp only[al,sA,sZ,sS];refine rdy 27 [] _ (fun K I=>?_) ag;go_simp;refine I.out _ _ e5 (fun D=>?_);clear I K;try simp only[al,sA,sZ,sS]
  refine wpAnyH_done (by kernel_rfl) ?_ _;go_wp2_with fail
  go_end0
  exact⟨rfl,e1.out _ e3.out⟩
 ·refine AllReadyH.cons (o:=⟨aa 45,.buildSlice 34 1 #[(0,.tmp 44)],34, "client.go:88",#[⟨22,.data⟩],N⟩) rfl (fun K I=>?_) ag;go_simp;refine I.out _ _ b8 (fun D=>?_);clear I K;try simp only[al,sA,sZ,sS]
  refine rdy 4 [] _ (fun K I=>?_) ag;go_simp;refine I.out _ _ b8 (fun D=>?_);clear I K;try simp only[al,sA,sZ,sS]
  refine rdy 24 [] _ (fun K I=>?_) ag;refine XU rfl (.tmp 26) (.tmp 45) 34 34 rfl _ _ (by first|(simp[Act.eval];done)|(simp[Act.eval,Act.put];done)) (by first|(simp[Act.eval];done)|(simp[Act.eval,Act.put];done)) (fun ty=>e2 ty) ?_;refine I.out _ _ e4 (fun D=>?_);clear I K;try simp only[al,sA,sZ,sS]
  refine tk 25 _ D ?_;refine tk 26 _ D ?_;simp only[al,sA,sZ,sS];refine rdy 27 [] _ (fun K I=>?_) ag;go_simp;refine I.out _ _ e5 (fun D=>?_);clear I K;try simp only[al,sA,sZ,sS]
  refine wpAnyH_done (by kernel_rfl) ?_ _;go_wp2_with fail
  go_end0
  exact⟨rfl,e1.out _ e3.out⟩
end
end
section
section
variable {w w':World} {B h:Nat} {O O':Nat->Option Whose} {m:Ya} {X:WB} {ml:List (Zb×Lv)} {nb hn:Nat->Nat} {n k:Nat} {ad:Nat->aE}
theorem Ye.ended (H:Ye w B h O m X ml nb hn)(I:Yp h w w'){c:fS}(Z:i<m.asks.length)(a2:w'.heap[h]?=aa (.cells (Zi {X with cl:=JA X.cl i c}) 66 (0,0)))(hc:c.p=N):∃O',Ye w' B h O' {m with asks:=m.asks.set i N} {X with cl:=JA X.cl i c} ml nb hn/\Yd (fun k=>O k≠N) (fun k=>O' k≠N) w w':=by
 have K:Yd (fun k=>O k=aa (.ask i)∨O k=aa .self) (fun _=>False) w w':=⟨I.os,I.tape,I.output,I.size,fun k D a0=>I.cW k D (fun e=>a0 (ah (e▸H.self))),fun k D=>D.elim⟩;have U:=Qv.of (t:=.ask i) (fun e=>by cases e) H.aO H.base K (fun k D=>D.elim) (fun k D=>D.elim);refine⟨_,{H.toXJ.gH (m':={m with asks:=m.asks.set i N}) (X':={X with cl:=JA X.cl i c}) U rfl rfl rfl rfl (fun j _ J=>⟨by show Xf (m.asks.set i N) j=_;rw[ZZ Z,if_neg J],rfl,rfl⟩) rfl rfl rfl rfl rfl rfl (fun j J=>yF _ _ J) (fun _=>?_)with blk:=a2,self:=(U.same .self h (fun e=>by cases e) (fun e=>by cases e)).2 H.self,cV:=H.cV,dF:=H.dF,aW:=H.aW},QM K (fun k D=>D.elim)⟩;show kA _ _ _ _ (Xf (m.asks.set i N) i) (JA X.cl i c i) _ _;rw[ZZ Z,if_pos rfl,YZ];exact hc
theorem Jqr (I:Ye w B h O m X ml nb hn)(hz:WZ n k m)(hi:i<6)(ha:Xf m.asks i=aa a)(hL:Jn w x)(hx:YF x.1)(hE:Yi ad w O):∃b,(∀W O2 m2 J a0,Ye W B h O2 m2 J a0 nb hn->J.cl=X.cl->W.cell? ⟨h,1+i*5,N⟩=aa (.pointer (aa ⟨b,0,N⟩)))/\∀W,ai w.heap.size w W->ae prog 86 #[.pointer (aa ⟨b,0,N⟩),Z1 x.1 (fI x.2)] W fun e w'=>∃p c,e=.returned (.slice p (a.aD x.1).2.length c)/\∃H,Ye w' B h H {m with asks:=m.asks.set i (aa (a.aD x.1).1)} X ml nb hn/\Qp c (fun b=>H b=aa .bD) w' p (a.aD x.1).2/\Yd (fun k=>O k≠N) (fun k=>H k≠N) w w'/\∀k,w.heap.size<=k->k<W.heap.size->w'.heap[k]?=W.heap[k]?:=by
 obtain⟨b,a2,a3,a4,a5,a6,a7⟩:∃b,(X.cl i).p=aa b/\Qw w B b (fun k=>O k=aa (.ask i)) a/\(X.cl i).put=a.put/\(X.cl i).text=Yc m.texts i/\(X.cl i).cfg=a.config/\(X.cl i).fr=m.since.getD i 0:=by have:=I.ask i hi;rw[ha]at this;exact this
 obtain⟨a8,a9,_⟩:=hz.asks i a ha;obtain⟨s1,s2,s3⟩:=zX x.1 a9;refine⟨b,fun W O2 m2 J a0 K he=>by have:=(Yx K.blk hi).1;rw[he,a2]at this;exact this,fun W D=>?_⟩;have b0:=I.below D;refine(EK ad (a3.dA D.size (fun k U=>D.block k (I.aO k _ U).2)) x (hL.below D) (a8.small hx) (fun v hv=>(hx.cM v hv).1) (fun V hs U=>?_)).mono fun e w' K=>?_
 ·have:=(hE.below D) V hs (fun k b1 b2=>U k b1 (fun e=>by have e:O k=aa (.ask i):=e;rw[b2]at e;cases e));exact⟨this.q,this.x.1⟩
 ·obtain⟨S',⟨p,c,e1,e2⟩,e3,e4⟩:=K;obtain⟨H,g1,g2,g3,g4⟩:=b0.asked hi a2 e3 e4 (by rw[s3];exact a4) a5 (by rw[s2];exact a6) a7 hz.la;exact⟨p,c,e1,H,g1,e2.mono (fun b Z=>g3 b Z.1 Z.2.1 Z.2.2),(Yd.aJ D).trans' g4,fun k h1 h2=>e4.block k h2 (fun e=>by have e:O k=aa (.ask i):=e;have:=(I.aO k _ e).2;omega)⟩
theorem I7 (h:XA a){x:Zb}(hx:YF x)(hc:a.config<=999):(a.aD x).2.length<=12:=by
 obtain⟨D,_⟩:=h.aD hx hc;have H:∀b:Za,XA b->(b.send JJ aM).length<=12:=fun b I=>by
  obtain⟨⟨_,_,h3⟩,h4,_⟩:=Xm I.aN.cfg;rw[zT];omega
 unfold Za.aD at D ⊢;split
 ·exact af _
 ·rename_i J;rw[if_neg J]at D;split
  ·exact af _
  ·rename_i K;rw[if_neg K]at D;split
   ·exact af _
   ·rename_i U;rw[if_neg U]at D;split
    ·exact af _
    ·rename_i Z;rw[if_neg Z]at D;split
     ·exact af _
     ·rename_i n5;rw[if_neg n5]at D;exact H _ D
theorem Jl9 (hp:Ye w B h O m X ml nb hn)(hz:WZ n k m)(hi:i<6)(ha:Xf m.asks i=aa a)(hL:Jn w x)(hx:YF x.1)(hE:Yi ad w O)(h0:0<=m.ops)(h1:m.ops<=1152921504606846976)(h6:m.events.length<=1000000):
 ae prog 57 #[.pointer (aa ⟨h,0,N⟩),.int .i64 (i:Int),Z1 x.1 (fI x.2)] w fun e w'=>e=.returned (.tuple #[])/\Yj w B h O (m.aD i x.1) nb hn w':=by
 have h7:a.st≠.done->True:=fun _=>trivial
 obtain⟨b,d7,d8⟩:=Jqr hp hz hi ha hL hx hE;obtain⟨b3,d9,e0⟩:=hz.asks i a ha;obtain⟨e7,e8⟩:=b3.aD hx (by omega);obtain⟨s1,s2,s3⟩:=zX x.1 d9;obtain⟨m2,a2⟩:=Xb (Ya.send {m with asks:=m.asks.set i (aa (a.aD x.1).1)} (a.aD x.1).2);have e9:m.aD i x.1=m2.after i (a.aD x.1).1:=by unfold Ya.aD;rw[ha,a2]
 have f5:WZ n k {m with asks:=m.asks.set i (aa (a.aD x.1).1)}:=hz.asked (fun b hb=>by rw[<-am hb];exact⟨e7,s1,by rw[s2];exact e0⟩);have b4:WZ n k m2:=by rw[a2];exact f5.send e8
 have a8:Xf m2.asks i=aa (a.aD x.1).1:=by rw[a2];show Xf (m.asks.set i _) i=_;rw[ZZ (by rw[hz.la];exact hi),if_pos rfl]
 have b5:(a.aD x.1).2.length<=12:=I7 b3 hx (by omega);rw[e9];obtain⟨a1,a9⟩:=Xb ((a.aD x.1).1);rw[<-a9]at a8 ⊢;obtain⟨⟨K,U,Z,x3,x4,x5,x6,xL⟩,lp,ln,lc⟩:=x
 replace b5:(a.aD ⟨K,U,Z,x3,x4,x5,x6,xL⟩).2.length<=12:=b5
 obtain⟨w1,b0⟩:=Xb (w.alloc (.cells #[.string K,.string U,.string Z,.string x3,.int .i64 x4,.int .i64 x5,.bool x6,.slice lp ln lc] 118));have a5:=Zk b0;have b6:w1.heap[w.z]?=aa (.cells #[.string K,.string U,.string Z,.string x3,.int .i64 x4,.int .i64 x5,.bool x6,.slice lp ln lc] 118 (0,0)):=by
  rw[b0];show(w.heap.push _)[w.z]?=_;simp
 have f6:ae prog 85 #[.pointer (aa (pA h (1+i*5)))] w1 fun e w'=>e=.returned (.string a.st.word)/\Hid (ai w1.z w1 w'):=(XV (hp.below a5) hi).mono fun e w' J=>⟨by rw[J.1,ha];rfl,J.2⟩
 have h8:¬a.st.word.toList=[105,100,108,101]/\(a.st.word.toList==[105,100,108,101])=false:=by
  generalize a.st=st;cases st<;>exact⟨by decide +kernel,by decide +kernel⟩
 obtain⟨k2,k3⟩:=h8;have f7:Hid (∀W,ai w1.z w1 W->(W.cell? (pA h (1+i*5))=aa (.pointer (aa (pA b 0)))/\W.cell? (pA w.z 0)=aa (.string K)/\W.cell? (pA w.z 1)=aa (.string U)/\W.cell? (pA w.z 2)=aa (.string Z)/\W.cell? (pA w.z 3)=aa (.string x3)/\W.cell? (pA w.z 4)=aa (.int .i64 x4)/\W.cell? (pA w.z 5)=aa (.int .i64 x5)/\W.cell? (pA w.z 6)=aa (.bool x6)/\W.cell? (pA w.z 7)=aa (.slice lp ln lc))):=fun W hW=>by
  have a3:=(hW.block _ (ab.1 b6).1).trans b6;exact⟨d7 _ _ _ _ _ (hp.below (a5.trans (hW.mono a5.size))) rfl,(Xa a3 0).1,(Xa a3 1).1,(Xa a3 2).1,(Xa a3 3).1,(Xa a3 4).1,(Xa a3 5).1,(Xa a3 6).1,(Xa a3 7).1⟩
 have f8:Hid (∀W,ai w1.z w1 W->ae prog 86 #[.pointer (aa (pA b 0)),.agg #[.string K,.string U,.string Z,.string x3,.int .i64 x4,.int .i64 x5,.bool x6,.slice lp ln lc]] W fun e w'=>∃p c,e=.returned (.slice p (a.aD ⟨K,U,Z,x3,x4,x5,x6,xL⟩).2.length c)/\Hid (∃O1,Ye w' B h O1 {m with asks:=m.asks.set i (aa (a.aD ⟨K,U,Z,x3,x4,x5,x6,xL⟩).1)} X ml nb hn/\Qp c (fun b=>O1 b=aa .bD) w' p (a.aD ⟨K,U,Z,x3,x4,x5,x6,xL⟩).2/\Yd (fun k=>O k≠N) (fun k=>O1 k≠N) w w')):=fun W hW=>(d8 W (a5.trans (hW.mono a5.size))).mono fun e w' J=>by
  obtain⟨p,c,e1,O1,e2,e3,e4,e5⟩:=J;exact⟨p,c,e1,O1,e2,e3,e4⟩
 have f9:Hid (∀W p c,Hid (∃O1,Ye W B h O1 {m with asks:=m.asks.set i (aa (a.aD ⟨K,U,Z,x3,x4,x5,x6,xL⟩).1)} X ml nb hn/\Qp c (fun b=>O1 b=aa .bD) W p (a.aD ⟨K,U,Z,x3,x4,x5,x6,xL⟩).2/\Yd (fun k=>O k≠N) (fun k=>O1 k≠N) w W)->ae prog 82 #[.pointer (aa (pA h 0)),.slice p (a.aD ⟨K,U,Z,x3,x4,x5,x6,xL⟩).2.length c] W fun e w'=>e=.returned (.tuple #[])/\Hid (∃D H I,Ye w' B h D m2 H I nb hn/\H.cl=X.cl/\Yd (fun k=>O k≠N) (fun k=>D k≠N) w w')):=fun W p c hM=>by
  obtain⟨O1,h9,i0,i1⟩:=hM.out;refine(oS h9 hz.bO (by omega) i0).mono fun e w' J=>?_
  obtain⟨e1,O6,v6,i2,g0,_,i3⟩:=J;rw[<-a2]at g0;exact⟨e1,O6,_,i2,g0,rfl,i1.trans' i3⟩
 have g3:Hid (∀W D H I,Ye W B h D m2 H I nb hn->ae prog 85 #[.pointer (aa (pA h (1+i*5)))] W fun e w'=>e=.returned (.string a1.st.word)/\Hid (ai W.z W w')):=fun W D H I J=>(XV J hi).mono fun e w' J=>⟨by rw[J.1,a8];rfl,J.2⟩
 have z1:(0:Int)<=(i:Int):=by omega
 have z2:(i:Int)<6:=by omega
 have i4:Hid (w1=w.alloc (.cells #[.string K,.string U,.string Z,.string x3,.int .i64 x4,.int .i64 x5,.bool x6,.slice lp ln lc] 118)):=b0;have i5:∃b,(X.cl i).p=aa b/\Qw w B b (fun k=>O k=aa (.ask i)) a/\(X.cl i).put=a.put/\(X.cl i).text=Yc m.texts i/\(X.cl i).cfg=a.config/\(X.cl i).fr=m.since.getD i 0:=by have:=hp.ask i hi;rw[ha]at this;exact this
 obtain⟨_,_,_,y3,y4,y5,y6⟩:=i5;have e5:a1.config=a.config:=by rw[a9];exact s2
 have e6:a1.put=a.put:=by rw[a9];exact s3
 have a6:Hid (∀W D H I,Ye W B h D m2 H I nb hn->H.cl=X.cl->W.cell? (pA h (1+i*5+2+1))=aa (.int .i64 a1.config)/\W.cell? (pA h 39)=aa (.int .i64 (m.aC:Int))):=fun W D H I J he=>by
  refine⟨by have:=(Yx J.blk hi).2.2.2.1;rw[he,y5]at this;rw[e5];exact this,?_⟩;have:=(Xa J.blk 39).1;rw[show(m.aC:Int)=H.act by rw[J.aW.1,a2];rfl];exact this
 have b7:∀m3,m2.after i a1=m3->m3=m2->∀W D H I,Ye W B h D m2 H I nb hn->Yd (fun k=>O k≠N) (fun k=>D k≠N) w W->Yj w B h O (m2.after i a1) nb hn W:=fun m3 e1 e2 W D H I g1 g2=>by rw[e1,e2];exact⟨D,H,I,g1,g2⟩
 have a7:Hid ((((¬a1.st.word.toList=[100,111,110,101]/\(a1.st.word.toList==[100,111,110,101])=ak)/\¬a1.st.word.toList=[114,101,102,117,115,101,100]/\(a1.st.word.toList==[114,101,102,117,115,101,100])=ak)/\∀W D H I,Ye W B h D m2 H I nb hn->Yd (fun k=>O k≠N) (fun k=>D k≠N) w W->Yj w B h O (m2.after i a1) nb hn W)∨(a1.st.word=⟨#[100,111,110,101]⟩/\∀W D H I,Ye W B h D m2 H I nb hn->Yd (fun k=>O k≠N) (fun k=>D k≠N) w W->ae prog 87 #[.pointer (aa (pA h 0)),.int .i64 (i:Int)] W fun e w'=>e=.returned (.tuple #[])/\∃X3,w'.heap[h]?=aa (.cells (Zi X3) 66 (0,0))/\Hid (∀V,V=lA w' h i ⟨N,ak,⟨#[]⟩,0,0⟩->Yj w B h O (m2.after i a1) nb hn V))∨(a1.st.word=⟨#[114,101,102,117,115,101,100]⟩/\decide (a1.config<(m.aC:Int))=ak/\¬a1.config<(m.aC:Int)/\∀W D H I,Ye W B h D m2 H I nb hn->Yd (fun k=>O k≠N) (fun k=>D k≠N) w W->Yj w B h O (m2.after i a1) nb hn W)∨(a1.st.word=⟨#[114,101,102,117,115,101,100]⟩/\decide (a1.config<(m.aC:Int))=aM/\a1.config<(m.aC:Int)/\∀W D H I,Ye W B h D m2 H I nb hn->H.cl=X.cl->Yd (fun k=>O k≠N) (fun k=>D k≠N) w W->ae prog 88 #[.pointer (aa (pA h 0)),.int .i64 (i:Int)] W fun e w'=>e=.returned (.tuple #[])/\Hid (Yj w B h O (m2.after i a1) nb hn w'))):=by
  by_cases hs:a1.st=.done
  ·refine ah (aj ⟨by rw[hs];rfl,fun W D H I J hu=>(Jsb J hi a8 hs (by rw[a2];exact h6)).mono fun e w' b8=>by
    obtain⟨q1,O3,v3,q2,q3⟩:=b8;refine⟨q1,_,q2.blk,fun V hV=>?_⟩;obtain⟨O4,g1,g2⟩:=q2.ended (CI (Yp.refl h w') i ⟨N,ak,⟨#[]⟩,0,0⟩) (by show i<m2.asks.length;rw[b4.la];exact hi) (AM q2.blk hi _) rfl;have e:m2.after i a1={m2 with events:=m2.events++ [lY m2 i a1],asks:=m2.asks.set i N}:=by
     unfold Ya.after;rw[hs];rfl
    rw[e,hV];exact⟨O4,_,_,g1,(hu.trans' q3).trans' g2⟩⟩)
  ·by_cases hr:a1.st=.refused
   ·by_cases hc:a1.config<(m.aC:Int)
    ·have i8:m2.after i a1=m2.begin i a1.put:=by
      unfold Ya.after;rw[hr];exact if_pos (by rw[a2];exact hc)
     refine ah (ah (ah ⟨by rw[hr];rfl,decide_eq_true hc,hc,fun W D H I J he hu=>(zG J b4 hi (put:=a1.put) (by rw[he,y3,e6]) (by rw[he,y4,a2];rfl) (by rw[he,y6,a2];rfl) (by rw[a2];exact h0) (by rw[a2];exact h1) (hE.next hu).o).mono fun e w' b8=>by
      obtain⟨q1,O4,X4,i9,q2,q3⟩:=b8;rw[i8];exact⟨q1,O4,X4,i9,q2,hu.trans' q3⟩⟩))
    ·refine ah (ah (aj ⟨by rw[hr];rfl,decide_eq_false hc,hc,b7 m2 ?_ rfl⟩));unfold Ya.after;rw[hr];exact if_neg (by rw[a2];exact hc)
   ·have h1:=qT (o:=aa a1) (st:=.done) (fun b hb e=>hs (by rw[am hb];exact e)) (ah (ah rfl));rw[IU]at h1;have h2:=qT (o:=aa a1) (st:=.refused) (fun b hb e=>hr (by rw[am hb];exact e)) (ah (aj rfl));rw[CW]at h2;refine aj ⟨⟨h1,h2⟩,b7 m2 ?_ rfl⟩;unfold Ya.after;split
    ·rename_i e;exact absurd e hs
    ·rename_i e;exact absurd e hr
    ·rfl
 clear b7;generalize a1.config=ac at *;generalize (m.aC:Int)=k4 at *;generalize Yj w B h O (m2.after i a1) nb hn=G at *;generalize a1.st.word=k5 at *;generalize (a.aD ⟨K,U,Z,x3,x4,x5,x6,xL⟩).2.length=rl at *;generalize a.st.word=sw at *;clear hp hz ha hL hx hE d7 d8 b3 d9 e0 e7 e8 s1 s2 s3 a2 e9 f5 b4 a8 b5 b0 a5 b6 a9 h7 h0 h1 h6 y3 y4 y5 y6 e5 e6;show ae prog 57 #[.pointer (aa (pA h 0)),.int .i64 (i:Int),.agg #[.string K,.string U,.string Z,.string x3,.int .i64 x4,.int .i64 x5,.bool x6,.slice lp ln lc]] w _;go_enter func57,ntmps57;go_wp2_with (rw[<-i4.out])
 refine f6.mono ?_;rintro e w3 ⟨rfl,d0⟩;obtain⟨c0,c1,c2,c3,c4,c5,c6,c7,c8⟩:=f7.out w3 d0.out;have g4:=f8.out w3.drew d0.out.drew;have g5:Hid (ae prog 86 #[.pointer (aa (pA b 0)),.agg #[.string K,.string U,.string Z,.string x3,.int .i64 x4,.int .i64 x5,.bool x6,.slice lp ln lc]] w3.drew _):=g4;clear g4 f8 f7 f6 d0;go_wp2;go_cut []from 15 to 24 (fun W=>∃D H I,Ye W B h D m2 H I nb hn/\H.cl=X.cl/\Yd (fun k=>O k≠N) (fun k=>D k≠N) w W)
 case first =>
  go_region_law (first|(go_simp;go_at_call 86;refine g5.out.mono ?_;rintro e w5 ⟨p5,d5,rfl,j0⟩;go_simp)|(go_simp;go_at_call 82;refine(f9.out w5 p5 d5 j0).mono ?_;rintro e w6 ⟨rfl,j1⟩;go_simp))
  all_goals (go_wp2_with fail;go_meet)
  all_goals exact j1.out
 case rest =>
  obtain⟨D,H,I,d3,g6,g7⟩:=hcut;have g8:=g3.out wc D H I d3;have b1:Hid (Ye wc B h D m2 H I nb hn/\H.cl=X.cl/\Yd (fun k=>O k≠N) (fun k=>D k≠N) w wc):=⟨d3,g6,g7⟩;clear d3 g6 g7 g3 c0 c1 c2 c3 c4 c5 c6 c7 c8 g5 f9;go_wp2_with fail
  refine g8.mono ?_;rintro e w7 ⟨rfl,d4⟩;have a0:Hid (Ye w7 B h D m2 H I nb hn/\H.cl=X.cl/\Yd (fun k=>O k≠N) (fun k=>D k≠N) w w7):=⟨b1.out.1.below d4.out,b1.out.2.1,b1.out.2.2.trans' (Yd.aJ d4.out)⟩;clear g8 b1 d4;rcases a7.out with⟨⟨⟨k6,k7⟩,l0,l7⟩,hg⟩|⟨rfl,hn⟩|⟨rfl,hd,j2,hg⟩|⟨rfl,hd,j2,hg⟩
  ·have HG:Hid (∀W D H I,Ye W B h D m2 H I nb hn->Yd (fun k=>O k≠N) (fun k=>D k≠N) w W->G W):=hg;clear hg a7 a6;go_wp2
   go_end0
   exact⟨rfl,HG.out _ _ _ _ a0.out.1 a0.out.2.2⟩
  ·have g9:=hn w7 D H I a0.out.1 a0.out.2.2;clear a0 hn a7 a6;go_wp2_with fail
   refine g9.mono ?_;rintro e w8 ⟨rfl,X3,a4,b2⟩;obtain⟨c0,c1,c2,c3,c4⟩:=Yx a4 hi;have f0:=(Xa a4 (1+i*5)).2;have f1:=(Xa a4 (1+i*5+1)).2;have f2:=(Xa a4 (1+i*5+2)).2;have f3:=(Xa a4 (1+i*5+3)).2;have f4:=(Xa a4 (1+i*5+4)).2;obtain⟨w9,d6⟩:=Xb (lA w8 h i ⟨N,ak,⟨#[]⟩,0,0⟩);have h3:Hid (G w9):=b2.out w9 d6;have h4:Hid (w9=((((w8.setCell (pA h (1+i*5)) (.pointer N)).setCell (pA h (1+i*5+1)) (.bool ak)).setCell (pA h (1+i*5+2)) (.string ⟨#[]⟩)).setCell (pA h (1+i*5+3)) (.int .i64 0)).setCell (pA h (1+i*5+4)) (.int .i64 0)):=d6;clear a4 b2 d6 g9;go_wp2_with (rw[<-h4.out])
   go_wp2;first|(rw[<-h4.out];go_end0;exact⟨rfl,h3.out⟩)|(go_end0;exact⟨rfl,h3.out⟩)
  ·have HG:Hid (∀W D H I,Ye W B h D m2 H I nb hn->Yd (fun k=>O k≠N) (fun k=>D k≠N) w W->G W):=hg;obtain⟨d1,d2⟩:=a6.out w7 D H I a0.out.1 a0.out.2.1;clear hg a7 a6;go_wp2;go_quiet (fail)
   go_wp2
   go_end0
   exact⟨rfl,HG.out _ _ _ _ (a0.out.1.below (aq (ao w7.z w7) _)) (a0.out.2.2.trans' (Yd.aJ (aq (ao w7.z w7) _)))⟩
  ·have h5:=hg;obtain⟨d1,d2⟩:=a6.out w7 D H I a0.out.1 a0.out.2.1;have k0:Hid (∀W D H I,Ye W B h D m2 H I nb hn->H.cl=X.cl->Yd (fun k=>O k≠N) (fun k=>D k≠N) w W->ae prog 88 #[.pointer (aa (pA h 0)),.int .i64 (i:Int)] W fun e w'=>e=.returned (.tuple #[])/\Hid (G w')):=h5;clear hg h5 a7 a6;go_wp2;go_quiet (fail)
   go_wp2_with fail
   refine(k0.out _ D H I (a0.out.1.below (aq (ao w7.z w7) _)) a0.out.2.1 (a0.out.2.2.trans' (Yd.aJ (aq (ao w7.z w7) _)))).mono ?_;rintro e w8 ⟨rfl,b2⟩;go_wp2
   go_end0
   exact⟨rfl,b2.out⟩
end
end
section
section
variable {w w':World} {B h:Nat} {O O':Nat->Option Whose} {m:Ya} {X:WB} {ml:List (Zb×Lv)} {nb hn:Nat->Nat} {n k:Nat} {ad:Nat->aE}
theorem RJ (J:Ye w B h O m X ml nb hn)(hz:WZ n k m)(U:m.mover=aa a)(hL:Jn w x)(hx:YF x.1)(hE:Yi ad w O):∃b,X.mp=aa b/\∀W,ai w.heap.size w W->ae prog 83 #[.pointer (aa ⟨b,0,N⟩),Z1 x.1 (fI x.2)] W fun e w'=>∃p c,e=.returned (.slice p (a.aD x.1).2.length c)/\∃H,Ye w' B h H {m with mover:=aa (a.aD x.1).1} X ml nb hn/\Qp c (fun b=>H b=aa .bD) w' p (a.aD x.1).2/\Yd (fun k=>O k≠N) (fun k=>H k≠N) w w':=by
 obtain⟨b,Z,a0,a2⟩:∃b,X.mp=aa b/\XM w B b (fun k=>O k=aa .bI) a/\iR w O X.nx:=by have:=J.bI;rw[U]at this;exact this
 obtain⟨a3,a8,_⟩:=hz.bI a U;refine⟨b,Z,fun W D=>?_⟩;have a4:=J.below D;have a5:iR W O X.nx:=a2.kept (fun _ h=>h) D.size (fun k I=>D.block k (J.aO k _ I).2);refine(LU ad (a0.dA D.size (fun k I=>D.block k (J.aO k _ I).2)) x (hL.below D) (a3.small hx) (fun v hv=>(hx.cM v hv).1) (fun V hs I=>?_)).mono fun e w' hq=>?_
 ·have:=(hE.below D) V hs (fun k a6 a7=>I k a6 (fun e=>by have e:O k=aa .bI:=e;rw[a7]at e;cases e));exact⟨this.q,this.x.1⟩
 ·obtain⟨S',⟨p,c,e1,e2⟩,e3,e4⟩:=hq;obtain⟨H,g1,g3,g4⟩:=a4.rH Z (by rw[U];rfl) e3 e4 a5;exact⟨p,c,e1,H,g1,e2.mono (fun b K=>g3 b K.1 K.2.1 K.2.2),(Yd.aJ D).trans' g4⟩
def tY:fB:=⟨⟨0,0,[]⟩,N,0⟩
theorem Jte (X:WB)(c:Int):(((((((((Zi X).setIfInBounds 36 (.int .i64 X.nx.c.n)).setIfInBounds 37 (.int .i64 X.nx.c.k)).setIfInBounds 38 X.nx.v).setIfInBounds 39 (.int .i64 c)).setIfInBounds 32 (.pointer N)).setIfInBounds 33 (.int .i64 0)).setIfInBounds 34 (.int .i64 0)).setIfInBounds 35 (.slice N 0 0))=Zi {X with cf:=X.nx,act:=c,mp:=N,nx:=tY}:=by
 unfold Zi;simp only[List.setIfInBounds_toArray,List.set_cons_zero,List.set_cons_succ];rfl
def lC (w:World)(h:Nat)(X:WB)(c:Int):World:=(((((((w.setCell ⟨h,36,N⟩ (.int .i64 X.nx.c.n)).setCell ⟨h,37,N⟩ (.int .i64 X.nx.c.k)).setCell ⟨h,38,N⟩ X.nx.v).setCell ⟨h,39,N⟩ (.int .i64 c)).setCell ⟨h,32,N⟩ (.pointer N)).setCell ⟨h,33,N⟩ (.int .i64 0)).setCell ⟨h,34,N⟩ (.int .i64 0)).setCell ⟨h,35,N⟩ (.slice N 0 0)
theorem MV (hb:w.heap[h]?=aa (.cells (Zi X) 66 (0,0)))(c:Int):(lC w h X c).heap[h]?=aa (.cells (Zi {X with cf:=X.nx,act:=c,mp:=N,nx:=tY}) 66 (0,0))/\Yp h w (lC w h X c):=by
 unfold lC;rw[<-Jte X c];have D:=Qc hb 36 (.int .i64 X.nx.c.n);have H:=(Yp.refl h w).set 36 (.int .i64 X.nx.c.n);generalize w.setCell ⟨h,36,N⟩ (.int .i64 X.nx.c.n)=I at *;have J:=Qc D 37 (.int .i64 X.nx.c.k);have K:=H.set 37 (.int .i64 X.nx.c.k);generalize I.setCell ⟨h,37,N⟩ (.int .i64 X.nx.c.k)=U at *;have Z:=Qc J 38 X.nx.v;have v2:=K.set 38 X.nx.v;generalize U.setCell ⟨h,38,N⟩ X.nx.v=w2 at *;have b3:=Qc Z 39 (.int .i64 c);have v3:=v2.set 39 (.int .i64 c);generalize w2.setCell ⟨h,39,N⟩ (.int .i64 c)=w3 at *;have b4:=Qc b3 32 (.pointer N);have v4:=v3.set 32 (.pointer N);generalize w3.setCell ⟨h,32,N⟩ (.pointer N)=w4 at *;have b5:=Qc b4 33 (.int .i64 0);have v5:=v4.set 33 (.int .i64 0);generalize w4.setCell ⟨h,33,N⟩ (.int .i64 0)=w5 at *;have b6:=Qc b5 34 (.int .i64 0);have v6:=v5.set 34 (.int .i64 0);generalize w5.setCell ⟨h,34,N⟩ (.int .i64 0)=w6 at *;have b7:=Qc b6 35 (.slice N 0 0);have v7:=v6.set 35 (.slice N 0 0);generalize w6.setCell ⟨h,35,N⟩ (.slice N 0 0)=w7 at *;exact⟨b7,v7⟩
theorem Ye.kP (H:Ye w B h O m X ml nb hn)(U:m.mover=aa a):∃O',Ye (lC w h X (X.act+1)) B h O' {m with aC:=m.aC+1,mover:=N} {X with cf:=X.nx,act:=X.act+1,mp:=N,nx:=tY} ml nb hn/\Yd (fun k=>O k≠N) (fun k=>O' k≠N) w (lC w h X (X.act+1)):=by
 obtain⟨Z,I⟩:=MV H.blk (X.act+1);have a0:iR w O X.nx:=by have:=H.bI;rw[U]at this;obtain⟨_,_,_,g⟩:=this;exact g
 have K:Yd (fun k=>O k=aa .bI∨O k=aa .self) (fun _=>False) w (lC w h X (X.act+1)):=⟨I.os,I.tape,I.output,I.size,fun k D a2=>I.cW k D (fun e=>a2 (ah (e▸H.self))),fun k D=>D.elim⟩;have J:=Qv.of (t:=.bI) (fun e=>by cases e) H.aO H.base K (fun k D=>D.elim) (fun k D=>D.elim);refine⟨_,{H.toXJ.mJ (m':={m with aC:=m.aC+1,mover:=N}) (X':={X with cf:=X.nx,act:=X.act+1,mp:=N,nx:=tY}) J rfl rfl rfl ⟨rfl,rfl,rfl⟩ rfl rfl rfl rfl rfl (a0.kept J.bD J.size (fun k D=>J.kept k _ D (fun e=>by cases e) (fun e=>by cases e)))with blk:=Z,self:=(J.same .self h (fun e=>by cases e) (fun e=>by cases e)).2 H.self,cV:=H.dF (by rw[U];rfl),dF:=(fun e=>by cases e),aW:=⟨?_,H.aW.2.1,H.aW.2.2⟩},QM K (fun k D=>D.elim)⟩;show X.act+1=((m.aC+1:Nat):Int);rw[H.aW.1];omega
end
end
section
section
variable {w w':World} {B h:Nat} {O O':Nat->Option Whose} {m:Ya} {X:WB} {ml:List (Zb×Lv)} {nb hn:Nat->Nat} {n k:Nat} {ad:Nat->aE}
theorem LY (hp:Ye w B h O m X ml nb hn)(hz:WZ n k m)(ha:m.mover=aa a)(hL:Jn w x)(hx:YF x.1)(hE:Yi ad w O)(d1:(a.aD x.1).1.st≠.refused):
 ae prog 56 #[.pointer (aa ⟨h,0,N⟩),Z1 x.1 (fI x.2)] w fun e w'=>e=.returned (.tuple #[])/\Yj w B h O (m.aI x.1) nb hn w':=by
 obtain⟨b,a7,d2⟩:=RJ hp hz ha hL hx hE;obtain⟨a8,e9,a9⟩:=hz.bI a ha;have f3:=hz.many;have f4:=hz.act;have d3:=hz.dO a ha;obtain⟨f5,f6⟩:=a8.aD hx (by rcases a9 with h|h<;>rw[h.2]<;>omega);have b0:(a.aD x.1).2.length<=12:=I7 a8 hx (by rcases a9 with h|h<;>rw[h.2]<;>omega);obtain⟨a1,a3⟩:=Xb ((a.aD x.1).1);obtain⟨m2,a2⟩:=Xb (Ya.send {m with mover:=aa a1} (a.aD x.1).2);rw[<-a3]at d1;obtain⟨mx,d4,d6⟩:∃mx,m.aI x.1=mx/\((a1.st≠.done/\mx=m2)∨(a1.st=.done/\mx={m2 with aC:=m2.aC+1,mover:=N})):=by
  by_cases hs:a1.st=.done
  ·refine⟨_,?_,ah ⟨hs,rfl⟩⟩;unfold Ya.aI;rw[ha];dsimp only;rw[<-a3];rw[if_pos hs,if_pos (aj hs),a2];show Ya.mk _ _ _ _ _ _ _ (m.aB.length-1) _ _ _=Ya.mk _ _ _ _ _ _ _ (m.aC+1) _ _ _;rw[d3];rfl
  ·refine⟨_,?_,aj ⟨hs,rfl⟩⟩;unfold Ya.aI;rw[ha];dsimp only;rw[<-a3];rw[if_neg hs,if_neg (fun h=>by rcases h with h|h;exact hs h;exact d1 h),a2];rfl
 rw[d4];obtain⟨⟨x0,x1,x2,x3,x4,x5,x6,xL⟩,lp,ln,lc⟩:=x
 replace b0:(a.aD ⟨x0,x1,x2,x3,x4,x5,x6,xL⟩).2.length<=12:=b0
 obtain⟨K,a5⟩:=Xb (w.alloc (.cells #[.string x0,.string x1,.string x2,.string x3,.int .i64 x4,.int .i64 x5,.bool x6,.slice lp ln lc] 118));have a6:=Zk a5;have a0:=JH a5;have f7:ae prog 81 #[.pointer (aa ⟨h,32,N⟩)] K fun e w'=>e=.returned (.bool aM)/\w'=K:=(sC (hp.below a6)).mono fun e w' U=>⟨by rw[U.1,ha];rfl,U.2⟩
 have b1:∀W H m2 D I,Ye W B h H m2 D I nb hn->D.mp=X.mp->W.cell? ⟨h,32,N⟩=aa (.pointer (aa ⟨b,0,N⟩)):=fun W H m2 D I U he=>by have:=(Xa U.blk 32).1;rw[show(Zi D)[32]?=aa (J3 D.mp)from rfl,he,a7]at this;exact this
 obtain⟨c0,c1,c2,c3,c4,c5,c6,c7,c8⟩:K.cell? ⟨h,32,N⟩=aa (.pointer (aa ⟨b,0,N⟩))/\K.cell? ⟨w.heap.size,0,N⟩=aa (.string x0)/\K.cell? ⟨w.heap.size,1,N⟩=aa (.string x1)/\K.cell? ⟨w.heap.size,2,N⟩=aa (.string x2)/\K.cell? ⟨w.heap.size,3,N⟩=aa (.string x3)/\K.cell? ⟨w.heap.size,4,N⟩=aa (.int .i64 x4)/\K.cell? ⟨w.heap.size,5,N⟩=aa (.int .i64 x5)/\K.cell? ⟨w.heap.size,6,N⟩=aa (.bool x6)/\K.cell? ⟨w.heap.size,7,N⟩=aa (.slice lp ln lc):=⟨b1 _ _ _ _ _ (hp.below a6) rfl,(Xa a0 0).1,(Xa a0 1).1,(Xa a0 2).1,(Xa a0 3).1,(Xa a0 4).1,(Xa a0 5).1,(Xa a0 6).1,(Xa a0 7).1⟩;have d7:Hid (ae prog 83 #[.pointer (aa ⟨b,0,N⟩),.agg #[.string x0,.string x1,.string x2,.string x3,.int .i64 x4,.int .i64 x5,.bool x6,.slice lp ln lc]] K.drew fun e w'=>∃p c,e=.returned (.slice p (a.aD ⟨x0,x1,x2,x3,x4,x5,x6,xL⟩).2.length c)/\Hid (∃O1,Ye w' B h O1 {m with mover:=aa a1} X ml nb hn/\Qp c (fun b=>O1 b=aa .bD) w' p (a.aD ⟨x0,x1,x2,x3,x4,x5,x6,xL⟩).2/\Yd (fun k=>O k≠N) (fun k=>O1 k≠N) w w')):=(d2 K.drew a6.drew).mono fun e w' U=>by
  obtain⟨p,c,e1,O1,e2,e3,e4⟩:=U;rw[a3];exact⟨p,c,e1,O1,e2,e3,e4⟩
 have d8:Hid (∀W p c,Hid (∃O1,Ye W B h O1 {m with mover:=aa a1} X ml nb hn/\Qp c (fun b=>O1 b=aa .bD) W p (a.aD ⟨x0,x1,x2,x3,x4,x5,x6,xL⟩).2/\Yd (fun k=>O k≠N) (fun k=>O1 k≠N) w W)->ae prog 82 #[.pointer (aa ⟨h,0,N⟩),.slice p (a.aD ⟨x0,x1,x2,x3,x4,x5,x6,xL⟩).2.length c] W fun e w'=>e=.returned (.tuple #[])/\Hid (∃H D I,Ye w' B h H m2 D I nb hn/\D.mp=X.mp/\Yd (fun k=>O k≠N) (fun k=>H k≠N) w w')):=fun W p c hM=>by
  obtain⟨O1,f8,f9,g0⟩:=hM.out;refine(oS f8 hz.bO (by omega) f9).mono fun e w' U=>?_
  obtain⟨e1,O6,v6,g3,d9,_,g4⟩:=U;rw[<-a2]at d9;exact⟨e1,O6,_,g3,d9,rfl,g0.trans' g4⟩
 have b3:m2.mover=aa a1:=by rw[a2];rfl
 have e0:Hid (∀W H D I,Ye W B h H m2 D I nb hn->D.mp=X.mp->W.cell? ⟨h,32,N⟩=aa (.pointer (aa ⟨b,0,N⟩))/\ae prog 84 #[.pointer (aa ⟨b,0,N⟩)] W fun e w'=>e=.returned (.string a1.st.word)/\Hid (ai W.heap.size W w')):=fun W H D I U he=>by
  refine⟨b1 _ _ _ _ _ U he,?_⟩;have hv:=U.bI;rw[b3]at hv;obtain⟨b2,g1,g2,_⟩:=hv;rw[he,a7]at g1;injection g1 with g1
  rw[g1];exact(AK g2).mono fun e w' U=>⟨U.1,U.2⟩
 have g5:Hid (K=w.alloc (.cells #[.string x0,.string x1,.string x2,.string x3,.int .i64 x4,.int .i64 x5,.bool x6,.slice lp ln lc] 118)):=a5;have b4:Hid (((¬a1.st.word.toList=[100,111,110,101]/\(a1.st.word.toList==[100,111,110,101])=ak)/\∀W H D I,Ye W B h H m2 D I nb hn->Yd (fun k=>O k≠N) (fun k=>H k≠N) w W->Yj w B h O mx nb hn W)∨(a1.st.word=⟨#[100,111,110,101]⟩/\∀W H D I,Ye W B h H m2 D I nb hn->Yd (fun k=>O k≠N) (fun k=>H k≠N) w W->(0<=D.act/\D.act<=1000)/\W.heap[h]?=aa (.cells (Zi D) 66 (0,0))/\∀V,V=lC W h D (D.act+1)->Yj w B h O mx nb hn V)):=by
  rcases d6 with⟨hs,rfl⟩|⟨hs,rfl⟩
  ·have h1:=qT (o:=aa a1) (st:=.done) (fun b hb e=>hs (by rw[am hb];exact e)) (ah (ah rfl));rw[IU]at h1;exact aj ⟨h1,fun W H D I h1 h2=>⟨H,D,I,h1,h2⟩⟩
  ·refine ah ⟨by rw[hs];rfl,fun W H D I h1 h2=>by
    obtain⟨O4,g1,g2⟩:=h1.kP b3;have hx:D.act=(m.aC:Int):=by rw[h1.aW.1,a2];rfl
    exact⟨by rw[hx];omega,h1.blk,fun V hV=>by rw[hV];exact⟨O4,_,_,g1,h2.trans' g2⟩⟩⟩
 generalize Yj w B h O mx nb hn=G at *;generalize (a.aD ⟨x0,x1,x2,x3,x4,x5,x6,xL⟩).2.length=rl at *;clear hp hz ha hL hx hE b1 d2 a8 e9 a9 f5 f6 a2 b0 a5 a6 a0 a3 a7 b3 d6 d1 d4 f3 f4 d3;generalize a1.st.word=h9 at *;show ae prog 56 #[.pointer (aa ⟨h,0,N⟩),.agg #[.string x0,.string x1,.string x2,.string x3,.int .i64 x4,.int .i64 x5,.bool x6,.slice lp ln lc]] w _;go_enter func56,ntmps56;go_wp2_with (rw[<-g5.out])
 refine f7.mono ?_;rintro e w3 ⟨rfl,rfl⟩;go_wp2;go_cut []from 9 to 19 (fun W=>∃H D I,Ye W B h H m2 D I nb hn/\D.mp=X.mp/\Yd (fun k=>O k≠N) (fun k=>H k≠N) w W)
 case first =>
  go_region_law (first|(go_simp;go_at_call 83;refine d7.out.mono ?_;rintro e w5 ⟨p5,d5,rfl,g6⟩;go_simp)|(go_simp;go_at_call 82;refine(d8.out w5 p5 d5 g6).mono ?_;rintro e w6 ⟨rfl,g7⟩;go_simp))
  all_goals (go_wp2_with fail;go_meet)
  all_goals exact g7.out
 case rest =>
  obtain⟨H,D,I,b5,b6,e5⟩:=hcut;obtain⟨i0,e6⟩:=e0.out wc H D I b5 b6;have b7:Hid (Ye wc B h H m2 D I nb hn/\D.mp=X.mp/\Yd (fun k=>O k≠N) (fun k=>H k≠N) w wc):=⟨b5,b6,e5⟩;clear b5 b6 e5 e0 c0 c1 c2 c3 c4 c5 c6 c7 c8 d7 d8;go_wp2_with fail
  refine e6.mono ?_;rintro e Z ⟨rfl,b8⟩;have a4:Hid (Ye Z B h H m2 D I nb hn/\Yd (fun k=>O k≠N) (fun k=>H k≠N) w Z):=⟨b7.out.1.below b8.out,b7.out.2.2.trans' (Yd.aJ b8.out)⟩;clear e6 b7 b8;rcases b4.out with⟨⟨i1,i2⟩,hg⟩|⟨rfl,hg⟩
  ·have HG:Hid (∀W H D I,Ye W B h H m2 D I nb hn->Yd (fun k=>O k≠N) (fun k=>H k≠N) w W->G W):=hg;clear hg b4;go_wp2
   go_end0
   exact⟨rfl,HG.out _ _ _ _ a4.out.1 a4.out.2⟩
  ·obtain⟨g8,J,hV⟩:=hg Z H D I a4.out.1 a4.out.2;clear hg b4;have g9:=(Xa J 32).1;have i3:=(Xa J 32).2;have h0:=(Xa J 33).1;have i4:=(Xa J 33).2;have h3:=(Xa J 34).1;have i5:=(Xa J 34).2;have h4:=(Xa J 35).1;have i8:=(Xa J 35).2;have h5:=(Xa J 36).1;have i9:=(Xa J 36).2;have h6:=(Xa J 37).1;have j0:=(Xa J 37).2;have h7:=(Xa J 38).1;have j1:=(Xa J 38).2;have h8:=(Xa J 39).1;have j2:=(Xa J 39).2;obtain⟨v9,d0⟩:=Xb (lC Z h D (D.act+1));have e7:Hid (G v9):=hV v9 d0;change Z.cell? ⟨h,33,N⟩=aa (.int .i64 D.nx.c.n)at h0;change Z.cell? ⟨h,34,N⟩=aa (.int .i64 D.nx.c.k)at h3;change Z.cell? ⟨h,35,N⟩=aa (.slice D.nx.p D.nx.c.L.length D.nx.cap)at h4;change Z.cell? ⟨h,36,N⟩=aa (.int .i64 D.cf.c.n)at h5;change Z.cell? ⟨h,37,N⟩=aa (.int .i64 D.cf.c.k)at h6;change Z.cell? ⟨h,38,N⟩=aa (.slice D.cf.p D.cf.c.L.length D.cf.cap)at h7;change Z.cell? ⟨h,39,N⟩=aa (.int .i64 D.act)at h8;change Z.cell? ⟨h,32,N⟩=aa (J3 D.mp)at g9;have k0:IntKind.i64.wrap (D.act+1)=D.act+1:=by rw[IntKind.wrap_i64];omega
   have e8:Hid (v9=(((((((Z.setCell ⟨h,36,N⟩ (.int .i64 D.nx.c.n)).setCell ⟨h,37,N⟩ (.int .i64 D.nx.c.k)).setCell ⟨h,38,N⟩ (.slice D.nx.p D.nx.c.L.length D.nx.cap)).setCell ⟨h,39,N⟩ (.int .i64 (D.act+1))).setCell ⟨h,32,N⟩ (.pointer N)).setCell ⟨h,33,N⟩ (.int .i64 0)).setCell ⟨h,34,N⟩ (.int .i64 0)).setCell ⟨h,35,N⟩ (.slice N 0 0)):=d0;clear hV d0 J g8 a4;go_wp2_with (rw[<-e8.out])
   go_wp2;first|(rw[<-e8.out];go_end0;exact⟨rfl,e7.out⟩)|(go_end0;exact⟨rfl,e7.out⟩)
theorem M3 (hp:Ye w B h O m X ml nb hn)(ha:m.mover=N)(x:Zb×Lv):
 ae prog 56 #[.pointer (aa ⟨h,0,N⟩),Z1 x.1 (fI x.2)] w fun e w'=>e=.returned (.tuple #[])/\Yj w B h O (m.aI x.1) nb hn w':=by
 have a3:m.aI x.1=m:=by unfold Ya.aI;rw[ha]
 rw[a3];obtain⟨⟨H,I,J,K,U,Z,x6,xL⟩,lp,ln,lc⟩:=x;obtain⟨D,a0⟩:=Xb (w.alloc (.cells #[.string H,.string I,.string J,.string K,.int .i64 U,.int .i64 Z,.bool x6,.slice lp ln lc] 118));have a2:=Zk a0;have a4:ae prog 81 #[.pointer (aa ⟨h,32,N⟩)] D fun e w'=>e=.returned (.bool ak)/\w'=D:=(sC (hp.below a2)).mono fun e w' hq=>⟨by rw[hq.1,ha];rfl,hq.2⟩
 have HG:Hid (Yj w B h O m nb hn D):=Yj.here hp a2;have a5:Hid (D=w.alloc (.cells #[.string H,.string I,.string J,.string K,.int .i64 U,.int .i64 Z,.bool x6,.slice lp ln lc] 118)):=a0;generalize Yj w B h O m nb hn=G at *;clear hp ha a3 a0 a2;show ae prog 56 #[.pointer (aa ⟨h,0,N⟩),.agg #[.string H,.string I,.string J,.string K,.int .i64 U,.int .i64 Z,.bool x6,.slice lp ln lc]] w _;go_enter func56,ntmps56;go_wp2_with (rw[<-a5.out])
 refine a4.mono ?_;rintro e w3 ⟨rfl,rfl⟩;go_wp2;refine bodyPost_ret (results_none rfl _ _ _) rfl ?_;exact⟨rfl,HG.out⟩
theorem JnM (H:Ye w B h O m X ml nb hn)(I:WZ n k m)(J:Jn w x)(K:YF x.1)(U:Yi ad w O)(Z:∀a,m.mover=aa a->(a.aD x.1).1.st≠.refused):
 ae prog 56 #[.pointer (aa ⟨h,0,N⟩),Z1 x.1 (fI x.2)] w fun e w'=>e=.returned (.tuple #[])/\Yj w B h O (m.aI x.1) nb hn w':=by
 cases D:m.mover with
 |none=>exact M3 H D x
 |some a =>
  exact LY H I D J K U (Z a D)
end
end
section
section
variable {w w':World} {B h:Nat} {O O':Nat->Option Whose} {m:Ya} {X:WB} {ml:List (Zb×Lv)} {nb hn:Nat->Nat} {n k:Nat} {ad:Nat->aE}
theorem Jmz (hp:Ye w B h O m X ml nb hn)(hi:i<6)(ha:Xf m.asks i=N)(x:Zb×Lv):
 ae prog 57 #[.pointer (aa ⟨h,0,N⟩),.int .i64 (i:Int),Z1 x.1 (fI x.2)] w fun e w'=>e=.returned (.tuple #[])/\Yj w B h O (m.aD i x.1) nb hn w':=by
 have a2:m.aD i x.1=m:=by unfold Ya.aD;rw[ha]
 rw[a2];obtain⟨⟨H,I,J,K,U,Z,x6,xL⟩,lp,ln,lc⟩:=x;obtain⟨w1,a0⟩:=Xb (w.alloc (.cells #[.string H,.string I,.string J,.string K,.int .i64 U,.int .i64 Z,.bool x6,.slice lp ln lc] 118));have D:=Zk a0;have a3:ae prog 85 #[.pointer (aa ⟨h,1+i*5,N⟩)] w1 fun e w'=>e=.returned (.string ⟨#[105,100,108,101]⟩)/\Hid (Yj w B h O m nb hn w'):=(XV (hp.below D) hi).mono fun e w' hq=>⟨by rw[hq.1,ha];rfl,Yj.here hp (D.trans (hq.2.mono D.size))⟩
 have a4:Hid (w1=w.alloc (.cells #[.string H,.string I,.string J,.string K,.int .i64 U,.int .i64 Z,.bool x6,.slice lp ln lc] 118)):=a0;have z1:(0:Int)<=(i:Int):=by omega
 have z2:(i:Int)<6:=by omega
 generalize Yj w B h O m nb hn=G at *;clear hp a0 D a2 ha;show ae prog 57 #[.pointer (aa ⟨h,0,N⟩),.int .i64 (i:Int),.agg #[.string H,.string I,.string J,.string K,.int .i64 U,.int .i64 Z,.bool x6,.slice lp ln lc]] w _;go_enter func57,ntmps57;go_wp2_with (rw[<-a4.out])
 refine a3.mono ?_;rintro e w3 ⟨rfl,HF⟩;go_wp2;refine bodyPost_ret (results_none rfl _ _ _) rfl ?_;exact⟨rfl,HF.out⟩
theorem WR (H:Ye w B h O m X ml nb hn)(J:WZ n k m)(I:i<6)(K:Jn w x)(U:YF x.1)(Z:Yi ad w O)(h0:0<=m.ops)(h1:m.ops<=1152921504606846976)(a0:m.events.length<=1000000):
 ae prog 57 #[.pointer (aa ⟨h,0,N⟩),.int .i64 (i:Int),Z1 x.1 (fI x.2)] w fun e w'=>e=.returned (.tuple #[])/\Yj w B h O (m.aD i x.1) nb hn w':=by
 cases D:Xf m.asks i with
 |none=>exact Jmz H I D x
 |some a =>
  exact Jl9 H J I D K U Z h0 h1 a0
end
end
theorem wN {a b:BA}(h:a.toList=b.toList):a=b:=by
 rw[ByteArray.toList_eq,ByteArray.toList_eq]at h;exact ByteArray.ext (Array.toList_inj.1 h)
def gM (s:BA):Int:=match YN s with|some i=>(i:Int)|none=>-1
theorem WI (D:i<6)(H:s=QW i)(I:∀j,j<i->s≠QW j):YN s=aa i:=by
 unfold YN;rw[List.find?_eq_some_iff_getElem];refine⟨decide_eq_true H,i,by simpa using D,by simp,fun j B=>?_⟩;simp only[List.getElem_range,Bool.not_eq_true',decide_eq_false_iff_not];exact I j B
theorem VD (h:∀j,j<6->s≠QW j):YN s=none:=by
 unfold YN;rw[List.find?_eq_none];intro j B;have:=h j (List.mem_range.1 B);simpa using this
theorem CE (s:BA) (w:World) (a7:Lib.TabIs prog w "internal/strconv.uint64pow10" .u64 Lib.pow10Tab):
 ae prog 51 #[.string s] w fun e w'=>e=.returned (.int .i64 (gM s))/\ai w.heap.size w w':=by
 have I:Hid (∀i:Nat,i<6->∀W,ai w.heap.size w W->ae prog 75 #[.int .i64 (i:Int)] W fun e w'=>e=.returned (.string (QW i))/\Hid (ai w.heap.size w w')):=fun i J W U=>(DB (i:Int) ⟨by omega,by omega⟩ W (TabIs.dJ a7 (fun k hk=>U.block k hk))).mono fun e w' hq=>⟨by rw[hq.1,IP (by omega) (by omega),CB J],U.trans (hq.2.mono U.size)⟩
 have K:Hid (∀i,i<6->s=QW i->(∀j,j<i->s≠QW j)->gM s=(i:Int)):=fun i J B h2=>by unfold gM;rw[WI J B h2]
 have O:Hid ((∀j,j<6->s≠QW j)->gM s=-1):=fun B=>by unfold gM;rw[VD B]
 clear a7;generalize gM s=R at *;go_enter func51,ntmps51;go_wp2;go_loopw [4] (fun x wr=>∃i:Nat,i<=6/\x=.int .i64 i/\(∀j,j<i->s≠QW j)/\ai w.heap.size w wr) (fun x _=>6-(intOf x).toNat)
 case atStart=>exact⟨0,af _,rfl,(fun j hj=>absurd hj (Nat.not_lt_zero _)),ao _ _⟩
 case round =>
  obtain⟨i,J,rfl,a3,a4⟩:=hrel;have D:Hid _:=a3;have a5:Hid _:=a4;clear a3 a4;by_cases a6:i<6
  ·have Z:=I.out i a6 wr a5.out;by_cases H:s=QW i
   ·have HR:Hid (R=(i:Int)):=K.out i a6 H D.out;have a0:s.toList=(QW i).toList:=by rw[H]
    clear K O D H I;generalize QW i=nm at *;go_wp2_with fail
    refine Z.mono ?_;rintro e w2 ⟨rfl,a2⟩;go_wp2;go_ret;exact⟨by rw[HR.out];rfl,a2.out⟩
   ·have a0:¬s.toList=(QW i).toList:=fun e=>H (wN e)
    have a8:(s.toList==(QW i).toList)=false:=by simp[a0]
    have a9:Hid (∀j,j<i+1->s≠QW j):=fun j hj=>by
     rcases Nat.lt_or_ge j i with B|B
     ·exact D.out j B
     ·rw[show j=i by omega];exact H
    clear K O D H I;generalize hg:QW i=nm at Z a0 a8;clear hg;go_wp2_with fail
    refine Z.mono ?_;rintro e w2 ⟨rfl,a2⟩;go_wp2;go_roundw
    case rel=>exact⟨i+1,by omega,by go_num,a9.out,a2.out⟩
    case measure=>simp[intOf];omega
  ·have b0:i=6:=by omega
   have HR:Hid _:=O.out (by rw[<-b0];exact D.out);clear K O D I;go_wp2;go_ret;exact⟨by rw[HR.out];rfl,a5.out⟩
section
section
variable {w w':World} {B h:Nat} {O O':Nat->Option Whose} {m:Ya} {X:WB} {ml:List (Zb×Lv)} {nb hn:Nat->Nat} {n k:Nat} {ad:Nat->aE}
theorem I3 (ml:List (Zb×Lv))(D:i<ml.length):(JN ml i).1=Yg (ml.map Prod.fst) i:=by
 unfold JN Yg;rw[List.getD_eq_getElem?_getD,List.getD_eq_getElem?_getD,List.getElem?_map,List.getElem?_eq_getElem D];rfl
theorem Jok (D:Ye w B h O m X ml nb hn)(J:WZ n k m)(i:Int)(hE:Yi ad w O):
 ae prog 37 #[.pointer (aa ⟨h,0,N⟩),.int .i64 i] w (Xe ad w B h O (m.bC i) nb hn):=by
 obtain⟨p,c,a4,a2⟩:=D.jae;have K:=JaN h m.L.length c p i w a4;have a0:=KM h m.L.length c p w J.bO a4;by_cases U:0<=i/\i<(m.L.length:Int)
 ·obtain⟨j,rfl⟩:∃j:Nat,i=(j:Int):=⟨i.toNat,by omega⟩;rw[decide_eq_true U]at K;have Z:j<ml.length:=by omega
  by_cases hf:120<=m.L.length
  ·have I:m.bC (j:Int)=(m,7):=by unfold Ya.bC;rw[if_neg (by omega),if_pos hf]
   rw[I];have a6:=hE.here.sv.eZ.c6;have HF:Hid (Xe ad w B h O (m,7) nb hn (.returned (.iface 335 (.pointer (aa (ad 6))))) w):=⟨⟨_,rfl,Jd.b8 6 (by decide)⟩,Yj.here D bR⟩;have a3:(120:Int)-(m.L.length:Int)=0:=by have:=J.bO;omega
   rw[a3]at a0;generalize Xe ad w B h O (m,7) nb hn=G at *;clear D J hE I U a2 Z hf a3;go_enter func37,ntmps37;go_wp2_with fail
   refine K.mono ?_;rintro e w1 ⟨rfl,rfl⟩;go_wp2_with fail
   refine a0.mono ?_;rintro e w2 ⟨rfl,rfl⟩;go_wp2;exact HF.out
  ·have I:m.bC (j:Int)=({m with L:=m.L.take (j+1)++ [Yg m.L j]++m.L.drop (j+1)},0):=by unfold Ya.bC;rw[if_neg (by omega),if_neg hf,ap]
   rw[I];have a5:ae prog 61 #[.pointer (aa ⟨h,0,N⟩),.int .i64 (j:Int)] w fun e w'=>e=.returned (.tuple #[])/\Hid (Xe ad w B h O ({m with L:=m.L.take (j+1)++ [Yg m.L j]++m.L.drop (j+1)},0) nb hn (.returned .nilIface) w'):=(KT h B X.vm ml j w (by have:=J.bO;omega) Z (D.cell 0).1 (D.cell 0).2 D.gV D.row).mono fun e w' hq=>⟨hq.1,⟨_,rfl,Jd.nil _ _⟩,Yj.oV D hq.2 (fun x H=>by
    unfold gL at H;rcases List.mem_append.1 H with H|H
    ·rcases List.mem_append.1 H with H|H
     ·exact List.mem_of_mem_take H
     ·rw[List.mem_singleton.1 H];exact vV Z
    ·exact List.mem_of_mem_drop H) (by
    unfold gL;rw[List.map_append,List.map_append,List.map_take,List.map_drop,List.map_singleton,I3 ml Z,D.dK])⟩
   have a3:¬(120:Int)-(m.L.length:Int)=0:=by omega
   generalize (120:Int)-(m.L.length:Int)=rm at *;generalize Xe ad w B h O ({m with L:=m.L.take (j+1)++ [Yg m.L j]++m.L.drop (j+1)},0) nb hn=G at *;clear D J hE I U a2 Z hf;go_enter func37,ntmps37;go_wp2_with fail
   refine K.mono ?_;rintro e w1 ⟨rfl,rfl⟩;go_wp2_with fail
   refine a0.mono ?_;rintro e w2 ⟨rfl,rfl⟩;go_wp2_with fail
   refine a5.mono ?_;rintro e w3 ⟨rfl,HG⟩;go_wp2;exact HG.out
 ·have I:m.bC i=(m,5):=by unfold Ya.bC;rw[if_pos (by omega)]
  rw[I];rw[decide_eq_false U]at K;have a7:=hE.here.q.c4;have HF:Hid (Xe ad w B h O (m,5) nb hn (.returned (.iface 335 (.pointer (aa (ad 4))))) w):=⟨⟨_,rfl,Jd.b8 4 (by decide)⟩,Yj.here D bR⟩;generalize Xe ad w B h O (m,5) nb hn=G at *;clear D J hE I U a2 a0;go_enter func37,ntmps37;go_wp2_with fail
  refine K.mono ?_;rintro e w1 ⟨rfl,rfl⟩;go_wp2;exact HF.out
end
end
section
theorem JtQ (X:WB)(n:Int):(Zi X).setIfInBounds 41 (.int .i64 n)=Zi {X with del:=n}:=rfl
section
variable {w w':World} {B h:Nat} {O O':Nat->Option Whose} {m:Ya} {X:WB} {ml:List (Zb×Lv)} {nb hn:Nat->Nat} {n k:Nat} {ad:Nat->aE}
theorem Ye.l7 (H:Ye w B h O m X ml nb hn)(d:Int):Ye (w.setCell ⟨h,41,N⟩ (.int .i64 d)) B h O {m with aA:=d} {X with del:=d} ml nb hn/\Yp h w (w.setCell ⟨h,41,N⟩ (.int .i64 d)):=by
 have I:=(Yp.refl h w).set 41 (.int .i64 d);have D:=H.toXJ.aS I.size (fun k o e J=>I.cW k (H.aO k o e).2 (fun K=>by rw[K,H.self]at e;injection e with e;exact J e.symm));exact⟨{aO:=D.aO,row:=D.row,cX:=D.cX,dK:=D.dK,bD:=D.bD,bV:=D.bV,cS:=D.cS,cD:=D.cD,bU:=D.bU,node:=D.node,mem:=D.mem,ask:=D.ask,bI:=D.bI,cf:=D.cf,blk:=by have:=Qc H.blk 41 (.int .i64 d);rw[JtQ]at this;exact this,self:=H.self,cV:=H.cV,dF:=H.dF,aW:=⟨H.aW.1,H.aW.2.1,rfl⟩},I⟩
theorem Yp.nJ (D:Yp h w w')(I:S h):Yd S S w w':=⟨D.os,D.tape,D.output,D.size,fun k H hn=>D.cW k H (fun e=>hn (e▸I)),fun _ H=>aj H⟩
theorem Jqj (D:Ye w B h O m X ml nb hn)(hz:WZ n k m){j:Nat}(hj:j<m.L.length):∃x:Zb×Lv,x.1=Yg m.L j/\YF x.1/\ae prog 55 #[.pointer (aa ⟨h,0,N⟩),.int .i64 (j:Int)] w fun e w'=>e=.returned (Z1 x.1 (fI x.2))/\∃O' X' a0,Ye w' B h O' (m.off j) X' a0 nb hn/\Jn w' x/\(∀b o,x.2.1=aa ⟨b,o,N⟩->O' b=aa .bD)/\Yd (fun k=>O k≠N) (fun k=>O' k≠N) w w':=by
 have a3:ml.length=m.L.length:=by rw[<-D.dK,List.length_map]
 have H:j<ml.length:=by omega
 have a2:(JN ml j).1=Yg m.L j:=by rw[I3 ml H,D.dK]
 have J:JN ml j∈ml:=vV H;refine⟨JN ml j,a2,hz.msgs _ (by rw[<-D.dK];exact List.mem_map.2 ⟨_,J,rfl⟩),?_⟩;refine(F6 h B X.vm ml j w (by have:=hz.bO;omega) H (D.cell 0).1 (D.cell 0).2 D.gV D.row).mono fun e w' K=>⟨K.1,?_⟩
 obtain⟨v',hF⟩:=K.2;obtain⟨O2,U,I,g3⟩:=D.oV hF (fun x hx=>D.bD x (List.mem_of_mem_eraseIdx hx));rw[wA,D.dK]at U;obtain⟨i1,Z⟩:=D.bD _ J;exact⟨O2,_,_,U,i1.kept I.size (fun b o e=>I.kept b _ (Z b o e) (fun e=>by cases e) (fun e=>by cases e)),fun b o e=>I.bD b (Z b o e),g3⟩
end
end
section
section
variable {w w':World} {B h:Nat} {O O':Nat->Option Whose} {m:Ya} {X:WB} {ml:List (Zb×Lv)} {nb hn:Nat->Nat} {n k:Nat} {ad:Nat->aE}
theorem VL (hp:Ye w B h O m X ml nb hn)(hz:WZ n k m)(i:Int)(h0:0<=m.ops)(h1:m.ops<=1152921504606846976)(h3:0<=m.aA)(h4:m.aA<=1152921504606846976)(f7:m.events.length<=1000000)(hf:m.nodes.length<=1000)(hE:Yi ad w O)(d8:∀a,m.mover=aa a->(a.aD (Yg m.L i.toNat)).1.st≠.refused):
 ae prog 34 #[.pointer (aa ⟨h,0,N⟩),.int .i64 i] w (Xe ad w B h O (m.aR i) nb hn):=by
 obtain⟨p,c,h9,f8⟩:=hp.jae;have d2:=JaN h m.L.length c p i w h9;by_cases hi:0<=i/\i<(m.L.length:Int)
 ·obtain⟨j,rfl⟩:∃j:Nat,i=(j:Int):=⟨i.toNat,by omega⟩;rw[ap]at d8;rw[decide_eq_true hi]at d2;have f9:=hp.aW.2.2;have i5:w.cell? (pA h 41)=aa (.int .i64 m.aA):=by rw[<-f9];exact(hp.cell 41).1
  have i8:=(hp.cell 41).2;have i9:IntKind.i64.wrap (m.aA+1)=m.aA+1:=by rw[IntKind.wrap_i64];omega
  obtain⟨d9,d3⟩:=hp.l7 (m.aA+1);obtain⟨w1,e0⟩:=Xb (w.setCell (pA h 41) (.int .i64 (m.aA+1)));rw[<-e0]at d9 d3;have g8:=d3.nJ (S:=fun k=>O k≠N) (by show O h≠N;rw[hp.self];exact fun e=>(by cases e));have e4:WZ n k {m with aA:=m.aA+1}:=hz.IE _;obtain⟨x,a8,d4,e5⟩:=Jqj d9 e4 (j:=j) (by show j<m.L.length;omega);have a8:=a8;obtain⟨m2,a6⟩:∃m2:Ya,m2=Ya.off {m with aA:=m.aA+1} j:=⟨_,rfl⟩;rw[<-a6]at e5;have d5:WZ n k m2:=by rw[a6];exact e4.off j
  have e6:m.aR (j:Int)=(match YN x.1.aP with
   |some who=>m2.aD who x.1
   |none=>if x.1.aP=J8 then m2.aI x.1 else m2.node x.1,0):=by
   unfold Ya.aR;rw[if_neg (by omega),ap,a8,a6];rfl
  rw[e6];have g9:∀a,m2.mover=aa a->(a.aD x.1).1.st≠.refused:=fun a ha=>by rw[a8];exact d8 a (by rw[a6]at ha;exact ha)
  have h2:=hE.wrote hp.self d3;have a9:0<=m2.ops/\m2.ops<=1152921504606846976/\m2.events.length<=1000000/\m2.nodes.length<=1000:=by rw[a6];exact⟨h0,h1,f7,hf⟩
  obtain⟨⟨I,D,J,K,U,Z,x6,xL⟩,lp,ln,lc⟩:=x;have d6:Hid (ae prog 55 #[.pointer (aa (pA h 0)),.int .i64 (j:Int)] w1 fun e w'=>e=.returned (.agg #[.string I,.string D,.string J,.string K,.int .i64 U,.int .i64 Z,.bool x6,.slice lp ln lc])/\Hid (∃O' X' a4,Ye w' B h O' m2 X' a4 nb hn/\Jn w' (⟨I,D,J,K,U,Z,x6,xL⟩,lp,ln,lc)/\(∀b o,lp=aa (pA b o)->O' b=aa .bD)/\Yd (fun k=>O k≠N) (fun k=>O' k≠N) w w'/\Yi ad w' O')):=e5.mono fun e w' hq=>by
   obtain⟨e1,O2,X2,e7,g1,g2,g3,g4⟩:=hq;exact⟨e1,O2,X2,e7,g1,g2,g3,g8.trans' g4,h2.next g4⟩
  have h5:Hid _:=e0;have HM:Hid (∀W2 W3,ai W2.z W2 W3->Hid (∃O' X' a4,Ye W2 B h O' m2 X' a4 nb hn/\Jn W2 (⟨I,D,J,K,U,Z,x6,xL⟩,lp,ln,lc)/\(∀b o,lp=aa (pA b o)->O' b=aa .bD)/\Yd (fun k=>O k≠N) (fun k=>O' k≠N) w W2/\Yi ad W2 O')->ae prog 56 #[.pointer (aa (pA h 0)),.agg #[.string I,.string D,.string J,.string K,.int .i64 U,.int .i64 Z,.bool x6,.slice lp ln lc]] W3 fun e w'=>e=.returned (.tuple #[])/\Hid (Yj w B h O (m2.aI ⟨I,D,J,K,U,Z,x6,xL⟩) nb hn w')):=fun W2 W3 hb hQ=>by
   obtain⟨O2,X2,e7,g1,g2,g3,g4,g5⟩:=hQ.out;exact(JnM (g1.below hb) d5 (g2.below hb) d4 (g5.below hb) g9).mono fun e w' hq=>by
    obtain⟨e1,O3,X3,e8,e2,e3⟩:=hq;exact⟨e1,O3,X3,e8,e2,(g4.trans' (Yd.aJ hb)).trans' e3⟩
  have HC:Hid (∀q:Nat,q<6->∀W2 W3,ai W2.z W2 W3->Hid (∃O' X' a4,Ye W2 B h O' m2 X' a4 nb hn/\Jn W2 (⟨I,D,J,K,U,Z,x6,xL⟩,lp,ln,lc)/\(∀b o,lp=aa (pA b o)->O' b=aa .bD)/\Yd (fun k=>O k≠N) (fun k=>O' k≠N) w W2/\Yi ad W2 O')->ae prog 57 #[.pointer (aa (pA h 0)),.int .i64 (q:Int),.agg #[.string I,.string D,.string J,.string K,.int .i64 U,.int .i64 Z,.bool x6,.slice lp ln lc]] W3 fun e w'=>e=.returned (.tuple #[])/\Hid (Yj w B h O (m2.aD q ⟨I,D,J,K,U,Z,x6,xL⟩) nb hn w')):=fun q h6 W2 W3 hb hQ=>by
   obtain⟨O2,X2,e7,g1,g2,g3,g4,g5⟩:=hQ.out;exact(WR (g1.below hb) d5 h6 (g2.below hb) d4 (g5.below hb) a9.1 a9.2.1 a9.2.2.1).mono fun e w' hq=>by
    obtain⟨e1,O3,X3,e8,e2,e3⟩:=hq;exact⟨e1,O3,X3,e8,e2,(g4.trans' (Yd.aJ hb)).trans' e3⟩
  have HN:Hid (∀W2 W3,ai W2.z W2 W3->Hid (∃O' X' a4,Ye W2 B h O' m2 X' a4 nb hn/\Jn W2 (⟨I,D,J,K,U,Z,x6,xL⟩,lp,ln,lc)/\(∀b o,lp=aa (pA b o)->O' b=aa .bD)/\Yd (fun k=>O k≠N) (fun k=>O' k≠N) w W2/\Yi ad W2 O')->ae prog 58 #[.pointer (aa (pA h 0)),.agg #[.string I,.string D,.string J,.string K,.int .i64 U,.int .i64 Z,.bool x6,.slice lp ln lc]] W3 fun e w'=>e=.returned (.tuple #[])/\Hid (Yj w B h O (m2.node ⟨I,D,J,K,U,Z,x6,xL⟩) nb hn w')):=fun W2 W3 hb hQ=>by
   obtain⟨O2,X2,e7,g1,g2,g3,g4,g5⟩:=hQ.out;exact(WQ (g1.below hb) d5 (g2.below hb) g3 d4 a9.2.2.2 (g5.below hb)).mono fun e w' hq=>by
    obtain⟨e1,O3,X3,e8,e2,e3⟩:=hq;exact⟨e1,O3,X3,e8,e2,(g4.trans' (Yd.aJ hb)).trans' e3⟩
  dsimp only at e6 ⊢;by_cases a7:D=J8
  ·have a5:YN D=none:=by rw[a7];decide +kernel
   rw[a5];dsimp only;rw[if_pos a7];have e9:Hid (∀W,Yj w B h O (m2.aI ⟨I,D,J,K,U,Z,x6,xL⟩) nb hn W->Xe ad w B h O (m2.aI ⟨I,D,J,K,U,Z,x6,xL⟩,0) nb hn (.returned .nilIface) W):=fun W hW=>⟨⟨_,rfl,Jd.nil _ _⟩,hW⟩
   generalize Xe ad w B h O (m2.aI ⟨I,D,J,K,U,Z,x6,xL⟩,0) nb hn=G at *;generalize Yj w B h O (m2.aI ⟨I,D,J,K,U,Z,x6,xL⟩) nb hn=T at *;have j0:D.toList=[109,111,118,101,114]:=by rw[a7];decide +kernel
   clear HC HN a5 a7;clear hp hz hE e6 hi f8 h0 h1 h3 h4 f7 hf d8 d9 d3 e0 g8 e4 a8 d4 e5 a6 d5 g9 h2 a9 f9;go_enter func34,ntmps34;go_wp2_with fail
   refine d2.mono ?_;rintro e wf ⟨rfl,rfl⟩;go_wp2_with (rw[<-h5.out])
   refine d6.out.mono ?_;rintro e w2 ⟨rfl,HQ⟩;obtain⟨w3,a2⟩:=Xb (w2.alloc (.cells #[.string I,.string D,.string J,.string K,.int .i64 U,.int .i64 Z,.bool x6,.slice lp ln lc] 118));have a3:=Zk a2;have H:w3.heap[w2.z]?=aa (.cells #[.string I,.string D,.string J,.string K,.int .i64 U,.int .i64 Z,.bool x6,.slice lp ln lc] 118 (0,0)):=by
    rw[a2];show(w2.heap.push _)[w2.z]?=_;simp
   have f3:Hid _:=a2;have b0:=(Xa H 0).1;have b1:=(Xa H 1).1;have b2:=(Xa H 2).1;have b3:=(Xa H 3).1;have b4:=(Xa H 4).1;have b5:=(Xa H 5).1;have b6:=(Xa H 6).1;have b7:=(Xa H 7).1;have i0:=HM.out w2 w3 a3 HQ;clear a2 a3 H HM HQ d6;go_wp2_with (rw[<-f3.out])
   refine i0.mono ?_;rintro e w4 ⟨rfl,i1⟩;go_wp2;exact e9.out _ i1.out
  ·have i2:¬D.toList=[109,111,118,101,114]:=fun e=>a7 (wN (e.trans (by decide +kernel)))
   have j1:(D.toList==[109,111,118,101,114])=false:=by simp[i2]
   have d7:Hid (∀W2 W3,ai W2.z W2 W3->Hid (∃O' X' a4,Ye W2 B h O' m2 X' a4 nb hn/\Jn W2 (⟨I,D,J,K,U,Z,x6,xL⟩,lp,ln,lc)/\(∀b o,lp=aa (pA b o)->O' b=aa .bD)/\Yd (fun k=>O k≠N) (fun k=>O' k≠N) w W2/\Yi ad W2 O')->ae prog 51 #[.string D] W3 fun e w'=>e=.returned (.int .i64 (gM D))/\Hid (ai W3.z W3 w')):=fun W2 W3 hb hQ=>by
    obtain⟨O2,X2,e7,g1,g2,g3,g4,g5⟩:=hQ.out;exact(CE D W3 (g5.below hb).here.x.2).mono fun e w' hq=>⟨hq.1,hq.2⟩
   cases a5:YN D with
   |some q =>
    have h6:q<6:=by
     unfold YN at a5;exact List.mem_range.1 (List.mem_of_find?_eq_some a5)
    have f4:gM D=(q:Int):=by unfold gM;rw[a5]
    rw[f4]at d7;dsimp only;have h8:Hid _:=HC.out q h6;clear HC;have e9:Hid (∀W,Yj w B h O (m2.aD q ⟨I,D,J,K,U,Z,x6,xL⟩) nb hn W->Xe ad w B h O (m2.aD q ⟨I,D,J,K,U,Z,x6,xL⟩,0) nb hn (.returned .nilIface) W):=fun W hW=>⟨⟨_,rfl,Jd.nil _ _⟩,hW⟩
    generalize Xe ad w B h O (m2.aD q ⟨I,D,J,K,U,Z,x6,xL⟩,0) nb hn=G at *;generalize Yj w B h O (m2.aD q ⟨I,D,J,K,U,Z,x6,xL⟩) nb hn=T at *;have z1:(0:Int)<=(q:Int):=by omega
    clear HM HN a5 a7 f4;clear hp hz hE e6 hi f8 h0 h1 h3 h4 f7 hf d8 d9 d3 e0 g8 e4 a8 d4 e5 a6 d5 g9 h2 a9 f9;go_enter func34,ntmps34;go_wp2_with fail
    refine d2.mono ?_;rintro e wf ⟨rfl,rfl⟩;go_wp2_with (rw[<-h5.out])
    refine d6.out.mono ?_;rintro e w2 ⟨rfl,HQ⟩;obtain⟨w3,a2⟩:=Xb (w2.alloc (.cells #[.string I,.string D,.string J,.string K,.int .i64 U,.int .i64 Z,.bool x6,.slice lp ln lc] 118));have a3:=Zk a2;have H:w3.heap[w2.z]?=aa (.cells #[.string I,.string D,.string J,.string K,.int .i64 U,.int .i64 Z,.bool x6,.slice lp ln lc] 118 (0,0)):=by
     rw[a2];show(w2.heap.push _)[w2.z]?=_;simp
    have f3:Hid _:=a2;have b0:=(Xa H 0).1;have b1:=(Xa H 1).1;have b2:=(Xa H 2).1;have b3:=(Xa H 3).1;have b4:=(Xa H 4).1;have b5:=(Xa H 5).1;have b6:=(Xa H 6).1;have b7:=(Xa H 7).1;have f5:=d7.out w2 w3 a3 HQ;have d0:Hid _:=a3;have f6:Hid (∀W,ai w3.z w3 W->W.heap[w2.z]?=aa (.cells #[.string I,.string D,.string J,.string K,.int .i64 U,.int .i64 Z,.bool x6,.slice lp ln lc] 118 (0,0))):=fun W hW=>(hW.block _ (ab.1 H).1).trans H
    clear a2 a3 H d6 d7;go_wp2_with (rw[<-f3.out])
    refine f5.mono ?_;rintro e w4 ⟨rfl,d1⟩;have i3:=h8.out w2 w4 (d0.out.trans (d1.out.mono d0.out.size)) HQ;have a0:=f6.out w4 d1.out;have g0:=(Xa a0 0).1;have g1:=(Xa a0 1).1;have g2:=(Xa a0 2).1;have g3:=(Xa a0 3).1;have g4:=(Xa a0 4).1;have g5:=(Xa a0 5).1;have g6:=(Xa a0 6).1;have g7:=(Xa a0 7).1;clear a0 h8 HQ f6 d0 d1 f5;go_wp2_with fail
    refine i3.mono ?_;rintro e w5 ⟨rfl,h7⟩;go_wp2;exact e9.out _ h7.out
   |none =>
    have f4:gM D=-1:=by unfold gM;rw[a5]
    rw[f4]at d7;dsimp only;rw[if_neg a7];have e9:Hid (∀W,Yj w B h O (m2.node ⟨I,D,J,K,U,Z,x6,xL⟩) nb hn W->Xe ad w B h O (m2.node ⟨I,D,J,K,U,Z,x6,xL⟩,0) nb hn (.returned .nilIface) W):=fun W hW=>⟨⟨_,rfl,Jd.nil _ _⟩,hW⟩
    generalize Xe ad w B h O (m2.node ⟨I,D,J,K,U,Z,x6,xL⟩,0) nb hn=G at *;generalize Yj w B h O (m2.node ⟨I,D,J,K,U,Z,x6,xL⟩) nb hn=T at *;clear HM HC a5 a7 f4;clear hp hz hE e6 hi f8 h0 h1 h3 h4 f7 hf d8 d9 d3 e0 g8 e4 a8 d4 e5 a6 d5 g9 h2 a9 f9;go_enter func34,ntmps34;go_wp2_with fail
    refine d2.mono ?_;rintro e wf ⟨rfl,rfl⟩;go_wp2_with (rw[<-h5.out])
    refine d6.out.mono ?_;rintro e w2 ⟨rfl,HQ⟩;obtain⟨w3,a2⟩:=Xb (w2.alloc (.cells #[.string I,.string D,.string J,.string K,.int .i64 U,.int .i64 Z,.bool x6,.slice lp ln lc] 118));have a3:=Zk a2;have H:w3.heap[w2.z]?=aa (.cells #[.string I,.string D,.string J,.string K,.int .i64 U,.int .i64 Z,.bool x6,.slice lp ln lc] 118 (0,0)):=by
     rw[a2];show(w2.heap.push _)[w2.z]?=_;simp
    have f3:Hid _:=a2;have b0:=(Xa H 0).1;have b1:=(Xa H 1).1;have b2:=(Xa H 2).1;have b3:=(Xa H 3).1;have b4:=(Xa H 4).1;have b5:=(Xa H 5).1;have b6:=(Xa H 6).1;have b7:=(Xa H 7).1;have f5:=d7.out w2 w3 a3 HQ;have d0:Hid _:=a3;have f6:Hid (∀W,ai w3.z w3 W->W.heap[w2.z]?=aa (.cells #[.string I,.string D,.string J,.string K,.int .i64 U,.int .i64 Z,.bool x6,.slice lp ln lc] 118 (0,0))):=fun W hW=>(hW.block _ (ab.1 H).1).trans H
    clear a2 a3 H d6 d7;go_wp2_with (rw[<-f3.out])
    refine f5.mono ?_;rintro e w4 ⟨rfl,d1⟩;have i4:=HN.out w2 w4 (d0.out.trans (d1.out.mono d0.out.size)) HQ;have a0:=f6.out w4 d1.out;have g0:=(Xa a0 0).1;have g1:=(Xa a0 1).1;have g2:=(Xa a0 2).1;have g3:=(Xa a0 3).1;have g4:=(Xa a0 4).1;have g5:=(Xa a0 5).1;have g6:=(Xa a0 6).1;have g7:=(Xa a0 7).1;clear a0 HN HQ f6 d0 d1 f5;go_wp2_with fail
    refine i4.mono ?_;rintro e w5 ⟨rfl,h7⟩;go_wp2;exact e9.out _ h7.out
 ·have ho:m.aR i=(m,5):=by unfold Ya.aR;rw[if_pos (by omega)]
  rw[ho];rw[decide_eq_false hi]at d2;have j2:=hE.here.q.c4;have HF:Hid (Xe ad w B h O (m,5) nb hn (.returned (.iface 335 (.pointer (aa (ad 4))))) w):=⟨⟨_,rfl,Jd.b8 4 (by decide)⟩,Yj.here hp bR⟩;generalize Xe ad w B h O (m,5) nb hn=G at *;clear hp hz hE ho hi f8 h0 h1 h3 h4 f7 hf d8;go_enter func34,ntmps34;go_wp2_with fail
  refine d2.mono ?_;rintro e w1 ⟨rfl,rfl⟩;go_wp2;exact HF.out
end
end
end Go.Proofs.YtfgapcknnoeplaaGreatDoor

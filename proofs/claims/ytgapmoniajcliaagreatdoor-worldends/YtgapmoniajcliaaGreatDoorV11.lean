/- Texts laid together. -/
import Derived.Test.YtgapmoniajcliaaGreatDoorV9
set_option maxRecDepth 100000
set_option maxHeartbeats 8000000
open Go.World renaming cell?_alloc_at->aa,cell?_of_block->ae,cell?_setCell_other->af,frozen?_alloc_at->ai,setCell->az,cell?_setCell_same->aA,frozen?_of_block->aD
open Option renaming some->ab,none->N
open Go.RowKit renaming Below->ac
open Go.World.ranges renaming left_eq->ag,owns->ba,lt->bo
open Go.RowKit.Below renaming heap_setCell->ah,refl->zj
open Bool renaming false->F,true->aj
open Go.Value renaming slice->ak,int->aM,string->aP
open Go renaming bodyPost_ret->al,Value->an,Calls->ar,results->aC,Addr->aE,maxLen->aW
open Go.World.ownsRow renaming kept->am,lt->aq
open Go.Instr renaming lookup->ao,mapUpdate->aF,field->zg
open List renaming take_length->ap,length_append->za
open Nat renaming le_trans->au,zero_le->aR
open Or renaming inr->av,inl->ay
open Go.Maps renaming has->aw,size->bi
open Go.Addr renaming block->ax,add_lit->zf
namespace Go.Proofs.YtgapmoniajcliaaGreatDoor
open Go.Proofs.Tryz
open Go.RowKit
variable {n k b B c r a:Nat}{t u:Int×Int}{S:List (Int×BA)}{v:Yb}{w w' W:World}{x y lv:an}{row:Int×Int->an}{xs J:Int}{D:DataW an}{p:Option aE}{L:List Yb}{blk:Int×Int->Nat}{left:Lit->Bool}{found:Bool}
theorem Jql (g:Nat)(x y:Int)(t:BA)(w:World)(D:w.cell? ⟨g,3,N⟩=ab (.int .i64 x)):
 ar prog 171 (#[.agg #[.int .i64 y,.string t]]++#[.pointer (ab ⟨g,0,N⟩)]) w fun e B=>e=.returned (.bool (y==x))/\ac w.heap.size w B:=by
 have H:=Qf D;go_enter func171,ntmps171;go_wp2;go_ret;exact⟨rfl,bR.alloc nR _⟩
def iP (z:Int)(S:List (Int×BA))(v:Yb):Int:=if S=[]then v.size else z
def XN (z:Int)(S:List (Int×BA))(v:Yb):List (Int×BA):=if v.size=iP z S v/\S.any (fun y=>y.1==v.at_)=F then S++ [(v.at_,v.text)]else S
theorem Jqm {S:Int×List (Int×BA)}(H:S.1<0↔S.2=[])(I:v.n=t.1/\v.who=t.2/\YO n k v=aj):ZT n k t S v=(iP (kH S) S.2 v,XN (kH S) S.2 v):=by
 by_cases B:S.1<0
 ·have e:S.2=[]:=H.1 B;rw[ZO (z:=v.size) I (by rw[if_pos B])];unfold XN iP;rw[e];simp
 ·have D:S.2≠[]:=fun e=>B (H.2 e)
  rw[ZO (z:=S.1) I (by rw[if_neg B])];unfold XN iP kH;rw[if_neg D,if_neg D]
structure YK (w:World) (b:Nat) (x y:an):Prop where
 c0:w.cell? ⟨b,0,N⟩=ab x
 c1:w.cell? ⟨b,1,N⟩=ab y
 f0:w.frozen? ⟨b,0,N⟩=F
 f1:w.frozen? ⟨b,1,N⟩=F
theorem YK.below (h:YK w b x y)(D:ac w.heap.size w w'):YK w' b x y :=
 have B:=Qf h.c0
 ⟨(D.cell (p:=(pA b 0)) B).trans h.c0,(D.cell (p:=(pA b 1)) B).trans h.c1,(D.frozen (p:=(pA b 0)) B).trans h.f0,(D.frozen (p:=(pA b 1)) B).trans h.f1⟩
theorem YK.grown {row:Option Nat}(h:YK w b x y)(B:w.grownBy w' row)(D:ab b≠row):YK w' b x y :=
 have e:=B.block b (Qf h.c0) D
 ⟨(ae (a:=(pA b 0)) e).trans h.c0,(ae (a:=(pA b 1)) e).trans h.c1,(aD (a:=(pA b 0)) e).trans h.f0,(aD (a:=(pA b 1)) e).trans h.f1⟩
theorem YK.eJ (h:YK w b x y)(v:an):YK (w.setCell ⟨b,0,N⟩ v) b v y :=
 ⟨aA _ _ _ h.c0,(af _ _ _ _ (fun e=>by have B:(0:Nat)=1:=congrArg Addr.off e;omega)).trans h.c1,by simp[h.f0],by simp[h.f1]⟩
theorem YK.eM (h:YK w b x y)(v:an):YK (w.setCell ⟨b,1,N⟩ v) b x v :=
 ⟨(af _ _ _ _ (fun e=>by have B:(1:Nat)=0:=congrArg Addr.off e;omega)).trans h.c0,aA _ _ _ h.c1,by simp[h.f0],by simp[h.f1]⟩
theorem YK.other (h:YK w b x y)(a:aE)(v:an)(B:b≠a.block):YK (w.setCell a v) b x y :=
 ⟨(af _ _ _ _ (fun e=>B (congrArg ax e).symm)).trans h.c0,(af _ _ _ _ (fun e=>B (congrArg ax e).symm)).trans h.c1,by simp[h.f0],by simp[h.f1]⟩
theorem pT {row:Option Nat}(h:w.grownBy W row)(a:aE)(v:an)(H:w.heap.size<=a.block):w.grownBy (W.setCell a v) row :=
 ⟨h.os,h.tape,h.output,by simp[az];exact h.size,fun k B D=>(ah W a v k (by omega)).trans (h.block k B D)⟩
theorem oM {T:TypeId}{row:an}{xs:List an}(h:w.ownsRow B T 2 row n xs)(a:aE)(v:an)(H:row.ownBlock≠ab a.block):(w.setCell a v).ownsRow B T 2 row n xs :=
 am (row:=ab a.block) h ⟨rfl,rfl,rfl,by simp[az],fun k _ D=>ah w a v k (fun e=>D (by rw[e]))⟩ (av H)
theorem SJ (l:List (Int×BA))(x:Int×BA):Js (l++ [x])=Js l++ [.int .i64 x.1,.string x.2]:=by simp[Js]
structure V3 (w:World) (b:Nat) (xs xa:Int) (xt:BA):Prop where
 c2:w.cell? ⟨b,2,N⟩=ab (.int .i64 xs)
 c3:w.cell? ⟨b,3,N⟩=ab (.int .i64 xa)
 c4:w.cell? ⟨b,4,N⟩=ab (.string xt)
theorem V3.block {B:Int}{D:BA}(h:V3 w b xs B D)(e:w'.heap[b]?=w.heap[b]?):V3 w' b xs B D :=
 ⟨(ae (a:=(pA b 2)) e).trans h.c2,(ae (a:=(pA b 3)) e).trans h.c3,(ae (a:=(pA b 4)) e).trans h.c4⟩
theorem V3.below {B:Int}{D:BA}(h:V3 w b xs B D)(H:ac w.heap.size w w'):V3 w' b xs B D:=h.block (H.block b (Qf h.c2))
structure iB (w W:World) (B:Nat) (p:Option aE) (S:List (Int×BA)) (c:Nat) (zv xs xa:Int) (xt:BA):Prop where
 A:YK W w.heap.size (.int .i64 zv) (.slice p S.length c)
 V:V3 W (w.heap.size+1) xs xa xt
 R:YK W (w.heap.size+1+1) (.int .i64 0) (.slice N 0 0)
 own:W.ownsRow B 140 2 (.slice p S.length c) S.length (Js S)
 g:ac w.heap.size w W
 sz:w.heap.size+1+1+1<=W.heap.size
theorem iB.below {H:World}{I:Int}{K:BA}(h:iB w W B p S c I xs J K)(D:ac W.heap.size W H):iB w H B p S c I xs J K :=
 ⟨h.A.below D,h.V.below D,h.R.below D,am (row:=N) h.own (QD D N) (by cases (ak p S.length c).ownBlock<;>simp),h.g.trans (D.mono h.g.size),au h.sz D.size⟩
theorem iB.vO {D:Int}{H:BA}(h:iB w W B p S c J xs D H)(K:∀g,(ak p S.length c).ownBlock=ab g->g<w.heap.size)(I:Int):iB w (W.setCell ⟨w.heap.size,0,N⟩ (.int .i64 I)) B p S c I xs D H :=
 ⟨h.A.eJ _,h.V.block (ah W _ _ _ (by show w.z+1≠w.z;omega)),h.R.other _ _ (by show w.z+1+1≠w.z;omega),oM h.own _ _ (fun e=>by have:=K _ e;simp at this),h.g.setCell nR _,by simpa[az]using h.sz⟩
def q8 (B:Nat)(z:Int)(S:List (Int×BA))(v:Yb)(row:an)(w:World)(e:Ending)(w':World):Prop :=
 ∃D,e=.returned (.agg #[.int .i64 (iP z S v),D])/\w'.ownsRow B 140 2 D (XN z S v).length (Js (XN z S v))/\w.grownBy w' row.ownBlock/\(D.ownBlock=row.ownBlock∨∃g,D.ownBlock=ab g/\w.heap.size<=g)/\∃p c,D=.slice p (XN z S v).length c
theorem Jr1 (z:Int)(S:List (Int×BA))(row:an)(v:Yb)(B:Nat)(w:World)(hl:S.length<=1000)(e6:w.ownsRow B 140 2 row S.length (Js S))(hB:B<=w.heap.size):
 ar prog 143 #[.agg #[.int .i64 z,row],.agg #[.int .i64 v.n,.int .i64 v.who,.int .i64 v.size,.int .i64 v.at_,.string v.text]] w (q8 B z S v row w):=by
 obtain⟨i1,f9,g0,g1,g2⟩:=info_parts vH;obtain⟨p,c,rfl,h8⟩:=nL e6;have g3:∀g,(ak p S.length c).ownBlock=ab g->g<w.heap.size:=fun g hg=>(aq e6 g hg).2
 obtain⟨J,K,xs,D,H⟩:=v;have h9:∃w3,w3=((w.alloc (.cells #[.int .i64 z,.slice p S.length c] 199)).alloc (.cells #[.int .i64 J,.int .i64 K,.int .i64 xs,.int .i64 D,.string H] 142)).alloc (.cells #[.int .i64 0,.slice N 0 0] 199)/\iB w w3 B p S c z xs D H:=by
  obtain⟨w1,d7⟩:=Xb (w.alloc (.cells #[.int .i64 z,.slice p S.length c] 199));obtain⟨w2,d8⟩:=Xb (w1.alloc (.cells #[.int .i64 J,.int .i64 K,.int .i64 xs,.int .i64 D,.string H] 142));obtain⟨w3,b3⟩:=Xb (w2.alloc (.cells #[.int .i64 0,.slice N 0 0] 199));have e1:=QT d7;have e2:w2.heap.size=w.heap.size+1+1:=by rw[d8,<-e1];simp
  have e3:w3.heap.size=w.heap.size+1+1+1:=by rw[b3,<-e2];simp
  have g4:=Zk d7;have g5:=Zk d8;have g6:=Zk b3;have g7:=g5.trans (g6.mono g5.size);have g8:=g4.trans (g7.mono g4.size);have i0:YK w1 w.heap.size (.int .i64 z) (.slice p S.length c):=by
   rw[d7];exact⟨by rw[aa _ _ _ _ rfl];rfl,by rw[aa _ _ _ _ rfl];rfl,ai _ _ _ _ rfl,ai _ _ _ _ rfl⟩
  have hR:YK w3 (w.heap.size+1+1) (.int .i64 0) (.slice N 0 0):=by
   rw[b3];exact⟨by rw[aa _ _ _ _ e2.symm];rfl,by rw[aa _ _ _ _ e2.symm];rfl,ai _ _ _ _ e2.symm,ai _ _ _ _ e2.symm⟩
  have i2:V3 w2 (w.heap.size+1) xs D H:=by
   rw[d8];exact⟨by rw[aa _ _ _ _ e1.symm];rfl,by rw[aa _ _ _ _ e1.symm];rfl,by rw[aa _ _ _ _ e1.symm];rfl⟩
  exact⟨w3,by rw[b3,d8,d7],i0.below g7,i2.below g6,hR,am (row:=N) e6 (QD g8 N) (by cases (ak p S.length c).ownBlock<;>simp),g8,by omega⟩
 obtain⟨w3,b3,g9⟩:=h9;have b2:Hid _:=b3;have a3:Hid _:=g9;have b6:Hid _:=g3;have c8:Hid (∀W U,iB w W B p S c U xs D H->ar prog 145 #[.slice p S.length c,.func (.func 171) #[] #[.pointer (ab (pA (w.heap.size+1) 0))]] W fun e w'=>e=.returned (.bool (S.any fun y=>y.1==D))/\ac W.heap.size W w'):=fun W U Z=>by
  obtain⟨p',c',h0,i3⟩:=nL Z.own;simp at h0;obtain⟨rfl,rfl⟩:=h0;exact vE p S c 171 #[.pointer (ab (pA (w.heap.size+1) 0))] (fun y=>y.1==D) W (by omega) i3 (enters_of func171 (by kernel_rfl) rfl) (fun i hi w1 h1=>Jql (w.heap.size+1) D (Ji S i).1 (Ji S i).2 w1 (Z.V.below h1).c3)
 have b7:Hid (∀W U,iB w W B p S c U xs D H->iP z S ⟨J,K,xs,D,H⟩=U->XN z S ⟨J,K,xs,D,H⟩=S->q8 B z S ⟨J,K,xs,D,H⟩ (.slice p S.length c) w (.returned (.agg #[.int .i64 U,.slice p S.length c])) ((W.setCell (pA (w.heap.size+1+1) 0) (.int .i64 U)).setCell (pA (w.heap.size+1+1) 1) (.slice p S.length c))):=fun W U Z hz hs=>by
  refine⟨.slice p S.length c,by rw[hz],?_,?_,ay rfl,p,c,by rw[hs]⟩
  ·rw[hs];exact oM (oM Z.own _ _ (fun e=>by have:w.heap.size+1+1<w.heap.size:=b6.out _ e;omega)) _ _ (fun e=>by have:w.heap.size+1+1<w.heap.size:=b6.out _ e;omega)
  ·exact pT (pT (QD Z.g _) _ _ (by show w.heap.size<=w.heap.size+1+1;omega)) _ _ (by show w.heap.size<=w.heap.size+1+1;omega)
 have d9:Hid (∀W U v6 O,iB w W B p S c U xs D H->iP z S ⟨J,K,xs,D,H⟩=U->XN z S ⟨J,K,xs,D,H⟩=S++ [(D,H)]->O.ownsRow B 140 2 v6 (S.length+1) (Js S++ [.int .i64 D,.string H])->W.grownBy O (ak p S.length c).ownBlock->(v6.ownBlock=(ak p S.length c).ownBlock∨v6.ownBlock=ab W.heap.size) ->
  (∃p6 c6,v6=.slice p6 (S.length+1) c6)/\YK O w.heap.size (.int .i64 U) (.slice p S.length c)/\YK O (w.heap.size+1+1) (.int .i64 0) (.slice N 0 0)/\q8 B z S ⟨J,K,xs,D,H⟩ (.slice p S.length c) w (.returned (.agg #[.int .i64 U,v6])) (((O.setCell (pA w.heap.size 1) v6).setCell (pA (w.heap.size+1+1) 0) (.int .i64 U)).setCell (pA (w.heap.size+1+1) 1) v6)):=fun W U v6 O Z hz hs hO hg h2=>by
  have h3:(S++ [(D,H)]).length=S.length+1:=by simp
  have h4:O.ownsRow B 140 2 v6 (S++ [(D,H)]).length (Js (S++ [(D,H)])):=by rw[SJ,h3];exact hO
  obtain⟨p6,c6,h5,_⟩:=nL h4;have i4:ab w.heap.size≠(ak p S.length c).ownBlock:=fun e=>by have:=b6.out _ e.symm;omega
  have i5:ab (w.heap.size+1+1)≠(ak p S.length c).ownBlock:=fun e=>by have:=b6.out _ e.symm;omega
  have j2:=Z.sz;have hv:∀q,q=w.heap.size∨q=w.heap.size+1+1->v6.ownBlock≠ab q:=fun q hq e=>by
   rcases h2 with h|h
   ·rw[h]at e;have:=b6.out _ e;omega
   ·rw[h]at e;injection e with e
    omega
  refine⟨⟨p6,c6,by rw[h5,h3]⟩,Z.A.grown hg i4,Z.R.grown hg i5,v6,by rw[hz],?_,?_,?_,p6,c6,by rw[hs];exact h5⟩
  ·rw[hs];exact oM (oM (oM h4 _ _ (hv _ (ay rfl))) _ _ (hv _ (av rfl))) _ _ (hv _ (av rfl))
  ·have i8:w.grownBy O (ak p S.length c).ownBlock:=⟨hg.os.trans Z.g.os,hg.tape.trans Z.g.tape,hg.output.trans Z.g.output,au Z.g.size hg.size,fun k hk i9=>(hg.block k (Nat.lt_of_lt_of_le hk Z.g.size) i9).trans (Z.g.block k hk)⟩;exact pT (pT (pT i8 _ _ nR) _ _ (by show w.heap.size<=w.heap.size+1+1;omega)) _ _ (by show w.heap.size<=w.heap.size+1+1;omega)
  ·rcases h2 with h|h
   ·exact ay h
   ·exact av ⟨_,h,by omega⟩
 have h6:=hB;clear b3 g9 h8 e6 g3 hB;have a0:=a3.out.A.c0;have a1:=a3.out.A.c1;have e0:=a3.out.A.f0;have v2:=a3.out.V.c2;by_cases hS:S=[]
 ·have HZ:Hid (iP z S ⟨J,K,xs,D,H⟩=xs):=by show iP _ _ _=_;unfold iP;rw[if_pos hS]
  have HY:Hid (XN z S ⟨J,K,xs,D,H⟩=S++ [(D,H)]):=by
   show XN _ _ _=_;unfold XN;rw[HZ.out,if_pos ⟨rfl,by rw[hS];rfl⟩]
  have HN:Hid (S.any (fun y=>y.1==D)=F):=by show _=_;rw[hS];rfl
  rw[HN.out]at c8;have e4:(S.length:Int)=0:=by rw[hS];rfl
  have b0:((S.length:Int)==0)=true:=by rw[e4];rfl
  have d0:Hid _:=a3.out.vO b6.out xs;have a7:=c8.out _ _ d0.out;obtain⟨w4,e7⟩:=Xb (w3.setCell (pA w.heap.size 0) (.int .i64 xs));rw[<-e7]at a7 d0;have h7:Hid _:=e7;have d1:=d0.out.A.c1;clear e7 hS e4 HN;go_enter func143,ntmps143;go_wp2_with (first|rw[<-b2.out]|rw[<-h7.out])
  refine a7.mono ?_;rintro e w5 ⟨rfl,a5⟩;have I:=d0.out.below a5;clear a0 a1 e0 v2 d1 a5 a7 c8 a3 d0 b2 h7 b7;have a0:=I.A.c0;have a1:=I.A.c1;have v2:=I.V.c2;have v3:=I.V.c3;have v4:=I.V.c4;obtain⟨O,a8⟩:=Xb (w5.alloc (.cells #[.int .i64 D,.string H] 140));have b4:Hid (iB w O B p S c xs xs D H):=by show iB _ _ _ _ _ _ _ _ _ _;rw[a8];exact I.below (bR.alloc nR _)
  have e8:Hid (∀(j:Nat) (u:an),[aM .i64 D,aP H][j]?=ab u->O.cell? (((pA w5.heap.size 0):aE).add j)=ab u):=fun j u hj=>by
   rw[a8,zf]
   match j,hj with
   |0,hj=>(simp at hj;subst hj;rw[aa _ _ _ _ rfl];rfl)
   |1,hj=>(simp at hj;subst hj;rw[aa _ _ _ _ rfl];rfl)
  have e9:Hid _:=au h6 b4.out.g.size;have f3:Hid _:=a8;have f4:Hid _:=b4.out.own;clear a8 I;go_wp2_with (first|rw[<-f3.out]|(at_builtin;refine EW rfl (.tmp 27) (.tmp 30) 197 rfl B 140 i1 (.agg #[.int .i64 0,.string ⟨#[]⟩]) 2 24 underlying197 f9 g0 g1 g2 rfl (by decide) (.slice p S.length c) S.length (Js S) rfl f4.out (pA w5.heap.size 0) 1 1 [.int .i64 D,.string H] rfl rfl e8.out (fun u hu=>by simp at hu;rcases hu with rfl|rfl<;>rfl) (by unfold aW;omega) (by omega) e9.out (by decide) ?_;intro v7 w7 d2 d3 d4;obtain⟨⟨p7,c7,f5⟩,a6,d5,d6⟩:=d9.out O xs v7 w7 b4.out HZ.out HY.out d2 d3 d4;subst f5;have a9:Hid (q8 B z S ⟨J,K,xs,D,H⟩ (.slice p S.length c) w (.returned (.agg #[.int .i64 xs,.slice p7 (S.length+1) c7])) (((w7.setCell (pA w.heap.size 1) (.slice p7 (S.length+1) c7)).setCell (pA (w.heap.size+1+1) 0) (.int .i64 xs)).setCell (pA (w.heap.size+1+1) 1) (.slice p7 (S.length+1) c7))):=d6;have b5:=a6.eM (.slice p7 (S.length+1) c7);have a4:=d5.other (pA w.heap.size 1) (.slice p7 (S.length+1) c7) (by show w.heap.size+1+1≠w.heap.size;omega);have a2:=(a4.eJ (.int .i64 xs)).eM (.slice p7 (S.length+1) c7);have a0:=a6.c0;have a1:=a6.c1;have j1:=a6.f1;have m0:=b5.c0;have m1:=b5.c1;have r0:=a4.c0;have r1:=a4.c1;have f6:=a4.f0;have f7:=a4.f1;have k0:=a2.c0;have k1:=a2.c1;clear d2 d3 d4 a6 d5 d6 b5 a4 a2))
  exact al (v:=.agg #[.int .i64 xs,.slice p7 (S.length+1) c7]) (by simp[aC,results143,go_sem,k0,k1]) rfl a9.out
 ·have HZ:Hid (iP z S ⟨J,K,xs,D,H⟩=z):=by show iP _ _ _=_;unfold iP;rw[if_neg hS]
  have e4:¬(S.length:Int)=0:=fun h=>hS (List.length_eq_zero_iff.1 (by omega))
  have b0:((S.length:Int)==0)=false:=by rw[beq_eq_false_iff_ne];exact e4
  have a7:=c8.out _ _ a3.out;have b8:Hid (XN z S ⟨J,K,xs,D,H⟩=if xs=z/\S.any (fun y=>y.1==D)=F then S++ [(D,H)]else S):=by show XN _ _ _=_;unfold XN;rw[HZ.out]
  clear hS c8;generalize (S.any fun y=>y.1==D)=th at *;cases th with
  |true =>
   have HY:Hid (XN z S ⟨J,K,xs,D,H⟩=S):=by show XN _ _ _=_;rw[b8.out,if_neg (fun h=>by cases h.2)]
   clear b8 d9;go_enter func143,ntmps143;go_wp2_with (rw[<-b2.out])
   refine a7.mono ?_;rintro e w5 ⟨rfl,a5⟩;have I:=a3.out.below a5;clear a0 a1 e0 v2 a5 a7 a3 b2;have a9:=b7.out w5 z I HZ.out HY.out;have a2:=(I.R.eJ (.int .i64 z)).eM (.slice p S.length c);have a0:=I.A.c0;have a1:=I.A.c1;have r0:=I.R.c0;have r1:=I.R.c1;have f6:=I.R.f0;have f7:=I.R.f1;have k0:=a2.c0;have k1:=a2.c1;have f8:Hid _:=a9;clear I a2 a9 b7;go_wp2;exact al (v:=.agg #[.int .i64 z,.slice p S.length c]) (by simp[aC,results143,go_sem,k0,k1]) rfl f8.out
  |false =>
   by_cases e5:xs=z
   ·have HY:Hid (XN z S ⟨J,K,xs,D,H⟩=S++ [(D,H)]):=by show XN _ _ _=_;rw[b8.out,if_pos ⟨e5,rfl⟩]
    clear b8 b7;subst e5;have b1:=beq_self_eq_true xs;go_enter func143,ntmps143;go_wp2_with (rw[<-b2.out])
    refine a7.mono ?_;rintro e w5 ⟨rfl,a5⟩;have I:=a3.out.below a5;clear a0 a1 e0 v2 a5 a7 a3 b2;have a0:=I.A.c0;have a1:=I.A.c1;have v2:=I.V.c2;have v3:=I.V.c3;have v4:=I.V.c4;obtain⟨O,a8⟩:=Xb (w5.alloc (.cells #[.int .i64 D,.string H] 140));have b4:Hid (iB w O B p S c xs xs D H):=by show iB _ _ _ _ _ _ _ _ _ _;rw[a8];exact I.below (bR.alloc nR _)
    have e8:Hid (∀(j:Nat) (u:an),[aM .i64 D,aP H][j]?=ab u->O.cell? (((pA w5.heap.size 0):aE).add j)=ab u):=fun j u hj=>by
     rw[a8,zf]
     match j,hj with
     |0,hj=>(simp at hj;subst hj;rw[aa _ _ _ _ rfl];rfl)
     |1,hj=>(simp at hj;subst hj;rw[aa _ _ _ _ rfl];rfl)
    have e9:Hid _:=au h6 b4.out.g.size;have f3:Hid _:=a8;have f4:Hid _:=b4.out.own;clear a8 I;go_wp2_with (first|rw[<-f3.out]|(at_builtin;refine EW rfl (.tmp 27) (.tmp 30) 197 rfl B 140 i1 (.agg #[.int .i64 0,.string ⟨#[]⟩]) 2 24 underlying197 f9 g0 g1 g2 rfl (by decide) (.slice p S.length c) S.length (Js S) rfl f4.out (pA w5.heap.size 0) 1 1 [.int .i64 D,.string H] rfl rfl e8.out (fun u hu=>by simp at hu;rcases hu with rfl|rfl<;>rfl) (by unfold aW;omega) (by omega) e9.out (by decide) ?_;intro v7 w7 d2 d3 d4;obtain⟨⟨p7,c7,f5⟩,a6,d5,d6⟩:=d9.out O xs v7 w7 b4.out HZ.out HY.out d2 d3 d4;subst f5;have a9:Hid (q8 B xs S ⟨J,K,xs,D,H⟩ (.slice p S.length c) w (.returned (.agg #[.int .i64 xs,.slice p7 (S.length+1) c7])) (((w7.setCell (pA w.heap.size 1) (.slice p7 (S.length+1) c7)).setCell (pA (w.heap.size+1+1) 0) (.int .i64 xs)).setCell (pA (w.heap.size+1+1) 1) (.slice p7 (S.length+1) c7))):=d6;have b5:=a6.eM (.slice p7 (S.length+1) c7);have a4:=d5.other (pA w.heap.size 1) (.slice p7 (S.length+1) c7) (by show w.heap.size+1+1≠w.heap.size;omega);have a2:=(a4.eJ (.int .i64 xs)).eM (.slice p7 (S.length+1) c7);have a0:=a6.c0;have a1:=a6.c1;have j1:=a6.f1;have m0:=b5.c0;have m1:=b5.c1;have r0:=a4.c0;have r1:=a4.c1;have f6:=a4.f0;have f7:=a4.f1;have k0:=a2.c0;have k1:=a2.c1;clear d2 d3 d4 a6 d5 d6 b5 a4 a2))
    exact al (v:=.agg #[.int .i64 xs,.slice p7 (S.length+1) c7]) (by simp[aC,results143,go_sem,k0,k1]) rfl a9.out
   ·have HY:Hid (XN z S ⟨J,K,xs,D,H⟩=S):=by show XN _ _ _=_;rw[b8.out,if_neg (fun h=>e5 h.1)]
    have b1:(xs==z)=false:=by rw[beq_eq_false_iff_ne];exact e5
    clear b8 d9;go_enter func143,ntmps143;go_wp2_with (rw[<-b2.out])
    refine a7.mono ?_;rintro e w5 ⟨rfl,a5⟩;have I:=a3.out.below a5;clear a0 a1 e0 v2 a5 a7 a3 b2;have a9:=b7.out w5 z I HZ.out HY.out;have a2:=(I.R.eJ (.int .i64 z)).eM (.slice p S.length c);have a0:=I.A.c0;have a1:=I.A.c1;have v2:=I.V.c2;have r0:=I.R.c0;have r1:=I.R.c1;have f6:=I.R.f0;have f7:=I.R.f1;have k0:=a2.c0;have k1:=a2.c1;have f8:Hid _:=a9;clear I a2 a9 b7;go_wp2;exact al (v:=.agg #[.int .i64 z,.slice p S.length c]) (by simp[aC,results143,go_sem,k0,k1]) rfl f8.out
theorem JqV (a b:Int):YM a b=k9 a b:=by
 unfold YM k9;by_cases B:0<=a<;>by_cases D:a<=1099511627776<;>by_cases H:0<=b<;>by_cases I:b<=1099511627776<;>simp[B,D,H,I]
theorem T8 (n k:Nat)(v:Yb):YO n k v=(YM v.n v.who&&gS n k v.size v.at_ v.text):=by
 rw[JqV];rfl
theorem JhR {j:Nat}(h:j<L.length):L.take (j+1)=L.take j++ [Xd L j]:=by rw[List.take_add_one,Xx h];rfl
def ZN (w:World)(B b n k:Nat)(L:List Yb):Prop:=∃D row blk,Y1 w B b n k L D row blk
theorem ZN.below (h:ZN w B b n k L)(H:ac w.heap.size w w'):ZN w' B b n k L:=by
 obtain⟨D,row,blk,h⟩:=h;exact⟨D,row,blk,h.below H⟩
theorem ZN.pass (h:ZN w B b n k L)(H:YO n k v=F):ZN w B b n k (L++ [v]):=by
 obtain⟨D,row,blk,h⟩:=h;exact⟨D,row,blk,h.pass H⟩
theorem ZN.step (h:ZN w B b n k L)(hc:YO n k v=aj)(K:Jr (v.n,v.who))(hl:L.length<=1000):
 ∃(I:an) (sz:Int),(∀W,ac w.heap.size w W->(ao 195 (.map (ab b)) (.agg #[.int .i64 v.n,.int .i64 v.who]) F).run prog W=.ok (.agg #[.int .i64 sz,I]) W)/\(∀g,I.ownBlock=ab g->g<w.heap.size) /\
  ∀W,ac w.heap.size w W->ar prog 143 #[.agg #[.int .i64 sz,I],.agg #[.int .i64 v.n,.int .i64 v.who,.int .i64 v.size,.int .i64 v.at_,.string v.text]] W fun e O=>∃rv H,e=.returned rv/\W.grownBy O I.ownBlock/\(aF 195 (.map (ab b)) (.agg #[.int .i64 v.n,.int .i64 v.who]) rv).run prog O=.ok () H/\ac B W H/\ZN H B b n k (L++ [v]):=by
 obtain⟨D,row,blk,h⟩:=h;have a0:=xU (n:=n) (k:=k) (t:=(v.n,v.who)) L L.length;rw[ap]at a0;have a2:=Jqm (BR (n:=n) (k:=k) (t:=(v.n,v.who)) L) (v:=v) (⟨rfl,rfl,hc⟩:v.n=((v.n,v.who):Int×Int).1/\v.who=((v.n,v.who):Int×Int).2/\YO n k v=aj);refine⟨row (v.n,v.who),kH (Zf n k (v.n,v.who) L),fun W U=>(h.below U).look K,fun g J=>(aq (h.own _ K) g J).2,fun W U=>?_⟩;have Z:=h.below U;have hB:=au h.aO (Nat.le_of_lt Z.lt);refine(Jr1 (kH (Zf n k (v.n,v.who) L)) (Zf n k (v.n,v.who) L).2 (row (v.n,v.who)) v B W (by omega) (Z.own _ K) hB).mono ?_;rintro e O ⟨a6,rfl,hO,J,a3,hf⟩;obtain⟨H,a4,a5,D',r',b',hT⟩:=Z.put hc K hB a2.symm J hO a3 hf (by omega);exact⟨_,H,rfl,J,a4,a5,D',r',b',hT⟩
theorem Jo9 (n k:Nat)(p0:Option aE)(l0 c0:Nat)(p:Option aE)(LL:List (List Yb))(cap:Nat)(w:World)(n4:1<=k)(n5:k<=n)(hn:n<=12)(hl:LL.length<=1000)(o2:LL.flatten.length<=1000)(hL:eU w p LL)(i4:∀v∈LL.flatten,Jr (v.n,v.who)):
 ar prog 119 #[.agg #[.int .i64 (n:Int),.int .i64 (k:Int),.slice p0 l0 c0],.slice p LL.length cap] w fun e w'=>(∃b,e=.returned (.map (ab b))/\ZN w' (w.heap.size+1) b n k LL.flatten)/\ac w.heap.size w w':=by
 obtain⟨B,a7⟩:=Xb (w.alloc (.cells #[.int .i64 (n:Int),.int .i64 (k:Int),.slice p0 l0 c0] 49));have e0:B.z=w.z+1:=by rw[a7];simp
 have b4:=Zk a7;have f0:B.cell? (pA w.z 0)=ab (.int .i64 (n:Int)):=XX a7 rfl;have f1:B.cell? (pA w.z 1)=ab (.int .i64 (k:Int)):=XX a7 rfl;obtain⟨w1,b5⟩:=Xb (B.alloc (.map #[] 0));have e1:Hid (ZN w1 B.z B.z n k []):=by show ZN _ _ _ _ _ _;rw[b5];exact⟨_,_,_,Jb6 B n k⟩
 have e8:=Zk b5;have e9:Hid (ac B.z B w1):=e8;have i5:Hid (B=w.alloc (.cells #[.int .i64 (n:Int),.int .i64 (k:Int),.slice p0 l0 c0] 49)):=a7;have b6:Hid (∀W,ac B.z B W->W.cell? (pA w.z 0)=ab (.int .i64 (n:Int))/\W.cell? (pA w.z 1)=ab (.int .i64 (k:Int))/\eU W p LL/\ac w.z w W):=fun W J=>by
  have a3:w.z<B.z:=by omega
  exact⟨(J.cell (p:=(pA w.z 0)) a3).trans f0,(J.cell (p:=(pA w.z 1)) a3).trans f1,(hL.below b4).below J,b4.trans (J.mono b4.size)⟩
 have n6:Hid (B.z=w.z+1):=e0;have f3:Hid (∀v∈LL.flatten,Jr (v.n,v.who)):=i4;have f4:Hid (∀i,i<LL.length->(LL.take (i+1)).flatten=(LL.take i).flatten++LL.getD i []):=fun i hi=>JfJ hi
 have f5:Hid (∀i,(LL.take i).flatten.length<=LL.flatten.length):=fun i=>OG LL i
 have f6:Hid (LL.take LL.length=LL):=ap;rw[<-e0];obtain⟨b,hb⟩:=Xb B.z;have f7:Hid (b=B.z):=hb;have i8:(Instr.makeMap 195 N).run prog B=.ok (.map (ab b)) w1:=by rw[hb,b5];kernel_rfl
 rw[<-hb]at e1;have n7:Hid (w.z+1=b):=by show _=_;rw[hb,e0]
 clear a7 b5 b4 e8 f0 f1 e0 hL i4 hb;go_enter func119,ntmps119;go_wp2_with (rw[<-i5.out])
 clear i8;go_loopw [13] (fun x wr=>∃i:Nat,i<=LL.length/\x=.int .i64 i/\ZN wr b b n k (LL.take i).flatten/\ac B.z B wr) (fun x _=>LL.length-(intOf x).toNat)
 case atStart=>exact⟨0,aR _,rfl,e1.out,e9.out⟩
 case round =>
  obtain⟨i,hi,rfl,hT,hB⟩:=hrel;obtain⟨w2,rfl⟩:=Xb wr;have b7:Hid (ZN w2 b b n k (LL.take i).flatten):=hT;have e2:Hid (ac B.z B w2):=hB;clear hT hB e1 e9;by_cases a8:i<LL.length
  ·have f8:Hid ((LL.take (i+1)).flatten=(LL.take i).flatten++LL.getD i []):=f4.out i a8;have n8:(LL.take i).flatten.length+(LL.getD i []).length<=1000:=by
    have h1:=f5.out (i+1);rw[f8.out,za]at h1;omega
   have i9:Hid (∀v∈LL.getD i [],Jr (v.n,v.who)):=fun v hv=>f3.out v (by
    rw[<-f6.out];rw[List.getD_eq_getElem?_getD,List.getElem?_eq_getElem a8]at hv;rw[ap];exact List.mem_flatten.2 ⟨_,List.getElem_mem a8,hv⟩)
   rcases(b6.out B bR).2.2.1 with h0|⟨bl,ol,e3,j1,f9⟩
   ·rw[h0]at a8;simp at a8
   obtain⟨q,cq,g2,g3,n9,j2⟩:=f9 i a8;have k5:Hid (∀W,ac B.z B W->Ql Ze W q (LL.getD i [])):=fun W J=>g3.below J
   have k6:w2.cell? (pA bl (ol+i))=ab (.slice q (LL.getD i []).length cq):=(e2.out.cell (p:=(pA bl (ol+i))) j1).trans g2;subst e3;clear f9 g3 j2 g2 f4 f5 f3;generalize LL.getD i []=D at *;generalize (LL.take i).flatten=a0 at *;go_wp2;go_loopw [19] (fun x wr=>∃j:Nat,j<=D.length/\x=.int .i64 j/\ZN wr b b n k (a0++D.take j)/\ac B.z B wr) (fun x _=>D.length-(intOf x).toNat)
   case atStart=>exact⟨0,aR _,rfl,by rw[List.take_zero,List.append_nil];exact b7.out,e2.out⟩
   case round =>
    obtain⟨j,hj,rfl,hT,hB⟩:=hrel;have hR:=k5.out wr hB;obtain⟨H,rfl⟩:=Xb wr;have b8:Hid (ZN H b b n k (a0++D.take j)):=hT;have c8:Hid (ac B.z B H):=hB;have g4:Hid (Ql Ze H q D):=hR;clear hT hB hR b7 k6;by_cases e4:j<D.length
    ·have g5:Hid (D.take (j+1)=D.take j++ [Xd D j]):=JhR e4;have g6:Jr ((Xd D j).n,(Xd D j).who):=i9.out _ (by have:=Xx e4;exact List.mem_of_getElem? this);obtain⟨b',o',e3,o1,d0,d1,d2,d3,d4⟩:=QU g4.out e4;subst e3;have k7:(a0++D.take j).length<=1000:=by rw[za,List.length_take];omega
     have a4:Hid (YO n k (Xd D j)=(YM (Xd D j).n (Xd D j).who&&gS n k (Xd D j).size (Xd D j).at_ (Xd D j).text)):=T8 n k _;have e5:Hid (Jr ((Xd D j).n,(Xd D j).who)):=g6;have e6:Hid (∀W,ZN W b b n k ((a0++D.take j)++ [Xd D j])->ZN W b b n k (a0++D.take (j+1))):=fun W h=>by rw[g5.out,<-List.append_assoc];exact h
     clear g6 g5;generalize Xd D j=x at *;generalize a0++D.take j=done at *;obtain⟨K,O,xs,U,Z⟩:=x;dsimp only at d0 d1 d2 d3 d4 a4 e5;obtain⟨I,d5⟩:=Xb (H.alloc (.cells #[.int .i64 K,.int .i64 O,.int .i64 xs,.int .i64 U,.string Z] 142));have a5:=Zk d5;have a6:Hid (I.cell? (pA H.z 0)=ab (.int .i64 K)/\I.cell? (pA H.z 1)=ab (.int .i64 O)/\I.cell? (pA H.z 2)=ab (.int .i64 xs)/\I.cell? (pA H.z 3)=ab (.int .i64 U)/\I.cell? (pA H.z 4)=ab (.string Z)):=by
      rw[d5];exact⟨by rw[aa _ _ _ _ rfl];rfl,by rw[aa _ _ _ _ rfl];rfl,by rw[aa _ _ _ _ rfl];rfl,by rw[aa _ _ _ _ rfl];rfl,by rw[aa _ _ _ _ rfl];rfl⟩
     have g7:Hid (I=H.alloc (.cells #[.int .i64 K,.int .i64 O,.int .i64 xs,.int .i64 U,.string Z] 142)):=d5;have g8:Hid (ac B.z B I):=c8.out.trans (a5.mono c8.out.size);have g9:Hid (ZN I b b n k done):=b8.out.below a5;have d6:Hid (YO n k ⟨K,O,xs,U,Z⟩=aj->∃(rt:an) (sz:Int),(∀W,ac I.z I W->(ao 195 (.map (ab b)) (.agg #[.int .i64 K,.int .i64 O]) F).run prog W=.ok (.agg #[.int .i64 sz,rt]) W)/\(∀g,rt.ownBlock=ab g->g<H.z)/\∀W,ac I.z I W->ar prog 143 #[.agg #[.int .i64 sz,rt],.agg #[.int .i64 K,.int .i64 O,.int .i64 xs,.int .i64 U,.string Z]] W fun e w7=>∃rv w8,e=.returned rv/\W.grownBy w7 rt.ownBlock/\(aF 195 (.map (ab b)) (.agg #[.int .i64 K,.int .i64 O]) rv).run prog w7=.ok () w8/\ac b W w8/\ZN w8 b b n k (done++ [⟨K,O,xs,U,Z⟩])):=fun hc=>by
      obtain⟨rt,sz,h1,h2,h3⟩:=b8.out.step hc e5.out k7;exact⟨rt,sz,fun W J=>h1 W (a5.trans (J.mono a5.size)),h2,fun W J=>h3 W (a5.trans (J.mono a5.size))⟩
     have d7:Hid (∀W,ar prog 104 #[.agg #[.int .i64 K,.int .i64 O]] W fun e w'=>e=.returned (.bool (YM K O))/\ac W.z W w'):=fun W=>wI K O W
     have b1:Hid (∀W,ar prog 142 #[.int .i64 (n:Int),.int .i64 (k:Int),.int .i64 xs,.agg #[.int .i64 U,.string Z]] W fun e w'=>e=.returned (.bool (gS n k xs U Z))/\ac W.z W w'):=fun W=>Ja5 n k xs U Z W n4 n5 hn
     have a2:Hid (∀W,ac I.z I W->((W.cell? (pA w.z 0)=ab (.int .i64 (n:Int))/\W.cell? (pA w.z 1)=ab (.int .i64 (k:Int)))/\(W.cell? (pA H.z 0)=ab (.int .i64 K)/\W.cell? (pA H.z 1)=ab (.int .i64 O)/\W.cell? (pA H.z 2)=ab (.int .i64 xs)/\W.cell? (pA H.z 3)=ab (.int .i64 U)/\W.cell? (pA H.z 4)=ab (.string Z)))/\ZN W b b n k done/\ac B.z B W):=fun W J=>by
      have a3:=Qf a6.out.1;have h0:ac B.z B W:=g8.out.trans (J.mono g8.out.size);exact⟨⟨⟨(b6.out W h0).1,(b6.out W h0).2.1⟩,(J.cell (p:=(pA H.z 0)) a3).trans a6.out.1,(J.cell (p:=(pA H.z 1)) a3).trans a6.out.2.1,(J.cell (p:=(pA H.z 2)) a3).trans a6.out.2.2.1,(J.cell (p:=(pA H.z 3)) a3).trans a6.out.2.2.2.1,(J.cell (p:=(pA H.z 4)) a3).trans a6.out.2.2.2.2⟩,g9.out.below J,h0⟩
     obtain⟨⟨⟨g0,g1⟩,k0,k1,k2,k3,k4⟩,_⟩:=a2.out I bR;clear d5 a5 c8 b8 g4 a6 g9 e5;generalize YM K O=tg at *;generalize gS n k xs U Z=ft at *;cases tg with
     |false =>
      have HC:Hid (YO n k ⟨K,O,xs,U,Z⟩=F):=a4.out;clear a4 b1 d6;go_wp2_with (rw[<-g7.out])
      refine(d7.out _).mono ?_;rintro e w5 ⟨rfl,a9⟩;obtain⟨_,h5,h6⟩:=a2.out w5 a9;have l7:Hid (ZN w5 b b n k (a0++D.take (j+1))):=e6.out w5 (h5.pass HC.out);have l9:Hid (ac B.z B w5):=h6;clear h5 h6 a9 d7 a2;go_wp2;go_roundw
      case rel=>exact⟨j+1,by omega,by go_num,l7.out,l9.out⟩
      case measure=>simp[intOf];omega
     |true =>
      go_wp2_with (rw[<-g7.out])
      refine(d7.out _).mono ?_;rintro e w5 ⟨rfl,a9⟩;have b2:Hid (ac I.z I w5):=a9;clear g0 g1 k0 k1 k2 k3 k4;obtain⟨⟨⟨g0,g1⟩,k0,k1,k2,k3,k4⟩,_⟩:=a2.out w5 a9;clear a9 d7 d0 d1 d2 d3 d4;cases ft with
      |false =>
       have HC:Hid (YO n k ⟨K,O,xs,U,Z⟩=F):=a4.out;clear a4 d6;go_wp2_with fail
       refine(b1.out _).mono ?_;rintro e w6 ⟨rfl,b3⟩;obtain⟨_,d8,d9⟩:=a2.out w6 (b2.out.trans (b3.mono b2.out.size));have m0:Hid (ZN w6 b b n k (a0++D.take (j+1))):=e6.out w6 (d8.pass HC.out);have m4:Hid (ac B.z B w6):=d9;clear d8 d9 b3 b1 a2;go_wp2;go_roundw
       case rel=>exact⟨j+1,by omega,by go_num,m0.out,m4.out⟩
       case measure=>simp[intOf];omega
      |true =>
       have HC:Hid (YO n k ⟨K,O,xs,U,Z⟩=aj):=a4.out;clear a4;go_wp2_with fail
       refine(b1.out _).mono ?_;rintro e w6 ⟨rfl,b3⟩;have b0:ac I.z I w6:=b2.out.trans (b3.mono b2.out.size);clear g0 g1 k0 k1 k2 k3 k4;obtain⟨⟨⟨g0,g1⟩,k0,k1,k2,k3,k4⟩,d8,d9⟩:=a2.out w6 b0;obtain⟨rt,sz,e7,h7,h8⟩:=d6.out HC.out;have m5:Hid (∀W,ac w6.z w6 W->ar prog 143 #[.agg #[.int .i64 sz,rt],.agg #[.int .i64 K,.int .i64 O,.int .i64 xs,.int .i64 U,.string Z]] W fun e w7=>∃rv w8,e=.returned rv/\(w7.cell? (pA H.z 0)=ab (.int .i64 K)/\w7.cell? (pA H.z 1)=ab (.int .i64 O))/\(aF 195 (.map (ab b)) (.agg #[.int .i64 K,.int .i64 O]) rv).run prog w7=.ok () w8/\ac B.z B w8/\ZN w8 b b n k (a0++D.take (j+1))):=fun W J=>by
        have h4:ac I.z I W:=b0.trans (J.mono b0.size);refine(h8 W h4).mono ?_;rintro e w7 ⟨rv,w8,rfl,hg,h9,i0,m6⟩;obtain⟨⟨_,q0,q1,_⟩,_,m7⟩:=a2.out W h4;have m8:ab H.z≠rt.ownBlock:=fun e=>by have:=h7 _ e.symm;omega
        have i1:=hg.block H.z (Qf q0) m8;refine⟨rv,w8,rfl,⟨(ae (a:=(pA H.z 0)) i1).trans q0,(ae (a:=(pA H.z 1)) i1).trans q1⟩,h9,?_,e6.out w8 m6⟩;rw[f7.out]at i0;exact m7.trans i0
       have l1:=e7 w6 b0;have l2:=e7 w6.drew b0.drew;clear d8 d9 b3 b0 b1 a2 e7 h8 h7 d6 b2;go_wp2;go_region_with (go_at_call 143;refine(m5.out _ (by first|exact bR.drew|exact Below.refl _ _)).mono ?_;rintro e w7 ⟨rv,w8,rfl,⟨n0,n1⟩,h9,m9,n2⟩)
       all_goals (go_wp2;go_roundw)
       all_goals (first|exact⟨j+1,by omega,by go_num,n2,m9⟩|(simp[intOf];omega))
    ·have i2:D.take j=D:=List.take_of_length_le (by omega);have n3:Hid ((LL.take (i+1)).flatten=a0++D.take j):=by show _=_;rw[f8.out,i2]
     clear i2;go_wp2;go_roundw
     case rel=>exact⟨i+1,by omega,by go_num,by rw[n3.out];exact b8.out,c8.out⟩
     case measure=>simp[intOf];omega
  ·have i3:i=LL.length:=by omega
   have HF:Hid ((LL.take i).flatten=LL.flatten):=by show _=_;rw[i3,f6.out]
   rw[HF.out]at b7;clear i3;go_wp2;go_ret;exact⟨⟨_,rfl,by rw[<-f7.out];exact b7.out⟩,(b6.out w2 e2.out).2.2.2⟩
theorem Jd.setInt {ad:Nat->aE}{I:an}{c at_:Int}{z:Int}(h:Jd w ad I c at_)(Z:w.cell? ⟨b,1,N⟩=ab (aM .i64 z))(i:Nat)(v:an):Jd (w.setCell ⟨b,i,N⟩ v) ad I c at_:=by
 rcases h with h|h|⟨k,D,J,K,O,U,B⟩
 ·exact ay h
 ·exact av (ay h)
 ·have H:D≠b:=fun e=>by
   subst e;rw[Z]at B;cases B
  exact av (av ⟨k,D,J,K,O,(af _ _ _ _ (fun e=>H (congrArg ax e).symm)).trans U,(af _ _ _ _ (fun e=>H (congrArg ax e).symm)).trans B⟩)
structure IK (w:World) (l:List BA) (p:Option aE) (cap:Nat):Prop where
 strs:Strs w p l
 room:l.length<=cap
 empty:p=N->l=[]/\cap=0
 len:l.length<=aW
 size:∀x∈l,x.size<=aW
section
open Go.Sort
theorem OA (w:World)(n:Nat)(os:Array Obj):ac w.heap.size w (grow (w.drewN n) os):=⟨rfl,rfl,rfl,by show w.heap.size<=(w.heap++os).size;rw[Array.size_append];omega,fun _ B=>heap_grow_old (w.drewN n) os B⟩
theorem JbT (a b:Int×Int)(w:World):ar prog 120 #[.agg #[.int .i64 a.1,.int .i64 a.2],.agg #[.int .i64 b.1,.int .i64 b.2]] w fun e w'=>e=.returned (.bool (Qd a b))/\ac w.heap.size w w':=(PG a b w).mono fun e w' ⟨B,q,os,D⟩=>⟨B,by rw[D];exact OA w q os⟩
structure JV (n k:Nat) (L:List Yb) (left:Lit->Bool) (t:Int×Int) (found:Bool):Prop where
 no:found=F->t=(0,0)/\∀u,Jr u->left (YD u)=F->¬Xp n k L u
 yes:found=aj->Jr t/\Xp n k L t/\∀u,Jr u->left (YD u)=F->Xp n k L u->Qd t u=F
theorem N2 (D:1<=k)(H:∀v∈L,Jr (v.n,v.who))(h:Xp n k L u):Jr u:=by
 obtain⟨v,B,e⟩:=nZ D h;rw[<-e];exact H v B
theorem BN (B:1<=k)(h:Xp n k L u):(Zf n k u L).2≠[]:=fun e=>by
 unfold Xp at h;rw[e]at h;simp at h;omega
theorem OQ (K:1<=k)(h:Y1 w B b n k L D row blk):JV n k L (aw D) (0,0) false :=
 ⟨fun _=>⟨rfl,fun u I H J=>by
  rw[h.has u I]at H;exact of_decide_eq_false H (BN K J)⟩,fun e=>by cases e⟩
theorem wF (H:Jr t)(I:Jr u)(h:(left (YD u)&&!(YD u).sameKey (YD t))=F):left (YD u)=F∨u=t:=by
 cases D:left (YD u)with
 |false=>exact ay rfl
 |true =>
  rw[D]at h;right;have B:(YD u).sameKey (YD t)=true:=by
   cases B:(YD u).sameKey (YD t)with
   |true=>rfl
   |false=>rw[B]at h;cases h
  exact xX I H (WideAt.sameKey_eq B)
theorem UO (h:JV n k L left t found)(K:Jr u)(O:¬Xp n k L u∨found=aj/\Qd t u=F):JV n k L (fun z=>left z&&!z.sameKey (YD u)) t found:=by
 refine⟨fun e=>⟨(h.no e).1,fun x H J I=>?_⟩,fun e=>⟨(h.yes e).1,(h.yes e).2.1,fun x H J I=>?_⟩⟩
 ·rcases wF K H J with D|D
  ·exact(h.no e).2 x H D I
  ·subst D;rcases O with B|B
   ·exact B I
   ·rw[e]at B;cases B.1
 ·rcases wF K H J with D|D
  ·exact(h.yes e).2.2 x H D I
  ·subst D;rcases O with B|B
   ·exact absurd I B
   ·exact B.2
theorem RH (h:JV n k L left t found)(K:Jr u)(Z:Xp n k L u)(hp:found=aj->Qd t u=aj):JV n k L (fun z=>left z&&!z.sameKey (YD u)) u true:=by
 refine⟨fun e=>(by cases e),fun _=>⟨K,Z,fun x D O I=>?_⟩⟩;rcases wF K D O with B|B
 ·cases H:found with
  |false=>exact absurd I ((h.no H).2 x D B)
  |true =>
   have J:=(h.yes H).2.2 x D B I;cases U:Qd u x with
   |false=>rfl
   |true=>rw[yQ (hp H) U]at J;cases J
 ·subst B;simp[Qd]
theorem P8 (H:1<=k)(I:∀v∈L,Jr (v.n,v.who))(h:JV n k L left t found)(J:∀z,left z=F):Ys n k L L=(t,if found then mP n k L t else⟨#[]⟩,found):=by
 cases found with
 |false =>
  obtain⟨rfl,B⟩:=h.no rfl;rw[GP (fun v K=>B _ (I v K) (J _))];rfl
 |true =>
  obtain⟨_,O,B⟩:=h.yes rfl;rw[IS H O (fun u D=>B u (N2 H I D) (J _) D)];rfl
theorem Y1.entry (h:Y1 w B b n k L D row blk)(a2:∀z,left z=aj->aw D z=aj){x:Int×Int}{c:Int×Option aE×Nat×Nat}{kl:Lit}{y:DataW an×List MemPlace}(a3:keyOf prog 39 (iO x)=ab kl)(a4:left kl=aj)(U:YR (X7 c)=ab y)(a5:∀zd,D.atKey kl zd=y.1):
 Jr x/\kl=YD x/\c.2.2.1=(Zf n k x L).2.length:=by
 obtain⟨t,H,rfl,I⟩:=CC a3;have Z:x=t:=by
  unfold iO at H;simp at H;exact Prod.ext H.1 H.2
 subst Z;have O:=a2 _ a4;rw[h.has x I]at O;have a0:=of_decide_eq_true O;have K:=h.at_ x I a0 (.held (X7 c));rw[a5]at K;have e2:y=(.held (X7 c),[]):=by rw[zY]at U;exact(Option.some.inj U).symm
 rw[e2]at K;have J:X7 c=.agg #[.int .i64 (Zf n k x L).1,row x]:=by injection K
 obtain⟨p,cp,hr,_⟩:=nL (h.own x I);rw[hr]at J;unfold X7 at J;simp at J;exact⟨I,rfl,J.2.2.1⟩
theorem ZL (h:w.ranges prog 39 YR b r n D left B):r<w.heap.size/\b<w.heap.size:=⟨bo h,World.ownsMap.lt (ba h)⟩
structure fL (W:World) (a:Nat) (n k:Nat) (lv:an) (t:Int×Int) (B b:Nat) (L:List Yb) (D:DataW an) (row:Int×Int->an) (blk:Int×Int->Nat):Prop where
 c0:W.cell? ⟨a,0,N⟩=ab (.int .i64 (n:Int))
 c1:W.cell? ⟨a,1,N⟩=ab (.int .i64 (k:Int))
 T:YK W (a+1) (.int .i64 t.1) (.int .i64 t.2)
 dX:Y1 W B b n k L D row blk
 hB:a+1+1<=B
theorem fL.below {I:World}(h:fL W a n k lv t B b L D row blk)(H:ac W.heap.size W I):fL I a n k lv t B b L D row blk :=
 ⟨(H.cell (p:=(pA a 0)) (Qf h.c0)).trans h.c0,(H.cell (p:=(pA a 1)) (Qf h.c0)).trans h.c1,h.T.below H,h.dX.below H,h.hB⟩
theorem fL.set (h:fL W a n k lv t B b L D row blk)(u:Int×Int):fL ((W.setCell ⟨a+1,0,N⟩ (.int .i64 u.1)).setCell ⟨a+1,1,N⟩ (.int .i64 u.2)) a n k lv u B b L D row blk:=by
 have H:W.grownBy ((W.setCell (pA (a+1) 0) (.int .i64 u.1)).setCell (pA (a+1) 1) (.int .i64 u.2)) (ab (a+1)):=⟨rfl,rfl,rfl,by simp[az],fun j _ O=>by
  have I:j≠a+1:=fun e=>O (by rw[e])
  rw[ah _ _ _ _ I,ah _ _ _ _ I]⟩
 have J:=H.block a (Qf h.c0) (by simp);have a0:=h.hB;refine⟨(ae (a:=(pA a 0)) J).trans h.c0,(ae (a:=(pA a 1)) J).trans h.c1,(h.T.eJ _).eM _,?_,h.hB⟩;obtain⟨m,U,Z⟩:=h.dX.map;have a2:=h.dX.aO;refine⟨⟨m,U,World.ownsMap.kept Z H (by simp;omega)⟩,h.dX.aO,h.dX.has,h.dX.at_,fun t K=>am (h.dX.own t K) H ?_,h.dX.eB,h.dX.eA,h.dX.apart⟩;cases hv:(row t).ownBlock with
 |none=>exact ay rfl
 |some g =>
  refine av fun e=>?_
  injection e with e
  have:=(aq (h.dX.own t K) g hv).1;omega
theorem fL.grown {K:World}(h:fL W a n k lv t B b L D row blk)(H:W.grownBy K (ab r))(h1:a+1<r)(h2:b<r)(h3:∀t,Jr t->∀g,(row t).ownBlock=ab g->g<r):fL K a n k lv t B b L D row blk:=by
 have I:=H.block a (Qf h.c0) (by simp;omega);obtain⟨m,O,U⟩:=h.dX.map;refine⟨(ae (a:=(pA a 0)) I).trans h.c0,(ae (a:=(pA a 1)) I).trans h.c1,h.T.grown H (by simp;omega),⟨⟨m,O,World.ownsMap.kept U H (by simp;omega)⟩,h.dX.aO,h.dX.has,h.dX.at_,fun t J=>am (h.dX.own t J) H ?_,h.dX.eB,h.dX.eA,h.dX.apart⟩,h.hB⟩;cases Z:(row t).ownBlock with
 |none=>exact ay rfl
 |some g =>
  refine av fun e=>?_
  injection e with e
  have:=h3 t J g Z;omega
theorem L7 (h:Jt v):Jr (v.n,v.who):=⟨h.1,h.2.1⟩
theorem U4 (ad:Nat->aE)(c:Xg)(p:Option aE)(cap:Nat)(LL:List (List Yb))(pl:Option aE)(cl:Nat)(w:World)(hc:Yn w c p cap)(hL:eU w pl LL)(u0:LL.length<=1000)(u1:LL.flatten.length<=1000)(r8:∀v∈LL.flatten,Jt v)(hE:Zp w ad)(z:aE)(hZ:w.cell? ⟨9,0,N⟩=ab (.iface 287 (.pointer (ab z)))):
 ar prog 91 #[iE c (.slice p c.L.length cap),.slice pl LL.length cl] w fun e w'=>(∃ev,e=.returned (.tuple #[.agg #[.int .i64 (jB c LL).1.1,.int .i64 (jB c LL).1.2],.string (jB c LL).2.1,.bool (jB c LL).2.2,ev])/\Jd w' ad ev (jH c LL).1 (jH c LL).2)/\ac w.heap.size w w':=by
 obtain⟨w0,e6⟩:=Xb (w.alloc (.cells #[.int .i64 c.n,.int .i64 c.k,.slice p c.L.length cap] 49));obtain⟨w1,e7⟩:=Xb (w0.alloc (.cells #[.int .i64 0,.int .i64 0] 39));have e0:=QT e6;have e1:w1.heap.size=w.heap.size+1+1:=by rw[e7,<-e0];simp
 have i3:=Zk e6;have i4:=Zk e7;have b5:ac w.heap.size w w1:=i3.trans (i4.mono i3.size);have m8:k8 w0 w.heap.size c (.slice p c.L.length cap):=by rw[e6];exact AA w c _ _
 have e8:=m8.below i4;have m9:YK w1 (w.heap.size+1) (.int .i64 0) (.int .i64 0):=by
  rw[e7];exact⟨by rw[aa _ _ _ _ e0.symm];rfl,by rw[aa _ _ _ _ e0.symm];rfl,ai _ _ _ _ e0.symm,ai _ _ _ _ e0.symm⟩
 have b0:=qU ad c p cap w1 (hc.below b5) (hE.below b5);have g8:Hid (w1=(w.alloc (.cells #[.int .i64 c.n,.int .i64 c.k,.slice p c.L.length cap] 49)).alloc (.cells #[.int .i64 0,.int .i64 0] 39)):=by show _=_;rw[e7,e6]
 have b6:Hid (ac w.heap.size w w1):=b5;have n0:Hid (w1.heap.size=w.heap.size+1+1):=e1;have i5:Hid (k8 w1 w.heap.size c (.slice p c.L.length cap)):=e8;have g9:Hid (YK w1 (w.heap.size+1) (.int .i64 0) (.int .i64 0)):=m9;have n1:Hid (Zp w1 ad):=hE.below b5;have n2:Hid (eU w1 pl LL):=hL.below b5;have i8:Hid (w1.cell? ⟨9,0,N⟩=ab (.iface 287 (.pointer (ab z)))):=(b5.cell (p:=⟨9,0,N⟩) (Qf hZ)).trans hZ;have e9:Hid (∀v∈LL.flatten,Jr (v.n,v.who)):=fun v hv=>L7 (r8 v hv)
 have n3:Hid (6 <w.heap.size):=Yl hE.c2;have n4:Hid (w.cell? ⟨9,0,N⟩=ab (.iface 287 (.pointer (ab z)))):=hZ;have f0:=e8.f0;have f1:=e8.f1;have f2:=e8.f2;unfold iE at b0 ⊢;clear e6 e7 i3 i4 b5 m8 e8 m9 hc hL r8 hE hZ e0 e1;by_cases hp:0<(Jg c).1
 ·obtain⟨b1,a8⟩:=P0 (LL:=LL) hp;rw[b1,a8];have HP:Hid (0<(Jg c).1):=hp;clear hp b1 a8 e9;generalize Jg c=R at *;obtain⟨n,k,L⟩:=c;dsimp only at *;go_enter func91,ntmps91;go_wp2_with (rw[<-g8.out])
  refine b0.mono ?_;rintro e J ⟨⟨ev,rfl,a9⟩,a0⟩;have a4:=g9.out.below a0;have t0:=a4.c0;have t1:=a4.c1;have b7:=a4.f0;have c8:=a4.f1;have a5:=(a4.eJ (.int .i64 0)).eM (.int .i64 0);have k0:=a5.c0;have k1:=a5.c1;have r9:Hid (Jd ((J.setCell (pA (w.heap.size+1) 0) (.int .i64 0)).setCell (pA (w.heap.size+1) 1) (.int .i64 0)) ad ev R.1 R.2):=(a9.setInt a4.c1 0 _).setInt (a4.eJ (.int .i64 0)).c1 1 _;have h4:Hid (ac w.heap.size w ((J.setCell (pA (w.heap.size+1) 0) (.int .i64 0)).setCell (pA (w.heap.size+1) 1) (.int .i64 0))):=((b6.out.trans (a0.mono b6.out.size)).setCell (by show w.heap.size<=w.heap.size+1;omega) _).setCell (by show w.heap.size<=w.heap.size+1;omega) _;obtain⟨et,eu,rfl⟩:=a9.some HP.out;clear a9 a0 b0 f0 f1 f2 a4 a5;go_wp2;exact al (v:=.tuple #[.agg #[.int .i64 0,.int .i64 0],.string ⟨#[]⟩,.bool F,.iface et eu]) (by simp[aC,results91,go_sem,k0,k1]) rfl ⟨⟨_,rfl,r9.out⟩,h4.out⟩
 ·obtain⟨hf,hn,h0,_,_⟩:=Xm hp;rw[h0]at b0;by_cases h5:c.n<(LL.length:Int)
  ·obtain⟨b1,a8⟩:=LD (LL:=LL) hp h5;rw[b1,a8];clear hp hn h0 hf b1 a8 e9;obtain⟨n,k,L⟩:=c;dsimp only at *;go_enter func91,ntmps91;go_wp2_with (rw[<-g8.out])
   refine b0.mono ?_;rintro e J ⟨⟨ev,rfl,a9⟩,a0⟩;obtain rfl:=Jd.isNil a9;have a4:=g9.out.below a0;have t0:=a4.c0;have t1:=a4.c1;have b7:=a4.f0;have c8:=a4.f1;have a5:=(a4.eJ (.int .i64 0)).eM (.int .i64 0);have k0:=a5.c0;have k1:=a5.c1;have q2:=(n1.out.below a0).c2;have s1:((pA (w.heap.size+1) 0):aE)≠⟨6,0,N⟩:=fun e=>by have h1:w.heap.size+1=6:=congrArg ax e;have:=n3.out;omega
   have s2:((pA (w.heap.size+1) 1):aE)≠⟨6,0,N⟩:=fun e=>by have h1:w.heap.size+1=6:=congrArg ax e;have:=n3.out;omega
   have q3:(J.setCell (pA (w.heap.size+1) 0) (.int .i64 0)).cell? ⟨6,0,N⟩=ab (.iface 287 (.pointer (ab (ad 2)))):=(af _ _ _ _ s1).trans q2;have q4:((J.setCell (pA (w.heap.size+1) 0) (.int .i64 0)).setCell (pA (w.heap.size+1) 1) (.int .i64 0)).cell? ⟨6,0,N⟩=ab (.iface 287 (.pointer (ab (ad 2)))):=(af _ _ _ _ s2).trans q3;have h4:Hid (ac w.heap.size w ((J.setCell (pA (w.heap.size+1) 0) (.int .i64 0)).setCell (pA (w.heap.size+1) 1) (.int .i64 0))):=((b6.out.trans (a0.mono b6.out.size)).setCell (by show w.heap.size<=w.heap.size+1;omega) _).setCell (by show w.heap.size<=w.heap.size+1;omega) _;have n5:=i5.out.below a0;have g0:=n5.f0;dsimp only at g0;clear a9 a0 b0 f0 f1 f2 a4 a5 n5;go_wp2;go_region
   go_wp2;exact al (v:=.tuple #[.agg #[.int .i64 0,.int .i64 0],.string ⟨#[]⟩,.bool F,.iface 287 (.pointer (ab (ad 2)))]) (by simp[aC,results91,go_sem,k0,k1]) rfl ⟨⟨_,rfl,Jd.b8 2 (by decide)⟩,by first|exact h4.out|exact h4.out.drew⟩
  ·obtain⟨b1,a8⟩:=CM (LL:=LL) hp h5;obtain⟨cn,ck,L⟩:=c;dsimp only at *;obtain⟨n,rfl⟩:=Int.eq_ofNat_of_zero_le (show 0<=cn by omega);obtain⟨k,rfl⟩:=Int.eq_ofNat_of_zero_le (show 0<=ck by omega);rw[Int.toNat_natCast,Int.toNat_natCast]at a8;rw[b1];have d6:1<=k:=by omega
   have n6:k<=n:=by omega
   have n7:n<=12:=by omega
   obtain⟨RR,i9⟩:=Xb (jB ⟨n,k,L⟩ LL);rw[<-i9];have n8:Hid (RR=Ys n k LL.flatten LL.flatten):=i9.trans a8;have t6:¬(n:Int)<(LL.length:Int):=h5;have n9:Hid (∀W,eU W pl LL->ar prog 119 #[.agg #[.int .i64 (n:Int),.int .i64 (k:Int),.slice p L.length cap],.slice pl LL.length cl] W fun e w'=>(∃b,e=.returned (.map (ab b))/\ZN w' (W.heap.size+1) b n k LL.flatten)/\ac W.heap.size W w'):=fun W K=>Jo9 n k p L.length cap pl LL cl W d6 n6 n7 (by omega) (by omega) K e9.out
   have o1:Hid (∀left t found,JV n k LL.flatten left t found->(∀z,left z=F)->RR=(t,if found then mP n k LL.flatten t else⟨#[]⟩,found)):=fun left t found h hl=>n8.out.trans (P8 d6 e9.out h hl)
   have j1:Hid (∀t,Xp n k LL.flatten t->(((Zf n k t LL.flatten).1.toNat:Nat):Int)=(Zf n k t LL.flatten).1/\(Zf n k t LL.flatten).1.toNat<=1000/\l5 n k (Zf n k t LL.flatten).1.toNat (Zf n k t LL.flatten).2/\(Zf n k t LL.flatten).2.length<=1000):=fun t hg=>by
    obtain⟨a1,a2,a3,_⟩:=FF (n:=n) (k:=k) (t:=t) (L:=LL.flatten) d6 (by unfold Xp at hg;omega);have:=xU (n:=n) (k:=k) (t:=t) LL.flatten LL.flatten.length;rw[ap]at this;exact⟨a1,a2,a3,by omega⟩
   clear hp hn h0 hf b1 a8 i9 h5 e9 n8;generalize LL.flatten=B at *;go_enter func91,ntmps91;go_wp2_with (rw[<-g8.out])
   refine b0.mono ?_;rintro e w2 ⟨⟨ev,rfl,a9⟩,d0⟩;obtain rfl:=Jd.isNil a9;have f3:=i5.out.below d0;have g0:=f3.f0;have g1:=f3.f1;have g2:=f3.f2;dsimp only at g0 g1 g2;have j2:Hid (k8 w2 w.heap.size ⟨(n:Int),(k:Int),L⟩ (.slice p L.length cap)):=f3;have o2:Hid (YK w2 (w.heap.size+1) (.int .i64 0) (.int .i64 0)):=g9.out.below d0;have k2:Hid (ac w.heap.size w w2):=b6.out.trans (d0.mono b6.out.size);have d2:Hid (w.heap.size+1+1<=w2.heap.size):=by show _<=_;rw[<-n0.out];exact d0.size
   have k3:Hid (w2.cell? ⟨9,0,N⟩=ab (.iface 287 (.pointer (ab z)))):=(d0.cell (p:=⟨9,0,N⟩) (Qf i8.out)).trans i8.out;have o3:=n9.out w2 (n2.out.below d0);clear a9 d0 b0 f0 f1 f2 f3 i5 g9 b6 n0 i8 n1 n2 n9 g8;go_wp2_with fail
   refine o3.mono ?_;rintro e J ⟨⟨b,rfl,D,row,blk,f4⟩,a0⟩;have f5:Hid (fL J w.heap.size n k (.slice p L.length cap) (0,0) (w2.heap.size+1) b B D row blk):=⟨(j2.out.below a0).f0,(j2.out.below a0).f1,o2.out.below a0,f4,by have:=d2.out;omega⟩;have o4:Hid (ac w.heap.size w J):=k2.out.trans (a0.mono k2.out.size);have t7:Hid (J.cell? ⟨9,0,N⟩=ab (.iface 287 (.pointer (ab z)))):=(a0.cell (p:=⟨9,0,N⟩) (Qf k3.out)).trans k3.out;have H0:Hid (JV n k B (aw D) (0,0) F):=OQ d6 f4;obtain⟨m,hm,o5⟩:=f4.map;have s3:b<J.heap.size:=f4.lt;clear a0 o3 g0 g1 g2 j2 o2 k2 k3 f4 hm;go_wp2_with (first
    |(at_range;refine wpList_range_own _ rfl _ 195 rfl 39 199 qN underlying195 YR b m D rfl o5 ?_;intro w4 o6 d7 s4)
    |go_in)
   go_frame
   have o7:Hid (ac J.heap.size J w4):=⟨d7.os,d7.tape,d7.output,d7.size,fun k hk=>d7.block k hk (by simp)⟩;have p0:Hid (w4.ranges prog 39 YR b J.heap.size m D (aw D) (bi D)):=o6;have p1:Hid (fL w4 w.heap.size n k (.slice p L.length cap) (0,0) (w2.heap.size+1) b B D row blk):=f5.out.below o7.out;have f6:Hid (∀W,ac (w.heap.size+1) w4 W->ac w.heap.size w W/\W.cell? ⟨9,0,N⟩=ab (.iface 287 (.pointer (ab z)))):=fun W K=>by
    have h0:ac w.heap.size w W:=(o4.out.trans (o7.out.mono o4.out.size)).trans (K.mono (by omega));exact⟨h0,(h0.cell (p:=⟨9,0,N⟩) (Qf n4.out)).trans n4.out⟩
   have p2:Hid (∀t,Jr t->∀g,(row t).ownBlock=ab g->g<J.heap.size):=fun t ht g hg=>(aq (f5.out.dX.own t ht) g hg).2
   have p3:Hid (w.heap.size+1<J.heap.size):=by
    show _<_;have h1:=f5.out.dX.lt;have h2:=f5.out.dX.aO;have h3:=d2.out;omega
   clear o6 d7 s4 o5;go_loopw [6] (fun fo wr=>∃(left:Lit->Bool) (f7:Nat) (t:Int×Int) (found:Bool),fo=.bool found/\wr.ranges prog 39 YR b J.heap.size m D left f7/\JV n k B left t found/\(∀z,left z=aj->aw D z=aj)/\fL wr w.heap.size n k (.slice p L.length cap) t (w2.heap.size+1) b B D row blk/\ac (w.heap.size+1) w4 wr) (fun _ wr=>wr.rangeLeft b J.heap.size)
   case atStart=>exact⟨aw D,bi D,(0,0),F,rfl,p0.out,H0.out,fun z hz=>hz,p1.out,zj _ _⟩
   case round =>
    obtain⟨left,f7,t,found,rfl,f8,p4,p5,b2,hB⟩:=hrel;obtain⟨U,rfl⟩:=Xb wr;have d3:Hid (JV n k B left t found):=p4;have h6:Hid (∀z,left z=aj->aw D z=aj):=p5;have a6:Hid (fL U w.heap.size n k (.slice p L.length cap) t (w2.heap.size+1) b B D row blk):=b2;have HB:Hid (ac (w.heap.size+1) w4 U):=hB;clear p4 p5 b2 hB p0 p1 H0 f5;go_wp2_with (first
     |(at_next;refine wpList_next_ranges (α:=Int×Int) (β:=Int×Option aE×Nat×Nat) _ rfl _ rfl 39 qN YR iO X7 (fun key kl hk=>by obtain⟨x,hx,_⟩:=CC hk;exact⟨x,hx⟩) (fun v y hv=>by obtain⟨x,hx,_⟩:=FP hv;exact⟨x,hx⟩) b J.heap.size m D left f7 rfl f8 ?_ ?_)
     |go_in)
    ·intro _ p7;have k4:Hid (RR=(t,if found then mP n k B t else⟨#[]⟩,found)):=o1.out left t found d3.out p7;have hT:=a6.out.T;clear p7 f8 o1 h6 p2;cases found with
     |false =>
      have t0:=hT.c0;have t1:=hT.c1;have b7:=hT.f0;have c8:=hT.f1;have a5:=(hT.eJ (.int .i64 t.1)).eM (.int .i64 t.2);have k0:=a5.c0;have k1:=a5.c1;have k5:Hid (ac w.heap.size w ((U.setCell (pA (w.heap.size+1) 0) (.int .i64 t.1)).setCell (pA (w.heap.size+1) 1) (.int .i64 t.2))):=((f6.out U HB.out).1.setCell (by show w.heap.size<=w.heap.size+1;omega) _).setCell (by show w.heap.size<=w.heap.size+1;omega) _;clear hT a5 d3 a6 j1 f6;go_wp2;exact al (v:=.tuple #[.agg #[.int .i64 t.1,.int .i64 t.2],.string ⟨#[]⟩,.bool F,.nilIface]) (by simp[aC,results91,go_sem,k0,k1]) rfl ⟨⟨_,by rw[k4.out];rfl,Jd.nil _ _⟩,k5.out⟩
     |true =>
      obtain⟨h7,k6,_⟩:=d3.out.yes rfl;obtain⟨q1,q2,q3,q4⟩:=j1.out t k6;have k7:=BN d6 k6;have d8:=(a6.out.dX.below bR.drew).look h7;obtain⟨p6,c6,l0,p9⟩:=nL (a6.out.dX.own t h7);unfold kH at d8;rw[if_neg k7,l0,<-q1]at d8;have s5:Hid (RR=(t,gB k (Zf n k t B).1.toNat (Qg k (Zf n k t B).2 (Zf n k t B).2.length),aj)):=k4.out;have q0:Hid (∀W,ac U.heap.size U W->ar prog 121 #[.int .i64 (n:Int),.int .i64 (k:Int),.int .i64 (((Zf n k t B).1.toNat:Nat):Int),.slice p6 (Zf n k t B).2.length c6] W fun e w'=>e=.returned (.tuple #[.string (gB k (Zf n k t B).1.toNat (Qg k (Zf n k t B).2 (Zf n k t B).2.length)),.nilIface])/\ac W.heap.size W w'):=fun W K=>LJ n k (Zf n k t B).1.toNat p6 (Zf n k t B).2 c6 z W d6 n6 n7 q2 q4 q3 (p9.below K) ((K.cell (p:=⟨9,0,N⟩) (Qf (f6.out U HB.out).2)).trans (f6.out U HB.out).2)
      have t0:=hT.c0;have t1:=hT.c1;have g0:=a6.out.c0;have g1:=a6.out.c1;have h8:Hid (∀W,ac U.heap.size U W->(W.cell? (pA w.heap.size 0)=ab (.int .i64 (n:Int))/\W.cell? (pA w.heap.size 1)=ab (.int .i64 (k:Int))/\W.cell? (pA (w.heap.size+1) 0)=ab (.int .i64 t.1)/\W.cell? (pA (w.heap.size+1) 1)=ab (.int .i64 t.2)/\(ao 195 (.map (ab b)) (.agg #[.int .i64 t.1,.int .i64 t.2]) F).run prog W=.ok (.agg #[.int .i64 (((Zf n k t B).1.toNat:Nat):Int),.slice p6 (Zf n k t B).2.length c6]) W/\ac U.heap.size U W)):=fun W K=>by
       have b2:=a6.out.below K;have hl:=b2.dX.look h7;unfold kH at hl;rw[if_neg k7,l0,<-q1]at hl;exact⟨b2.c0,b2.c1,b2.T.c0,b2.T.c1,hl,K⟩
      have s6:∀W,(zg 199 (.agg #[.int .i64 (((Zf n k t B).1.toNat:Nat):Int),.slice p6 (Zf n k t B).2.length c6]) 0).run prog W=.ok (.int .i64 (((Zf n k t B).1.toNat:Nat):Int)) W:=fun W=>by kernel_rfl
      have s7:∀W,(zg 199 (.agg #[.int .i64 (((Zf n k t B).1.toNat:Nat):Int),.slice p6 (Zf n k t B).2.length c6]) 1).run prog W=.ok (.slice p6 (Zf n k t B).2.length c6) W:=fun W=>by kernel_rfl
      clear d8 l0 p9 k7 q1 q2 q3 q4 k6 h7 hT d3 k4 j1 t0 t1 g0 g1;generalize gB k (Zf n k t B).1.toNat (Qg k (Zf n k t B).2 (Zf n k t B).2.length)=dt at *;generalize (Zf n k t B).1.toNat=sz at *;generalize (Zf n k t B).2.length=ln at *;have q5:Hid (∀W,(W.cell? (pA w.heap.size 0)=ab (.int .i64 (n:Int))/\W.cell? (pA w.heap.size 1)=ab (.int .i64 (k:Int))/\W.cell? (pA (w.heap.size+1) 0)=ab (.int .i64 t.1)/\W.cell? (pA (w.heap.size+1) 1)=ab (.int .i64 t.2)/\(ao 195 (.map (ab b)) (.agg #[.int .i64 t.1,.int .i64 t.2]) F).run prog W=.ok (.agg #[.int .i64 (sz:Int),.slice p6 ln c6]) W/\ac U.heap.size U W)->ar prog 121 #[.int .i64 (n:Int),.int .i64 (k:Int),.int .i64 (sz:Int),.slice p6 ln c6] W fun e w'=>e=.returned (.tuple #[.string dt,.nilIface])/\(w'.cell? (pA w.heap.size 0)=ab (.int .i64 (n:Int))/\w'.cell? (pA w.heap.size 1)=ab (.int .i64 (k:Int))/\w'.cell? (pA (w.heap.size+1) 0)=ab (.int .i64 t.1)/\w'.cell? (pA (w.heap.size+1) 1)=ab (.int .i64 t.2)/\(ao 195 (.map (ab b)) (.agg #[.int .i64 t.1,.int .i64 t.2]) F).run prog w'=.ok (.agg #[.int .i64 (sz:Int),.slice p6 ln c6]) w'/\ac U.heap.size U w')):=fun W K=>(q0.out W K.2.2.2.2.2).mono fun e w' ⟨he,hb⟩=>⟨he,h8.out w' (K.2.2.2.2.2.trans (hb.mono K.2.2.2.2.2.size))⟩
      have s8:=h8.out U bR;clear q0;go_wp2;go_region_held3 (fun W=>(W.cell? (pA w.heap.size 0)=ab (.int .i64 (n:Int))/\W.cell? (pA w.heap.size 1)=ab (.int .i64 (k:Int))/\W.cell? (pA (w.heap.size+1) 0)=ab (.int .i64 t.1)/\W.cell? (pA (w.heap.size+1) 1)=ab (.int .i64 t.2)/\(ao 195 (.map (ab b)) (.agg #[.int .i64 t.1,.int .i64 t.2]) F).run prog W=.ok (.agg #[.int .i64 (sz:Int),.slice p6 ln c6]) W/\ac U.heap.size U W)) (first|assumption|exact h8.out _ bR.drew) (first|(go_at_call 121;refine(q5.out _ (by assumption)).mono ?_;rintro e w6 ⟨rfl,q6⟩))
      all_goals
       have l7:ac U.heap.size U w6:=q6.2.2.2.2.2;have d9:=a6.out.T.below l7;have t0:=d9.c0;have t1:=d9.c1;have b7:=d9.f0;have c8:=d9.f1;have a5:=(d9.eJ (.int .i64 t.1)).eM (.int .i64 t.2);have k0:=a5.c0;have k1:=a5.c1;have k5:Hid (ac w.heap.size w ((w6.setCell (pA (w.heap.size+1) 0) (.int .i64 t.1)).setCell (pA (w.heap.size+1) 1) (.int .i64 t.2))):=((f6.out w6 (HB.out.trans (l7.mono (by have:=Qf a6.out.T.c0;omega)))).1.setCell (by show w.heap.size<=w.heap.size+1;omega) _).setCell (by show w.heap.size<=w.heap.size+1;omega) _;clear l7 d9 a5 q6 h8 q5 s8 s6 s7;go_wp2;exact al (v:=.tuple #[.agg #[.int .i64 t.1,.int .i64 t.2],.string dt,.bool aj,.nilIface]) (by simp[aC,results91,go_sem,k0,k1]) rfl ⟨⟨_,by rw[s5.out],Jd.nil _ _⟩,k5.out⟩
    ·intro H I cz cp cn l9 kl yd yp w6 a7 q7 d8 hv q9 f9 r0 d4 s9 t2;obtain⟨r1,rfl,m0⟩:=a6.out.dX.entry h6.out q7 d8 hv q9;dsimp only at m0;have t3:w.heap.size+1<J.heap.size:=p3.out;have r2:=a6.out.grown d4 t3 s3 p2.out;have m4:ac (w.heap.size+1) w4 w6:=HB.out.trans ⟨d4.os,d4.tape,d4.output,d4.size,fun j hj=>d4.block j (by have:=(ZL f8).1;omega) (fun e=>by injection e with e;omega)⟩;obtain⟨Z,e2⟩:=Xb ((w6.alloc (.cells #[.int .i64 H,.int .i64 I] 39)).alloc (.cells #[.int .i64 cz,.slice cp cn l9] 199));have g3:ac w6.heap.size w6 Z:=by rw[e2];exact(bR.alloc nR _).alloc (by simp) _
     have x0:Z.cell? (pA w6.heap.size 0)=ab (.int .i64 H):=by rw[e2];simp
     have r3:Z.cell? (pA w6.heap.size 1)=ab (.int .i64 I):=by rw[e2];simp
     have y1:Z.cell? (pA (w6.heap.size+1) 1)=ab (.slice cp cn l9):=by rw[e2];simp
     have h9:Hid (Z=(w6.alloc (.cells #[.int .i64 H,.int .i64 I] 39)).alloc (.cells #[.int .i64 cz,.slice cp cn l9] 199)):=e2;have d5:=r2.below g3;have m5:Hid (fL Z w.heap.size n k (.slice p L.length cap) t (w2.heap.size+1) b B D row blk):=d5;have i0:Hid (ac (w.heap.size+1) w4 Z):=m4.trans (g3.mono (by have:=m4.size;have:=(ZL f9).1;omega));have r4:=rZ f9 (g3.block b (ZL f9).2) (g3.block J.heap.size (ZL f9).1);have b3:Hid (Z.ranges prog 39 YR b J.heap.size m D (fun z=>left z&&!z.sameKey (YD (H,I))) a7):=r4;have i1:Hid (a7<f7):=r0;have i2:Hid (U.ranges prog 39 YR b J.heap.size m D left f7):=f8;have d2:Hid (∀z,(left z&&!z.sameKey (YD (H,I)))=aj->aw D z=aj):=fun z hz=>h6.out z (by simp only[Bool.and_eq_true]at hz;exact hz.1)
     have r5:Hid (Jr (H,I)):=r1;have m6:Hid (Xp n k B (H,I)↔k<=cn):=by show _↔_;unfold Xp;rw[m0]
     have b4:Hid (∀W,ar prog 120 #[.agg #[.int .i64 t.1,.int .i64 t.2],.agg #[.int .i64 H,.int .i64 I]] W fun e w'=>e=.returned (.bool (Qd t (H,I)))/\ac W.heap.size W w'):=fun W=>JbT t (H,I) W
     have g1:=d5.c1;have t0:=d5.T.c0;have t1:=d5.T.c1;have b7:=d5.T.f0;have c8:=d5.T.f1;have e3:Hid (∀W,ac Z.heap.size Z W->(¬k<=cn∨found=aj/\Qd t (H,I)=F)->W.ranges prog 39 YR b J.heap.size m D (fun z=>left z&&!z.sameKey (YD (H,I))) a7/\JV n k B (fun z=>left z&&!z.sameKey (YD (H,I))) t found/\fL W w.heap.size n k (.slice p L.length cap) t (w2.heap.size+1) b B D row blk/\ac (w.heap.size+1) w4 W):=fun W K t4 =>
      ⟨rZ b3.out (K.block b (ZL b3.out).2) (K.block J.heap.size (ZL b3.out).1),UO d3.out r5.out (by rcases t4 with h|h;exact ay fun hg=>h (m6.out.1 hg);exact av h),m5.out.below K,i0.out.trans (K.mono (by have:=i0.out.size;have:=(ZL b3.out).1;omega))⟩
     have e4:Hid (∀W,ac Z.heap.size Z W->k<=cn->(found=aj->Qd t (H,I)=aj)->((W.setCell (pA (w.heap.size+1) 0) (.int .i64 H)).setCell (pA (w.heap.size+1) 1) (.int .i64 I)).ranges prog 39 YR b J.heap.size m D (fun z=>left z&&!z.sameKey (YD (H,I))) a7/\JV n k B (fun z=>left z&&!z.sameKey (YD (H,I))) (H,I) aj/\fL ((W.setCell (pA (w.heap.size+1) 0) (.int .i64 H)).setCell (pA (w.heap.size+1) 1) (.int .i64 I)) w.heap.size n k (.slice p L.length cap) (H,I) (w2.heap.size+1) b B D row blk/\ac (w.heap.size+1) w4 ((W.setCell (pA (w.heap.size+1) 0) (.int .i64 H)).setCell (pA (w.heap.size+1) 1) (.int .i64 I))):=fun W K hk hp=>by
      have t5:=rZ b3.out (K.block b (ZL b3.out).2) (K.block J.heap.size (ZL b3.out).1);have m7:=m5.out.below K;have t8:=m7.dX.aO;have t9:=m7.hB;have r6:b≠w.heap.size+1:=by omega
      have r7:J.heap.size≠w.heap.size+1:=by have:=p3.out;omega
      refine⟨rZ t5 ?_ ?_,RH d3.out r5.out (m6.out.2 hk) hp,m7.set (H,I),?_⟩
      ·rw[ah _ _ _ _ r6,ah _ _ _ _ r6]
      ·rw[ah _ _ _ _ r7,ah _ _ _ _ r7]
      ·exact((i0.out.trans (K.mono (by have:=i0.out.size;have:=(ZL b3.out).1;omega))).setCell nR _).setCell nR _
     clear q7 d8 hv q9 f9 r0 d4 s9 m0 r1 r2 m4 e2 g3 d5 r4 f8 h6 d3 a6 HB m5 m6;unfold iO X7 at t2 ⊢;by_cases g4:k<=cn
     ·have d1:decide (k<=cn)=true:=decide_eq_true g4;cases found with
      |false =>
       have O:=e4.out Z bR g4 (fun h=>by cases h);clear e3 e4 b4;go_wp2_with (rw[<-h9.out])
       exact⟨⟨_,a7,(H,I),aj,rfl,O.1,O.2.1,d2.out,O.2.2.1,O.2.2.2⟩,by rw[ag O.1,ag i2.out];exact i1.out⟩
      |true =>
       cases e5:Qd t (H,I)with
       |false =>
        rw[e5]at b4;have g5:Hid (∀W,ac Z.heap.size Z W->W.ranges prog 39 YR b J.heap.size m D (fun z=>left z&&!z.sameKey (YD (H,I))) a7/\JV n k B (fun z=>left z&&!z.sameKey (YD (H,I))) t aj/\fL W w.heap.size n k (.slice p L.length cap) t (w2.heap.size+1) b B D row blk/\ac (w.heap.size+1) w4 W):=fun W K=>e3.out W K (av ⟨rfl,e5⟩)
        clear e3 e4 e5;go_wp2_with (rw[<-h9.out])
        refine(b4.out _).mono ?_;rintro e w8 ⟨rfl,g6⟩;have O:=g5.out w8 g6;clear g5 b4 g6;go_wp2;exact⟨⟨_,a7,t,aj,rfl,O.1,O.2.1,d2.out,O.2.2.1,O.2.2.2⟩,by rw[ag O.1,ag i2.out];exact i1.out⟩
       |true =>
        rw[e5]at b4;have g5:Hid (∀W,ac Z.heap.size Z W->((W.cell? (pA w6.heap.size 0)=ab (.int .i64 H)/\W.cell? (pA w6.heap.size 1)=ab (.int .i64 I))/\YK W (w.heap.size+1) (.int .i64 t.1) (.int .i64 t.2))/\((W.setCell (pA (w.heap.size+1) 0) (.int .i64 H)).setCell (pA (w.heap.size+1) 1) (.int .i64 I)).ranges prog 39 YR b J.heap.size m D (fun z=>left z&&!z.sameKey (YD (H,I))) a7/\JV n k B (fun z=>left z&&!z.sameKey (YD (H,I))) (H,I) aj/\fL ((W.setCell (pA (w.heap.size+1) 0) (.int .i64 H)).setCell (pA (w.heap.size+1) 1) (.int .i64 I)) w.heap.size n k (.slice p L.length cap) (H,I) (w2.heap.size+1) b B D row blk/\ac (w.heap.size+1) w4 ((W.setCell (pA (w.heap.size+1) 0) (.int .i64 H)).setCell (pA (w.heap.size+1) 1) (.int .i64 I))):=fun W K=>⟨⟨⟨(K.cell (p:=(pA w6.heap.size 0)) (Qf x0)).trans x0,(K.cell (p:=(pA w6.heap.size 1)) (Qf x0)).trans r3⟩,YK.below ⟨t0,t1,b7,c8⟩ K⟩,e4.out W K g4 (fun _=>e5)⟩
        clear e3 e4 e5;go_wp2_with (rw[<-h9.out])
        refine(b4.out _).mono ?_;rintro e w8 ⟨rfl,g6⟩;obtain⟨⟨⟨z0,z1⟩,g7⟩,O⟩:=g5.out w8 g6;clear t0 t1 b7 c8;have t0:=g7.c0;have t1:=g7.c1;have b7:=g7.f0;have c8:=g7.f1;clear g5 b4 g6 g7 x0 r3 y1;go_wp2;exact⟨⟨_,a7,(H,I),aj,rfl,O.1,O.2.1,d2.out,O.2.2.1,O.2.2.2⟩,by rw[ag O.1,ag i2.out];exact i1.out⟩
     ·have d1:decide (k<=cn)=false:=decide_eq_false g4;have O:=e3.out Z bR (ay g4);clear e3 e4 b4;go_wp2_with (rw[<-h9.out])
      exact⟨⟨_,a7,t,found,rfl,O.1,O.2.1,d2.out,O.2.2.1,O.2.2.2⟩,by rw[ag O.1,ag i2.out];exact i1.out⟩
end
def Jt9 (w:World)(H:FuncId)(I:Array an)(l:List BA)(P:BA->Bool):Prop :=
 ∀i,i<l.length->∀B,ac w.heap.size w B->ar prog H (#[.string (Yc l i)]++I) B fun e D=>e=.returned (.bool (P (Yc l i)))/\ac B.heap.size B D
theorem JoZ (p:Option aE)(l:List BA)(cap:Nat)(K:FuncId)(a3:Array an)(P:BA->Bool)(w:World)(hl:l.length<=100000)(hs:Strs w p l)
 (a6:∀args W,Sem.run prog (callFunc K args) W=.ok (.enter K args) W) (hc:Jt9 w K a3 l P):
 ar prog 29 #[.slice p l.length cap,.func (.func K) #[] a3] w fun e w'=>(∃r:Int,e=.returned (.int .i64 r)/\((∃i:Nat,i<l.length/\r=(i:Int)/\P (Yc l i)=aj/\∀j,j<i->P (Yc l j)=F)∨r=-1/\∀j,j<l.length->P (Yc l j)=F))/\ac w.heap.size w w':=by
 have HS:Hid (Strs w p l):=hs;have HC:Hid _:=hc;clear hs hc;go_enter func29,ntmps29;go_wp2;go_loopw [8] (fun x wr=>∃i:Nat,i<=l.length/\x=.int .i64 i/\(∀j,j<i->P (Yc l j)=F)/\ac w.heap.size w wr) (fun x _=>l.length-(intOf x).toNat)
 case atStart=>exact⟨0,by omega,rfl,fun j O=>absurd O (Nat.not_lt_zero _),zj _ _⟩
 case round =>
  obtain⟨i,hi,rfl,a0,hB⟩:=hrel;have U:Hid _:=a0;have D:Hid _:=hB;clear a0 hB;by_cases I:i<l.length
  ·rcases(HS.out.below D.out)with h0|⟨b1,o1,rfl,_,a2⟩
   ·rw[h0]at I;simp at I
   have Z:=a2 i I;have B:=HC.out i I wr D.out;clear a2;cases H:P (Yc l i)with
   |true =>
    have HA:Hid _:=H;rw[H]at B;clear H;generalize Yc l i=t at Z B;go_wp2_with fail
    refine B.mono ?_;rintro e w2 ⟨rfl,J⟩;clear B;go_wp2;go_ret;exact⟨⟨(i:Int),rfl,ay ⟨i,I,rfl,HA.out,U.out⟩⟩,D.out.trans (J.mono D.out.size)⟩
   |false =>
    have a4:Hid _:=H;rw[H]at B;clear H;generalize Yc l i=t at Z B;go_wp2_with fail
    refine B.mono ?_;rintro e w2 ⟨rfl,J⟩;have a5:Hid _:=D.out.trans (J.mono D.out.size);clear B J Z;go_wp2;go_roundw
    case rel =>
     refine⟨i+1,by omega,by go_num,fun j O=>?_,a5.out⟩;by_cases e:j=i
     ·rw[e];exact a4.out
     ·exact U.out j (by omega)
    case measure=>simp[intOf];omega
  ·have HN:Hid (∀j,j<l.length->P (Yc l j)=F):=fun j O=>U.out j (by omega)
   go_wp2;go_ret;exact⟨⟨-1,rfl,av ⟨rfl,HN.out⟩⟩,D.out⟩
end Go.Proofs.YtgapmoniajcliaaGreatDoor

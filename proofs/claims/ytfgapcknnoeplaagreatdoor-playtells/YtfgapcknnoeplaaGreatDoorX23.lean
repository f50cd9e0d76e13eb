/- Texts laid together. -/
import Derived.Test.YtfgapcknnoeplaaGreatDoorX22
import Derived.Test.YtfgapcknnoeplaaGreatDoorX20
set_option maxRecDepth 10000
set_option maxHeartbeats 4000000
open Option renaming none->aa,some->ab
open List renaming getD_eq_getElem?_getD->ac,replicate->ag,range->ah,getElem?_eq_getElem->aj,length_append->ak,getElem?_replicate->ar,getElem_mem->au,length_map->aw,getElem?_append_right->az,getElem?_append_left->aB,getElem?_map->aC,map_append->aF,take_add_one->aM,append_assoc->aN,length_take->aP
open Go.RowKit renaming Below->ae
open Bool renaming false->af,true->am
open Go.World renaming cell?_of_block->ai,frozen?_of_block->aD,cell?_alloc_at->zc,setCell->zg
open Nat renaming le_trans->al,not_lt_zero->ao,lt_of_lt_of_le->ap,le_refl->av,zero_le->aI,lt_trans->ba,lt_or_ge->bb
open Go renaming Calls->an,bodyPost_ret->ax,Addr->za,Value->zd,results->aR
open Go.RowKit.Below renaming heap_setCell->aq,refl->aA
open Or renaming inr->ay,inl->zb
namespace Go.Proofs.YtfgapcknnoeplaaGreatDoor
open Go.Proofs.Tryz
open Go.RowKit
variable {l:List BA}{i n k b hb:Nat}{W w H:World}{O I:zd}{T:TypeId}{ad:Nat->za}{c at_:Int}{x:Je}{S:Nat->Prop}{s:BA}
section
theorem PJ (w:World):an prog 23 #[.slice aa 0 0] w fun e w'=>e=.returned (.slice aa 0 0)/\w'=w:=by
 have hn:∀W,Sem.run prog (binOp .eql 34 (.slice aa 0 0) (.slice aa 0 0)) W=.ok (.bool am) W:=fun W=>by kernel_rfl
 go_enter func23,ntmps23;go_wp2;go_ret;exact⟨rfl,rfl⟩
theorem MU (ad:za)(c:Nat)(w:World):an prog 23 #[.slice (ab ad) 0 c] w fun e w'=>(∃D,e=.returned D/\Zc XI 42 w' w.heap.size D [])/\ae w.heap.size w w':=by
 have hn:∀W,Sem.run prog (binOp .eql 34 (.slice (ab ad) 0 c) (.slice aa 0 0)) W=.ok (.bool af) W:=fun W=>by kernel_rfl
 go_enter func23,ntmps23;go_wp2;go_ret;refine⟨⟨_,rfl,rfl,ay ⟨w.heap.size,0,#[],rfl,av _,?_,av _,by unfold maxLen;omega,rfl,rfl⟩⟩,bR.alloc nR _⟩;show(w.heap.push _)[w.heap.size]?=_;simp
theorem M6 (q:Option za)(l:List Ev)(c:Nat)(w:World)(hr:Ql XI w q l)(hq:q=aa->l=[]/\c=0)(hl:l.length<=1000000):an prog 23 #[.slice q l.length c] w fun e w'=>(∃I,e=.returned I/\Zc XI 42 w' w.heap.size I l)/\ae w.heap.size w w':=by
 cases q with
 |none =>
  obtain⟨H,J⟩:=hq rfl;subst H J;exact(PJ w).mono fun e w' D=>⟨⟨_,D.1,Zc.nil _ _ _⟩,by rw[D.2];exact aA _ _⟩
 |some ad =>
  by_cases K:l=[]
  ·subst K;exact(MU ad c w).mono fun e w' D=>⟨D.1,D.2⟩
  ·rcases hr with H|⟨b,o,D,a6,Z⟩
   ·exact absurd H K
   obtain rfl:ad=⟨b,o,aa⟩:=Option.some.inj D;obtain⟨i0,a0,a2,a3,a4⟩:=info_parts DC;have a5:∀j u,(Qb XI l)[j]?=ab u->w.cell? ⟨b,o+j,aa⟩=ab u:=fun j u hj=>by
    have:=Ql.cells (E:=XI) Z j u hj;by_cases U:j=0
    ·subst U;simpa[Addr.add]using this
    ·simpa[Addr.add,U]using this
   exact(slices_CloneE i0 _ 8 64 a0 a2 a3 a4 rfl (by decide) (fun W=>by kernel_rfl) b o l.length c (Qb XI l) w (Qr XI l) (by unfold maxLen;omega) (by omega) a5 (Zz XI l)).mono fun e w' ⟨I,H,J,_,h4⟩=>⟨⟨I,H,J⟩,h4⟩
section
variable {w w':World} {B h:Nat} {O O':Nat->Option Whose} {m:Ya} {X:WB} {ml:List (Zb×Lv)} {nb hn:Nat->Nat} {n k:Nat} {ad:Nat->za}
theorem Zc.mY {w:World}{B:Nat}{v:zd}{l:List Ev}(h:Zc XI 42 w B v l)(hi:i<l.length):∃b o c,v=.slice (ab ⟨b,o,aa⟩) l.length c/\w.cell? ⟨b,o+i*8+5,aa⟩=ab (.string (Qq l i).text)/\w.frozen? ⟨b,o+i*8+5,aa⟩=af/\B<=b/\b<w.heap.size:=by
 obtain⟨p,c,I,J,_,_,K⟩:=h.form;obtain⟨b,o,rfl,a0,_,_,_,_,_,U,_,_⟩:=qX J hi;refine⟨b,o,c,I,U,?_,K b o rfl⟩;rcases h.2 with⟨D,_⟩|⟨g,cap,a2,D,_,Z,_⟩
 ·rw[I]at D;cases D
 ·rw[I]at D;injection D with H _ _
  injection H with H
  injection H with H _ _
  subst H;exact(Xa Z _).2
theorem SE (hp:Ye w B h O m X ml nb hn)(b1:m.events.length<=1000000)(a8:∀e∈m.events,e.text.size<=1000):
 an prog 11 #[.pointer (ab ⟨h,0,aa⟩)] w fun e w'=>(∃v,e=.returned v/\Zc XI 42 w' w.heap.size v m.events)/\ae w.heap.size w w':=by
 obtain⟨p,c,D,hr,_,H,_⟩:=hp.bV.form;have a9:w.cell? ⟨h,42,aa⟩=ab (.slice p m.events.length c):=by rw[<-D];exact(hp.cell 42).1
 have a3:=M6 p m.events c w hr H b1;have HT:Hid (∀i,i<m.events.length->∀W,an prog 24 #[.string (Qq m.events i).text] W fun e w'=>e=.returned (.string (Qq m.events i).text)/\Hid (ae W.heap.size W w')):=fun i hi W=>(Xs _ W (by have:=a8 (Qq m.events i) (by rw[nF hi];exact au hi);omega)).mono fun e w' H=>⟨H.1,H.2⟩
 clear hp hr H D a8;generalize m.events=E at *;go_enter func11,ntmps11;go_wp2_with fail
 refine a3.mono ?_;rintro e w1 ⟨⟨v1,rfl,a0⟩,a2⟩;obtain⟨J,c1,rfl,_⟩:=a0.form;have K:Hid (Zc XI 42 w1 w.heap.size (.slice J E.length c1) E/\ae w.heap.size w w1):=⟨a0,a2⟩;clear a0 a2 a3 a9;go_wp2;go_loopw [12] (fun x wr=>∃i:Nat,i<=E.length/\x=.int .i64 i/\Zc XI 42 wr w.heap.size (.slice J E.length c1) E/\ae w.heap.size w wr) (fun x _=>E.length-(intOf x).toNat)
 case atStart=>exact⟨0,aI _,rfl,K.out.1,K.out.2⟩
 case round =>
  obtain⟨i,hi,rfl,U,hB⟩:=hrel;have I:Hid (Zc XI 42 wr w.heap.size (.slice J E.length c1) E/\ae w.heap.size w wr):=⟨U,hB⟩;by_cases a4:i<E.length
  ·obtain⟨b,o,c2,D,h5,f5,a2,a5⟩:=U.mY a4;obtain rfl:J=ab ⟨b,o,aa⟩:=by injection D
   clear D;have a6:=HT.out i a4 wr;have a7:Hid (∀W,ae wr.heap.size wr W->(W.cell? ⟨b,o+i*8+5,aa⟩=ab (.string (Qq E i).text)/\W.frozen? ⟨b,o+i*8+5,aa⟩=af/\W.setCell ⟨b,o+i*8+5,aa⟩ (.string (Qq E i).text)=W)/\Zc XI 42 W w.heap.size (.slice (ab ⟨b,o,aa⟩) E.length c1) E/\ae w.heap.size w W):=fun W Z=>by
    have hc:=(Z.cell (p:=⟨b,o+i*8+5,aa⟩) a5).trans h5;exact⟨⟨hc,(aD (a:=⟨b,o+i*8+5,aa⟩) (Z.block b a5)).trans f5,Yo hc⟩,I.out.1.kept Z,I.out.2.trans (Z.mono I.out.2.size)⟩
   clear U hB HT K f5;generalize (Qq E i).text=t at *;go_wp2_with fail
   refine a6.mono ?_;rintro e w2 ⟨rfl,b0⟩;obtain⟨⟨g1,g2,g3⟩,h6⟩:=a7.out w2 b0.out;have H6:Hid _:=(show Hid (Zc XI 42 w2 w.heap.size (.slice (ab ⟨b,o,aa⟩) E.length c1) E/\ae w.heap.size w w2)from h6);clear h6 a7 a6;go_wp2;go_roundw
   case rel=>exact⟨i+1,by omega,by go_num,H6.out.1,H6.out.2⟩
   case measure=>simp[intOf];omega
  ·clear U hB HT K;go_wp2;go_ret;exact⟨⟨_,rfl,I.out.1⟩,I.out.2⟩
end
end
def Yz (s:BA):Bool:=decide (s=J8)||(YN s).isSome
theorem JsD (s:BA):decide (0<=gM s)=(YN s).isSome:=by
 unfold gM;cases YN s with
 |none=>rfl
 |some i=>exact decide_eq_true (by show(0:Int)<=(i:Int);omega)
theorem RX (s:BA) (w:World) (I:Lib.TabIs prog w "internal/strconv.uint64pow10" .u64 Lib.pow10Tab):
 an prog 30 #[.string s] w fun e w'=>e=.returned (.bool (Yz s))/\ae w.heap.size w w':=by
 have D:=CE s w I;by_cases B:s=J8
 ·have J:s.toList=[109,111,118,101,114]:=by rw[B];decide +kernel
  have H:Hid (Yz s=am):=by show _=_;unfold Yz;rw[decide_eq_true B];rfl
  generalize Yz s=R at *;clear I B D;go_enter func30,ntmps30;go_wp2;go_ret;exact⟨by rw[H.out];rfl,aA _ _⟩
 ·have J:¬s.toList=[109,111,118,101,114]:=fun e=>B (wN (e.trans (by decide +kernel)))
  have Z:(s.toList==[109,111,118,101,114])=false:=by simp[J]
  have H:Hid (Yz s=decide (0<=gM s)):=by show _=_;unfold Yz;rw[decide_eq_false B,Bool.false_or,JsD]
  generalize Yz s=R at *;generalize gM s=cv at *;clear I B;go_enter func30,ntmps30;go_wp2_with fail
  refine D.mono ?_;rintro e O ⟨rfl,K⟩;have U:Hid (ae w.heap.size w O):=K;clear K D;go_wp2;go_ret;exact⟨by rw[H.out];rfl,U.out⟩
section
open Ring
def iJ (l:List BA):Nat:=l.findIdx Yz
theorem CY (B:i<l.length)(H:Yz (Yc l i)=am)(I:∀j,j<i->Yz (Yc l j)=af):iJ l=i:=by
 unfold iJ;rw[List.findIdx_eq B];refine⟨by rw[<-Xk l i B];exact H,fun j D=>?_⟩;rw[<-Xk l j (by omega)];exact I j D
theorem L5 (h:∀j,j<l.length->Yz (Yc l j)=af):¬iJ l<l.length:=fun B=>by
 have H:Yz l[iJ l]=true:=List.findIdx_getElem (p:=Yz) (xs:=l) (w:=B);have D:=h _ B;rw[Xk l _ B]at D;rw[H]at D;cases D
def Zr (l:List BA)(n k:Int):Int×Int:=if 0<(Xj l).1 then Xj l else if iJ l<l.length then(6,iJ l)else if 0<(Jm l n).1 then Jm l n else if 1<=k/\k<=n/\n<=12 then(0,-1)else(2,-1)
theorem FR {h:Nat}{B:List BA}{n k:Int}(H:XC h l B)(K:¬0<(Jm l n).1)(O:(B.length:Int)=n):Jg ⟨n,k,B⟩=if 1<=k/\k<=n/\n<=12 then(0,-1)else(2,-1):=by
 obtain⟨I,_,_,_⟩:=sK K;by_cases D:1<=k/\k<=n/\n<=12
 ·rw[if_pos D,wU (c:=⟨n,k,B⟩) D O];exact UY (by show 1<=B.length;omega) (by show B.length<=16;omega) (fun x J=>(YP I).1 x (H.mem x J)) H.nodup
 ·rw[if_neg D,vZ (c:=⟨n,k,B⟩) D]
def Y0 (W:World)(b:Nat)(B D H:zd):World:=((W.setCell ⟨b,0,aa⟩ B).setCell ⟨b,1,aa⟩ D).setCell ⟨b,2,aa⟩ H
theorem G2 {a1 U:zd}(Z:W.heap[b]?=ab (.cells #[O,a1,U] T (0,0)))(B D H:zd):(Y0 W b B D H).heap[b]?=ab (.cells #[B,D,H] T (0,0)):=by
 unfold Y0;have I:=Qc Z 0 B;have J:=Qc I 1 D;have K:=Qc J 2 H;rw[K];simp only[List.setIfInBounds_toArray,List.set_cons_zero,List.set_cons_succ]
theorem sM (W:World)(b:Nat)(D H I:zd)(B:k≠b):(Y0 W b D H I).heap[k]?=W.heap[k]?:=by
 unfold Y0;rw[aq _ _ _ _ B,aq _ _ _ _ B,aq _ _ _ _ B]
theorem xS {B:Nat}(Z:ae B w W)(D:B<=b)(H I J:zd):ae B w (Y0 W b H I J):=by
 unfold Y0;have K:=Z.setCell (p:=⟨b,0,aa⟩) D H;generalize W.setCell ⟨b,0,aa⟩ H=O at *;have U:=K.setCell (p:=⟨b,1,aa⟩) D I;generalize O.setCell ⟨b,1,aa⟩ I=W2 at *;exact U.setCell (p:=⟨b,2,aa⟩) D J
theorem Jd.pS {w':World}{x:Int}(h:Jd w ad I c at_)(hs:w.cell? ⟨b,1,aa⟩=ab (Value.int .i64 x))(J:∀k,k≠b->w'.heap[k]?=w.heap[k]?):Jd w' ad I c at_:=by
 rcases h with h|h|⟨i,B,K,O,U,Z,D⟩
 ·exact zb h
 ·exact ay (zb h)
 ·have H:B≠b:=fun e=>by
   subst e;rw[hs]at D;cases D
  exact ay (ay ⟨i,B,K,O,U,(ai (a:=⟨B,0,aa⟩) (J B H)).trans Z,(ai (a:=⟨B,1,aa⟩) (J B H)).trans D⟩)
theorem DS {a2:zd}{x0 x1:Int}(hW:ae w.heap.size w W)(U:W.heap[w.heap.size]?=ab (.cells #[.int .i64 x0,.int .i64 x1,a2] T (0,0)))(hI:Jd W ad O c at_)(H I J:zd){B:World}(K:B=Y0 W w.heap.size H I J):
 (B.cell? ⟨w.heap.size,0,aa⟩=ab H/\B.cell? ⟨w.heap.size,1,aa⟩=ab I/\B.cell? ⟨w.heap.size,2,aa⟩=ab J)/\Jd B ad O c at_/\ae w.heap.size w B:=by
 have D:=G2 U H I J;rw[<-K]at D;refine⟨⟨(Xa D 0).1,(Xa D 1).1,(Xa D 2).1⟩,?_,by rw[K];exact xS hW nR _ _ _⟩;have Z:=(Xa U 1).1;exact hI.pS Z (fun k hk=>by rw[K];exact sM _ _ _ _ _ hk)
def j3 (ad:Nat->za)(w:World)(l:List BA)(n k:Int)(e:Ending)(w':World):Prop :=
 ((0<(Zr l n k).1/\∃B,e=.returned (.tuple #[.agg #[.int .i64 0,.int .i64 0,.slice aa 0 0],B])/\Jd w' ad B (Zr l n k).1 (Zr l n k).2) ∨
  (¬0<(Zr l n k).1/\∃c:fB,e=.returned (.tuple #[.agg #[.int .i64 c.c.n,.int .i64 c.c.k,c.v],.nilIface])/\c.c.n=n/\c.c.k=k/\XC (Xy wX) l c.c.L/\¬0<(Jg c.c).1/\Yn w' c.c c.p c.cap/\∀b o,c.p=ab ⟨b,o,aa⟩->w.heap.size<=b/\b<w'.heap.size))/\ae w.heap.size w w'
end
section
open Ring
theorem T3:∀args W,(callFunc 30 args).run prog W=.ok (.enter 30 args) W:=enters_of func30 (by kernel_rfl) rfl
theorem FN (ad:Nat->za)(p:Option za)(l:List BA)(cap:Nat)(n k:Int)(w:World)(hl:l.length<=1000)(hc:l.length<=cap)(hx:∀x∈l,x.size<=1000)(hn:Zt n)(hk:Zt k)(hs:Xi w p l)(hE:iZ ad w):
 an prog 14 #[.slice p l.length cap,.int .i64 n,.int .i64 k] w (j3 ad w l n k):=by
 obtain⟨H,b3⟩:=Xb (w.alloc (.cells #[.int .i64 0,.int .i64 0,.slice aa 0 0] 49));have a3:=Zk b3;have e8:=JH b3;have f9:=fQ b3;have d6:∀W,ae w.heap.size w W->i7 W ad:=fun W J=>⟨(hE.q.below J).c1,(hE.q.below J).c3,(hE.q.below J).c5,(J.cell (Yl hE.bO)).trans hE.bO⟩
 have b1:=(FU ad).check p l cap H hl hc hx (hs.below a3) (d6 H a3);have b2:Hid _:=b3;have f5:Hid _:=a3;have HK:Hid (∀W,ae H.heap.size H W->W.heap[w.heap.size]?=ab (.cells #[.int .i64 0,.int .i64 0,.slice aa 0 0] 49 (0,0))):=fun W J=>(J.block _ f9).trans e8
 have b5:Hid (∀W t v c at_,ae H.heap.size H W->Jd W ad (.iface t v) c at_->0<c->Zr l n k=(c,at_)->∀D,D=Y0 W w.heap.size (.int .i64 0) (.int .i64 0) (.slice aa 0 0)->(D.cell? (pA w.heap.size 0)=ab (.int .i64 0)/\D.cell? (pA w.heap.size 1)=ab (.int .i64 0)/\D.cell? (pA w.heap.size 2)=ab (.slice aa 0 0))/\j3 ad w l n k (.returned (.tuple #[.agg #[.int .i64 0,.int .i64 0,.slice aa 0 0],.iface t v])) D):=fun W t v c at_ J K i2 h6 D b6=>by
  obtain⟨g1,g2,g3⟩:=DS (a3.trans (J.mono a3.size)) (HK.out W J) K _ _ _ b6;exact⟨g1,zb ⟨by rw[h6];exact i2,_,rfl,by rw[h6];exact g2⟩,g3⟩
 by_cases hN:0<(Xj l).1
 ·have a7:Hid (Zr l n k=((Xj l).1,(Xj l).2)):=by show _=_;unfold Zr;rw[if_pos hN]
  have HN:Hid _:=hN;generalize j3 ad w l n k=G at *;clear a3 e8 f9 b3 d6 hE hs hx hc hl hn hk;go_enter func14,ntmps14;go_wp2_with (rw[<-b2.out])
  refine b1.mono ?_;rintro e w2 ⟨⟨ev,rfl,K⟩,a4⟩;obtain⟨t,v,rfl⟩:=K.some HN.out;have I:Hid _:=HK.out w2 a4;have f0:=(Xa I.out 0).2;have f1:=(Xa I.out 1).2;have f2:=(Xa I.out 2).2;have a0:=(Xa I.out 0).1;have a1:=(Xa I.out 1).1;have a2:=(Xa I.out 2).1;obtain⟨D,b6⟩:=Xb (Y0 w2 w.heap.size (.int .i64 0) (.int .i64 0) (.slice aa 0 0));obtain⟨⟨d0,d1,d2⟩,hG⟩:=b5.out w2 t v _ _ a4 K HN.out a7.out D b6;have HG:Hid _:=hG;have i3:Hid (D=((w2.setCell (pA w.heap.size 0) (.int .i64 0)).setCell (pA w.heap.size 1) (.int .i64 0)).setCell (pA w.heap.size 2) (.slice aa 0 0)):=b6;clear hG b6 K a4 b1 b5 HK I HN a7 f5 b2;generalize w.heap.size=b at *;go_wp2;rw[<-i3.out];refine ax (v:=.tuple #[.agg #[.int .i64 0,.int .i64 0,.slice aa 0 0],.iface t v]) (by simp[aR,results14,go_sem,d0,d1,d2]) rfl HG.out
 ·have g5:Xj l=(0,-1):=(QV (by omega)).1;have d4:Hid (∀W,ae H.heap.size H W->an prog 29 #[.slice p l.length cap,.func (.func 30) #[] #[]] W fun e w'=>(∃r:Int,e=.returned (.int .i64 r)/\((∃i:Nat,i<l.length/\r=(i:Int)/\Yz (Yc l i)=am/\∀j,j<i->Yz (Yc l j)=af)∨r=-1/\∀j,j<l.length->Yz (Yc l j)=af))/\Hid (ae H.heap.size H w')):=fun W J=>by
   have e9:ae w.heap.size w W:=a3.trans (J.mono a3.size);refine(JoZ p l cap 30 #[] Yz W (by omega) (hs.below e9) T3 (fun i hi V hV=>?_)).mono fun e w' hq=>⟨hq.1,J.trans (hq.2.mono J.size)⟩
   have i4:ae w.heap.size w V:=e9.trans (hV.mono e9.size);exact RX (Yc l i) V (TabIs.dJ hE.x.2 (fun k hk=>i4.block k hk))
  by_cases hT:iJ l<l.length
  ·have a7:Hid (Zr l n k=(((5+1:Nat):Int),(iJ l:Int))):=by show _=_;unfold Zr;rw[if_neg hN,if_pos hT];rfl
   have b7:Hid (∀r:Int,((∃i:Nat,i<l.length/\r=(i:Int)/\Yz (Yc l i)=am/\∀j,j<i->Yz (Yc l j)=af)∨r=-1/\∀j,j<l.length->Yz (Yc l j)=af)->r=(iJ l:Int)):=fun r hr=>by
    rcases hr with⟨i,Z,h2,h3,h4⟩|⟨_,h2⟩
    ·rw[CY Z h3 h4];exact h2
    ·exact absurd hT (L5 h2)
   have h7:Hid (∀W,ae H.heap.size H W->W.cell? ⟨2,0,aa⟩=ab (.iface 335 (.pointer (ab (ad 5))))):=fun W J=>(hE.q.below (a3.trans (J.mono a3.size))).c5
   have HN:Hid (∀(ev:zd) W,Jd W ad ev (Xj l).1 (Xj l).2->ev=.nilIface):=fun ev W K=>K.none (by omega)
   have i5:Hid (∀W,ae H.heap.size H W->2≠w.heap.size):=fun W J=>by have:=Yl hE.q.c5;omega
   generalize j3 ad w l n k=G at *;clear a3 e8 f9 b3 d6 hE hs hx hc hl hn hk g5 hN;go_enter func14,ntmps14;go_wp2_with (rw[<-b2.out])
   refine b1.mono ?_;rintro e w2 ⟨⟨ev,rfl,K⟩,a4⟩;obtain rfl:=HN.out ev w2 K;have a8:=d4.out w2 a4;clear K a4 d4 HN b1;go_wp2_with fail
   refine a8.mono ?_;rintro e D ⟨⟨r,rfl,hr⟩,a5⟩;have HR:Hid (r=(iJ l:Int)):=b7.out r hr;obtain⟨j,hj⟩:∃j:Nat,j=iJ l:=⟨_,rfl⟩;have HJ:Hid (j=iJ l):=hj;obtain rfl:r=(j:Int):=by rw[hj];exact HR.out
   have z0:(0:Int)<=(j:Int):=by omega
   have c5:=h7.out D a5.out;have I:Hid (D.heap[w.heap.size]?=ab (.cells #[.int .i64 0,.int .i64 0,.slice aa 0 0] 49 (0,0))):=HK.out D a5.out;have f0:=(Xa I.out 0).2;have f1:=(Xa I.out 1).2;have f2:=(Xa I.out 2).2;have a0:D.cell? (pA w.heap.size 0)=ab (.int .i64 0):=(Xa I.out 0).1;have a1:D.cell? (pA w.heap.size 1)=ab (.int .i64 0):=(Xa I.out 1).1;have a2:D.cell? (pA w.heap.size 2)=ab (.slice aa 0 0):=(Xa I.out 2).1;obtain⟨ob,g9⟩:∃ob:Obj,ob=.cells #[.int .i64 (j:Int),.iface 335 (.pointer (ab (ad 5)))] 77:=⟨_,rfl⟩;have h8:ae D.heap.size D (D.alloc ob):=bR.alloc nR _;have h0:ae H.heap.size H (D.alloc ob):=a5.out.trans (h8.mono a5.out.size);have d7:Hid ((D.alloc ob).heap[w.heap.size]?=ab (.cells #[.int .i64 0,.int .i64 0,.slice aa 0 0] 49 (0,0))):=HK.out _ h0;have d0:(D.alloc ob).cell? (pA w.heap.size 0)=ab (.int .i64 0):=(Xa d7.out 0).1;have d1:(D.alloc ob).cell? (pA w.heap.size 1)=ab (.int .i64 0):=(Xa d7.out 1).1;have d2:(D.alloc ob).cell? (pA w.heap.size 2)=ab (.slice aa 0 0):=(Xa d7.out 2).1;have g0:=(Xa d7.out 0).2;have g1:=(Xa d7.out 1).2;have g2:=(Xa d7.out 2).2;have s0:=Yo a0;have s1:=Yo a1;have s2:=Yo a2;have t0:=Yo d0;have t1:=Yo d1;have t2:=Yo d2;have K:Jd (D.alloc ob).drew ad (.iface 75 (.pointer (ab (pA D.heap.size 0)))) ((5+1:Nat):Int) (iJ l:Int):=by
    rw[<-hj];exact(zP 5 (by decide) (j:Int) (by rw[g9])).below bR.drew
   have u0:=Yo (w:=(D.alloc ob).drew) d0;have u1:=Yo (w:=(D.alloc ob).drew) d1;have u2:=Yo (w:=(D.alloc ob).drew) d2;have HG:Hid (G (.returned (.tuple #[.agg #[.int .i64 0,.int .i64 0,.slice aa 0 0],.iface 75 (.pointer (ab (pA D.heap.size 0)))])) (D.alloc ob).drew):=(b5.out (D.alloc ob).drew _ _ _ _ h0.drew K (by decide) a7.out _ (by unfold Y0;rw[u0,u1,u2])).2;clear u0 u1 u2 K h8 h0 HR hj hr b7 h7 a8 HK I d7 f5 b2 b5 HJ a7 i5;rw[g9]at d0 d1 d2 g0 g1 g2 t0 t1 t2 HG;clear g9;obtain⟨O,f3⟩:=Xb ((D.alloc (.cells #[.int .i64 (j:Int),.iface 335 (.pointer (ab (ad 5)))] 77)).drew);have r0:O.cell? (pA w.heap.size 0)=ab (.int .i64 0):=by rw[f3];exact d0
   have r1:O.cell? (pA w.heap.size 1)=ab (.int .i64 0):=by rw[f3];exact d1
   have r2:O.cell? (pA w.heap.size 2)=ab (.slice aa 0 0):=by rw[f3];exact d2
   rw[<-f3]at HG;have i8:Hid (O=(D.alloc (.cells #[.int .i64 (j:Int),.iface 335 (.pointer (ab (ad 5)))] 77)).drew):=f3;clear f3;generalize w.heap.size=b at *;go_wp2;go_region
   all_goals rw[<-i8.out]
   all_goals go_wp2
   all_goals refine ax (v:=.tuple #[.agg #[.int .i64 0,.int .i64 0,.slice aa 0 0],.iface 75 (.pointer (ab (pA D.heap.size 0)))]) (by simp[aR,results14,go_sem,r0,r1,r2]) rfl HG.out
  ·have b7:Hid (∀r:Int,((∃i:Nat,i<l.length/\r=(i:Int)/\Yz (Yc l i)=am/\∀j,j<i->Yz (Yc l j)=af) ∨ r= -1/\∀j,j<l.length->Yz (Yc l j)=af)->r= -1):=fun r hr=>by
    rcases hr with⟨i,Z,h2,h3,h4⟩|⟨Z,h2⟩
    ·exact absurd (by rw[CY Z h3 h4];exact Z) hT
    ·exact Z
   have HN:Hid (∀(ev:zd) W,Jd W ad ev (Xj l).1 (Xj l).2->ev=.nilIface):=fun ev W K=>K.none (by omega)
   have f6:Hid (∀W,ae H.heap.size H W->an prog 31 #[.slice p l.length cap,.string ⟨#[120]⟩,.int .i64 n] W fun e w'=>I9 w' ad W.heap.size l (Xy ⟨#[120]⟩) n e/\Hid (ae H.heap.size H w')):=fun W J=>by
    have e9:ae w.heap.size w W:=a3.trans (J.mono a3.size);exact((FU ad).jD p l cap ⟨#[120]⟩ n W hl hc hx (by decide) (hs.below e9) (d6 W e9)).mono fun e w' hq=>⟨hq.1,J.trans (hq.2.mono J.size)⟩
   by_cases hP:0<(Jm l n).1
   ·have a7:Hid (Zr l n k=((Jm l n).1,(Jm l n).2)):=by show _=_;unfold Zr;rw[if_neg hN,if_neg hT,if_pos hP]
    have HP:Hid (0<(Jm l n).1):=hP;have d8:Hid (∀W,ae H.heap.size H W->an prog 31 #[.slice p l.length cap,.string ⟨#[120]⟩,.int .i64 n] W fun e w'=>(∃q c t v,e=.returned (.tuple #[.slice q 0 c,.iface t v])/\Jd w' ad (.iface t v) (Jm l n).1 (Jm l n).2)/\Hid (ae H.heap.size H w')):=fun W J=>(f6.out W J).mono fun e w' hq=>by
     refine⟨?_,hq.2⟩;rcases hq.1 with⟨_,q,c,ev,Z,h2⟩|⟨Z,_⟩
     ·obtain⟨t,v,rfl⟩:=h2.some hP;exact⟨q,c,t,v,Z,h2⟩
     ·exact absurd hP Z
    generalize j3 ad w l n k=G at *;clear a3 e8 f9 b3 d6 hE hs hx hc hl hn hk g5 hN f6 hT hP;go_enter func14,ntmps14;go_wp2_with (rw[<-b2.out])
    refine b1.mono ?_;rintro e w2 ⟨⟨ev,rfl,K⟩,a4⟩;obtain rfl:=HN.out ev w2 K;have a8:=d4.out w2 a4;clear K a4 d4 HN b1;go_wp2_with fail
    refine a8.mono ?_;rintro e D ⟨⟨r,rfl,hr⟩,a5⟩;obtain rfl:=b7.out r hr;have d5:=d8.out D a5.out;clear hr b7 a8 d8;go_wp2_with fail
    refine d5.mono ?_;rintro e O ⟨⟨q,c,t,v,rfl,K⟩,a9⟩;have I:Hid (O.heap[w.heap.size]?=ab (.cells #[.int .i64 0,.int .i64 0,.slice aa 0 0] 49 (0,0))):=HK.out O a9.out;have f0:=(Xa I.out 0).2;have f1:=(Xa I.out 1).2;have f2:=(Xa I.out 2).2;have a0:O.cell? (pA w.heap.size 0)=ab (.int .i64 0):=(Xa I.out 0).1;have a1:O.cell? (pA w.heap.size 1)=ab (.int .i64 0):=(Xa I.out 1).1;have a2:O.cell? (pA w.heap.size 2)=ab (.slice aa 0 0):=(Xa I.out 2).1;obtain⟨U,a6⟩:=Xb (Y0 O w.heap.size (.int .i64 0) (.int .i64 0) (.slice aa 0 0));obtain⟨⟨d0,d1,d2⟩,hG⟩:=b5.out O t v _ _ a9.out K HP.out a7.out U a6;have HG:Hid (G (.returned (.tuple #[.agg #[.int .i64 0,.int .i64 0,.slice aa 0 0],.iface t v])) U):=hG;have d9:Hid (U=((O.setCell (pA w.heap.size 0) (.int .i64 0)).setCell (pA w.heap.size 1) (.int .i64 0)).setCell (pA w.heap.size 2) (.slice aa 0 0)):=a6;clear hG a6 K d5 b5 HK I HP a7 f5 b2 a5 a9;generalize w.heap.size=b at *;go_wp2;rw[<-d9.out];refine ax (v:=.tuple #[.agg #[.int .i64 0,.int .i64 0,.slice aa 0 0],.iface t v]) (by simp[aR,results14,go_sem,d0,d1,d2]) rfl HG.out
   ·have d8:Hid (∀W,ae H.heap.size H W->an prog 31 #[.slice p l.length cap,.string ⟨#[120]⟩,.int .i64 n] W fun e w'=>(∃q c B,e=.returned (.tuple #[.slice q B.length c,.nilIface])/\Hid (XC (Xy wX) l B/\(B.length:Int)=n/\Yn w' ⟨n,k,B⟩ q c/\∀b o,q=ab (pA b o)->W.heap.size<=b/\b<w'.heap.size))/\Hid (ae H.heap.size H w')):=fun W J=>(f6.out W J).mono fun e w' hq=>by
     refine⟨?_,hq.2⟩;rcases hq.1 with⟨Z,_⟩|⟨_,v,B,Z,h2,h3,h4⟩
     ·exact absurd Z hP
     ·obtain⟨q,c,rfl,g1,g2,g3,g4⟩:=h2.form;obtain⟨r1,r2,r3,_⟩:=sK hP;exact⟨q,c,B,Z,h4,h3,⟨g1,g2,fun e=>⟨(by rcases g1 with h|⟨b,o,hq,_⟩;exact h;rw[e]at hq;cases hq),g3 e⟩,by show B.length<=1000;omega,fun x i9=>hx x (h4.mem x i9),⟨hn,hk⟩⟩,g4⟩
    have g6:Hid (∀W (q:Option za) (c:Nat) (B:List BA),ae H.heap.size H W->Yn W ⟨n,k,B⟩ q c->an prog 32 #[.agg #[.int .i64 n,.int .i64 k,.slice q B.length c]] W fun e w'=>(∃ev,e=.returned ev/\Jd w' ad ev (Jg ⟨n,k,B⟩).1 (Jg ⟨n,k,B⟩).2)/\Hid (ae H.heap.size H w'/\ae W.heap.size W w')):=fun W q c B J hC=>(qU ad ⟨n,k,B⟩ q c W hC (hE.q.below (a3.trans (J.mono a3.size)))).mono fun e w' hq=>⟨hq.1,J.trans (hq.2.mono J.size),hq.2⟩
    by_cases hC:1<=k/\k<=n/\n<=12
    ·have a7:Hid (Zr l n k=(0,-1)):=by show _=_;unfold Zr;rw[if_neg hN,if_neg hT,if_neg hP,if_pos hC]
     have f4:Hid (∀B,XC (Xy wX) l B->(B.length:Int)=n->Jg ⟨n,k,B⟩=(0,-1)):=fun B Z h2=>by rw[FR Z hP h2,if_pos hC]
     have h9:Hid (∀W (q:Option za) (c:Nat) (B:List BA),ae H.heap.size H W->XC (Xy wX) l B->(B.length:Int)=n->Yn W ⟨n,k,B⟩ q c->(∀b o,q=ab (pA b o)->H.heap.size<=b/\b<W.heap.size)->∀D,D=Y0 W w.heap.size (.int .i64 n) (.int .i64 k) (.slice q B.length c)->(D.cell? (pA w.heap.size 0)=ab (.int .i64 n)/\D.cell? (pA w.heap.size 1)=ab (.int .i64 k)/\D.cell? (pA w.heap.size 2)=ab (.slice q B.length c))/\j3 ad w l n k (.returned (.tuple #[.agg #[.int .i64 n,.int .i64 k,.slice q B.length c],.nilIface])) D):=fun W q c B J Z h2 h3 h4 D b6=>by
      obtain⟨g1,_,g3⟩:=DS (a3.trans (J.mono a3.size)) (HK.out W J) (Jd.nil W ad) _ _ _ b6;have j0:D.heap.size=W.heap.size:=by rw[b6];unfold Y0;simp[zg]
      refine⟨g1,ay ⟨by rw[a7.out];decide,⟨⟨n,k,B⟩,q,c⟩,rfl,rfl,rfl,Z,by rw[f4.out B Z h2];decide,⟨h3.strs.same (by omega) (fun b o e=>?_),h3.room,h3.empty,h3.len,h3.size,h3.ints⟩,fun b o e=>?_⟩,g3⟩
      ·rw[b6];exact sM _ _ _ _ _ (by have:=(h4 b o e).1;omega)
      ·have:=h4 b o e;omega
     generalize j3 ad w l n k=G at *;clear e8 b3 d6 hE hs hx hc hl hn hk g5 hN f6 hT hP b5 hC;go_enter func14,ntmps14;go_wp2_with (rw[<-b2.out])
     refine b1.mono ?_;rintro e w2 ⟨⟨ev,rfl,K⟩,a4⟩;obtain rfl:=HN.out ev w2 K;have a8:=d4.out w2 a4;clear K a4 d4 HN b1;go_wp2_with fail
     refine a8.mono ?_;rintro e D ⟨⟨r,rfl,hr⟩,a5⟩;obtain rfl:=b7.out r hr;have d5:=d8.out D a5.out;have f7:=a5.out.size;clear hr b7 a8 d8;go_wp2_with fail
     refine d5.mono ?_;rintro e O ⟨⟨q,c,B,rfl,HO⟩,a9⟩;obtain⟨e0,e1,e2,e3⟩:=HO.out;obtain⟨U,a6⟩:=Xb (O.alloc (.cells #[.int .i64 n,.int .i64 k,.slice q B.length c] 49));have b8:=Zk a6;have b0:=JH a6;have e4:=fQ a6;have f8:ae H.heap.size H U:=a9.out.trans (b8.mono a9.out.size);have e5:=g6.out U q c B f8 (e2.below b8);have k0:U.cell? (pA O.heap.size 0)=ab (.int .i64 n):=(Xa b0 0).1;have k1:U.cell? (pA O.heap.size 1)=ab (.int .i64 k):=(Xa b0 1).1;have k2:U.cell? (pA O.heap.size 2)=ab (.slice q B.length c):=(Xa b0 2).1;rw[f4.out B e0 e1]at e5;have g7:Hid (∀W,ae U.heap.size U W->W.heap[O.heap.size]?=ab (.cells #[.int .i64 n,.int .i64 k,.slice q B.length c] 49 (0,0))/\Yn W ⟨n,k,B⟩ q c):=fun W J=>⟨(J.block _ e4).trans b0,(e2.below b8).below J⟩
     have e6:Hid (XC (Xy wX) l B/\(B.length:Int)=n/\(∀b o,q=ab (pA b o)->H.heap.size<=b/\b<U.heap.size)):=⟨e0,e1,fun b o e=>⟨al f7 (e3 b o e).1,ba (e3 b o e).2 e4⟩⟩;have d9:Hid (U=O.alloc (.cells #[.int .i64 n,.int .i64 k,.slice q B.length c] 49)):=a6;have i0:Hid (∀W,ae H.heap.size H W->ae U.heap.size U W->Yn W ⟨n,k,B⟩ q c->∀D,D=Y0 W w.heap.size (.int .i64 n) (.int .i64 k) (.slice q B.length c)->(D.cell? (pA w.heap.size 0)=ab (.int .i64 n)/\D.cell? (pA w.heap.size 1)=ab (.int .i64 k)/\D.cell? (pA w.heap.size 2)=ab (.slice q B.length c))/\G (.returned (.tuple #[.agg #[.int .i64 n,.int .i64 k,.slice q B.length c],.nilIface])) D):=fun W Z h2 h3=>h9.out W q c B Z e6.out.1 e6.out.2.1 h3 (fun b o e=>⟨(e6.out.2.2 b o e).1,ap (e6.out.2.2 b o e).2 h2.size⟩)
     clear e0 e1 e2 e3 a6 b8 b0 e4 f8 HO d5 g6 f4 a7 f7 h9 e6;generalize B.length=ol at *;go_wp2_with (rw[<-d9.out])
     refine e5.mono ?_;rintro e w6 ⟨⟨ev,rfl,K⟩,d3⟩;obtain rfl:=K.none (by decide);obtain⟨g8,i1⟩:=g7.out w6 d3.out.2;have m0:w6.cell? (pA O.heap.size 0)=ab (.int .i64 n):=(Xa g8 0).1;have m1:w6.cell? (pA O.heap.size 1)=ab (.int .i64 k):=(Xa g8 1).1;have m2:w6.cell? (pA O.heap.size 2)=ab (.slice q ol c):=(Xa g8 2).1;have I:Hid (w6.heap[w.heap.size]?=ab (.cells #[.int .i64 0,.int .i64 0,.slice aa 0 0] 49 (0,0))):=HK.out w6 d3.out.1;have f0:=(Xa I.out 0).2;have f1:=(Xa I.out 1).2;have f2:=(Xa I.out 2).2;have a0:w6.cell? (pA w.heap.size 0)=ab (.int .i64 0):=(Xa I.out 0).1;have a1:w6.cell? (pA w.heap.size 1)=ab (.int .i64 0):=(Xa I.out 1).1;have a2:w6.cell? (pA w.heap.size 2)=ab (.slice aa 0 0):=(Xa I.out 2).1;obtain⟨w7,e7⟩:=Xb (Y0 w6 w.heap.size (.int .i64 n) (.int .i64 k) (.slice q ol c));obtain⟨⟨d0,d1,d2⟩,hG⟩:=i0.out w6 d3.out.1 d3.out.2 i1 w7 e7;have HG:Hid (G (.returned (.tuple #[.agg #[.int .i64 n,.int .i64 k,.slice q ol c],.nilIface])) w7):=hG;have h5:Hid (w7=((w6.setCell (pA w.heap.size 0) (.int .i64 n)).setCell (pA w.heap.size 1) (.int .i64 k)).setCell (pA w.heap.size 2) (.slice q ol c)):=e7;clear hG e7 K g8 i1 g7 HK I i0 e5 d9 d3 a9 a5 f5 b2 k0 k1 k2;generalize w.heap.size=b at *;generalize O.heap.size=b4 at *;go_wp2;rw[<-h5.out];refine ax (v:=.tuple #[.agg #[.int .i64 n,.int .i64 k,.slice q ol c],.nilIface]) (by simp[aR,results14,go_sem,d0,d1,d2]) rfl HG.out
    ·have a7:Hid (Zr l n k=(2,-1)):=by show _=_;unfold Zr;rw[if_neg hN,if_neg hT,if_neg hP,if_neg hC]
     have f4:Hid (∀B,XC (Xy wX) l B->(B.length:Int)=n->Jg ⟨n,k,B⟩=(2,-1)):=fun B Z h2=>by rw[FR Z hP h2,if_neg hC]
     generalize j3 ad w l n k=G at *;clear e8 b3 d6 hE hs hx hc hl hn hk g5 hN f6 hT hP hC;go_enter func14,ntmps14;go_wp2_with (rw[<-b2.out])
     refine b1.mono ?_;rintro e w2 ⟨⟨ev,rfl,K⟩,a4⟩;obtain rfl:=HN.out ev w2 K;have a8:=d4.out w2 a4;clear K a4 d4 HN b1;go_wp2_with fail
     refine a8.mono ?_;rintro e D ⟨⟨r,rfl,hr⟩,a5⟩;obtain rfl:=b7.out r hr;have d5:=d8.out D a5.out;have f7:=a5.out.size;clear hr b7 a8 d8;go_wp2_with fail
     refine d5.mono ?_;rintro e O ⟨⟨q,c,B,rfl,HO⟩,a9⟩;obtain⟨e0,e1,e2,e3⟩:=HO.out;obtain⟨U,a6⟩:=Xb (O.alloc (.cells #[.int .i64 n,.int .i64 k,.slice q B.length c] 49));have b8:=Zk a6;have b0:=JH a6;have e4:=fQ a6;have f8:ae H.heap.size H U:=a9.out.trans (b8.mono a9.out.size);have e5:=g6.out U q c B f8 (e2.below b8);have k0:U.cell? (pA O.heap.size 0)=ab (.int .i64 n):=(Xa b0 0).1;have k1:U.cell? (pA O.heap.size 1)=ab (.int .i64 k):=(Xa b0 1).1;have k2:U.cell? (pA O.heap.size 2)=ab (.slice q B.length c):=(Xa b0 2).1;rw[f4.out B e0 e1]at e5;have g7:Hid (∀W,ae U.heap.size U W->W.heap[O.heap.size]?=ab (.cells #[.int .i64 n,.int .i64 k,.slice q B.length c] 49 (0,0))/\Yn W ⟨n,k,B⟩ q c):=fun W J=>⟨(J.block _ e4).trans b0,(e2.below b8).below J⟩
     have e6:Hid (XC (Xy wX) l B/\(B.length:Int)=n/\(∀b o,q=ab (pA b o)->H.heap.size<=b/\b<U.heap.size)):=⟨e0,e1,fun b o e=>⟨al f7 (e3 b o e).1,ba (e3 b o e).2 e4⟩⟩;have d9:Hid (U=O.alloc (.cells #[.int .i64 n,.int .i64 k,.slice q B.length c] 49)):=a6;clear e0 e1 e2 e3 a6 b8 b0 e4 f8 HO d5 g6 f7;generalize B.length=ol at *;go_wp2_with (rw[<-d9.out])
     refine e5.mono ?_;rintro e w6 ⟨⟨ev,rfl,K⟩,d3⟩;obtain⟨t,v,rfl⟩:=K.some (by decide);have I:Hid (w6.heap[w.heap.size]?=ab (.cells #[.int .i64 0,.int .i64 0,.slice aa 0 0] 49 (0,0))):=HK.out w6 d3.out.1;have f0:=(Xa I.out 0).2;have f1:=(Xa I.out 1).2;have f2:=(Xa I.out 2).2;have a0:w6.cell? (pA w.heap.size 0)=ab (.int .i64 0):=(Xa I.out 0).1;have a1:w6.cell? (pA w.heap.size 1)=ab (.int .i64 0):=(Xa I.out 1).1;have a2:w6.cell? (pA w.heap.size 2)=ab (.slice aa 0 0):=(Xa I.out 2).1;obtain⟨w7,e7⟩:=Xb (Y0 w6 w.heap.size (.int .i64 0) (.int .i64 0) (.slice aa 0 0));obtain⟨⟨d0,d1,d2⟩,hG⟩:=b5.out w6 t v _ _ d3.out.1 K (by decide) a7.out w7 e7;have HG:Hid (G (.returned (.tuple #[.agg #[.int .i64 0,.int .i64 0,.slice aa 0 0],.iface t v])) w7):=hG;have h5:Hid (w7=((w6.setCell (pA w.heap.size 0) (.int .i64 0)).setCell (pA w.heap.size 1) (.int .i64 0)).setCell (pA w.heap.size 2) (.slice aa 0 0)):=e7;clear hG e7 K g7 HK I b5 e5 d9 d3 a9 a5 f5 b2 k0 k1 k2 a7 f4 e6;generalize w.heap.size=b at *;generalize O.heap.size=b4 at *;go_wp2;rw[<-h5.out];refine ax (v:=.tuple #[.agg #[.int .i64 0,.int .i64 0,.slice aa 0 0],.iface t v]) (by simp[aR,results14,go_sem,d0,d1,d2]) rfl HG.out
end
section
def Ya.cE (m:Ya)(l:List BA):Ya:={m with nodes:=m.nodes++l.map fun s=>(⟨s,[]⟩,am)}
theorem B8 (m:Ya):m.cE []=m:=by unfold Ya.cE;rw[List.map_nil,List.append_nil]
theorem SK (m:Ya)(l:List BA)(s:BA):m.cE (l++ [s])=(m.cE l).cE [s]:=by
 unfold Ya.cE;rw[aF,<-aN]
section
variable {w w':World} {B h:Nat} {O O':Nat->Option Whose} {m:Ya} {X:WB} {ml:List (Zb×Lv)} {nb hn:Nat->Nat} {n k:Nat} {ad:Nat->za}
theorem XJ.spare (H:XJ w B O m X ml nb hn){t:Whose}{N:Nat}(D:Qv t O O' B w w')(I:t=.node N∨t=.mem N)(hN:m.nodes.length<=N):XJ w' B O' m X ml nb hn:=by
 have q:∀o:Whose,o≠.node N->o≠.mem N->o≠t:=fun o K U e=>by
  rcases I with I|I
  ·exact K (e.trans I)
  ·exact U (e.trans I)
 exact {aO:=D.aO,row:=(H.cO D (q _ (fun e=>by cases e) (fun e=>by cases e))).1,cX:=(H.cO D (q _ (fun e=>by cases e) (fun e=>by cases e))).2,dK:=H.dK,bD:=H.eR D (q _ (fun e=>by cases e) (fun e=>by cases e)),bV:=(H.cP D (q _ (fun e=>by cases e) (fun e=>by cases e))).1,cS:=(H.cP D (q _ (fun e=>by cases e) (fun e=>by cases e))).2,cD:=(H.bY D (q _ (fun e=>by cases e) (fun e=>by cases e))).1,bU:=(H.bY D (q _ (fun e=>by cases e) (fun e=>by cases e))).2,node:=fun i J=>H.dB D J (q _ (fun e=>by injection e with e;omega) (fun e=>by cases e)),mem:=fun i J=>H.dZ D J (q _ (fun e=>by cases e) (fun e=>by injection e with e;omega)),ask:=fun j Z=>(H.ask j Z).kept D (q _ (fun e=>by cases e) (fun e=>by cases e)),bI:=H.bI.kept D (q _ (fun e=>by cases e) (fun e=>by cases e)) (q _ (fun e=>by cases e) (fun e=>by cases e)),cf:=H.cf.kept D.bD D.size (fun k hk=>D.kept k _ hk (q _ (fun e=>by cases e) (fun e=>by cases e)) (fun e=>by cases e))}
theorem XJ.pV (H:XJ w B O m X ml nb hn)(D:Qv .cD O O' B w w'){m':Ya}{X':WB}{I J:Nat->Nat}(e1:m'.L=m.L)(e3:m'.events=m.events)(e4:m'.mover=m.mover)(K:m'.asks=m.asks/\m'.texts=m.texts/\m'.since=m.since)
 (U:X'.vm=X.vm) (Z:X'.ve=X.ve) (x4:X'.mp=X.mp) (x5:X'.nx=X.nx) (x6:X'.cf=X.cf) (x7:X'.cl=X.cl) (hr:Zc j5 93 w' B X'.vn ((ah m'.nodes.length).map I)) (a0:∀k,X'.vn.ownBlock=ab k->O' k=ab .cD)
 (a2:∀i,i<m'.nodes.length->w'.heap[I i]?=ab (.cells #[.pointer (ab ⟨J i,0,aa⟩),.string (Jc m'.nodes i).1.name,.bool (!(Jc m'.nodes i).2)] 95 (0,0))/\O' (I i)=ab (.node i)) (a3:∀i,i<m'.nodes.length->XE w' B (J i) (fun k=>O' k=ab (.mem i)) (Jc m'.nodes i).1):XJ w' B O' m' X' ml I J where
 aO:=D.aO
 row:=by rw[U];exact(H.cO D (fun e=>by cases e)).1
 cX:=by rw[U];exact(H.cO D (fun e=>by cases e)).2
 dK:=by rw[e1];exact H.dK
 bD:=H.eR D (fun e=>by cases e)
 bV:=by rw[Z,e3];exact(H.cP D (fun e=>by cases e)).1
 cS:=by rw[Z];exact(H.cP D (fun e=>by cases e)).2
 cD:=hr
 bU:=a0
 node:=a2
 mem:=a3
 ask:=fun j hj=>by rw[K.1,K.2.1,K.2.2,x7];exact(H.ask j hj).kept D (fun e=>by cases e)
 bI:=by rw[e4,x4,x5];exact H.bI.kept D (fun e=>by cases e) (fun e=>by cases e)
 cf:=by rw[x6];exact H.cf.kept D.bD D.size (fun k hk=>D.kept k _ hk (fun e=>by cases e) (fun e=>by cases e))
theorem XE.base {B':Nat}(U:XE w B' b S x)(hB:B<=B'):XE w B b S x:=by
 obtain⟨mp,D,J,K,H⟩:=U;exact⟨mp,D,J,K,{H with aO:=fun k I=>⟨al hB (H.aO k I).1,(H.aO k I).2⟩}⟩
theorem XE.dH (I:XE w B b S x):∀k,S k->B<=k/\k<w.heap.size:=by
 obtain⟨mp,D,J,K,H⟩:=I;exact H.aO
theorem D8 {l:List (Je×Bool)}(D:i<l.length)(x:Je×Bool):Jc (l++ [x]) i=Jc l i:=by
 unfold Jc;rw[ac,ac,aB D]
theorem B9 (l:List (Je×Bool))(x:Je×Bool):Jc (l++ [x]) l.length=x:=by
 unfold Jc;rw[ac,az nR,Nat.sub_self];rfl
theorem LR (N g:Nat)(nb:Nat->Nat):(ah (N+1)).map (fun i=>if i=N then g else nb i)=(ah N).map nb++ [g]:=by
 rw[List.range_succ,aF,List.map_singleton,if_pos rfl]
 congr 1
 exact List.map_congr_left fun i D=>if_neg (by have:=List.mem_range.1 D;omega)
open Classical in
theorem Ye.jO (U:Ye w B h O m X ml nb hn){Z w3:World}{g:Nat}(hB:ae w.heap.size w Z)(hs:XE Z w.heap.size hb S ⟨s,[]⟩)(hg:w.heap.size<=g)(b7:¬S g)
 (a9:Z.heap[g]?=ab (.cells #[.pointer (ab ⟨hb,0,aa⟩),.string s,.bool af] 95 (0,0)))
 (h1:Zc j5 93 w3 B I ((ah m.nodes.length).map nb++ [g])) (h2:Z.grownBy w3 X.vn.ownBlock) (h3:I.ownBlock=X.vn.ownBlock∨∃k,I.ownBlock=ab k/\Z.heap.size<=k):
 ∃O' b8 d0,Ye (w3.setCell ⟨h,31,aa⟩ I) B h O' (m.cE [s]) {X with vn:=I} ml b8 d0/\Yd (fun k=>O k≠aa) (fun k=>O' k≠aa) w (w3.setCell ⟨h,31,aa⟩ I):=by
 have d6:g<Z.heap.size:=by
  rcases bb g Z.heap.size with h'|h'
  ·exact h'
  ·rw[Array.getElem?_eq_none h']at a9;cases a9
 have a4:∀k,w.heap.size<=k->O k=none:=fun k D=>by
  cases e:O k with
  |none=>rfl
  |some o=>have:=(U.aO k o e).2;omega
 have a3:=hs.dH;obtain⟨N,hN⟩:=Xb m.nodes.length;obtain⟨J,b0⟩:∃J:Nat->Option Whose,J=fun k=>if k=g then ab (.node N)else O k:=⟨_,rfl⟩
 have a5:J g=ab (.node N):=by rw[b0];exact if_pos rfl
 have a2:∀k,k≠g->J k=O k:=fun k D=>by rw[b0];exact if_neg D
 obtain⟨K,a6⟩:∃K:Nat->Option Whose,K=fun k=>if S k then ab (.mem N)else if J k=ab (.mem N)then ab .bD else J k:=⟨_,rfl⟩
 have b1:∀k,S k->K k=ab (.mem N):=fun k D=>by rw[a6];exact if_pos D
 have a0:∀k,¬S k->J k≠ab (.mem N)->K k=J k:=fun k D a7=>by rw[a6];simp only[if_neg D,if_neg a7]
 have b2:∀k,¬S k->J k=ab (.mem N)->K k=ab .bD:=fun k D a7=>by rw[a6];simp only[if_neg D,if_pos a7]
 have s1:∀k,S k->J k=none:=fun k D=>by rw[a2 k (fun e=>b7 (e▸D))];exact a4 k (a3 k D).1
 have T1:Qv (.node N) O J B w Z:=by
  refine⟨fun o k ho hi=>?_,fun k e=>?_,fun k o e=>?_,hB.size,fun k o e _ _=>hB.block k (U.aO k o e).2⟩
  ·by_cases e:k=g
   ·rw[e,a5,a4 g hg];exact⟨fun e=>(by injection e with e;exact absurd e.symm ho),fun e=>(by cases e)⟩
   ·rw[a2 k e]
  ·rw[a2 k (fun e'=>by rw[e',a4 g hg]at e;cases e)];exact e
  ·by_cases e':k=g
   ·have:=U.base;omega
   ·rw[a2 k e']at e;have:=U.aO k o e;have:=hB.size;omega
 have T2:Qv (.mem N) J K B Z Z:=by
  refine⟨fun o k ho hi=>?_,fun k e=>?_,fun k o e=>?_,av _,fun _ _ _ _ _=>rfl⟩
  ·by_cases e:S k
   ·rw[b1 k e,s1 k e];exact⟨fun e=>(by injection e with e;exact absurd e.symm ho),fun e=>(by cases e)⟩
   ·by_cases e2:J k=ab (.mem N)
    ·rw[b2 k e e2,e2];exact⟨fun e=>(by injection e with e;exact absurd e.symm hi),fun e=>(by injection e with e;exact absurd e.symm ho)⟩
    ·rw[a0 k e e2]
  ·rw[a0 k (fun e'=>by rw[s1 k e']at e;cases e) (fun e'=>by rw[e']at e;cases e)];exact e
  ·by_cases e':S k
   ·have:=a3 k e';have:=U.base;omega
   ·by_cases e2:J k=ab (.mem N)
    ·exact T1.aO k _ e2
    ·rw[a0 k e' e2]at e;exact T1.aO k o e
 have px:=(U.toXJ.spare T1 (zb rfl) (by omega)).spare T2 (ay rfl) (by omega);have b3:J h=ab .self:=by rw[a2 h (fun e=>by have:=U.lt;omega)];exact U.self
 have d1:K h=ab .self:=by
  rw[a0 h (fun e=>by have:=(a3 h e).1;have:=U.lt;omega) (fun e=>by rw[b3]at e;cases e)];exact b3
 have H:Ye Z B h K m X ml nb hn:={px with blk:=(hB.block h U.lt).trans U.blk,self:=d1,cV:=U.cV,dF:=U.dF,aW:=U.aW};have d2:Yd (fun k=>O k≠aa) (fun k=>K k≠aa) w Z:=by
  refine⟨hB.os,hB.tape,hB.output,hB.size,fun k D _=>hB.block k D,fun k e=>?_⟩;by_cases e1:S k
  ·exact ay (a3 k e1).1
  ·by_cases e2:k=g
   ·exact ay (by omega)
   ·refine zb ?_;rw[<-a2 k e2];intro e3;exact e (by rw[a0 k e1 (fun e4=>by rw[e3]at e4;cases e4)];exact e3)
 have b4:X.vn.ownBlock≠ab h:=fun e=>by have:=H.bU h e;rw[H.self]at this;cases this
 have d3:=h2.block h H.lt (fun e=>b4 e.symm);have d4:I.ownBlock≠ab h:=fun e=>by
  rcases h3 with h3|⟨k,h3,h4⟩
  ·exact b4 (h3.symm.trans e)
  ·rw[h3]at e;injection e with e;have:=H.lt;omega
 have d5:(w3.setCell ⟨h,31,aa⟩ I).heap.size=w3.heap.size:=by simp[zg]
 have b5:Zc j5 93 (w3.setCell ⟨h,31,aa⟩ I) B I ((ah m.nodes.length).map nb++ [g]):=h1.dC (fun k D=>Deep.blk_setCell_other _ _ _ _ (fun e=>d4 (by rw[D,e])));have a8:∀k,I.ownBlock=ab k->K k=ab .cD∨Z.heap.size<=k:=fun k D=>by
  rcases h3 with e|⟨k',e,d7⟩
  ·exact zb (H.bU k (e.symm.trans D))
  ·rw[D]at e;injection e with e;exact ay (by omega)
 have hU:Yd (fun k=>K k=ab .cD∨K k=ab .self) (fun k=>I.ownBlock=ab k) Z (w3.setCell ⟨h,31,aa⟩ I):=⟨h2.os,h2.tape,h2.output,by rw[d5];exact h2.size,fun k D hn=>(aq _ _ _ _ (fun e=>hn (ay (by have e:k=h:=e;rw[e];exact H.self)))).trans (h2.block k D (fun e=>hn (zb (H.bU k e.symm)))),fun k D=>(a8 k D).imp zb id⟩;have hT:=Qv.of (t:=.cD) (fun e=>by cases e) H.aO H.base hU a8 (fun k D=>(b5.block D).2);have b6:K g=ab (.node N):=by rw[a0 g b7 (fun e=>by rw[a5]at e;cases e)];exact a5
 have eS:(fun k=>K k=ab (.mem N))=S:=funext fun k=>propext ⟨fun e=>by
  rcases em (S k)with h'|h'
  ·exact h'
  ·exfalso;by_cases e2:J k=ab (.mem N)
   ·rw[b2 k h' e2]at e;cases e
   ·rw[a0 k h' e2]at e;exact e2 e,fun h'=>b1 k h'⟩
 exact⟨_,fun i=>if i=N then g else nb i,fun i=>if i=N then hb else hn i,{H.toXJ.pV (m':=m.cE [s]) (X':={X with vn:=I}) hT rfl rfl rfl ⟨rfl,rfl,rfl⟩ rfl rfl rfl rfl rfl rfl (by
  show Zc _ _ _ _ I ((ah (m.nodes++ [((⟨s,[]⟩,am):Je×Bool)]).length).map _);rw[ak,<-hN];show Zc _ _ _ _ I ((ah (N+1)).map _);rw[LR,hN];exact b5) (fun k D=>(ZU (fun e=>by cases e) k).2 D) (fun i hi=>by
  have hi:i<(m.nodes++ [((⟨s,[]⟩,am):Je×Bool)]).length:=hi;rw[ak]at hi;have hi:i<m.nodes.length+1:=hi;show _=ab (Obj.cells #[_,.string (Jc (m.nodes++ [((⟨s,[]⟩,am):Je×Bool)]) i).1.name,.bool (!(Jc (m.nodes++ [((⟨s,[]⟩,am):Je×Bool)]) i).2)] _ _)/\_;by_cases e:i=N
  ·simp only[if_pos e];rw[e,hN,B9,<-hN];exact⟨(hT.kept g _ b6 (fun e=>by cases e) (fun e=>by cases e)).trans a9,(hT.same _ g (fun e=>by cases e) (fun e=>by cases e)).2 b6⟩
  ·simp only[if_neg e];rw[D8 (by omega)];exact H.dB hT (by omega) (fun e=>by cases e)) (fun i hi=>by
  have hi:i<(m.nodes++ [((⟨s,[]⟩,am):Je×Bool)]).length:=hi;rw[ak]at hi;have hi:i<m.nodes.length+1:=hi;show XE _ _ _ _ (Jc (m.nodes++ [((⟨s,[]⟩,am):Je×Bool)]) i).1;by_cases e:i=N
  ·simp only[if_pos e];rw[e,hN,B9,<-hN];have h0:XE Z B hb (fun k=>K k=ab (.mem N)) ⟨s,[]⟩:=by rw[eS];exact hs.base U.base
   exact h0.kept (fun k=>hT.same _ k (fun e=>by cases e) (fun e=>by cases e)) hT.size (fun k D=>hT.kept k _ D (fun e=>by cases e) (fun e=>by cases e))
  ·simp only[if_neg e];rw[D8 (by omega)];exact H.dZ hT (by omega) (fun e=>by cases e))with blk:=Qc (d3.trans H.blk) 31 I,self:=(hT.same .self h (fun e=>by cases e) (fun e=>by cases e)).2 H.self,cV:=H.cV,dF:=H.dF,aW:=H.aW},d2.trans' (QM hU a8)⟩
end
end
section
def Ya.fresh (m:Ya)(l:List BA):List BA:=l.filter fun s=>!decide (Qe m.nodes s<m.nodes.length)
section
variable {w w':World} {B h:Nat} {O O':Nat->Option Whose} {m:Ya} {X:WB} {ml:List (Zb×Lv)} {nb hn:Nat->Nat} {n k:Nat} {ad:Nat->za}
end
end
section
section
variable {w w':World} {B h:Nat} {O O':Nat->Option Whose} {m:Ya} {X:WB} {ml:List (Zb×Lv)} {nb hn:Nat->Nat} {n k:Nat} {ad:Nat->za}
def Q4 (w:World)(B h:Nat)(O:Nat->Option Whose)(m:Ya)(w':World):Prop:=∃O' X ml nb hn,Ye w' B h O' m X ml nb hn/\Yd (fun k=>O k≠aa) (fun k=>O' k≠aa) w w'
theorem XE.dA (K:XE w B b S x)(U:w.heap.size<=w'.heap.size)(Z:∀k,S k->w'.heap[k]?=w.heap[k]?):XE w' B b S x:=by
 obtain⟨mp,D,H,I,J⟩:=K;exact⟨mp,D,H,I,J.aS U Z⟩
theorem OB:(prog.info? 93).map (fun i=>(i.zero,i.size,i.bytes))=ab (ab (.pointer aa),j5.k,8):=by kernel_rfl
theorem Ye.gI (hp:Ye w B h O m X ml nb hn){w2:World}(b0:ae w.heap.size w w2)(hs:XE w2 w.heap.size hb S ⟨s,[]⟩)(hf:m.nodes.length<=1000)(U:ae w2.heap.size w2 W){I:World}(a2:I=(W.alloc (.cells #[.pointer (ab ⟨hb,0,aa⟩),.string s,.bool af] 95)).alloc (.cells #[.pointer (ab ⟨W.heap.size,0,aa⟩)] 93)):
 ∃J H,(∀ty,(Builtin.append_ #[61,61] ty #[X.vn,.slice (ab ⟨W.heap.size+1,0,aa⟩) 1 1]).run prog I=.ok J H)/\(∃q n c,J=.slice q n c)/\H.cell? ⟨h,31,aa⟩=ab X.vn/\H.frozen? ⟨h,31,aa⟩=af/\Q4 w B h O (m.cE [s]) (H.setCell ⟨h,31,aa⟩ J):=by
 obtain⟨W1,Z⟩:=Xb (W.alloc (.cells #[.pointer (ab ⟨hb,0,aa⟩),.string s,.bool af] 95));rw[<-Z]at a2;have b1:=QT Z;have a3:=Zk Z;have a0:=Zk a2;have a4:=b0.trans (U.mono b0.size);have a5:=a4.trans (a3.mono a4.size);have a6:=a5.trans (a0.mono a5.size);have b2:=JH Z;have b3:=(a0.block _ (by omega)).trans b2;have b4:I.cell? ⟨W.heap.size+1,0,aa⟩=ab (.pointer (ab ⟨W.heap.size,0,aa⟩)):=by
  rw[a2,<-b1,zc _ _ _ _ rfl];rfl
 have b5:W.heap.size+1<I.heap.size:=by rw[a2];simp;omega
 have D:=hp.below a6;have a7:((ah m.nodes.length).map nb).length=m.nodes.length:=by simp
 obtain⟨J,H,ha,K,h2,h3⟩:=vX (w:=I) (E:=j5) 61 93 _ 8 underlying61 OB rfl B X.vn ((ah m.nodes.length).map nb) D.cD (ab ⟨W.heap.size+1,0,aa⟩) [W.heap.size] 1 (ay ⟨W.heap.size+1,0,rfl,b5,fun i x hi j u hu=>by
  obtain⟨rfl,rfl⟩:i=0/\x=W.heap.size:=by
   cases i with
   |zero=>exact⟨rfl,by simpa using hi.symm⟩
   |succ i=>simp at hi
  cases j with
  |zero=>simp only[j5,List.getElem?_cons_zero,Option.some.injEq]at hu;rw[<-hu];exact b4
  |succ j=>simp[j5]at hu⟩) (fun e=>by cases e) (by rw[a7];unfold maxLen;show m.nodes.length+1<=_;omega) (by rw[a7];show(m.nodes.length+1)*8<=_;omega) D.base
 have b6:X.vn.ownBlock≠ab h:=fun e=>by have:=D.bU h e;rw[D.self]at this;cases this
 have a8:=h2.block h D.lt (fun e=>b6 e.symm);have a9:=hs.dH;have b7:XE I w.heap.size hb S ⟨s,[]⟩:=hs.dA (al U.size (al a3.size a0.size)) (fun k hk=>by
  have K:=(a9 k hk).2;have h2:=ap K U.size;exact(a0.block k (by omega)).trans ((a3.block k h2).trans (U.block k K)))
 obtain⟨O',b8,d0,g1,g2⟩:=hp.jO (g:=W.heap.size) a6 b7 a4.size (fun e=>by have:=(a9 _ e).2;have:=U.size;omega) b3 K h2 h3;obtain⟨q,c,hv,_⟩:=K.form;exact⟨J,H,ha,⟨q,_,c,hv⟩,(ai (a:=⟨h,31,aa⟩) a8).trans (D.cell 31).1,(aD (a:=⟨h,31,aa⟩) a8).trans (D.cell 31).2,O',_,ml,b8,d0,g1,g2⟩
theorem Q4.trans {m2:Ya}{D:World}{I:Nat->Option Whose}(hU:Yd (fun k=>O k≠aa) (fun k=>I k≠aa) w D)(h2:Q4 D B h I m2 H):Q4 w B h O m2 H:=by
 obtain⟨O',X',J,K,U,Z,g2⟩:=h2;exact⟨O',X',J,K,U,Z,hU.trans' g2⟩
theorem DF (hp:Ye w B h O m X ml nb hn)(p:Option za)(l:List BA)(cap:Nat)(hl:m.nodes.length+l.length<=1000)(hx:∀x∈l,Jo x=am)(hs:Xi w p l)(b6:∀b o,p=ab ⟨b,o,aa⟩->O b=aa)(hE:Yi ad w O):
 an prog 15 #[.pointer (ab ⟨h,0,aa⟩),.slice p l.length cap] w fun e w'=>e=.returned (.tuple #[])/\Q4 w B h O (m.cE l) w':=by
 have HC:Hid (∀i,i<l.length->∀S' W,Yd (fun k=>O k≠aa) S' w W->∃b o,p=ab ⟨b,o,aa⟩/\W.cell? ⟨b,o+i,aa⟩=ab (.string (Yc l i))):=fun i H S' W hU=>by
  rcases hs with h0|⟨b,o,hp,b7,hc⟩
  ·rw[h0]at H;exact absurd H (ao _)
  ·exact⟨b,o,hp,(ai (a:=⟨b,o+i,aa⟩) (hU.block b b7 (fun e=>e (b6 b o hp)))).trans (hc i H)⟩
 have HX:Hid (∀i,i<l.length->Jo (Yc l i)=am):=fun i H=>hx _ (by rw[Xk l i H];exact au H)
 have HM:Hid (∀i,i<l.length->m.cE (l.take (i+1))=(m.cE (l.take i)).cE [Yc l i]):=fun i H=>by
  rw[show l.take (i+1)=l.take i++ [Yc l i] by rw[aM,aj H,Xk l i H];rfl,SK]
 have a6:Hid (∀i,i<l.length->(m.cE (l.take i)).nodes.length<=1000):=fun i H=>by
  show(m.nodes++_).length<=1000;rw[ak,aw,aP];omega
 have a7:Hid _:=B8 m;have a8:Hid (m.cE (l.take l.length)=m.cE l):=by show _=_;rw[List.take_length]
 obtain⟨F,hF⟩:∃F:Nat->Ya,F=fun i=>m.cE (l.take i):=⟨_,rfl⟩
 have HM:Hid (∀i,i<l.length->F (i+1)=(F i).cE [Yc l i]):=by rw[hF];exact HM.out
 have a6:Hid (∀i,i<l.length->(F i).nodes.length<=1000):=by rw[hF];exact a6.out
 have a7:Hid (F 0=m):=by rw[hF];exact a7.out
 have a8:Hid (F l.length=m.cE l):=by rw[hF];exact a8.out
 have U:Hid (Q4 w B h O m w):=⟨O,X,ml,nb,hn,hp,Yd.aJ bR⟩;obtain⟨D,hD⟩:∃D:Nat->World->Prop,D=fun i=>Q4 w B h O (F i):=⟨_,rfl⟩
 have a9:Hid (∀i,i<l.length->∀wr,D i wr->∃b o I vn J,p=ab ⟨b,o,aa⟩/\wr.cell? ⟨b,o+i,aa⟩=ab (.string (Yc l i)) /\
  an prog 33 #[.string (Yc l i)] wr fun e w2=>∃K,e=.returned (.tuple #[.pointer (ab ⟨K,0,aa⟩),.nilIface])/\w2.drew.cell? ⟨h,31,aa⟩=ab (.slice I vn J) /\
   an prog 24 #[.string (Yc l i)] w2.drew fun e W=>e=.returned (.string (Yc l i))/\W.cell? ⟨h,31,aa⟩=ab (.slice I vn J)/\∃q' n' c' Z,
    (W.alloc (.cells #[.pointer (ab ⟨K,0,aa⟩),.string (Yc l i),.bool af] 95)).cell? ⟨h,31,aa⟩=ab (.slice I vn J) /\
    ((W.alloc (.cells #[.pointer (ab ⟨K,0,aa⟩),.string (Yc l i),.bool af] 95)).alloc (.cells #[.pointer (ab ⟨W.heap.size,0,aa⟩)] 93)).cell? ⟨h,31,aa⟩=ab (.slice I vn J) /\
    (∀ty,(Builtin.append_ #[61,61] ty #[.slice I vn J,.slice (ab ⟨W.heap.size+1,0,aa⟩) 1 1]).run prog ((W.alloc (.cells #[.pointer (ab ⟨K,0,aa⟩),.string (Yc l i),.bool af] 95)).alloc (.cells #[.pointer (ab ⟨W.heap.size,0,aa⟩)] 93))=.ok (.slice q' n' c') Z) /\
    Z.cell? ⟨h,31,aa⟩=ab (.slice I vn J)/\Z.frozen? ⟨h,31,aa⟩=af/\Hid (D (i+1) (Z.setCell ⟨h,31,aa⟩ (.slice q' n' c')))):=fun i H wr b1=>by
  rw[hD]at b1;obtain⟨O1,X1,e4,b8,e5,p1,U1⟩:=b1;obtain⟨b,o,g1,g2⟩:=HC.out i H _ wr U1;obtain⟨I,J,hv,_⟩:=p1.cD.form;have d5:=hE.next U1;refine⟨b,o,I,((ah (F i).nodes.length).map b8).length,J,g1,g2,(UC ad (Yc l i) wr (by have:=QF (HX.out i H);omega) (fun W hW=>(d5.below hW).here.q.c3)).mono fun e w2 hq=>?_⟩;obtain⟨hq,b0⟩:=hq;rcases hq with⟨_,K,S,e1,e2⟩|⟨b2,_⟩
  ·have c2:=(p1.below b0).cell 31;refine⟨K,e1,by rw[<-hv];exact c2.1,(Xs (Yc l i) w2.drew (by have:=QF (HX.out i H);omega)).mono fun e W hq=>?_⟩;obtain⟨e3,d6⟩:=hq;have b3:=(aA _ w2).drew.trans d6;obtain⟨v',Z,a1,⟨q',n',c',rfl⟩,a3,a4,a5⟩:=p1.gI b0 e2 (a6.out i H) b3 rfl;rw[hv]at a1 a3;have a0:=b0.trans (b3.mono b0.size);have k1:=(p1.below (a0.alloc a0.size (.cells #[.pointer (ab ⟨K,0,aa⟩),.string (Yc l i),.bool af] 95))).cell 31;have k2:=(p1.below ((a0.alloc a0.size (.cells #[.pointer (ab ⟨K,0,aa⟩),.string (Yc l i),.bool af] 95)).alloc (by simp;have:=a0.size;omega) (.cells #[.pointer (ab ⟨W.heap.size,0,aa⟩)] 93))).cell 31;exact⟨e3,by rw[<-hv];exact((p1.below a0).cell 31).1,q',n',c',Z,by rw[<-hv];exact k1.1,by rw[<-hv];exact k2.1,a1,a3,a4,by rw[hD];show Q4 w B h O (F (i+1)) _;rw[HM.out i H];exact Q4.trans U1 a5⟩
  ·rw[HX.out i H]at b2;cases b2
 have a2:Hid (∀i W,i=l.length->Q4 w B h O (F i) W->Q4 w B h O (m.cE l) W):=fun i W e hW=>by rw[<-a8.out,<-e];exact hW
 generalize Q4 w B h O (m.cE l)=G at *;have U:Hid (Q4 w B h O (F 0) w):=by rw[a7.out];exact U.out
 have U:Hid (D 0 w):=by rw[hD];exact U.out
 have a2:Hid (∀i W,i=l.length->D i W->G W):=by rw[hD];exact a2.out
 have e6:l.length<=1000:=by omega
 clear hp hl hx hs b6 hE HC HX HM a6 a7 a8 hF hD;obtain⟨tx,b4⟩:∃tx:Nat->BA,tx=Yc l:=⟨_,rfl⟩;rw[<-b4]at a9;clear b4;generalize l.length=L at *;go_enter func15,ntmps15;go_wp2;go_loopw [10] (fun x wr=>∃i:Nat,i<=L/\x=.int .i64 i/\D i wr) (fun x _=>L-(intOf x).toNat)
 case atStart=>exact⟨0,aI _,rfl,U.out⟩
 case round =>
  obtain⟨i,H,rfl,hd⟩:=hrel;have HD:Hid _:=hd;clear hd;by_cases d7:i<L
  ·obtain⟨b,o,I,vn,J,rfl,q1,b5⟩:=a9.out i d7 wr HD.out;clear a9 a2 U HD;generalize tx i=t at *;go_wp2_with fail
   refine b5.mono ?_;rintro e w2 ⟨K,rfl,e7,d8⟩;clear b5;go_wp2_with fail
   go_region_law (first|(go_simp;go_at_call 24;refine d8.mono ?_;rintro e w5 ⟨rfl,d0,q',n',c',Z,d1,d2,ha,d3,d4,d9⟩;go_simp)|(refine XU rfl (.tmp 23) (.tmp 29) 61 61 rfl _ _ (by first|(simp[Act.eval];done)|(simp[Act.eval,Act.put];done)) (by first|(simp[Act.eval];done)|(simp[Act.eval,Act.put];done)) (fun ty=>ha ty) ?_))
   all_goals clear ha d0 d1 d2
   all_goals go_wp2
   all_goals go_roundw
   all_goals first|exact⟨i+1,by omega,by go_num,d9.out⟩|(simp[intOf];omega)
  ·have e0:i=L:=by omega
   have HG:Hid _:=a2.out i wr e0 HD.out;clear a9 a2 U;go_wp2
   go_end0
   exact⟨rfl,HG.out⟩
end
end
section
open Ring
def Ya.bare (c:Xg):Ya:=⟨[],[],ag 6 aa,ag 6 0,ag 6 ⟨#[]⟩,aa,[c],0,0,0,[]⟩
theorem EE {l:List (Je×Bool)}:Qe l s<l.length↔∃x∈l,x.1.name=s:=by
 unfold Qe;rw[List.findIdx_lt_length];simp
theorem SL (m:Ya){x:BA}(h:x≠s):Qe (m.cE [s]).nodes x<(m.cE [s]).nodes.length↔Qe m.nodes x<m.nodes.length:=by
 rw[EE,EE];show(∃y∈m.nodes++ [((⟨s,[]⟩,am):Je×Bool)],y.1.name=x)↔_;constructor
 ·rintro⟨y,D,e⟩;rcases List.mem_append.1 D with D|D
  ·exact⟨y,D,e⟩
  ·rw[List.mem_singleton.1 D]at e;exact absurd e.symm h
 ·rintro⟨y,D,e⟩;exact⟨y,List.mem_append_left _ D,e⟩
theorem LV (m:Ya)(a b:List BA):(m.cE a).cE b=m.cE (a++b):=by
 unfold Ya.cE;rw[aF,<-aN]
theorem tI:∀(l:List BA) (m:Ya),l.Nodup->m.eX l=m.cE (m.fresh l)
 | [],m,_=>(B8 m).symm
 |s::l,m,h=>by
  obtain⟨H,D⟩:=List.nodup_cons.1 h;rw[CZ];by_cases e:Qe m.nodes s<m.nodes.length
  ·rw[if_pos e,tI l m D]
   congr 1
   unfold Ya.fresh;rw[List.filter_cons_of_neg (by simp[e])]
  ·rw[if_neg e];have I:({m with nodes:=m.nodes++ [(⟨s,[]⟩,am)]}:Ya)=m.cE [s]:=rfl;rw[I,tI l (m.cE [s]) D,LV]
   congr 1
   unfold Ya.fresh;rw[List.filter_cons_of_pos (by simp[e])];show s::_=s::_
   congr 1
   refine List.filter_congr fun x J=>?_
   have K:x≠s:=fun U=>H (U▸J)
   have:=SL m K;by_cases q:Qe m.nodes x<m.nodes.length
   ·rw[decide_eq_true q,decide_eq_true (this.2 q)]
   ·rw[decide_eq_false q,decide_eq_false (fun e=>q (this.1 e))]
theorem NX (c:Xg)(l:List BA):(Ya.bare c).fresh l=l:=by
 unfold Ya.fresh;rw[List.filter_eq_self];intro x _;have D:decide (Qe (Ya.bare c).nodes x<(Ya.bare c).nodes.length)=false:=decide_eq_false (fun e=>absurd e (ao _));rw[D];rfl
theorem pM (c:Xg)(h:l.Nodup):Ya.new l c=(Ya.bare c).cE l:=by
 have:=tI l (Ya.bare c) h;rw[NX]at this;exact this
theorem WZ.kQ {m:Ya}(D:WZ n k m)(J:∀x∈l,Jo x=am):WZ n k (m.cE l):=by
 refine⟨D.bO,D.msgs,D.la,D.lt,D.ls,D.gD,D.act,D.many,D.dN,D.dO,D.cU,D.asks,D.bI,fun i H=>?_⟩;have H:i<(m.nodes++l.map fun s=>((⟨s,[]⟩,am):Je×Bool)).length:=H;rw[ak,aw]at H;show jJ (Jc (m.nodes++l.map fun s=>((⟨s,[]⟩,am):Je×Bool)) i).1;by_cases e:i<m.nodes.length
 ·have:Jc (m.nodes++l.map fun s=>((⟨s,[]⟩,am):Je×Bool)) i=Jc m.nodes i:=by
   unfold Jc;rw[ac,ac,aB e]
  rw[this];exact D.nodes i e
 ·have I:i-m.nodes.length<l.length:=by omega
  have:Jc (m.nodes++l.map fun s=>((⟨s,[]⟩,am):Je×Bool)) i=(⟨l[i-m.nodes.length],[]⟩,am):=by
   unfold Jc;rw[ac,az (by omega),aC,aj I];rfl
  rw[this];exact jJ.new (QF (J _ (au I))).2
theorem GO {c:Xg}(K:¬0<(Jg c).1)(U:XS n k c):WZ n k (Ya.bare c):=by
 have H:∀i,Xf (ag 6 aa) i=none:=fun i=>by
  unfold Xf;rw[ac,ar];split<;>rfl
 refine⟨aI _,(fun x I=>by cases I),rfl,rfl,rfl,fun i=>?_,Nat.lt_succ_self 0,by show 1<=12;decide,fun _=>rfl,(fun a e=>by cases e),fun j D=>?_,(fun i a e=>by have e:Xf (ag 6 aa) i=ab a:=e;rw[H]at e;cases e),(fun a e=>by cases e),(fun i J=>absurd J (ao i))⟩
 ·show(Yc (ag 6 ⟨#[]⟩) i).size<=1000;unfold Yc;rw[ac,ar];split<;>decide
 ·have D:j<1:=D;rw[show j=0 by omega];exact⟨K,U⟩
theorem iZ.fO (h:iZ ad w)(H:∀k,k<w.heap.size->W.heap[k]?=w.heap[k]?):iZ ad W:=by
 have D:∀{b:Nat} {v:zd},w.cell? ⟨b,0,aa⟩=ab v->W.cell? ⟨b,0,aa⟩=ab v:=fun {b v} e=>(ai (a:=⟨b,0,aa⟩) (H b (Yl e))).trans e
 refine⟨⟨D h.q.c1,D h.q.c2,D h.q.c3,D h.q.c4,D h.q.c5⟩,⟨?_,TabIs.dJ h.x.2 H⟩,h.sv.dI H,D h.bO,D h.held⟩;obtain⟨z,I⟩:=h.x.1;exact⟨z,D I⟩
section
variable {w w':World} {B h:Nat} {O O':Nat->Option Whose} {m:Ya} {X:WB} {ml:List (Zb×Lv)} {nb hn:Nat->Nat} {n k:Nat} {ad:Nat->za}
def yY (c:fB):WB:=⟨.slice aa 0 0,fun _=>⟨aa,af,⟨#[]⟩,0,0⟩,.slice aa 0 0,aa,⟨⟨0,0,[]⟩,aa,0⟩,c,0,0,0,.slice aa 0 0⟩
open Classical in
theorem JsZ {c:fB}(K:w'.heap[h]?=ab (.cells (Zi (yY c)) 66 (0,0)))(hB:w.heap.size<=h)(hc:Yn w' c.c c.p c.cap)(a0:∀b o,c.p=ab ⟨b,o,aa⟩->w.heap.size<=b/\b<w'.heap.size/\b≠h):∃O,Ye w' w.heap.size h O (Ya.bare c.c) (yY c) [] (fun _=>0) (fun _=>0)/\∀k,O k≠aa->w.heap.size<=k:=by
 have a2:h<w'.heap.size:=by
  rcases bb h w'.heap.size with H|H
  ·exact H
  ·rw[Array.getElem?_eq_none H]at K;cases K
 obtain⟨O,I⟩:∃O:Nat->Option Whose,O=fun k=>if k=h then ab .self else if ∃o,c.p=ab ⟨k,o,aa⟩then ab .bD else none:=⟨_,rfl⟩
 have oh:O h=ab .self:=by rw[I];exact if_pos rfl
 have oc:∀b o,c.p=ab ⟨b,o,aa⟩->O b=ab .bD:=fun b o e=>by
  rw[I];show(if b=h then _ else _)=_;rw[if_neg (a0 b o e).2.2,if_pos ⟨o,e⟩]
 have U:∀k o,O k=ab o->w.heap.size<=k/\k<w'.heap.size:=fun k o e=>by
  rw[I]at e;have e:(if k=h then ab Whose.self else if ∃o,c.p=ab ⟨k,o,aa⟩then ab .bD else aa)=ab o:=e;by_cases Z:k=h
  ·rw[Z];exact⟨hB,a2⟩
  ·rw[if_neg Z]at e;by_cases D:∃o,c.p=ab ⟨k,o,aa⟩
   ·obtain⟨o2,D⟩:=D;have:=a0 k o2 D;omega
   ·rw[if_neg D]at e;cases e
 have ha:∀i,Xf (ag 6 aa) i=none:=fun i=>by
  unfold Xf;rw[ac,ar];split<;>rfl
 refine⟨O,{aO:=U,row:=Zc.nil _ _ _,cX:=(fun k e=>by cases e),dK:=rfl,bD:=(fun x hx=>by cases hx),bV:=Zc.nil _ _ _,cS:=(fun k e=>by cases e),cD:=Zc.nil _ _ _,bU:=(fun k e=>by cases e),node:=(fun i J=>absurd J (ao i)),mem:=(fun i J=>absurd J (ao i)),ask:=fun i _=>?_,bI:=rfl,cf:=⟨hc,oc⟩,blk:=K,self:=oh,cV:=rfl,dF:=(fun e=>by cases e),aW:=⟨rfl,rfl,rfl⟩},fun k e=>?_⟩
 ·show kA _ _ _ _ (Xf (ag 6 aa) i) _ _ _;rw[ha];rfl
 ·cases D:O k with
  |none=>exact absurd D e
  |some o=>exact(U k o D).1
end
end
section
open Ring
section
variable {w w':World} {B h:Nat} {O O':Nat->Option Whose} {m:Ya} {X:WB} {ml:List (Zb×Lv)} {nb hn:Nat->Nat} {ad:Nat->za}
theorem Yd.jG {K U:World}(D:ae H.heap.size H K)(Z:∀k,O k≠aa->H.heap.size<=k)(I:Yd (fun k=>O k≠aa) S K U):ae H.heap.size H U:=⟨I.os.trans D.os,I.tape.trans D.tape,I.output.trans D.output,al D.size I.size,fun k J=>(I.block k (ap J D.size) (fun e=>by have:=Z k e;omega)).trans (D.block k J)⟩
def qJ (ad:Nat->za)(w:World)(l:List BA)(n k:Int)(e:Ending)(w':World):Prop :=
 ((0<(Zr l n k).1/\∃D,e=.returned (.tuple #[.pointer aa,D])/\Jd w' ad D (Zr l n k).1 (Zr l n k).2) ∨
  (¬0<(Zr l n k).1/\∃h c,e=.returned (.tuple #[.pointer (ab ⟨h,0,aa⟩),.nilIface])/\c.n=n/\c.k=k/\XC (Xy wX) l c.L/\¬0<(Jg c).1/\∃O X ml nb hn,Ye w' w.heap.size h O ((Ya.bare c).cE l) X ml nb hn))/\ae w.heap.size w w'
theorem GR (ad:Nat->za)(p:Option za)(l:List BA)(cap:Nat)(n k:Int)(w:World)(hl:l.length<=1000)(hc:l.length<=cap)(hx:∀x∈l,x.size<=1000)(hn:Zt n)(hk:Zt k)(hs:Xi w p l)(hE:iZ ad w):
 an prog 7 #[.slice p l.length cap,.int .i64 n,.int .i64 k] w (qJ ad w l n k):=by
 have a4:=FN ad p l cap n k w hl hc hx hn hk hs hE;by_cases J:0<(Zr l n k).1
 ·have a3:an prog 14 #[.slice p l.length cap,.int .i64 n,.int .i64 k] w fun e I=>∃t v,e=.returned (.tuple #[.agg #[.int .i64 0,.int .i64 0,.slice aa 0 0],.iface t v])/\Hid (∀W,ae I.heap.size I W->qJ ad w l n k (.returned (.tuple #[.pointer aa,.iface t v])) W):=a4.mono fun e I H=>by
   obtain⟨H,Z⟩:=H;rcases H with⟨_,ev,K,h2⟩|⟨K,_⟩
   ·obtain⟨t,v,rfl⟩:=h2.some J;exact⟨t,v,K,fun W hW=>⟨zb ⟨J,_,rfl,h2.below hW⟩,Z.trans (hW.mono Z.size)⟩⟩
   ·exact absurd J K
  generalize qJ ad w l n k=G at *;clear a4 J hE hs hk hn hx hc hl;go_enter func7,ntmps7;go_wp2_with fail
  refine a3.mono ?_;rintro e I ⟨t,v,rfl,HG⟩;clear a3;go_wp2;exact HG.out _ (bR.alloc nR _)
 ·have a3:an prog 14 #[.slice p l.length cap,.int .i64 n,.int .i64 k] w fun e I=>∃c:fB,e=.returned (.tuple #[.agg #[.int .i64 c.c.n,.int .i64 c.c.k,.slice c.p c.c.L.length c.cap],.nilIface])/\Hid (∀D w3,D=I.alloc (.cells #[.int .i64 c.c.n,.int .i64 c.c.k,.slice c.p c.c.L.length c.cap] 49)->w3=D.alloc (.cells #[.slice aa 0 0,.pointer aa,.bool af,.string ⟨#[]⟩,.int .i64 0,.int .i64 0,.pointer aa,.bool af,.string ⟨#[]⟩,.int .i64 0,.int .i64 0,.pointer aa,.bool af,.string ⟨#[]⟩,.int .i64 0,.int .i64 0,.pointer aa,.bool af,.string ⟨#[]⟩,.int .i64 0,.int .i64 0,.pointer aa,.bool af,.string ⟨#[]⟩,.int .i64 0,.int .i64 0,.pointer aa,.bool af,.string ⟨#[]⟩,.int .i64 0,.int .i64 0,.slice aa 0 0,.pointer aa,.int .i64 0,.int .i64 0,.slice aa 0 0,.int .i64 c.c.n,.int .i64 c.c.k,.slice c.p c.c.L.length c.cap,.int .i64 0,.int .i64 0,.int .i64 0,.slice aa 0 0] 66)->an prog 15 #[.pointer (ab ⟨D.heap.size,0,aa⟩),.slice p l.length cap] w3 fun e w4=>e=.returned (.tuple #[])/\Hid (qJ ad w l n k (.returned (.tuple #[.pointer (ab ⟨D.heap.size,0,aa⟩),.nilIface])) w4)):=a4.mono fun e I H=>by
   obtain⟨H,Z⟩:=H;rcases H with⟨K,_⟩|⟨_,c,K,h2,h3,h4,h5,h6,h7⟩
   ·exact absurd K J
   ·refine⟨c,K,fun D w3 a0 U=>?_⟩;have a6:=Zk a0;have b2:=Zk U;have a7:=a6.trans (b2.mono a6.size);have a5:=Z.trans (a7.mono Z.size);have b3:=a6.size;have d1:=fQ U;have b4:w3.heap[D.heap.size]?=ab (.cells (Zi (yY c)) 66 (0,0)):=by
     rw[U];show(D.heap.push _)[D.heap.size]?=_;rw[Array.getElem?_push_size];rfl
    obtain⟨O,hp,hO⟩:=JsZ (w:=w) b4 (al Z.size b3) (h6.below a7) (fun b o e=>⟨(h7 b o e).1,by have:=(h7 b o e).2;omega,by have:=(h7 b o e).2;omega⟩);have hN:¬0<(Xj l).1:=fun h=>J (by unfold Zr;rw[if_pos h];exact h)
    obtain⟨_,a8,d2⟩:=QV (l:=l) (by omega);refine(DF (ad:=ad) hp p l cap (by show 0+l.length<=1000;omega) (YP (by omega)).1 (hs.below a5) (fun b o e=>?_) (fun W d3 a2=>hE.fO (fun k hk=>?_))).mono fun e w4 H=>⟨H.1,ay ⟨J,D.heap.size,c.c,rfl,h2,h3,h4,h5,?_⟩,?_⟩
    ·cases e2:O b with
     |none=>rfl
     |some o2 =>
      have h8:=hO b (by rw[e2];exact fun e=>by cases e);rcases hs with h0|⟨b',o',b5,d4,_⟩
      ·rw[h0]at a8;exact absurd a8 (by decide)
      ·rw[b5]at e;injection e with e;injection e with e;omega
    ·have h8:O k=none:=by
      cases e2:O k with
      |none=>rfl
      |some o2=>have:=hO k (by rw[e2];exact fun e=>by cases e);omega
     exact(a2 k (ap hk a5.size) h8).trans (a5.block k hk)
    ·obtain⟨O4,X4,a9,b0,b1,g1,_⟩:=H.2;exact⟨O4,X4,a9,b0,b1,g1⟩
    ·obtain⟨O4,X4,a9,b0,b1,_,g2⟩:=H.2;exact Yd.jG a5 hO g2
  generalize qJ ad w l n k=G at *;clear a4 J hE hs hk hn hx hc hl;go_enter func7,ntmps7;go_wp2_with fail
  refine a3.mono ?_;rintro e I ⟨c,rfl,HG⟩;obtain⟨D,a0⟩:=Xb (I.alloc (.cells #[.int .i64 c.c.n,.int .i64 c.c.k,.slice c.p c.c.L.length c.cap] 49));obtain⟨w3,U⟩:=Xb (D.alloc (.cells #[.slice aa 0 0,.pointer aa,.bool af,.string ⟨#[]⟩,.int .i64 0,.int .i64 0,.pointer aa,.bool af,.string ⟨#[]⟩,.int .i64 0,.int .i64 0,.pointer aa,.bool af,.string ⟨#[]⟩,.int .i64 0,.int .i64 0,.pointer aa,.bool af,.string ⟨#[]⟩,.int .i64 0,.int .i64 0,.pointer aa,.bool af,.string ⟨#[]⟩,.int .i64 0,.int .i64 0,.pointer aa,.bool af,.string ⟨#[]⟩,.int .i64 0,.int .i64 0,.slice aa 0 0,.pointer aa,.int .i64 0,.int .i64 0,.slice aa 0 0,.int .i64 c.c.n,.int .i64 c.c.k,.slice c.p c.c.L.length c.cap,.int .i64 0,.int .i64 0,.int .i64 0,.slice aa 0 0] 66));have b6:=HG.out D w3 a0 U;have a2:=JH a0;have x0:=(Xa a2 0).1;have x1:=(Xa a2 1).1;have x2:=(Xa a2 2).1;have b7:Hid _:=a0;have b8:Hid _:=U;clear a3 HG a2 a0 U;generalize c.c.L.length=cl at *;generalize c.c.n=cn at *;generalize c.c.k=ck at *;go_wp2_with (first|rw[<-b8.out]|rw[<-b7.out]|fail)
  refine b6.mono ?_;rintro e w4 ⟨rfl,d0⟩;go_wp2;exact d0.out
end
end
section
def Ya.names (m:Ya):List ByteArray:=m.nodes.map (·.1.name)
theorem JcG {m:Ya}(D:i<m.nodes.length):m.names[i]?=ab (Jc m.nodes i).1.name:=by
 unfold Ya.names Jc;rw[aC,ac,aj D];rfl
theorem Jcc {m:Ya}(D:i<m.nodes.length):m.names.take (i+1)=m.names.take i++ [(Jc m.nodes i).1.name]:=by
 rw[aM,JcG D];rfl
section
variable {w w':World} {B h:Nat} {O O':Nat->Option Whose} {m:Ya} {X:WB} {ml:List (Zb×Lv)} {nb hn:Nat->Nat} {n k:Nat} {ad:Nat->za}
theorem Jcd (D:Ye w B h O m X ml nb hn):an prog 59 #[.pointer (ab ⟨h,0,aa⟩)] w fun e w'=>e=.returned (.int .i64 (m.L.length:Int))/\w'=w:=by
 obtain⟨p,c,I,H⟩:=D.jae;clear D H;generalize m.L.length=f at *;go_enter func59,ntmps59;go_wp2;go_ret;exact⟨rfl,rfl⟩
theorem JbU (Z:Ye w B h O m X ml nb hn)(hf:m.nodes.length<=1000)(J:∀x∈m.nodes,x.1.name.size<=100):
 an prog 16 #[.pointer (ab ⟨h,0,aa⟩)] w fun e w'=>(∃v,e=.returned v/\Zq w' w.heap.size v m.names)/\ae w.heap.size w w':=by
 obtain⟨p,c,hv,a5,_,_,_⟩:=Z.cD.form;have I:((ah m.nodes.length).map nb).length=m.nodes.length:=by simp
 rw[I]at hv;have d2:w.cell? ⟨h,31,aa⟩=ab (.slice p m.nodes.length c):=by rw[<-hv];exact(Z.cell 31).1
 have HC:Hid (∀i,i<m.nodes.length->∀W,ae w.heap.size w W->∃b o,p=ab ⟨b,o,aa⟩/\W.cell? ⟨b,o+i,aa⟩=ab (.pointer (ab ⟨nb i,0,aa⟩))/\W.cell? ⟨nb i,1,aa⟩=ab (.string (Jc m.nodes i).1.name)/\(Jc m.nodes i).1.name.size<=100):=fun i D W hW=>by
  rcases a5.below hW with h0|⟨b,o,b5,d3,hc⟩
  ·rw[h0]at I;simp at I;omega
  ·refine⟨b,o,b5,?_,(Xa ((Z.below hW).node i D).1 1).1,?_⟩
   ·have J:((ah m.nodes.length).map nb)[i]?=ab (nb i):=by rw[aC,List.getElem?_range D];rfl
    have:=hc i _ J 0 _ rfl;rw[show j5.k=1 from rfl,Nat.mul_one,Nat.add_zero]at this;exact this
   ·unfold Jc;rw[ac,aj D];exact J _ (au D)
 have a6:Hid (∀i,i<m.nodes.length->m.names.take (i+1)=m.names.take i++ [(Jc m.nodes i).1.name]):=fun i D=>Jcc D
 have a7:Hid (∀i,(m.names.take i).length<=1000):=fun i=>by rw[aP];unfold Ya.names;rw[aw];omega
 have a8:Hid (m.names.take m.nodes.length=m.names):=by show _=_;exact List.take_of_length_le (by unfold Ya.names;rw[aw];exact av _)
 clear Z hv a5 I J;obtain⟨nm,a0⟩:∃nm:Nat->ByteArray,nm=fun i=>(Jc m.nodes i).1.name:=⟨_,rfl⟩
 have a2:Hid (∀i,i<m.nodes.length->∀W,ae w.heap.size w W->∃b o,p=ab ⟨b,o,aa⟩/\W.cell? ⟨b,o+i,aa⟩=ab (.pointer (ab ⟨nb i,0,aa⟩))/\W.cell? ⟨nb i,1,aa⟩=ab (.string (nm i))/\(nm i).size<=100):=by rw[a0];exact HC
 have a3:Hid (∀i,i<m.nodes.length->m.names.take (i+1)=m.names.take i++ [nm i]):=by rw[a0];exact a6
 clear HC a6 a0;generalize m.nodes.length=N at *;generalize m.names=R at *;go_enter func16,ntmps16;go_wp2;go_loopw [3,11] (fun y x wr=>∃i:Nat,i<=N/\x=.int .i64 i/\Zq wr w.heap.size y (R.take i)/\ae w.heap.size w wr) (fun _ x _=>N-(intOf x).toNat)
 case atStart=>exact⟨0,aI _,rfl,Zq.nil _ _,aA _ _⟩
 case round =>
  obtain⟨i,D,rfl,hO,hB⟩:=hrel;obtain⟨q,c',rfl,_⟩:=hO.form;have HO:Hid (Zq wr w.heap.size (.slice q (R.take i).length c') (R.take i)):=hO;have K:Hid (ae w.heap.size w wr):=hB;clear hO hB;by_cases a9:i<N
  ·obtain⟨b,o,rfl,q1,q2,b6⟩:=a2.out i a9 wr K.out;have b7:Hid (R.take (i+1)=R.take i++ [nm i]):=a3.out i a9;have d4:=a7.out i;have b0:Hid (∀W,an prog 24 #[.string (nm i)] W fun e w'=>e=.returned (.string (nm i))/\ae W.heap.size W w'):=fun W=>Xs (nm i) W (by omega)
   clear a3 a2 b6;generalize nm i=t at *;generalize R.take i=H at *;go_wp2_with fail
   refine(b0.out _).mono ?_;rintro e U ⟨rfl,a4⟩;have b1:Hid (ae w.heap.size w U):=K.out.trans (a4.mono K.out.size);have b8:Hid (Zq U w.heap.size (.slice q H.length c') H):=HO.out.kept a4;have d0:=b1.out.size;clear a4 b0 q1 q2;go_wp2_with (first|(at_builtin;refine JfI rfl (.tmp 15) (.tmp 21) rfl w.heap.size (.slice q H.length c') H rfl (b8.out.kept ((aA _ _).alloc (av _) _)) ⟨U.heap.size,0,aa⟩ t 1 rfl (by rw[zc _ _ _ _ rfl];rfl) (by omega) (by simp;omega) ?_;intro v8 w8 b2 b3;have b4:Hid (Zq w8 w.heap.size v8 (H++ [t])/\ae w.heap.size w w8):=⟨b2,b1.out.trans (((aA _ U).alloc (av _) _).mono d0 |>.trans b3)⟩;clear b2 b3))
   go_roundw
   case rel=>exact⟨i+1,by omega,by go_num,by rw[b7.out];exact b4.out.1,b4.out.2⟩
   case measure=>simp[intOf];omega
  ·have d1:i=N:=by omega
   have HR:Hid (R.take i=R):=by rw[d1];exact a8.out
   clear a2 a3 a7 a8;generalize (R.take i).length=fl at *;go_wp2;go_ret;exact⟨⟨_,rfl,by rw[<-HR.out];exact HO.out⟩,K.out⟩
end
end
end Go.Proofs.YtfgapcknnoeplaaGreatDoor

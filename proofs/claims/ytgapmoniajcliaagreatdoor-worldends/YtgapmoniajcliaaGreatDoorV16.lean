/- Texts laid together. -/
import Derived.Lib.SliceRun
import Derived.Test.YtgapmoniajcliaaGreatDoorV15
import Derived.Test.YtgapmoniajcliaaGreatDoorV13
set_option maxRecDepth 10000
set_option maxHeartbeats 4000000
open Option renaming some->aa,none->N
open Nat renaming lt_of_lt_of_le->ab,le_trans->ac,lt_or_ge->zd,zero_add->bh,le_refl->bk
open Go.RowKit renaming Below->ae
open Go.World renaming frozen?_of_block->af,cell?_of_block->ak,setCell->au,cell?->zf
open Bool renaming false->ag,true->aM
open Go renaming Calls->ah,Value->am,Addr->aN
open List renaming length_take->ai,length_append->ap,getD_eq_getElem?_getD->aq,length_eq_zero_iff->av,length_drop->aw,eraseIdx_cons_succ->ax,take_left'->aF,length_map->za,take_append_drop->aI,size_toArray->aR,length_set->zh,map_cons->be,range->bs
open Go.RowKit.Below renaming heap_setCell->aj,refl->az
open Or renaming inl->al,inr->ao
open Array renaming length_toList->an,getElem?_eq_none->aE
open Int renaming toNat_natCast->ar
namespace Go.Proofs.YtgapmoniajcliaaGreatDoor
open Go.Proofs.Tryz
open Go.RowKit
variable {a:Za}{w w' W:World}{b B h i n k:Nat}{T:TypeId}{I S:Nat->Prop}{m':Ya}{ad:Nat->aN}
theorem oR:(prog.info? 90).map (fun i=>(i.zero,i.size,i.bytes))=aa (aa (.agg #[.string ⟨#[]⟩,.string ⟨#[]⟩,.string ⟨#[]⟩,.string ⟨#[]⟩,.int .i64 0,.int .i64 0,.bool ag,.slice N 0 0]),mE.k,112):=KE _ (by kernel_rfl)
theorem kC (l:List (Zb×Lv)):(Qb mE l).length=l.length*8:=Qr mE l
theorem XU {P:Program}{ops:Array Oper}{o:Oper}{a:Act}{K:Act->World->Prop}{Q:Exit->Act->World->Prop}{E:Prop}(J:o.guard=N)(d s:Operand)(B D:TypeId)
 (O:o.op=.call {callee:=.builtin .append,args:=#[d,s],argTypes:=#[B,D]}) (v u:am) (U:a.eval d=v) (Z:a.eval s=u) {H:am} (hr:∀I,(Builtin.append_ #[B,D] I #[v,u]).run P w=.ok H w') (hK:K (a.put o.dst H) w'):
 if Region.wanted o (yielded ops a.tmps)=aM then Oper.wp P o a w K Q else E:=by
 rw[if_pos (by simp[Region.wanted,J])];unfold Oper.wp;simp[execOp,O,resolve,invoke,builtin,U,Z,hr,Result.andThen];exact hK
def mR:List Value:=[.string ⟨#[]⟩,.string ⟨#[]⟩,.string ⟨#[]⟩,.string ⟨#[]⟩,.int .i64 0,.int .i64 0,.bool ag,.slice N 0 0]
theorem NA (w:World)(J:TypeId)(g o c:Nat)(B:Array am)(K:w.heap[g]?=aa (.cells B 90 (0,0)))(O:o+8<=B.size):
 (Builtin.clear_ #[46] J #[.slice (aa ⟨g,o,N⟩) 1 c]).run prog w=.ok (.tuple #[]) (w.setRow g (B.toList.take o++mR++B.toList.drop (o+8)).toArray):=by
 have H:∀w,(zeroValue 90).run prog w=.ok (.agg mR.toArray) w:=fun w=>zeroValue90 w
 have I:(Builtin.zeroCells (Value.agg mR.toArray).cells 1).toList=mR:=by kernel_rfl
 have D:=run_storeCells_at prog g o 90 mR 0 B w K (by show o+0+8<=_;omega) (by decide +kernel);simp only[Nat.add_zero]at D;simp[Builtin.clear_,run_underlying underlying46,H,I,D];rfl
theorem UH (B g c i j:Nat)(l:List (Zb×Lv))(w:World)(hl:l.length<=1000)(hi:i<l.length)(hj:j=i+1)(hO:Zc mE 90 w B (.slice (aa ⟨g,0,N⟩) l.length c) l):
 ah prog 57 #[.slice (aa ⟨g,0,N⟩) l.length c,.int .i64 (i:Int),.int .i64 (j:Int)] w fun e w'=>e=.returned (.slice (aa ⟨g,0,N⟩) (l.length-1) c)/\Zc mE 90 w' B (.slice (aa ⟨g,0,N⟩) (l.length-1) c) (l.eraseIdx i)/\w.grownBy w' (aa g):=by
 obtain⟨n,Z⟩:=Xb l.length;rcases hO.2 with⟨h0,_⟩|⟨g',cap,I,hv,b5,b0,b6,b7,a2,a3⟩
 ·cases h0
 obtain⟨h1,_,h3⟩:=Value.slice.inj hv;obtain rfl:g=g':=congrArg Addr.block (Option.some.inj h1);subst h3;have a4:mE.k=8:=rfl;rw[a4]at a2 a3;rw[<-Z]at hi hl b6 a3;have hA:(Qb mE (l.take i)).length=i*8:=by rw[kC,ai];congr 1;omega
 obtain⟨J,a0⟩:=Xb (Qb mE (l.drop j));have hB:J.length=(n-j)*8:=by rw[a0,kC,aw,<-Z]
 have b8:I.toList.length=c*8:=by rw[an];exact a2
 have c8:∀j u,(Qb mE l)[j]?=aa u->w.cell? ⟨g,j,N⟩=aa u:=fun j u hj=>by
  have:=World.ownsRow.cells (g:=g) hO rfl j u hj;rw[Addr.add_lit,bh]at this;exact this
 obtain⟨A,e0,d0⟩:∃A:aN,(if c=j then aa (⟨g,0,N⟩:aN)else aa ⟨g,j*8,N⟩)=aa A/\Hid (∀t u,J[t]?=aa u->w.drew.cell? (A.add t)=aa u):=by
  by_cases h:c=j
  ·refine⟨⟨g,0,N⟩,by simp[h],fun t u K=>?_⟩;have h0:J.length=0:=by rw[hB];omega
   rw[av.1 h0]at K;simp at K
  ·refine⟨⟨g,j*8,N⟩,by simp[h],fun t u K=>?_⟩;rw[Addr.add_lit];refine c8 (j*8+t) u ?_;have d1:(Qb mE (l.take j)).length=j*8:=by rw[kC,ai];congr 1;omega
   rw[<-aI j l,Qj,List.getElem?_append_right (by rw[d1];omega),d1,Nat.add_sub_cancel_left,<-a0];exact K
 obtain⟨i0,d2,d6,a5,d7⟩:=info_parts oR;obtain⟨D,a6⟩:=Xb ((I.toList.take (i*8)++J++I.toList.drop (i*8+J.length)).toArray);have a7:D.size=c*8:=by
  rw[a6];simp only[aR,ap,ai,aw,b8,hB];omega
 have b1:∀H,(Builtin.append_ #[46,46] H #[.slice (aa ⟨g,0,N⟩) i c,.slice (aa A) (n-j) (c-j)]).run prog w.drew=.ok (.slice (aa ⟨g,0,N⟩) (i+(n-j)) c) (w.drew.setRow g D):=fun H=>by
  have:=run_append_room (P:=prog) w.drew 46 H 90 i0 underlying46 d2 g i c I b0 A (n-j) (c-j) J (by rw[a5,hB];rfl) d0.out (by rw[a0];intro u K;exact Zz mE _ u K) (by omega) (by rw[a5,a2,hB];show i*8+_<=_;omega);rw[this,a6,a5];rfl
 have a8:(w.drew.setRow g D).heap[g]?=aa (.cells D 90 (0,0)):=setRow_heap w.drew g I _ 90 _ b0;obtain⟨O,b2⟩:=Xb (w.drew.setRow g D);rw[<-b2]at b1 a8;obtain⟨m,hm⟩:=Xb (i+(n-j));have d8:m+1=n:=by omega
 obtain⟨U,a9⟩:=Xb ((D.toList.take (m*8)++mR++D.toList.drop (m*8+8)).toArray);have d3:U.size=c*8:=by
  rw[a9];simp only[aR,ap,ai,aw,an,a7,show mR.length=8 from rfl];omega
 have e3:∀H d,(Builtin.clear_ #[46] H #[.slice (aa ⟨g,m*8,N⟩) 1 d]).run prog O=.ok (.tuple #[]) (O.setRow g U):=fun H d=>by
  rw[NA O H g (m*8) d D a8 (by rw[a7];omega),a9]
 have d4:U.toList.take (m*8)=Qb mE (l.eraseIdx i):=by
  have e1:I.toList.take (i*8)=Qb mE (l.take i):=by
   have:(I.toList.take (n*8)).take (i*8)=I.toList.take (i*8):=by rw[List.take_take];congr 1;omega
   rw[<-this,a3]
   conv=>lhs;rw[<-aI i l,Qj]
   exact aF hA
  have e2:Qb mE (l.eraseIdx i)=Qb mE (l.take i)++J:=by
   rw[List.eraseIdx_eq_take_drop_succ,Qj,a0,hj]
  rw[a9,e2];simp only;rw[List.append_assoc,aF (by rw[ai,an,a7];omega),a6,e1];simp only;exact aF (by rw[ap,hA,hB];omega)
 have HI:Hid (Zc mE 90 (O.setRow g U) B (.slice (aa ⟨g,0,N⟩) (n-1) c) (l.eraseIdx i)/\w.grownBy (O.setRow g U) (aa g)):=by
  have b3:(l.eraseIdx i).length=m:=by rw[List.length_eraseIdx,if_pos (by omega),<-Z];omega
  refine⟨⟨by rw[kC];rfl,ao ⟨g,c,U,by rw[b3,show n-1=m by omega],b5,setRow_heap O g D _ 90 _ a8,by rw[b3];omega,b7,by rw[a4];exact d3,by rw[b3,a4];exact d4⟩⟩,?_⟩;rw[b2];refine⟨rfl,rfl,rfl,by simp[World.setRow],fun k hk d9=>?_⟩;have d5:k≠g:=fun e=>d9 (by rw[e])
  rw[setRow_other _ g k _ d5,setRow_other _ g k _ d5];rfl
 have b4:Hid (n-1=m):=by show _=_;omega
 have HM:Hid _:=hm;rw[<-Z,b4.out];rw[b4.out]at HI;rw[<-hm]at b1;have e4:n-m=1:=by omega
 have e5:n<=c:=b6;have e6:¬c=m:=by omega
 have z1:¬((i:Int)=(j:Int)):=by omega
 have z2:(j:Int)<=(n:Int):=by omega
 have z3:(i:Int)<=(j:Int):=by omega
 have z4:(n:Int)<=(c:Int):=by omega
 have z5:(i:Int)<=(c:Int):=by omega
 have z6:(m:Int)<=(n:Int):=by omega
 have z7:(0:Int)<=(i:Int):=by omega
 have z8:i<=j:=by omega
 have z9:j<=n:=by omega
 have e7:i<=c:=by omega
 have e8:m<=n:=by omega
 have e9:j<=c:=by omega
 clear b2 Z d4 d3 a9 a7 a6 b8 hB hA a3 a2 b0 a8 c8 hv h1 hO hj a4 b5 a0 d2 d6 a5 d7 hm d8 hl hi d0 b7 b4 HM;go_enter func57,ntmps57;go_wp2_with fail
 go_region_law (refine XU rfl _ _ 46 46 rfl _ _ (by simp[Act.eval,Act.put]) (by simp[Act.eval,Act.put]) (fun H=>b1 H) ?_)
 go_wp2;go_ret;exact⟨rfl,HI.out⟩
theorem uU {o:Nat}{v:am}(h:w.cell? ⟨b,o,N⟩=aa v):b<w.heap.size:=by
 rcases zd b w.heap.size with B|B
 ·exact B
 ·simp[zf,aE B]at h
theorem xA (h n c:Nat)(p:Option aN)(i:Int)(w:World)(I:w.cell? ⟨h,0,N⟩=aa (.slice p n c)):
 ah prog 36 #[.pointer (aa ⟨h,0,N⟩),.int .i64 i] w fun e w'=>e=.returned (.bool (decide (0<=i/\i<n)))/\w'=w:=by
 by_cases B:0<=i
 ·have H:decide (0<=i)=true:=decide_eq_true B;have D:Hid (decide (0<=i/\i<(n:Int))=decide (i<(n:Int))):=by show _=_;simp[B]
  rw[D.out];clear B D;go_enter func36,ntmps36;go_wp2;go_ret;exact⟨rfl,rfl⟩
 ·have H:decide (0<=i)=false:=decide_eq_false B;have D:Hid (decide (0<=i/\i<(n:Int))=ag):=decide_eq_false (fun h=>B h.1);rw[D.out];clear B D;go_enter func36,ntmps36;go_wp2;go_ret;exact⟨rfl,rfl⟩
theorem KM (h n c:Nat)(p:Option aN)(w:World)(B:n<=120)(H:w.cell? ⟨h,0,N⟩=aa (.slice p n c)):
 ah prog 66 #[.pointer (aa ⟨h,0,N⟩)] w fun e w'=>e=.returned (.int .i64 (120-(n:Int)))/\w'=w:=by
 have D:IntKind.i64.wrap (120-(n:Int))=120-(n:Int):=by rw[IntKind.wrap_i64];omega
 clear B;go_enter func66,ntmps66;go_wp2;go_ret;exact⟨rfl,rfl⟩
structure nN (h B:Nat) (v v':am) (ml':List (Zb×Lv)) (w w':World):Prop where
 own:Zc mE 90 w' B v' ml'
 loc:v'.ownBlock=v.ownBlock∨∃k,v'.ownBlock=aa k/\w.heap.size<=k
 self:∀cs T,w.heap[h]?=aa (.cells cs T (0,0))->w'.heap[h]?=aa (.cells (cs.setIfInBounds 0 v') T (0,0))
 os:w'.os=w.os
 tape:w'.tape=w.tape
 output:w'.output=w.output
 size:w.heap.size<=w'.heap.size
 cW:∀k,k<w.heap.size->k≠h->v.ownBlock≠aa k->w'.heap[k]?=w.heap[k]?
def kB (h B:Nat)(v:am)(H:List (Zb×Lv))(w w':World):Prop:=∃D,nN h B v D H w w'
theorem Zc.dC {α:Type}{E:eW α}{v:am}{l:List α}(h:Zc E T w B v l)(O:∀k,v.ownBlock=aa k->w'.heap[k]?=w.heap[k]?):Zc E T w' B v l:=by
 rcases h with⟨H,D⟩
 refine⟨H,?_⟩;rcases D with D|⟨g,cap,I,rfl,J,K,r⟩
 ·exact al D
 ·exact ao ⟨g,cap,I,rfl,J,(O g rfl).trans K,r⟩
theorem zV {v D:am}{O:List (Zb×Lv)}{K:World}(hh:h<w.heap.size)(U:v.ownBlock≠aa h)(h1:Zc mE 90 K B D O)(I:w.grownBy K v.ownBlock)(H:D.ownBlock=v.ownBlock∨∃k,D.ownBlock=aa k/\w.heap.size<=k):nN h B v D O w (K.setCell ⟨h,0,N⟩ D):=by
 have Z:=I.block h hh (fun e=>U e.symm);have a0:D.ownBlock≠aa h:=fun e=>by
  rcases H with H|⟨k,H,h4⟩
  ·exact U (H.symm.trans e)
  ·rw[H]at e;injection e with e;omega
 refine⟨h1.dC (fun k J=>Deep.blk_setCell_other _ _ _ _ (fun e=>a0 (by rw[J,e]))),H,fun cs T hc=>Qc (Z.trans hc) 0 D,I.os,I.tape,I.output,by have:=I.size;simpa[au]using this,fun k J a2 a3=>(Deep.blk_setCell_other _ _ _ _ a2).trans (I.block k J (fun e=>a3 e.symm))⟩
theorem PV (h B:Nat)(v:am)(D H:List (Zb×Lv))(q:Option aN)(c2:Nat)(w:World)(hn:D.length<=120)(a9:H.length<=1000)(K:w.cell? ⟨h,0,N⟩=aa v)(hf:w.frozen? ⟨h,0,N⟩=ag)(a0:v.ownBlock≠aa h)(hB:B<=w.heap.size)(hO:Zc mE 90 w B v D)(hq:Ql mE w q H)(hr:H.length<=c2)(a2:q=N->H=[]/\c2=0):
 ah prog 45 #[.pointer (aa ⟨h,0,N⟩),.slice q H.length c2] w fun e w'=>e=.returned (.tuple #[])/\kB h B v (D++H.take (120-D.length)) w w':=by
 obtain⟨k,O⟩:=Xb (min H.length (120-D.length));have J:(H.take (120-D.length)).length=k:=by rw[ai,O,Nat.min_comm]
 obtain⟨p,c,hv,_,_,_,_⟩:=hO.form;obtain⟨v',U,ha,Z,I,h3⟩:=vX (w:=w.drew) (E:=mE) 46 90 _ 112 underlying46 oR rfl B v D hO q (H.take (120-D.length)) c2 (hq.take _) (fun e=>⟨by rw[(a2 e).1,List.take_nil],(a2 e).2⟩) (by rw[J];unfold maxLen;omega) (by rw[J];omega) hB;rw[J]at ha;have a6:U.cell? ⟨h,0,N⟩=aa v/\U.frozen? ⟨h,0,N⟩=false:=by
  have a7:h<w.heap.size:=by
   rcases zd h w.heap.size with h'|h'
   ·exact h'
   ·simp[zf,aE h']at K
  have hb:=I.block h a7 (fun e=>a0 e.symm);exact⟨(ak (a:=⟨h,0,N⟩) hb).trans K,(af (a:=⟨h,0,N⟩) hb).trans hf⟩
 have HI:Hid (kB h B v (D++H.take (120-D.length)) w (U.setCell ⟨h,0,N⟩ v')):=⟨v',zV (uU K) a0 Z ⟨I.os,I.tape,I.output,I.size,I.block⟩ h3⟩;obtain⟨r,a3⟩:=Xb (120-D.length);have a8:Hid (∀W:World,W.cell? ⟨h,0,N⟩=aa (.slice p D.length c)->ah prog 66 #[.pointer (aa ⟨h,0,N⟩)] W fun e w'=>e=.returned (.int .i64 (r:Int))/\w'=W):=fun W hW=>by
  have:=KM h D.length c p W hn hW;rw[show(120:Int)-(D.length:Int)=(r:Int) by omega]at this;exact this
 obtain⟨h4,h5⟩:=a6;subst hv;obtain⟨p',c',a4,_,_,_,_⟩:=Z.form;obtain⟨n',a5⟩:=Xb ((D++H.take (120-D.length)).length);rw[<-a5]at a4;subst a4;clear a5;rw[<-a3]at O;clear hO hq a2 Z I h3 a0 hB J;have b0:=K;generalize kB h B (.slice p D.length c) (D++H.take (120-D.length)) w=G at *;clear a3;generalize D.length=n at *;generalize H.length=n2 at *;have b1:min (n2:Int) (r:Int)=(k:Int):=by omega
 have z1:k<=c2:=by omega
 have z2:(0:Int)<=(k:Int):=by omega
 have z3:(k:Int)<=(c2:Int):=by omega
 clear O hn a9 hr;go_enter func45,ntmps45;go_wp2_with fail
 go_region_law (first|(go_simp;go_at_call 66;refine(a8.out _ (by assumption)).mono ?_;rintro e wn ⟨rfl,rfl⟩;go_simp)|(refine XU rfl (.tmp 8) (.tmp 15) 46 46 rfl _ _ (by first|(simp[Act.eval];done)|(simp[Act.eval,Act.put];done)) (by first|(simp[Act.eval];done)|(simp[Act.eval,Act.put];done)) (fun ty=>ha ty) ?_))
 all_goals (go_wp2;go_end0;exact⟨rfl,HI.out⟩)
theorem Xa {B:Array am}(D:w.heap[h]?=aa (.cells B T (0,0)))(i:Nat):w.cell? ⟨h,i,N⟩=B[i]?/\w.frozen? ⟨h,i,N⟩=false:=⟨by simp[zf,D],by simp[World.frozen?,D]⟩
theorem xE (w:World)(b B:Nat)(hB:B<=b)(D H I J K O U Z:am):ae B w ((((((((w.setCell ⟨b,0,N⟩ D).setCell ⟨b,1,N⟩ H).setCell ⟨b,2,N⟩ I).setCell ⟨b,3,N⟩ J).setCell ⟨b,4,N⟩ K).setCell ⟨b,5,N⟩ O).setCell ⟨b,6,N⟩ U).setCell ⟨b,7,N⟩ Z):=by
 have h0:ae B w (w.setCell ⟨b,0,N⟩ D):=(az B w).setCell hB D;generalize w.setCell ⟨b,0,N⟩ D=w0 at *;have h1:ae B w (w0.setCell ⟨b,1,N⟩ H):=h0.setCell hB H;generalize w0.setCell ⟨b,1,N⟩ H=w1 at *;have h2:ae B w (w1.setCell ⟨b,2,N⟩ I):=h1.setCell hB I;generalize w1.setCell ⟨b,2,N⟩ I=w2 at *;have h3:ae B w (w2.setCell ⟨b,3,N⟩ J):=h2.setCell hB J;generalize w2.setCell ⟨b,3,N⟩ J=w3 at *;have h4:ae B w (w3.setCell ⟨b,4,N⟩ K):=h3.setCell hB K;generalize w3.setCell ⟨b,4,N⟩ K=w4 at *;have h5:ae B w (w4.setCell ⟨b,5,N⟩ O):=h4.setCell hB O;generalize w4.setCell ⟨b,5,N⟩ O=w5 at *;have h6:ae B w (w5.setCell ⟨b,6,N⟩ U):=h5.setCell hB U;generalize w5.setCell ⟨b,6,N⟩ U=w6 at *;have h7:ae B w (w6.setCell ⟨b,7,N⟩ Z):=h6.setCell hB Z;exact h7
theorem nN.later {v J:am}{K:List (Zb×Lv)}{O:World}(D:nN h B v J K w W)(hh:h<w.heap.size)(H:ae w.heap.size W O)(hv:∀k,J.ownBlock=aa k->k<w.heap.size):nN h B v J K w O where
 own:=D.own.dC (fun k I=>H.block k (hv k I))
 loc:=D.loc
 self:=fun U T Z=>(H.block h hh).trans (D.self U T Z)
 os:=H.os.trans D.os
 tape:=H.tape.trans D.tape
 output:=H.output.trans D.output
 size:=ac D.size H.size
 cW:=fun k I h1 h2=>(H.block k I).trans (D.cW k I h1 h2)
theorem F6 (h B:Nat)(v:am)(D:List (Zb×Lv))(i:Nat)(w:World)(hn:D.length<=120)(hi:i<D.length)(h0:w.cell? ⟨h,0,N⟩=aa v)(hf:w.frozen? ⟨h,0,N⟩=ag)(a4:v.ownBlock≠aa h)(hO:Zc mE 90 w B v D):
 ah prog 37 #[.pointer (aa ⟨h,0,N⟩),.int .i64 (i:Int)] w fun e w'=>e=.returned (Z1 (JN D i).1 (fI (JN D i).2))/\kB h B v (D.eraseIdx i) w w':=by
 obtain⟨g,c,hv,O⟩:∃g c,v=.slice (aa ⟨g,0,N⟩) D.length c/\g<w.heap.size:=by
  rcases hO.2 with⟨_,hz⟩|⟨g,c,d6,hv,d7,b6,_⟩
  ·omega
  ·exact⟨g,c,hv,(Array.getElem?_eq_some_iff.1 b6).1⟩
 have b7:g≠h:=fun e=>a4 (by rw[hv,e];rfl)
 have a0:=uU h0;subst hv;obtain⟨p',c',b0,b1,_,_,_⟩:=hO.form;obtain⟨e1,_,e3⟩:=Value.slice.inj b0;subst e1 e3;obtain⟨b',o',hp,b8,m0,m1,m2,m3,m4,m5,m6,m7⟩:=vF b1 hi;injection hp with hp
 injection hp with e1 e2
 subst e1 e2;simp only[bh]at m0 m1 m2 m3 m4 m5 m6 m7;rw[rR hi]at m0 m1 m2 m3 m4 m5 m6 m7;obtain⟨x,hx⟩:=Xb (JN D i);rw[<-hx]at m0 m1 m2 m3 m4 m5 m6 m7 ⊢;obtain⟨⟨x0,x1,x2,x3,x4,x5,x6,xL⟩,lp,ln,lc⟩:=x;dsimp only at m0 m1 m2 m3 m4 m5 m6 m7;obtain⟨w1,a2⟩:=Xb (w.alloc (.cells #[.string ⟨#[]⟩,.string ⟨#[]⟩,.string ⟨#[]⟩,.string ⟨#[]⟩,.int .i64 0,.int .i64 0,.bool ag,.slice N 0 0] 90));obtain⟨w2,a3⟩:=Xb (w1.alloc (.cells #[.string x0,.string x1,.string x2,.string x3,.int .i64 x4,.int .i64 x5,.bool x6,.slice lp ln lc] 90));have H:=Zk a2;have a7:=QT a2;have a5:=Zk a3;have I:=H.trans (a5.mono H.size);have b2:=JH a2;have c8:w2.heap[w.heap.size+1]?=aa (.cells #[.string x0,.string x1,.string x2,.string x3,.int .i64 x4,.int .i64 x5,.bool x6,.slice lp ln lc] 90 (0,0)):=by
  rw[a3,<-a7];show(w1.heap.push _)[w1.heap.size]?=_;simp
 obtain⟨j,hj⟩:=Xb (i+1);have d0:=(I.cell (p:=⟨h,0,N⟩) a0).trans h0;have d8:=(H.cell (p:=⟨h,0,N⟩) a0).trans h0;have HD:Hid (ah prog 57 #[.slice (aa ⟨g,0,N⟩) D.length c,.int .i64 (i:Int),.int .i64 (j:Int)] w2 fun e w'=>∃n',e=.returned (.slice (aa ⟨g,0,N⟩) n' c)/\(∃v0,w'.cell? ⟨h,0,N⟩=aa v0)/\w'.frozen? ⟨h,0,N⟩=ag/\(w'.setCell ⟨h,0,N⟩ (.slice (aa ⟨g,0,N⟩) n' c)).heap[w.heap.size+1]?=aa (.cells #[.string x0,.string x1,.string x2,.string x3,.int .i64 x4,.int .i64 x5,.bool x6,.slice lp ln lc] 90 (0,0))/\(w'.setCell ⟨h,0,N⟩ (.slice (aa ⟨g,0,N⟩) n' c)).heap[w.heap.size]?=aa (.cells #[.string ⟨#[]⟩,.string ⟨#[]⟩,.string ⟨#[]⟩,.string ⟨#[]⟩,.int .i64 0,.int .i64 0,.bool ag,.slice N 0 0] 90 (0,0))/\Hid (∀W',ae w.heap.size (w'.setCell ⟨h,0,N⟩ (.slice (aa ⟨g,0,N⟩) n' c)) W'->kB h B (.slice (aa ⟨g,0,N⟩) D.length c) (D.eraseIdx i) w W')):=(UH B g c i j D w2 (by omega) hi hj (hO.dC (fun k hk=>I.block k (by have e:g=k:=(by simpa[Value.ownBlock]using hk);omega)))).mono fun e w' hq=>by
  obtain⟨q1,q2,Z⟩:=hq;have b3:=Z.block h (ab a0 I.size) (fun e=>b7 (by injection e with e;exact e.symm));refine⟨_,q1,⟨_,(ak (a:=⟨h,0,N⟩) b3).trans d0⟩,?_,?_,?_,fun W' d1=>?_⟩
  ·exact(af (a:=⟨h,0,N⟩) b3).trans ((af (a:=⟨h,0,N⟩) (I.block h a0)).trans hf)
  ·exact(aj _ _ _ _ (by show w.heap.size+1≠h;omega)).trans ((Z.block _ (by rw[show w2.heap.size=w1.heap.size+1 by rw[a3];simp];omega) (fun e=>by injection e with e;omega)).trans c8)
  ·exact(aj _ _ _ _ (by show w.heap.size≠h;omega)).trans ((Z.block _ (by have:=a5.size;omega) (fun e=>by injection e with e;omega)).trans ((a5.block _ (by omega)).trans b2))
  ·have d2:w.grownBy w' (Value.ownBlock (.slice (aa ⟨g,0,N⟩) D.length c)):=⟨Z.os.trans I.os,Z.tape.trans I.tape,Z.output.trans I.output,ac I.size Z.size,fun k hk a4=>(Z.block k (ab hk I.size) a4).trans (I.block k hk)⟩;exact⟨_,(zV a0 a4 q2 d2 (al rfl)).later a0 d1 (fun k hk=>by
    have:g=k:=by simpa[Value.ownBlock]using hk
    omega)⟩
 have d9:IntKind.i64.wrap ((i:Int)+1)=(j:Int):=by rw[IntKind.wrap_i64];omega
 have b4:Hid _:=a2;have a8:Hid _:=a3;have b5:Hid _:=a7;have z1:(0:Int)<=(i:Int):=by omega
 have z2:(i:Int)<(D.length:Int):=by omega
 have k0:=(H.cell (p:=⟨g,i*8,N⟩) O).trans m0;have k1:=(H.cell (p:=⟨g,i*8+1,N⟩) O).trans m1;have k2:=(H.cell (p:=⟨g,i*8+2,N⟩) O).trans m2;have k3:=(H.cell (p:=⟨g,i*8+3,N⟩) O).trans m3;have k4:=(H.cell (p:=⟨g,i*8+4,N⟩) O).trans m4;have k5:=(H.cell (p:=⟨g,i*8+5,N⟩) O).trans m5;have k6:=(H.cell (p:=⟨g,i*8+6,N⟩) O).trans m6;have k7:=(H.cell (p:=⟨g,i*8+7,N⟩) O).trans m7;generalize kB h B (.slice (aa ⟨g,0,N⟩) D.length c) (D.eraseIdx i) w=G at *;clear m0 m1 m2 m3 m4 m5 m6 m7 a2 a3 H a5 I b2 b1 hO a4 h0 hf hx b0 hj hn a0 b8 O a7;generalize D.length=n at *;go_enter func37,ntmps37;go_wp2_with (first|rw[<-b4.out]|rw[<-a8.out,b5.out]|rw[<-a8.out]|fail)
 refine HD.out.mono ?_;rintro e w3 ⟨n',rfl,⟨v0,u0⟩,u1,K,J,HG⟩;obtain⟨w4,a9⟩:=Xb (w3.setCell ⟨h,0,N⟩ (.slice (aa ⟨g,0,N⟩) n' c));rw[<-a9]at K J HG;have d3:Hid _:=a9;obtain⟨w5,a6⟩:=Xb (((((((((w4.setCell ⟨w.heap.size,0,N⟩ (.string x0)).setCell ⟨w.heap.size,1,N⟩ (.string x1)).setCell ⟨w.heap.size,2,N⟩ (.string x2)).setCell ⟨w.heap.size,3,N⟩ (.string x3)).setCell ⟨w.heap.size,4,N⟩ (.int .i64 x4)).setCell ⟨w.heap.size,5,N⟩ (.int .i64 x5)).setCell ⟨w.heap.size,6,N⟩ (.bool x6)).setCell ⟨w.heap.size,7,N⟩ (.slice lp ln lc)));have U:w5.heap[w.heap.size]?=aa (.cells #[.string x0,.string x1,.string x2,.string x3,.int .i64 x4,.int .i64 x5,.bool x6,.slice lp ln lc] 90 (0,0)):=by
  rw[a6];have:=(Qc (Qc (Qc (Qc (Qc (Qc (Qc (Qc J 0 (.string x0)) 1 (.string x1)) 2 (.string x2)) 3 (.string x3)) 4 (.int .i64 x4)) 5 (.int .i64 x5)) 6 (.bool x6)) 7 (.slice lp ln lc));simp only[List.setIfInBounds_toArray,List.set_cons_zero,List.set_cons_succ]at this;exact this
 have d4:Hid (G w5):=HG.out _ (by rw[a6];exact xE w4 w.heap.size w.heap.size nR _ _ _ _ _ _ _ _);have d5:Hid _:=a6;have y0:=(Xa K 0).1;have y1:=(Xa K 1).1;have y2:=(Xa K 2).1;have y3:=(Xa K 3).1;have y4:=(Xa K 4).1;have y5:=(Xa K 5).1;have y6:=(Xa K 6).1;have y7:=(Xa K 7).1;have s0:=Xa J 0;have s1:=Xa J 1;have s2:=Xa J 2;have s3:=Xa J 3;have s4:=Xa J 4;have s5:=Xa J 5;have s6:=Xa J 6;have s7:=Xa J 7;have t0:=(Xa U 0).1;have t1:=(Xa U 1).1;have t2:=(Xa U 2).1;have t3:=(Xa U 3).1;have t4:=(Xa U 4).1;have t5:=(Xa U 5).1;have t6:=(Xa U 6).1;have t7:=(Xa U 7).1;clear a9 K J HD b4 a8 b5 a6 U HG;go_wp2_with (rw[<-d3.out])
 go_wp2;rw[<-d5.out];refine bodyPost_ret (v:=.agg #[.string x0,.string x1,.string x2,.string x3,.int .i64 x4,.int .i64 x5,.bool x6,.slice lp ln lc]) (by simp[results,results37,go_sem,t0,t1,t2,t3,t4,t5,t6,t7]) rfl ⟨rfl,d4.out⟩
section
inductive Whose where
 |self|msgs|cD|bV|node (i:Nat)|mem (i:Nat)|ask (i:Nat)|bI|bD
structure fS where
 p:Option Nat
 put:Bool
 text:BA
 cfg:Int
 fr:Int
structure fB where
 c:Xg
 p:Option aN
 cap:Nat
structure WB where
 vm:am
 cl:Nat->fS
 vn:am
 mp:Option Nat
 nx:fB
 cf:fB
 act:Int
 aY:Int
 del:Int
 ve:am
def J3 (p:Option Nat):Value:=.pointer (p.map fun b=>⟨b,0,N⟩)
def fB.v (c:fB):Value:=.slice c.p c.c.L.length c.cap
def Zi (X:WB):Array Value:=#[X.vm,
 J3 (X.cl 0).p,.bool (X.cl 0).put,.string (X.cl 0).text,.int .i64 (X.cl 0).cfg,.int .i64 (X.cl 0).fr,
 J3 (X.cl 1).p,.bool (X.cl 1).put,.string (X.cl 1).text,.int .i64 (X.cl 1).cfg,.int .i64 (X.cl 1).fr,
 J3 (X.cl 2).p,.bool (X.cl 2).put,.string (X.cl 2).text,.int .i64 (X.cl 2).cfg,.int .i64 (X.cl 2).fr,
 J3 (X.cl 3).p,.bool (X.cl 3).put,.string (X.cl 3).text,.int .i64 (X.cl 3).cfg,.int .i64 (X.cl 3).fr,
 J3 (X.cl 4).p,.bool (X.cl 4).put,.string (X.cl 4).text,.int .i64 (X.cl 4).cfg,.int .i64 (X.cl 4).fr,
 J3 (X.cl 5).p,.bool (X.cl 5).put,.string (X.cl 5).text,.int .i64 (X.cl 5).cfg,.int .i64 (X.cl 5).fr,
 X.vn,J3 X.mp,.int .i64 X.nx.c.n,.int .i64 X.nx.c.k,X.nx.v,.int .i64 X.cf.c.n,.int .i64 X.cf.c.k,X.cf.v,
 .int .i64 X.act,.int .i64 X.aY,.int .i64 X.del,X.ve]
def j5:eW Nat:=⟨1,by decide,fun b=>[.pointer (aa ⟨b,0,N⟩)],fun _=>rfl,fun x u D=>by simp at D;rw[D];rfl⟩
def iR (w:World)(O:Nat->Option Whose)(c:fB):Prop:=Yn w c.c c.p c.cap/\∀b o,c.p=aa ⟨b,o,N⟩->O b=aa .bD
def kA (w:World)(B:Nat)(O:Nat->Option Whose)(i:Nat)(o:Option Za)(c:fS)(t:BA)(s:Int):Prop :=
 match o with
 |none=>c.p=N
 |some a=>∃b,c.p=aa b/\Qw w B b (fun k=>O k=aa (.ask i)) a/\c.put=a.put/\c.text=t/\c.cfg=a.config/\c.fr=s
def rM (w:World)(B:Nat)(O:Nat->Option Whose)(o:Option Za)(p:Option Nat)(nx:fB):Prop :=
 match o with
 |none=>p=N
 |some a=>∃b,p=aa b/\XM w B b (fun k=>O k=aa .bI) a/\iR w O nx
structure XJ (w:World) (B:Nat) (O:Nat->Option Whose) (m:Ya) (X:WB) (ml:List (Zb×Lv)) (nb hn:Nat->Nat):Prop where
 aO:∀k o,O k=aa o->B<=k/\k<w.heap.size
 row:Zc mE 90 w B X.vm ml
 cX:∀k,X.vm.ownBlock=aa k->O k=aa .msgs
 dK:ml.map Prod.fst=m.L
 bD:∀x∈ml,Jn w x/\∀b o,x.2.1=aa ⟨b,o,N⟩->O b=aa .bD
 bV:Zc XI 41 w B X.ve m.events
 cS:∀k,X.ve.ownBlock=aa k->O k=aa .bV
 cD:Zc j5 84 w B X.vn ((bs m.nodes.length).map nb)
 bU:∀k,X.vn.ownBlock=aa k->O k=aa .cD
 node:∀i,i<m.nodes.length->w.heap[nb i]?=aa (.cells #[.pointer (aa ⟨hn i,0,N⟩),.string (Jc m.nodes i).1.name,.bool (!(Jc m.nodes i).2)] 86 (0,0))/\O (nb i)=aa (.node i)
 mem:∀i,i<m.nodes.length->XE w B (hn i) (fun k=>O k=aa (.mem i)) (Jc m.nodes i).1
 ask:∀i,i<6->kA w B O i (Xf m.asks i) (X.cl i) (Yc m.texts i) (m.since.getD i 0)
 bI:rM w B O m.mover X.mp X.nx
 cf:iR w O X.cf
structure Ye (w:World) (B h:Nat) (O:Nat->Option Whose) (m:Ya) (X:WB) (ml:List (Zb×Lv)) (nb hn:Nat->Nat):Prop extends XJ w B O m X ml nb hn where
 blk:w.heap[h]?=aa (.cells (Zi X) 65 (0,0))
 self:O h=aa .self
 cV:X.cf.c=aG m.aB m.aC
 dF:m.mover.isSome->X.nx.c=aG m.aB (m.aC+1)
 aW:X.act=(m.aC:Int)/\X.aY=m.ops/\X.del=m.aA
section
variable {w w':World} {B h:Nat} {O O':Nat->Option Whose} {m:Ya} {X:WB} {ml:List (Zb×Lv)} {nb hn:Nat->Nat}
theorem yG {t:Whose}(D:∀k,O' k=aa t↔O k=aa t):(fun k=>O' k=aa t)=(fun k=>O k=aa t):=funext fun k=>propext (D k)
theorem Qw.kept (h:Qw w B b (fun k=>O k=aa (.ask i)) a)(I:∀k,O' k=aa (.ask i)↔O k=aa (.ask i))(J:w.heap.size<=w'.heap.size)(K:∀k,O k=aa (.ask i)->w'.heap[k]?=w.heap[k]?):Qw w' B b (fun k=>O' k=aa (.ask i)) a:=by
 rw[yG I];obtain⟨⟨_,_,_,_,_,_,_,_,_,_,D⟩,H⟩:=h;exact⟨⟨_,_,_,_,_,_,_,_,_,_,D.aS J K⟩,H⟩
theorem XM.kept (h:XM w B b (fun k=>O k=aa .bI) a)(I:∀k,O' k=aa .bI↔O k=aa .bI)(J:w.heap.size<=w'.heap.size)(K:∀k,O k=aa .bI->w'.heap[k]?=w.heap[k]?):XM w' B b (fun k=>O' k=aa .bI) a:=by
 rw[yG I];obtain⟨⟨_,_,_,_,_,_,_,_,_,_,D⟩,H⟩:=h;exact⟨⟨_,_,_,_,_,_,_,_,_,_,D.aS J K⟩,H⟩
theorem XE.kept {x:Je}(h:XE w B b (fun k=>O k=aa (.mem i)) x)(H:∀k,O' k=aa (.mem i)↔O k=aa (.mem i))(I:w.heap.size<=w'.heap.size)(J:∀k,O k=aa (.mem i)->w'.heap[k]?=w.heap[k]?):XE w' B b (fun k=>O' k=aa (.mem i)) x:=by
 rw[yG H];obtain⟨_,_,_,_,D⟩:=h;exact⟨_,_,_,_,D.aS I J⟩
theorem iR.kept {c:fB}(h:iR w O c)(I:∀k,O k=aa .bD->O' k=aa .bD)(J:w.heap.size<=w'.heap.size)(K:∀k,O k=aa .bD->w'.heap[k]?=w.heap[k]?):iR w' O' c:=by
 obtain⟨D,H⟩:=h;exact⟨⟨D.strs.same J (fun b o e=>K b (H b o e)),D.room,D.empty,D.len,D.size,D.ints⟩,fun b o e=>I b (H b o e)⟩
theorem Jn.kept {x:Zb×Lv}(h:Jn w x)(D:w.heap.size<=w'.heap.size)(H:∀b o,x.2.1=aa ⟨b,o,N⟩->w'.heap[b]?=w.heap[b]?):Jn w' x:=⟨h.len,h.eC.sameAt D H,h.room,h.empty⟩
structure Qv (t:Whose) (O O':Nat->Option Whose) (B:Nat) (w w':World):Prop where
 same:∀o k,o≠t->o≠.bD->(O' k=aa o↔O k=aa o)
 bD:∀k,O k=aa .bD->O' k=aa .bD
 aO:∀k o,O' k=aa o->B<=k/\k<w'.heap.size
 size:w.heap.size<=w'.heap.size
 kept:∀k o,O k=aa o->o≠t->o≠.self->w'.heap[k]?=w.heap[k]?
open Classical in
noncomputable def turnO (O:Nat->Option Whose) (t:Whose) (S':Nat->Prop) (n n':Nat):Nat->Option Whose:=fun k=>if S' k then aa t else if O k=aa t then N else if n<=k/\k<n' then aa .bD else O k
theorem ZU {t:Whose}{K:Nat}(U:t≠.bD)(k:Nat):turnO O t I n K k=aa t↔I k:=by
 unfold turnO;by_cases D:I k
 ·rw[if_pos D];exact⟨fun _=>D,fun _=>rfl⟩
 ·rw[if_neg D];refine⟨fun e=>?_,fun h=>absurd h D⟩;by_cases H:O k=aa t
  ·rw[if_pos H]at e;cases e
  ·rw[if_neg H]at e;by_cases J:n<=k/\k<K
   ·rw[if_pos J]at e;injection e with e;exact absurd e.symm U
   ·rw[if_neg J]at e;exact absurd e H
theorem oK {t:Whose}{D:Nat->Prop}{H:Nat}(I:∀k o,O k=aa o->k<n)(J:¬D k)(K:n<=k)(U:k<H):turnO O t D n H k=aa .bD:=by
 unfold turnO;rw[if_neg J,if_neg (fun e=>by have:=I k _ e;omega),if_pos ⟨K,U⟩]
theorem Qv.of {t:Whose}(ht:t≠.bD)(K:∀k o,O k=aa o->B<=k/\k<w.heap.size)(hB:B<=w.heap.size)(Z:Yd (fun k=>O k=aa t∨O k=aa .self) I w w')(a0:∀k,I k->O k=aa t∨w.heap.size<=k)(hS:∀k,I k->k<w'.heap.size):Qv t O (turnO O t I w.heap.size w'.heap.size) B w w' where
 same:=fun o k U hi=>by
  unfold turnO;by_cases D:I k
  ·rw[if_pos D];refine⟨fun e=>(by injection e with e;exact absurd e.symm U),fun e=>?_⟩;rcases a0 k D with h|h
   ·have h:O k=aa t:=h;rw[h]at e;exact e
   ·have:=(K k o e).2;omega
  ·rw[if_neg D];by_cases J:O k=aa t
   ·rw[if_pos J,J];exact⟨fun e=>(by cases e),fun e=>(by injection e with e;exact absurd e.symm U)⟩
   ·rw[if_neg J];by_cases H:w.heap.size<=k/\k<w'.heap.size
    ·rw[if_pos H];exact⟨fun e=>(by injection e with e;exact absurd e.symm hi),fun e=>(by have:=(K k o e).2;omega)⟩
    ·rw[if_neg H]
 bD:=fun k e=>by
  unfold turnO;by_cases D:I k
  ·rcases a0 k D with h|h
   ·have h:O k=aa t:=h;rw[h]at e;injection e with e;exact absurd e ht
   ·have:=(K k _ e).2;omega
  ·rw[if_neg D,if_neg (fun h=>by rw[h]at e;injection e with e;exact ht e)];by_cases H:w.heap.size<=k/\k<w'.heap.size
   ·rw[if_pos H]
   ·rw[if_neg H];exact e
 aO:=fun k o e=>by
  unfold turnO at e;by_cases D:I k
  ·refine⟨?_,hS k D⟩;rcases a0 k D with h|h
   ·exact(K k _ h).1
   ·omega
  ·rw[if_neg D]at e;by_cases J:O k=aa t
   ·rw[if_pos J]at e;cases e
   ·rw[if_neg J]at e;by_cases H:w.heap.size<=k/\k<w'.heap.size
    ·omega
    ·rw[if_neg H]at e;have:=K k o e;have:=Z.size;omega
 size:=Z.size
 kept:=fun k o e U hs=>Z.block k (K k o e).2 (fun h=>by rcases h with h|h<;>rw[h]at e<;>injection e with e<;>first|exact U e.symm|exact hs e.symm)
theorem QM {t:Whose}(H:Yd (fun k=>O k=aa t∨O k=aa .self) I w w')(U:∀k,I k->O k=aa t∨w.heap.size<=k):Yd (fun k=>O k≠N) (fun k=>turnO O t I w.heap.size w'.heap.size k≠N) w w':=by
 refine⟨H.os,H.tape,H.output,H.size,fun k J hn=>H.block k J (fun h=>hn (by rcases h with h|h<;>rw[h]<;>exact fun e=>(by cases e))),fun k e=>?_⟩;by_cases D:O k=N
 ·refine ao ?_;rcases zd k w.heap.size with Z|K
  ·exfalso;refine e ?_;unfold turnO;rw[if_neg (fun h=>by rcases U k h with h|h;(have h:O k=aa t:=h;rw[h]at D;cases D);omega),if_neg (fun h=>by rw[h]at D;cases D),if_neg (by omega)];exact D
  ·exact K
 ·exact al D
theorem Qv.call {t:Whose}(J:t≠.bD)(K:∀k o,O k=aa o->B<=k/\k<w.heap.size)(hB:B<=w.heap.size)(D:Yd (fun k=>O k=aa t) I w w')(U:∀k,I k->k<w'.heap.size):Qv t O (turnO O t I w.heap.size w'.heap.size) B w w' :=
 Qv.of J K hB ⟨D.os,D.tape,D.output,D.size,fun k H h=>D.block k H (fun e=>h (al e)),fun k H=>(D.new k H).imp (fun h=>al h) id⟩ D.new U
variable {t:Whose}
theorem XJ.cO (H:XJ w B O m X ml nb hn)(I:Qv t O O' B w w')(J:.msgs≠t):Zc mE 90 w' B X.vm ml/\∀k,X.vm.ownBlock=aa k->O' k=aa .msgs :=
 ⟨H.row.dC (fun k D=>I.kept k _ (H.cX k D) J (fun e=>by cases e)),fun k D=>(I.same _ k J (fun e=>by cases e)).2 (H.cX k D)⟩
theorem XJ.eR (H:XJ w B O m X ml nb hn)(I:Qv t O O' B w w')(J:.bD≠t):∀x∈ml,Jn w' x/\∀b o,x.2.1=aa ⟨b,o,N⟩->O' b=aa .bD:=fun x D =>
 ⟨(H.bD x D).1.kept I.size (fun b o e=>I.kept b _ ((H.bD x D).2 b o e) J (fun e=>by cases e)),fun b o e=>I.bD b ((H.bD x D).2 b o e)⟩
theorem XJ.cP (H:XJ w B O m X ml nb hn)(I:Qv t O O' B w w')(J:.bV≠t):Zc XI 41 w' B X.ve m.events/\∀k,X.ve.ownBlock=aa k->O' k=aa .bV :=
 ⟨H.bV.dC (fun k D=>I.kept k _ (H.cS k D) J (fun e=>by cases e)),fun k D=>(I.same _ k J (fun e=>by cases e)).2 (H.cS k D)⟩
theorem XJ.bY (H:XJ w B O m X ml nb hn)(I:Qv t O O' B w w')(J:.cD≠t):Zc j5 84 w' B X.vn ((bs m.nodes.length).map nb)/\∀k,X.vn.ownBlock=aa k->O' k=aa .cD :=
 ⟨H.cD.dC (fun k D=>I.kept k _ (H.bU k D) J (fun e=>by cases e)),fun k D=>(I.same _ k J (fun e=>by cases e)).2 (H.bU k D)⟩
theorem XJ.dB (D:XJ w B O m X ml nb hn)(I:Qv t O O' B w w')(H:i<m.nodes.length)(J:.node i≠t):w'.heap[nb i]?=aa (.cells #[.pointer (aa ⟨hn i,0,N⟩),.string (Jc m.nodes i).1.name,.bool (!(Jc m.nodes i).2)] 86 (0,0))/\O' (nb i)=aa (.node i) :=
 ⟨(I.kept _ _ (D.node i H).2 J (fun e=>by cases e)).trans (D.node i H).1,(I.same _ _ J (fun e=>by cases e)).2 (D.node i H).2⟩
theorem XJ.dZ (J:XJ w B O m X ml nb hn)(D:Qv t O O' B w w')(K:i<m.nodes.length)(H:.mem i≠t):XE w' B (hn i) (fun k=>O' k=aa (.mem i)) (Jc m.nodes i).1 :=
 (J.mem i K).kept (fun k=>D.same _ k H (fun e=>by cases e)) D.size (fun k I=>D.kept k _ I H (fun e=>by cases e))
theorem kA.kept {o:Option Za}{c:fS}{tx:BA}{s:Int}(h:kA w B O i o c tx s)(D:Qv t O O' B w w')(H:.ask i≠t):kA w' B O' i o c tx s:=by
 cases o with
 |none=>exact h
 |some a =>
  obtain⟨b,I,J,K⟩:=h;exact⟨b,I,J.kept (fun k=>D.same _ k H (fun e=>by cases e)) D.size (fun k U=>D.kept k _ U H (fun e=>by cases e)),K⟩
theorem rM.kept {o:Option Za}{p:Option Nat}{nx:fB}(h:rM w B O o p nx)(D:Qv t O O' B w w')(I:.bI≠t)(Z:.bD≠t):rM w' B O' o p nx:=by
 cases o with
 |none=>exact h
 |some a =>
  obtain⟨b,J,K,U⟩:=h;exact⟨b,J,K.kept (fun k=>D.same _ k I (fun e=>by cases e)) D.size (fun k H=>D.kept k _ H I (fun e=>by cases e)),U.kept D.bD D.size (fun k H=>D.kept k _ H Z (fun e=>by cases e))⟩
theorem XJ.gH (H:XJ w B O m X ml nb hn)(D:Qv (.ask i) O O' B w w'){X':WB}(e1:m'.L=m.L)(J:m'.nodes=m.nodes)(e3:m'.events=m.events)(e4:m'.mover=m.mover)(e5:∀j,j<6->j≠i->Xf m'.asks j=Xf m.asks j/\Yc m'.texts j=Yc m.texts j/\m'.since.getD j 0=m.since.getD j 0)
 (K:X'.vm=X.vm) (U:X'.vn=X.vn) (Z:X'.ve=X.ve) (x4:X'.mp=X.mp) (x5:X'.nx=X.nx) (x6:X'.cf=X.cf) (x7:∀j,j≠i->X'.cl j=X.cl j) (hc:i<6->kA w' B O' i (Xf m'.asks i) (X'.cl i) (Yc m'.texts i) (m'.since.getD i 0)):XJ w' B O' m' X' ml nb hn where
 aO:=D.aO
 row:=by rw[K];exact(H.cO D (fun e=>by cases e)).1
 cX:=by rw[K];exact(H.cO D (fun e=>by cases e)).2
 dK:=by rw[e1];exact H.dK
 bD:=H.eR D (fun e=>by cases e)
 bV:=by rw[Z,e3];exact(H.cP D (fun e=>by cases e)).1
 cS:=by rw[Z];exact(H.cP D (fun e=>by cases e)).2
 cD:=by rw[U,J];exact(H.bY D (fun e=>by cases e)).1
 bU:=by rw[U];exact(H.bY D (fun e=>by cases e)).2
 node:=fun j I=>by rw[J]at I ⊢;exact H.dB D I (fun e=>by cases e)
 mem:=fun j I=>by rw[J]at I ⊢;exact H.dZ D I (fun e=>by cases e)
 ask:=fun j I=>by
  by_cases h:j=i
  ·subst h;exact hc I
  ·obtain⟨g1,g2,g3⟩:=e5 j I h;rw[g1,g2,g3,x7 j h];exact(H.ask j I).kept D (fun e=>h (by injection e))
 bI:=by rw[e4,x4,x5];exact H.bI.kept D (fun e=>by cases e) (fun e=>by cases e)
 cf:=by rw[x6];exact H.cf.kept D.bD D.size (fun k hk=>D.kept k _ hk (fun e=>by cases e) (fun e=>by cases e))
theorem XJ.mJ (D:XJ w B O m X ml nb hn)(H:Qv .bI O O' B w w'){X':WB}(e1:m'.L=m.L)(J:m'.nodes=m.nodes)(e3:m'.events=m.events)(K:m'.asks=m.asks/\m'.texts=m.texts/\m'.since=m.since)
 (U:X'.vm=X.vm) (Z:X'.vn=X.vn) (x3:X'.ve=X.ve) (x7:X'.cl=X.cl) (hm:rM w' B O' m'.mover X'.mp X'.nx) (hc:iR w' O' X'.cf):XJ w' B O' m' X' ml nb hn where
 aO:=H.aO
 row:=by rw[U];exact(D.cO H (fun e=>by cases e)).1
 cX:=by rw[U];exact(D.cO H (fun e=>by cases e)).2
 dK:=by rw[e1];exact D.dK
 bD:=D.eR H (fun e=>by cases e)
 bV:=by rw[x3,e3];exact(D.cP H (fun e=>by cases e)).1
 cS:=by rw[x3];exact(D.cP H (fun e=>by cases e)).2
 cD:=by rw[Z,J];exact(D.bY H (fun e=>by cases e)).1
 bU:=by rw[Z];exact(D.bY H (fun e=>by cases e)).2
 node:=fun j I=>by rw[J]at I ⊢;exact D.dB H I (fun e=>by cases e)
 mem:=fun j I=>by rw[J]at I ⊢;exact D.dZ H I (fun e=>by cases e)
 ask:=fun j I=>by rw[K.1,K.2.1,K.2.2,x7];exact(D.ask j I).kept H (fun e=>by cases e)
 bI:=hm
 cf:=hc
theorem XJ.zZ (H:XJ w B O m X ml nb hn)(D:Qv (.mem i) O O' B w w')(hi:i<m.nodes.length)(e1:m'.L=m.L)(e3:m'.events=m.events)(e4:m'.mover=m.mover)(J:m'.asks=m.asks/\m'.texts=m.texts/\m'.since=m.since)(K:m'.nodes.length=m.nodes.length)(U:∀j,j≠i->Jc m'.nodes j=Jc m.nodes j)(Z:(Jc m'.nodes i).1.name=(Jc m.nodes i).1.name/\(Jc m'.nodes i).2=(Jc m.nodes i).2)
 (hm:XE w' B (hn i) (fun k=>O' k=aa (.mem i)) (Jc m'.nodes i).1):XJ w' B O' m' X ml nb hn where
 aO:=D.aO
 row:=(H.cO D (fun e=>by cases e)).1
 cX:=(H.cO D (fun e=>by cases e)).2
 dK:=by rw[e1];exact H.dK
 bD:=H.eR D (fun e=>by cases e)
 bV:=by rw[e3];exact(H.cP D (fun e=>by cases e)).1
 cS:=(H.cP D (fun e=>by cases e)).2
 cD:=by rw[K];exact(H.bY D (fun e=>by cases e)).1
 bU:=(H.bY D (fun e=>by cases e)).2
 node:=fun j I=>by
  rw[K]at I;have:=H.dB D I (fun e=>by cases e);by_cases h:j=i
  ·subst h;rw[Z.1,Z.2];exact this
  ·rw[U j h];exact this
 mem:=fun j I=>by
  rw[K]at I;by_cases h:j=i
  ·subst h;exact hm
  ·rw[U j h];exact H.dZ D I (fun e=>h (by injection e))
 ask:=fun j I=>by rw[J.1,J.2.1,J.2.2];exact(H.ask j I).kept D (fun e=>by cases e)
 bI:=by rw[e4];exact H.bI.kept D (fun e=>by cases e) (fun e=>by cases e)
 cf:=H.cf.kept D.bD D.size (fun k hk=>D.kept k _ hk (fun e=>by cases e) (fun e=>by cases e))
theorem XJ.vL (H:XJ w B O m X ml nb hn)(D:Qv .msgs O O' B w w'){X':WB}{J:List (Zb×Lv)}(K:m'.nodes=m.nodes)(e3:m'.events=m.events)(e4:m'.mover=m.mover)(U:m'.asks=m.asks/\m'.texts=m.texts/\m'.since=m.since)
 (Z:X'.vn=X.vn) (x3:X'.ve=X.ve) (x4:X'.mp=X.mp) (x5:X'.nx=X.nx) (x6:X'.cf=X.cf) (x7:X'.cl=X.cl) (hr:Zc mE 90 w' B X'.vm J) (a0:∀k,X'.vm.ownBlock=aa k->O' k=aa .msgs) (a2:J.map Prod.fst=m'.L) (hi:∀x∈J,Jn w' x/\∀b o,x.2.1=aa ⟨b,o,N⟩->O' b=aa .bD):XJ w' B O' m' X' J nb hn where
 aO:=D.aO
 row:=hr
 cX:=a0
 dK:=a2
 bD:=hi
 bV:=by rw[x3,e3];exact(H.cP D (fun e=>by cases e)).1
 cS:=by rw[x3];exact(H.cP D (fun e=>by cases e)).2
 cD:=by rw[Z,K];exact(H.bY D (fun e=>by cases e)).1
 bU:=by rw[Z];exact(H.bY D (fun e=>by cases e)).2
 node:=fun j I=>by rw[K]at I ⊢;exact H.dB D I (fun e=>by cases e)
 mem:=fun j I=>by rw[K]at I ⊢;exact H.dZ D I (fun e=>by cases e)
 ask:=fun j I=>by rw[U.1,U.2.1,U.2.2,x7];exact(H.ask j I).kept D (fun e=>by cases e)
 bI:=by rw[e4,x4,x5];exact H.bI.kept D (fun e=>by cases e) (fun e=>by cases e)
 cf:=by rw[x6];exact H.cf.kept D.bD D.size (fun k hk=>D.kept k _ hk (fun e=>by cases e) (fun e=>by cases e))
end
end
theorem Yx {X:WB}(B:w.heap[h]?=aa (.cells (Zi X) 65 (0,0)))(D:k<6):w.cell? ⟨h,1+k*5,N⟩=aa (J3 (X.cl k).p)/\w.cell? ⟨h,1+k*5+1,N⟩=aa (.bool (X.cl k).put)/\w.cell? ⟨h,1+k*5+2,N⟩=aa (.string (X.cl k).text)/\w.cell? ⟨h,1+k*5+3,N⟩=aa (.int .i64 (X.cl k).cfg)/\w.cell? ⟨h,1+k*5+4,N⟩=aa (.int .i64 (X.cl k).fr):=by
 have c:=fun i=>(Xa B i).1
 match k,D with
 |0,_=>exact⟨c 1,c 2,c 3,c 4,c 5⟩
 |1,_=>exact⟨c 6,c 7,c 8,c 9,c 10⟩
 |2,_=>exact⟨c 11,c 12,c 13,c 14,c 15⟩
 |3,_=>exact⟨c 16,c 17,c 18,c 19,c 20⟩
 |4,_=>exact⟨c 21,c 22,c 23,c 24,c 25⟩
 |5,_=>exact⟨c 26,c 27,c 28,c 29,c 30⟩
theorem uM (who:Int)(w:World):ah prog 25 #[.int .i64 who] w fun e w'=>e=.returned (.bool (decide (0<=who/\who<6)))/\w'=w:=by
 by_cases B:0<=who
 ·have H:decide (0<=who)=true:=decide_eq_true B;have D:Hid (decide (0<=who/\who<6)=decide (who<6)):=by show _=_;simp[B]
  rw[D.out];clear B D;go_enter func25,ntmps25;go_wp2;go_ret;exact⟨rfl,rfl⟩
 ·have H:decide (0<=who)=false:=decide_eq_false B;have D:Hid (decide (0<=who/\who<6)=ag):=decide_eq_false (fun h=>B h.1);rw[D.out];clear B D;go_enter func25,ntmps25;go_wp2;go_ret;exact⟨rfl,rfl⟩
def kV (o:Option Za):BA:=match o with|none=>pQ|some a=>a.st.word
theorem XV {O:Nat->Option Whose}{m:Ya}{X:WB}{ml:List (Zb×Lv)}{nb hn:Nat->Nat}(J:Ye w B h O m X ml nb hn)(hk:k<6):
 ah prog 26 #[.pointer (aa ⟨h,1+k*5,N⟩)] w fun e w'=>e=.returned (.string (kV (Xf m.asks k)))/\ae w.heap.size w w':=by
 have H:=(Yx J.blk hk).1;have D:=J.ask k hk;cases I:Xf m.asks k with
 |none =>
  rw[I]at D;have D:=D;rw[D]at H;change w.cell? ⟨h,1+k*5,N⟩=aa (.pointer N)at H;show ah _ _ _ _ fun e w'=>e=.returned (.string ⟨#[105,100,108,101]⟩)/\_
  clear D I J;go_enter func26,ntmps26;go_wp2;go_ret;exact⟨rfl,az _ _⟩
 |some a =>
  rw[I]at D;obtain⟨b,K,U,_⟩:=D;rw[K]at H;change w.cell? ⟨h,1+k*5,N⟩=aa (.pointer (aa ⟨b,0,N⟩))at H;have HS:=CL U;show ah _ _ _ _ fun e w'=>e=.returned (.string a.st.word)/\_
  clear K U I J;generalize a.st.word=sw at *;go_enter func26,ntmps26;go_wp2_with fail
  refine HS.mono ?_;rintro e w1 ⟨rfl,Z⟩;have HB:Hid _:=Z;clear Z;go_wp2;go_ret;exact⟨rfl,HB.out⟩
theorem DI {X:WB}(B:w.heap[h]?=aa (.cells (Zi X) 65 (0,0)))(D:0<=X.aY)(I:X.aY<=1152921504606846976):
 ah prog 44 #[.pointer (aa ⟨h,0,N⟩)] w fun e w'=>e=.returned (.int .i64 X.aY)/\w'=w.setCell ⟨h,40,N⟩ (.int .i64 (X.aY+1)):=by
 have J:w.cell? ⟨h,40,N⟩=aa (.int .i64 X.aY):=(Xa B 40).1;have K:=(Xa B 40).2;have a1:IntKind.i64.wrap (X.aY+1)=X.aY+1:=by rw[IntKind.wrap_i64];omega
 have H:wrap64 X.aY=X.aY:=by
  have:=Jj6 X.aY.toNat (by omega)
  rwa[Int.toNat_of_nonneg D]at this
 clear B D I;generalize X.aY=n at *;go_enter func44,ntmps44;go_wp2;go_ret;exact⟨by show Ending.returned (Value.int .i64 (wrap64 n))=_;rw[H],rfl⟩
section
section
variable {w w':World} {B h:Nat} {O:Nat->Option Whose} {m:Ya} {X:WB} {ml:List (Zb×Lv)} {nb hn:Nat->Nat}
theorem Ye.lt (D:Ye w B h O m X ml nb hn):h<w.heap.size:=(D.aO h _ D.self).2
theorem Ye.gV (D:Ye w B h O m X ml nb hn):X.vm.ownBlock≠aa h:=fun e=>by
 have:=D.cX h e;rw[D.self]at this;cases this
theorem Ye.cell (D:Ye w B h O m X ml nb hn)(i:Nat):w.cell? ⟨h,i,N⟩=(Zi X)[i]?/\w.frozen? ⟨h,i,N⟩=false:=Xa D.blk i
theorem Ye.base (D:Ye w B h O m X ml nb hn):B<=w.heap.size:=by have:=D.aO h _ D.self;omega
theorem XJ.aS (D:XJ w B O m X ml nb hn)(H:w.heap.size<=w'.heap.size)(J:∀k o,O k=aa o->o≠.self->w'.heap[k]?=w.heap[k]?):XJ w' B O m X ml nb hn :=
 D.gH (i:=6) ⟨fun _ _ _ _=>Iff.rfl,fun _ h=>h,fun k o e=>⟨(D.aO k o e).1,ab (D.aO k o e).2 H⟩,H,fun k o e _ h=>J k o e h⟩ rfl rfl rfl rfl (fun j _ _=>⟨rfl,rfl,rfl⟩) rfl rfl rfl rfl rfl rfl (fun _ _=>rfl) (fun I=>absurd I (by omega))
theorem Ye.aS (D:Ye w B h O m X ml nb hn)(I:w.heap.size<=w'.heap.size)(H:∀k o,O k=aa o->w'.heap[k]?=w.heap[k]?):Ye w' B h O m X ml nb hn :=
 {D.toXJ.aS I (fun k o e _=>H k o e)with blk:=(H h _ D.self).trans D.blk,self:=D.self,cV:=D.cV,dF:=D.dF,aW:=D.aW}
theorem Ye.below (D:Ye w B h O m X ml nb hn)(H:ae w.heap.size w w'):Ye w' B h O m X ml nb hn:=D.aS H.size (fun k o e=>H.block k (D.aO k o e).2)
theorem Ye.oV (D:Ye w B h O m X ml nb hn){K:am}{U:List (Zb×Lv)}(I:nN h B X.vm K U w w')(hi:∀x∈U,Jn w x/\∀b o,x.2.1=aa ⟨b,o,N⟩->O b=aa .bD):∃O',Ye w' B h O' {m with L:=U.map Prod.fst} {X with vm:=K} U nb hn/\Qv .msgs O O' B w w'/\Yd (fun k=>O k≠N) (fun k=>O' k≠N) w w':=by
 have Z:∀k,K.ownBlock=aa k->O k=aa .msgs∨w.heap.size<=k:=fun k H=>by
  rcases I.loc with e|⟨k',e,a2⟩
  ·exact al (D.cX k (e.symm.trans H))
  ·rw[H]at e;injection e with e;exact ao (by omega)
 have hU:Yd (fun k=>O k=aa .msgs∨O k=aa .self) (fun k=>K.ownBlock=aa k) w w':=⟨I.os,I.tape,I.output,I.size,fun k H a0=>I.cW k H (fun e=>a0 (ao (e▸D.self))) (fun e=>a0 (al (D.cX k e))),fun k H=>(Z k H).imp al id⟩;have J:=Qv.of (t:=.msgs) (fun e=>by cases e) D.aO D.base hU Z (fun k H=>(I.own.block H).2);refine⟨_,{D.toXJ.vL (m':={m with L:=U.map Prod.fst}) (X':={X with vm:=K}) J rfl rfl rfl ⟨rfl,rfl,rfl⟩ rfl rfl rfl rfl rfl rfl I.own (fun k H=>(ZU (fun e=>by cases e) k).2 H) rfl (fun x hx=>⟨(hi x hx).1.kept I.size (fun b o e=>J.kept b _ ((hi x hx).2 b o e) (fun e=>by cases e) (fun e=>by cases e)),fun b o e=>J.bD b ((hi x hx).2 b o e)⟩)with blk:=?_,self:=?_,cV:=D.cV,dF:=D.dF,aW:=D.aW},J,QM hU Z⟩
 ·have:=I.self _ _ D.blk;exact this
 ·exact(J.same .self h (fun e=>by cases e) (fun e=>by cases e)).2 D.self
end
end
section
section
variable {w w':World} {B h:Nat} {O:Nat->Option Whose} {m:Ya} {X:WB} {ml:List (Zb×Lv)} {nb hn:Nat->Nat}
def LG (w:World)(B h:Nat)(O:Nat->Option Whose)(m':Ya)(X:WB)(nb hn:Nat->Nat)(w':World):Prop:=∃O' D H,Ye w' B h O' m' {X with vm:=D} H nb hn/\Qv .msgs O O' B w w'/\Yd (fun k=>O k≠N) (fun k=>O' k≠N) w w'
theorem oS (D:Ye w B h O m X ml nb hn)(hf:m.L.length<=120){q:Option aN}{c2:Nat}{L:List Zb}(hL:L.length<=1000)(hm:Qp c2 (fun b=>O b=aa .bD) w q L):
 ah prog 45 #[.pointer (aa ⟨h,0,N⟩),.slice q L.length c2] w fun e w'=>e=.returned (.tuple #[])/\LG w B h O (m.send L) X nb hn w':=by
 obtain⟨⟨I,J,Z,h3,h4⟩,h5,K⟩:=hm;have a0:L.length=I.length:=by rw[<-J,za]
 have a2:ml.length=m.L.length:=by rw[<-D.dK,za]
 rw[a0];refine(PV h B X.vm ml I q c2 w (by omega) (by omega) (D.cell 0).1 (D.cell 0).2 D.gV D.base D.row Z (by omega) (fun e=>⟨av.1 (by have:=(K e).1;omega),(K e).2⟩)).mono fun e w' U=>⟨U.1,?_⟩
 obtain⟨v',hF⟩:=U.2;obtain⟨O',g1,g2,g3⟩:=D.oV hF (fun x H=>by
  rcases List.mem_append.1 H with H|H
  ·exact D.bD x H
  ·exact h3 x (List.mem_of_mem_take H))
 refine⟨O',v',ml++I.take (120-ml.length),?_,g2,g3⟩;have e:({m with L:=(ml++I.take (120-ml.length)).map Prod.fst}:Ya)=m.send L:=by
  unfold Ya.send;rw[List.map_append,List.map_take,D.dK,J,a2]
 rw[<-e];exact g1
theorem Ye.asked (D:Ye w B h O m X ml nb hn)(hi:i<6)(hX:(X.cl i).p=aa b)(Z:Qw w' B b I a)(H:Yd (fun k=>O k=aa (.ask i)) I w w')(a2:(X.cl i).put=a.put)(a3:(X.cl i).text=Yc m.texts i)(a4:(X.cl i).cfg=a.config)(a5:(X.cl i).fr=m.since.getD i 0)(a6:m.asks.length=6):
 ∃O',Ye w' B h O' {m with asks:=m.asks.set i (aa a)} X ml nb hn/\Qv (.ask i) O O' B w w'/\(∀k,w.heap.size<=k->k<w'.heap.size->¬I k->O' k=aa .bD)/\Yd (fun k=>O k≠N) (fun k=>O' k≠N) w w':=by
 have a0:∀k,I k->k<w'.heap.size:=fun k J=>by
  obtain⟨_,_,_,_,_,_,_,_,_,_,hq⟩:=Z.1;exact(hq.aO k J).2
 have K:=Qv.call (t:=.ask i) (fun e=>by cases e) D.aO D.base H a0;have U:∀j,Xf (m.asks.set i (aa a)) j=if j=i then aa a else Xf m.asks j:=fun j=>by
  unfold Xf;rw[aq,List.getElem?_set];by_cases e:i=j
  ·subst e;rw[if_pos rfl,if_pos (by omega),if_pos rfl];rfl
  ·rw[if_neg e,if_neg (fun h=>e h.symm),aq]
 refine⟨_,{D.toXJ.gH (m':={m with asks:=m.asks.set i (aa a)}) (X':=X) K rfl rfl rfl rfl (fun j _ hj=>⟨by show Xf (m.asks.set i (aa a)) j=_;rw[U,if_neg hj],rfl,rfl⟩) rfl rfl rfl rfl rfl rfl (fun _ _=>rfl) (fun _=>?_)with blk:=?_,self:=?_,cV:=D.cV,dF:=D.dF,aW:=D.aW},K,fun k h1 h2 h3=>oK (fun k o e=>(D.aO k o e).2) h3 h1 h2,QM ⟨H.os,H.tape,H.output,H.size,fun k J h=>H.block k J (fun e=>h (al e)),fun k J=>(H.new k J).imp (fun h=>al h) id⟩ H.new⟩
 ·show kA _ _ _ _ (Xf (m.asks.set i (aa a)) i) _ _ _;rw[U,if_pos rfl];refine⟨b,hX,?_,a2,a3,a4,a5⟩;have e:(fun k=>turnO O (.ask i) I w.heap.size w'.heap.size k=aa (.ask i))=I:=funext fun k=>propext (ZU (fun e=>by cases e) k)
  rw[e];exact Z
 ·exact(H.block h D.lt (fun e=>by have e:O h=aa (.ask i):=e;rw[D.self]at e;cases e)).trans D.blk
 ·exact(K.same .self h (fun e=>by cases e) (fun e=>by cases e)).2 D.self
end
end
section
def JA (f:Nat->fS)(i:Nat)(c:fS):Nat->fS:=fun j=>if j=i then c else f j
theorem YZ (f:Nat->fS)(i:Nat)(c:fS):JA f i c i=c:=if_pos rfl
theorem yF (f:Nat->fS){j:Nat}(c:fS)(h:j≠i):JA f i c j=f j:=if_neg h
theorem UR (X:WB)(D:i<6)(p:Option Nat):(Zi X).setIfInBounds (1+i*5) (J3 p)=Zi {X with cl:=JA X.cl i {X.cl i with p:=p}}:=by
 match i,D with
 |0,_=>rfl
 |1,_=>rfl
 |2,_=>rfl
 |3,_=>rfl
 |4,_=>rfl
 |5,_=>rfl
theorem Jt0 (X:WB)(D:i<6)(c:Int):(Zi X).setIfInBounds (1+i*5+3) (.int .i64 c)=Zi {X with cl:=JA X.cl i {X.cl i with cfg:=c}}:=by
 match i,D with
 |0,_=>rfl
 |1,_=>rfl
 |2,_=>rfl
 |3,_=>rfl
 |4,_=>rfl
 |5,_=>rfl
section
variable {w w':World} {B h:Nat} {O:Nat->Option Whose} {m:Ya} {X:WB} {ml:List (Zb×Lv)} {nb hn:Nat->Nat}
structure Yp (h:Nat) (w w':World):Prop where
 os:w'.os=w.os
 tape:w'.tape=w.tape
 output:w'.output=w.output
 size:w.heap.size<=w'.heap.size
 cW:∀k,k<w.heap.size->k≠h->w'.heap[k]?=w.heap[k]?
theorem Yp.refl (h:Nat)(w:World):Yp h w w:=⟨rfl,rfl,rfl,bk _,fun _ _ _=>rfl⟩
theorem Yp.set {h:Nat}{w w':World}(D:Yp h w w')(i:Nat)(v:am):Yp h w (w'.setCell ⟨h,i,N⟩ v):=⟨D.os,D.tape,D.output,by have:=D.size;simpa[au]using this,fun k I H=>(aj _ _ _ _ H).trans (D.cW k I H)⟩
theorem Yp.below {h:Nat}{w I K:World}(D:Yp h w I)(H:ae I.heap.size I K):Yp h w K:=⟨H.os.trans D.os,H.tape.trans D.tape,H.output.trans D.output,ac D.size H.size,fun k J U=>(H.block k (ab J D.size)).trans (D.cW k J U)⟩
theorem Ye.started (D:Ye w B h O m X ml nb hn)(I:Yp h w w'){Z:Nat}{c:fS}{J:Int}(hi:i<6)(a4:m.asks.length=6)(a3:w'.heap[h]?=aa (.cells (Zi {X with aY:=J,cl:=JA X.cl i c}) 65 (0,0)))(ha:Qw w' B Z S a)(hS:∀k,S k->w.heap.size<=k)(hc:c=⟨aa Z,a.put,Yc m.texts i,a.config,m.since.getD i 0⟩):
 ∃O',Ye w' B h O' {m with asks:=m.asks.set i (aa a),ops:=J} {X with aY:=J,cl:=JA X.cl i c} ml nb hn/\Qv (.ask i) O O' B w w'/\(∀k,w.heap.size<=k->k<w'.heap.size->¬S k->O' k=aa .bD)/\Yd (fun k=>O k≠N) (fun k=>O' k≠N) w w':=by
 have a0:∀k,S k->k<w'.heap.size:=fun k H=>by
  obtain⟨_,_,_,_,_,_,_,_,_,_,hq⟩:=ha.1;exact(hq.aO k H).2
 have hU:Yd (fun k=>O k=aa (.ask i)∨O k=aa .self) S w w':=⟨I.os,I.tape,I.output,I.size,fun k H a2=>I.cW k H (fun e=>a2 (ao (e▸D.self))),fun k H=>ao (hS k H)⟩;have K:=Qv.of (t:=.ask i) (fun e=>by cases e) D.aO D.base hU (fun k H=>ao (hS k H)) a0;refine⟨_,{D.toXJ.gH (m':={m with asks:=m.asks.set i (aa a),ops:=J}) (X':={X with aY:=J,cl:=JA X.cl i c}) K rfl rfl rfl rfl (fun j _ U=>⟨by show Xf (m.asks.set i (aa a)) j=_;rw[ZZ (by omega),if_neg U],rfl,rfl⟩) rfl rfl rfl rfl rfl rfl (fun j U=>yF _ _ U) (fun _=>?_)with blk:=a3,self:=?_,cV:=D.cV,dF:=D.dF,aW:=⟨D.aW.1,rfl,D.aW.2.2⟩},K,fun k h1 h2 h3=>oK (fun k o e=>(D.aO k o e).2) h3 h1 h2,QM hU (fun k H=>ao (hS k H))⟩
 ·show kA _ _ _ _ (Xf (m.asks.set i (aa a)) i) (JA X.cl i c i) _ _;rw[ZZ (by omega),if_pos rfl,YZ,hc];refine⟨Z,rfl,?_,rfl,rfl,rfl,rfl⟩;have e:(fun k=>turnO O (.ask i) S w.heap.size w'.heap.size k=aa (.ask i))=S:=funext fun k=>propext (ZU (fun e=>by cases e) k)
  rw[e];exact ha
 ·exact(K.same .self h (fun e=>by cases e) (fun e=>by cases e)).2 D.self
end
end
section
section
variable {w w':World} {B h:Nat} {O:Nat->Option Whose} {m:Ya} {X:WB} {ml:List (Zb×Lv)} {nb hn:Nat->Nat} {n k:Nat}
theorem CB (D:i<6):JY (i:Int)=QW i:=by
 match i,D with
 |0,_=>decide +kernel
 |1,_=>decide +kernel
 |2,_=>decide +kernel
 |3,_=>decide +kernel
 |4,_=>decide +kernel
 |5,_=>decide +kernel
def Yj (w:World)(B h:Nat)(O:Nat->Option Whose)(m':Ya)(nb hn:Nat->Nat)(w':World):Prop:=∃O' X' D,Ye w' B h O' m' X' D nb hn/\Yd (fun k=>O k≠N) (fun k=>O' k≠N) w w'
def yT (ad:Nat->aN)(w:World)(O:Nat->Option Whose):Prop:=∀W:World,w.heap.size<=W.heap.size->(∀k,k<w.heap.size->O k=N->W.heap[k]?=w.heap[k]?)->Zp W ad/\qO W
def lU (m:Ya)(i:Nat)(put:Bool):eT:=⟨put,i,m.ops,m.aC,aG m.aB m.aC,wX,Yc m.texts i⟩
theorem ME (D:i<6)(put:Bool):(lU m i put).ask=YA i m.ops m.aC (aG m.aB m.aC) put (Yc m.texts i):=by
 unfold eT.ask lU YA;rw[CB D]
theorem TZ (D:WZ n k m)(K:i<6)(put:Bool)(J:0<=m.ops):JX (lU m i put)=(0,-1):=by
 unfold JX;have H:¬0<(Jg (lU m i put).c).1:=(D.cU m.aC D.act).1;have I:¬Jo (lU m i put).key=false:=by show ¬Jo wX=ag;decide +kernel
 rw[if_neg H,if_neg I,if_pos];have:=D.gD i;exact⟨by show(0:Int)<=(i:Int);omega,by show(i:Int)<6;omega,J,by show(0:Int)<=(m.aC:Int);omega,fun _=>this⟩
theorem BI (J:Ye w B h O m X ml nb hn)(U:WZ n k m)(hi:i<6)(h0:0<=m.ops)(h1:m.ops<=1152921504606846976)(hE:yT ad w O)(Z:Yp h w w')(put:Bool):
 ah prog (if put then 54 else 55) (if put then #[.int .i64 (i:Int),.int .i64 m.ops,iE X.cf.c (.slice X.cf.p X.cf.c.L.length X.cf.cap),.int .i64 X.act,.string ⟨#[120]⟩,.string (Yc m.texts i)]else #[.int .i64 (i:Int),.int .i64 m.ops,iE X.cf.c (.slice X.cf.p X.cf.c.L.length X.cf.cap),.int .i64 X.act,.string ⟨#[120]⟩]) w' fun e H=>∃K,e=.returned (.tuple #[.pointer (aa ⟨K,0,N⟩),.nilIface])/\Hid (∃S,Qw H w'.heap.size K S (YA i m.ops m.aC (aG m.aB m.aC) put (Yc m.texts i)))/\Hid (ae w'.heap.size w' H):=by
 have a0:X.cf.c=aG m.aB m.aC:=J.cV;have a2:Yn w' (aG m.aB m.aC) X.cf.p X.cf.cap:=by
  rw[<-a0];obtain⟨D,I⟩:=J.cf;exact⟨D.strs.same Z.size (fun b o e=>Z.cW b (J.aO b _ (I b o e)).2 (fun e'=>by have:=I b o e;rw[e',J.self]at this;cases this)),D.room,D.empty,D.len,D.size,D.ints⟩
 obtain⟨a3,a4⟩:=hE w' Z.size (fun k hk hn=>Z.cW k hk (fun e=>by rw[e,J.self]at hn;cases hn));have hf:=TZ U hi put h0;have hm:=U.many;have ha:=U.act;have a5:∀e H,pP Qw ad (lU m i put) w'.heap.size e H/\ae w'.heap.size w' H->∃K,e=.returned (.tuple #[.pointer (aa ⟨K,0,N⟩),.nilIface])/\Hid (∃S,Qw H w'.heap.size K S (YA i m.ops m.aC (aG m.aB m.aC) put (Yc m.texts i)))/\Hid (ae w'.heap.size w' H):=fun e H hq=>by
  obtain⟨⟨ev,D,I⟩,g3⟩:=hq;rw[hf]at D I;rcases I with⟨I,_⟩|⟨_,hb,S,g4,g5⟩
  ·exact absurd I (by decide)
  ·rw[ME hi]at g5;have:ev=.nilIface:=by
    rcases D with⟨D,_⟩|⟨j,_,_,D,_⟩|⟨j,_,_,_,D,_⟩
    ·exact D
    ·have D:(0:Int)=((j+1:Nat):Int):=D;omega
    ·have D:(0:Int)=((j+1:Nat):Int):=D;omega
   subst this;exact⟨hb,g4,⟨S,g5⟩,g3⟩
 rw[a0,J.aW.1];cases put with
 |true=>exact((eL ad).put (lU m i aM) X.cf.p X.cf.cap w' a2 rfl (by show wX.size<=1000;decide) (by have:=U.gD i;show(Yc m.texts i).size<=3000;omega) ⟨by show _<=(i:Int);omega,by show(i:Int)<=_;omega⟩ ⟨by show _<=m.ops;omega,by show m.ops<=_;omega⟩ ⟨by show _<=(m.aC:Int);omega,by show(m.aC:Int)<=_;omega⟩ a3 a4).mono a5
 |false=>exact((eL ad).get (lU m i ag) X.cf.p X.cf.cap w' a2 rfl (by show wX.size<=1000;decide) ⟨by show _<=(i:Int);omega,by show(i:Int)<=_;omega⟩ ⟨by show _<=m.ops;omega,by show m.ops<=_;omega⟩ ⟨by show _<=(m.aC:Int);omega,by show(m.aC:Int)<=_;omega⟩ a3 a4).mono a5
theorem Qw.base {J:Nat}(h:Qw w J b S a)(hB:B<=J):Qw w B b S a:=by
 obtain⟨⟨K,P,F,T,asks,U,Z,mm,D,row,H⟩,hf⟩:=h;exact⟨⟨K,P,F,T,asks,U,Z,mm,D,row,{H with aO:=fun k I=>⟨ac hB (H.aO k I).1,(H.aO k I).2⟩}⟩,hf⟩
theorem Qw.dA (h:Qw w B b S a)(Z:w.heap.size<=w'.heap.size)(hk:∀k,S k->w'.heap[k]?=w.heap[k]?):Qw w' B b S a:=by
 obtain⟨⟨H,P,F,T,asks,I,J,mm,D,row,K⟩,U⟩:=h;exact⟨⟨H,P,F,T,asks,I,J,mm,D,row,K.aS Z hk⟩,U⟩
theorem Qw.dH (h:Qw w B b S a):∀k,S k->B<=k/\k<w.heap.size:=by
 obtain⟨⟨I,P,F,T,asks,J,K,mm,D,row,H⟩,U⟩:=h;exact H.aO
theorem Ye.grow (H:Ye w B h O m X ml nb hn)(I:ae w.heap.size w w'):∃O',Ye w' B h O' m X ml nb hn/\(∀k,w.heap.size<=k->k<w'.heap.size->O' k=aa .bD)/\Yd (fun k=>O k≠N) (fun k=>O' k≠N) w w'/\∀k,O' k=N->O k=none:=by
 have K:Yd (fun k=>O k=aa (.ask 6)∨O k=aa .self) (fun k=>O k=aa (.ask 6)) w w':=⟨I.os,I.tape,I.output,I.size,fun k D _=>I.block k D,fun k D=>al (al D)⟩;have U:=Qv.of (t:=.ask 6) (fun e=>by cases e) H.aO H.base K (fun k D=>al D) (fun k D=>ab (H.aO k _ D).2 I.size);refine⟨_,{H.toXJ.gH (i:=6) U rfl rfl rfl rfl (fun j _ _=>⟨rfl,rfl,rfl⟩) rfl rfl rfl rfl rfl rfl (fun _ _=>rfl) (fun Z=>absurd Z (by omega))with blk:=(I.block h H.lt).trans H.blk,self:=(U.same .self h (fun e=>by cases e) (fun e=>by cases e)).2 H.self,cV:=H.cV,dF:=H.dF,aW:=H.aW},fun k J h2=>oK (fun k o e=>(H.aO k o e).2) (fun e=>by have:=(H.aO k _ e).2;omega) J h2,QM K (fun k D=>al D),fun k D=>?_⟩;unfold turnO at D;by_cases J:O k=aa (.ask 6)
 ·rw[if_pos J]at D;cases D
 ·rw[if_neg J,if_neg J]at D;split at D
  ·cases D
  ·exact D
theorem Yd.trans' {J K:Nat->Prop}{w U Z:World}(D:Yd S J w U)(H:Yd J K U Z):Yd S K w Z:=⟨H.os.trans D.os,H.tape.trans D.tape,H.output.trans D.output,ac D.size H.size,fun k I hn=>(H.block k (ab I D.size) (fun h=>by rcases D.new k h with h|h;exact hn h;omega)).trans (D.block k I hn),fun k h=>by
 rcases H.new k h with h|h
 ·exact D.new k h
 ·exact ao (ac D.size h)⟩
end
end
section
section
variable {w w':World} {B h:Nat} {O:Nat->Option Whose} {m:Ya} {X:WB} {ml:List (Zb×Lv)} {nb hn:Nat->Nat} {n k:Nat}
theorem zG (K:Ye w B h O m X ml nb hn)(hz:WZ n k m)(hi:i<6){put:Bool}(a2:(X.cl i).put=put)(a3:(X.cl i).text=Yc m.texts i)(a8:(X.cl i).fr=m.since.getD i 0)(h0:0<=m.ops)(h1:m.ops<=1152921504606846976)(hE:yT ad w O):
 ah prog 34 #[.pointer (aa ⟨h,0,N⟩),.int .i64 (i:Int)] w fun e w'=>e=.returned (.tuple #[])/\Yj w B h O (m.begin i put) nb hn w':=by
 have d3:Hid (∀w',Yj w B h O (Ya.send {m with asks:=m.asks.set i (aa (YA i m.ops m.aC (aG m.aB m.aC) put (Yc m.texts i))),ops:=m.ops+1} (YA i m.ops m.aC (aG m.aB m.aC) put (Yc m.texts i)).begin) nb hn w'->Yj w B h O (m.begin i put) nb hn w'):=fun w' hw=>hw
 generalize Yj w B h O (m.begin i put) nb hn=G at *;have b0:X.aY=m.ops:=K.aW.2.1;have b1:=DI K.blk (by rw[b0];exact h0) (by rw[b0];exact h1);rw[b0]at b1;obtain⟨H,a5⟩:=Xb (w.setCell ⟨h,40,N⟩ (.int .i64 (m.ops+1)));rw[<-a5]at b1;have U:Yp h w H:=by rw[a5];exact(Yp.refl h w).set 40 _
 have Z:H.heap[h]?=aa (.cells (Zi {X with aY:=m.ops+1}) 65 (0,0)):=by rw[a5];exact Qc K.blk 40 _
 obtain⟨c0,c1,c2,c3,c4⟩:=Yx Z hi;rw[show({X with aY:=m.ops+1}:WB).cl=X.cl from rfl]at c0 c1 c2 c3 c4;rw[a2]at c1;rw[a3]at c2;have f0:=(Xa Z (1+i*5)).2;have e5:H.cell? ⟨h,36,N⟩=aa (.int .i64 X.cf.c.n):=(Xa Z 36).1;have e6:H.cell? ⟨h,37,N⟩=aa (.int .i64 X.cf.c.k):=(Xa Z 37).1;have e7:H.cell? ⟨h,38,N⟩=aa (.slice X.cf.p X.cf.c.L.length X.cf.cap):=(Xa Z 38).1;have e8:H.cell? ⟨h,39,N⟩=aa (.int .i64 X.act):=(Xa Z 39).1;have b2:Hid (put=aM->Hid (ah prog 54 #[.int .i64 (i:Int),.int .i64 m.ops,.agg #[.int .i64 X.cf.c.n,.int .i64 X.cf.c.k,.slice X.cf.p X.cf.c.L.length X.cf.cap],.int .i64 X.act,.string ⟨#[120]⟩,.string (Yc m.texts i)] H.drew fun e I=>∃D,e=.returned (.tuple #[.pointer (aa ⟨D,0,N⟩),.nilIface])/\(∃v0,I.cell? ⟨h,1+i*5,N⟩=aa v0)/\I.frozen? ⟨h,1+i*5,N⟩=ag/\Hid (∃S,Qw I H.heap.size D S (YA i m.ops m.aC (aG m.aB m.aC) aM (Yc m.texts i)))/\Hid (ae H.heap.size H I))):=fun hb=>by
  subst hb;exact(BI K hz hi h0 h1 hE (U.below bR.drew) aM).mono fun e I hq=>by
   obtain⟨D,g1,g2,g3⟩:=hq;have a0:ae H.heap.size H I:=(az _ H).drew.trans g3.out;have hl:=ab K.lt U.size;exact⟨D,g1,⟨_,(ak (a:=⟨h,1+i*5,N⟩) (a0.block h hl)).trans c0⟩,(af (a:=⟨h,1+i*5,N⟩) (a0.block h hl)).trans f0,g2,a0⟩
 have b3:Hid (put=ag->Hid (ah prog 55 #[.int .i64 (i:Int),.int .i64 m.ops,.agg #[.int .i64 X.cf.c.n,.int .i64 X.cf.c.k,.slice X.cf.p X.cf.c.L.length X.cf.cap],.int .i64 X.act,.string ⟨#[120]⟩] H.drew fun e I=>∃D,e=.returned (.tuple #[.pointer (aa ⟨D,0,N⟩),.nilIface])/\(∃v0,I.cell? ⟨h,1+i*5,N⟩=aa v0)/\I.frozen? ⟨h,1+i*5,N⟩=ag/\Hid (∃S,Qw I H.heap.size D S (YA i m.ops m.aC (aG m.aB m.aC) ag (Yc m.texts i)))/\Hid (ae H.heap.size H I))):=fun hb=>by
  subst hb;exact(BI K hz hi h0 h1 hE (U.below bR.drew) ag).mono fun e I hq=>by
   obtain⟨D,g1,g2,g3⟩:=hq;have a0:ae H.heap.size H I:=(az _ H).drew.trans g3.out;have hl:=ab K.lt U.size;exact⟨D,g1,⟨_,(ak (a:=⟨h,1+i*5,N⟩) (a0.block h hl)).trans c0⟩,(af (a:=⟨h,1+i*5,N⟩) (a0.block h hl)).trans f0,g2,a0⟩
 have HP:Hid (Ye w B h O m X ml nb hn/\WZ n k m/\Yp h w H/\H.heap[h]?=aa (.cells (Zi {X with aY:=m.ops+1}) 65 (0,0))/\(X.cl i).put=put/\(X.cl i).text=Yc m.texts i/\(X.cl i).fr=m.since.getD i 0):=⟨K,hz,U,Z,a2,a3,a8⟩;have e9:Hid (H=w.setCell ⟨h,40,N⟩ (.int .i64 (m.ops+1))):=a5;have z1:(0:Int)<=(i:Int):=by omega
 have z2:(i:Int)<6:=by omega
 clear K hz hE U Z a5 a2 a3 a8 b0 h0 h1;go_enter func34,ntmps34;go_wp2_with fail
 refine b1.mono ?_;rintro e f3 ⟨rfl,d4⟩;rw[d4];clear d4 f3
 go_upto_if 17 with fail
 go_cut []from 18 to 56 (fun W=>∃D I,W=I.setCell ⟨h,1+i*5,N⟩ (.pointer (aa ⟨D,0,N⟩))/\(∃S,Qw I H.heap.size D S (YA i m.ops m.aC (aG m.aB m.aC) put (Yc m.texts i)))/\ae H.heap.size H I)
 case first =>
  cases put with
  |true =>
   have a6:=(b2.out rfl).out;have b6:Hid (ah prog 54 _ H.drew _):=a6;clear a6 b2 b3;go_wp2_with fail
   go_region_law (go_simp;go_at_call 54;refine b6.out.mono ?_;rintro e I ⟨D,rfl,⟨v0,u0⟩,u1,b7,b8⟩;go_simp)
   all_goals (go_wp2_with fail;go_meet)
   all_goals exact⟨D,I,rfl,b7.out,b8.out⟩
  |false =>
   have a6:=(b3.out rfl).out;have b6:Hid (ah prog 55 _ H.drew _):=a6;clear a6 b2 b3;go_wp2_with fail
   go_region_law (go_simp;go_at_call 55;refine b6.out.mono ?_;rintro e I ⟨D,rfl,⟨v0,u0⟩,u1,b7,b8⟩;go_simp)
   all_goals (go_wp2_with fail;go_meet)
   all_goals exact⟨D,I,rfl,b7.out,b8.out⟩
 case rest =>
  obtain⟨D,I,a7,⟨S,b4⟩,c8⟩:=hcut;obtain⟨K,hz,U,Z,a2,a3,a8⟩:=HP.out;have d5:h<H.heap.size:=ab K.lt U.size;have d6:=(c8.block h d5).trans Z;have d7:Yp h w wc:=by rw[a7];exact(U.below c8).set _ _
  have a9:wc.heap[h]?=aa (.cells (Zi {X with aY:=m.ops+1,cl:=JA X.cl i {X.cl i with p:=aa D}}) 65 (0,0)):=by
   rw[a7];have:=Qc d6 (1+i*5) (J3 (aa D));rw[UR _ hi]at this;exact this
  have d8:Qw wc H.heap.size D S (YA i m.ops m.aC (aG m.aB m.aC) put (Yc m.texts i)):=b4.dA (by rw[a7];simp[au]) (fun k hk=>by rw[a7];exact aj _ _ _ _ (by have:=(b4.dH k hk).1;show k≠h;omega));obtain⟨J,a4⟩:=Xb (wc.setCell ⟨h,1+i*5+3,N⟩ (.int .i64 X.act));have d9:Yp h w J:=by rw[a4];exact d7.set _ _
  have d0:J.heap[h]?=aa (.cells (Zi {X with aY:=m.ops+1,cl:=JA X.cl i ⟨aa D,put,Yc m.texts i,(m.aC:Int),m.since.getD i 0⟩}) 65 (0,0)):=by
   rw[a4];have:=Qc a9 (1+i*5+3) (.int .i64 X.act);rw[Jt0 _ hi]at this;rw[this]
   congr 3
   have e:JA (JA X.cl i {X.cl i with p:=aa D}) i {JA X.cl i {X.cl i with p:=aa D} i with cfg:=X.act}=JA X.cl i ⟨aa D,put,Yc m.texts i,(m.aC:Int),m.since.getD i 0⟩:=by
    funext j
    unfold JA;by_cases hj:j=i
    ·rw[if_pos hj,if_pos hj,if_pos rfl,K.aW.1,<-a2,<-a3,<-a8]
    ·rw[if_neg hj,if_neg hj,if_neg hj]
   rw[e]
  have b5:Qw J H.heap.size D S (YA i m.ops m.aC (aG m.aB m.aC) put (Yc m.texts i)):=d8.dA (by rw[a4];simp[au]) (fun k hk=>by rw[a4];exact aj _ _ _ _ (by have:=(b4.dH k hk).1;show k≠h;omega));obtain⟨O4,d1,_,_,e0⟩:=K.started d9 hi hz.la d0 (b5.base (ac K.base U.size)) (fun k hk=>ac U.size (b5.dH k hk).1) rfl;have d2:Hid (WZ n k {m with asks:=m.asks.set i (aa (YA i m.ops m.aC (aG m.aB m.aC) put (Yc m.texts i))),ops:=m.ops+1}/\(YA i m.ops m.aC (aG m.aB m.aC) put (Yc m.texts i)).begin.length<=12):=⟨hz.begun hi put,zR (xV hz hi m.ops)⟩;have g6:wc.cell? ⟨h,39,N⟩=aa (.int .i64 X.act):=(Xa a9 39).1;have r3:wc.cell? ⟨h,1+i*5+3,N⟩=aa (.int .i64 (JA X.cl i {X.cl i with p:=aa D} i).cfg):=(Yx a9 hi).2.2.2.1;have g3:=(Xa a9 (1+i*5+3)).2;have s0:J.cell? ⟨h,1+i*5,N⟩=aa (.pointer (aa ⟨D,0,N⟩)):=by
   have:=(Yx d0 hi).1;rw[show({X with aY:=m.ops+1,cl:=JA X.cl i ⟨aa D,put,Yc m.texts i,(m.aC:Int),m.since.getD i 0⟩}:WB).cl=JA X.cl i ⟨aa D,put,Yc m.texts i,(m.aC:Int),m.since.getD i 0⟩from rfl,YZ]at this;exact this
  have f4:Hid (ah prog 56 #[.pointer (aa ⟨D,0,N⟩)] J.drew fun e w'=>∃p c,e=.returned (.slice p (YA i m.ops m.aC (aG m.aB m.aC) put (Yc m.texts i)).begin.length c)/\w'.cell? ⟨h,1+i*5,N⟩=aa (.pointer (aa ⟨D,0,N⟩))/\Hid (QE c J.heap.size w' p (YA i m.ops m.aC (aG m.aB m.aC) put (Yc m.texts i)).begin/\ae J.heap.size J w')):=(yJ (b5.dA (w':=J.drew) nR (fun _ _=>rfl))).mono fun e w' hq=>by
   obtain⟨⟨p,c,e1,e2⟩,e3⟩:=hq;have hb:ae J.heap.size J w':=(az _ J).drew.trans e3;exact⟨p,c,e1,(hb.cell (p:=⟨h,1+i*5,N⟩) d1.lt).trans s0,e2,hb⟩
  have f5:Hid (J=wc.setCell ⟨h,1+i*5+3,N⟩ (.int .i64 X.act)):=a4;have f6:Hid (∀W p c,Hid (QE c J.heap.size W p (YA i m.ops m.aC (aG m.aB m.aC) put (Yc m.texts i)).begin/\ae J.heap.size J W)->ah prog 45 #[.pointer (aa ⟨h,0,N⟩),.slice p (YA i m.ops m.aC (aG m.aB m.aC) put (Yc m.texts i)).begin.length c] W fun e w'=>e=.returned (.tuple #[])/\w'.cell? ⟨h,1+i*5,N⟩=aa (.pointer (aa ⟨D,0,N⟩))/\Hid (G w')):=fun W p c hM=>by
   obtain⟨O5,f7,f8,f9,_⟩:=d1.grow hM.out.2;refine(oS f7 d2.out.1.bO (by have:=d2.out.2;omega) (hM.out.1.out (fun b h1 h2=>f8 b h1 h2))).mono fun e w' hq=>?_
   obtain⟨e1,O6,v6,g0,e4,_,g4⟩:=hq;refine⟨e1,?_,d3.out _ ⟨O6,_,g0,e4,(e0.trans' f9).trans' g4⟩⟩;have:=(Yx e4.blk hi).1;rw[show({X with vm:=v6,aY:=m.ops+1,cl:=JA X.cl i ⟨aa D,put,Yc m.texts i,(m.aC:Int),m.since.getD i 0⟩}:WB).cl=JA X.cl i ⟨aa D,put,Yc m.texts i,(m.aC:Int),m.since.getD i 0⟩from rfl,YZ]at this;exact this
  generalize (JA X.cl i {X.cl i with p:=aa D} i).cfg=oc at r3;generalize (YA i m.ops m.aC (aG m.aB m.aC) put (Yc m.texts i)).begin=BL at *;clear d2 d3 a7 b4 c8 K hz U Z a2 a3 a8 d5 d6 d7 a9 d8 d9 d0 b5 d1 e0 a4 HP b2 b3 b1 e9 c0 c1 c2 c3 c4 f0 e5 e6 e7 e8;go_wp2_with (rw[<-f5.out])
  go_region_held3 (fun W=>W.cell? ⟨h,1+i*5,N⟩=aa (.pointer (aa ⟨D,0,N⟩))) (first|assumption|exact s0) (first|(go_at_call 56;refine f4.out.mono ?_;rintro e w5 ⟨p5,c5,rfl,g7,g5⟩)|(go_at_call 45;refine(f6.out w5 p5 c5 g5).mono ?_;rintro e w6 ⟨rfl,g8,HF⟩))
  go_wp2
  go_end0
  exact⟨rfl,HF.out⟩
end
end
section
structure iZ (ad:Nat->aN) (w:World):Prop where
 q:Zp w ad
 x:qO w
 sv:kN w ad
 bO:w.cell? ⟨7,0,N⟩=aa (.iface 287 (.pointer (aa (ad 7))))
 held:w.cell? ⟨1,0,N⟩=aa (.iface 287 (.pointer (aa (ad 10))))
def Yi (ad:Nat->aN)(w:World)(O:Nat->Option Whose):Prop:=∀W:World,w.heap.size<=W.heap.size->(∀k,k<w.heap.size->O k=N->W.heap[k]?=w.heap[k]?)->iZ ad W
section
variable {w w':World} {B h:Nat} {O O':Nat->Option Whose} {m:Ya} {X:WB} {ml:List (Zb×Lv)} {nb hn:Nat->Nat} {n k:Nat} {ad:Nat->aN}
theorem Yi.o (I:Yi ad w O):yT ad w O:=fun W D H=>⟨(I W D H).q,(I W D H).x⟩
theorem Yi.next (U:Yi ad w O)(D:Yd (fun k=>O k≠N) (fun k=>O' k≠N) w w'):Yi ad w' O':=fun W J K=>U W (ac D.size J) (fun k H I=>(K k (ab H D.size) (by
 cases e:O' k with
 |none=>rfl
 |some o =>
  rcases D.new k (by rw[e];exact fun e=>(by cases e))with h|h
  ·exact absurd I h
  ·omega)).trans (D.block k H (fun h=>h I)))
theorem Yi.here (D:Yi ad w O):iZ ad w:=D w nR (fun _ _ _=>rfl)
theorem Yi.wrote (U:Yi ad w O)(Z:O h=aa .self)(H:Yp h w w'):Yi ad w' O:=fun W J K=>U W (ac H.size J) (fun k I D=>(K k (ab I H.size) D).trans (H.cW k I (fun e=>by rw[e,Z]at D;cases D)))
theorem Yi.below (U:Yi ad w O)(D:ae w.heap.size w w'):Yi ad w' O:=fun W I J=>U W (ac D.size I) (fun k H K=>(J k (ab H D.size) K).trans (D.block k H))
theorem OV (X:WB)(D:i<6)(c:fS):(((((Zi X).setIfInBounds (1+i*5) (J3 c.p)).setIfInBounds (1+i*5+1) (.bool c.put)).setIfInBounds (1+i*5+2) (.string c.text)).setIfInBounds (1+i*5+3) (.int .i64 c.cfg)).setIfInBounds (1+i*5+4) (.int .i64 c.fr)=Zi {X with cl:=JA X.cl i c}:=by
 match i,D with
 |0,_=>rfl
 |1,_=>rfl
 |2,_=>rfl
 |3,_=>rfl
 |4,_=>rfl
 |5,_=>rfl
def lA (w:World)(h i:Nat)(c:fS):World:=((((w.setCell ⟨h,1+i*5,N⟩ (J3 c.p)).setCell ⟨h,1+i*5+1,N⟩ (.bool c.put)).setCell ⟨h,1+i*5+2,N⟩ (.string c.text)).setCell ⟨h,1+i*5+3,N⟩ (.int .i64 c.cfg)).setCell ⟨h,1+i*5+4,N⟩ (.int .i64 c.fr)
theorem CI (hW:Yp h w w')(i:Nat)(c:fS):Yp h w (lA w' h i c):=by
 unfold lA;have D:=hW.set (1+i*5) (J3 c.p);generalize w'.setCell ⟨h,1+i*5,N⟩ (J3 c.p)=H at *;have I:=D.set (1+i*5+1) (.bool c.put);generalize H.setCell ⟨h,1+i*5+1,N⟩ (.bool c.put)=J at *;have K:=I.set (1+i*5+2) (.string c.text);generalize J.setCell ⟨h,1+i*5+2,N⟩ (.string c.text)=U at *;have Z:=K.set (1+i*5+3) (.int .i64 c.cfg);generalize U.setCell ⟨h,1+i*5+3,N⟩ (.int .i64 c.cfg)=w4 at *;exact Z.set (1+i*5+4) (.int .i64 c.fr)
theorem AM (hb:w.heap[h]?=aa (.cells (Zi X) 65 (0,0)))(hi:i<6)(c:fS):(lA w h i c).heap[h]?=aa (.cells (Zi {X with cl:=JA X.cl i c}) 65 (0,0)):=by
 unfold lA;rw[<-OV X hi c];have D:=Qc hb (1+i*5) (J3 c.p);generalize w.setCell ⟨h,1+i*5,N⟩ (J3 c.p)=H at *;have I:=Qc D (1+i*5+1) (.bool c.put);generalize H.setCell ⟨h,1+i*5+1,N⟩ (.bool c.put)=J at *;have K:=Qc I (1+i*5+2) (.string c.text);generalize J.setCell ⟨h,1+i*5+2,N⟩ (.string c.text)=U at *;have Z:=Qc K (1+i*5+3) (.int .i64 c.cfg);generalize U.setCell ⟨h,1+i*5+3,N⟩ (.int .i64 c.cfg)=w4 at *;exact Qc Z (1+i*5+4) (.int .i64 c.fr)
theorem Ye.idle (D:Ye w B h O m X ml nb hn)(J:Yp h w w'){c:fS}{T:List BA}{U:List Int}(a0:w'.heap[h]?=aa (.cells (Zi {X with cl:=JA X.cl i c}) 65 (0,0)))(hc:c.p=N)(ho:i<6->Xf m.asks i=N)(a2:∀j,j≠i->Yc T j=Yc m.texts j/\U.getD j 0=m.since.getD j 0):Ye w' B h O {m with texts:=T,since:=U} {X with cl:=JA X.cl i c} ml nb hn:=by
 have I:=D.toXJ.aS J.size (fun k o e K=>J.cW k (D.aO k o e).2 (fun Z=>by rw[Z,D.self]at e;injection e with e;exact K e.symm));refine {I.gH (m':={m with texts:=T,since:=U}) (X':={X with cl:=JA X.cl i c}) (i:=i) (O':=O) ⟨fun _ _ _ _=>Iff.rfl,fun _ h=>h,I.aO,bk _,fun _ _ _ _ _=>rfl⟩ rfl rfl rfl rfl (fun j _ H=>⟨rfl,a2 j H⟩) rfl rfl rfl rfl rfl rfl (fun j H=>yF _ _ H) (fun hi=>?_)with blk:=a0,self:=D.self,cV:=D.cV,dF:=D.dF,aW:=D.aW};show kA _ _ _ _ (Xf m.asks i) (JA X.cl i c i) _ _;rw[ho hi,YZ];exact hc
end
end
section
section
variable {w w':World} {B h:Nat} {O O':Nat->Option Whose} {m:Ya} {X:WB} {ml:List (Zb×Lv)} {nb hn:Nat->Nat} {n k:Nat} {ad:Nat->aN}
theorem WZ.opened (D:WZ n k m)(H:i<6){text:BA}(I:text.size<=1000)(s:Int):WZ n k {m with since:=m.since.set i s,texts:=m.texts.set i text}:=by
 refine⟨D.bO,D.msgs,D.la,by show(m.texts.set i text).length=6;rw[zh];exact D.lt,by show(m.since.set i s).length=6;rw[zh];exact D.ls,fun j=>?_,D.act,D.many,D.dN,D.dO,D.cU,D.asks,D.bI,D.nodes⟩;show(Yc (m.texts.set i text) j).size<=1000;rw[vK (by rw[D.lt];exact H)];split
 ·exact I
 ·exact D.gD j
def Xe (ad:Nat->aN)(w:World)(B h:Nat)(O:Nat->Option Whose)(r:Ya×Int)(nb hn:Nat->Nat)(e:Ending)(w':World):Prop:=(∃D,e=.returned D/\Jd w' ad D r.2 (-1))/\Yj w B h O r.1 nb hn w'
theorem DE (hp:Ye w B h O m X ml nb hn)(hz:WZ n k m)(who:Int)(put:Bool)(text:BA)(ht:text.size<=1000)(h0:0<=m.ops)(h1:m.ops<=1152921504606846976)(hE:Yi ad w O):
 ah prog 18 #[.pointer (aa ⟨h,0,N⟩),.int .i64 who,.agg #[.bool put,.string text]] w (Xe ad w B h O (m.open_ who put text) nb hn):=by
 obtain⟨D,a0⟩:=Xb (w.alloc (.cells #[.bool put,.string text] 56));have H:=Zk a0;have a9:=JH a0;have a5:=hp.below H;have a6:=hE.below H;have a7:∀W,ae w.heap.size w W->Yj w B h O m nb hn W:=fun W hW=>⟨O,X,ml,hp.below hW,Yd.aJ hW⟩
 have a8:=uM who D;have b3:Hid (D=w.alloc (.cells #[.bool put,.string text] 56)):=a0;by_cases hw:0<=who/\who<6
 ·obtain⟨i,rfl⟩:∃i:Nat,who=(i:Int):=⟨who.toNat,by omega⟩;have I:i<6:=by omega
  rw[decide_eq_true hw]at a8;have J:=XV a5 I;have z1:(0:Int)<=(i:Int):=by omega
  have z2:(i:Int)<6:=by omega
  cases ha:Xf m.asks i with
  |some a =>
   have U:m.open_ (i:Int) put text=(m,11):=by
    unfold Ya.open_;rw[if_neg (by omega),if_pos (by rw[ar,ha];rfl)]
   rw[U];rw[ha]at J;have e5:¬a.st.word.toList=[105,100,108,101]:=by
    generalize a.st=st;cases st<;>decide +kernel
   have e6:(a.st.word.toList==[105,100,108,101])=false:=by
    generalize a.st=st;cases st<;>decide +kernel
   have J:ah prog 26 #[.pointer (aa ⟨h,1+i*5,N⟩)] D fun e w'=>e=.returned (.string a.st.word)/\w'.cell? ⟨1,0,N⟩=aa (.iface 287 (.pointer (aa (ad 10))))/\Hid (ae w.heap.size w w'):=J.mono fun e w' K=>⟨K.1,(a6.below K.2).here.held,H.trans (K.2.mono H.size)⟩
   have d4:Hid (∀W,ae w.heap.size w W->Yj w B h O m nb hn W):=a7;have d5:Hid (∀e W,(∃ev,e=.returned ev/\Jd W ad ev 11 (-1))->Yj w B h O m nb hn W->Xe ad w B h O (m,11) nb hn e W):=fun e W h1 h2=>⟨h1,h2⟩
   generalize Xe ad w B h O (m,11) nb hn=G at *;generalize Yj w B h O m nb hn=T at *;clear a5 a6 H a9 a0 a7 ha U hp hz hE ht h0 h1;generalize a.st.word=sw at *;go_enter func18,ntmps18;go_wp2_with (rw[<-b3.out])
   refine a8.mono ?_;rintro e w2 ⟨rfl,rfl⟩;go_wp2_with fail
   refine J.mono ?_;rintro e w3 ⟨rfl,e7,b2⟩;go_wp2;exact d5.out _ _ ⟨_,rfl,Jd.b8 10 (by decide)⟩ (d4.out _ b2.out)
  |none =>
   obtain⟨m1,Z⟩:∃m1:Ya,m1={m with since:=m.since.set i m.aA,texts:=m.texts.set i text}:=⟨_,rfl⟩;have U:m.open_ (i:Int) put text=(m1.begin i put,0):=by
    unfold Ya.open_;rw[if_neg (by omega),if_neg (by rw[ar,ha];decide),ar,Z]
   rw[U];rw[ha]at J;have b5:WZ n k m1:=by rw[Z];exact hz.opened I ht _
   have b6:X.del=m.aA:=hp.aW.2.2;have b7:∀W,ae D.heap.size D W->(W.cell? ⟨w.heap.size,0,N⟩=aa (.bool put)/\W.cell? ⟨w.heap.size,1,N⟩=aa (.string text))/\W.cell? ⟨h,41,N⟩=aa (.int .i64 m.aA)/\W.heap[h]?=aa (.cells (Zi X) 65 (0,0)):=fun W hW=>by
    have hk:=(hW.block _ (by rw[a0];simp)).trans a9;have hb:=(a5.below hW).blk;exact⟨⟨(Xa hk 0).1,(Xa hk 1).1⟩,by rw[<-b6];exact(Xa hb 41).1,hb⟩
   have J:ah prog 26 #[.pointer (aa ⟨h,1+i*5,N⟩)] D fun e w'=>e=.returned (.string ⟨#[105,100,108,101]⟩)/\Hid (ae D.heap.size D w'):=J.mono fun e w' K=>⟨K.1,K.2⟩
   have c8:Hid (∀W,ae D.heap.size D W->(W.cell? ⟨w.heap.size,0,N⟩=aa (.bool put)/\W.cell? ⟨w.heap.size,1,N⟩=aa (.string text))/\W.cell? ⟨h,41,N⟩=aa (.int .i64 m.aA)/\W.heap[h]?=aa (.cells (Zi X) 65 (0,0))):=b7;have d0:Hid (∀W W',ae D.heap.size D W->W'=lA W.drew h i ⟨N,put,text,0,m.aA⟩->ah prog 34 #[.pointer (aa ⟨h,0,N⟩),.int .i64 (i:Int)] W' fun e w'=>e=.returned (.tuple #[])/\Hid (Xe ad w B h O (m1.begin i put,0) nb hn (.returned .nilIface) w')):=fun W W' hW d1=>by
    have a2:ae w.heap.size w W:=H.trans (hW.mono H.size);have d6:=hp.below a2;have d2:=d6.aS (w':=W.drew) nR (fun _ _ _=>rfl);have a4:Yp h W.drew W':=by rw[d1];exact CI (Yp.refl h _) i _
    have d7:Ye W' B h O m1 {X with cl:=JA X.cl i ⟨N,put,text,0,m.aA⟩} ml nb hn:=by
     rw[Z];exact d2.idle a4 (by rw[d1];exact AM d2.blk I _) rfl (fun _=>ha) (fun j hj=>⟨by rw[vK (by rw[hz.lt];exact I),if_neg hj],by rw[D1 (by rw[hz.ls];exact I),if_neg hj]⟩)
    have d3:Yd (fun k=>O k≠N) (fun k=>O k≠N) w W':=⟨a4.os.trans a2.os,a4.tape.trans a2.tape,a4.output.trans a2.output,ac a2.size a4.size,fun k hk hn=>(a4.cW k (ab hk a2.size) (fun e=>hn (by rw[e,hp.self];exact fun e=>(by cases e)))).trans (a2.block k hk),fun k hk=>al hk⟩;refine(zG d7 b5 I (put:=put) ?_ ?_ ?_ (by rw[Z];exact h0) (by rw[Z];exact h1) (hE.next d3).o).mono fun e w' K=>⟨K.1,⟨_,rfl,Jd.nil _ _⟩,?_⟩
    ·show(JA X.cl i _ i).put=put;rw[YZ]
    ·show(JA X.cl i _ i).text=Yc m1.texts i;rw[YZ,Z];show text=Yc (m.texts.set i text) i;rw[vK (by rw[hz.lt];exact I),if_pos rfl]
    ·show(JA X.cl i _ i).fr=m1.since.getD i 0;rw[YZ,Z];show m.aA=(m.since.set i m.aA).getD i 0;rw[D1 (by rw[hz.ls];exact I),if_pos rfl]
    ·obtain⟨O4,X4,d8,d9,e0⟩:=K.2;exact⟨O4,X4,d8,d9,d3.trans' e0⟩
   generalize Xe ad w B h O (m1.begin i put,0) nb hn=G at *;generalize m.aA=dl at *;clear a5 a6 H a9 a0 a7 ha U hp hz hE ht h0 h1 Z b5 b6 b7;go_enter func18,ntmps18;go_wp2_with (rw[<-b3.out])
   refine a8.mono ?_;rintro e w2 ⟨rfl,rfl⟩;go_wp2_with fail
   refine J.mono ?_;rintro e w3 ⟨rfl,b2⟩;obtain⟨⟨b0,b1⟩,e1,a3⟩:=c8.out w3 b2.out;obtain⟨c0,c1,c2,c3,c4⟩:=Yx a3 I;have f0:=(Xa a3 (1+i*5)).2;have f1:=(Xa a3 (1+i*5+1)).2;have f2:=(Xa a3 (1+i*5+2)).2;have f3:=(Xa a3 (1+i*5+3)).2;have f4:=(Xa a3 (1+i*5+4)).2;obtain⟨w4,b4⟩:=Xb (lA w3.drew h i ⟨N,put,text,0,dl⟩);have e2:=d0.out w3 w4 b2.out b4;have e3:Hid (w4=(((((w3.setCell ⟨h,1+i*5,N⟩ (.pointer N)).setCell ⟨h,1+i*5+1,N⟩ (.bool put)).setCell ⟨h,1+i*5+2,N⟩ (.string text)).setCell ⟨h,1+i*5+3,N⟩ (.int .i64 0)).setCell ⟨h,1+i*5+4,N⟩ (.int .i64 dl)).drew):=b4;clear a3 b4 d0 c8 J;go_wp2;go_region
   rw[<-e3.out];clear b0 b1 e1 c0 c1 c2 c3 c4 f0 f1 f2 f3 f4;go_wp2_with fail
   refine e2.mono ?_;rintro e w5 ⟨rfl,e4⟩;go_wp2;exact e4.out
 ·have U:m.open_ who put text=(m,2):=by
   unfold Ya.open_;rw[if_pos (by omega)]
  rw[U,];rw[decide_eq_false hw]at a8;have e8:=a6.here.q.c1;have HF:Hid (Xe ad w B h O (m,2) nb hn (.returned (.iface 287 (.pointer (aa (ad 1))))) D):=⟨⟨_,rfl,Jd.b8 1 (by decide)⟩,a7 _ H⟩;generalize Xe ad w B h O (m,2) nb hn=G at *;clear a5 a6 H a9 a0 a7 U hp hz hE ht h0 h1 hw;go_enter func18,ntmps18;go_wp2_with (rw[<-b3.out])
  refine a8.mono ?_;rintro e w2 ⟨rfl,rfl⟩;go_wp2;exact HF.out
end
end
section
section
variable {w w':World} {B h:Nat} {O O':Nat->Option Whose} {m:Ya} {X:WB} {ml:List (Zb×Lv)} {nb hn:Nat->Nat} {n k:Nat} {ad:Nat->aN}
theorem Yj.here (H:Ye w B h O m X ml nb hn)(D:ae w.heap.size w W):Yj w B h O m nb hn W:=⟨O,X,ml,H.below D,Yd.aJ D⟩
theorem Yj.since (U:ae w.heap.size w W)(Z:Yj W B h O m' nb hn w'):Yj w B h O m' nb hn w':=by
 obtain⟨D,H,I,J,K⟩:=Z;exact⟨D,H,I,J,(Yd.aJ U).trans' K⟩
theorem Xe.since {r:Ya×Int}{e:Ending}(H:ae w.heap.size w W)(D:Xe ad W B h O r nb hn e w'):Xe ad w B h O r nb hn e w':=⟨D.1,D.2.since H⟩
theorem GI (H:Ye w B h O m X ml nb hn)(K:WZ n k m)(who:Int)(text:BA)(ht:text.size<=100000)(U:0<=m.ops)(Z:m.ops<=1152921504606846976)(I:Yi ad w O):
 ah prog 8 #[.pointer (aa ⟨h,0,N⟩),.int .i64 who,.string text] w (Xe ad w B h O (m.open_ who aM text) nb hn):=by
 by_cases a5:1000<text.size
 ·have ho:m.open_ who aM text=(m,2):=by unfold Ya.open_;rw[if_pos (ao (ao a5))]
  rw[ho];have a7:=I.here.q.c1;have HF:Hid (Xe ad w B h O (m,2) nb hn (.returned (.iface 287 (.pointer (aa (ad 1))))) w):=⟨⟨_,rfl,Jd.b8 1 (by decide)⟩,Yj.here H bR⟩;have hd:decide ((1000:Int)<(text.size:Int))=true:=decide_eq_true (by omega);have a6:(1000:Int)<(text.size:Int):=by omega
  generalize Xe ad w B h O (m,2) nb hn=G at *;clear H K I U Z ho;go_enter func8,ntmps8;go_wp2;exact HF.out
 ·have a0:=Xs text w (by omega);have a2:Hid (∀W,ae w.heap.size w W->ah prog 18 #[.pointer (aa ⟨h,0,N⟩),.int .i64 who,.agg #[.bool aM,.string text]] W fun e w'=>(∃D,e=.returned D)/\Xe ad w B h O (m.open_ who aM text) nb hn e w'):=fun W J=>(DE (H.below J) K who aM text (by omega) U Z (I.below J)).mono fun e w' hq=>⟨by obtain⟨D,e1,_⟩:=hq.1;exact⟨D,e1⟩,hq.since J⟩
  generalize Xe ad w B h O (m.open_ who aM text) nb hn=G at *;have hd:=decide_eq_false (by omega);have a6:¬(1000:Int)<(text.size:Int):=by omega
  clear H K I U Z;go_enter func8,ntmps8;go_wp2_with fail
  refine a0.mono ?_;rintro e w1 ⟨rfl,a3⟩;have a4:=a2.out w1 a3;clear a2 a0 a3;go_wp2_with fail
  refine a4.mono ?_;rintro e w2 ⟨⟨D,rfl⟩,hG⟩;have HG:Hid _:=hG;clear hG a4;go_wp2;exact HG.out
theorem Jsp (K:Ye w B h O m X ml nb hn)(U:WZ n k m)(who:Int)(Z:0<=m.ops)(h1:m.ops<=1152921504606846976)(hE:Yi ad w O):
 ah prog 11 #[.pointer (aa ⟨h,0,N⟩),.int .i64 who] w (Xe ad w B h O (m.open_ who ag ⟨#[]⟩) nb hn):=by
 have H:ah prog 18 #[.pointer (aa ⟨h,0,N⟩),.int .i64 who,.agg #[.bool ag,.string ⟨#[]⟩]] w fun e w'=>(∃D,e=.returned D)/\Xe ad w B h O (m.open_ who ag ⟨#[]⟩) nb hn e w':=(DE K U who ag ⟨#[]⟩ (by decide) Z h1 hE).mono fun e w' I=>⟨by obtain⟨D,e1,_⟩:=I.1;exact⟨D,e1⟩,I⟩
 generalize Xe ad w B h O (m.open_ who ag ⟨#[]⟩) nb hn=G at *;clear K U hE Z h1;go_enter func11,ntmps11;go_wp2_with fail
 refine H.mono ?_;rintro e w2 ⟨⟨D,rfl⟩,J⟩;have HG:Hid _:=J;clear J H;go_wp2;exact HG.out
theorem Ye.mU (D:Ye w B h O m X ml nb hn):∃p c,w.cell? ⟨h,0,N⟩=aa (.slice p m.L.length c)/\ml.length=m.L.length:=by
 obtain⟨p,c,I,_⟩:=D.row.form;have H:ml.length=m.L.length:=by rw[<-D.dK,za]
 refine⟨p,c,?_,H⟩;rw[<-H,<-I];exact(D.cell 0).1
theorem wA {α β:Type}{f:α->β}:∀(l:List α) (i:Nat),(l.eraseIdx i).map f=(l.map f).eraseIdx i
 | [],_=>by simp
 |_::_,0=>rfl
 |x::l,i+1=>by rw[ax,be,be,ax,wA l i]
end
end
section
section
variable {w w':World} {B h:Nat} {O O':Nat->Option Whose} {m:Ya} {X:WB} {ml:List (Zb×Lv)} {nb hn:Nat->Nat} {n k:Nat} {ad:Nat->aN}
theorem CW:St.refused.word.toList=[114,101,102,117,115,101,100]:=by decide +kernel
theorem IU:St.done.word.toList=[100,111,110,101]:=by decide +kernel
theorem qT {o:Option Za}{st:St}(h:∀a,o=aa a->a.st≠st)(D:st=.looking∨st=.refused∨st=.done):¬(kV o).toList=st.word.toList/\((kV o).toList==st.word.toList)=false:=by
 cases o with
 |none=>rcases D with rfl|rfl|rfl<;>exact⟨by decide +kernel,by decide +kernel⟩
 |some a =>
  have:=h a rfl;show ¬a.st.word.toList=_/\(a.st.word.toList==_)=ag;generalize a.st=s at *;rcases D with rfl|rfl|rfl<;>cases s<;>first|exact absurd rfl this|exact⟨by decide +kernel,by decide +kernel⟩
end
end
end Go.Proofs.YtgapmoniajcliaaGreatDoor

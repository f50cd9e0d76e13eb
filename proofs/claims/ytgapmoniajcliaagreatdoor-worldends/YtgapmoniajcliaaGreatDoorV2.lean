/- Texts laid together. -/
import Derived.Test.YtgapmoniajcliaaGreatDoorV1
import Derived.Lib.AppendZerosOnto
import Derived.Lib.Overlaps
import Derived.Laws.CopyRow
import Derived.Laws.Externs
import Derived.Deep.RegionLaw
import Derived.Deep.OwnRows
import Derived.Sort.Grow
import Derived.StillTailTactics
set_option maxRecDepth 10000
set_option maxHeartbeats 4000000
open Option renaming some->aa,none->N
open List renaming length_append->ac,take_append_drop->ae,getD_eq_getElem?_getD->af,append_assoc->ag,getElem?_eq_getElem->ah,pairwise_append->ai,length_take->ak,length_drop->al,mem_singleton->am,getElem?_append_right->an,mem_append->av,size_toArray->ax,pairwise_iff_getElem->az,getElem_of_mem->aB,take_of_length_le->aI,getElem?_map->aJ,flatMap_cons->zc,take_append_of_le_length->ze,mem_filter->zf,dropLast_concat_getLast->zg,append_nil->aW,getElem?_eq_some_iff->bb,getElem?_append_left->bc,pairwise_singleton->bd,length_eq_zero_iff->be,take_left->bj,mem_of_getElem?->bk,range->br,pairwise_map->bu,mem_map->bv,map_append->bB,length->cn,Nodup->z0
open Go.Op renaming bytesLess->aj
open Or renaming inr->ap,inl->ar
open Go.Builtin renaming copy_->aq,append_->aw,firstCells->bs,zeroCells->bx
open Go.Addr renaming add_lit->au
open Nat renaming min_def->ay,add_sub_cancel_left->za,zero_add->zb,lt_of_lt_of_le->zi,not_lt_zero->bf,zero_le->bi,lt_or_ge->bt,le_refl->bA,le_trans->zy
open Go renaming Value->aA,Calls->aD,setRow_other->aY,TypeId->ba,toList_madeCells_one->zj,setRow_heap->bm,Addr->bD,maxLen->zm,info_parts->zn,growslice_fits->bI,wpList->zE,goInt->cU
open Array renaming length_toList->aC
open Bool renaming true->aE,false->F,and_eq_true->aN,or_eq_true->zk
open Option.some renaming inj->aF
open Go.IntKind renaming wrap_i64->aM,i64->bp
open Go.World renaming cell?_of_block->aR,setRow->ca
open Go.World.ownsRow renaming cells->zh,frozenAt->cc,stored->cr,cellAt->cs,kept->cI,lt->de
open Prod renaming fst->bh
namespace Go.Proofs.YtgapmoniajcliaaGreatDoor
open Go.Proofs.Tryz
open Go.RowKit
variable {x:Yh}{y key:BA}{a b:Int×Int}{v:Yb}{L:List Yh}{M:List (List Nat)}{l:List Nat}{α:Type}{P:Program}{ops:Array Oper}{o:Oper}{w w':World}{Q:Exit->Act->World->Prop}{E:ba}{H:aA}{rest:List Oper}{B i g n:Nat}{p:Option bD}
def kl (x y:BA):Prop:=aj x.toList y.toList=aE
theorem D5:∀l:List UInt8,aj l l=F
 | []=>rfl
 |a::l=>by simp[aj,D5 l]
theorem EZ:∀{l m n:List UInt8},aj l m=aE->aj m n=aE->aj l n=aE
 |_,[],_,h,_=>by simp[aj]at h
 |_,_::_,[],_,h=>by simp[aj]at h
 | [],_::_,_::_,_,_=>rfl
 |a::l,b::m,c::n,D,B=>by
  simp only[aj,zk,decide_eq_true_eq,aN,beq_iff_eq]at D B ⊢;rcases D with D|⟨I,D⟩
  ·rcases B with B|⟨H,B⟩
   ·exact ar (UInt8.lt_trans D B)
   ·exact ar (H▸D)
  ·rcases B with B|⟨H,B⟩
   ·exact ar (I▸B)
   ·exact ap ⟨I.trans H,EZ D B⟩
theorem FW:∀{l m:List UInt8},l≠m->aj l m=aE∨aj m l=aE
 | [],[],h=>absurd rfl h
 | [],_::_,_=>ar rfl
 |_::_,[],_=>ap rfl
 |a::l,b::m,h=>by
  simp only[aj,zk,decide_eq_true_eq,aN,beq_iff_eq];by_cases e:a=b
  ·subst e;rcases FW (l:=l) (m:=m) (fun D=>h (by rw[D]))with H|H
   ·exact ar (ap ⟨rfl,H⟩)
   ·exact ap (ap ⟨rfl,H⟩)
  ·rcases(show a<b ∨ b<a by
    rcases bt a.toNat b.toNat with B|B
    ·exact ar (UInt8.lt_iff_toNat_lt.2 B)
    ·exact ap (UInt8.lt_iff_toNat_lt.2 (Nat.lt_of_le_of_ne B (fun D=>e (UInt8.toNat_inj.1 D.symm)))))with B|B
   ·exact ar (ar B)
   ·exact ap (ar B)
theorem rV (x:BA):¬kl x x:=by unfold kl;rw[D5];decide
theorem CV {x z:BA}(B:kl x y)(D:kl y z):kl x z:=EZ B D
theorem PA {x:BA}(h:x≠y):kl x y∨kl y x:=FW (XT h)
theorem vS :Qd a b=aE↔a.1<b.1∨a.1=b.1/\a.2<b.2:=by simp[Qd]
theorem YX (a:Int×Int):Qd a a=false:=by simp[Qd]
theorem vC {c:Int×Int}(B:Qd a b=aE)(D:Qd b c=aE):Qd a c=true:=by
 rw[vS]at *;omega
theorem FQ (h:a≠b):Qd a b=aE∨Qd b a=true:=by
 rw[vS,vS];obtain⟨a1,B⟩:=a;obtain⟨D,H⟩:=b;simp only[ne_eq,Prod.mk.injEq]at h ⊢;omega
def Zd (v:Yb):Int×Int:=(v.n,v.who)
theorem Z0 :Jz x key v=aE↔kl x.1 key∨x.1=key/\Qd (Zd x.2) (Zd v)=true:=by
 unfold Jz kl Zd;simp
theorem JjU {y z:Yh}(D:Jz x y.1 y.2=aE)(B:Jz y z.1 z.2=aE):Jz x z.1 z.2=true:=by
 rw[Z0]at *;rcases D with D|⟨I,D⟩
 ·rcases B with B|⟨H,_⟩
  ·exact ar (CV D B)
  ·exact ar (H▸D)
 ·rcases B with B|⟨H,B⟩
  ·exact ar (I▸B)
  ·exact ap ⟨I.trans H,vC D B⟩
theorem OD {y:Yh}(h:¬(x.1=y.1/\Zd x.2=Zd y.2)):Jz x y.1 y.2=aE∨Jz y x.1 x.2=true:=by
 rw[Z0,Z0];by_cases e:x.1=y.1
 ·rcases FQ (a:=Zd x.2) (b:=Zd y.2) (fun D=>h ⟨e,D⟩)with B|B
  ·exact ar (ap ⟨e,B⟩)
  ·exact ap (ap ⟨e.symm,B⟩)
 ·rcases PA e with B|B
  ·exact ar (ar B)
  ·exact ap (ar B)
def Yw (L:List Yh):Prop:=L.Pairwise fun x y=>Jz x y.1 y.2=aE
theorem XP (L M:List Yh)(key:BA):Xc (L++M) key=Xc L key++Xc M key:=by
 unfold Xc;rw[List.filter_append,bB]
theorem DY (h:x.1=key):Xc [x] key=[x.2]:=by
 unfold Xc;rw[List.filter_cons_of_pos (by simpa using h)];rfl
theorem G8 (h:x.1≠key):Xc [x] key=[]:=by
 unfold Xc;rw[List.filter_cons_of_neg (by simpa using h)];rfl
theorem YJ :v∈Xc L key↔(key,v)∈L:=by
 unfold Xc;rw[bv];constructor
 ·rintro⟨x,B,rfl⟩;obtain⟨D,H⟩:=zf.1 B;have:x.1=key:=by simpa using H
  rw[<-this];exact D
 ·intro h;exact⟨(key,v),zf.2 ⟨h,by simp⟩,rfl⟩
theorem xY (h:Yw L)(key:BA):(Xc L key).Pairwise fun x y=>Qd (Zd x) (Zd y)=true:=by
 unfold Xc;rw[bu];have D:(L.filter fun x=>decide (x.1=key)).Pairwise fun x y=>Jz x y.1 y.2=true:=h.filter _
 refine D.imp_of_mem ?_;intro x y H I J;have K:x.1=key:=by simpa using (zf.1 H).2
 have O:y.1=key:=by simpa using (zf.1 I).2
 rcases Z0.1 J with B|⟨_,B⟩
 ·rw[K,O]at B;exact absurd B (rV _)
 ·exact B
theorem I5 {L M:List Yh}:∀i,(∀j,j<i->Yy L j=Yy M j)->j6 L i=j6 M i
 |0,_=>rfl
 |i+1,h=>by
  have ih:=I5 (L:=L) (M:=M) i (fun j B=>h j (by omega));show(if _ then _ else _)=(if _ then _ else _);rw[ih,h i (by omega)]
theorem M8 {M:List Yh}{j:Nat}(h:j<L.length):Yy (L++M) j=Yy L j:=by
 unfold Yy;rw[af,af,bc h]
theorem S4 (L:List Yh)(x:Yh):Yy (L++ [x]) L.length=x:=by
 unfold Yy;rw[af,an nR,Nat.sub_self];rfl
def Qs (L:List Yh):List BA:=j6 L L.length
theorem B5 (L:List Yh)(x:Yh):Qs (L++ [x])=if(Qs L).length=0∨Yc (Qs L) ((Qs L).length-1)≠x.1 then Qs L++ [x.1]else Qs L:=by
 have e:j6 (L++ [x]) L.length=Qs L:=I5 _ fun j B=>M8 B
 unfold Qs at *;rw[ac];show(if _ then _ else _)=_;rw[e,S4]
theorem AZ {l:List BA}{x:BA}:Yc (l++ [x]) ((l++ [x]).length-1)=x:=by
 unfold Yc;rw[ac,af,an (by simp)];simp
def jT (K:List BA)(L:List Yh):List Yh:=K.flatMap fun k=>(Xc L k).map fun v=>(k,v)
theorem C9 {K:List BA}{M:List Yh}(h:∀k∈K,Xc L k=Xc M k):jT K L=jT K M:=by
 induction K with
 |nil=>rfl
 |cons a K ih =>
  have B:=ih fun k D=>h k (by simp[D])
  unfold jT at B ⊢;rw[zc,zc,B,h a (by simp)]
theorem wD (K B:List BA)(L:List Yh):jT (K++B) L=jT K L++jT B L:=by
 unfold jT;rw[List.flatMap_append]
structure W6 (L:List Yh):Prop where
 rising:(Qs L).Pairwise kl
 mem:∀k,k∈Qs L↔Xc L k≠[]
 all:jT (Qs L) L=L
 last:∀x,L.getLast?=aa x->(Qs L).getLast?=aa x.1
theorem MI {P:List α->Prop}(B:P [])(D:∀l x,P l->P (l++ [x])):∀l,P l:=by
 intro l;rw[<-List.reverse_reverse l]
 induction l.reverse with
 |nil=>exact B
 |cons a l ih=>rw[List.reverse_cons];exact D _ _ ih
theorem nU:∀L:List Yh,Yw L->W6 L:=by
 refine MI ?_ ?_
 ·intro _;refine⟨List.Pairwise.nil,fun k=>?_,rfl,fun x h=>by simp at h⟩;show k∈([]:List BA)↔Xc [] k≠[];simp[Xc]
 ·intro L x ih hs;obtain⟨a9,_,b0⟩:=ai.1 hs;have b1:∀y∈L,Jz y x.1 x.2=true:=fun y J=>b0 y J x (by simp)
  have I:=ih a9;have a8:∀k∈Qs L,kl k x.1∨k=x.1:=fun k B=>by
   have O:=(I.mem k).1 B;obtain⟨v,hv⟩:=List.exists_mem_of_ne_nil _ O;rcases Z0.1 (b1 _ (YJ.1 hv))with h2|⟨h2,_⟩
   ·exact ar h2
   ·exact ap h2
  have a2:∀k,k≠x.1->Xc (L++ [x]) k=Xc L k:=fun k B=>by rw[XP,G8 (Ne.symm B),aW]
  have a3:Xc (L++ [x]) x.1=Xc L x.1++ [x.2]:=by rw[XP,DY rfl]
  by_cases Z:(Qs L).length=0∨Yc (Qs L) ((Qs L).length-1)≠x.1
  ·have e:Qs (L++ [x])=Qs L++ [x.1]:=by rw[B5,if_pos Z]
   have a5:x.1∉Qs L:=by
    intro a0;rcases Z with D|D
    ·rw[be.1 D]at a0;cases a0
    ·have a6:Qs L≠[]:=List.ne_nil_of_mem a0;obtain⟨K,k,H⟩:∃K k,Qs L=K++ [k]:=⟨_,_,(zg a6).symm⟩;rw[H,AZ]at D;have b2:k∈Qs L:=by rw[H];simp
     have O:kl k x.1:=(a8 k b2).resolve_right D;have hr:=I.rising;rw[H]at hr a0;obtain⟨_,_,a7⟩:=ai.1 hr;rcases av.1 a0 with h3|h3
     ·exact rV _ (CV (a7 _ h3 k (by simp)) O)
     ·exact D (am.1 h3).symm
   refine⟨?_,fun k=>?_,?_,fun y J=>?_⟩
   ·rw[e];refine ai.2 ⟨I.rising,bd _ _,fun a U b hb=>?_⟩;rw[am.1 hb];rcases a8 a U with O|O
    ·exact O
    ·exact absurd (O▸U) a5
   ·rw[e,av,am];by_cases B:k=x.1
    ·subst B;rw[a3];simp
    ·rw[a2 k B,I.mem k];simp[B]
   ·rw[e,wD,C9 (M:=L) (fun k B=>a2 k (fun e2=>a5 (e2▸B))),I.all];have D:Xc L x.1=[]:=by
     cases hg:Xc L x.1 with
     |nil=>rfl
     |cons a l=>exact absurd ((I.mem x.1).2 (by rw[hg];simp)) a5
    unfold jT;rw[zc,a3,D];simp
   ·rw[e];simp at J ⊢;exact congrArg bh J
  ·have e:Qs (L++ [x])=Qs L:=by rw[B5,if_neg Z]
   have a6:Qs L≠[]:=fun D=>Z (ar (by rw[D];rfl))
   obtain⟨K,k,H⟩:∃K k,Qs L=K++ [k]:=⟨_,_,(zg a6).symm⟩;have b3:k=x.1:=by
    refine Classical.byContradiction fun D=>Z (ap ?_)
    rw[H,AZ];exact D
   subst b3;have hr:=I.rising;rw[H]at hr;obtain⟨_,_,a7⟩:=ai.1 hr;have b4:∀a∈K,a≠x.1:=fun a U e2=>rV _ (e2▸a7 a U x.1 (by simp))
   refine⟨by rw[e];exact I.rising,fun a=>?_,?_,fun y J=>?_⟩
   ·rw[e];by_cases B:a=x.1
    ·subst B;rw[a3,H];simp
    ·rw[a2 a B,I.mem a]
   ·have a4:=I.all;rw[e,H,wD,C9 (M:=L) (fun a U=>a2 a (b4 a U))];rw[H,wD]at a4;unfold jT at a4 ⊢;simp only[zc,List.flatMap_nil,aW]at a4 ⊢;rw[a3,bB,<-ag,a4];rfl
   ·rw[e,H];simp at J ⊢;exact congrArg bh J
theorem NI (h:Yw L):((Qs L).map fun k=>(Xc L k).length).sum=L.length:=by
 have e:=congrArg cn (nU L h).all;unfold jT at e;rw[List.length_flatMap]at e;simpa using e
theorem Jlx (h:Yw L):(Qs L).Nodup:=by
 have B:=(nU L h).rising;unfold z0;refine B.imp ?_;intro a b D e;subst e;exact rV _ D
theorem JqZ (L:List Yh):(Qs L).length<=L.length:=KS L _
def Jq (l:List Yb)(t:Int×Int):Nat:=l.findIdx fun x=>!Qd (Zd x) t
theorem DX {p:α->Bool}{A B:List α}(D:∀x∈A,p x=F)(hB:∀x∈B,p x=aE):(A++B).findIdx p=A.length:=by
 rw[List.findIdx_append,List.findIdx_eq_length.2 D];cases B with
 |nil=>simp
 |cons b B=>simp[List.findIdx_cons,hB b (by simp)]
theorem EJ :∀x∈L.take (QA L key v),Jz x key v=true:=fun x H=>by
 obtain⟨j,I,rfl⟩:=aB H;have B:j<QA L key v:=by rw[ak]at I;omega
 have:=ON B;rw[List.getElem_take];have D:=zi B (yC L key v);have e:=Q0 D;rw[ah D]at e;rw[aF e];exact this
theorem IB (h:Yw L):∀x∈L.drop (QA L key v),Jz x key v=false:=fun x H=>by
 obtain⟨j,J,rfl⟩:=aB H;rw[al]at J;have B:QA L key v<L.length:=by omega
 have D:=N8 B;rw[List.getElem_drop];have I:=Q0 B;rw[ah B]at I;rw[<-aF I]at D;cases j with
 |zero=>exact D
 |succ j =>
  have K:=az.1 h (QA L key v) (QA L key v+(j+1)) B (by omega) (by omega);cases H:Jz (L[QA L key v+(j+1)]'(by omega)) key v
  ·rfl
  ·rw[JjU (z:=(key,v)) K H]at D;cases D
theorem AT (L:List Yh)(key:BA)(v:Yb):Xc L key=Xc (L.take (QA L key v)) key++Xc (L.drop (QA L key v)) key:=by
 rw[<-XP,ae]
theorem VH (h:Yw L)(key:BA)(v:Yb):Jq (Xc L key) (Zd v)=(Xc (L.take (QA L key v)) key).length:=by
 unfold Jq;rw[AT L key v];refine DX (fun x D=>?_) (fun x D=>?_)
 ·rcases Z0.1 (EJ _ (YJ.1 D))with B|⟨_,B⟩
  ·exact absurd B (rV _)
  ·rw[B];rfl
 ·have B:=IB h _ (YJ.1 D);cases H:Qd (Zd x) (Zd v)
  ·rfl
  ·rw[Z0.2 (ap ⟨rfl,H⟩)]at B;cases B
theorem MB (h:Yw L)(key:BA)(v:Yb):Xc (XK L key v) key=(Xc L key).take (Jq (Xc L key) (Zd v))++ [v]++(Xc L key).drop (Jq (Xc L key) (Zd v)):=by
 rw[VH h];unfold XK;rw[XP,XP,DY rfl];have e:=AT L key v;rw[e,bj,List.drop_left]
theorem VO (L:List Yh){k:BA}(v:Yb)(B:k≠key):Xc (XK L key v) k=Xc L k:=by
 unfold XK;rw[XP,XP,G8 (Ne.symm B),aW,<-XP,ae]
theorem EH :x∈XK L key v↔x∈L∨x=(key,v):=by
 unfold XK;rw[av,av,am]
 conv=>rhs;rw[<-ae (QA L key v) L,av]
 constructor
 ·rintro((h|h)|h)<;>simp[h]
 ·rintro((h|h)|h)<;>simp[h]
theorem Jly (L:List Yh)(key:BA)(v:Yb):(XK L key v).length=L.length+1:=by
 unfold XK;have:=yC L key v;simp;omega
theorem Jlz (h:Yw L)(hn:∀x∈Xc L key,Zd x≠Zd v):Yw (XK L key v):=by
 have H:=h;rw[<-ae (QA L key v) L]at H;unfold Yw at H;obtain⟨O,U,Z⟩:=ai.1 H;unfold XK Yw;refine ai.2 ⟨ai.2 ⟨O,bd _ _,fun a B b D=>?_⟩,U,fun a B b D=>?_⟩
 ·rw[am.1 D];exact EJ a B
 ·rcases av.1 B with B|B
  ·exact Z a B b D
  ·rw[am.1 B];have a0:=IB h b D;have a2:¬((key,v).1=b.1/\Zd (key,v).2=Zd b.2):=fun e=>by
    obtain⟨J,e2⟩:=e;have a3:b∈L:=List.mem_of_mem_drop D;refine hn b.2 (YJ.2 ?_) e2.symm;have e3:b=(key,b.2):=by
     obtain⟨b1,b2⟩:=b;simp only at J;rw[J]
    rw[<-e3];exact a3
   rcases OD a2 with I|I
   ·exact I
   ·have K:Jz b key v=true:=I;rw[a0]at K;cases K
theorem zQ {L:List Yh}{key:BA}{v:Yb}(D:∀x∈Xc L key,Zd x≠Zd v):∀m i,i+m=L.length->Jx L key v i m=if 60<=L.length then 7 else 0
 |0,_,_=>rfl
 |m+1,i,h=>by
  have H:i<L.length:=by omega
  have I:Z5 (Yy L i) key v=false:=by
   cases B:Z5 (Yy L i) key v
   ·rfl
   ·unfold Z5 at B;simp only[aN,decide_eq_true_eq]at B;refine absurd ?_ (D (Yy L i).2 (YJ.2 ?_))
    ·unfold Zd;rw[B.1.2,B.2]
    ·rw[<-B.1.1];exact bk (Q0 H)
  show(if _ then _ else _)=_;rw[I];exact zQ D m (i+1) (by omega)
theorem US (h:Yw L){x y:Yb}(J:x∈Xc L key)(K:y∈Xc L key)(e:Zd x=Zd y):x=y:=by
 have D:=xY h key;obtain⟨i,H,rfl⟩:=aB J;obtain⟨j,I,rfl⟩:=aB K;rcases Nat.lt_trichotomy i j with B|B|B
 ·have:=az.1 D i j H I B;rw[e,YX]at this;cases this
 ·subst B;rfl
 ·have:=az.1 D j i I H B;rw[e,YX]at this;cases this
theorem DO {L:List Yh}(h:Yw L){key:BA}{v x:Yb}(H:x∈Xc L key)(D:Zd x=Zd v):∀m i,i+m=L.length->(∃j,i<=j/\j<L.length/\Yy L j=(key,x))->Jx L key v i m=if x=v then -1 else 6
 |0,i,hm,⟨j,h1,h2,_⟩=>by omega
 |m+1,i,hm,⟨j,h1,h2,h3⟩=>by
  have I:i<L.length:=by omega
  show(if _ then _ else _)=_;by_cases B:Z5 (Yy L i) key v=aE
  ·rw[if_pos B];unfold Z5 at B;simp only[aN,decide_eq_true_eq]at B;have e:(Yy L i).2=x:=by
    refine US h (key:=key) (YJ.2 ?_) H ?_
    ·rw[<-B.1.1];exact bk (Q0 I)
    ·rw[D];unfold Zd;rw[B.1.2,B.2]
   rw[e]
  ·rw[if_neg B];have J:i≠j:=fun e=>by
    subst e;refine B ?_;rw[h3];unfold Zd at D;unfold Z5;simp only[Prod.mk.injEq]at D;simp[D.1,D.2]
   exact DO h H D m (i+1) (by omega) ⟨j,by omega,h2,h3⟩
theorem KG (h:Yw L){x:Yb}(H:x∈Xc L key)(I:Zd x=Zd v):Jx L key v 0 L.length=if x=v then -1 else 6:=by
 obtain⟨j,B⟩:=List.getElem?_of_mem (YJ.1 H);have D:=(bb.1 B).1;refine DO h H I L.length 0 (by omega) ⟨j,bi _,D,?_⟩;have:=Q0 D;rw[B]at this;exact(aF this).symm
section
structure QC (w:World) (h:Nat) (S:Nat->Prop) (L:List Yh) (s:Bool) (m:Option Nat) (D:DataW aA) (row:BA->aA) (blk:BA->Nat):Prop where
 sorted:Yw L
 bO:L.length<=60
 fits:∀x∈L,Jo x.1=aE/\Y7 x.2=aE
 dH:∀k,S k->k<w.heap.size
 self:S h
 ptr:w.cell? ⟨h,0,N⟩=aa (.map m)
 shut:w.cell? ⟨h,1,N⟩=aa (.bool s)
 fP:w.frozen? ⟨h,0,N⟩=F
 fD:w.frozen? ⟨h,1,N⟩=F
 nothing:m=N->L=[]
 eY:∀b,m=aa b->S b/\b≠h/\(∃n,QX w b n D)/\(∀x,x.size<=zm->Maps.has D (Xv x)=decide (Xc L x≠[]))/\∀x,Xc L x≠[]->∀z,D.atKey (Xv x) z=.held (row x)
 own:∀x,Zc Ze 142 w 0 (row x) (Xc L x)
 dW:∀x,Xc L x=[]->row x=.slice N 0 0
 aO:∀x,Xc L x≠[]->(row x).ownBlock=aa (blk x)/\S (blk x)/\blk x≠h/\∀b,m=aa b->blk x≠b
 apart:∀x y,Xc L x≠[]->Xc L y≠[]->x≠y->blk x≠blk y
def QB (w:World)(h:Nat)(S:Nat->Prop)(L:List Yh)(s:Bool):Prop:=∃m D row blk,QC w h S L s m D row blk
variable {w w':World} {h:Nat} {S:Nat->Prop} {L:List Yh} {s:Bool} {m:Option Nat} {D:DataW aA} {row:BA->aA} {blk:BA->Nat}
theorem QC.eD (I:QC w h S L s m D row blk){x:BA}{k:Nat}(B:(row x).ownBlock=aa k):S k/\Xc L x≠[]/\k=blk x:=by
 by_cases H:Xc L x=[]
 ·rw[I.dW x H]at B;cases B
 ·obtain⟨J,K,_⟩:=I.aO x H;rw[J]at B;cases B;exact⟨K,H,rfl⟩
theorem QC.aS (B:QC w h S L s m D row blk)(hs:w.heap.size<=w'.heap.size)(J:∀k,S k->w'.heap[k]?=w.heap[k]?):QC w' h S L s m D row blk:=by
 have H:=J h B.self;refine⟨B.sorted,B.bO,B.fits,fun k I=>zi (B.dH k I) hs,B.self,(Qx H 0).1.trans B.ptr,(Qx H 1).1.trans B.shut,(Qx H 0).2.trans B.fP,(Qx H 1).2.trans B.fD,B.nothing,fun b O=>?_,fun x=>(B.own x).same (fun k I=>J k (B.eD I).1),B.dW,B.aO,B.apart⟩;obtain⟨K,U,⟨n,Z⟩,h4⟩:=B.eY b O;exact⟨K,U,⟨n,Z.same (J b K)⟩,h4⟩
theorem QC.below (B:QC w h S L s m D row blk)(H:Below w.heap.size w w'):QC w' h S L s m D row blk:=B.aS H.size (fun k I=>H.block k (B.dH k I))
theorem QC.size (H:QC w h S L s m D row blk){b:Nat}(hm:m=aa b):Maps.size D<=60:=by
 obtain⟨_,_,⟨n,K⟩,O,_⟩:=H.eY b hm;obtain⟨B,rfl,U,Z⟩:=K.keys;rw[Maps.size_eq];refine zy ?_ (zy (JqZ L) H.bO);have hn:(B.map bh).Nodup:=by unfold z0;rw[bu];exact U
 have:=YS (l:=B.map bh) (m:=(Qs L).map Xv) hn (fun l hl=>by
  obtain⟨p,I,rfl⟩:=bv.1 hl;obtain⟨x,hx,e⟩:=Z p I;have J:Maps.has (.map B) (Xv x)=true:=List.any_eq_true.2 ⟨p,I,by rw[e];exact C5 x⟩;rw[O x hx]at J;rw[e];exact bv.2 ⟨x,((nU L H.sorted).mem x).2 (by simpa using J),rfl⟩)
 simpa using this
theorem QC.look (B:QC w h S L s m D row blk){x:BA}(I:x.size<=zm):(Instr.lookup 122 (.map m) (.string x) F).run prog w=.ok (row x) w:=by
 have J:(zeroValue 88).run prog w=.ok (.slice N 0 0) w:=by kernel_rfl
 cases m with
 |none =>
  have K:=B.nothing rfl;have:=Maps.look_nil (w:=w) F kE underlying122 J (qP I);rw[this,B.dW x (by rw[K];rfl)];rfl
 |some b =>
  obtain⟨_,_,⟨n,O⟩,U,Z⟩:=B.eY b rfl;obtain⟨v,ps,a0,hR⟩:=World.ownsMap.lookup O kE underlying122 J (zd:=.held (.slice N 0 0)) (zp:=[]) rfl (qP I);rw[a0];have e:=congrArg bh (aF hR);by_cases H:Xc L x=[]
  ·rw[Maps.atKey_of_not_has (by rw[U x I];simp[H])]at e;injection e with e
   rw[e,B.dW x H]
  ·rw[Z x H]at e;injection e with e
   rw[e]
theorem QC.form (O:QC w h S L s m D row blk)(x:BA):∃p c,row x=.slice p (Xc L x).length c/\Ql Ze w p (Xc L x)/\(Xc L x).length<=c/\(p=N->Xc L x=[]/\c=0)/\∀b o,p=aa ⟨b,o,N⟩->b<w.heap.size:=by
 obtain⟨p,c,B,H,I,J,K⟩:=(O.own x).form;exact⟨p,c,B,H,I,J,fun b o e=>(K b o e).2⟩
theorem FO (w:World):QB (w.alloc (.cells #[.map none, .bool false] 185)) w.heap.size (fun k=>k=w.heap.size) [] false:=by
 refine⟨N,.nil,fun _=>.slice N 0 0,fun _=>0,List.Pairwise.nil,by simp,(fun _ B=>by cases B),(fun k H=>by subst H;simp),rfl,by simp,by simp,by simp,by simp,fun _=>rfl,(fun b I=>by cases I),fun x=>Zc.nil _ _ _,fun _ _=>rfl,fun x B=>absurd rfl B,fun x _ B _ _=>absurd rfl B⟩
theorem QB.aS (B:QB w h S L s)(H:w.heap.size<=w'.heap.size)(I:∀k,S k->w'.heap[k]?=w.heap[k]?):QB w' h S L s:=by
 obtain⟨m,D,row,blk,B⟩:=B;exact⟨m,D,row,blk,B.aS H I⟩
theorem QB.below (B:QB w h S L s)(H:Below w.heap.size w w'):QB w' h S L s:=by
 obtain⟨m,D,row,blk,B⟩:=B;exact⟨m,D,row,blk,B.below H⟩
end
theorem YU (w:World)(O sT ty I:ba)(g o J a2:Nat)(a:bD)(K a3:Nat)(D:Array aA)(t:ba)(B:List aA)(k:Nat)
 (hu:P.underlying O=aa (.slice I)) (U:(P.info? I).map (·.size)=aa k) (hg:w.heap[g]?=aa (.cells D t (0,0))) (hn:B.length=Nat.min K J*k)
 (a4:∀j v,B[j]?=aa v->w.cell? (a.add j)=aa v) (a5:o+B.length<=D.size) (h1:∀v∈B,v.oneCell'=aE):
 (aq #[O,sT] ty #[.slice (aa ⟨g,o,N⟩) J a2,.slice (aa a) K a3]).run P w=.ok (cU (Nat.min K J)) (w.setRow g (D.toList.take o++B++D.toList.drop (o+B.length)).toArray):=by
 have Z:=run_loadCells_list (P:=P) w a B a4;have a0:=run_storeCells_at P g o t B 0 D w hg (by simpa using a5) h1;cases H:P.info? I with
 |none=>simp[H]at U
 |some i =>
  have hi:i.size=k:=by simpa[H]using U
  simp[aq,run_underlying hu,Builtin.lenOf,bs,sizeOf,typeInfo,H,hi,<-hn,Z,a0]
theorem uC {a:Act}{K:Act->World->Prop}{E:Prop}(J:o.guard=N)(d s:Operand)(B D:ba)
 (O:o.op=.call {callee:=.builtin .copy,args:=#[d,s],argTypes:=#[B,D]}) (v u:aA) (U:a.eval d=v) (Z:a.eval s=u)  (hr:∀I,(aq #[B,D] I #[v,u]).run P w=.ok H w') (hK:K (a.put o.dst H) w'):
 if Region.wanted o (yielded ops a.tmps)=aE then Oper.wp P o a w K Q else E:=by
 rw[if_pos (by simp[Region.wanted,J])];unfold Oper.wp;simp[execOp,O,resolve,invoke,builtin,U,Z,hr,Result.andThen];exact hK
theorem sV {a:Act}(O:o.guard=N)(d s:Operand)(B D:ba)
 (U:o.op=.call {callee:=.builtin .copy,args:=#[d,s],argTypes:=#[B,D]}) (v u:aA) (Z:a.eval d=v) (hs:a.eval s=u)  (hr:∀I,(aq #[B,D] I #[v,u]).run P w=.ok H w')
 (h:zE P ops Q rest (a.put o.dst H) w'):zE P ops Q (o::rest) a w:=by
 refine wpList_plain O fun K J=>?_
 unfold Oper.wp;simp[execOp,U,resolve,invoke,builtin,Z,hs,hr,Result.andThen];exact J _ _ h
theorem uE {b:Nat}{B:Array aA}{t:ba}(h:w.heap[b]?=aa (.cells B t (0,0))):w.shape? b=aa (t,B.size)/\∀o,w.frozen? ⟨b,o,N⟩=false:=by
 constructor
 ·simp[World.shape?,h]
 ·intro o;simp[World.frozen?,h]
theorem tX:(prog.info? 142).map (·.size)=aa 5:=by
 obtain⟨H,B,I,D,J⟩:=zn qS;rw[B];simp[D]
def fN (l:List Yb)(i:Nat)(x:Yb):List Yb:=l.take i++ [x]++l.drop i
theorem yB {l:List Yb}(B:i<=l.length)(x:Yb):(fN l i x).length=l.length+1:=by
 unfold fN;simp;omega
theorem DD (l:List Yb)(i:Nat)(x:Yb):Qb Ze (fN l i x)=Qb Ze (l.take i)++(JL x++Qb Ze (l.drop i)):=by
 unfold fN;rw[Qj,Qj,qK,ag];rfl
theorem oA (l:List Yb):(Qb Ze l).length=l.length*5:=Qr Ze l
def lB (w w':World)(v:aA)(l:List Yb)(i:Nat)(x:Yb)(e:Ending):Prop :=
 ∃B,e=.returned B/\Zc Ze 142 w' 0 B (fN l i x)/\w.grownBy w' v.ownBlock/\((B.ownBlock=v.ownBlock/\v.ownBlock≠N)∨∃k,B.ownBlock=aa k/\w.heap.size<=k)
theorem E4 (A B R X:List α)(k:Nat)(O:X.length=k)(Z:k<=R.length)(D:List α)(U:D=A++(B++R)):
 (((D.take (A.length+k)++B++D.drop (A.length+k+B.length)).take A.length)++X++((D.take (A.length+k)++B++D.drop (A.length+k+B.length)).drop (A.length+X.length))).take (A.length+k+B.length)=A++(X++B):=by
 subst U;have H:(A++(B++R)).take (A.length+k)=A++(B++R).take k:=by rw[List.take_append,aI (Nat.le_add_right _ _),za]
 have I:((B++R).take k).length=k:=by rw[ak,ac];omega
 rw[H];have J:(A++(B++R).take k++B++(A++(B++R)).drop (A.length+k+B.length)).take A.length=A:=by
  rw[ag,ag,bj]
 have K:(A++(B++R).take k++B++(A++(B++R)).drop (A.length+k+B.length)).drop (A.length+X.length)=B++(A++(B++R)).drop (A.length+k+B.length):=by
  rw[ag (A++(B++R).take k)];exact List.drop_left' (by rw[ac,I,O])
 rw[J,K,<-ag,ze (by simp only[ac];omega),aI (by simp only[ac];omega),ag]
theorem GV (A B Z X:List α)(k:Nat)(I:X.length=k):
 ((((A++Z).take A.length++X++(A++Z).drop (A.length+X.length)).take (A.length+k))++B++(((A++Z).take A.length++X++(A++Z).drop (A.length+X.length)).drop (A.length+k+B.length))).take (A.length+k+B.length)=A++(X++B):=by
 have D:(A++Z).take A.length=A:=by rw[bj]
 rw[D];have H:(A++X++(A++Z).drop (A.length+X.length)).take (A.length+k)=A++X:=List.take_left' (by rw[ac,I]);rw[H,ze (by simp only[ac];omega),aI (by simp only[ac];omega),ag]
theorem JqB (w:World)(v:aA)(l:List Yb)(x:Yb)(hl:l.length<=1000)(hO:Zc Ze 142 w 0 v l)(B H:Nat)(hx:∀j u,(JL x)[j]?=aa u->w.cell? ⟨B,j,N⟩=aa u):
 ∃I w',(∀O,(aw #[88,88] O #[v,.slice (aa ⟨B,0,N⟩) 1 H]).run prog w=.ok I w')/\Zc Ze 142 w' 0 I (l++ [x])/\w.grownBy w' v.ownBlock/\((I.ownBlock=v.ownBlock/\v.ownBlock≠N)∨∃k,I.ownBlock=aa k/\w.heap.size<=k):=by
 obtain⟨U,Z,a2,J,a3⟩:=zn qS;have a4:(JL x).length=1*5:=rfl;have a0:∀j u,(JL x)[j]?=aa u->w.cell? (((pA B 0):bD).add j)=aa u:=fun j u hj=>by rw[au,zb];exact hx j u hj
 have h1:=Ze.one x;obtain⟨I,w',hr,ho,hg,b0⟩:=run_append_own (P:=prog) w 0 88 0 142 U _ 5 48 underlying88 Z a2 J a3 rfl (by decide) v l.length (Qb Ze l) hO (pA B 0) 1 H (JL x) a4 a0 h1 (by unfold zm;omega) (by omega) (bi _);refine⟨I,w',fun O=>?_,?_,hg,?_⟩
 ·have:∀O,(aw #[88,88] O #[v,.slice (aa (pA B 0)) 1 H]).run prog w=(aw #[88,88] 0 #[v,.slice (aa (pA B 0)) 1 H]).run prog w:=fun _=>rfl
  rw[this,hr]
 ·show World.ownsRow _ _ _ _ _ _ _;rw[Qj,qK,ac];exact ho
 ·rcases hO.2 with⟨rfl,hz⟩|⟨g,cap,a5,rfl,b1,a6,b2,b3,a7,b4⟩
  ·refine ap ?_;have a8:l=[]:=be.1 hz;subst a8;have D:=run_append_nil (P:=prog) w 88 0 142 U _ underlying88 Z a2 (pA B 0) 1 H (JL x) (by rw[J];rfl) a0 (by omega) (by omega) (by rw[a3];omega);rw[hr]at D;injection D with K _
   rw[K];exact⟨_,rfl,bA _⟩
  ·by_cases a9:l.length+1<=cap
   ·have D:=run_append_room (P:=prog) w 88 0 142 U underlying88 Z g l.length cap a5 a6 (pA B 0) 1 H (JL x) (by rw[J];rfl) a0 h1 a9 (by rw[J,a7];show l.length*5+5<=cap*Ze.k;have:Ze.k=5:=rfl;rw[this];omega);rw[hr]at D;injection D with K _
    rw[K];exact ar ⟨rfl,by simp[Value.ownBlock]⟩
   ·refine ap ?_;have D:=run_append_grow (P:=prog) w 88 0 142 U _ underlying88 Z a2 (pA g 0) l.length cap (Qb Ze l) (by rw[J];exact Qr Ze l) (zh hO rfl) (pA B 0) 1 H (JL x) (by rw[J];rfl) a0 (by omega) (by omega) (by rw[a3];exact bI (by omega) (by omega));rw[hr]at D;injection D with K _
    rw[K];exact⟨_,rfl,bA _⟩
theorem QG {a:Act}(J:o.guard=N)(s x:Operand)(t B:ba)
 (O:o.op=.call {callee:=.builtin .append,args:=#[s,x],argTypes:=#[t,B]}) (v u:aA) (U:a.eval s=v) (Z:a.eval x=u) {D:aA} (hr:∀H,(aw #[t,B] H #[v,u]).run P w=.ok D w')
 (h:zE P ops Q rest (a.put o.dst D) w'):zE P ops Q (o::rest) a w:=by
 refine wpList_plain J fun K I=>?_
 unfold Oper.wp;simp[execOp,O,resolve,invoke,builtin,U,Z,hr,Result.andThen];exact I _ _ h
theorem LK (v:aA)(l:List Yb)(x:Yb)(D vc:Nat)(w:World)(hl:l.length<=1000)(H:Zc Ze 142 w 0 v l)(hx:∀j u,(JL x)[j]?=aa u->w.cell? ⟨D,j,N⟩=aa u):
 aD prog 117 #[v,.int .i64 (l.length:Int),.slice (aa ⟨D,0,N⟩) 1 vc] w fun e w'=>lB w w' v l l.length x e:=by
 obtain⟨I,w',J,K,O,U⟩:=JqB w v l x hl H D vc hx;have Z:Hid (lB w w' v l l.length x (.returned I)):=⟨I,rfl,by unfold fN;rw[List.take_length,List.drop_length,aW];exact K,O,U⟩;obtain⟨p,c,hv,_,a2,B,_⟩:=H.form;clear K O U hx H;generalize l.length=n at *;subst hv;have a0:Hid (p=N->n=0/\c=0):=fun h=>⟨by have:=(B h).2;omega,(B h).2⟩
 clear B;have a3:(0:Int)<=(n:Int):=by omega
 cases p with
 |none =>
  obtain⟨h1,h2⟩:=a0.out rfl;subst h1 h2;go_enter func117,ntmps117;go_wp2_with (at_builtin;refine QG rfl _ _ _ _ rfl _ _ rfl rfl J ?_)
  go_ret;exact Z.out
 |some a =>
  obtain⟨ab,ao,a4⟩:=a;go_enter func117,ntmps117;go_wp2_with (at_builtin;refine QG rfl _ _ _ _ rfl _ _ rfl rfl J ?_)
  all_goals (go_ret;exact Z.out)
theorem Jk4 (g c i:Nat)(l:List Yb)(x:Yb)(B vc:Nat)(e4:Array aA)(vt:ba)(w:World)(hl:l.length<=1000)(hi:i<l.length)(d2:l.length+1<=c)(hO:Zc Ze 142 w 0 (.slice (aa ⟨g,0,N⟩) l.length c) l)(hx:∀j u,(JL x)[j]?=aa u->w.cell? ⟨B,j,N⟩=aa u)
 (d3:B≠g) (d4:w.heap[B]?=aa (.cells e4 vt (0,0))):
 aD prog 117 #[.slice (aa ⟨g,0,N⟩) l.length c,.int .i64 (i:Int),.slice (aa ⟨B,0,N⟩) 1 vc] w fun e w'=>lB w w' (.slice (aa ⟨g,0,N⟩) l.length c) l i x e:=by
 obtain⟨n,O⟩:=Xb l.length;rcases hO.2 with⟨h0,_⟩|⟨g',cap,D,hv,d5,a2,b2,d6,U,a3⟩
 ·cases h0
 obtain⟨h1,_,h3⟩:=Value.slice.inj hv;obtain rfl:g=g':=congrArg Addr.block (aF h1);subst h3;have a4:Ze.k=5:=rfl;rw[a4]at U a3;rw[<-O]at hi d2 hl b2 a3;have hA:(Qb Ze (l.take i)).length=i*5:=by rw[oA,ak];congr 1;omega
 have hB:(Qb Ze (l.drop i)).length=(n-i)*5:=by rw[oA,al,<-O]
 have b3:D.toList=Qb Ze (l.take i)++(Qb Ze (l.drop i)++D.toList.drop (n*5)):=by
  conv=>lhs;rw[<-ae (n*5) D.toList,a3,<-ae i l,Qj,ag]
 have a9:D.toList.length=c*5:=by rw[aC];exact U
 have hR:5<=(D.toList.drop (n*5)).length:=by rw[al,a9];omega
 have Z:(JL x).length=5:=rfl;obtain⟨I,a5⟩:=Xb ((D.toList.take ((i+1)*5)++Qb Ze (l.drop i)++D.toList.drop ((i+1)*5+(Qb Ze (l.drop i)).length)).toArray);have b0:I.size=c*5:=by
  rw[a5];simp only[ax,ac,ak,al,a9,hB];omega
 obtain⟨a0,a6⟩:=Xb ((I.toList.take (i*5)++JL x++I.toList.drop (i*5+(JL x).length)).toArray);have b4:a0.size=c*5:=by
  rw[a6];simp only[ax,ac,ak,al,aC,b0,Z];omega
 have b5:a0.toList.take ((n+1)*5)=Qb Ze (fN l i x):=by
  have:=E4 (Qb Ze (l.take i)) (Qb Ze (l.drop i)) (D.toList.drop (n*5)) (JL x) 5 Z hR D.toList b3;rw[hA,hB]at this;rw[DD,<-this,a6,a5,hB];have e1:(i+1)*5=i*5+5:=by omega
  have e2:(n+1)*5=i*5+5+(n-i)*5:=by omega
  rw[e1,e2]
 have b6:∀j u,(Qb Ze l)[j]?=aa u->w.cell? (pA g j)=aa u:=fun j u hj=>by
  have:=zh (g:=g) hO rfl j u hj;rw[au,zb]at this;exact this
 have b7:∀j u,(Qb Ze (l.drop i))[j]?=aa u->w.drew.cell? (((pA g (i*5)):bD).add j)=aa u:=fun j u hj=>by
  rw[au];refine b6 (i*5+j) u ?_;rw[<-ae i l,Qj,an (by rw[hA];omega),hA,za];exact hj
 have b8:∀H J sc,(aq #[88,88] H #[.slice (aa ⟨g,(i+1)*5,N⟩) (n-i) J,.slice (aa (pA g (i*5))) (n+1-i) sc]).run prog w.drew=.ok (cU (n-i)) (w.drew.setRow g I):=fun H J sc=>by
  have:=YU (P:=prog) w.drew 88 88 H 142 g ((i+1)*5) (n-i) J (pA g (i*5)) (n+1-i) sc D 142 (Qb Ze (l.drop i)) 5 underlying88 tX a2 (by rw[hB];congr 1;simp only[ay];split<;>omega) b7 (by rw[hB,U];omega) (Zz Ze _);rw[this,a5]
  congr 2
  simp only[ay];split<;>omega
 have a7:(w.drew.setRow g I).heap[g]?=aa (.cells I 142 (0,0)):=bm w.drew g D _ 142 _ a2;obtain⟨K,a8⟩:=Xb (w.drew.setRow g I);rw[<-a8]at b8 a7;have c8:∀j u,(JL x)[j]?=aa u->K.cell? (((pA B 0):bD).add j)=aa u:=fun j u hj=>by
  rw[au,zb,<-hx j u hj];have:K.heap[B]?=w.heap[B]?:=by rw[a8];exact aY w.drew g B _ d3
  exact aR (a:=(pA B j)) this
 have d7:∀H J,(aq #[88,88] H #[.slice (aa (pA g (i*5))) (n+1-i) J,.slice (aa (pA B 0)) 1 vc]).run prog K=.ok (cU 1) (K.setRow g a0):=fun H J=>by
  have:=YU (P:=prog) K 88 88 H 142 g (i*5) (n+1-i) J (pA B 0) 1 vc I 142 (JL x) 5 underlying88 tX a7 (by rw[Z];simp only[ay];split<;>omega) c8 (by rw[Z,b0];omega) (Ze.one x);rw[this,a6]
  congr 2
  simp only[ay];split<;>omega
 have HI:Hid (lB w (K.setRow g a0) (.slice (aa (pA g 0)) n c) l i x (.returned (.slice (aa (pA g 0)) (n+1) c))):=by
  have b1:(fN l i x).length=n+1:=by rw[yB (by omega),O]
  refine⟨_,rfl,⟨by rw[oA];rfl,ap ⟨g,c,a0,by rw[b1],bi _,bm K g I _ 142 _ a7,by rw[b1];exact d2,d6,by rw[a4];exact b4,by rw[b1,a4];exact b5⟩⟩,?_,ar ⟨rfl,by simp[Value.ownBlock]⟩⟩;rw[a8];refine⟨rfl,rfl,rfl,by simp[ca],fun k hk d8=>?_⟩;have d0:k≠g:=fun e=>d8 (by rw[e];rfl)
  rw[aY _ g k _ d0,aY _ g k _ d0];rfl
 have d9:∀lb cb,(callFunc 140 #[.slice (aa (pA B 0)) 1 vc,.slice (aa ⟨g,(i+1)*5,N⟩) lb cb]).run prog w=.ok (.value (.bool F)) w:=fun lb cb=>by
  obtain⟨e0,d1⟩:=uE d4;obtain⟨e3,_⟩:=uE a2;rw[run_callFunc_extern func140 (by kernel_rfl) (by kernel_rfl) (by kernel_rfl) (e:=Extern.SlicesOverlaps.overlaps #[88,88] #[4]) (by kernel_rfl),
   Lib.run_overlaps_apart w 88 4 142 underlying88 5 (fun w=>by kernel_rfl) (pA B 0) ⟨g,(i+1)*5,N⟩ 1 vc lb cb d3 _ _ _ _ e0 e3 (by rw[U];omega) (d1 0) (d1 _)]
  rfl
 rw[<-O];clear a8 O b5 b4 a6 b0 a5 Z hR a9 b3 hB hA a3 U a2 a7 b7 c8 b6 hv h1 hO hx d4 b2 a4 d5;have e5:¬((i:Int)=(n:Int)):=by omega
 have e6:bp.wrap ((i:Int)+1)=(i:Int)+1:=by rw[aM];omega
 have e7:(0:Int)<=(i:Int):=by omega
 have e8:(0:Int)<=(i:Int)+1:=by omega
 have e9:i<=n:=by omega
 have f3:((i:Int)+1).toNat=i+1:=by omega
 have f4:¬(c=i+1):=by omega
 have f5:(i:Int)<=(n:Int)+1:=by omega
 have f6:¬(c=i):=by omega
 have f7:(i:Int)+1<=(n:Int)+1:=by omega
 have f8:((n:Int)+1).toNat=n+1:=by omega
 have f9:(0:Int)<=(n:Int)+1:=by omega
 have g0:(n:Int)+1<=(c:Int):=by omega
 have g1:¬((c:Int)<(n:Int)+1):=by omega
 have g2:bp.wrap ((n:Int)+1)=(n:Int)+1:=by rw[aM];omega
 have g3:(i:Int)<=(n:Int):=by omega
 go_enter func117,ntmps117;go_wp2_with (simp only[d9])
 go_region_law (refine uC rfl _ _ 88 88 rfl _ _ (by simp[Act.eval,Act.put];rfl) (by simp[Act.eval,Act.put];rfl) (fun H=>b8 H _ _) ?_)
 go_wp2_with (at_builtin;refine sV rfl _ _ 88 88 rfl _ _ rfl rfl (fun H=>d7 H _) ?_)
 go_ret;exact HI.out
theorem Q8 (g c i:Nat)(l:List Yb)(x:Yb)(U vc:Nat)(w:World)(hl:l.length<=1000)(hi:i<l.length)(f4:¬l.length+1<=c)(hO:Zc Ze 142 w 0 (.slice (aa ⟨g,0,N⟩) l.length c) l)(hx:∀j u,(JL x)[j]?=aa u->w.cell? ⟨U,j,N⟩=aa u)(e3:U<w.heap.size):
 aD prog 117 #[.slice (aa ⟨g,0,N⟩) l.length c,.int .i64 (i:Int),.slice (aa ⟨U,0,N⟩) 1 vc] w fun e w'=>lB w w' (.slice (aa ⟨g,0,N⟩) l.length c) l i x e:=by
 obtain⟨n,hn⟩:=Xb l.length;have d1:=(hO.block (k:=g) rfl).2;obtain⟨i0,d2,d3,a7,a8⟩:=zn qS;have a9:n<=c:=by
  obtain⟨_,_,e4,_,a9,_,_⟩:=hO.form;obtain⟨_,_,e6⟩:=Value.slice.inj e4;rw[<-e6,<-hn]at a9;exact a9
 have b0:Ze.k=5:=rfl;have b1:∀j u,(Qb Ze l)[j]?=aa u->w.cell? (pA g j)=aa u:=fun j u J=>by
  have:=zh (g:=g) hO rfl j u J;rw[au,zb]at this;exact this
 rw[<-hn]at hi f4 hl;have hA:(Qb Ze (l.take i)).length=i*5:=by rw[oA,ak];congr 1;omega
 have hB:(Qb Ze (l.drop i)).length=(n-i)*5:=by rw[oA,al,<-hn]
 have hX:(JL x).length=5:=rfl;have d4:∀j u,(Qb Ze (l.take i))[j]?=aa u->w.drew.cell? (((pA g 0):bD).add j)=aa u:=fun j u J=>by
  rw[au,zb];refine b1 j u ?_;rw[<-ae i l,Qj,bc (bb.1 J).1];exact J
 have hold:(bs i0.size i (.slice (aa (pA g 0)) i c)).run prog w.drew=.ok (Qb Ze (l.take i)).toArray w.drew:=by
  rw[a7];exact run_firstCells_some w.drew 5 i (pA g 0) i c _ hA d4
 have e7:i+(n+1-i)=n+1:=by omega
 have b2:∀B,(aw #[88,3] B #[.slice (aa (pA g 0)) i c,.int .i64 (((n+1-i:Nat)):Int)]).run prog w=_:=fun B =>
  Lib.run_append_grow_zeros w 88 3 B 142 i0 _ .i64 .i64 underlying88 underlying3 d2 d3 (aa (pA g 0)) i c (Qb Ze (l.take i)) hold (n+1-i) (by omega) (by rw[a7];decide) (by omega) (by omega) (by rw[a8];omega) (by rw[a8];exact bI (by omega) (by omega))
 rw[e7]at b2;have e8:n+1<=grownCap w (n+1) c 142:=grownCap_ge w _ _ _;have b3:=grownCap_le_maxLen w (n+1) c 142 (by unfold zm;omega);generalize hG:grownCap w (n+1) c 142=G at *;clear hG;have f5:G<=9223372036854775807:=by unfold zm at b3;omega
 obtain⟨Z,hZ⟩:∃Z:List aA,Z=(bx (Value.agg #[.int .i64 0,.int .i64 0,.int .i64 0,.int .i64 0,.string ⟨#[]⟩]).cells (n+1-i)++bx (Value.agg #[.int .i64 0,.int .i64 0,.int .i64 0,.int .i64 0,.string ⟨#[]⟩]).cells (G-(n+1))).toList:=⟨_,rfl⟩;have d5:Z.length=(G-i)*5:=by
  have e5:(Value.agg #[.int .i64 0,.int .i64 0,.int .i64 0,.int .i64 0,.string ⟨#[]⟩]).cells.size=5:=rfl;rw[hZ];simp[size_zeroCells,e5];omega
 obtain⟨D,a3⟩:∃D:Array aA,D=(Qb Ze (l.take i)++Z).toArray:=⟨_,rfl⟩;have b4:D.size=G*5:=by rw[a3];simp only[ax,ac,hA,d5];omega
 have b5:∀B,(aw #[88,3] B #[.slice (aa (pA g 0)) i c,.int .i64 (((n+1-i:Nat)):Int)]).run prog w=.ok (.slice (aa (pA w.heap.size 0)) (n+1) G) (w.drew.alloc (.cells D 142)):=fun B=>by
  rw[b2 B,a3,hZ]
  congr 3
  simp
 clear b2 hold hZ;obtain⟨H,K⟩:=Xb (w.drew.alloc (.cells D 142));rw[<-K]at b5;have b6:H.heap[w.heap.size]?=aa (.cells D 142 (0,0)):=by rw[K];exact heap_alloc_new w.drew _
 have b7:∀k,k<w.heap.size->H.heap[k]?=w.heap[k]?:=fun k hk=>by rw[K];exact heap_alloc_old w.drew _ hk
 have e9:H.heap.size=w.heap.size+1:=by rw[K];simp
 obtain⟨I,a4⟩:=Xb ((D.toList.take (i*5)++JL x++D.toList.drop (i*5+(JL x).length)).toArray);have b8:I.size=G*5:=by
  rw[a4];simp only[ax,ac,ak,al,aC,b4,hX];omega
 have d6:∀j u,(JL x)[j]?=aa u->H.cell? (((pA U 0):bD).add j)=aa u:=fun j u J=>by
  rw[au,zb,<-hx j u J];exact aR (a:=(pA U j)) (b7 U e3)
 have d7:∀B dc,(aq #[88,88] B #[.slice (aa (pA w.heap.size (i*5))) (n+1-i) dc,.slice (aa (pA U 0)) 1 vc]).run prog H=.ok (cU 1) (H.setRow w.heap.size I):=fun B dc=>by
  have:=YU (P:=prog) H 88 88 B 142 w.heap.size (i*5) (n+1-i) dc (pA U 0) 1 vc D 142 (JL x) 5 underlying88 tX b6 (by rw[hX];simp only[ay];split<;>omega) d6 (by rw[hX,b4];omega) (Ze.one x);rw[this,a4]
  congr 2
  simp only[ay];split<;>omega
 have a5:(H.setRow w.heap.size I).heap[w.heap.size]?=aa (.cells I 142 (0,0)):=bm H w.heap.size D _ 142 _ b6;obtain⟨O,a0⟩:=Xb (H.setRow w.heap.size I);rw[<-a0]at d7 a5;have c8:∀k,k<w.heap.size->O.heap[k]?=w.heap[k]?:=fun k hk=>by rw[a0,aY _ _ _ _ (by omega)];exact b7 k hk
 obtain⟨a2,a6⟩:=Xb ((I.toList.take ((i+1)*5)++Qb Ze (l.drop i)++I.toList.drop ((i+1)*5+(Qb Ze (l.drop i)).length)).toArray);have d8:a2.size=G*5:=by
  rw[a6];simp only[ax,ac,ak,al,aC,b8,hB];omega
 have d9:∀j u,(Qb Ze (l.drop i))[j]?=aa u->O.drew.cell? (((pA g (i*5)):bD).add j)=aa u:=fun j u J=>by
  rw[au];have h1:=b1 (i*5+j) u (by
   rw[<-ae i l,Qj,an (by rw[hA];omega),hA,za];exact J)
  rw[<-h1];exact aR (a:=(pA g (i*5+j))) (w':=O.drew) (c8 g d1)
 have f3:∀B dc sc,(aq #[88,88] B #[.slice (aa ⟨w.heap.size,(i+1)*5,N⟩) (n-i) dc,.slice (aa (pA g (i*5))) (n-i) sc]).run prog O.drew=.ok (cU ((n-i:Nat):Int)) (O.drew.setRow w.heap.size a2):=fun B dc sc=>by
  have:=YU (P:=prog) O.drew 88 88 B 142 w.heap.size ((i+1)*5) (n-i) dc (pA g (i*5)) (n-i) sc I 142 (Qb Ze (l.drop i)) 5 underlying88 tX a5 (by rw[hB];congr 1;simp only[ay];split<;>omega) d9 (by rw[hB,b8];omega) (Zz Ze _);rw[this,a6]
  congr 3
  simp only[ay];split<;>omega
 have e0:a2.toList.take ((n+1)*5)=Qb Ze (fN l i x):=by
  have:=GV (Qb Ze (l.take i)) (Qb Ze (l.drop i)) Z (JL x) 5 hX;rw[hA,hB]at this;rw[DD,<-this,a6,a4,a3,hB];have e1:(i+1)*5=i*5+5:=by omega
  have e2:(n+1)*5=i*5+5+(n-i)*5:=by omega
  rw[e1,e2]
 have HI:Hid (lB w (O.drew.setRow w.heap.size a2) (.slice (aa (pA g 0)) n c) l i x (.returned (.slice (aa (pA w.heap.size 0)) (n+1) G))):=by
  have d0:(fN l i x).length=n+1:=by rw[yB (by omega),hn]
  refine⟨_,rfl,⟨by rw[oA];rfl,ap ⟨w.heap.size,G,a2,by rw[d0],bi _,bm O.drew w.heap.size I _ 142 _ a5,by rw[d0];exact e8,b3,by rw[b0];exact d8,by rw[d0,b0];exact e0⟩⟩,?_,ap ⟨_,rfl,bA _⟩⟩;refine⟨by rw[a0,K];rfl,by rw[a0,K];rfl,by rw[a0,K];rfl,?_,fun k hk f6=>?_⟩
  ·rw[a0];show w.heap.size<=_;simp[ca];omega
  ·rw[aY _ _ k _ (by omega)];exact c8 k hk
 rw[<-hn];clear b7 c8 K e9 b6 b4 d5 a3 d4 d1 d2 d3 a7 a8 e3 a0 hn e0 d8 a6 b8 a4 hX hB hA a5 d6 d9 b1 hO hx b0 b3;have f7:¬((i:Int)=(n:Int)):=by omega
 have f8:bp.wrap ((i:Int)+1)=(i:Int)+1:=by rw[aM];omega
 have f9:(0:Int)<=(i:Int):=by omega
 have g0:(0:Int)<=(i:Int)+1:=by omega
 have g1:i<=n:=by omega
 have g2:((i:Int)+1).toNat=i+1:=by omega
 have g3:¬(G=i+1):=by omega
 have g4:(i:Int)<=(n:Int)+1:=by omega
 have g5:¬(c=i):=by omega
 have g6:¬(G=i):=by omega
 have g7:(i:Int)+1<=(n:Int)+1:=by omega
 have g8:=decide_eq_true (by omega);have g9:bp.wrap ((n:Int)+1)=(n:Int)+1:=by rw[aM];omega
 have h0:(i:Int)<=(n:Int):=by omega
 have h2:(i:Int)<=(c:Int):=by omega
 have eK:(((n+1-i:Nat)):Int)=(n:Int)+1-(i:Int):=by omega
 rw[eK]at b5;clear eK;go_enter func117,ntmps117;go_wp2_with (first|(at_builtin;refine QG rfl _ _ _ _ rfl _ _ rfl rfl b5 ?_)|(at_builtin;refine sV rfl _ _ 88 88 rfl _ _ rfl rfl (fun B=>d7 B _) ?_))
 go_region_law (refine uC rfl _ _ 88 88 rfl _ _ (by simp[Act.eval,Act.put];rfl) (by simp[Act.eval,Act.put];rfl) (fun B=>f3 B _ _) ?_)
 go_wp2;go_ret;exact HI.out
theorem KV (v:aA)(l:List Yb)(i:Nat)(x:Yb)(B D:Nat)(U:Array aA)(Z:ba)(w:World)(I:l.length<=1000)(hi:i<=l.length)(H:Zc Ze 142 w 0 v l)(J:∀j u,(JL x)[j]?=aa u->w.cell? ⟨B,j,N⟩=aa u)
 (a2:∀k,v.ownBlock=aa k->B≠k) (a0:w.heap[B]?=aa (.cells U Z (0,0))):
 aD prog 117 #[v,.int .i64 (i:Int),.slice (aa ⟨B,0,N⟩) 1 D] w fun e w'=>lB w w' v l i x e:=by
 by_cases he:i=l.length
 ·subst he;exact LK v l x B D w I H J
 ·have K:i<l.length:=by omega
  rcases H.2 with⟨_,h0⟩|⟨g,cap,a3,rfl,_⟩
  ·omega
  ·by_cases O:l.length+1<=cap
   ·exact Jk4 g cap i l x B D U Z w I K O H J (a2 g rfl) a0
   ·exact Q8 g cap i l x B D w I K O H J (Array.getElem?_eq_some_iff.1 a0).1
abbrev Lv:=Option bD×Nat×Nat
def fI (h:Lv):Value:=.slice h.1 h.2.1 h.2.2
def Jw (x:Zb×Lv):List Value:=[.string x.1.from_,.string x.1.aP,.string x.1.kind,.string x.1.key,.int .i64 x.1.op,.int .i64 x.1.config,.bool x.1.shut,.slice x.2.1 x.2.2.1 x.2.2.2]
def mE:eW (Zb×Lv):=⟨8,by decide,Jw,fun _=>rfl,fun x u B=>by simp[Jw]at B;rcases B with rfl|rfl|rfl|rfl|rfl|rfl|rfl|rfl<;>rfl⟩
structure Jn (w:World) (x:Zb×Lv):Prop where
 len:x.2.2.1=x.1.L.length
 eC:Ql Ze w x.2.1 x.1.L
 room:x.1.L.length<=x.2.2.2
 empty:x.2.1=N->x.1.L=[]/\x.2.2.2=0
theorem Jn.below {x:Zb×Lv}(h:Jn w x)(B:Below w.heap.size w w'):Jn w' x:=⟨h.len,h.eC.below B,h.room,h.empty⟩
def mN (w:World)(p:Option bD)(l:List Zb):Prop:=∃B:List (Zb×Lv),B.map bh=l/\Ql mE w p B/\∀x∈B,Jn w x
theorem KE (T:ba)(B:(prog.info? T).map (fun i=>(i.zero,i.size,i.bytes))=aa (aa (.agg #[.string ⟨#[]⟩,.string ⟨#[]⟩,.string ⟨#[]⟩,.string ⟨#[]⟩,.int .i64 0,.int .i64 0,.bool F,.slice N 0 0]),8,112)):(prog.info? T).map (fun i=>(i.zero,i.size,i.bytes))=aa (aa (.agg #[.string ⟨#[]⟩,.string ⟨#[]⟩,.string ⟨#[]⟩,.string ⟨#[]⟩,.int .i64 0,.int .i64 0,.bool F,.slice N 0 0]),mE.k,112):=B
theorem vF {B:List (Zb×Lv)}(h:Ql mE w p B)(D:i<B.length):∃b o,p=aa ⟨b,o,N⟩/\b<w.heap.size/\w.cell? ⟨b,o+i*8,N⟩=aa (.string B[i].1.from_)/\w.cell? ⟨b,o+i*8+1,N⟩=aa (.string B[i].1.aP)/\w.cell? ⟨b,o+i*8+2,N⟩=aa (.string B[i].1.kind)/\w.cell? ⟨b,o+i*8+3,N⟩=aa (.string B[i].1.key)/\w.cell? ⟨b,o+i*8+4,N⟩=aa (.int .i64 B[i].1.op)/\w.cell? ⟨b,o+i*8+5,N⟩=aa (.int .i64 B[i].1.config)/\w.cell? ⟨b,o+i*8+6,N⟩=aa (.bool B[i].1.shut)/\w.cell? ⟨b,o+i*8+7,N⟩=aa (.slice B[i].2.1 B[i].2.2.1 B[i].2.2.2):=by
 rcases h with H|⟨b,o,I,J,K⟩
 ·rw[H]at D;exact absurd D (bf _)
 ·have O:B[i]?=aa B[i]:=ah D;have g:=K i _ O;exact⟨b,o,I,J,g 0 _ rfl,g 1 _ rfl,g 2 _ rfl,g 3 _ rfl,g 4 _ rfl,g 5 _ rfl,g 6 _ rfl,g 7 _ rfl⟩
def JN (B:List (Zb×Lv))(i:Nat):Zb×Lv:=B.getD i (⟨⟨#[]⟩,⟨#[]⟩,⟨#[]⟩,⟨#[]⟩,0,0,F,[]⟩,(N,0,0))
theorem rR {B:List (Zb×Lv)}(h:i<B.length):B[i]=JN B i:=by
 unfold JN;rw[af,ah h];rfl
theorem vV {B:List (Zb×Lv)}(h:i<B.length):JN B i∈B:=by
 rw[<-rR h];exact List.getElem_mem h
def QJ (w:World)(p:Option bD)(M:List (List Nat)):Prop :=
 M=[]∨∃b o,p=aa ⟨b,o,N⟩/\b<w.heap.size/\∀i,i<M.length->∃q c,w.cell? ⟨b,o+i,N⟩=aa (.slice q (Qh M i).length c)/\jU w q (Qh M i)/\(q=N->c=0)
theorem QJ.below (h:QJ w p M)(B:Below w.heap.size w w'):QJ w' p M:=by
 rcases h with h|⟨b,o,I,D,J⟩
 ·exact ar h
 ·refine ap ⟨b,o,I,zi D B.size,fun i K=>?_⟩;obtain⟨q,c,O,H⟩:=J i K;exact⟨q,c,(B.cell (p:=⟨b,o+i,N⟩) D).trans O,H.1.below B,H.2⟩
theorem QJ.drewN (h:QJ w p M)(n:Nat):QJ (w.drewN n) p M:=h.below (below_drewN bR n)
def jQ (M:List (List Nat)):Prop:=1<=M.length/\M.length<=16/\∀i,i<M.length->1<=(Qh M i).length/\(Qh M i).length<=16/\(Qh M i).length=(Qh M 0).length
theorem KF:(prog.info? 5).map (fun i=>(i.zero,i.size,i.bytes))=aa (aa (ZM 0),1,1):=by kernel_rfl
def JB (k:Nat):List Nat:=br k
theorem Jti:(prog.info? 116).map (fun i=>(i.zero,i.size,i.bytes))=aa (aa (.slice N 0 0),1,24):=by kernel_rfl
def Zo (w:World)(B:Nat)(E:ba)(g n:Nat)(l:List Nat):Prop:=w.ownsRow B E 1 (.slice (aa ⟨g,0,N⟩) n n) n (l.map ZM)
theorem Zo.made (w:World)(B:Nat)(E:ba)(n:Nat)(hB:B<=w.heap.size)(D:n<=1000000):Zo (w.alloc (.cells (madeCells #[ZM 0] n) E)) B E w.heap.size n (Qi n fun _=>0):=by
 have h:=World.ownsRow_lit (base:=B) (e:=E) (size:=1) w (madeCells #[ZM 0] n) n hB (by unfold zm;omega) (by have:=congrArg cn (zj (ZM 0) n);simpa using this);rw[zj]at h;have e:(Qi n fun _=>0).map ZM=List.replicate n (ZM 0):=by
  simp[Qi,List.map_const']
 unfold Zo;rw[e];exact h
theorem Zo.cell (h:Zo w B E g n l)(j:Nat)(D:j<n)(H:l.length=n):w.cell? ⟨g,j,N⟩=aa (.int .u8 ((Gf.nth l j:Nat):Int)):=by
 rw[cs (w:=w) h j (by omega),aJ,ah (by omega),Gf.aK l j (by omega)];rfl
theorem Zo.free (h:Zo w B E g n l)(j:Nat):w.frozen? ⟨g,j,N⟩=false:=cc (w:=w) h j
theorem Zo.set {f:Nat->Nat}(h:Zo w B E g n (Qi n f))(j v:Nat):Zo (w.setCell ⟨g,j,N⟩ (.int .u8 (v:Int))) B E g n (Qi n (fun i=>if i=j then v else f i)):=by
 have:=(cr (w:=w) h j (ZM v)).1;rw[<-List.map_set,Jp6]at this;exact this
theorem Zo.drewN (h:Zo w B E g n l)(m:Nat):Zo (w.drewN m) B E g n l:=cI h (JO w m N) (ap (by simp[Value.ownBlock]))
theorem Zo.lt (h:Zo w B E g n l):B<=g/\g<w.heap.size:=de h g rfl
def jM (A B:List (List Nat))(i j:Nat):Nat->Nat
 |0=>0
 |k+1=>jM A B i j k^^^Gf.mul (Gf.nth (Qh A i) k) (Gf.nth (Qh B k) j)
def xW (A B:List (List Nat))(m:Nat):List (List Nat):=(br m).map fun i=>Qi (Qh B 0).length fun j=>jM A B i j B.length
def QR (M:List (List Nat)):Prop:=∀i,Gf.Bytes (Qh M i)
theorem o8 (A B:List (List Nat))(D:QR A)(i j:Nat):∀k,jM A B i j k<256
 |0=>by show 0<256;decide
 |k+1=>Gf.iK (o8 A B D i j k) (Gf.aV (D i k) _)
theorem QJ.row (h:QJ w p M)(H:i<M.length)(I:0<(Qh M i).length):
 ∃b o B D c,p=aa ⟨b,o,N⟩/\b<w.heap.size/\B<w.heap.size/\w.cell? ⟨b,o+i,N⟩=aa (.slice (aa ⟨B,D,N⟩) (Qh M i).length c)/\∀j,j<(Qh M i).length->w.cell? ⟨B,D+j,N⟩=aa (.int .u8 ((Gf.nth (Qh M i) j:Nat):Int)):=by
 rcases h with h|⟨b,o,J,K,O⟩
 ·rw[h]at H;exact absurd H (bf _)
 ·obtain⟨q,c,U,Z,_⟩:=O i H;rcases Z.cells with h3|⟨B,D,hq,a0,a2⟩
  ·rw[h3]at I;exact absurd I (Nat.lt_irrefl _)
  ·subst hq;exact⟨b,o,B,D,c,J,K,a0,U,a2⟩
theorem oC (a b:Nat)(w:World)(B:a<256)(D:b<256):
 aD prog 181 #[.int .u8 (a:Int),.int .u8 (b:Int)] w fun e w'=>e=.returned (.int .u8 ((a^^^b:Nat):Int))/\w'=w:=by
 go_enter func181,ntmps181;go_wp2;go_ret;exact⟨l4 (u8_xor_nat a b B D),rfl⟩
theorem CP (a:Nat)(w:World)(B:a<256):
 aD prog 204 #[.int .u8 (a:Int)] w fun e w'=>e=.returned (.int .u8 ((Gf.tx a:Nat):Int))/\w'=w:=by
 by_cases h:a<128
 ·go_enter func204,ntmps204;go_wp2;go_ret;exact⟨l4 (by simp[Gf.tx,h]),rfl⟩
 ·go_enter func204,ntmps204;go_wp2_with fail
  have e:((a:Int)*2%256)=((a*2-256:Nat):Int):=by omega
  rw[e];refine(oC (a*2-256) 29 _ (by omega) (by decide)).mono ?_;rintro e w' ⟨rfl,rfl⟩;go_wp2;go_ret;exact⟨l4 (by simp[Gf.tx,h]),rfl⟩
theorem mI (a b:Nat)(w:World)(K:a<256)(U:b<256):
 aD prog 182 #[.int .u8 (a:Int),.int .u8 (b:Int)] w fun e w'=>e=.returned (.int .u8 ((Gf.mul a b:Nat):Int))/\w'=w:=by
 go_enter func182,ntmps182;go_wp2
 go_loop [0,5,7] (fun x p i=>∃k:Nat,k<=8/\i=.int .i64 k/\x=.int .u8 (Gf.dP a k:Nat)/\p=.int .u8 (Gf.part a b k:Nat)) (fun _ _ i=>8-(intOf i).toNat)
 case atStart=>exact⟨0,by omega,rfl,rfl,rfl⟩
 case round =>
  obtain⟨k,Z,rfl,rfl,rfl⟩:=hrel;have D:=Gf.cY K k;have I:=Gf.eF K b k;have J:=Jq5 b k U;by_cases a0:k<8
  ·by_cases B:Gf.bT b k=1
   ·have H:Hid (Gf.part a b (k+1)=Gf.part a b k^^^Gf.dP a k):=by show _=_;simp[Gf.part,B]
    rw[decide_eq_true B]at J;clear B;go_wp2_with (first|(go_at_call 181;refine(oC _ _ _ I D).mono ?_;rintro e w' ⟨rfl,rfl⟩)|(go_at_call 204;refine(CP _ _ D).mono ?_;rintro e w' ⟨rfl,rfl⟩))
    go_round
    case rel=>exact⟨k+1,by omega,by go_num,rfl,by rw[H.out]⟩
    case measure=>simp[intOf];omega
   ·have H:Hid (Gf.part a b (k+1)=Gf.part a b k):=by show _=_;simp[Gf.part,B]
    rw[decide_eq_false B]at J;clear B;go_wp2_with (first|(go_at_call 181;refine(oC _ _ _ I D).mono ?_;rintro e w' ⟨rfl,rfl⟩)|(go_at_call 204;refine(CP _ _ D).mono ?_;rintro e w' ⟨rfl,rfl⟩))
    go_round
    case rel=>exact⟨k+1,by omega,by go_num,rfl,by rw[H.out]⟩
    case measure=>simp[intOf];omega
  ·go_wp2;go_ret;have O:k=8:=by omega
   subst O;exact⟨rfl,rfl⟩
theorem vW (a n:Nat)(w:World)(O:a<256)(U:n<256):
 aD prog 220 #[.int .u8 (a:Int),.int .i64 (n:Int)] w fun e w'=>e=.returned (.int .u8 ((Gf.fM a n:Nat):Int))/\w'=w:=by
 go_enter func220,ntmps220;go_wp2
 go_loop [0,5,7] (fun x p i=>∃k:Nat,k<=8/\i=.int .i64 k/\x=.int .u8 (Gf.sq a k:Nat)/\p=.int .u8 (Gf.pw a n k:Nat)) (fun _ _ i=>8-(intOf i).toNat)
 case atStart=>exact⟨0,by omega,rfl,rfl,rfl⟩
 case round =>
  obtain⟨k,Z,rfl,rfl,rfl⟩:=hrel;have D:=Gf.qI O k;have J:=Gf.lL (a:=a) n k;have I:=Jnr n k U;by_cases a0:k<8
  ·by_cases B:Gf.bT n k=1
   ·have H:Hid (Gf.pw a n (k+1)=Gf.mul (Gf.pw a n k) (Gf.sq a k)):=by show _=_;simp[Gf.pw,B]
    rw[decide_eq_true B]at I;clear B;go_wp2_with fail
    refine(mI _ _ _ J D).mono ?_;rintro e w' ⟨rfl,rfl⟩;go_wp2_with fail
    refine(mI _ _ _ D D).mono ?_;rintro e w' ⟨rfl,rfl⟩;go_wp2
    go_round
    case rel=>exact⟨k+1,by omega,by go_num,rfl,by rw[H.out]⟩
    case measure=>simp[intOf];omega
   ·have H:Hid (Gf.pw a n (k+1)=Gf.pw a n k):=by show _=_;simp[Gf.pw,B]
    rw[decide_eq_false B]at I;clear B;go_wp2_with fail
    refine(mI _ _ _ D D).mono ?_;rintro e w' ⟨rfl,rfl⟩;go_wp2
    go_round
    case rel=>exact⟨k+1,by omega,by go_num,rfl,by rw[H.out]⟩
    case measure=>simp[intOf];omega
  ·go_wp2;go_ret;have K:k=8:=by omega
   subst K;exact⟨rfl,rfl⟩
theorem JmA (a:Nat)(w:World)(B:a<256):
 aD prog 222 #[.int .u8 (a:Int)] w fun e w'=>e=.returned (.int .u8 ((Gf.inv a:Nat):Int))/\w'=w:=by
 go_enter func222,ntmps222;go_wp2_with fail
 refine(vW a 254 _ B (by decide)).mono ?_;rintro e w' ⟨rfl,rfl⟩;go_wp2;go_ret;exact⟨rfl,rfl⟩
theorem W9 (r:Nat)(D:Nat->aA)(j:Nat)(v:aA):((br r).map D).set j v=(br r).map (fun i=>if i=j then v else D i):=by
 apply List.ext_getElem?;intro i;rw[List.getElem?_set,aJ,aJ];by_cases B:i<r
 ·rw[List.getElem?_range B];by_cases e:j=i
  ·subst e;simp[B]
  ·have H:¬i=j:=fun h=>e h.symm
   simp[e,H]
 ·rw[List.getElem?_eq_none (by simpa using B)];by_cases e:j=i
  ·subst e;simp[B]
  ·simp[e]
theorem AX (n:Int)(w:World):
 aD prog 221 #[.int .i64 n] w fun e w'=>e=.returned (.int .i64 ((red n:Nat):Int))/\w'=w:=by
 have D:Hid (((red n:Nat):Int)=n%255):=M4 n;by_cases H:0<=n
 ·go_enter func221,ntmps221;go_wp2;go_ret;exact⟨l4 D.out.symm,rfl⟩
 ·have B:Hid (n.tmod 255=-((-n)%255)):=by show _=_;rw[Jq7,Int.tmod_eq_emod_of_nonneg (by omega)]
  have I:-255<n.tmod 255:=by rw[B.out];omega
  have J:n.tmod 255<=0:=by rw[B.out];omega
  go_enter func221,ntmps221;go_wp2
  ·go_ret;exact⟨l4 (by have:=B.out;have:=D.out;omega),rfl⟩
  ·go_ret;exact⟨l4 (by have:=B.out;have:=D.out;omega),rfl⟩
theorem LQ (n:Int)(w:World)(B:0<n):
 aD prog 211 #[.int .u8 0,.int .i64 n] w fun e w'=>e=.returned (.tuple #[.int .u8 0,.nilIface])/\w'=w:=by
 go_enter func211,ntmps211;go_wp2
 go_ret2
 exact⟨rfl,rfl⟩
theorem Jtk (a:Nat)(n:Int)(w:World)(D:a<256)(h:a=0->n=0):
 aD prog 211 #[.int .u8 (a:Int),.int .i64 n] w fun e w'=>e=.returned (.tuple #[.int .u8 (Gf.fM a (red n):Nat),.nilIface])/\w'=w:=by
 have H:=UP n;by_cases B:a=0
 ·obtain rfl:=h B;subst B;clear h;go_enter func211,ntmps211;go_wp2_with (first|(go_at_call 221;refine(AX 0 _).mono ?_;rintro e w' ⟨rfl,rfl⟩)|(go_at_call 220;refine(vW 0 (red 0) _ (by decide) (by omega)).mono ?_;rintro e w' ⟨rfl,rfl⟩))
  go_ret2
  exact⟨rfl,rfl⟩
 ·have I:((a:Int)==0)=false:=by simpa using B
  clear h B;go_enter func211,ntmps211;go_wp2_with (first|(go_at_call 221;refine(AX n _).mono ?_;rintro e w' ⟨rfl,rfl⟩)|(go_at_call 220;refine(vW a (red n) _ D (by omega)).mono ?_;rintro e w' ⟨rfl,rfl⟩))
  go_ret2
  exact⟨rfl,rfl⟩
section
open Go.Extern.Stop Go.Stop Go.Extern
theorem Qf {b o:Nat}{v:aA}(h:w.cell? ⟨b,o,N⟩=aa v):b<w.heap.size:=by
 rcases bt b w.heap.size with B|B
 ·exact B
 ·simp[World.cell?,Array.getElem?_eq_none B]at h
end
theorem NL (z:bD)(w:World)(B:w.cell? ⟨9,0,N⟩=aa (.iface 287 (.pointer (aa z)))):
 aD prog 215 #[.int .u8 0] w fun e w'=>e=.returned (.tuple #[.int .u8 0,.iface 287 (.pointer (aa z))])/\Below w.heap.size w w':=by
 go_enter func215,ntmps215;go_wp2;go_quiet (fail)
 go_wp2
 go_ret2
 exact⟨rfl,below_drewN bR _⟩
theorem TG (a:Nat)(w:World)(D:a<256)(B:a≠0):
 aD prog 215 #[.int .u8 (a:Int)] w fun e w'=>e=.returned (.tuple #[.int .u8 (Gf.inv a:Nat),.nilIface])/\w'=w:=by
 have H:((a:Int)==0)=false:=by simpa using B
 clear B;go_enter func215,ntmps215;go_wp2_with (go_at_call 222;refine(JmA a _ D).mono ?_;rintro e w' ⟨rfl,rfl⟩)
 go_ret2
 exact⟨rfl,rfl⟩
theorem WU {q:Option bD}(h:jU w q l)(c:Nat):(convert 116 9 (.slice q l.length c)).run prog w=.ok (.string (Jp l)) w:=by
 rcases h.cells with B|⟨b,o,rfl,I,H⟩
 ·subst B;cases q with
  |none=>exact run_convert_bytes_nil w 116 5 underlying116 underlying5 0 c 9 underlying9
  |some ad =>
   have B:(loadCells ad 0).run prog w=.ok (([]:List Int).map (Value.int .u8)).toArray w:=by simp[loadCells,loadCellsFrom]
   rw[List.length_nil,run_convert_bytes_string w 116 9 5 _ 0 c underlying116 underlying5 underlying9,run_bytesToString w ad 0 c [] B];rfl
 ·refine run_convert_bytes_arg w 116 5 underlying116 underlying5 b o l.length c (l.map Int.ofNat) (by simp) (fun i D=>?_) 9 underlying9;rw[H i D,Gf.aK l i D,af,aJ,ah D];rfl
theorem xC (n k:Int)(w:World):aD prog 53 #[.int .i64 n,.int .i64 k] w fun e w'=>e=.returned (.bool (decide (1<=k/\k<=n/\n<=12)))/\w'=w:=by
 by_cases D:1<=k
 ·by_cases H:k<=n
  ·by_cases I:n<=12
   ·have B:Hid (decide (1<=k/\k<=n/\n<=12)=aE):=decide_eq_true ⟨D,H,I⟩;rw[B.out];go_enter func53,ntmps53;go_wp2;go_ret;exact⟨rfl,rfl⟩
   ·have B:Hid (decide (1<=k/\k<=n/\n<=12)=F):=decide_eq_false fun h=>I h.2.2
    rw[B.out];go_enter func53,ntmps53;go_wp2;go_ret;exact⟨rfl,rfl⟩
  ·have B:Hid (decide (1<=k/\k<=n/\n<=12)=F):=decide_eq_false fun h=>H h.2.1
   rw[B.out];go_enter func53,ntmps53;go_wp2;go_ret;exact⟨rfl,rfl⟩
 ·have B:Hid (decide (1<=k/\k<=n/\n<=12)=F):=decide_eq_false fun h=>D h.1
  rw[B.out];go_enter func53,ntmps53;go_wp2;go_ret;exact⟨rfl,rfl⟩
section
open Go.Sort
def gE (a b:Int):Int:=if a<b then -1 else if b<a then 1 else 0
theorem FL (a:Int)(w:World):aD prog 127 #[.int .i64 a] w fun e w'=>e=.returned (.bool F)/\w'=w:=by
 go_enter func127,ntmps127;go_wp2;go_ret;exact⟨rfl,rfl⟩
theorem BS (a b:Int)(w:World):aD prog 100 #[.int .i64 a,.int .i64 b] w fun e w'=>e=.returned (.int .i64 (gE a b))/\w'=w:=by
 have I:=fun W=>FL a W
 have J:=fun W=>FL b W
 rcases Int.lt_trichotomy a b with h|h|h
 ·have H:Hid (gE a b=-1):=if_pos h;rw[H.out];go_enter func100,ntmps100;go_wp2_with fail
  refine(I _).mono ?_;rintro e D ⟨rfl,B⟩;rw[B];clear B D;go_wp2_with fail
  refine(J _).mono ?_;rintro e D ⟨rfl,B⟩;rw[B];clear B D;go_wp2;go_ret;exact⟨rfl,rfl⟩
 ·subst h;have H:Hid (gE a a=0):=by show _=_;unfold gE;rw[if_neg (Int.lt_irrefl _),if_neg (Int.lt_irrefl _)]
  rw[H.out];go_enter func100,ntmps100;go_wp2_with fail
  refine(I _).mono ?_;rintro e D ⟨rfl,B⟩;rw[B];clear B D;go_wp2_with fail
  refine(J _).mono ?_;rintro e D ⟨rfl,B⟩;rw[B];clear B D;go_wp2;go_ret;exact⟨rfl,rfl⟩
 ·have H:Hid (gE a b=1):=by show _=_;unfold gE;rw[if_neg (by omega),if_pos h]
  have K:decide (a<b)=false:=decide_eq_false (by omega);rw[H.out];go_enter func100,ntmps100;go_wp2_with fail
  refine(I _).mono ?_;rintro e D ⟨rfl,B⟩;rw[B];clear B D;go_wp2_with fail
  refine(J _).mono ?_;rintro e D ⟨rfl,B⟩;rw[B];clear B D;go_wp2;go_ret;exact⟨rfl,rfl⟩
def lW (a b:Int):Int:=if a≠0 then a else b
theorem K4 (g o:Nat)(a b:Int)(w:World)(h0:w.cell? ⟨g,o,N⟩=aa (.int .i64 a))(h1:w.cell? ⟨g,o+1,N⟩=aa (.int .i64 b)):
 aD prog 97 #[.slice (aa ⟨g,o,N⟩) 2 2] w fun e w'=>e=.returned (.int .i64 (lW a b))/\w'=w:=by
 obtain⟨f,D⟩:∃f:Nat->Int,f=fun i=>if i=0 then a else b:=⟨_,rfl⟩
 have HC:Hid (∀i,i<2->w.cell? ⟨g,o+i,N⟩=aa (.int .i64 (f i))):=fun i I=>by
  rw[D]
  match i,I with
  |0,_=>exact h0
  |1,_=>exact h1
 obtain⟨r,J⟩:=Xb (lW a b);have HR:Hid (∀i,i<2->(∀j,j<i->f j=0)->f i≠0->r=f i):=fun i I B a0=>by
  rw[J,D];unfold lW
  match i,I with
  |0,_=>rw[D]at a0;have a4:a≠0:=a0;rw[if_pos a4];rfl
  |1,_ =>
   have:=B 0 (by omega);rw[D]at this;have O:a=0:=this;rw[if_neg (by rw[O];decide)];rfl
 have HZ:Hid ((∀j,j<2->f j=0)->r=0):=fun B=>by
  have t0:=B 0 (by omega);have t1:=B 1 (by omega);rw[D]at t0 t1;have O:a=0:=t0;have hb:b=0:=t1;rw[J,O,hb];decide
 rw[<-J];clear D J h0 h1;go_enter func97,ntmps97;go_wp2
 go_loop [8] (fun x=>∃i:Nat,i<=2/\x=.int .i64 i/\∀j,j<i->f j=0) (fun x=>2-(intOf x).toNat)
 case atStart=>exact⟨0,by omega,rfl,fun j U=>absurd U (bf _)⟩
 case round =>
  obtain⟨i,I,rfl,B⟩:=hrel;have K:Hid _:=B;clear B;by_cases a2:i<2
  ·have q1:=HC.out i a2;have Z:Hid _:=HR.out i a2 K.out;have HN:Hid (f i=0->∀j,j<i+1->f j=0):=fun h j U=>by
    rcases bt j i with h'|h'
    ·exact K.out j h'
    ·obtain rfl:j=i:=by omega
     exact h
   clear K HR HC HZ;generalize f i=y at *;by_cases H:y=0
   ·have a3:=HN.out H;subst H;have a5:Hid _:=a3;clear a3 HN Z;go_wp2
    go_round
    case rel=>exact⟨i+1,by omega,by go_num,a5.out⟩
    case measure=>simp[intOf];omega
   ·have HE:Hid (r=y):=Z.out H;have d1:(y==0)=false:=by rw[beq_eq_false_iff_ne];exact H
    have d2:(y !=0)=true:=by rw[bne_iff_ne];exact H
    clear Z HN;go_wp2;go_ret;exact⟨by rw[HE.out];rfl,rfl⟩
  ·have HE:Hid (r=0):=HZ.out (fun j U=>K.out j (by omega));go_wp2;go_ret;exact⟨by rw[HE.out];rfl,rfl⟩
def JZ (a b:Int×Int):Int:=lW (gE a.1 b.1) (gE a.2 b.2)
theorem CG :decide (JZ a b<0)=Qd a b:=by
 unfold JZ lW gE Qd;by_cases D:a.1<b.1
 ·simp[D]
 ·by_cases I:b.1<a.1
  ·have B:¬a.1=b.1:=by omega
   simp[D,I,B]
  ·have B:a.1=b.1:=by omega
   simp only[B];by_cases H:a.2<b.2
   ·simp[H]
   ·by_cases J:b.2<a.2<;>simp[H,J]
theorem LX :JZ a b=0↔a=b:=by
 obtain⟨a1,H⟩:=a;obtain⟨B,I⟩:=b;unfold JZ lW gE;simp only[Prod.mk.injEq];by_cases J:a1<B
 ·simp[J];omega
 ·by_cases O:B<a1
  ·simp[J,O];omega
  ·have U:a1=B:=by omega
   subst U;by_cases D:H<I
   ·simp[D];omega
   ·by_cases K:I<H
    ·simp[D,K];omega
    ·simp[D,K];omega
theorem EC (a b:Int×Int)(W:World):aD prog 139 #[.agg #[.int .i64 a.1,.int .i64 a.2],.agg #[.int .i64 b.1,.int .i64 b.2]] W fun e w'=>e=.returned (.int .i64 (JZ a b))/\∃n os,w'=grow (W.drewN n) os:=by
 obtain⟨a1,D⟩:=a;obtain⟨H,I⟩:=b;obtain⟨B,J⟩:=Xb ((W.alloc (.cells #[.int .i64 a1,.int .i64 D] 39)).alloc (.cells #[.int .i64 H,.int .i64 I] 39));have U:Hid (∃os,B=grow W os):=⟨_,by rw[J,alloc_eq_grow,alloc_eq_grow,grow_grow]⟩;have Z:B.cell? ⟨W.heap.size,0,N⟩=aa (.int .i64 a1):=by rw[J];simp
 have q2:B.cell? ⟨W.heap.size,1,N⟩=aa (.int .i64 D):=by rw[J];simp
 have q4:B.cell? ⟨W.heap.size+1,0,N⟩=aa (.int .i64 H):=by rw[J];simp
 have q5:B.cell? ⟨W.heap.size+1,1,N⟩=aa (.int .i64 I):=by rw[J];simp
 have K:Hid _:=J;clear J;show aD prog 139 #[.agg #[.int .i64 a1,.int .i64 D],.agg #[.int .i64 H,.int .i64 I]] W fun e w'=>e=.returned (.int .i64 (lW (gE a1 H) (gE D I)))/\∃n os,w'=grow (W.drewN n) os
 have c1:=fun W=>BS a1 H W
 have c2:=fun W=>BS D I W
 have c4:=fun g W h0 h1=>K4 g 0 (gE a1 H) (gE D I) W h0 h1
 generalize gE a1 H=r1 at *;generalize gE D I=r2 at *;generalize lW r1 r2=r at *;have C1:Hid _:=c1;have C2:Hid _:=c2;have C4:Hid _:=c4;clear c1 c2 c4;go_enter func139,ntmps139;go_wp2;rw[<-K.out];clear K;refine wp_region_still_tail 10 (by kernel_rfl) (by kernel_rfl) ?_;simp only[List.take_succ_cons,List.take_zero,List.drop_succ_cons,List.drop_zero]
 still_step
 still_step
 still_step
 still_step
 still_call (C1.out _)
 still_step
 still_step
 still_step
 still_step
 still_call (C2.out _)
 refine wpStill_nil ?_;change zE _ _ _ _ _ (B.drewN 1);have O:Hid (∃os,B.drewN 1=grow (W.drewN 1) os):=by
  obtain⟨os,h⟩:=U.out;exact⟨os,by rw[h];rfl⟩
 generalize B.drewN 1=W3 at O ⊢;clear Z q2 q4 q5;go_wp2_with (go_at_call 97;refine(C4.out _ _ (by simp) (by simp)).mono ?_;rintro e w' ⟨rfl,rfl⟩)
 go_ret;obtain⟨os,h⟩:=O.out;exact⟨rfl,1,_,by rw[h,alloc_eq_grow,grow_grow]⟩
theorem C7 (w:World)(os:Array Obj)(n:Nat):(grow w os).drewN n=grow (w.drewN n) os:=rfl
end
section
open Go.Sort
theorem PG (a b:Int×Int)(w:World):aD prog 120 #[.agg #[.int .i64 a.1,.int .i64 a.2],.agg #[.int .i64 b.1,.int .i64 b.2]] w fun e w'=>e=.returned (.bool (Qd a b))/\∃q os,w'=grow (w.drewN q) os:=by
 have H:Hid (∀W,aD prog 139 #[.agg #[.int .i64 a.1,.int .i64 a.2],.agg #[.int .i64 b.1,.int .i64 b.2]] W fun e w'=>e=.returned (.int .i64 (JZ a b))/\∃n os,w'=grow (W.drewN n) os):=fun W=>EC a b W
 have I:Hid (decide (JZ a b<0)=Qd a b):=CG;generalize JZ a b=c at *;generalize Qd a b=r at *;obtain⟨a1,J⟩:=a;obtain⟨K,O⟩:=b;have B:Hid (∃os,(w.alloc (.cells #[.int .i64 a1,.int .i64 J] 39)).alloc (.cells #[.int .i64 K,.int .i64 O] 39)=grow w os):=⟨_,by rw[alloc_eq_grow,alloc_eq_grow,grow_grow]⟩;go_enter func120,ntmps120;go_wp2_with fail
 refine(H.out _).mono ?_;rintro e U ⟨rfl,n,os,D⟩;have Z:Hid (∃q os,U=grow (w.drewN q) os):=by
  obtain⟨a0,h0⟩:=B.out;exact⟨n,a0++os,by rw[D,h0,C7,grow_grow]⟩
 clear D B;go_wp2;go_ret;exact⟨by rw[<-I.out];rfl,Z.out⟩
end
end Go.Proofs.YtgapmoniajcliaaGreatDoor

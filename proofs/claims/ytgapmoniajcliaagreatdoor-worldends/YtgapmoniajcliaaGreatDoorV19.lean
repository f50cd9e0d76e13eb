/- Texts laid together. -/
import Derived.Test.YtgapmoniajcliaaGreatDoorV18
set_option maxRecDepth 10000
set_option maxHeartbeats 8000000
open Option renaming some->S,none->N
open Nat renaming lt_or_ge->aa,mod_eq_of_lt->af,zero_le->an,lt_irrefl->aq,lt_of_lt_of_le->ar,le_refl->av,not_lt_zero->aw,mod_eq_sub_mod->aA,le_trans->aC,zero_add->aS,lt_trichotomy->zf,mod_lt->ba
open Go.Op renaming bytesLess->ab
open Go.RowKit renaming Below->ac
open Or renaming inl->ae,inr->ai
open List renaming getElem?_eq_getElem->ag,length_append->aj,getElem?_eq_some_iff->ak,length_drop->am,mem_singleton->ao,length_take->au,mem_append_right->aF,mem_append_left->aI,take_succ_cons->aO,drop_succ_cons->aP,mem_append->zj,take_zero->bb,mem_range->bc,drop_zero->bf,mem_map->bu
open Go renaming Calls->ah,Addr->ax,madeCells->az,wp_region_still_tail->aJ,below_drewN->zc,Value->aM,info_parts->bg,grownCap->bh,maxLen->bv,wpList->zp
open Classical renaming byContradiction->al
open Go.Builtin renaming zeroCells->ap
open Array renaming length_toList->ay,getElem?_eq_none->aD,extract_size->aR
open Bool renaming eq_false_iff->aB,and_eq_true->zh,true->zi,or_eq_true->a1,false->bo
namespace Go.Proofs.YtgapmoniajcliaaGreatDoor
open Go.Proofs.Tryz
open Go.RowKit
variable {x y:BA}{a b h n j M f g:Nat}{p q r:Nat×BA}{nodes B D l:List BA}{R:Nat->Nat×BA}{w w':World}{v:aM}
namespace Ring
def bl (x y:BA):Prop:=ab x.toList y.toList=zi
theorem qM:∀l:List UInt8,ab l l=bo
 | []=>rfl
 |a::l=>by simp[ab,qM l]
theorem GS:∀{l m n:List UInt8},ab l m=zi->ab m n=zi->ab l n=zi
 |_,[],_,h,_=>by simp[ab]at h
 |_,_::_,[],_,h=>by simp[ab]at h
 | [],_::_,_::_,_,_=>rfl
 |a::l,b::m,c::n,D,B=>by
  simp only[ab,a1,decide_eq_true_eq,zh,beq_iff_eq]at D B ⊢;rcases D with D|⟨I,D⟩
  ·rcases B with B|⟨H,B⟩
   ·exact ae (UInt8.lt_trans D B)
   ·exact ae (H▸D)
  ·rcases B with B|⟨H,B⟩
   ·exact ae (I▸B)
   ·exact ai ⟨I.trans H,GS D B⟩
theorem xJ:∀{l m:List UInt8},l≠m->ab l m=zi∨ab m l=zi
 | [],[],h=>absurd rfl h
 | [],_::_,_=>ae rfl
 |_::_,[],_=>ai rfl
 |a::l,b::m,h=>by
  simp only[ab,a1,decide_eq_true_eq,zh,beq_iff_eq];by_cases e:a=b
  ·subst e;rcases xJ (l:=l) (m:=m) (fun D=>h (by rw[D]))with H|H
   ·exact ae (ai ⟨rfl,H⟩)
   ·exact ai (ai ⟨rfl,H⟩)
  ·rcases(show a<b ∨ b<a by
    rcases aa a.toNat b.toNat with B|B
    ·exact ae (UInt8.lt_iff_toNat_lt.2 B)
    ·exact ai (UInt8.lt_iff_toNat_lt.2 (Nat.lt_of_le_of_ne B (fun D=>e (UInt8.toNat_inj.1 D.symm)))))with B|B
   ·exact ae (ae B)
   ·exact ai (ae B)
theorem xD (x:BA):¬bl x x:=by
 unfold bl;rw[qM];decide
theorem N7 {z:BA}(B:bl x y)(D:bl y z):bl x z:=GS B D
theorem MT {a b:BA}(h:a.toList=b.toList):a=b:=by
 rw[ByteArray.toList_eq,ByteArray.toList_eq]at h;exact ByteArray.ext (Array.toList_inj.1 h)
theorem FE (h:x≠y):bl x y∨bl y x:=xJ (fun e=>h (MT e))
def eV (p q:Nat×BA):Prop:=p.1<q.1∨p.1=q.1/\bl p.2 q.2
theorem vM (p:Nat×BA):¬eV p p:=fun h=>by
 rcases h with h|⟨_,h⟩
 ·exact aq _ h
 ·exact xD _ h
theorem FA (D:eV p q)(B:eV q r):eV p r:=by
 rcases D with D|⟨I,D⟩
 ·rcases B with B|⟨H,_⟩
  ·exact ae (Nat.lt_trans D B)
  ·exact ae (by omega)
 ·rcases B with B|⟨H,B⟩
  ·exact ae (by omega)
  ·exact ai ⟨I.trans H,N7 D B⟩
theorem wZ (h:p≠q):eV p q∨eV q p:=by
 obtain⟨a,x⟩:=p;obtain⟨b,y⟩:=q;rcases aa a b with D|D
 ·exact ae (ae D)
 ·rcases aa b a with H|H
  ·exact ai (ae H)
  ·have e:a=b:=by omega
   subst e;rcases FE (x:=x) (y:=y) (fun e=>h (by rw[e]))with B|B
   ·exact ae (ai ⟨rfl,B⟩)
   ·exact ai (ai ⟨rfl,B⟩)
theorem LM (H:¬eV q p)(D:eV q r):eV p r:=by
 by_cases e:p=q
 ·rw[e];exact D
 ·rcases wZ e with B|B
  ·exact FA B D
  ·exact absurd B H
def rW (f:Nat->Nat):Nat->Nat
 |0=>f 0
 |n+1=>min (rW f n) (f (n+1))
theorem E5 (f:Nat->Nat):∀n k,k<=n->rW f n<=f k
 |0,k,h=>by
  obtain rfl:k=0:=by omega
  exact av _
 |n+1,k,h=>by
  by_cases e:k=n+1
  ·rw[e];exact Nat.min_le_right _ _
  ·exact aC (Nat.min_le_left _ _) (E5 f n k (by omega))
theorem Ja6 (f:Nat->Nat):∀n,∃k,k<=n/\f k=rW f n
 |0=>⟨0,av _,rfl⟩
 |n+1=>by
  obtain⟨k,B,e⟩:=Ja6 f n;rcases Nat.le_total (rW f n) (f (n+1))with h|h
  ·exact⟨k,by omega,by rw[e];exact(Nat.min_eq_left h).symm⟩
  ·exact⟨n+1,av _,(Nat.min_eq_right h).symm⟩
def UJ (x:BA)(k:Nat):BA:=x++⟨#[35]⟩++Jp [48+k]
def Xy (s:BA):Nat:=lV s s.size
theorem VX (s:BA):Xy s<4294967296:=B2 s _
def kG (x:BA)(k:Nat):Nat:=Xy (UJ x k)
def rP (h a:Nat):Nat:=if a<h then a+4294967296 else a
def sL (h:Nat)(x:BA)(k:Nat):Nat:=rP h (kG x k)
def iV (h:Nat)(x:BA):Nat:=rW (sL h x) 7
theorem U0 (h:Nat)(x:BA)(k:Nat)(B:k<8):iV h x<=sL h x k:=E5 _ 7 k (by omega)
theorem TA (h:Nat)(x:BA):∃k,k<8/\sL h x k=iV h x:=by
 obtain⟨k,B,e⟩:=Ja6 (sL h x) 7;exact⟨k,by omega,e⟩
def tN (h:Nat)(x y:BA):Prop:=eV (iV h x,x) (iV h y,y)
theorem JnW (h:Nat)(x:BA):¬tN h x x:=vM _
structure XC (h:Nat) (nodes out:List BA):Prop where
 mem:∀x∈out,x∈nodes
 ord:out.Pairwise (tN h)
 rest:∀x∈nodes,x∉out->∀y∈out,tN h y x
theorem XC.nil (h:Nat)(nodes:List BA):XC h nodes []:=⟨fun _ B=>(by cases B),List.Pairwise.nil,fun _ _ _ _ D=>(by cases D)⟩
theorem XC.nodup (H:XC h nodes B):B.Nodup:=by
 refine H.ord.imp ?_;intro a b D e;subst e;exact JnW h a D
theorem XC.push (H:XC h nodes D)(U:x∈nodes)(hn:x∉D)(a0:∀z∈nodes,z∉D->z≠x->tN h x z):XC h nodes (D++ [x]):=by
 refine⟨fun y I=>?_,?_,fun z J K y I=>?_⟩
 ·rcases zj.1 I with B|B
  ·exact H.mem y B
  ·rw[ao.1 B];exact U
 ·refine List.pairwise_append.2 ⟨H.ord,List.pairwise_singleton _ _,fun a Z b hb=>?_⟩;rw[ao.1 hb];exact H.rest x U hn a Z
 ·have O:z∉D:=fun B=>K (aI _ B)
  rcases zj.1 I with B|B
  ·exact H.rest z J O y B
  ·rw[ao.1 B];exact a0 z J O (fun e=>K (by rw[e];exact aF _ (ao.2 rfl)))
theorem XC.next (Z:XC h nodes D)(hx:x∈nodes)(hn:x∉D)(ha:iV h x<=a)(a0:∀z∈nodes,z∉D->¬eV (iV h z,z) (a,x)):XC h nodes (D++ [x]):=by
 refine Z.push hx hn fun z I J K=>?_
 have O:¬eV (a,x) (iV h x,x):=fun B=>by
  rcases B with B|⟨_,B⟩
  ·have:a<iV h x:=B;omega
  ·exact xD _ B
 have U:(a,x)≠(iV h z,z):=fun e=>K (by have:=congrArg Prod.snd e;exact this.symm)
 rcases wZ U with H|H
 ·exact LM O H
 ·exact absurd H (a0 z I J)
theorem KO:∀{l m:List BA},l.Nodup->l ⊆ m->l.length<=m.length
 | [],_,_,_=>an _
 |x::l,m,hn,hs=>by
  obtain⟨D,H⟩:=List.nodup_cons.1 hn;have I:x∈m:=hs List.mem_cons_self;have J:l ⊆ m.filter fun z=>decide (z≠x):=fun y B=>List.mem_filter.2 ⟨hs (List.mem_cons_of_mem _ B),decide_eq_true (fun e=>D (by rw[<-e];exact B))⟩
  have K:=KO H J;have O:(m.filter fun z=>decide (z≠x)).length<m.length:=List.length_filter_lt_length_iff_exists.2 ⟨x,I,by simp⟩;simp only[List.length_cons];omega
theorem JrH (J:nodes.Nodup)(K:B.length<nodes.length):∃x∈nodes,x∉B:=al fun D=>by
 have H:nodes ⊆ B:=fun x I=>al fun h=>D ⟨x,I,h⟩
 have:=KO J H;omega
end Ring
section
open Ring
def JP (a b:Nat):Int:=if a<b then -1 else if b<a then 1 else 0
def gK (x y:BA):Int:=if ab x.toList y.toList then -1 else if ab y.toList x.toList then 1 else 0
theorem FV (a:Nat)(w:World):ah prog 125 #[.int .u32 (a:Int)] w fun e w'=>e=.returned (.bool bo)/\w'=w:=by
 go_enter func125,ntmps125;go_wp2;go_ret;exact⟨rfl,rfl⟩
theorem AL (a:Nat)(w:World):ah prog 127 #[.int .i64 (a:Int)] w fun e w'=>e=.returned (.bool bo)/\w'=w:=by
 go_enter func127,ntmps127;go_wp2;go_ret;exact⟨rfl,rfl⟩
theorem I6 (x:BA)(w:World):ah prog 126 #[.string x] w fun e w'=>e=.returned (.bool bo)/\w'=w:=by
 go_enter func126,ntmps126;go_wp2;go_ret;exact⟨rfl,rfl⟩
theorem U6 (a b:Nat)(w:World):ah prog 98 #[.int .u32 (a:Int),.int .u32 (b:Int)] w fun e w'=>e=.returned (.int .i64 (JP a b))/\w'=w:=by
 have I:=fun W=>FV a W
 have J:=fun W=>FV b W
 rcases zf a b with h|h|h
 ·have H:Hid (JP a b=-1):=if_pos h;rw[H.out];go_enter func98,ntmps98;go_wp2_with fail
  refine(I _).mono ?_;rintro e D ⟨rfl,B⟩;rw[B];clear B D;go_wp2_with fail
  refine(J _).mono ?_;rintro e D ⟨rfl,B⟩;rw[B];clear B D;go_wp2;go_ret;exact⟨rfl,rfl⟩
 ·subst h;have H:Hid (JP a a=0):=by show _=_;unfold JP;rw[if_neg (aq _),if_neg (aq _)]
  rw[H.out];go_enter func98,ntmps98;go_wp2_with fail
  refine(I _).mono ?_;rintro e D ⟨rfl,B⟩;rw[B];clear B D;go_wp2_with fail
  refine(J _).mono ?_;rintro e D ⟨rfl,B⟩;rw[B];clear B D;go_wp2;go_ret;exact⟨rfl,rfl⟩
 ·have H:Hid (JP a b=1):=by show _=_;unfold JP;rw[if_neg (by omega),if_pos h]
  have K:decide ((a:Int)<(b:Int))=false:=decide_eq_false (by omega);rw[H.out];go_enter func98,ntmps98;go_wp2_with fail
  refine(I _).mono ?_;rintro e D ⟨rfl,B⟩;rw[B];clear B D;go_wp2_with fail
  refine(J _).mono ?_;rintro e D ⟨rfl,B⟩;rw[B];clear B D;go_wp2;go_ret;exact⟨rfl,rfl⟩
theorem U3 (a b:Nat)(w:World):ah prog 100 #[.int .i64 (a:Int),.int .i64 (b:Int)] w fun e w'=>e=.returned (.int .i64 (JP a b))/\w'=w:=by
 have I:=fun W=>AL a W
 have J:=fun W=>AL b W
 rcases zf a b with h|h|h
 ·have H:Hid (JP a b=-1):=if_pos h;rw[H.out];go_enter func100,ntmps100;go_wp2_with fail
  refine(I _).mono ?_;rintro e D ⟨rfl,B⟩;rw[B];clear B D;go_wp2_with fail
  refine(J _).mono ?_;rintro e D ⟨rfl,B⟩;rw[B];clear B D;go_wp2;go_ret;exact⟨rfl,rfl⟩
 ·subst h;have H:Hid (JP a a=0):=by show _=_;unfold JP;rw[if_neg (aq _),if_neg (aq _)]
  rw[H.out];go_enter func100,ntmps100;go_wp2_with fail
  refine(I _).mono ?_;rintro e D ⟨rfl,B⟩;rw[B];clear B D;go_wp2_with fail
  refine(J _).mono ?_;rintro e D ⟨rfl,B⟩;rw[B];clear B D;go_wp2;go_ret;exact⟨rfl,rfl⟩
 ·have H:Hid (JP a b=1):=by show _=_;unfold JP;rw[if_neg (by omega),if_pos h]
  have K:decide ((a:Int)<(b:Int))=false:=decide_eq_false (by omega);rw[H.out];go_enter func100,ntmps100;go_wp2_with fail
  refine(I _).mono ?_;rintro e D ⟨rfl,B⟩;rw[B];clear B D;go_wp2_with fail
  refine(J _).mono ?_;rintro e D ⟨rfl,B⟩;rw[B];clear B D;go_wp2;go_ret;exact⟨rfl,rfl⟩
theorem JsT (x y:BA)(w:World):ah prog 99 #[.string x,.string y] w fun e w'=>e=.returned (.int .i64 (gK x y))/\w'=w:=by
 have K:=fun W=>I6 x W
 have O:=fun W=>I6 y W
 have HG:Hid (∀W,Sem.run prog (binOp .gtr 9 (.string x) (.string y)) W=.ok (.bool !(ab x.toList y.toList||x.toList==y.toList)) W):=fun W=>by simp[binOp,Op.stringOp]
 cases H:ab x.toList y.toList with
 |true =>
  have J:Hid (gK x y=-1):=by show _=_;unfold gK;rw[H];rfl
  rw[J.out];go_enter func99,ntmps99;go_wp2_with fail
  refine(K _).mono ?_;rintro e D ⟨rfl,B⟩;rw[B];clear B D;go_wp2_with fail
  refine(O _).mono ?_;rintro e D ⟨rfl,B⟩;rw[B];clear B D;go_wp2;go_ret;exact⟨rfl,rfl⟩
 |false =>
  cases I:ab y.toList x.toList with
  |true =>
   have J:Hid (gK x y=1):=by show _=_;unfold gK;rw[H,I];rfl
   have U:(x.toList==y.toList)=false:=by
    rw[beq_eq_false_iff_ne];intro e;rw[e,qM]at I;cases I
   have hg:∀W,Sem.run prog (binOp .gtr 9 (.string x) (.string y)) W=.ok (.bool zi) W:=fun W=>by rw[HG.out W,H,U];rfl
   rw[J.out];go_enter func99,ntmps99;go_wp2_with fail
   refine(K _).mono ?_;rintro e D ⟨rfl,B⟩;rw[B];clear B D;go_wp2_with fail
   refine(O _).mono ?_;rintro e D ⟨rfl,B⟩;rw[B];clear B D;go_wp2;go_ret;exact⟨rfl,rfl⟩
  |false =>
   have J:Hid (gK x y=0):=by show _=_;unfold gK;rw[H,I];rfl
   have U:(x.toList==y.toList)=true:=by
    rw[beq_iff_eq];refine al fun h=>?_
    rcases xJ h with Z|Z
    ·rw[Z]at H;cases H
    ·rw[Z]at I;cases I
   have hg:∀W,Sem.run prog (binOp .gtr 9 (.string x) (.string y)) W=.ok (.bool bo) W:=fun W=>by rw[HG.out W,H,U];rfl
   rw[J.out];go_enter func99,ntmps99;go_wp2_with fail
   refine(K _).mono ?_;rintro e D ⟨rfl,B⟩;rw[B];clear B D;go_wp2_with fail
   refine(O _).mono ?_;rintro e D ⟨rfl,B⟩;rw[B];clear B D;go_wp2;go_ret;exact⟨rfl,rfl⟩
def mG (a b c:Int):Int:=if a≠0 then a else if b≠0 then b else c
theorem OH (g o:Nat)(a b c:Int)(w:World)(h0:w.cell? ⟨g,o,N⟩=S (.int .i64 a))(h1:w.cell? ⟨g,o+1,N⟩=S (.int .i64 b))(h2:w.cell? ⟨g,o+2,N⟩=S (.int .i64 c)):
 ah prog 97 #[.slice (S ⟨g,o,N⟩) 3 3] w fun e w'=>e=.returned (.int .i64 (mG a b c))/\w'=w:=by
 obtain⟨f,D⟩:∃f:Nat->Int,f=fun i=>if i=0 then a else if i=1 then b else c:=⟨_,rfl⟩
 have HC:Hid (∀i,i<3->w.cell? ⟨g,o+i,N⟩=S (.int .i64 (f i))):=fun i U=>by
  rw[D]
  match i,U with
  |0,_=>exact h0
  |1,_=>exact h1
  |2,_=>exact h2
 obtain⟨r,Z⟩:=Xb (mG a b c);have HR:Hid (∀i,i<3->(∀j,j<i->f j=0)->f i≠0->r=f i):=fun i U B a0=>by
  rw[Z,D];unfold mG
  match i,U with
  |0,_=>rw[D]at a0;have a6:a≠0:=a0;rw[if_pos a6];rfl
  |1,_ =>
   have:=B 0 (by omega);rw[D]at this a0;have H:a=0:=this;have I:b≠0:=a0;rw[if_neg (by rw[H];decide),if_pos I];rfl
  |2,_ =>
   have J:=B 0 (by omega);have K:=B 1 (by omega);rw[D]at J K;have H:a=0:=J;have I:b=0:=K;rw[if_neg (by rw[H];decide),if_neg (by rw[I];decide)];rfl
 have HZ:Hid ((∀j,j<3->f j=0)->r=0):=fun B=>by
  have J:=B 0 (by omega);have K:=B 1 (by omega);have t2:=B 2 (by omega);rw[D]at J K t2;have H:a=0:=J;have I:b=0:=K;have hc:c=0:=t2;rw[Z,H,I,hc];decide
 rw[<-Z];clear D Z h0 h1 h2;go_enter func97,ntmps97;go_wp2
 go_loop [8] (fun x=>∃i:Nat,i<=3/\x=.int .i64 i/\∀j,j<i->f j=0) (fun x=>3-(intOf x).toNat)
 case atStart=>exact⟨0,by omega,rfl,fun j hj=>absurd hj (aw _)⟩
 case round =>
  obtain⟨i,U,rfl,B⟩:=hrel;have a2:Hid _:=B;clear B;by_cases a4:i<3
  ·have q1:=HC.out i a4;have a3:Hid _:=HR.out i a4 a2.out;have HN:Hid (f i=0->∀j,j<i+1->f j=0):=fun h j hj=>by
    rcases aa j i with h'|h'
    ·exact a2.out j h'
    ·obtain rfl:j=i:=by omega
     exact h
   clear a2 HR HC HZ;generalize f i=y at *;by_cases O:y=0
   ·have a5:=HN.out O;subst O;have a7:Hid _:=a5;clear a5 HN a3;go_wp2
    go_round
    case rel=>exact⟨i+1,by omega,by go_num,a7.out⟩
    case measure=>simp[intOf];omega
   ·have HE:Hid (r=y):=a3.out O;have d1:(y==0)=false:=by rw[beq_eq_false_iff_ne];exact O
    have d2:(y !=0)=true:=by rw[bne_iff_ne];exact O
    clear a3 HN;go_wp2;go_ret;exact⟨by rw[HE.out];rfl,rfl⟩
  ·have HE:Hid (r=0):=HZ.out (fun j hj=>a2.out j (by omega));go_wp2;go_ret;exact⟨by rw[HE.out];rfl,rfl⟩
end
namespace Ring
structure qL (h:Nat) (nodes:List BA) (R:Nat->Nat×BA) (M:Nat):Prop where
 sorted:∀i j,i<j->j<M->¬eV (R j) (R i)
 mem:∀i,i<M->(R i).2∈nodes/\iV h (R i).2<=(R i).1
 all:∀x∈nodes,∃i,i<M/\R i=(iV h x,x)
structure Qz (h:Nat) (nodes:List BA) (R:Nat->Nat×BA) (n j:Nat) (out:List BA):Prop where
 kX:XC h nodes out
 le:out.length<=n
 seen:out.length<n->∀i,i<j->(R i).2∈out
theorem Qz.start (h:Nat)(nodes:List BA)(R:Nat->Nat×BA)(n:Nat):Qz h nodes R n 0 []:=⟨XC.nil _ _,an _,fun _ _ B=>absurd B (aw _)⟩
theorem Qz.full (D:Qz h nodes R n j B)(I:¬B.length<n):Qz h nodes R n (j+1) B:=⟨D.kX,D.le,fun H=>absurd H I⟩
theorem Qz.skip (D:Qz h nodes R n j B)(J:(R j).2∈B):Qz h nodes R n (j+1) B:=⟨D.kX,D.le,fun I i K=>by
 rcases aa i j with H|H
 ·exact D.seen I i H
 ·obtain rfl:i=j:=by omega
  exact J⟩
theorem Qz.push (H:qL h nodes R M)(I:Qz h nodes R n j D)(hj:j<M)(O:D.length<n)(hf:(R j).2∉D):Qz h nodes R n (j+1) (D++ [(R j).2]):=by
 have J:=H.mem j hj;refine⟨I.kX.next (a:=(R j).1) J.1 hf J.2 (fun z U Z hp=>?_),by rw[aj];show D.length+1<=n;omega,fun _ i a2=>?_⟩
 ·obtain⟨i,a0,e⟩:=H.all z U;have K:eV (R i) (R j):=by rw[e];exact hp
  rcases aa i j with B|B
  ·have:=I.seen O i B;rw[e]at this;exact Z this
  ·by_cases h2:i=j
   ·subst h2;exact vM _ K
   ·exact H.sorted j i (by omega) a0 K
 ·rcases aa i j with B|B
  ·exact aI _ (I.seen O i B)
  ·obtain rfl:i=j:=by omega
   exact aF _ (ao.2 rfl)
theorem Qz.done (O:qL h nodes R M)(Z:n<=nodes.length)(U:nodes.Nodup)(H:Qz h nodes R n M B):B.length=n:=by
 rcases aa B.length n with D|D
 ·exfalso;obtain⟨x,I,J⟩:=JrH U (show B.length<nodes.length by omega);obtain⟨i,K,e⟩:=O.all x I;have:=H.seen D i K;rw[e]at this;exact J this
 ·have:=H.le;omega
def QZ (h f M:Nat)(Q:Nat->Nat×BA)(j:Nat):Nat×BA:=(rP h (Q ((f+j)%M)).1,(Q ((f+j)%M)).2)
theorem Jqs {c:Nat}:eV (p.1+c,p.2) (q.1+c,q.2)↔eV p q:=by
 unfold eV;constructor
 ·rintro(h|⟨D,B⟩)
  ·have H:p.1+c<q.1+c:=h;exact ae (by omega)
  ·have H:p.1+c=q.1+c:=D;exact ai ⟨by omega,B⟩
 ·rintro(h|⟨D,B⟩)
  ·exact ae (by show p.1+c<q.1+c;omega)
  ·exact ai ⟨by show p.1+c=q.1+c;omega,B⟩
theorem BU {Q:Nat->Nat×BA}(hM:0<M)(hf:f<=M)(a3:∀i,i<M->(Q i).1<4294967296)(hs:∀i j,i<j->j<M->¬eV (Q j) (Q i))
 (a4:∀i,i<f->(Q i).1<h) (a5:∀i,f<=i->i<M->h<=(Q i).1)
 (a6:∀i,i<M->(Q i).2∈nodes/\∃k,k<8/\(Q i).1=kG (Q i).2 k) (a7:∀x∈nodes,∀k,k<8->∃i,i<M/\Q i=(kG x k,x)):qL h nodes (QZ h f M Q) M:=by
 have O:∀i,i<f->rP h (Q i).1=(Q i).1+4294967296:=fun i U=>if_pos (a4 i U)
 have H:∀i,f<=i->i<M->rP h (Q i).1=(Q i).1:=fun i B D=>if_neg (by have:=a5 i B D;omega)
 refine⟨fun i j a8 Z=>?_,fun i U=>?_,fun x hx=>?_⟩
 ·unfold QZ;rcases aa (f+j) M with B|B
  ·rw[af B,af (show f+i<M by omega),H _ (by omega) B,H _ (by omega) (by omega)];exact hs (f+i) (f+j) (by omega) B
  ·have I:(f+j)%M=f+j-M:=by
    rw[aA B];exact af (by omega)
   rw[I,O (f+j-M) (by omega)];rcases aa (f+i) M with D|D
   ·rw[af D,H _ (by omega) D];have:=a3 (f+i) D;rintro(J|⟨J,_⟩)
    ·have h4:(Q (f+j-M)).1+4294967296<(Q (f+i)).1:=J;omega
    ·have h4:(Q (f+j-M)).1+4294967296=(Q (f+i)).1:=J;omega
   ·have ei:(f+i)%M=f+i-M:=by
     rw[aA D];exact af (by omega)
    rw[ei,O (f+i-M) (by omega),Jqs];exact hs (f+i-M) (f+j-M) (by omega) (by omega)
 ·have a2:(f+i)%M<M:=ba _ hM;obtain⟨B,k,K,e⟩:=a6 _ a2;refine⟨B,?_⟩;show iV h (Q ((f+i)%M)).2<=rP h (Q ((f+i)%M)).1;rw[e];exact U0 h _ k K
 ·obtain⟨k,K,e⟩:=TA h x;obtain⟨i,a0,eq⟩:=a7 x hx k K;obtain⟨j,Z,I⟩:∃j,j<M/\(f+j)%M=i:=by
   rcases aa i f with B|B
   ·refine⟨i+M-f,by omega,?_⟩;rw[show f+(i+M-f)=i+M by omega,Nat.add_mod_right];exact af a0
   ·refine⟨i-f,by omega,?_⟩;rw[show f+(i-f)=i by omega];exact af a0
  refine⟨j,Z,?_⟩;unfold QZ;rw[I,eq,<-e];rfl
end Ring
section
open Ring Go.Sort
abbrev Pt:=Nat×BA×Nat
def QS (x:Pt):List Value:=[.int .u32 (x.1:Int),.string x.2.1,.int .i64 (x.2.2:Int)]
def pE:eW Pt where
 k:=3
 pos:=by decide
 enc:=QS
 len:=fun _=>rfl
 one:=fun x u B=>by
  simp[QS]at B;rcases B with rfl|rfl|rfl<;>rfl
def kO (p q:Pt):Int:=mG (JP p.1 q.1) (gK p.2.1 q.2.1) (JP p.2.2 q.2.2)
def nn (p:Pt):Nat×BA:=(p.1,p.2.1)
def j8 (p q:Pt):Prop:=eV (nn p) (nn q)∨nn p=nn q/\p.2.2<q.2.2
theorem DH :JP a b<0↔a<b:=by
 unfold JP;split
 ·rename_i h;exact⟨fun _=>h,fun _=>by decide⟩
 ·rename_i h;split
  ·exact⟨fun B=>absurd B (by decide),fun B=>absurd B h⟩
  ·exact⟨fun B=>absurd B (by decide),fun B=>absurd B h⟩
theorem AS :JP a b=0↔a=b:=by
 unfold JP;split
 ·rename_i h;exact⟨fun B=>absurd B (by decide),fun B=>by omega⟩
 ·split
  ·exact⟨fun B=>absurd B (by decide),fun B=>by omega⟩
  ·exact⟨fun _=>by omega,fun _=>rfl⟩
theorem JsI :gK x y<0↔bl x y:=by
 unfold gK bl;split
 ·rename_i h;exact⟨fun _=>h,fun _=>by decide⟩
 ·rename_i h;split
  ·exact⟨fun B=>absurd B (by decide),fun B=>absurd B h⟩
  ·exact⟨fun B=>absurd B (by decide),fun B=>absurd B h⟩
theorem GK :gK x y=0↔x=y:=by
 unfold gK;split
 ·rename_i h;exact⟨fun B=>absurd B (by decide),fun B=>by rw[B,qM]at h;cases h⟩
 ·rename_i h;split
  ·rename_i D;exact⟨fun B=>absurd B (by decide),fun B=>by rw[B,qM]at D;cases D⟩
  ·rename_i D;refine⟨fun _=>al fun I=>?_,fun _=>rfl⟩;rcases FE I with H|H
   ·exact h H
   ·exact D H
theorem LP {p q:Pt}:kO p q<0↔j8 p q:=by
 unfold kO mG j8 eV nn;by_cases D:p.1=q.1
 ·rw[if_neg (fun h=>h (AS.2 D))];by_cases H:p.2.1=q.2.1
  ·rw[if_neg (fun h=>h (GK.2 H)),DH];constructor
   ·intro B;exact ai ⟨by rw[D,H],B⟩
   ·rintro((B|⟨_,B⟩)|⟨_,B⟩)
    ·have I:p.1<q.1:=B;omega
    ·have I:bl p.2.1 q.2.1:=B;rw[H]at I;exact absurd I (xD _)
    ·exact B
  ·rw[if_pos (fun h=>H (GK.1 h)),JsI];constructor
   ·intro B;exact ae (ai ⟨D,B⟩)
   ·rintro((B|⟨_,B⟩)|⟨B,_⟩)
    ·have I:p.1<q.1:=B;omega
    ·exact B
    ·exact absurd (congrArg Prod.snd B) H
 ·rw[if_pos (fun h=>D (AS.1 h)),DH];constructor
  ·intro B;exact ae (ae B)
  ·rintro((B|⟨B,_⟩)|⟨B,_⟩)
   ·exact B
   ·exact absurd B D
   ·exact absurd (congrArg Prod.fst B) D
theorem J9 {p q:Pt}:ltOf kO p q=zi↔j8 p q:=by
 unfold ltOf;rw[decide_eq_true_iff];exact LP
theorem PE (p:Pt):¬j8 p p:=by
 rintro(h|⟨_,h⟩)
 ·exact vM _ h
 ·exact aq _ h
theorem GW {p q r:Pt}(D:j8 p q)(B:j8 q r):j8 p r:=by
 rcases D with D|⟨I,D⟩
 ·rcases B with B|⟨H,_⟩
  ·exact ae (FA D B)
  ·exact ae (by rw[<-H];exact D)
 ·rcases B with B|⟨H,B⟩
  ·exact ae (by rw[I];exact B)
  ·exact ai ⟨I.trans H,by omega⟩
theorem JsJ {p q r:Pt}(I:¬j8 p q)(H:¬j8 q r):¬j8 p r:=fun D=>by
 by_cases e:nn p=nn q
 ·have K:q.2.2<=p.2.2:=by
   rcases aa p.2.2 q.2.2 with B|B
   ·exact absurd (ai ⟨e,B⟩) I
   ·exact B
  rcases D with D|⟨J,D⟩
  ·exact H (ae (by rw[<-e];exact D))
  ·exact H (ai ⟨e.symm.trans J,by omega⟩)
 ·rcases wZ e with B|B
  ·exact I (ae B)
  ·exact H (GW (ae B) D)
theorem Juc:SWO (ltOf kO) where
 irrefl x:=aB.2 fun h=>PE x (J9.1 h)
 trans x y z h1 h2:=J9.2 (GW (J9.1 h1) (J9.1 h2))
 ntrans x y z h1 h2:=aB.2 fun h=>JsJ (fun B=>by rw[J9.2 B]at h1;cases h1) (fun B=>by rw[J9.2 B]at h2;cases h2) (J9.1 h)
theorem Jrc (p q:Pt)(W:World):ah prog 96 #[.agg (QS p).toArray,.agg (QS q).toArray] W fun e w'=>e=.returned (.int .i64 (kO p q))/\∃n os,w'=grow (W.drewN n) os:=by
 obtain⟨a,x,i⟩:=p;obtain⟨b,y,j⟩:=q;obtain⟨B,D⟩:=Xb ((W.alloc (.cells #[.int .u32 (a:Int),.string x,.int .i64 (i:Int)] 170)).alloc (.cells #[.int .u32 (b:Int),.string y,.int .i64 (j:Int)] 170));have J:Hid (∃os,B=grow W os):=⟨_,by rw[D,alloc_eq_grow,alloc_eq_grow,grow_grow]⟩;have K:B.cell? ⟨W.heap.size,0,N⟩=S (.int .u32 (a:Int)):=by rw[D];simp
 have O:B.cell? ⟨W.heap.size,1,N⟩=S (.string x):=by rw[D];simp
 have U:B.cell? ⟨W.heap.size,2,N⟩=S (.int .i64 (i:Int)):=by rw[D];simp
 have Z:B.cell? ⟨W.heap.size+1,0,N⟩=S (.int .u32 (b:Int)):=by rw[D];simp
 have q5:B.cell? ⟨W.heap.size+1,1,N⟩=S (.string y):=by rw[D];simp
 have q6:B.cell? ⟨W.heap.size+1,2,N⟩=S (.int .i64 (j:Int)):=by rw[D];simp
 have H:Hid _:=D;clear D;show ah prog 96 #[.agg #[.int .u32 (a:Int),.string x,.int .i64 (i:Int)],.agg #[.int .u32 (b:Int),.string y,.int .i64 (j:Int)]] W fun e w'=>e=.returned (.int .i64 (mG (JP a b) (gK x y) (JP i j)))/\∃n os,w'=grow (W.drewN n) os
 have c1:=fun W=>U6 a b W
 have c2:=fun W=>JsT x y W
 have c3:=fun W=>U3 i j W
 have c4:=fun g W h0 h1 h2=>OH g 0 (JP a b) (gK x y) (JP i j) W h0 h1 h2
 generalize JP a b=r1 at *;generalize gK x y=r2 at *;generalize JP i j=r3 at *;generalize mG r1 r2 r3=r at *;have C1:Hid _:=c1;have C2:Hid _:=c2;have C3:Hid _:=c3;have C4:Hid _:=c4;clear c1 c2 c3 c4;go_enter func96,ntmps96;go_wp2;rw[<-H.out];clear H;refine aJ 15 (by kernel_rfl) (by kernel_rfl) ?_;simp only[aO,bb,aP,bf]
 still_step
 still_step
 still_step
 still_step
 still_call (C1.out _)
 still_step
 still_step
 still_step
 still_step
 still_call (C2.out _)
 still_step
 still_step
 still_step
 still_step
 still_call (C3.out _)
 refine wpStill_nil ?_;change zp _ _ _ _ _ (B.drewN 1);have I:Hid (∃os,B.drewN 1=grow (W.drewN 1) os):=by
  obtain⟨os,h⟩:=J.out;exact⟨os,by rw[h];rfl⟩
 generalize B.drewN 1=W3 at I ⊢;clear K O U Z q5 q6;go_wp2_with (go_at_call 97;refine(C4.out _ _ (by simp) (by simp) (by simp)).mono ?_;rintro e w' ⟨rfl,rfl⟩)
 go_ret;obtain⟨os,h⟩:=I.out;exact⟨rfl,1,_,by rw[h,alloc_eq_grow,grow_grow]⟩
theorem JsK (blk B size:Nat)(w:World):CmpLays prog 96 #[] QS 3 kO blk B size w:=fun _ _ _ _ x y=>Jrc x y _
end
section
open Ring Go.Sort
theorem UA (k:Nat)(B:k<8):(⟨(Lib.decDigits k).toArray⟩:BA)=Jp [48+k]:=by
 rcases(show k=0∨k=1∨k=2∨k=3∨k=4∨k=5∨k=6∨k=7 by omega)with rfl|rfl|rfl|rfl|rfl|rfl|rfl|rfl<;>(unfold Lib.decDigits;rfl)
def tV (nodes:List BA)(j:Nat):Pt:=(kG (Yc nodes (j/8)) (j%8),Yc nodes (j/8),j%8)
def Xw (nodes:List BA)(m:Nat):List Pt:=(List.range m).map (tV nodes)
theorem rB (nodes:List BA)(m:Nat):(Xw nodes m).length=m:=by simp[Xw]
theorem NY (nodes:List BA)(m:Nat):Xw nodes (m+1)=Xw nodes m++ [tV nodes m]:=by simp[Xw,List.range_succ]
def XW (ps:List Pt)(i:Nat):Nat×BA:=nn (ps.getD i (0,⟨#[]⟩,0))
theorem nV {ps:List Pt}{i:Nat}(h:i<ps.length):XW ps i=nn ps[i]:=by
 unfold XW;rw[List.getD_eq_getElem?_getD,ag h];rfl
structure lG (nodes:List BA) (ps:List Pt):Prop where
 len:ps.length=8*nodes.length
 sorted:∀i j,i<j->j<ps.length->¬eV (XW ps j) (XW ps i)
 mem:∀i,i<ps.length->(XW ps i).2∈nodes/\∃k,k<8/\(XW ps i).1=kG (XW ps i).2 k
 all:∀x∈nodes,∀k,k<8->∃i,i<ps.length/\XW ps i=(kG x k,x)
theorem R4 {B:Array Pt}(hp:PermIn 0 (Xw nodes (8*nodes.length)).toArray.size (Xw nodes (8*nodes.length)).toArray B)(hs:SortedIn (ltOf kO) 0 (Xw nodes (8*nodes.length)).toArray.size B):lG nodes B.toList:=by
 obtain⟨J,_,K⟩:=hp;have O:B.size=8*nodes.length:=by rw[J];simp[rB]
 have hd:(Xw nodes (8*nodes.length)).toArray.size=8*nodes.length:=by simp[rB]
 have U:B.toList.Perm (Xw nodes (8*nodes.length)):=by
  have e1:B.extract 0 (Xw nodes (8*nodes.length)).toArray.size=B:=by rw[<-J];exact aR
  have e2:(Xw nodes (8*nodes.length)).toArray.extract 0 (Xw nodes (8*nodes.length)).toArray.size=(Xw nodes (8*nodes.length)).toArray:=aR;rw[e1,e2]at K;exact K
 have a0:B.toList.length=8*nodes.length:=by rw[ay,O]
 refine⟨a0,fun i j a2 H=>?_,fun i D=>?_,fun x hx k hk=>?_⟩
 ·have a3:j<B.size:=by rw[O];omega
  have a4:i<B.size:=by omega
  have:=hs i j (an _) a2 (by rw[hd];omega);rw[getElem!_pos B j a3,getElem!_pos B i a4]at this;rw[nV H,nV (by omega)];intro Z;rw[J9.2 (ae (by simpa using Z))]at this;cases this
 ·have I:B.toList[i]∈Xw nodes (8*nodes.length):=U.mem_iff.1 (List.getElem_mem D);rw[nV D];obtain⟨j,H,e⟩:=bu.1 I;rw[bc]at H;rw[<-e];exact⟨oQ (by omega),j%8,ba _ (by decide),rfl⟩
 ·obtain⟨q,Z,rfl⟩:=tF hx;have I:=U.mem_iff.2 (bu.2 ⟨8*q+k,bc.2 (by omega),rfl⟩);obtain⟨i,D,e⟩:=List.getElem_of_mem I;refine⟨i,D,?_⟩;rw[nV D,e];unfold nn tV;rw[show(8*q+k)/8=q by omega,show(8*q+k)%8=k by omega]
theorem L8 {B cap:Nat}{l:List Pt}(h:Zc pE 170 w B (.slice (S ⟨g,0,N⟩) l.length cap) l):HoldsK QS 3 w g 0 l.toArray:=by
 intro j H;rw[size_flatK]at H;have J:j<l.length*3:=by simpa using H
 have K:=h;obtain⟨hl,O⟩:=h;rcases O with⟨U,_⟩|⟨Z,a0,a2,hv,a3,hg,h3,h4,h5,h6⟩
 ·cases U
 obtain rfl:g=Z:=by
  have:=congrArg Value.ownBlock hv;simpa[Value.ownBlock]using this
 refine⟨?_,by simp[World.frozen?,hg]⟩;have I:j/3<l.length:=by omega
 have hx:=ag I;have hu:(QS l[j/3])[j%3]?=S ((QS l[j/3])[j%3]'(by show j%3<3;omega)):=ag (by show j%3<3;omega);have hr:=uH pE l (j/3) _ hx (j%3) _ hu;have D:=World.ownsRow.cells (g:=g) K rfl _ _ hr;rw[Addr.add_lit]at D;have ej:j/3*pE.k+j%3=j:=by show j/3*3+j%3=j;omega
 rw[ej]at D;rw[D,get_flatK QS 3 l.toArray j (by simpa using J)];have e1:l.toArray[j/3]! =l[j/3]:=by rw[getElem!_pos l.toArray (j/3) (by simpa using I)];simp
 rw[e1,getElem!_pos (QS l[j/3]) (j%3) (by show j%3<3;omega)];rfl
theorem R6 {W:World}{B:Nat}{d:Array Pt}{os:Array Obj}(D:ac B w W)(hB:B<=g)(I:B<=W.heap.size):ac B w (sortWorldK QS 3 W g 0 n d os):=by
 refine D.trans ⟨rfl,rfl,rfl,size_sortWorldK_c QS 3 W g 0 n d os,fun k H=>?_⟩;unfold sortWorldK;rw[heap_grow_old _ _ (by rw[show(putRowK QS 3 (Sort.ahead W n) g 0 d).heap.size=W.heap.size by simp[putRowK,putRow,mapBlock,Sort.ahead]];omega)];have:g≠k:=by omega
 simp[putRowK,putRow,mapBlock,Sort.ahead,Array.getElem?_modify,this]
theorem OS (p:Option ax)(nodes:List BA)(c:Nat)(w:World)(d6:1<=nodes.length)(g2:nodes.length<=16)(hx:∀x∈nodes,x.size<=16)(hs:Strs w p nodes):
 ah prog 73 #[.slice p nodes.length c] w fun e w'=>(∃g cap ps,e=.returned (.slice (S ⟨g,0,N⟩) ps.length cap)/\ps.length<=cap/\w.heap.size<=g/\Ql pE w' (S ⟨g,0,N⟩) ps/\lG nodes ps)/\ac w.heap.size w w':=by
 have HX:Hid (∀i,i<nodes.length->(Yc nodes i).size<=16):=fun i hi=>hx _ (oQ hi)
 have HS:Hid (Strs w p nodes):=hs;obtain⟨b,o,rfl⟩:∃b o,p=S (pA b o):=by
  rcases hs with K|⟨b,o,I,_⟩
  ·rw[K]at d6;exact absurd d6 (by decide)
  ·exact⟨b,o,I⟩
 clear hs hx;go_enter func73,ntmps73;go_wp2;go_loopw [3,9] (fun v x O=>∃i:Nat,i<=nodes.length/\x=.int .i64 i/\Zc pE 170 O w.z v (Xw nodes (8*i))/\ac w.z w O) (fun _ x _=>nodes.length-(intOf x).toNat)
 case atStart=>exact⟨0,an _,rfl,Zc.nil _ _ _,Below.refl _ _⟩
 case round =>
  obtain⟨i,hi,rfl,U,hB⟩:=hrel;obtain⟨H,rfl⟩:=Xb wr;obtain⟨v,rfl⟩:=Xb u3;have J:Hid (Zc pE 170 H w.z v (Xw nodes (8*i))):=U;have Z:Hid _:=hB;clear U hB;by_cases a4:i<nodes.length
  ·have q0:H.cell? (pA b (o+i))=S (.string (Yc nodes i)):=by
    rcases(HS.out.below Z.out)with K|⟨b',o',I,_,d7⟩
    ·rw[K]at a4;exact absurd a4 (aw _)
    ·obtain⟨rfl,rfl⟩:b=b'/\o=o':=by simpa using I
     exact d7 i a4
   have a0:=HX.out i a4;obtain⟨t,ht⟩:=Xb (Yc nodes i);rw[<-ht]at q0 a0;have HT:Hid _:=ht;clear ht HS HX;go_wp2;clear q0;go_loopw [3,13] (fun v x O=>∃k:Nat,k<=8/\x=.int .i64 k/\Zc pE 170 O w.z v (Xw nodes (8*i+k))/\ac w.z w O) (fun _ x _=>8-(intOf x).toNat)
   case atStart=>exact⟨0,by omega,rfl,J.out,Z.out⟩
   case round =>
    obtain⟨k,hk,rfl,U,hB⟩:=hrel;obtain⟨D,rfl⟩:=Xb wr;obtain⟨v,rfl⟩:=Xb u3;have a8:Hid (Zc pE 170 D w.z v (Xw nodes (8*i+k))):=U;have a2:Hid (ac w.z w D):=hB;have d8:Hid ((Xw nodes (8*i+k)).length=8*i+k):=rB _ _;clear U hB J Z;by_cases d9:k<8
    ·have HN:Hid (Xw nodes (8*i+(k+1))=Xw nodes (8*i+k)++ [(kG t k,t,k)]):=by
      show _=_;rw[show 8*i+(k+1)=8*i+k+1 by omega,NY,HT.out];unfold tV;rw[show(8*i+k)/8=i by omega,show(8*i+k)%8=k by omega]
     have a9:Hid (∀W,ah prog 81 #[.int .i64 (k:Int)] W fun e w'=>e=.returned (.string (Jp [48+k]))/\w'=W):=fun W=>by
      have:=strconv_Itoa_small k (by omega) W;rw[UA k d9]at this;exact this
     have b0:Hid (∀W,ah prog 76 #[.string (t++⟨#[35]⟩++Jp [48+k])] W fun e w'=>e=.returned (.int .u32 ((kG t k:Nat):Int))/\w'=W):=fun W=>IH _ W (by rw[ByteArray.size_append,ByteArray.size_append,xG];show _+1+1<=_;omega)
     have f8:(Jp [48+k]).size=1:=xG _;generalize Xw nodes (8*i+k)=ps at *;generalize kG t k=m at *;generalize Jp [48+k]=d at *;have f9:¬9223372036854775807<t.size+1:=by omega
     go_wp2_with fail
     refine(a9.out _).mono ?_;rintro e w4 ⟨rfl,a3⟩;rw[a3];clear a3 w4 a9;go_wp2_with fail
     refine(b0.out _).mono ?_;rintro e w4 ⟨rfl,a3⟩;rw[a3];clear a3 w4 b0;have e0:Hid (Zc pE 170 (D.alloc (.cells #[.int .u32 (m:Int),.string t,.int .i64 (k:Int)] 170)) w.z v ps):=a8.out.kept (bR.alloc nR _);have b1:Hid (ac w.z w (D.alloc (.cells #[.int .u32 (m:Int),.string t,.int .i64 (k:Int)] 170))):=a2.out.alloc a2.out.size _;have b2:Hid (ps.length+1<=200):=by show _<=_;have:=d8.out;omega
     have e3:Hid (D.z<(D.alloc (.cells #[.int .u32 (m:Int),.string t,.int .i64 (k:Int)] 170)).z):=by show _<_;simp
     have e4:Hid (∀j u,(pE.enc (m,t,k))[j]?=S u->(D.alloc (.cells #[.int .u32 (m:Int),.string t,.int .i64 (k:Int)] 170)).cell? (pA D.z (0+j))=S u):=fun j u hu=>by
      rw[aS,World.cell?_alloc_at _ _ _ _ rfl];rw[<-hu];show(#[Value.int .u32 (m:Int),.string t,.int .i64 (k:Int)]:Array aM)[j]?=([Value.int .u32 (m:Int),.string t,.int .i64 (k:Int)]:List aM)[j]?;rw[<-Array.getElem?_toList]
     go_wp2_with (first|(at_builtin;refine wJ (E:=pE) rfl (.tmp 16) (.tmp 26) 146 170 rfl (.agg #[.int .u32 0,.string ⟨#[]⟩,.int .i64 0]) 32 underlying146 (by kernel_rfl) rfl w.z v ps rfl e0.out D.z 0 1 (m,t,k) rfl e4.out (by have:=b2.out;unfold bv;omega) (by have:=b2.out;omega) b1.out.size e3.out ?_;intro v' w6 b3 b4))
     have e5:Hid (Zc pE 170 w6 w.z v' (Xw nodes (8*i+(k+1)))):=by
      show Zc pE 170 w6 w.z v' (Xw nodes (8*i+(k+1)));rw[HN.out];exact b3
     have e6:Hid (ac w.z w w6):=b1.out.trans b4;clear b3 b4;go_wp2;go_roundw
     case rel=>exact⟨k+1,by omega,by go_num,e5.out,e6.out⟩
     case measure=>simp[intOf];omega
    ·have e7:k=8:=by omega
     subst e7;have HE:Hid (8*i+8=8*(i+1)):=by show _=_;omega
     go_wp2;go_roundw
     case rel=>exact⟨i+1,by omega,by go_num,by rw[<-HE.out];exact a8.out,a2.out⟩
     case measure=>simp[intOf];omega
  ·have e8:i=nodes.length:=by omega
   subst e8;obtain⟨pv,cv,rfl,e9,b5,f3,b6⟩:=J.out.form;obtain⟨g,rfl⟩:∃g,pv=S (pA g 0):=by
    obtain⟨_,h2⟩:=(show H.ownsRow w.z 170 pE.k (.slice pv (Xw nodes (8*nodes.length)).length cv) (Xw nodes (8*nodes.length)).length (Qb pE (Xw nodes (8*nodes.length)))from J.out);rcases h2 with⟨_,K⟩|⟨g',g0,g1,hv,_⟩
    ·rw[rB]at K;omega
    ·exact⟨g',(Value.slice.inj hv).1⟩
   obtain⟨b7,a6⟩:=b6 g 0 rfl;have hH:=L8 J.out;have a7:=slices_SortFunc 3 isAgg170 sizeOf170 QS (fun _=>rfl) pE.one kO Juc 96 #[] g 0 cv (Xw nodes (8*nodes.length)).toArray H (enters_of func96 (by kernel_rfl) rfl) (JsK _ _ _ _) hH a6 (by simp[rB];omega);have b8:Hid (∀B:Array Pt,PermIn 0 (Xw nodes (8*nodes.length)).toArray.size (Xw nodes (8*nodes.length)).toArray B->SortedIn (ltOf kO) 0 (Xw nodes (8*nodes.length)).toArray.size B->lG nodes B.toList/\B.size=(Xw nodes (8*nodes.length)).toArray.size):=fun B h1 h2=>⟨R4 h1 h2,h1.1⟩
   have c8:Hid ((Xw nodes (8*nodes.length)).toArray.size=(Xw nodes (8*nodes.length)).length):=by show _=_;simp
   rw[c8.out]at a7;have HH:Hid (HoldsK QS 3 H g 0 (Xw nodes (8*nodes.length)).toArray):=hH;have d0:Hid (w.z<=g):=b7;have d1:Hid (g<H.z):=a6;have f4:Hid ((Xw nodes (8*nodes.length)).length<=cv):=b5;clear e9 b5 f3 b6 b7 a6 hH J HS HX;generalize Xw nodes (8*nodes.length)=ps at *;go_wp2_with fail
   refine a7.mono ?_;rintro e D ⟨rfl,B,n,os,I,d2,a5⟩;clear a7;obtain⟨d3,a0⟩:=b8.out B I d2;have f5:Hid (lG nodes B.toList):=d3;have d4:Hid (B.toList.length=ps.length):=by show _=_;rw[ay,a0,c8.out]
   have f6:Hid (Ql pE D (S (pA g 0)) B.toList):=by
    have hk:=holdsK_sortWorldK_c QS 3 H g 0 ps.toArray B n os HH.out d1.out a0;rw[<-a5]at hk;refine ai ⟨g,0,rfl,?_,fun i x hx j u hu=>?_⟩
    ·rw[a5];exact ar d1.out (size_sortWorldK_c QS 3 H g 0 n B os)
    ·have d5:i<B.size:=by
      have:=(ak.1 hx).1
      rwa[ay]at this
     have f7:j<3:=(ak.1 hu).1;have h5:=(hk.cell d5 f7).1;have e1:B[i]! =x:=by
      rw[getElem!_pos B i d5];have:=(ak.1 hx).2;simpa using this
     rw[e1]at h5;have e2:(QS x)[j]! =u:=by
      have h6:=ak.1 hu;rw[getElem!_pos (QS x) j h6.1];exact h6.2
     rw[e2]at h5;exact h5
   have a2:Hid (ac w.z w D):=by
    show ac w.z w D;rw[a5];exact R6 Z.out d0.out Z.out.size
   clear a5 I d2 d3 a0 b8 HH;go_wp2;go_ret;exact⟨⟨g,cv,B.toList,by rw[d4.out];rfl,by rw[d4.out];exact f4.out,d0.out,f6.out,f5.out⟩,a2.out⟩
end
section
open Go.Sort
theorem GX:(prog.info? 170).map (fun i=>(i.zero,i.size,i.bytes))=S (S (.agg #[.int .u32 0,.string ⟨#[]⟩,.int .i64 0]),3,32):=by kernel_rfl
theorem NK (n:Nat)(w:World)(h0:0<n)(hn:n<=1000):
 ah prog 128 #[.slice N 0 0,.int .i64 (n:Int)] w fun e w'=>(∃v,e=.returned v/\Zc pE 170 w' w.heap.size v [])/\ac w.heap.size w w':=by
 obtain⟨D,Z,a0,a2,K⟩:=bg GX;have hold:(Builtin.firstCells D.size 0 (.slice N 0 0)).run prog w.drew=.ok ([]:List aM).toArray w.drew:=run_firstCells_none w.drew D.size 0 0 0;have O:∀H,(Builtin.append_ #[146,3] H #[.slice N 0 0,.int .i64 (n:Int)]).run prog w =
  .ok (.slice (S ⟨w.heap.size,0,N⟩) n (bh w n 0 170)) (w.drew.alloc (.cells (([]:List aM).toArray++ap (Value.agg #[.int .u32 0,.string ⟨#[]⟩,.int .i64 0]).cells n++ap (Value.agg #[.int .u32 0,.string ⟨#[]⟩,.int .i64 0]).cells (bh w n 0 170-n)) 170)):=fun H=>by
  have h:=Lib.run_append_grow_zeros w 146 3 H 170 D _ .i64 .i64 underlying146 underlying3 Z a0 N 0 0 [] hold n h0 (by rw[a2];decide) (by omega) (by omega) (by rw[K];omega) (by rw[K];exact growslice_fits (by omega) (by omega));rw[aS]at h;exact h
 have a4:n<=bh w n 0 170:=grownCap_ge w _ _ _;have I:=grownCap_le_maxLen w n 0 170 (by unfold bv;omega);generalize hG:bh w n 0 170=G at *;clear hG;have a5:G<=9223372036854775807:=by unfold bv at I;omega
 obtain⟨B,J⟩:=Xb (([]:List aM).toArray++ap (Value.agg #[.int .u32 0,.string ⟨#[]⟩,.int .i64 0]).cells n++ap (Value.agg #[.int .u32 0,.string ⟨#[]⟩,.int .i64 0]).cells (G-n));have U:B.size=G*3:=by
  have e3:(Value.agg #[.int .u32 0,.string ⟨#[]⟩,.int .i64 0]).cells.size=3:=rfl;rw[J];simp[ap,e3];omega
 rw[<-J]at O;have a3:Hid (Zc pE 170 (w.drew.alloc (.cells B 170)) w.heap.size (.slice (S ⟨w.heap.size,0,N⟩) 0 G) []):=by
  refine⟨rfl,ai ⟨w.heap.size,G,B,rfl,av _,?_,an _,I,U,?_⟩⟩
  ·have:w.drew.heap.size=w.heap.size:=rfl;rw[<-this,heap_alloc_new]
  ·simp[Qb]
 have HB:Hid (ac w.heap.size w (w.drew.alloc (.cells B 170))):=bR.drew.alloc nR _;have d1:decide ((n:Int)<0)=false:=decide_eq_false (by omega);have d2:=decide_eq_true (by omega);clear hold J I U;go_enter func128,ntmps128;go_wp2_with (at_builtin;refine Lib.wpList_append_run _ rfl _ _ _ _ rfl _ _ rfl rfl _ _ (O _) ?_)
 go_ret;exact⟨⟨_,rfl,a3.out⟩,HB.out⟩
theorem OW (g c:Nat)(U Z:Option ax)(l1 l2:List Pt)(c1 c2:Nat)(w:World)(h0:0<l1.length+l2.length)(hn:l1.length+l2.length<=1000)
 (I:w.cell? ⟨g,0,N⟩=S (.slice U l1.length c1)) (q2:w.cell? ⟨g,1,N⟩=S (.slice Z l2.length c2)) (r1:Ql pE w U l1) (r2:Ql pE w Z l2) (n1:U=N->l1=[]/\c1=0) (n2:Z=N->l2=[]/\c2=0):
 ah prog 103 #[.slice (S ⟨g,0,N⟩) 2 c] w fun e w'=>(∃v,e=.returned v/\Zc pE 170 w' w.heap.size v (l1++l2))/\ac w.heap.size w w':=by
 have hg:g<w.heap.size:=by
  rcases aa g w.heap.size with h'|h'
  ·exact h'
  ·simp[World.cell?,aD h']at I
 obtain⟨P,hP⟩:∃P:Nat->Option ax,P=fun i=>if i=0 then U else Z:=⟨_,rfl⟩
 obtain⟨L,hL⟩:∃L:Nat->List Pt,L=fun i=>if i=0 then l1 else l2:=⟨_,rfl⟩
 obtain⟨C,hC⟩:∃C:Nat->Nat,C=fun i=>if i=0 then c1 else c2:=⟨_,rfl⟩
 obtain⟨T,B⟩:∃T:Nat->List Pt,T=fun i=>if i=0 then []else if i=1 then l1 else l1++l2:=⟨_,rfl⟩
 have a3:Hid (∀W,ac w.heap.size w W->∀i,i<2->W.cell? ⟨g,i,N⟩=S (.slice (P i) (L i).length (C i))/\Ql pE W (P i) (L i)/\(P i=N->L i=[]/\C i=0)):=fun W K i D=>by
  subst hP hL hC
  match i,D with
  |0,_=>exact⟨(K.cell (p:=⟨g,0,N⟩) hg).trans I,r1.below K,n1⟩
  |1,_=>exact⟨(K.cell (p:=⟨g,1,N⟩) hg).trans q2,r2.below K,n2⟩
 have a4:Hid (∀i,i<2->T (i+1)=T i++L i):=fun i D=>by
  subst B hL
  match i,D with
  |0,_=>rfl
  |1,_=>rfl
 have a5:Hid (T 0=[]):=by show _=_;rw[B];rfl
 have a6:Hid (T 2=l1++l2):=by show _=_;rw[B];rfl
 have a0:Hid (∀i,(T i).length<=1000):=fun i=>by
  subst B;show(if i=0 then []else if i=1 then l1 else l1++l2:List Pt).length<=1000;split
  ·exact an _
  ·split
   ·omega
   ·rw[aj];exact hn
 have b8:Hid (0<(T 2).length):=by show _<_;rw[B];show 0<(l1++l2).length;rw[aj];exact h0
 rw[<-a6.out];clear a6 B hP hL hC I q2 r1 r2 n1 n2 h0 hn hg;go_enter func103,ntmps103;go_wp2
 go_loop [3,11] (fun s x=>∃i:Nat,i<=2/\x=.int .i64 i/\s=.int .i64 (((T i).length:Nat):Int)) (fun _ x=>2-(intOf x).toNat)
 case atStart=>exact⟨0,by omega,rfl,by rw[a5.out];rfl⟩
 case round =>
  obtain⟨i,D,rfl,rfl⟩:=hrel;by_cases H:i<2
  ·obtain⟨I,_,_⟩:=a3.out w bR i H;have J:Hid ((T (i+1)).length=(T i).length+(L i).length):=by show _=_;rw[a4.out i H,aj]
   have c8:=a0.out (i+1);rw[J.out]at c8;generalize (T i).length=a at *;generalize (L i).length=b at *;have d1:decide ((a:Int)+(b:Int)<0)=false:=decide_eq_false (by omega);have d2:wrap64 ((a:Int)+(b:Int))=(a:Int)+(b:Int):=by unfold wrap64;omega
   have d3:¬((a:Int)+(b:Int)<0):=by omega
   go_wp2
   go_round
   case rel=>exact⟨i+1,by omega,by go_num,by rw[J.out];congr 1⟩
   case measure=>simp[intOf];omega
  ·have a2:i=2:=by omega
   subst a2;have a7:Hid (∀W,ah prog 128 #[.slice N 0 0,.int .i64 (((T 2).length:Nat):Int)] W fun e w'=>(∃v,e=.returned v/\Zc pE 170 w' W.heap.size v [])/\ac W.heap.size W w'):=fun W=>NK _ W b8.out (a0.out 2)
   generalize (T 2).length=m at *;go_wp2_with fail
   refine(a7.out _).mono ?_;rintro e w1 ⟨⟨v,rfl,a8⟩,a9⟩;have b0:Hid (Zc pE 170 w1 w.heap.size v (T 0)):=by show Zc _ _ _ _ _ _;rw[a5.out];exact a8
   have b1:Hid _:=a9;clear a8 a9 a7;go_wp2;go_loopw [6,27] (fun v x wq=>∃i:Nat,i<=2/\x=.int .i64 i/\Zc pE 170 wq w.heap.size v (T i)/\ac w.heap.size w wq) (fun _ x _=>2-(intOf x).toNat)
   case atStart=>exact⟨0,by omega,rfl,b0.out,b1.out⟩
   case round =>
    obtain⟨i,D,rfl,hO,hB⟩:=hrel;obtain⟨w2,rfl⟩:=Xb wr;obtain⟨v2,rfl⟩:=Xb u6;have b2:Hid _:=hO;have O:Hid _:=hB;clear hO hB b0 b1;by_cases H:i<2
    ·obtain⟨I,b3,b4⟩:=a3.out w2 O.out i H;have d0:Hid _:=b3;have d4:Hid _:=b4;have J:Hid _:=a4.out i H;have b5:Hid ((T i).length+(L i).length<=1000):=by
      show _<=_;have:=a0.out (i+1);rw[J.out,aj]at this;exact this
     clear b3 b4;generalize P i=pi at *;generalize L i=li at *;generalize C i=ci at *;generalize T i=ti at *;go_wp2_with (first|(at_builtin;refine F4 (E:=pE) rfl (.tmp 31) (.tmp 32) 146 170 rfl (.agg #[.int .u32 0,.string ⟨#[]⟩,.int .i64 0]) 32 underlying146 GX rfl w.heap.size v2 ti rfl b2.out pi li ci rfl d0.out d4.out (by have:=b5.out;unfold bv;omega) (by have:=b5.out;omega) O.out.size ?_;intro v' w3 b6 b7))
     have d5:Hid (Zc pE 170 w3 w.heap.size v' (T (i+1))):=by
      show Zc _ _ _ _ _ _;rw[J.out];exact b6
     have d6:Hid _:=O.out.trans b7;clear b6 b7;go_wp2;go_roundw
     case rel=>exact⟨i+1,by omega,by go_num,d5.out,d6.out⟩
     case measure=>simp[intOf];omega
    ·have a2:i=2:=by omega
     subst a2;go_wp2;go_ret;exact⟨⟨_,rfl,b2.out⟩,O.out⟩
end
section
open Ring Go.Sort
theorem TW (h B:Nat)(w:World)(hB:B<w.heap.size)(K:w.cell? ⟨B,0,N⟩=S (.int .u32 (h:Int))):
 PredBelow prog 102 #[.pointer (S ⟨B,0,N⟩)] (fun x=>.agg (QS x).toArray) (fun x:Pt=>decide (h<=x.1)) w:=fun W x D=>by
 have U:=(D.cell (p:=⟨B,0,N⟩) hB).trans K;have Z:=ar hB D.size;have a0:B≠W.heap.size:=by omega
 obtain⟨a,y,i⟩:=x;have I:Hid (ac w.heap.size w (W.alloc (.cells #[.int .u32 (a:Int),.string y,.int .i64 (i:Int)] 170))):=D.alloc D.size _;show ah prog 102 #[.agg #[.int .u32 (a:Int),.string y,.int .i64 (i:Int)],.pointer (S ⟨B,0,N⟩)] W fun e w'=>e=.returned (.bool (decide (h<=a)))/\_
 clear D K;by_cases J:h<=a
 ·have H:Hid (decide (h<=a)=zi):=decide_eq_true J;have O:decide ((h:Int)<=(a:Int))=true:=decide_eq_true (by omega);rw[H.out];go_enter func102,ntmps102;go_wp2;go_ret;exact⟨rfl,I.out⟩
 ·have H:Hid (decide (h<=a)=bo):=decide_eq_false J;have O:=decide_eq_false (by omega);rw[H.out];go_enter func102,ntmps102;go_wp2;go_ret;exact⟨rfl,I.out⟩
theorem O8 (h:Nat)(nodes:List BA)(ps:List Pt)(I:lG nodes ps)(h1:1<=nodes.length):
 ∃f J:Nat,∃r:Int,Lib.idxBy (fun _ y:Pt=>decide (h<=y.1)) (ps.take ps.length) default=r/\(r=-1/\J=0∨r=(J:Int))/\J<=ps.length/\qL h nodes (QZ h f ps.length (XW ps)) ps.length/\∀j,j<ps.length->(QZ h f ps.length (XW ps) j).2=(XW ps ((J+j)%ps.length)).2:=by
 have U:0<ps.length:=by rw[I.len];omega
 have Z:∀i,i<ps.length->(XW ps i).1<4294967296:=fun i D=>by
  obtain⟨_,k,_,e⟩:=I.mem i D;rw[e];exact VX _
 have O:∀i,i<ps.length->(ps[i]!).1=(XW ps i).1:=fun i D=>by rw[nV D,getElem!_pos ps i D];rfl
 by_cases a0:∃i,i<ps.length/\h<=(XW ps i).1
 ·
  obtain⟨f,hf,K,a2⟩:∃f,f<ps.length/\h<=(XW ps f).1/\∀i,i<f->(XW ps i).1<h:=by
   obtain⟨i,D⟩:=a0
   induction i using Nat.strongRecOn with
   |ind i ih =>
    by_cases hs:∃j,j<i/\h<=(XW ps j).1
    ·obtain⟨j,H,K⟩:=hs;exact ih j H ⟨by omega,K⟩
    ·refine⟨i,D.1,D.2,fun j H=>?_⟩;rcases aa (XW ps j).1 h with B|B
     ·exact B
     ·exact absurd ⟨j,H,B⟩ hs
  refine⟨f,f,(f:Int),?_,ai rfl,by omega,BU U (by omega) Z I.sorted a2 (fun i h2 B=>?_) I.mem I.all,fun j _=>rfl⟩
  ·have:=Lib.idxBy_hit (fun _ y:Pt=>decide (h<=y.1)) ps ps.length f default hf nR (decide_eq_true (by rw[O f hf];exact K)) (fun j H=>decide_eq_false (by rw[O j (by omega)];have:=a2 j H;omega));exact this
  ·by_cases e:i=f
   ·rw[e];exact K
   ·have h4:=I.sorted f i (by omega) B;rcases aa (XW ps i).1 (XW ps f).1 with h5|h5
    ·exact absurd (ae h5) h4
    ·omega
 ·have a3:∀i,i<ps.length->(XW ps i).1<h:=fun i D=>by
   rcases aa (XW ps i).1 h with B|B
   ·exact B
   ·exact absurd ⟨i,D,B⟩ a0
  refine⟨ps.length,0,-1,?_,ae ⟨rfl,rfl⟩,an _,BU U nR Z I.sorted a3 (fun i h2 B=>by omega) I.mem I.all,fun j H=>?_⟩
  ·exact Lib.idxBy_miss (fun _ y:Pt=>decide (h<=y.1)) ps ps.length default (fun j H=>decide_eq_false (by rw[O j H];have:=a3 j H;omega))
  ·unfold QZ;rw[aS,Nat.add_mod_left]
theorem P4 (ps:List Pt)(f j:Nat)(B:f<=ps.length)(D:j<ps.length):(ps.drop f++ps.take f)[j]?=ps[(f+j)%ps.length]?:=by
 rcases aa (f+j) ps.length with h|h
 ·rw[List.getElem?_append_left (by rw[am];omega),List.getElem?_drop,af h]
 ·rw[List.getElem?_append_right (by rw[am];omega),am,List.getElem?_take_of_lt (by omega),aA h,af (by omega)]
  congr 1
  omega
theorem OJ (p:Option ax)(l:List Pt)(c k:Nat)(I:k<=l.length)(W:World):Sem.run prog (Instr.slice 146 (.slice p l.length c) (S (.int .i64 (k:Int))) N N) W=.ok (.slice (if c=k then p else p.map (·.add (k*3))) (l.drop k).length (c-k)) W:=by
 have B:(sizeOf (prog.elem 146)).run prog W=.ok 3 W:=by kernel_rfl
 have D:prog.elem 146=170:=by kernel_rfl
 have H:prog.underlying 146=S (.slice (prog.elem 146)):=by rw[D];exact underlying146
 rw[run_slice_l W 146 p l.length c H .i64 (k:Int) (by omega) (by omega),B];simp[Result.andThen,sliced]
theorem LZ (p:Option ax)(l:List Pt)(c k:Nat)(J:k<=l.length)(K:l.length<=c)(W:World):Sem.run prog (Instr.slice 146 (.slice p l.length c) N (S (.int .i64 (k:Int))) N) W=.ok (.slice p (l.take k).length c) W:=by
 have B:(sizeOf (prog.elem 146)).run prog W=.ok 3 W:=by kernel_rfl
 have D:prog.elem 146=170:=by kernel_rfl
 have H:prog.underlying 146=S (.slice (prog.elem 146)):=by rw[D];exact underlying146
 have I:(l.take k).length=k:=by rw[au];omega
 rw[run_slice_h W 146 p l.length c H .i64 (k:Int) (by omega) (by omega),B,I];simp[Result.andThen,sliced,Addr.add]
theorem CF:(prog.info? 9).map (fun i=>(i.zero,i.size,i.bytes))=S (S (.string ⟨#[]⟩),1,16):=by kernel_rfl
theorem Jjp (n:Nat)(O:n<=1000)(W:World):Sem.run prog (Instr.makeSlice 22 (.int .i64 0) (.int .i64 (n:Int))) W=.ok (.slice (S ⟨W.heap.size,0,N⟩) 0 n) (W.alloc (.cells (az #[.string ⟨#[]⟩] n) 9)):=by
 obtain⟨D,H,I,J,K⟩:=bg CF;have B:=run_make (P:=prog) W 22 9 D (.string ⟨#[]⟩) underlying22 H I .i64 .i64 0 n (by omega) (by omega) (by rw[K];omega) (by omega);simp only[Int.toNat_natCast,J,Nat.mul_one]at B;exact B
theorem Jqi (n:Nat)(B:n<=1000)(W:World):Zq (W.alloc (.cells (az #[.string ⟨#[]⟩] n) 9)) W.heap.size (.slice (S ⟨W.heap.size,0,N⟩) 0 n) []:=by
 refine⟨rfl,ai ⟨W.heap.size,n,az #[.string ⟨#[]⟩] n,rfl,av _,?_,an _,by unfold bv;omega,by simp[az],by simp⟩⟩;rw[heap_alloc_new]
structure Z6 (b:Nat) (w4:World) (v:aM) (w:World):Prop where
 os:w.os=w4.os
 tape:w.tape=w4.tape
 output:w.output=w4.output
 size:w4.heap.size<=w.heap.size
 block:∀k,k<w4.heap.size->k≠b->w.heap[k]?=w4.heap[k]?
 own:∀k,v.ownBlock=S k->k=b∨w4.heap.size<=k
theorem Z6.start {D:World}(h:v.ownBlock=S b):Z6 b D v D:=⟨rfl,rfl,rfl,av _,fun _ _ _=>rfl,fun k B=>ae (by rw[h]at B;exact(Option.some.inj B).symm)⟩
theorem Z6.below {H:World}(h:Z6 b H v w)(B:ac w.heap.size w w'):Z6 b H v w':=⟨B.os.trans h.os,B.tape.trans h.tape,B.output.trans h.output,aC h.size B.size,fun k D I=>(B.block k (ar D h.size)).trans (h.block k D I),h.own⟩
theorem Z6.app {J:World}{H:aM}(h:Z6 b J v w)(hg:w.grownBy w' v.ownBlock)(hv:H.ownBlock=v.ownBlock∨H.ownBlock=S w.heap.size):Z6 b J H w':=by
 obtain⟨K,O,U,Z,h5⟩:=hg;refine⟨K.trans h.os,O.trans h.tape,U.trans h.output,aC h.size Z,fun k B I=>(h5 k (ar B h.size) (fun e=>?_)).trans (h.block k B I),fun k B=>?_⟩
 ·rcases h.own k e.symm with D|D
  ·exact I D
  ·omega
 ·rcases hv with D|D
  ·exact h.own k (by rw[<-D];exact B)
  ·rw[D]at B;exact ai (by rw[<-Option.some.inj B];exact h.size)
theorem Z6.toBelow {B:World}(h:Z6 b B v w)(H:b<=B.heap.size):ac b B w:=⟨h.os,h.tape,h.output,h.size,fun k D=>h.block k (by omega) (by omega)⟩
theorem Z6.cell {B:World}(h:Z6 b B v w){p:ax}(D:p.block<B.heap.size)(H:p.block≠b):w.cell? p=B.cell? p:=by
 unfold World.cell?;rw[h.block p.block D H]
theorem OU {ops:Array Oper}{rest:List Oper}{o:Oper}{a:Act}{Q:Exit->Act->World->Prop}(a0:o.guard=N)(s x:Operand)
 (ho:o.op=.call {callee:=.builtin .append,args:=#[s,x],argTypes:=#[22,22]})
 (B:Nat) (v:aM) (l:List BA) (hs:a.eval s=v) (a2:Zq w B v l) (ad:ax) (t:BA) (c:Nat) (hx:a.eval x=.slice (S ad) 1 c) (hq:w.cell? ad=S (.string t)) (hl:l.length+1<=1000000) (a3:B<=w.heap.size)
 (h:∀D w',Zq w' B D (l++ [t])->w.grownBy w' v.ownBlock->(D.ownBlock=v.ownBlock∨D.ownBlock=S w.heap.size)->zp prog ops Q rest (a.put o.dst D) w'):zp prog ops Q (o::rest) a w:=by
 obtain⟨H,I,J,K,O⟩:=bg CF;refine yL a0 s x _ ho B 9 H (.string ⟨#[]⟩) 16 underlying22 I J rfl K O (by decide) v (l.map Value.string) hs a2 ad c (.string t) rfl hx hq (by rw[List.length_map];exact hl) a3 fun D w' U Z h3=>h D w' ?_ Z h3
 unfold Zq;rw[List.map_append];exact U
end
section
open Ring Go.Sort
theorem Jtp {ps:List Pt}{B:Nat}(I:B<=ps.length)(J:∀j,j<ps.length->(QZ h f ps.length (XW ps) j).2=(XW ps ((B+j)%ps.length)).2)(K:0<ps.length)(H:j<ps.length):
 ∃x:Pt,(ps.drop B++ps.take B)[j]?=S x/\x.2.1=(QZ h f ps.length (XW ps) j).2:=by
 have D:(B+j)%ps.length<ps.length:=ba _ K;refine⟨ps[(B+j)%ps.length],by rw[P4 ps B j I H,ag D],?_⟩;rw[J j H,nV D];rfl
theorem WY (g cap:Nat)(ps:List Pt)(nodes:List BA)(h n:Nat)(w:World)(hr:lG nodes ps)(l0:1<=nodes.length)(m9:nodes.length<=16)(hn:n<=nodes.length)(hx:∀x∈nodes,x.size<=16)(h7:nodes.Nodup)(h8:ps.length<=cap)(b6:Ql pE w (S ⟨g,0,N⟩) ps):
 ah prog 75 #[.slice (S ⟨g,0,N⟩) ps.length cap,.int .u32 (h:Int),.int .i64 (n:Int)] w fun e w'=>(∃v D,e=.returned v/\Zq w' w.heap.size v D/\D.length=n/\XC h nodes D)/\ac w.heap.size w w':=by
 have a9:=hr.len;obtain⟨f,B,r,e4,e5,b0,e6,e7⟩:=O8 h nodes ps hr l0;have hg:g<w.heap.size:=by
  rcases b6 with Z|⟨b,o,hp,h9,_⟩
  ·rw[Z]at a9;simp at a9;omega
  ·obtain⟨rfl,rfl⟩:g=b/\0=o:=by simpa using hp
   exact h9
 obtain⟨w1,a3⟩:=Xb (w.alloc (.cells #[.int .u32 (h:Int)] 149));have b7:=Zk a3;have i0:=QT a3;have e8:=b6.below b7;have b8:=slices_IndexFunc 3 isAgg170 sizeOf170 QS (fun _=>rfl) (fun x:Pt=>decide (h<=x.1)) 102 #[.pointer (S ⟨w.heap.size,0,N⟩)] (enters_of func102 (by kernel_rfl) rfl) g 0 ps.length cap ps w1
  (TW h w.heap.size w1 (by omega) (by rw[a3];simp)) nR (by omega) (by omega) (fun j hj i v hv=>by
   rcases e8 with Z|⟨b,o,hp,_,hc⟩
   ·rw[Z]at hj;exact absurd hj (aw _)
   ·obtain⟨rfl,rfl⟩:g=b/\0=o:=by simpa using hp
    have:=hc j ps[j] (ag hj) i v (by rw[getElem!_pos ps j hj]at hv;exact hv);exact this)
 rw[e4]at b8;have e9:Hid _:=a3;have c8:Hid _:=b7;have d0:Hid (Ql pE w (S ⟨g,0,N⟩) ps):=b6;have d1:Hid (qL h nodes (QZ h f ps.length (XW ps)) ps.length):=e6;have i1:Hid nodes.Nodup:=h7;have HX:Hid (∀x∈nodes,x.size<=16):=hx;have i2:Hid (∀j,j<ps.length->∃x:Pt,(ps.drop B++ps.take B)[j]?=S x/\x.2.1=(QZ h f ps.length (XW ps) j).2):=fun j hj=>Jtp b0 e7 (by omega) hj
 have f3:Hid ((ps.drop B++ps.take B).length=ps.length):=by show _=_;rw[aj,am,au];omega
 have i3:Hid (ps.length=8*nodes.length):=a9;have l7:ps.length<=128:=by omega
 have l9:1<=ps.length:=by omega
 have m0:=OJ (S ⟨g,0,N⟩) ps cap B b0;have m4:=LZ (S ⟨g,0,N⟩) ps cap B b0 h8;have i4:=Jjp n (by omega);have f4:Hid (∀W:World,Zq (W.alloc (.cells (az #[.string ⟨#[]⟩] n) 9)) W.heap.size (.slice (S ⟨W.heap.size,0,N⟩) 0 n) []):=fun W=>Jqi n (by omega) W
 have HD:Hid (∀W,ac w.heap.size w W->(Ql pE W (if cap=B then S ⟨g,0,N⟩else(S (⟨g,0,N⟩:ax)).map (·.add (B*3))) (ps.drop B)/\((if cap=B then S ⟨g,0,N⟩else(S (⟨g,0,N⟩:ax)).map (·.add (B*3)))=N->ps.drop B=[]/\cap-B=0))/\Ql pE W (S ⟨g,0,N⟩) (ps.take B)):=fun W hW=>⟨(d0.out.below hW).drop b0 h8 (fun e=>by cases e),(d0.out.below hW).take B⟩
 clear a3 b7 i0 e8 e4 b6 e6 e7 hr h7 hx a9 hg;generalize (if cap=B then S ⟨g,0,N⟩else(S (⟨g,0,N⟩:ax)).map (·.add (B*3)))=pd at *;generalize QZ h f ps.length (XW ps)=R at *;have m5:max (0:Int) r=(B:Int):=by
  rcases e5 with⟨h1,h2⟩|h1<;>omega
 clear e5;go_enter func75,ntmps75;go_wp2_with fail
 rw[<-e9.out];refine b8.mono ?_;rintro e H ⟨rfl,f5⟩;have b1:Hid (ac w.heap.size w H):=c8.out.trans (f5.mono c8.out.size);clear f5 b8 e9 c8;go_wp2;have d2:=f4.out H;have d3:ac w.heap.size w (H.alloc (.cells (az #[.string ⟨#[]⟩] n) 9)):=b1.out.alloc b1.out.size _;generalize H.alloc (.cells (az #[.string ⟨#[]⟩] n) 9)=w3 at d2 d3 ⊢;have b2:Hid (Zq w3 H.heap.size (.slice (S ⟨H.heap.size,0,N⟩) 0 n) []):=d2;have a4:Hid (ac w.heap.size w w3):=d3;have HZ:Hid (w.heap.size<=H.heap.size):=b1.out.size;clear d2 d3 b1 f4 i4;have f6:Hid (∀W,ac w.heap.size w W->∀gq,W.cell? ⟨gq,0,N⟩=S (.slice pd (ps.drop B).length (cap-B))->W.cell? ⟨gq,1,N⟩=S (.slice (S ⟨g,0,N⟩) (ps.take B).length cap)->ah prog 103 #[.slice (S ⟨gq,0,N⟩) 2 2] W fun e w'=>(∃v,e=.returned v/\Zc pE 170 w' W.heap.size v (ps.drop B++ps.take B))/\ac W.heap.size W w'):=fun W hW gq q1 q2=>by
  obtain⟨⟨h1,h2⟩,h3⟩:=HD.out W hW;exact OW gq 2 pd (S ⟨g,0,N⟩) (ps.drop B) (ps.take B) (cap-B) cap W (by rw[am,au];omega) (by rw[am,au];omega) q1 q2 h1 h3 h2 (fun e=>by cases e)
 have m6:(B:Int)<=(ps.length:Int):=by omega
 generalize (ps.drop B).length=m1 at *;generalize (ps.take B).length=m2 at *;have f7:Hid (ah prog 103 #[.slice (S ⟨w3.heap.size,0,N⟩) 2 2] (w3.alloc (.cells #[.slice pd m1 (cap-B),.slice (S ⟨g,0,N⟩) m2 cap] 146)).drew fun e w'=>(∃v,e=.returned v/\Zc pE 170 w' w3.heap.size v (ps.drop B++ps.take B))/\ac w3.heap.size w3 w'):=by
  have hq:=f6.out (w3.alloc (.cells #[.slice pd m1 (cap-B),.slice (S ⟨g,0,N⟩) m2 cap] 146)).drew ((a4.out.alloc a4.out.size _).drew) w3.heap.size (by simp) (by simp);refine hq.mono ?_;rintro e w' ⟨⟨v,rfl,hO⟩,hb⟩;have d4:(w3.alloc (.cells #[.slice pd m1 (cap-B),.slice (S ⟨g,0,N⟩) m2 cap] 146)).drew.heap.size=w3.heap.size+1:=by simp
  exact⟨⟨v,rfl,hO.base (by omega)⟩,(((Below.refl _ w3).alloc nR _).drew).trans (hb.mono (by omega))⟩
 have d5:Hid ((ps.drop B++ps.take B).length=ps.length):=f3.out;clear f6 HD f3;go_region_with (go_at_call 103;refine f7.out.mono ?_;rintro e I ⟨⟨v4,rfl,f8⟩,a5⟩;obtain⟨p4,c4,rfl,d6,i5,i8,f9⟩:=f8.form)
 rw[d5.out]at i5;have i9:Hid (Ql pE I p4 (ps.drop B++ps.take B)):=d6;have m7:Hid (ac w3.heap.size w3 I):=a5;have j1:Hid (ac w.heap.size w I):=a4.out.trans (a5.mono a4.out.size);have j2:Hid (Zq I H.heap.size (.slice (S ⟨H.heap.size,0,N⟩) 0 n) []):=b2.out.kept a5;obtain⟨g4,o4,rfl⟩:∃b o,p4=S ⟨b,o,N⟩:=by
  rcases d6 with Z|⟨b,o,hp,_⟩
  ·have:=d5.out;rw[Z]at this;simp at this;omega
  ·exact⟨b,o,hp⟩
 have g0:Hid (H.heap.size<=I.heap.size):=by
  show _<=_;have h1:H.heap.size<=w3.heap.size:=by
   rcases aa H.heap.size w3.heap.size with h|h
   ·omega
   ·have:=(b2.out.block (k:=H.heap.size) rfl).2;omega
  have:=a5.size;omega
 have g1:Hid (g4≠H.heap.size/\g4<I.heap.size):=by
  have h1:=f9 g4 o4 rfl;have h2:=(b2.out.block (k:=H.heap.size) rfl).2;exact⟨by omega,h1.2⟩
 clear f8 a5 d6 i8 f9 b2 a4 f7 d0 i3;go_simp;go_wp2;go_loopw [8,26] (fun v x wq=>∃(j:Nat) (D:List BA),j<=ps.length/\x=.int .i64 j/\Zq wq H.heap.size v D/\Qz h nodes R n j D/\Z6 H.heap.size I v wq) (fun _ x _=>ps.length-(intOf x).toNat)
 case atStart=>exact⟨0,[],an _,rfl,j2.out,Qz.start _ _ _ _,Z6.start rfl⟩
 case round =>
  obtain⟨j,D,hj,rfl,d7,d8,hB⟩:=hrel;obtain⟨J,rfl⟩:=Xb wr;obtain⟨K,O,rfl,g2,_,_,k0⟩:=d7.form;have g3:Hid (Zq J H.heap.size (.slice K D.length O) D):=d7;have a6:Hid (Qz h nodes R n j D):=d8;have d9:Hid (Z6 H.heap.size I (.slice K D.length O) J):=hB;have k2:Hid (Strs J K D):=g2;have g5:Hid (D.length<=16):=by show _<=_;have:=d8.le;omega
  clear d7 d8 hB g2 k0;by_cases e0:j<ps.length
  ·obtain⟨x,g6,e2⟩:=i2.out j e0;have b3:∀i u,(QS x)[i]?=S u->J.cell? ⟨g4,o4+j*3+i,N⟩=S u:=fun i u hu=>by
    rcases i9.out with Z|⟨b,o,hp,_,hc⟩
    ·have:=d5.out;rw[Z]at this;simp at this;omega
    ·obtain⟨rfl,rfl⟩:g4=b/\o4=o:=by simpa using hp
     exact(d9.out.cell (p:=⟨g4,o4+j*3+i,N⟩) g1.out.2 g1.out.1).trans (hc j x g6 i u hu)
   have q1:=b3 0 _ rfl;have q2:=b3 1 _ rfl;have q3:=b3 2 _ rfl;rw[Nat.add_zero]at q1;have g7:Hid (x.2.1=(R j).2):=e2;have d4:x.2.1.size<=16:=by rw[e2];exact HX.out _ (d1.out.mem j e0).1
   obtain⟨a,y,i⟩:=x;clear b3 g6 e2;have b4:Hid (Z6 H.heap.size I (.slice K D.length O) (J.alloc (.cells #[.int .u32 (a:Int),.string y,.int .i64 (i:Int)] 170))):=d9.out.below (bR.alloc nR _);have b5:Hid (Zq (J.alloc (.cells #[.int .u32 (a:Int),.string y,.int .i64 (i:Int)] 170)) H.heap.size (.slice K D.length O) D):=g3.out.kept (bR.alloc nR _);by_cases g8:D.length<n
   ·have a0:Hid (ah prog 51 #[.slice K D.length O,.string y] (J.alloc (.cells #[.int .u32 (a:Int),.string y,.int .i64 (i:Int)] 170)) fun e w'=>e=.returned (.bool (Xu D y))/\w'=(J.alloc (.cells #[.int .u32 (a:Int),.string y,.int .i64 (i:Int)] 170))):=vN K D O y _ (by have:=g5.out;omega) (k2.out.below (bR.alloc nR _));have e1:(J.alloc (.cells #[.int .u32 (a:Int),.string y,.int .i64 (i:Int)] 170)).cell? ⟨J.heap.size,1,N⟩=S (.string y):=by simp
    by_cases a2:y∈D
    ·have a7:Hid (Qz h nodes R n (j+1) D):=a6.out.skip (by rw[<-g7.out];exact a2);rw[Zl.2 a2]at a0;clear a2;go_wp2_with fail
     refine a0.out.mono ?_;rintro e U ⟨rfl,a8⟩;rw[a8];clear a8 U a0;go_wp2;go_roundw
     case rel=>exact⟨j+1,D,by omega,by go_num,b5.out,a7.out,b4.out⟩
     case measure=>simp[intOf];omega
    ·have a7:Hid (Qz h nodes R n (j+1) (D++ [y])):=by
      show Qz h nodes R n (j+1) (D++ [y]);have hy:y=(R j).2:=g7.out;rw[hy];exact a6.out.push d1.out e0 g8 (by rw[<-hy];exact a2)
     rw[aB.2 (fun h=>a2 (Zl.1 h))]at a0;have m8:y.size<=1000000:=by have:y.size<=16:=d4;omega
     clear a2 d4;go_wp2_with fail
     refine a0.out.mono ?_;rintro e U ⟨rfl,a8⟩;rw[a8];clear a8 U a0;generalize J.alloc (.cells #[.int .u32 (a:Int),.string y,.int .i64 (i:Int)] 170)=w6 at b4 b5 e1 ⊢;go_wp2_with fail
     refine(Xs y w6 (by omega)).mono ?_;rintro e U ⟨rfl,e3⟩;have g9:Hid (Z6 H.heap.size I (.slice K D.length O) (U.alloc (.cells #[.string y] 9))):=(b4.out.below e3).below (bR.alloc nR _);have k3:Hid (Zq (U.alloc (.cells #[.string y] 9)) H.heap.size (.slice K D.length O) D):=(b5.out.kept e3).kept (bR.alloc nR _);have k4:Hid (H.heap.size<=(U.alloc (.cells #[.string y] 9)).heap.size):=aC g0.out g9.out.size;clear e3 e1 q1 q2 q3;go_wp2_with (first|(at_builtin;refine OU rfl (.tmp 41) (.tmp 45) rfl H.heap.size (.slice K D.length O) D rfl k3.out ⟨U.heap.size,0,N⟩ y 1 rfl (by rw[World.cell?_alloc_at _ _ _ _ rfl];rfl) (by have:=g5.out;omega) k4.out ?_;intro v' w8 h4 h5 h6))
     have k5:Hid (Zq w8 H.heap.size v' (D++ [y])):=h4;have k6:Hid (Z6 H.heap.size I v' w8):=g9.out.app h5 h6;clear h4 h5 h6;go_wp2;go_roundw
     case rel=>exact⟨j+1,D++ [y],by omega,by go_num,k5.out,a7.out,k6.out⟩
     case measure=>simp[intOf];omega
   ·have a7:Hid (Qz h nodes R n (j+1) D):=a6.out.full g8;go_wp2;go_roundw
    case rel=>exact⟨j+1,D,by omega,by go_num,b5.out,a7.out,b4.out⟩
    case measure=>simp[intOf];omega
  ·have k7:j=ps.length:=by omega
   subst k7;have HE:Hid (D.length=n):=a6.out.done d1.out hn i1.out;go_wp2;go_ret;exact⟨⟨_,D,rfl,g3.out.base HZ.out,HE.out,a6.out.kX⟩,j1.out.trans ((d9.out.toBelow g0.out).mono HZ.out)⟩
end
theorem zF (ad:Nat->ax)(p:Option ax)(l:List BA)(c:Nat)(w:World)(H:l.length<=1000)(I:l.length<=c)(J:Strs w p l)(B:i7 w ad):
 ah prog 28 #[.slice p l.length c] w fun e w'=>(∃D,e=.returned D/\Jd w' ad D (Xj l).1 (Xj l).2)/\ac w.heap.size w w':=by
 exact IF ad p l c w H I J ⟨B.c1,B.c3,B.c5⟩
section
open Ring
def I9 (w:World)(ad:Nat->ax)(B:Nat)(nodes:List BA)(h:Nat)(n:Int)(e:Ending):Prop :=
 (0<(Jm nodes n).1/\∃q c H,e=.returned (.tuple #[.slice q 0 c,H])/\Jd w ad H (Jm nodes n).1 (Jm nodes n).2) ∨
 (¬0<(Jm nodes n).1/\∃v D,e=.returned (.tuple #[v,.nilIface])/\Zq w B v D/\(D.length:Int)=n/\XC h nodes D)
structure P7 (ad:Nat->ax):Prop where
 check:∀(p:Option ax) (l:List BA) (c:Nat) (w:World),l.length<=1000->l.length<=c->(∀x∈l,x.size<=1000)->Strs w p l->i7 w ad ->
  ah prog 28 #[.slice p l.length c] w fun e w'=>(∃ev,e=.returned ev/\Jd w' ad ev (Xj l).1 (Xj l).2)/\ac w.heap.size w w'
 jD:∀(p:Option ax) (l:List BA) (c:Nat) (key:BA) (n:Int) (w:World),l.length<=1000->l.length<=c->(∀x∈l,x.size<=1000)->key.size<=1000->Strs w p l->i7 w ad ->
  ah prog 31 #[.slice p l.length c,.string key,.int .i64 n] w fun e w'=>I9 w' ad w.heap.size l (Xy key) n e/\ac w.heap.size w w'
end
section
open Ring Go.Sort
theorem rG {o:Nat}(h:w.cell? ⟨b,o,N⟩=S v):b<w.heap.size:=by
 rcases aa b w.heap.size with B|B
 ·exact B
 ·simp[World.cell?,aD B]at h
def sU (w:World)(nodes:List BA)(n:Nat)(H:Array aM):Prop :=
 ∃(B D g cap:Nat) (ps:List Pt),H=#[.pointer (S ⟨B,0,N⟩),.pointer (S ⟨D,0,N⟩)]/\w.cell? ⟨B,0,N⟩=S (.slice (S ⟨g,0,N⟩) ps.length cap)/\w.cell? ⟨D,0,N⟩=S (.int .i64 (n:Int))/\ps.length<=cap/\Ql pE w (S ⟨g,0,N⟩) ps/\lG nodes ps
structure cH (nodes:List BA) (n:Nat):Prop where
 l1:1<=nodes.length
 l2:nodes.length<=16
 sz:∀x∈nodes,x.size<=16
 nd:nodes.Nodup
 n:n<=nodes.length
theorem FT {n:Int}(h:¬0<(Jm l n).1):cH l n.toNat/\((n.toNat:Nat):Int)=n:=by
 obtain⟨B,O,U,_⟩:=sK h;obtain⟨D,H⟩:=YP B;obtain⟨_,I,J⟩:=QV B;exact⟨⟨I,J,fun x K=>(QF (D x K)).2,H,by omega⟩,by omega⟩
theorem JoT (nodes:List BA)(n:Nat)(lb:Array aM)(key:BA)(w:World)(hk:key.size<=1000)(D:cH nodes n)(hc:sU w nodes n lb):
 ah prog 74 (#[.string key]++lb) w fun e w'=>(∃v B,e=.returned v/\Zq w' w.heap.size v B/\B.length=n/\XC (Xy key) nodes B)/\ac w.heap.size w w':=by
 obtain⟨bp,bn,g,cap,ps,rfl,q1,q2,J,K,O⟩:=hc;have U:Hid (∀W,ah prog 76 #[.string key] W fun e w'=>e=.returned (.int .u32 ((Xy key:Nat):Int))/\w'=W):=fun W=>IH key W (by omega)
 have Z:Hid (∀W,ac w.heap.size w W->ah prog 75 #[.slice (S ⟨g,0,N⟩) ps.length cap,.int .u32 ((Xy key:Nat):Int),.int .i64 (n:Int)] W fun e w'=>(∃v B,e=.returned v/\Zq w' W.heap.size v B/\B.length=n/\XC (Xy key) nodes B)/\ac W.heap.size W w'):=fun W hW=>WY g cap ps nodes (Xy key) n W O D.l1 D.l2 D.n D.sz D.nd J (K.below hW)
 clear D J K O;generalize Xy key=h at *;generalize ps.length=m at *;show ah prog 74 #[.string key,.pointer (S ⟨bp,0,N⟩),.pointer (S ⟨bn,0,N⟩)] w _;go_enter func74,ntmps74;go_wp2;refine aJ 4 (by kernel_rfl) (by kernel_rfl) ?_;simp only[aO,bb,aP,bf]
 still_step
 still_step
 still_call (U.out _)
 still_step
 refine wpStill_nil ?_;change zp _ _ _ _ _ (w.drewN 1);have hs:(w.drewN 1).heap.size=w.heap.size:=rfl;have H:Hid (ah prog 75 #[.slice (S ⟨g,0,N⟩) m cap,.int .u32 (h:Int),.int .i64 (n:Int)] (w.drewN 1) fun e w'=>(∃v B,e=.returned v/\Zq w' w.heap.size v B/\B.length=n/\XC h nodes B)/\ac w.heap.size w w'):=by
  refine(Z.out (w.drewN 1) (zc bR 1)).mono ?_;rintro e w' ⟨h1,h2⟩;exact⟨h1,(zc (Below.refl _ w) 1).trans h2⟩
 generalize w.drewN 1=w1 at H ⊢;clear Z U hs q1 q2;go_wp2_with fail
 refine H.out.mono ?_;rintro e w2 ⟨⟨v,B,rfl,hO,hl,hp⟩,hb⟩;have I:Hid (Zq w2 w.heap.size v B/\B.length=n/\XC h nodes B):=⟨hO,hl,hp⟩;clear hO hl hp H;go_wp2;go_ret;exact⟨⟨_,B,rfl,I.out.1,I.out.2.1,I.out.2.2⟩,hb⟩
theorem UE {n:Int}(h:0<(Xj l).1):Jm l n=Xj l:=if_pos h
theorem VA {n:Int}(h:¬0<(Xj l).1)(B:(l.length:Int)<n):Jm l n=(8,-1):=by unfold Jm;rw[if_neg h,if_pos B]
theorem R9 {n:Int}(h:¬0<(Xj l).1)(B:¬(l.length:Int)<n)(D:n<0):Jm l n=(2,-1):=by unfold Jm;rw[if_neg h,if_neg B,if_pos D]
theorem Jd.none {ad:Nat->ax}{D:aM}{c at_:Int}(h:Jd w ad D c at_)(H:¬0<c):D=.nilIface:=by
 rcases h with⟨B,_⟩|⟨i,_,_,B,_⟩|⟨i,_,_,_,B,_⟩
 ·exact B
 ·exact absurd (by rw[B];omega) H
 ·exact absurd (by rw[B];omega) H
theorem UL (ad:Nat->ax)(p:Option ax)(l:List BA)(c:Nat)(n:Int)(w:World)(hl:l.length<=1000)(hc:l.length<=c)(hs:Strs w p l)(hE:i7 w ad)(h:0<(Jm l n).1):
 ah prog 52 #[.slice p l.length c,.int .i64 n] w fun e w'=>(∃K,e=.returned (.tuple #[.nilFunc,K])/\Jd w' ad K (Jm l n).1 (Jm l n).2)/\ac w.heap.size w w':=by
 obtain⟨w1,a0⟩:=Xb (w.alloc (.cells #[.int .i64 n] 3));have O:=Zk a0;have q0:w1.cell? ⟨w.heap.size,0,N⟩=S (.int .i64 n):=by rw[a0];simp
 have H:=zF ad p l c w1 hl hc (hs.below O) (hE.below O);have a4:Hid _:=hE.below O;have a3:Hid _:=a0;have I:Hid _:=O;have a2:Hid _:=q0;clear a0 O hs hE q0;by_cases J:0<(Xj l).1
 ·rw[UE J];clear h;go_enter func52,ntmps52;go_wp2_with fail
  rw[<-a3.out];refine H.mono ?_;rintro e w2 ⟨⟨K,rfl,D⟩,B⟩;have U:Hid _:=D;obtain⟨t,v,rfl⟩:=D.some J;have Z:Hid _:=I.out.trans (B.mono I.out.size);clear B H D;go_wp2
  go_ret2
  exact⟨⟨_,rfl,U.out⟩,Z.out⟩
 ·by_cases h2:(l.length:Int)<n
  ·rw[VA J h2];clear h;go_enter func52,ntmps52;go_wp2_with fail
   rw[<-a3.out];refine H.mono ?_;rintro e w2 ⟨⟨K,rfl,D⟩,B⟩;obtain rfl:=D.none (by omega);have Z:Hid _:=I.out.trans (B.mono I.out.size);have q0:=(B.cell (p:=⟨w.heap.size,0,N⟩) (rG a2.out)).trans a2.out;have q7:=(a4.out.below B).c7;have U:Hid (∀W,Jd W ad (.iface 287 (.pointer (S (ad 7)))) 8 (-1)):=fun W=>Jd.b8 7 (by decide)
   clear B H D;have d1:=decide_eq_true h2;go_wp2;go_quiet (fail)
   go_wp2
   go_ret2
   exact⟨⟨_,rfl,U.out _⟩,zc Z.out _⟩
  ·by_cases h3:n<0
   ·rw[R9 J h2 h3];clear h;go_enter func52,ntmps52;go_wp2_with fail
    rw[<-a3.out];refine H.mono ?_;rintro e w2 ⟨⟨K,rfl,D⟩,B⟩;obtain rfl:=D.none (by omega);have Z:Hid _:=I.out.trans (B.mono I.out.size);have q0:=(B.cell (p:=⟨w.heap.size,0,N⟩) (rG a2.out)).trans a2.out;have q7:=(a4.out.below B).c1;have U:Hid (∀W,Jd W ad (.iface 287 (.pointer (S (ad 1)))) 2 (-1)):=fun W=>Jd.b8 1 (by decide)
    clear B H D;have d1:decide ((l.length:Int)<n)=false:=decide_eq_false (by omega);have d2:=decide_eq_true h3;go_wp2;go_quiet (fail)
    go_wp2
    go_ret2
    exact⟨⟨_,rfl,U.out _⟩,zc Z.out _⟩
   ·exfalso;unfold Jm at h;rw[if_neg J,if_neg h2,if_neg h3]at h;exact J h
theorem JoU (ad:Nat->ax)(p:Option ax)(l:List BA)(c:Nat)(n:Int)(w:World)(hl:l.length<=1000)(hc:l.length<=c)(hs:Strs w p l)(hE:i7 w ad)(h:¬0<(Jm l n).1):
 ah prog 52 #[.slice p l.length c,.int .i64 n] w fun e w'=>(∃lb,e=.returned (.tuple #[.func (.func 74) #[] lb,.nilIface])/\sU w' l n.toNat lb)/\ac w.heap.size w w':=by
 obtain⟨H,hn⟩:=FT h;have hN:¬0<(Xj l).1:=by have:=(sK h).1;omega
 obtain⟨D,O⟩:=Xb (w.alloc (.cells #[.int .i64 n] 3));have I:=Zk O;have J:D.cell? ⟨w.heap.size,0,N⟩=S (.int .i64 n):=by rw[O];simp
 have HC:=zF ad p l c D hl hc (hs.below I) (hE.below I);have HP:Hid (∀W,ac D.heap.size D W->ah prog 73 #[.slice p l.length c] W fun e w'=>(∃g cap ps,e=.returned (.slice (S ⟨g,0,N⟩) ps.length cap)/\ps.length<=cap/\W.heap.size<=g/\Ql pE w' (S ⟨g,0,N⟩) ps/\lG l ps)/\ac W.heap.size W w'):=fun W hW=>OS p l c W H.l1 H.l2 H.sz ((hs.below I).below hW)
 have a7:Hid _:=O;have a0:Hid _:=I;have a2:Hid _:=J;have a8:Hid _:=hn;have d1:decide ((l.length:Int)<n)=false:=decide_eq_false (by have:=H.n;omega);have d2:decide (n<0)=false:=decide_eq_false (by omega);clear O I hs hE J hn H h;go_enter func52,ntmps52;go_wp2_with fail
 rw[<-a7.out];refine HC.mono ?_;rintro e K ⟨⟨ev,rfl,hI⟩,U⟩;obtain rfl:=hI.none (by omega);have a9:Hid (ac D.heap.size D K):=U;have a3:Hid (ac w.heap.size w K):=a0.out.trans (U.mono a0.out.size);have J:K.cell? ⟨w.heap.size,0,N⟩=S (.int .i64 n):=(U.cell (p:=⟨w.heap.size,0,N⟩) (rG a2.out)).trans a2.out;have a4:Hid (K.cell? ⟨w.heap.size,0,N⟩=S (.int .i64 n)):=J;clear U HC hI;go_wp2_with fail
 refine(HP.out K a9.out).mono ?_;rintro e B ⟨⟨g,cap,ps,rfl,h4,h5,h6,h7⟩,Z⟩;have a5:Hid (ac w.heap.size w B):=a3.out.trans (Z.mono a3.out.size);have b0:Hid (sU (B.alloc (.cells #[.slice (S ⟨g,0,N⟩) ps.length cap] 146)) l n.toNat #[.pointer (S ⟨B.heap.size,0,N⟩),.pointer (S ⟨w.heap.size,0,N⟩)]):=by
  have a6:ac B.heap.size B (B.alloc (.cells #[.slice (S ⟨g,0,N⟩) ps.length cap] 146)):=bR.alloc nR _;have q3:B.cell? ⟨w.heap.size,0,N⟩=S (.int .i64 n):=(Z.cell (p:=⟨w.heap.size,0,N⟩) (rG a4.out)).trans a4.out;refine⟨B.heap.size,w.heap.size,g,cap,ps,rfl,by simp,?_,h4,h6.below a6,h7⟩;rw[a8.out];exact(a6.cell (p:=⟨w.heap.size,0,N⟩) (rG q3)).trans q3
 clear h4 h5 h6 h7 Z HP J;generalize ps.length=m at *;go_wp2
 go_ret2
 exact⟨⟨_,rfl,b0.out⟩,a5.out.alloc a5.out.size _⟩
end
section
open Ring
theorem Jju:∀args W,(callFunc 74 args).run prog W=.ok (.enter 74 args) W:=enters_of func74 (by kernel_rfl) rfl
theorem JoP (ad:Nat->ax)(p:Option ax)(l:List BA)(c:Nat)(key:BA)(n:Int)(w:World)(Z:l.length<=1000)(hc:l.length<=c)(I:Strs w p l)(J:i7 w ad)(h:0<(Jm l n).1):
 ah prog 31 #[.slice p l.length c,.string key,.int .i64 n] w fun e w'=>(∃B,e=.returned (.tuple #[.slice N 0 0,B])/\Jd w' ad B (Jm l n).1 (Jm l n).2)/\ac w.heap.size w w':=by
 have H:=UL ad p l c n w Z hc I J h;generalize Jm l n=F at *;clear I J;go_enter func31,ntmps31;go_wp2_with fail
 refine H.mono ?_;rintro e K ⟨⟨B,rfl,D⟩,O⟩;have U:Hid (Jd K ad B F.1 F.2):=D;obtain⟨t,v,rfl⟩:=D.some h;clear D H;go_wp2
 go_ret2
 exact⟨⟨_,rfl,U.out⟩,O⟩
theorem JqH (ad:Nat->ax)(p:Option ax)(l:List BA)(c:Nat)(key:BA)(n:Int)(w:World)(hl:l.length<=1000)(hc:l.length<=c)(hk:key.size<=1000)(hs:Strs w p l)(hE:i7 w ad)(h:¬0<(Jm l n).1):
 ah prog 31 #[.slice p l.length c,.string key,.int .i64 n] w fun e w'=>(∃v B,e=.returned (.tuple #[v,.nilIface])/\Zq w' w.heap.size v B/\(B.length:Int)=n/\XC (Xy key) l B)/\ac w.heap.size w w':=by
 have U:=JoU ad p l c n w hl hc hs hE h;obtain⟨Z,hn⟩:=FT h;have a0:Hid (∀D W,sU W l n.toNat D->ah prog 74 (#[.string key]++D) W fun e w'=>(∃v B,e=.returned v/\Zq w' W.heap.size v B/\(B.length:Int)=n/\XC (Xy key) l B)/\ac W.heap.size W w'):=fun D W hW=>by
  refine(JoT l n.toNat D key W hk Z hW).mono ?_;rintro e w' ⟨⟨v,B,rfl,H,I,J⟩,hb⟩;exact⟨⟨v,B,rfl,H,by rw[I];exact hn,J⟩,hb⟩
 generalize Xy key=hh at *;clear hs hE h Z hn;have a6:=Jju;go_enter func31,ntmps31;go_wp2_with fail
 refine U.mono ?_;rintro e w1 ⟨⟨D,rfl,a2⟩,a3⟩;have a4:=a0.out D w1 a2;have K:Hid (ac w.heap.size w w1):=a3;clear U a2 a3 a0;go_wp2_with fail
 refine a4.mono ?_;rintro e w2 ⟨⟨v,B,rfl,H,I,J⟩,a5⟩;have O:Hid (Zq w2 w.heap.size v B/\(B.length:Int)=n/\XC hh l B):=⟨H.base K.out.size,I,J⟩;clear H I J a4;go_wp2
 go_ret2
 exact⟨⟨_,B,rfl,O.out.1,O.out.2.1,O.out.2.2⟩,K.out.trans (a5.mono K.out.size)⟩
theorem FU (ad:Nat->ax):P7 ad where
 check p l c w h1 h2 h3 h4 h5:=zF ad p l c w h1 h2 h4 h5
 jD p l c key n w h1 h2 h3 h4 h5 h6:=by
  by_cases h:0<(Jm l n).1
  ·refine(JoP ad p l c key n w h1 h2 h5 h6 h).mono ?_;rintro e w' ⟨⟨D,rfl,H⟩,B⟩;exact⟨ae ⟨h,N,0,D,rfl,H⟩,B⟩
  ·refine(JqH ad p l c key n w h1 h2 h4 h5 h6 h).mono ?_;rintro e w' ⟨⟨v,I,rfl,J,K,O⟩,B⟩;exact⟨ai ⟨h,v,I,rfl,J,K,O⟩,B⟩
end
end Go.Proofs.YtgapmoniajcliaaGreatDoor

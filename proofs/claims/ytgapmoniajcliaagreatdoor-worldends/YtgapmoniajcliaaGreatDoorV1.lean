/- Texts laid together. -/
import Derived.Test.YtgapmoniajcliaaGreatDoorV0
import Derived.Laws.BitsAllLaws
import Derived.Laws.BitsLemmas
import Derived.Laws.BytesArg
import Derived.Maps.RangeWalk
import Derived.Maps.OwnOps
import Derived.Maps.OwnSet
import Derived.BigQuiet
import Derived.Deep.QuietTactic
import Derived.Shelf.Abstract
set_option maxRecDepth 10000
set_option maxHeartbeats 1000000
open Option renaming some->aa,none->N
open List renaming getD_eq_getElem?_getD->ab,getElem?_eq_getElem->ac,getElem_of_mem->al,nodup_iff_pairwise_ne->an,length_append->ao,pairwise_iff_getElem->ap,mem_take_iff_getElem->aq,length_eq_zero_iff->au,map_map->av,getElem?_eq_none->ax,map_congr_left->aC,mem_singleton->za,map_toArray->aI,getElem_mem->zc,getElem_map->aM,any_eq_true->aN,length_map->a1,map_cons->bj,map_nil->br,map_id->zn
open Go renaming Value->ae,bytes->ah,TypeId->ar,run_append_room->aw,run_append_own->az,maxLen->aA,run_append_grow->ba,Addr->bc,run_append_nil->bf,growslice_fits->bg,TypeInfo->bh,wpList->zv
open Go.Builtin renaming append_->af
open Nat renaming lt_of_lt_of_le->ag,mod_two_eq_zero_or_one->am,mul_le_mul_right->ay,lt_of_le_of_lt->aF,zero_le->ze,le_refl->zf,add_mul->zg,not_lt_zero->aY,div_le_self->zi,mul_le_mul->be,zero_add->bo,lt_or_ge->bp
open Or renaming inl->ai,inr->ak
open Bool renaming true->aj,false->zd
namespace Go.Proofs.YtgapmoniajcliaaGreatDoor
open Go.Proofs.Tryz
open Go.RowKit
variable {k b i j n B size:Nat}{a x s key:BA}{l:List BA}{w w' W:World}{p:Option bc}{o:Oper}{v v':ae}{D:DataW ae}{ops:Array Oper}{rest:List Oper}{Q:Exit->Act->World->Prop}{P:Int×BA->Bool}{e:ar}
theorem l4 {k:IntKind}{a b:Int}(h:a=b):Ending.returned (.int k a)=.returned (.int k b):=by rw[h]
theorem sB {a b:Bool}(h:a=b):Ending.returned (.bool a)=.returned (.bool b):=by rw[h]
theorem Jq5 (b k:Nat)(I:b<256):(bits BinOp.and IntKind.u8 ((b:Int)/2^k) 1==1)=decide (Gf.bT b k=1):=by
 have B:((b:Int)/2^k)=((b/2^k:Nat):Int):=by simp
 have D:b/2^k<256:=aF (zi _ _) I;have H:bits BinOp.and IntKind.u8 ((b/2^k:Nat):Int) 1=((b/2^k%2:Nat):Int):=by
  have:=u8_and_nat (b/2^k) 1 D (by decide);rw[Nat.and_one_is_mod]at this;exact this
 rw[B,H];unfold Gf.bT;rcases am (b/2^k)with h|h<;>rw[h]<;>rfl
theorem Jnr (b k:Nat)(I:b<256):(bits BinOp.and IntKind.i64 ((b:Int)/2^k) 1==1)=decide (Gf.bT b k=1):=by
 have B:((b:Int)/2^k)=((b/2^k:Nat):Int):=by simp
 have D:b/2^k<256:=aF (zi _ _) I;have H:bits BinOp.and IntKind.i64 ((b/2^k:Nat):Int) 1=((b/2^k%2:Nat):Int):=by
  have:=bits_mask IntKind.i64 8 (by decide) (fun n J B=>by rw[IntKind.wrap_i64];omega) 1 (by decide) ((b/2^k:Nat):Int) (Int.natCast_nonneg _) (by exact_mod_cast D);rw[show((2:Int)^1-1)=1 from rfl]at this;rw[this];rfl
 rw[B,H];unfold Gf.bT;rcases am (b/2^k)with h|h<;>rw[h]<;>rfl
def red (n:Int):Nat:=(n%255).toNat
theorem M4 (n:Int):((red n:Nat):Int)=n%255:=by unfold red;omega
theorem UP (n:Int):red n<255:=by unfold red;omega
theorem Jq7 (n:Int):n.tmod 255=-((-n).tmod 255):=by rw[Int.neg_tmod,Int.neg_neg]
theorem Jj6 (n:Nat)(h:n<2^62):wrap64 (n:Int)=(n:Int):=by
 unfold wrap64;omega
def Jp (l:List Nat):BA:=strOfNums (l.map Int.ofNat)
def Zj (s:BA):List Nat:=s.data.toList.map UInt8.toNat
theorem xK (s:BA):Gf.Bytes (Zj s):=fun i=>by
 by_cases B:i<(Zj s).length
 ·rw[Gf.aK _ i B];simp only[Zj,aM];exact UInt8.toNat_lt _
 ·show(Zj s).getD i 0<256;rw[ab,ax (by omega)];decide
theorem uD (s:BA)(i:Nat)(h:i<s.size):Gf.nth (Zj s) i=(s[i]'h).toNat:=by
 rw[Gf.aK _ i (by simpa[Zj]using h)];simp only[Zj,aM];rfl
theorem tZ (s:BA):(Zj s).length=s.size:=by simp[Zj]
theorem Jo6 {l:List Nat}(h:Gf.Bytes l){x:Nat}(D:x∈l):x<256:=by
 obtain⟨i,B,rfl⟩:=al D;have:=h i
 rwa[Gf.aK l i B]at this
theorem FK {l:List Nat}(h:Gf.Bytes l):Zj (Jp l)=l:=by
 unfold Zj Jp;rw[strOfNums_data,av,av]
 conv=>rhs;rw[<-zn l]
 refine aC fun x B=>?_
 have:=Jo6 h B;simp only[Function.comp];show(UInt8.ofNat x).toNat=x;simp only[UInt8.toNat_ofNat'];omega
theorem CX (s:BA):Jp (Zj s)=s:=by
 unfold Zj Jp strOfNums;rw[av,av];have:(List.map (((fun n:Int=>UInt8.ofNat n.toNat)∘Int.ofNat)∘UInt8.toNat) s.data.toList)=s.data.toList:=by
  conv=>rhs;rw[<-zn s.data.toList]
  refine aC fun x _=>?_
  show UInt8.ofNat x.toNat=x;exact UInt8.ofNat_toNat
 rw[this]
theorem xG (l:List Nat):(Jp l).size=l.length:=by
 unfold Jp;rw[strOfNums_size,a1]
theorem EP (s:BA)(i:Nat)(h:i<s.size)(W:World):Sem.run prog (Instr.index 9 (.string s) (.int .i64 (i:Int))) W=.ok (.int .u8 ((Gf.nth (Zj s) i:Nat):Int)) W:=by
 rw[run_index_string W 9 s .i64 _ underlying9,dif_pos ⟨by omega,by omega⟩,uD s i h]
 congr 3
theorem BO {l m:List Nat}(H:l.length=m.length)(h:∀i,i<l.length->Gf.nth l i=Gf.nth m i):l=m:=by
 refine List.ext_getElem H fun i B D=>?_
 rw[<-Gf.aK l i B,<-Gf.aK m i D];exact h i B
theorem F0 {l:List Nat}(h:l.length<=i):Gf.nth l i=0:=by
 show l.getD i 0=0;rw[ab,ax h];rfl
def Yc (l:List BA)(i:Nat):BA:=l.getD i ⟨#[]⟩
theorem Xk (l:List BA)(i:Nat)(h:i<l.length):Yc l i=l[i]:=by
 unfold Yc;rw[ab,ac h];rfl
theorem oQ (h:i<l.length):Yc l i∈l:=by
 rw[Xk l i h];exact zc h
theorem tF (h:x∈l):∃i,i<l.length/\Yc l i=x:=by
 obtain⟨i,B,e⟩:=al h;exact⟨i,B,by rw[Xk l i B,e]⟩
theorem Jrb (h:j<i):Yc (l.take i) j=Yc l j:=by
 unfold Yc;rw[ab,ab,List.getElem?_take_of_lt h]
def Strs (w:World)(p:Option bc)(l:List BA):Prop :=
 l=[]∨∃b o,p=aa ⟨b,o,N⟩/\b<w.heap.size/\∀i,i<l.length->w.cell? ⟨b,o+i,N⟩=aa (.string (Yc l i))
theorem Strs.below (h:Strs w p l)(D:Below w.heap.size w w'):Strs w' p l:=by
 rcases h with h|⟨b,o,H,B,I⟩
 ·exact ai h
 ·exact ak ⟨b,o,H,ag B D.size,fun i J=>(D.cell (p:=⟨b,o+i,N⟩) B).trans (I i J)⟩
theorem Strs.take (h:Strs w p l)(i:Nat):Strs w p (l.take i):=by
 rcases h with h|⟨b,o,B,D,H⟩
 ·exact ai (by rw[h,List.take_nil])
 ·refine ak ⟨b,o,B,D,fun j I=>?_⟩;rw[List.length_take]at I;rw[H j (by omega),Jrb (by omega)]
theorem XT {b:BA}(h:a≠b):¬a.toList=b.toList:=fun e=>h (by
 rw[ByteArray.toList_eq,ByteArray.toList_eq]at e;exact ByteArray.ext (Array.toList_inj.1 e))
theorem YT {b:BA}(h:a≠b):(a.toList==b.toList)=false:=by simpa using XT h
theorem Y8 {b:BA}(h:a≠b):(a==b)=false:=by rw[beq_toListBytes];exact YT h
structure Yb where
 n:Int
 who:Int
 size:Int
 at_:Int
 text:BA
deriving DecidableEq
def JL (v:Yb):List Value:=[.int .i64 v.n,.int .i64 v.who,.int .i64 v.size,.int .i64 v.at_,.string v.text]
def Ze:eW Yb:=⟨5,by decide,JL,fun _=>rfl,fun x u B=>by simp[JL]at B;rcases B with rfl|rfl|rfl|rfl|rfl<;>rfl⟩
abbrev Yh:=BA×Yb
theorem Zn {o:Nat}(h:w.cell? ⟨b,o,N⟩=aa v):b<w.heap.size:=by
 rcases bp b w.heap.size with B|B
 ·exact B
 ·simp[World.cell?,Array.getElem?_eq_none B]at h
def Xc (L:List Yh)(key:BA):List Yb:=(L.filter fun x=>decide (x.1=key)).map Prod.snd
def Yy (L:List Yh)(i:Nat):Yh:=L.getD i (⟨#[]⟩,⟨0,0,0,0,⟨#[]⟩⟩)
theorem Q0 {L:List Yh}(B:i<L.length):L[i]?=aa (Yy L i):=by
 unfold Yy;rw[ab,ac B];rfl
theorem oF (L:List Yh)(key:BA):(Xc L key).length<=L.length:=by
 unfold Xc;rw[a1];exact List.length_filter_le _ _
def ZJ (l:List BA)(s:BA):Nat:=l.findIdx fun x=>decide (x=s)
theorem DQ (B:i<l.length)(h:Yc l i=s)(H:∀j,j<i->Yc l j≠s):ZJ l s=i:=by
 unfold ZJ;rw[List.findIdx_eq B];refine⟨decide_eq_true (by rw[<-Xk l i B];exact h),fun j D=>decide_eq_false ?_⟩;rw[<-Xk l j (by omega)];exact H j D
def Xr (c:Nat):Bool:=decide (97<=c/\c<=122)||decide (48<=c/\c<=57)||decide (c=45)
def Jo (s:BA):Bool:=decide (1<=s.size/\s.size<=16)&&(Zj s).all Xr
theorem QF (h:Jo s=aj):1<=s.size/\s.size<=16:=by
 unfold Jo at h;rw[Bool.and_eq_true]at h;exact of_decide_eq_true h.1
theorem CT (h:¬(1<=s.size/\s.size<=16)):Jo s=false:=by
 unfold Jo;rw[decide_eq_false h,Bool.false_and]
def Xu (l:List BA)(x:BA):Bool:=l.any fun y=>decide (y=x)
theorem Zl :Xu l x=aj↔x∈l:=by
 unfold Xu;rw[aN];exact⟨fun⟨y,B,e⟩=>by rw[<-of_decide_eq_true e];exact B,fun h=>⟨x,h,decide_eq_true rfl⟩⟩
def Yu (l:List BA)(i:Nat):Nat:=if Jo (Yc l i)then(if Xu (l.take i) (Yc l i)then 6 else 0)else 4
theorem Jj1 (h:Jo (Yc l i)=zd):Yu l i=4:=by
 unfold Yu;rw[h,if_neg (by decide)]
theorem TL (h:Jo (Yc l i)=aj)(B:Yc l i∈l.take i):Yu l i=6:=by
 unfold Yu;rw[if_pos h,if_pos (Zl.2 B)]
theorem ET (h:Jo (Yc l i)=aj)(D:Yc l i∉l.take i):Yu l i=0:=by
 unfold Yu;rw[if_pos h,if_neg (fun B=>D (Zl.1 B))]
def XO (l:List BA):Nat->Nat->Int×Int
 |_,0=>(0,-1)
 |i,m+1=>if Yu l i=0 then XO l (i+1) m else((Yu l i:Nat),(i:Nat))
def Xj (l:List BA):Int×Int:=if l.length<1∨16<l.length then(2,-1)else XO l 0 l.length
theorem E7 (h:l.length<1∨16<l.length):Xj l=(2,-1):=if_pos h
theorem AB (B:¬l.length<1)(D:¬16<l.length):Xj l=XO l 0 l.length:=if_neg (by omega)
theorem GC {l:List BA}:∀(m i:Nat),XO l i m=(0,-1)->∀j,i<=j->j<i+m->Yu l j=0
 |0,i,_,j,h1,h2=>by omega
 |m+1,i,h,j,h1,h2=>by
  have B:(if Yu l i=0 then XO l (i+1) m else(((Yu l i:Nat):Int),(i:Int)))=(0,-1):=h;by_cases e:Yu l i=0
  ·rw[if_pos e]at B;by_cases D:j=i
   ·rw[D];exact e
   ·exact GC m (i+1) B j (by omega) (by omega)
  ·rw[if_neg e]at B;have H:=congrArg Prod.fst B;have I:=H;omega
theorem EG {l:List BA}:∀(m i:Nat),(XO l i m).1<=0->XO l i m=(0,-1)
 |0,_,_=>rfl
 |m+1,i,h=>by
  show(if Yu l i=0 then XO l (i+1) m else(((Yu l i:Nat):Int),(i:Int)))=(0,-1);have B:(if Yu l i=0 then XO l (i+1) m else(((Yu l i:Nat):Int),(i:Int))).1<=0:=h;by_cases e:Yu l i=0
  ·rw[if_pos e]at B ⊢;exact EG m (i+1) B
  ·rw[if_neg e]at B;have D:=B;omega
theorem QV (h:(Xj l).1<=0):Xj l=(0,-1)/\1<=l.length/\l.length<=16:=by
 by_cases B:l.length<1∨16<l.length
 ·rw[E7 B]at h;exact absurd h (by decide)
 ·have D:Xj l=XO l 0 l.length:=if_neg B;rw[D]at h ⊢;exact⟨EG _ _ h,by omega,by omega⟩
theorem YP (h:(Xj l).1<=0):(∀x∈l,Jo x=aj)/\l.Nodup:=by
 obtain⟨D,K,O⟩:=QV h;rw[AB (by omega) (by omega)]at D;have H:=GC l.length 0 D;have key:∀j,j<l.length->Jo (Yc l j)=aj/\Yc l j∉l.take j:=fun j B=>by
  have:=H j (ze _) (by omega);unfold Yu at this;by_cases e:Jo (Yc l j)=aj
  ·rw[if_pos e]at this;refine⟨e,fun I=>?_⟩;rw[if_pos (Zl.2 I)]at this;omega
  ·rw[if_neg e]at this;omega
 refine⟨fun x J=>?_,?_⟩
 ·obtain⟨j,B,rfl⟩:=tF J;exact(key j B).1
 ·rw[an,ap];intro i j U B Z e;refine(key j B).2 ?_;rw[Xk l j B,<-e,aq];exact⟨i,by omega,rfl⟩
def Jm (l:List BA)(n:Int):Int×Int:=if 0<(Xj l).1 then Xj l else if(l.length:Int)<n then(8,-1)else if n<0 then(2,-1)else Xj l
theorem sK {n:Int}(h:¬0<(Jm l n).1):(Xj l).1<=0/\0<=n/\n<=l.length/\Jm l n=(0,-1):=by
 unfold Jm at h ⊢;by_cases B:0<(Xj l).1
 ·rw[if_pos B]at h;exact absurd B h
 rw[if_neg B]at h ⊢;by_cases D:(l.length:Int)<n
 ·rw[if_pos D]at h;exact absurd (by decide) h
 rw[if_neg D]at h ⊢;by_cases H:n<0
 ·rw[if_pos H]at h;exact absurd (by decide) h
 rw[if_neg H]at h ⊢;exact⟨by omega,by omega,by omega,(QV (by omega)).1⟩
theorem KR {l:List BA}:∀(m i:Nat),(∀j,i<=j->j<i+m->Yu l j=0)->XO l i m=(0,-1)
 |0,_,_=>rfl
 |m+1,i,h=>by
  show(if Yu l i=0 then XO l (i+1) m else(((Yu l i:Nat):Int),(i:Int)))=(0,-1);rw[if_pos (h i nR (by omega))];exact KR m (i+1) (fun j B D=>h j (by omega) (by omega))
theorem UY (O:1<=l.length)(U:l.length<=16)(H:∀x∈l,Jo x=aj)(I:l.Nodup):Xj l=(0,-1):=by
 rw[AB (by omega) (by omega)];refine KR _ _ fun j _ J=>ET (H _ (oQ (by omega))) fun D=>?_
 obtain⟨i,K,e⟩:=aq.1 D;have B:j<l.length:=by omega
 rw[Xk l j B]at e;have:=(an.1 I);rw[ap]at this;exact this i j (by omega) B (by omega) e
def Qd (a b:Int×Int):Bool:=decide (a.1<b.1)||(decide (a.1=b.1)&&decide (a.2<b.2))
theorem qS:(prog.info? 142).map (fun i=>(i.zero,i.size,i.bytes))=aa (aa (.agg #[.int .i64 0,.int .i64 0,.int .i64 0,.int .i64 0,.string ⟨#[]⟩]),5,48):=by kernel_rfl
def Xd (L:List Yb)(i:Nat):Yb:=L.getD i ⟨0,0,0,0,⟨#[]⟩⟩
theorem Xx {L:List Yb}(B:i<L.length):L[i]?=aa (Xd L i):=by
 unfold Xd;rw[ab,ac B];rfl
theorem QU {L:List Yb}(h:Ql Ze w p L)(H:i<L.length):∃b o,p=aa ⟨b,o,N⟩/\b<w.heap.size/\w.cell? ⟨b,o+i*5,N⟩=aa (.int .i64 (Xd L i).n)/\w.cell? ⟨b,o+i*5+1,N⟩=aa (.int .i64 (Xd L i).who)/\w.cell? ⟨b,o+i*5+2,N⟩=aa (.int .i64 (Xd L i).size)/\w.cell? ⟨b,o+i*5+3,N⟩=aa (.int .i64 (Xd L i).at_)/\w.cell? ⟨b,o+i*5+4,N⟩=aa (.string (Xd L i).text):=by
 rcases h with h|⟨b,o,I,J,B⟩
 ·rw[h]at H;exact absurd H (aY _)
 ·have D:=Xx H;exact⟨b,o,I,J,B i _ D 0 _ rfl,B i _ D 1 _ rfl,B i _ D 2 _ rfl,B i _ D 3 _ rfl,B i _ D 4 _ rfl⟩
def k9 (n who:Int):Bool:=decide (0<=n)&&decide (n<=1099511627776)&&decide (0<=who)&&decide (who<=1099511627776)
def Y7 (v:Yb):Bool:=k9 v.n v.who&&decide (0<=v.size/\v.size<=1000/\0<=v.at_/\v.at_<12/\v.text.size<=1000)
def Z5 (x:Yh)(key:BA)(v:Yb):Bool:=decide (x.1=key)&&decide (x.2.n=v.n)&&decide (x.2.who=v.who)
def Jx (L:List Yh)(key:BA)(v:Yb):Nat->Nat->Int
 |_,0=>if 60<=L.length then 7 else 0
 |i,m+1=>if Z5 (Yy L i) key v then(if(Yy L i).2=v then -1 else 6)else Jx L key v (i+1) m
def Ju (L:List Yh)(s:Bool)(key:BA)(v:Yb):Int:=if s then 10 else if Jo key then(if Y7 v then Jx L key v 0 L.length else 2)else 4
def j6 (L:List Yh):Nat->List BA
 |0=>[]
 |i+1=>if(j6 L i).length=0∨Yc (j6 L i) ((j6 L i).length-1)≠(Yy L i).1 then j6 L i++ [(Yy L i).1]else j6 L i
theorem KS (L:List Yh):∀i,(j6 L i).length<=i
 |0=>ze _
 |i+1=>by
  have ih:=KS L i;show(if _ then _ else _:List BA).length<=i+1;split
  ·rw[ao];show _+1<=_;omega
  ·omega
def Jz (x:Yh)(key:BA)(v:Yb):Bool:=Op.bytesLess x.1.toList key.toList||(decide (x.1=key)&&Qd (x.2.n,x.2.who) (v.n,v.who))
def QA (L:List Yh)(key:BA)(v:Yb):Nat:=L.findIdx fun x=>!Jz x key v
theorem yC (L:List Yh)(key:BA)(v:Yb):QA L key v<=L.length:=List.findIdx_le_length
def XK (L:List Yh)(key:BA)(v:Yb):List Yh:=L.take (QA L key v)++ [(key,v)]++L.drop (QA L key v)
theorem ON {L:List Yh}{v:Yb}(D:j<QA L key v):Jz (Yy L j) key v=true:=by
 have B:j<L.length:=ag D (yC L key v);have h:=List.not_of_lt_findIdx (p:=fun x=>!Jz x key v) (xs:=L) (i:=j) D;have e:L[j]=Yy L j:=by
  have:=Q0 B;rw[ac B]at this;exact Option.some.inj this
 rw[e]at h;simpa using h
theorem N8 {L:List Yh}{v:Yb}(B:QA L key v<L.length):Jz (Yy L (QA L key v)) key v=false:=by
 have h:=List.findIdx_getElem (p:=fun x=>!Jz x key v) (xs:=L) (w:=B);have e:L[QA L key v]=Yy L (QA L key v):=by
  have:=Q0 B;rw[ac B]at this;exact Option.some.inj this
 have D:(!Jz L[QA L key v] key v)=true:=h;rw[e]at D;simpa using D
def Qt (L:List Yh)(s:Bool)(key:BA)(v:Yb):Int×List Yh:=if Ju L s key v=0 then(0,XK L key v)else if Ju L s key v<0 then(0,L)else(Ju L s key v,L)
def oJ (ad:Nat->bc)(B:ae)(c:Int):Prop:=(B=.nilIface/\c=0)∨∃i,i<12/\B=.iface 287 (.pointer (aa (ad i)))/\c=((i+1:Nat):Int)
structure Yd (S S':Nat->Prop) (w w':World):Prop where
 os:w'.os=w.os
 tape:w'.tape=w.tape
 output:w'.output=w.output
 size:w.heap.size<=w'.heap.size
 block:∀k,k<w.heap.size->¬S k->w'.heap[k]?=w.heap[k]?
 new:∀k,S' k->S k∨w.heap.size<=k
theorem Yd.aJ {S:Nat->Prop}(B:Below w.heap.size w w'):Yd S S w w':=⟨B.os,B.tape,B.output,B.size,fun k D _=>B.block k D,fun _ h=>ai h⟩
def DN (v:Yb):Value:=.agg #[.int .i64 v.n,.int .i64 v.who,.int .i64 v.size,.int .i64 v.at_,.string v.text]
def Xv (x:BA):Lit:=.string x.data.toList
theorem rF {y:BA}(h:Xv x=Xv y):x=y:=by
 unfold Xv at h;injection h with h
 exact ByteArray.ext (Array.toList_inj.1 h)
theorem qR (x:BA):WideAt.IsKeyLit (Xv x):=trivial
theorem C5 (x:BA):(Xv x).sameKey (Xv x)=true:=WideAt.sameKey_self (qR x)
def iW (v:ae):Option (DataW ae×List MemPlace):=aa (.held v,[])
theorem kE:Maps.Keyed prog 9:=Maps.string_keyed underlying9
theorem qP (B:x.size<=aA):keyOf prog 9 (.string x)=aa (Xv x):=WideMaps.keyOf_string_mk underlying9 B
theorem vI {l:Lit}(h:keyOf prog 9 v=aa l):∃x:BA,v=.string x/\l=Xv x/\x.size<=maxLen:=by
 cases v<;>simp[keyOf,underlying9,mapKey]at h
 rename_i s;exact⟨s,rfl,h.2.symm,h.1⟩
abbrev QX (w:World)(b n:Nat)(D:DataW ae):Prop:=w.ownsMap prog 9 iW b n D
theorem QX.tight (h:QX w b n D):QX w b (Maps.size D) D:=by
 obtain⟨B,H,I,F,J,rfl⟩:=h;refine⟨B,H,I,F,?_,rfl⟩;rw[Maps.size_eq,length_sorted];simp
theorem QX.keys (h:QX w b n D):∃B,D=.map B/\B.Pairwise (fun p q=>p.1≠q.1)/\∀p∈B,∃x:BA,x.size<=aA/\p.1=Xv x:=by
 have J:=World.ownsMap.tidy h kE;obtain⟨a0,a2,hb,F,hs,rfl⟩:=h;obtain⟨a3,H,K⟩:=J;injection H with H
 refine⟨_,rfl,by rw[H];exact K,fun p O=>?_⟩;obtain⟨x,U,rfl⟩:=List.mem_map.1 (mem_sorted.1 O);obtain⟨y,I⟩:=F.reads x U;obtain⟨z,h1,Z,h3⟩:=vI (WideElems.rd_key I);exact⟨z,h3,by rw[WideElems.rg_of I];exact Z⟩
theorem YS {α:Type}:∀{l m:List α},l.Nodup->(∀x∈l,x∈m)->l.length<=m.length
 | [],_,_,_=>ze _
 |a::l,m,hn,hs=>by
  classical
  obtain⟨H,I⟩:=List.nodup_cons.1 hn;have B:=hs a (by simp);have:=YS (l:=l) (m:=m.erase a) I (fun x D=>(List.mem_erase_of_ne (show x≠a from fun e=>H (e▸D))).2 (hs x (by simp[D])));rw[List.length_erase_of_mem B]at this;have:=List.length_pos_of_mem B;simp only[List.length_cons];omega
theorem Zc.same {T:ar}{l:List Yb}(h:Zc Ze T w B v l)(Z:∀k,v.ownBlock=aa k->w'.heap[k]?=w.heap[k]?):Zc Ze T w' B v l:=by
 obtain⟨I,D⟩:=h;refine⟨I,?_⟩;rcases D with D|⟨g,cap,J,H,K,O,U⟩
 ·exact ai D
 ·refine ak ⟨g,cap,J,H,K,?_,U⟩;rw[Z g (by rw[H];rfl)];exact O
theorem QX.same (h:QX w b n D)(K:w'.heap[b]?=w.heap[b]?):QX w' b n D:=by
 obtain⟨B,H,I,J⟩:=h;exact⟨B,H,K.trans I,J⟩
theorem Qx (h:w'.heap[b]?=w.heap[b]?)(o:Nat):w'.cell? ⟨b,o,N⟩=w.cell? ⟨b,o,N⟩/\w'.frozen? ⟨b,o,N⟩=w.frozen? ⟨b,o,N⟩:=⟨World.cell?_of_block (a:=⟨b,o,N⟩) h,World.frozen?_of_block (a:=⟨b,o,N⟩) h⟩
structure jA (w w':World) (b:Nat) (D:DataW ae) (key:BA) (v:ae):Prop where
 own:∃n,QX w' b n (D.put (Xv key) (.held v))
 grown:w.grownBy w' (aa b)
theorem zC (J:QX w b n D)(hn:n<aA)(I:key.size<=aA)(B:Below w.heap.size w W):
 ∃w',(Instr.mapUpdate 122 (.map (aa b)) (.string key) v).run prog W=.ok () w'/\jA w w' b D key v:=by
 have K:b<w.heap.size:=World.ownsMap.lt J;have O:QX W b n D:=J.same (B.block b K);obtain⟨w',U,Z,H⟩:=World.ownsMap.update O kE underlying122 hn (val:=v) (d:=.held v) (ps:=[]) (qP I) rfl;refine⟨w',U,⟨_,Z⟩,⟨H.os.trans B.os,H.tape.trans B.tape,H.output.trans B.output,Nat.le_trans B.size H.size,fun k I a0=>?_⟩⟩;rw[H.block k (ag I B.size) a0];exact B.block k I
theorem FI (b:Nat)(W:World):Sem.run prog (binOp .eql 122 (.map (aa b)) (.map N)) W=.ok (.bool zd) W:=by kernel_rfl
theorem AD (W:World):Sem.run prog (binOp .eql 122 (.map N) (.map N)) W=.ok (.bool aj) W:=by kernel_rfl
theorem xB (h:Below B w.drew W):Below B w W:=⟨h.os,h.tape,h.output,h.size,h.block⟩
structure Zb where
 from_:BA
 aP:BA
 kind:BA
 key:BA
 op:Int
 config:Int
 shut:Bool
 L:List Yb
def Z1 (m:Zb)(lv:ae):Value:=.agg #[.string m.from_,.string m.aP,.string m.kind,.string m.key,.int .i64 m.op,.int .i64 m.config,.bool m.shut,lv]
section
section
variable {P:Program} {w:World}
theorem yO (base:Nat)(t I e:ar)(i:bh)(z:ae)(size ah:Nat)(K:P.underlying t=aa (.slice e))(O:P.info? e=aa i)(hz:i.zero=aa z)
 (a6:i.size=size) (a7:i.bytes=ah) (v:ae) (n:Nat) (xs:List ae) (U:w.ownsRow base e size v n xs)
 (a:bc) (m c:Nat) (B:List ae) (J:B.length=m*size) (Z:∀j u,B[j]?=aa u->w.cell? (a.add j)=aa u) (h1:∀u∈B,u.oneCell'=aj)
 (a8:n+m<=aA) (a3:(n+m)*ah<=140737488355328) (hm:0<m) 
 (D:(af #[t,t] I #[v,.slice (aa a) m c]).run P w=.ok v' w'):v'.ownBlock=v.ownBlock∨v'.ownBlock=aa w.heap.size:=by
 subst a6;subst a7;have a9:n+m<=9223372036854775807:=by simp only[aA]at a8;omega
 rcases U.2 with⟨rfl,rfl⟩|⟨g,cap,a0,rfl,b0,hg,b1,b2,a4,b3⟩
 ·have:=bf (P:=P) w t I e i z K O hz a m c B J Z (by omega) (by omega) (by have hb:=a3;simp only[bo]at hb;omega);rw[this]at D;injection D with H e2
  subst H;exact ak rfl
 ·by_cases a2:n+m<=cap
  ·have a5:n*i.size+B.length<=a0.size:=by rw[J,a4,<-zg];exact ay _ a2
   have:=aw (P:=P) w t I e i K O g n cap a0 hg a m c B J Z h1 a2 a5;rw[this]at D;injection D with H e2
   subst H;exact ai rfl
  ·have holds:∀j u,xs[j]?=aa u->w.cell? ((⟨g,0,N⟩:bc).add j)=aa u:=U.cells (g:=g) rfl;have:=ba (P:=P) w t I e i z K O hz ⟨g,0,N⟩ n cap xs U.1 holds a m c B J Z (by omega) (by omega) (bg (by omega) a3);rw[this]at D;injection D with H e2
   subst H;exact ak rfl
theorem EW {a:Act}(a5:o.guard=N)(s x:Operand)(t:ar)
 (ho:o.op=.call {callee:=.builtin .append,args:=#[s,x],argTypes:=#[t,t]})
 (base:Nat) (e:ar) (i:bh) (z:ae) (size ah:Nat) (I:P.underlying t=aa (.slice e)) (J:P.info? e=aa i) (O:i.zero=aa z)
 (U:i.size=size) (Z:i.bytes=ah) (a6:z.cells.size=size) (a7:0<size)
 (v:ae) (n:Nat) (xs:List ae) (hs:a.eval s=v) (a0:w.ownsRow base e size v n xs)
 (ad:bc) (m c:Nat) (D:List ae) (hx:a.eval x=.slice (aa ad) m c) (hl:D.length=m*size) (a2:∀j u,D[j]?=aa u->w.cell? (ad.add j)=aa u) (h1:∀u∈D,u.oneCell'=aj)
 (a3:n+m<=aA) (a4:(n+m)*ah<=140737488355328) (a8:base<=w.heap.size) (hm:0<m)
 (h:∀B w',w'.ownsRow base e size B (n+m) (xs++D)->w.grownBy w' v.ownBlock->(B.ownBlock=v.ownBlock∨B.ownBlock=aa w.heap.size)->zv P ops Q rest (a.put o.dst B) w'):zv P ops Q (o::rest) a w:=by
 refine wpList_plain a5 fun K hK=>?_
 obtain⟨B,w',H,h2,h3,h4⟩:=az (P:=P) w base t o.type e i z size ah I J O U Z a6 a7 v n xs a0 ad m c D hl a2 h1 a3 a4 a8;have hw:=yO base t o.type e i z size ah I J O U Z v n xs a0 ad m c D hl a2 h1 a3 a4 hm H;unfold Oper.wp execOp;simp only[ho,resolve,invoke,builtin,Sem.run_bind,Sem.run_pure,Result.andThen_ok,aI,bj,br,hs,hx,H];exact hK _ _ (h B w' h2 h3 hw)
end
end
theorem Joh (w:World)(o:Option Nat):w.grownBy w o:=⟨rfl,rfl,rfl,zf _,fun _ _ _=>rfl⟩
theorem vX {α:Type}{E:eW α}(t T:ar)(z:ae)(ah:Nat)(K:prog.underlying t=aa (.slice T))
 (b6:(prog.info? T).map (fun i=>(i.zero,i.size,i.bytes))=aa (aa z,E.k,ah)) (b7:z.cells.size=E.k)
 (B:Nat) (v:ae) (l:List α) (O:Zc E T w B v l) (q:Option bc) (r:List α) (c:Nat) (hq:Ql E w q r) (b8:q=N->r=[]/\c=0) (hl:l.length+r.length<=aA) (a6:(l.length+r.length)*ah<=140737488355328) (c8:B<=w.heap.size):
 ∃D w',(∀U,(af #[t,t] U #[v,.slice q r.length c]).run prog w=.ok D w')/\Zc E T w' B D (l++r)/\w.grownBy w' v.ownBlock/\(D.ownBlock=v.ownBlock∨∃k,D.ownBlock=aa k/\w.heap.size<=k):=by
 obtain⟨Z,H,a3,a2,a4⟩:=info_parts b6;cases q with
 |none =>
  obtain⟨hr,hc⟩:=b8 rfl;subst hr hc;refine⟨v,w,fun U=>run_append_owned_none (P:=prog) (w:=w) B t U T Z E.k K H v l.length (Qb E l) O,by rw[List.append_nil];exact O,Joh _ _,ai rfl⟩
 |some ad =>
  have hn:∀j u,(Qb E r)[j]?=aa u->w.cell? (ad.add j)=aa u:=by
   rcases hq with h0|⟨b,o',hp,_,a7⟩
   ·subst h0;intro j u I;simp[Qb]at I
   ·obtain rfl:ad=⟨b,o',N⟩:=by simpa using hp
    exact Ql.cells a7
  obtain⟨D,w',a0,h2,h3,_⟩:=az (P:=prog) w B t 0 T Z z E.k ah K H a3 a2 a4 b7 E.pos v l.length (Qb E l) O ad r.length c (Qb E r) (Qr E r) hn (Zz E r) hl a6 c8;refine⟨D,w',fun U=>a0,?_,h3,?_⟩
  ·unfold Zc;rw[Qj,ao];exact h2
  ·by_cases hm:0<r.length
   ·rcases yO (P:=prog) B t 0 T Z z E.k ah K H a3 a2 a4 v l.length (Qb E l) O ad r.length c (Qb E r) (Qr E r) hn (Zz E r) hl a6 hm a0 with h|h
    ·exact ai h
    ·exact ak ⟨_,h,zf _⟩
   ·have a8:r=[]:=au.1 (by omega);subst a8;rcases O.2 with⟨rfl,hz⟩|⟨g,cap,a5,rfl,d0,a9,b0,d1,b1,d2⟩
    ·rcases h2.2 with⟨h4,_⟩|⟨g,cap,a5,h4,h5,h6,h7,h8,h9,d3⟩
     ·rw[h4];exact ai rfl
     ·rw[h4];refine ak ⟨g,rfl,?_⟩;rcases bp g w.heap.size with d4|b2
      ·exfalso;have b3:(af #[t,t] 0 #[.slice N 0 0,.slice (aa ad) 0 c]).run prog w=.ok (.slice N 0 0) w:=by
        have b4:(loadCells ad 0).run prog w=.ok #[] w:=run_loadCells_list (P:=prog) w ad [] (fun j u I=>by simp at I);simp[af,run_underlying K,sizeOf,typeInfo,H,Builtin.lenOf,Builtin.firstCells,b4,Result.andThen]
       have J:(af #[t,t] 0 #[.slice N 0 0,.slice (aa ad) 0 c]).run prog w=.ok D w':=a0;rw[b3]at J;injection J with e1 _
       rw[h4]at e1;cases e1
      ·exact b2
    ·have b5:=aw (P:=prog) w t 0 T Z K H g l.length cap a5 a9 ad 0 c [] (by simp) (fun j u I=>by simp at I) (fun u hu=>by simp at hu) (by omega) (by rw[a2,b1];show l.length*E.k+0<=_;exact ay _ b0);have J:(af #[t,t] 0 #[.slice (aa ⟨g,0,N⟩) l.length cap,.slice (aa ad) 0 c]).run prog w=.ok D w':=a0;rw[b5]at J;injection J with e1 _
     rw[<-e1];exact ai rfl
def Jk (k size:Nat):Nat:=(size+(k-1))/k
theorem RS (B:1<=k)(h:i*k<size):i<Jk k size:=by
 unfold Jk;rw[Nat.lt_iff_add_one_le,Nat.le_div_iff_mul_le (by omega),zg];omega
theorem Jra (B:1<=k)(h:¬i*k<size):Jk k size<=i:=by
 unfold Jk;rw[<-Nat.lt_add_one_iff,Nat.div_lt_iff_lt_mul (by omega),zg];omega
theorem xR (B:1<=k):Jk k size<=size:=Jra B (by
 have:size*1<=size*k:=Nat.mul_le_mul_left size B;omega)
def YO (n k:Nat)(v:Yb):Bool:=k9 v.n v.who&&decide (0<=v.size/\v.size<=1000/\0<=v.at_/\v.at_<n/\v.text.size=Jk k v.size.toNat)
def Ji (l:List (Int×BA))(i:Nat):Int×BA:=l.getD i (0,⟨#[]⟩)
def fE (w:World)(p:Option bc)(l:List (Int×BA)):Prop :=
 l=[]∨∃b o,p=aa ⟨b,o,N⟩/\b<w.heap.size/\∀i,i<l.length->w.cell? ⟨b,o+i*2,N⟩=aa (.int .i64 (Ji l i).1)/\w.cell? ⟨b,o+i*2+1,N⟩=aa (.string (Ji l i).2)
theorem fE.below {l:List (Int×BA)}(h:fE w p l)(D:Below w.heap.size w w'):fE w' p l:=by
 rcases h with h|⟨b,o,J,B,H⟩
 ·exact ai h
 ·exact ak ⟨b,o,J,ag B D.size,fun i I=>⟨(D.cell (p:=⟨b,o+i*2,N⟩) B).trans (H i I).1,(D.cell (p:=⟨b,o+i*2+1,N⟩) B).trans (H i I).2⟩⟩
def tK (w:World)(H:FuncId)(I:Array ae)(l:List (Int×BA))(P:Int×BA->Bool):Prop :=
 ∀i,i<l.length->∀B,Below w.heap.size w B->Calls prog H (#[.agg #[.int .i64 (Ji l i).1,.string (Ji l i).2]]++I) B fun e D=>e=.returned (.bool (P (Ji l i)))/\Below B.heap.size B D
theorem sE {l:List (Int×BA)}(h:i<l.length):Ji l i∈l:=by
 unfold Ji;rw[ab,ac h];exact zc h
theorem XG {l:List (Int×BA)}{x:Int×BA}(h:x∈l):∃i,i<l.length/\Ji l i=x:=by
 obtain⟨i,B,rfl⟩:=al h;refine⟨i,B,?_⟩;unfold Ji;rw[ab,ac B];rfl
theorem Jpm {l:List (Int×BA)}(h:i<l.length)(B:P (Ji l i)=aj):l.any P=true:=aN.2 ⟨_,sE h,B⟩
theorem Jnt {l:List (Int×BA)}(h:∀i,i<l.length->P (Ji l i)=zd):l.any P=false:=by
 rw[List.any_eq_false];intro x B;obtain⟨i,D,rfl⟩:=XG B;rw[h i D];decide
theorem Jpn (p:Option bc)(l:List (Int×BA))(cap:Nat)(K:FuncId)(a6:Array ae)(P:Int×BA->Bool)(w:World)(hl:l.length<=100000)(hs:fE w p l)
 (a9:∀args W,Sem.run prog (callFunc K args) W=.ok (.enter K args) W) (hc:tK w K a6 l P):
 Calls prog 173 #[.slice p l.length cap,.func (.func K) #[] a6] w fun e w'=>(∃r:Int,e=.returned (.int .i64 r)/\(0<=r/\l.any P=aj∨r=-1/\l.any P=zd))/\Below w.heap.size w w':=by
 have HS:Hid (fE w p l):=hs;have HC:Hid _:=hc;clear hs hc;go_enter func173,ntmps173;go_wp2;go_loopw [8] (fun x wr=>∃i:Nat,i<=l.length/\x=.int .i64 i/\(∀j,j<i->P (Ji l j)=zd)/\Below w.heap.size w wr) (fun x _=>l.length-(intOf x).toNat)
 case atStart=>exact⟨0,by omega,rfl,fun j O=>absurd O (aY _),Below.refl _ _⟩
 case round =>
  obtain⟨i,hi,rfl,a2,hB⟩:=hrel;have a3:Hid _:=a2;have D:Hid _:=hB;clear a2 hB;by_cases H:i<l.length
  ·rcases(HS.out.below D.out)with h0|⟨b1,o1,rfl,_,a4⟩
   ·rw[h0]at H;simp at H
   obtain⟨U,Z⟩:=a4 i H;have B:=HC.out i H wr D.out;clear a4;have a5:Hid (∀v,P (Ji l i)=v->v=P (Ji l i)):=fun v h=>h.symm
   by_cases I:P (Ji l i)=aj
   ·have HA:Hid (l.any P=aj):=Jpm H I;rw[I]at B;clear I a5;generalize (Ji l i).1=x at U B;generalize (Ji l i).2=t at Z B;go_wp2_with fail
    refine B.mono ?_;rintro e w2 ⟨rfl,J⟩;clear B;go_wp2;go_ret;exact⟨⟨(i:Int),rfl,ai ⟨by omega,HA.out⟩⟩,D.out.trans (J.mono D.out.size)⟩
   ·have a0:P (Ji l i)=false:=by simpa using I
    have a7:Hid _:=a0;rw[a0]at B;clear I a0 a5;generalize (Ji l i).1=x at U B;generalize (Ji l i).2=t at Z B;go_wp2_with fail
    refine B.mono ?_;rintro e w2 ⟨rfl,J⟩;have a8:Hid _:=D.out.trans (J.mono D.out.size);clear B J U Z;go_wp2;go_roundw
    case rel =>
     refine⟨i+1,by omega,by go_num,fun j O=>?_,a8.out⟩;by_cases e:j=i
     ·rw[e];exact a7.out
     ·exact a3.out j (by omega)
    case measure=>simp[intOf];omega
  ·have HN:Hid (l.any P=zd):=Jnt fun j O=>a3.out j (by omega)
   go_wp2;go_ret;exact⟨⟨-1,rfl,ak ⟨rfl,HN.out⟩⟩,D.out⟩
theorem vE (p:Option bc)(l:List (Int×BA))(cap:Nat)(D:FuncId)(J:Array ae)(P:Int×BA->Bool)(w:World)(hl:l.length<=100000)(U:fE w p l)
 (Z:∀args W,Sem.run prog (callFunc D args) W=.ok (.enter D args) W) (hc:tK w D J l P):
 Calls prog 145 #[.slice p l.length cap,.func (.func D) #[] J] w fun e w'=>e=.returned (.bool (l.any P))/\Below w.heap.size w w':=by
 have K:=Jpn p l cap D J P w hl U Z hc;clear U hc Z;go_enter func145,ntmps145;go_wp2_with fail
 refine K.mono ?_;rintro e w1 ⟨⟨r,rfl,H⟩,O⟩;clear K;rcases H with⟨H,B⟩|⟨H,B⟩
 ·have I:Hid (l.any P=aj):=B;clear B;go_wp2;go_ret;exact⟨sB (by rw[I.out]),O⟩
 ·have I:Hid (l.any P=zd):=B;subst H;clear B;go_wp2;go_ret;exact⟨sB (by rw[I.out]),O⟩
structure jU (w:World) (p:Option bc) (l:List Nat):Prop where
 lt:Gf.Bytes l
 cells:l=[]∨∃b o,p=aa ⟨b,o,N⟩/\b<w.heap.size/\∀i,i<l.length->w.cell? ⟨b,o+i,N⟩=aa (.int .u8 ((Gf.nth l i:Nat):Int))
theorem jU.below {l:List Nat}(h:jU w p l)(D:Below w.heap.size w w'):jU w' p l:=by
 refine⟨h.lt,?_⟩;rcases h.cells with h|⟨b,o,H,B,I⟩
 ·exact ai h
 ·exact ak ⟨b,o,H,ag B D.size,fun i J=>(D.cell (p:=⟨b,o+i,N⟩) B).trans (I i J)⟩
section
def ZM (n:Nat):Value:=.int .u8 (n:Int)
theorem JO (w:World)(n:Nat)(row:Option Nat):w.grownBy (w.drewN n) row:=⟨rfl,rfl,rfl,zf _,fun _ _ _=>rfl⟩
section
variable {P:Program} {w:World}
end
end
section
def JM (w:World)(B:Nat)(e:ar)(v:ae)(D:List ae):Prop:=w.ownsRow B e 1 v D.length D
theorem JM.nil (w:World)(B:Nat)(e:ar):JM w B e (.slice N 0 0) []:=World.ownsRow_nil w B e 1
theorem JM.kept {l:List ae}{row:Option Nat}(h:JM w B e v l)(D:w.grownBy w' row)(H:v.ownBlock=N∨v.ownBlock≠row):JM w' B e v l:=World.ownsRow.kept h D H
theorem JM.block {l:List ae}(h:JM w B e v l)(D:v.ownBlock=aa k):B<=k/\k<w.heap.size:=World.ownsRow.lt h k D
theorem JM.cells {l:List ae}(h:JM w B e v l):v=.slice N 0 0/\l=[]∨∃g cap,v=.slice (aa ⟨g,0,N⟩) l.length cap/\B<=g/\g<w.heap.size/\∀i u,l[i]?=aa u->w.cell? ⟨g,i,N⟩=aa u:=by
 rcases h.2 with⟨rfl,H⟩|⟨g,cap,O,rfl,I,J,U,Z,a0,a2⟩
 ·exact ai ⟨rfl,au.1 H⟩
 ·refine ak ⟨g,cap,rfl,I,(Array.getElem?_eq_some_iff.1 J).1,fun i u K=>?_⟩;have D:=World.ownsRow.cells (g:=g) h rfl i u K;rw[Addr.add_lit,bo]at D;exact D
section
variable {P:Program} {w:World}
theorem Jgr (B:Nat)(t J e:ar)(i:bh)(z:ae)(ah:Nat)(U:P.underlying t=aa (.slice e))(Z:P.info? e=aa i)(hz:i.zero=aa z)(I:i.size=1)(a3:i.bytes=ah)(a6:ah<=64)
 (v:ae) (l:List ae) (a0:JM w B e v l) (ad:bc) (c:Nat) (u:ae) (hu:u.oneCell'=aj) (hb:w.cell? ad=aa u) (hl:l.length+1<=1000000) 
 (D:(af #[t,t] J #[v,.slice (aa ad) 1 c]).run P w=.ok v' w'):v'.ownBlock=v.ownBlock∨v'.ownBlock=aa w.heap.size:=by
 have K:∀j x,[u][j]?=aa x->w.cell? (ad.add j)=aa x:=by
  intro j x O
  match j,O with
  |0,O =>
   obtain rfl:u=x:=by simpa using O
   simpa[Addr.add]using hb
 rcases a0.2 with⟨rfl,h0⟩|⟨g,cap,a4,rfl,a7,hg,a8,a9,a5,b0⟩
 ·have:=bf (P:=P) w t J e i z U Z hz ad 1 c [u] (by rw[I];rfl) K (by decide) (by decide) (by rw[a3];omega);rw[this]at D;injection D with H h2
  subst H;exact ak rfl
 ·by_cases a2:l.length+1<=cap
  ·have:=aw (P:=P) w t J e i U Z g l.length cap a4 hg ad 1 c [u] (by rw[I];rfl) K (fun x hx=>by rw[za.1 hx];exact hu) a2 (by rw[I,a5];simpa using a2);rw[this]at D;injection D with H h2
   subst H;exact ai rfl
  ·have b1:(l.length+1)*ah<=1000000*64:=be hl a6;have:=ba (P:=P) w t J e i z U Z hz ⟨g,0,N⟩ l.length cap l (by rw[I];exact a0.1) (World.ownsRow.cells (g:=g) a0 rfl) ad 1 c [u] (by rw[I];rfl) K (by omega) (by omega) (bg (by omega) (by rw[a3];omega));rw[this]at D;injection D with H h2
   subst H;exact ak rfl
theorem yL {a:Act}(a6:o.guard=N)(s x:Operand)(t:ar)
 (ho:o.op=.call {callee:=.builtin .append,args:=#[s,x],argTypes:=#[t,t]})
 (B:Nat) (e:ar) (i:bh) (z:ae) (ah:Nat) (O:P.underlying t=aa (.slice e)) (U:P.info? e=aa i) (Z:i.zero=aa z) (a7:z.cells.size=1) (a0:i.size=1) (a2:i.bytes=ah) (a3:ah<=64)
 (v:ae) (l:List ae) (hs:a.eval s=v) (a4:JM w B e v l) (ad:bc) (c:Nat) (u:ae) (hu:u.oneCell'=aj) (I:a.eval x=.slice (aa ad) 1 c) (hb:w.cell? ad=aa u) (hl:l.length+1<=1000000) (a8:B<=w.heap.size)
 (h:∀D w',JM w' B e D (l++ [u])->w.grownBy w' v.ownBlock->(D.ownBlock=v.ownBlock∨D.ownBlock=aa w.heap.size)->zv P ops Q rest (a.put o.dst D) w'):zv P ops Q (o::rest) a w:=by
 have a5:∀j x,[u][j]?=aa x->w.cell? (ad.add j)=aa x:=by
  intro j x H
  match j,H with
  |0,H =>
   obtain rfl:u=x:=by simpa using H
   simpa[Addr.add]using hb
 have a9:(l.length+1)*ah<=1000000*64:=be hl a3;refine wpList_plain a6 fun K hK=>?_
 obtain⟨D,w',J,h2,h3,_⟩:=az (P:=P) w B t o.type e i z 1 ah O U Z a0 a2 a7 (by decide) v l.length l a4 ad 1 c [u] rfl a5 (fun x I=>by rw[za.1 I];exact hu) (by unfold aA;omega) (by omega) a8;have h4:=Jgr B t o.type e i z ah O U Z a0 a2 a3 v l a4 ad c u hu hb hl J;have h5:JM w' B e D (l++ [u]):=by
  unfold JM;rw[ao];exact h2
 unfold Oper.wp execOp;simp only[ho,resolve,invoke,builtin,Sem.run_bind,Sem.run_pure,Result.andThen_ok,aI,bj,br,hs,I,J];exact hK _ _ (h D w' h5 h3 h4)
end
end
end Go.Proofs.YtgapmoniajcliaaGreatDoor

/- Texts laid together. -/
import Derived.Test.YtflpelnbjekjbaaGreatDoorZ11
import Derived.OpenShut
import Derived.ChangeOld
import Derived.Deep.SlicePairs
import Derived.Deep.Strs
import Derived.Lib.SmallJoins
import Derived.Deep.Heap
import Derived.Lib.AtoiAll
import Derived.Lib.ItoaNum
import Derived.Lib.IndexMore
import Derived.Shelf.SlSortCmp.QuietGrown
set_option maxRecDepth 100000
set_option maxHeartbeats 16000000
open Option renaming some->aa,none->N
open Go.World renaming cell?->ab,setCell->ao
open Nat renaming not_lt_zero->ac,le_trans->aj,lt_of_lt_of_le->ap,mod_eq_of_lt->au,le_refl->aw,lt_or_ge->aF,zero_le->ze
open Go.RowKit renaming Below->ae
open Or renaming inl->af,inr->ag
open Bool renaming false->F,true->ah
open Go renaming Value->ai,Calls->am,DataW->ax,bytes->aA,TypeId->zi
open List renaming length_append->ak,range->az
namespace Go.Proofs
open Go.Shelf
def Tryz.laysCloneM_ren:Go.Shelf.Ren:=⟨fun | 41=>73 | n=>n,fun | 22=>55 | 23=>81 | 4=>4 | n=>n,fun | n=>n⟩
theorem Tryz.laysCloneM:Go.Proofs.SlLaysE0.n41 Tryz.prog Tryz.laysCloneM_ren:={
 mixed:=by kernel_rfl
 f41:=⟨Tryz.f73.name,by decide,Tryz.func73.trans (congrArg aa (by kernel_rfl))⟩
 t4:=Tryz.underlying4
 a4:=Tryz.isAgg4
 z4:=Tryz.sizeOf4
 v4:=Tryz.zeroValue4
 t22:=Tryz.underlying55
 a22:=Tryz.isAgg55
 z22:=Tryz.sizeOf55
 v22:=Tryz.zeroValue55 }
open Go.RowKit in
theorem Tryz.slices_CloneM (i0:TypeInfo)(z:ai)(size aA:Nat)(hi:Tryz.prog.info? 81=aa i0)(hz0:i0.zero=aa z)(hz1:i0.size=size)(hz2:i0.bytes=aA)(hzs:z.cells.size=size)(hsz:0 < size)
 (z23:∀ w,(Go.sizeOf 81).run Tryz.prog w=.ok size w) (b off n c:Nat) (news:List ai) (w:World) (hl:news.length=n*size) (hn:n<=maxLen) (hbig:n*aA<=140737488355328)
 (hc:∀ j u,news[j]?=aa u->w.cell? ⟨b,off+j,N⟩=aa u) (h1:∀ u ∈ news,u.oneCell'=ah) :
 am Tryz.prog 73 #[.slice (aa ⟨b,off,N⟩) n c] w fun e w'=>∃ v',e=.returned v'/\w'.ownsRow w.heap.size 81 size v' n news/\v'≠.slice N 0 0/\ae w.heap.size w w':=AnyE.slices_Clone Tryz.laysCloneM i0 z size aA hi hz0 hz1 hz2 hzs hsz z23 b off n c news w hl hn hbig hc h1
end Go.Proofs
namespace Go.Proofs
open Go.Shelf
def Tryz.laysCloneE_ren:Go.Shelf.Ren:=⟨fun | 41=>46 | n=>n,fun | 22=>40 | 23=>47 | 4=>4 | n=>n,fun | n=>n⟩
theorem Tryz.laysCloneE:Go.Proofs.SlLaysE0.n41 Tryz.prog Tryz.laysCloneE_ren:={
 mixed:=by kernel_rfl
 f41:=⟨Tryz.f46.name,by decide,Tryz.func46.trans (congrArg aa (by kernel_rfl))⟩
 t4:=Tryz.underlying4
 a4:=Tryz.isAgg4
 z4:=Tryz.sizeOf4
 v4:=Tryz.zeroValue4
 t22:=Tryz.underlying40
 a22:=Tryz.isAgg40
 z22:=Tryz.sizeOf40
 v22:=Tryz.zeroValue40 }
open Go.RowKit in
theorem Tryz.slices_CloneE (i0:TypeInfo)(z:ai)(size aA:Nat)(hi:Tryz.prog.info? 47=aa i0)(hz0:i0.zero=aa z)(hz1:i0.size=size)(hz2:i0.bytes=aA)(hzs:z.cells.size=size)(hsz:0 < size)
 (z23:∀ w,(Go.sizeOf 47).run Tryz.prog w=.ok size w) (b off n c:Nat) (news:List ai) (w:World) (hl:news.length=n*size) (hn:n<=maxLen) (hbig:n*aA<=140737488355328)
 (hc:∀ j u,news[j]?=aa u->w.cell? ⟨b,off+j,N⟩=aa u) (h1:∀ u ∈ news,u.oneCell'=ah) :
 am Tryz.prog 46 #[.slice (aa ⟨b,off,N⟩) n c] w fun e w'=>∃ v',e=.returned v'/\w'.ownsRow w.heap.size 47 size v' n news/\v'≠.slice N 0 0/\ae w.heap.size w w':=AnyE.slices_Clone Tryz.laysCloneE i0 z size aA hi hz0 hz1 hz2 hzs hsz z23 b off n c news w hl hn hbig hc h1
end Go.Proofs
namespace Go.Proofs.YtflpelnbjekjbaaGreatDoor
open Go.RowKit
variable {L:List Yh}{s:Bool}{c:Int}{H:Type}{W w:World}{v:ai}{a:BA}{l:List UInt8}{b B:Nat}{x:Zb}{t T:zi}{m m':Je}
section
structure ZF (w:World) (B:Nat) (h:Nat) (S:Nat->Prop) (m:Je) (mp:Option Nat) (D:ax ai) (hb:Nat->Nat) (Sh:Nat->Nat->Prop):Prop where
 blk:w.heap[h]?=aa (.cells #[.string m.name,.map mp] 142 (0,0))
 self:S h
 aO:∀k,S k->B<=k/\k<w.heap.size
 aN:m.cH
 none_:mp=N->m.L=[]
 map:∀b,mp=aa b->S b/\b≠h/\X0 w b m.L D hb
 hold:∀i,i<m.L.length->QB w (hb i) (Sh i) (Zg m.L i).2.1 (Zg m.L i).2.2
 sub:∀i,i<m.L.length->∀k,Sh i k->S k/\k≠h/\mp≠aa k
 apart:∀i j,i<m.L.length->j<m.L.length->i≠j->∀k,Sh i k->¬Sh j k
def XE (w:World)(B:Nat)(h:Nat)(S:Nat->Prop)(m:Je):Prop:=∃mp D hb Sh,ZF w B h S m mp D hb Sh
variable {w w':World} {B h:Nat} {S:Nat->Prop} {m:Je} {mp:Option Nat} {D:ax ai} {hb:Nat->Nat} {Sh:Nat->Nat->Prop}
theorem QB.gT {w w':World}{h:Nat}{S:Nat->Prop}(H:QB w h S L s)(I:w.heap.size<=w'.heap.size)(hb:∀k,S k->w'.heap[k]?=w.heap[k]?):QB w' h S L s:=by
 obtain⟨a,b,c,d,H⟩:=H;exact⟨a,b,c,d,H.aS I hb⟩
theorem ZF.aS (H:ZF w B h S m mp D hb Sh)(O:w.heap.size<=w'.heap.size)(J:∀k,S k->w'.heap[k]?=w.heap[k]?):ZF w' B h S m mp D hb Sh where
 blk:=(J h H.self).trans H.blk
 self:=H.self
 aO:=fun k I=>⟨(H.aO k I).1,ap (H.aO k I).2 O⟩
 aN:=H.aN
 none_:=H.none_
 map:=fun b e=>⟨(H.map b e).1,(H.map b e).2.1,(H.map b e).2.2.same (J b (H.map b e).1)⟩
 hold:=fun i K=>(H.hold i K).gT O (fun k I=>J k (H.sub i K k I).1)
 sub:=H.sub
 apart:=H.apart
theorem ZF.lt (H:ZF w B h S m mp D hb Sh):h<w.heap.size:=(H.aO h H.self).2
theorem ZF.vP (H:ZF w B h S m mp D hb Sh):B<=w.heap.size:=Nat.le_of_lt (Nat.lt_of_le_of_lt (H.aO h H.self).1 H.lt)
theorem ZF.below (H:ZF w B h S m mp D hb Sh)(I:ae w.heap.size w w'):ZF w' B h S m mp D hb Sh:=H.aS I.size fun k J=>I.block k (H.aO k J).2
theorem ZF.cells (H:ZF w B h S m mp D hb Sh):w.cell? ⟨h,0,N⟩=aa (.string m.name)/\w.cell? ⟨h,1,N⟩=aa (.map mp)/\w.frozen? ⟨h,1,N⟩=false:=by
 refine⟨?_,?_,?_⟩
 ·simp[ab,H.blk]
 ·simp[ab,H.blk]
 ·simp[World.frozen?,H.blk]
theorem ZF.look (H:ZF w B h S m mp D hb Sh)(I:YQ c):(Instr.lookup 140 (.map mp) (.int .i64 c) F).run Tryz.prog w=.ok (lI m.L hb c) w:=by
 cases mp with
 |none =>
  rw[BY w I];have e:=H.none_ rfl;unfold lI;rw[e];rfl
 |some b=>exact(H.map b rfl).2.2.look I
theorem ZF.len (H:ZF w B h S m mp D hb Sh)(I:zi):(Builtin.len_ #[140] I #[.map mp]).run Tryz.prog w=.ok (.int .i64 (m.L.length:Nat)) w:=by
 cases mp with
 |none =>
  rw[H.none_ rfl]
  kernel_rfl
 |some b=>exact(H.map b rfl).2.2.len I
theorem ZF.pI (H:ZF w B h S m mp D hb Sh){i:Nat}(U:i<m.L.length){L':List Yh}{s':Bool}{Sn:Nat->Prop}(hH:QB w' (hb i) Sn L' s')(hU:Yd (Sh i) Sn w w')(a5:∀k,Sn k->k<w'.heap.size)(hF:(m.put i (L',s')).cH):
 ZF w' B h (fun k=>S k∨Sn k) (m.put i (L',s')) mp D hb (fun j=>if j=i then Sn else Sh j)/\Yd S (fun k=>S k∨Sn k) w w':=by
 have a2:=hU.block;have a0:=hU.new;refine⟨⟨(a2 h H.lt (fun e=>(H.sub i U h e).2.1 rfl)).trans H.blk,af H.self,fun k I=>?_,hF,fun e=>?_,fun b e=>⟨af (H.map b e).1,(H.map b e).2.1,?_⟩,fun j K=>?_,fun j K k I=>?_,fun j q K hq a4 k I O=>?_⟩,⟨hU.os,hU.tape,hU.output,hU.size,fun k I hs=>a2 k I (fun e=>hs (H.sub i U k e).1),fun k I=>?_⟩⟩
 ·rcases I with I|I
  ·exact⟨(H.aO k I).1,ap (H.aO k I).2 hU.size⟩
  ·rcases a0 k I with J|J
   ·exact⟨(H.aO k (H.sub i U k J).1).1,a5 k I⟩
   ·exact⟨aj H.vP J,a5 k I⟩
 ·have:=H.none_ e;rw[this]at U;exact absurd U (ac _)
 ·have hc:=(H.map b e).2.2;have a3:=hc.same (a2 b hc.lt (fun e'=>(H.sub i U b e').2.2 e));have hf:∀j,(Zg (m.put i (L',s')).L j).1=(Zg m.L j).1:=fun j=>by
   rw[mC U];split
   ·rename_i e;rw[e]
   ·rfl
  have hI:∀c,Yf (m.put i (L',s')).L c=Yf m.L c:=fun c=>by
   have Z:∀(L1 L2:List fA),L1.length=L2.length->(∀j,(Zg L1 j).1=(Zg L2 j).1)->Yf L1 c<=Yf L2 c:=fun L1 L2 hl a6=>by
    rcases aF (Yf L2 c) (Yf L1 c)with J|J
    ·have h2:=Q6 J;have h3:Yf L2 c<L2.length:=by have:=kL L1 c;omega
     exact absurd (by rw[a6];exact nO h3) h2
    ·exact J
   exact Nat.le_antisymm (Z _ _ (ZH _ _ _) hf) (Z _ _ (ZH _ _ _).symm (fun j=>(hf j).symm))
  exact⟨a3.own,fun c a7=>by rw[hI,ZH];exact a3.has c a7,fun j K z=>by rw[hf];rw[ZH]at K;exact a3.at_ j K z,by rw[ZH];exact a3.size⟩
 ·rw[ZH]at K;rw[mC U];by_cases e:j=i
  ·rw[if_pos e,if_pos e,e];exact hH
  ·rw[if_neg e,if_neg e];exact(H.hold j K).gT hU.size (fun k I=>a2 k (H.aO k (H.sub j K k I).1).2 (fun e'=>H.apart j i K U e k I e'))
 ·rw[ZH]at K;by_cases e:j=i
  ·have O:Sn k:=by rw[if_pos e]at I;exact I
   rcases a0 k O with J|J
   ·exact⟨ag O,(H.sub i U k J).2⟩
   ·refine⟨ag O,fun Z=>?_,fun Z=>?_⟩
    ·have:=H.lt;omega
    ·have:=(H.map k Z).2.2.lt;omega
  ·have O:Sh j k:=by rw[if_neg e]at I;exact I
   exact⟨af (H.sub j K k O).1,(H.sub j K k O).2⟩
 ·rw[ZH]at K hq;by_cases Z:j=i<;>by_cases e2:q=i
  ·exact a4 (Z.trans e2.symm)
  ·have J:Sn k:=by rw[if_pos Z]at I;exact I
   have h2:Sh q k:=by rw[if_neg e2]at O;exact O
   rcases a0 k J with h3|h3
   ·exact H.apart i q U hq (fun e=>e2 e.symm) k h3 h2
   ·have:=(H.aO k (H.sub q hq k h2).1).2;omega
  ·have J:Sh j k:=by rw[if_neg Z]at I;exact I
   have h2:Sn k:=by rw[if_pos e2]at O;exact O
   rcases a0 k h2 with h3|h3
   ·exact H.apart j i K U Z k J h3
   ·have:=(H.aO k (H.sub j K k J).1).2;omega
  ·have J:Sh j k:=by rw[if_neg Z]at I;exact I
   have h2:Sh q k:=by rw[if_neg e2]at O;exact O
   exact H.apart j q K hq a4 k J h2
 ·rcases I with I|I
  ·exact af I
  ·rcases a0 k I with J|J
   ·exact af (H.sub i U k J).1
   ·exact ag J
end
section
open Go.ChangeShapes Go.WideShapes Go.ChangeAt Go.RowKit
theorem ES:Tryz.prog.cellsOf 3=1:=by kernel_rfl
theorem RF:Tryz.prog.cellsOf 22=1:=by kernel_rfl
theorem BE {enc:zi×ai->H}{fuel:Nat}{y:ax H×List MemPlace}(h:DataW.trod enc Tryz.prog W 0 (fun _=>ah) ah fuel 22 [v]=aa y):∃p l cap,v=.slice p l.length cap/\IK W l p cap:=by
 rcases Deep.open_strs Tryz.underlying22 Tryz.underlying9 (by kernel_rfl) h with⟨J,_⟩|⟨a,B,a0,m,O,J,_,a2,a7,hm,hd,K⟩
 ·simp at J;subst J;exact⟨N,[],0,rfl,⟨af rfl,aw _,fun _=>⟨rfl,rfl⟩,ze _,fun x K=>by cases K⟩⟩
 ·simp at J;subst J;have a9:B<=m:=by rw[hm];split<;>omega
  have D:((az B).map O).length=B:=by simp
  have a3:∀i,i<B->Yc ((az B).map O) i=O i:=fun i I=>by
   rw[Xk _ i (by rw[D];exact I)];simp
  refine⟨aa a,(az B).map O,a0,by rw[D],⟨?_,by rw[D];exact a2,(fun e=>by cases e),by rw[D];omega,fun x a4=>?_⟩⟩
  ·by_cases h0:B=0
   ·exact af (List.length_eq_zero_iff.1 (by rw[D];exact h0))
   ·have U:=(K 0 (by omega)).1;obtain⟨b,a5,sp⟩:=a;have a6:sp=none:=by
     cases sp with
     |none=>rfl
     |some q =>
      exfalso;simp[Addr.add,ab]at U
      revert U
      split<;>intro h9<;>cases h9
    subst a6;refine ag ⟨b,a5,rfl,?_,fun i I=>?_⟩
    ·rw[Addr.add_lit]at U;rcases aF b W.heap.size with Z|Z
     ·exact Z
     ·simp[ab,Array.getElem?_eq_none Z]at U
    ·rw[D]at I;have:=(K i (by omega)).1;rw[Addr.add_lit]at this;rw[a3 i I];exact this
  ·obtain⟨i,I,rfl⟩:=List.mem_map.1 a4;exact(K i (by have:=List.mem_range.1 I;omega)).2
theorem M5 {enc:zi×ai->H}{base:Nat}{d:ax H}{ps:List MemPlace}(D:Value.okWide Tryz.prog W .any base 22 v)(h:DataW.Trod enc Tryz.prog W 0 (fun _=>ah) ah 22 v d ps):∃p l cap,v=.slice p l.length cap/\IK W l p cap:=by
 obtain⟨I,J,K,rfl⟩:=okWide_slice Tryz.underlying22 D;obtain⟨fuel,B⟩:=h;exact BE B
end
theorem rI (h:a≠⟨l.toArray⟩):¬a.toList=l:=fun e=>h (by
 rw[ByteArray.toList_eq]at e;exact ByteArray.ext (by rw[<-e]))
theorem XQ (h:a≠⟨l.toArray⟩):(a.toList==l)=false:=by simpa using rI h
def lV (s:BA):Nat->Nat
 |0=>2166136261
 |i+1=>(lV s i^^^Gf.nth (Zj s) i)*16777619%4294967296
theorem B2 (s:BA):∀i,lV s i<4294967296
 |0=>by show 2166136261<4294967296;decide
 |i+1=>Nat.mod_lt _ (by decide)
theorem WN (a b:Nat)(D:a<4294967296)(H:b<4294967296):bits .xor .u32 (a:Int) (b:Int)=((a^^^b:Nat):Int):=by
 have B:a^^^b<2^32:=Nat.xor_lt_two_pow (by omega) (by omega);show IntKind.u32.wrap ((BitVec.ofInt 32 (a:Int)^^^BitVec.ofInt 32 (b:Int)).toNat:Int)=_;rw[BitVec.toNat_xor,BitVec.ofInt_natCast,BitVec.ofInt_natCast,BitVec.toNat_ofNat,BitVec.toNat_ofNat,au (by omega),au (by omega)];show((a^^^b:Nat):Int)%4294967296=_;omega
theorem IH (s:BA)(w:World)(Z:s.size<=1000000):
 am Tryz.prog 105 #[.string s] w fun e w'=>e=.returned (.int .u32 ((lV s s.size:Nat):Int))/\w'=w:=by
 go_enter Tryz.func105,Tryz.ntmps105;go_wp2
 go_loop [3,7] (fun c x=>∃i:Nat,i<=s.size/\x=.int .i64 i/\c=.int .u32 ((lV s i:Nat):Int)) (fun _ x=>s.size-(intOf x).toNat)
 case atStart=>exact⟨0,ze _,rfl,rfl⟩
 case round =>
  obtain⟨i,J,rfl,rfl⟩:=hrel;have B:=B2 s i;by_cases D:i<s.size
  ·have K:=EP s i D;have O:=xK s i;have H:Hid (lV s (i+1)=(lV s i^^^Gf.nth (Zj s) i)*16777619%4294967296):=by show _=_;rfl
   generalize lV s i=c at *;generalize Gf.nth (Zj s) i=y at *;have U:bits .xor .u32 (c:Int) (y:Int)=((c^^^y:Nat):Int):=WN _ _ B (by omega);generalize c^^^y=q at *;go_wp2
   go_round
   case rel=>exact⟨i+1,by omega,by go_num,by rw[H.out];congr 1⟩
   case measure=>simp[intOf];omega
  ·have I:i=s.size:=by omega
   subst I;go_wp2;go_ret;exact⟨rfl,rfl⟩
section
variable {w w':World} {B h:Nat} {S:Nat->Prop} {m:Je} {mp:Option Nat} {D:ax ai} {hb:Nat->Nat} {Sh:Nat->Nat->Prop}
theorem K3 {w:World}{x y:ai}(h:w.heap[b]?=aa (.cells #[x,y] t (0,0)))(v:ai):(w.setCell ⟨b,1,N⟩ v).heap[b]?=aa (.cells #[x,v] t (0,0)):=by
 simp[ao,Array.getElem?_modify,h]
theorem ZF.make (K:ZF w B h S m N D hb Sh):ZF ((w.setCell ⟨h,1,N⟩ (.map (aa w.heap.size))).alloc (.map #[] 0)) B h (fun k=>S k∨k=w.heap.size) m (aa w.heap.size) (.map []) hb Sh/\Yd S (fun k=>S k∨k=w.heap.size) w ((w.setCell ⟨h,1,N⟩ (.map (aa w.heap.size))).alloc (.map #[] 0)):=by
 have O:=K.none_ rfl;have a0:=K.lt;have Z:(w.setCell ⟨h,1,N⟩ (.map (aa w.heap.size))).heap.size=w.heap.size:=by simp[ao]
 obtain⟨U,I⟩:=Xb ((w.setCell ⟨h,1,N⟩ (.map (aa w.heap.size))).alloc (.map #[] 0));have a6:U.heap.size=w.heap.size+1:=by rw[I];simp[ao]
 have a2:∀k,k<w.heap.size->k≠h->U.heap[k]?=w.heap[k]?:=fun k H a3=>by rw[I,Below.heap_alloc _ _ _ (by rw[Z];exact H)];exact Below.heap_setCell _ _ _ _ a3
 have a4:U.heap[h]?=aa (.cells #[.string m.name,.map (aa w.heap.size)] 142 (0,0)):=by rw[I,Below.heap_alloc _ _ _ (by rw[Z];exact a0)];exact K3 K.blk _
 have a5:X0 U w.heap.size m.L (.map []) hb:=by
  have:=X0.empty (w.setCell ⟨h,1,N⟩ (.map (aa w.heap.size))) hb;rw[Z]at this;rw[I,O];exact this
 rw[<-I];refine⟨⟨a4,af K.self,fun k H=>?_,K.aN,(fun e=>by cases e),fun b e=>?_,fun i J=>?_,fun i J=>?_,fun i _ J=>?_⟩,⟨by rw[I];rfl,by rw[I];rfl,by rw[I];rfl,by omega,fun k H hs=>a2 k H (fun e=>hs (by rw[e];exact K.self)),fun k H=>H.elim af (fun e=>ag (by omega))⟩⟩
 ·rcases H with H|H
  ·have:=K.aO k H;exact⟨this.1,by omega⟩
  ·rw[H];exact⟨K.vP,by omega⟩
 ·obtain rfl:w.heap.size=b:=by injection e
  exact⟨ag rfl,by omega,a5⟩
 ·rw[O]at J;exact absurd J (ac _)
 ·rw[O]at J;exact absurd J (ac _)
 ·rw[O]at J;exact absurd J (ac _)
theorem ZF.more (I:ZF w B h S m (aa b) D hb Sh)(hc:YQ c){my:Je}(a9:¬Yf m.L c<m.L.length)(U:m.held c=aa my){w1 Z:World}{J:Nat}(a0:ae w.heap.size w w1)(d0:w.heap.size<=J)(b6:J<w1.heap.size)(hH:QB w1 J (fun k=>k=J) [] F)
 (b7:∃n,n<=1000/\lE Z b n (D.put (iI c) (.held (.pointer (aa ⟨J,0,N⟩))))) (hg:w1.grownBy Z (aa b)):
 ZF Z B h (fun k=>S k∨k=J) my (aa b) (D.put (iI c) (.held (.pointer (aa ⟨J,0,N⟩)))) (fun i=>if i=m.L.length then J else hb i) (fun i=>if i=m.L.length then(fun k=>k=J)else Sh i)/\Yd S (fun k=>S k∨k=J) w Z:=by
 obtain⟨a4,a5,a6⟩:=I.map b rfl;have b0:=(I.aN.iD hc U).1;have b1:my=⟨m.name,m.L++ [(c,[],F)]⟩:=by
  unfold Je.held at U;rw[if_neg a9]at U;split at U
  ·cases U
  ·exact(Option.some.inj U).symm
 subst b1;have b8:=a0.size;have b2:=hg.size;have a3:∀k,k<w.heap.size->k≠b->Z.heap[k]?=w.heap[k]?:=fun k H b3=>(hg.block k (by omega) (fun e=>b3 (by injection e))).trans (a0.block k H)
 have hL:(m.L++ [(c,([]:List Yh),F)]).length=m.L.length+1:=by rw[ak];rfl
 have b4:J≠b:=by have:=a6.lt;omega
 refine⟨⟨(a3 h I.lt (fun e=>a5 e.symm)).trans I.blk,af I.self,fun k H=>?_,b0,(fun e=>by cases e),fun b' e=>?_,fun i hi=>?_,fun i hi k H=>?_,fun i j hi hj b5 k K O=>?_⟩,⟨hg.os.trans a0.os,hg.tape.trans a0.tape,hg.output.trans a0.output,by omega,fun k H hs=>a3 k H (fun e=>hs (by rw[e];exact a4)),fun k H=>H.elim af (fun e=>ag (by omega))⟩⟩
 ·rcases H with H|H
  ·have:=I.aO k H;exact⟨this.1,by omega⟩
  ·have:=I.vP;exact⟨by omega,by omega⟩
 ·obtain rfl:b=b':=by injection e
  exact⟨af a4,a5,(a6.same (w':=w) rfl).put hc a9 J ([],F) b7⟩
 ·have a7:i<m.L.length+1:=by rw[<-hL];exact hi
  show QB Z (if i=m.L.length then J else hb i) (if i=m.L.length then(fun k=>k=J)else Sh i) (Zg (m.L++ [(c,([]:List Yh),F)]) i).2.1 (Zg (m.L++ [(c,([]:List Yh),F)]) i).2.2;rw[QI];by_cases K:i<m.L.length
  ·rw[if_neg (by omega),if_neg (by omega),if_pos K];exact(I.hold i K).gT (by omega) (fun k H=>a3 k (I.aO k (I.sub i K k H).1).2 (fun e=>(I.sub i K k H).2.2 (by rw[e])))
  ·rw[if_pos (by omega),if_pos (by omega),if_neg K,if_pos (by omega)];exact hH.gT b2 (fun k H=>by rw[H];exact hg.block J b6 (fun e=>b4 (by injection e)))
 ·have a7:i<m.L.length+1:=by rw[<-hL];exact hi
  by_cases K:i=m.L.length
  ·have a2:k=J:=by rw[if_pos K]at H;exact H
   refine⟨ag a2,?_,fun e=>?_⟩
   ·have:=I.lt;omega
   ·injection e with e;omega
  ·have a2:Sh i k:=by rw[if_neg K]at H;exact H
   exact⟨af (I.sub i (by omega) k a2).1,(I.sub i (by omega) k a2).2⟩
 ·have a7:i<m.L.length+1:=by rw[<-hL];exact hi
  have c8:j<m.L.length+1:=by rw[<-hL];exact hj
  by_cases e1:i=m.L.length<;>by_cases e2:j=m.L.length
  ·omega
  ·have h3:k=J:=by rw[if_pos e1]at K;exact K
   have h4:Sh j k:=by rw[if_neg e2]at O;exact O
   have:=(I.aO k (I.sub j (by omega) k h4).1).2;omega
  ·have h3:Sh i k:=by rw[if_neg e1]at K;exact K
   have h4:k=J:=by rw[if_pos e2]at O;exact O
   have:=(I.aO k (I.sub i (by omega) k h3).1).2;omega
  ·have h3:Sh i k:=by rw[if_neg e1]at K;exact K
   have h4:Sh j k:=by rw[if_neg e2]at O;exact O
   exact I.apart i j (by omega) (by omega) b5 k h3 h4
end
def pR (x:Zb):Prop:=(x.from_.size<=140737488351232/\x.aP.size<=140737488351232/\x.kind.size<=140737488351232/\x.key.size<=140737488351232)/\x.L.length<=2932031007317/\∀v∈x.L,v.text.size<=140737488351232
section
variable {w w':World} {B h:Nat} {S:Nat->Prop} {m:Je} {mp:Option Nat} {D:ax ai} {hb:Nat->Nat} {Sh:Nat->Nat->Prop}
theorem N9 (w:World)(name:BA):XE (w.alloc (.cells #[.string name,.map N] 142)) w.heap.size w.heap.size (fun k=>k=w.heap.size) ⟨name,[]⟩:=by
 refine⟨N,.map [],fun _=>0,fun _ _=>False,⟨?_,rfl,fun k I=>?_,Je.cH.nil _,fun _=>rfl,(fun b e=>by cases e),fun i H=>absurd H (ac _),fun i H=>absurd H (ac _),fun i _ H=>absurd H (ac _)⟩⟩
 ·show(w.heap.push _)[w.heap.size]?=_;simp
 ·subst I;exact⟨aw _,by simp⟩
theorem UC (ad:Nat->Addr)(name:BA)(w:World)(a3:name.size<=140737488351232)(hE:∀W,ae w.heap.size w W->W.cell? ⟨6,0,N⟩=aa (.iface 301 (.pointer (aa (ad 3))))):
 am Tryz.prog 55 #[.string name] w fun e w'=>((Jo name=ah/\∃h S,e=.returned (.tuple #[.pointer (aa ⟨h,0,N⟩),.nilIface])/\XE w' w.heap.size h S ⟨name,[]⟩)∨(Jo name=F/\∃ev,e=.returned (.tuple #[.pointer N,ev])/\oJ ad ev 4))/\ae w.heap.size w w':=by
 have I:=qF name w;have HE:Hid _:=hE;clear hE;cases hn:Jo name with
 |false =>
  rw[hn]at I;go_enter Tryz.func55,Tryz.ntmps55;go_wp2_with fail
  refine I.mono ?_;rintro e U ⟨rfl,J⟩;have e1:=HE.out U J;have K:Hid _:=J;clear J I;go_wp2;go_quiet (fail)
  go_wp2;refine bodyPost_ret (v:=.tuple #[.pointer N,.iface 301 (.pointer (aa (ad 3)))]) (by simp[results,Tryz.results55,go_sem]) rfl ?_;exact⟨ag ⟨by first|trivial|rfl,_,rfl,Or.inr ⟨3,by decide,rfl,rfl⟩⟩,below_drewN K.out _⟩
 |true =>
  rw[hn]at I;go_enter Tryz.func55,Tryz.ntmps55;go_wp2_with fail
  refine I.mono ?_;rintro e U ⟨rfl,J⟩;have a0:=Xs name U a3;have Z:Hid _:=J;clear J I;go_wp2_with fail
  refine a0.mono ?_;rintro e O ⟨rfl,a2⟩;have K:Hid _:=Z.out.trans (a2.mono Z.out.size);clear a2 a0 Z;go_wp2;refine bodyPost_ret (v:=.tuple #[.pointer (aa ⟨O.heap.size,0,N⟩),.nilIface]) (by simp[results,Tryz.results55,go_sem]) rfl ?_;obtain⟨mp,D,hb,Sh,H⟩:=N9 O name;exact⟨af ⟨by first|trivial|rfl,O.heap.size,(fun k=>k=O.heap.size),rfl,mp,D,hb,Sh,H.blk,H.self,fun k hk=>⟨aj K.out.size (H.aO k hk).1,(H.aO k hk).2⟩,H.aN,H.none_,H.map,H.hold,H.sub,H.apart⟩,K.out.alloc K.out.size _⟩
end
section
variable {w w':World} {B h:Nat} {S:Nat->Prop} {m:Je} {mp:Option Nat} {D:ax ai} {hb:Nat->Nat} {Sh:Nat->Nat->Prop}
theorem Jlc (b:Nat)(W:World):Sem.run Tryz.prog (binOp .eql 140 (.map (aa b)) (.map N)) W=.ok (.bool F) W:=by kernel_rfl
theorem Jmp (W:World):Sem.run Tryz.prog (binOp .eql 140 (.map N) (.map N)) W=.ok (.bool ah) W:=by kernel_rfl
def zN (w:World)(B h:Nat)(S:Nat->Prop)(m:Je)(c:Int)(e:Ending)(w':World):Prop :=
 (m.held c=N/\e=.returned (.pointer N)/\ae w.heap.size w w')∨∃H I K O J U,m.held c=aa H/\e=.returned (.pointer (aa ⟨J (Yf m.L c),0,N⟩))/\Yf m.L c<H.L.length/\ZF w' B h I H K O J U/\Yd S I w w'
theorem JoN (K:ZF w B h S m (aa b) D hb Sh)(hc:YQ c):am Tryz.prog 93 #[.pointer (aa ⟨h,0,N⟩),.int .i64 c] w fun e w'=>zN w B h S m c e w':=by
 obtain⟨_,q1,f1⟩:=K.cells;have a3:=K.look hc;have a4:∀ty,(Builtin.len_ #[140] ty #[.map (aa b)]).run Tryz.prog w=.ok (.int .i64 (m.L.length:Nat)) w:=fun ty=>K.len ty
 have Z:Hid _:=K;have HC:Hid _:=hc;have b6:=Jlc b;have b3:=K.aN.bO;clear K hc;by_cases H:Yf m.L c<m.L.length
 ·have O:lI m.L hb c=.pointer (aa ⟨hb (Yf m.L c),0,N⟩):=by unfold lI;rw[if_pos H]
  rw[O]at a3;have I:Hid (m.held c=aa m):=by show _=_;unfold Je.held;rw[if_pos H]
  have J:Hid _:=H;clear O a4;generalize a5:hb (Yf m.L c)=hk at *;have b4:Hid _:=a5;clear a5 H;go_enter Tryz.func93,Tryz.ntmps93;go_wp2;go_ret;exact ag ⟨m,S,aa b,D,hb,Sh,I.out,by rw[b4.out];rfl,J.out,Z.out,Yd.aJ bR⟩
 ·have O:lI m.L hb c=.pointer none:=by unfold lI;rw[if_neg H]
  rw[O]at a3;have J:Hid (¬Yf m.L c<m.L.length):=H;clear O H;obtain⟨n,hn⟩:=Xb m.L.length;have HN:Hid _:=hn;rw[<-hn]at a4 b3;clear hn;by_cases a6:12<=n
  ·have I:Hid (m.held c=N):=by show _=_;unfold Je.held;rw[if_neg J.out,if_pos (by rw[<-HN.out];exact a6)]
   go_enter Tryz.func93,Tryz.ntmps93;go_wp2;go_ret;exact af ⟨I.out,rfl,Below.refl _ _⟩
  ·have I:Hid (m.held c=aa ⟨m.name,m.L++ [(c,[],F)]⟩):=by show _=_;unfold Je.held;rw[if_neg J.out,if_neg (by rw[<-HN.out];exact a6)]
   obtain⟨w1,U⟩:=Xb (w.alloc (.cells #[.map none, .bool false] 189));have a0:=Zk U;have a7:=fQ U;have a9:QB w1 w.heap.size (fun k=>k=w.heap.size) [] false:=by rw[U];exact FO w
   have a2:=Z.out.below a0;obtain⟨_,k1,_⟩:=a2.cells;obtain⟨w2,b7,b0,b1⟩:=(a2.map b rfl).2.2.step HC.out (by have:=Z.out.aN.bO;omega) w.heap.size;have HM:=Z.out.more HC.out J.out I.out a0 nR a7 a9 b0 b1;have b2:Hid _:=HM;have b5:Hid _:=U;clear U a0 a7 a9 a2 b0 b1 HM;go_enter Tryz.func93,Tryz.ntmps93;go_wp2_with (first|rw[<-b5.out])
   go_ret;refine ag ⟨_,_,_,_,_,_,I.out,?_,?_,b2.out.1,b2.out.2⟩
   ·have e2:Yf m.L c=m.L.length:=by have:=kL m.L c;have:=J.out;omega
    show _=Ending.returned (.pointer (aa ⟨if Yf m.L c=m.L.length then w.heap.size else hb (Yf m.L c),0,N⟩));rw[if_pos e2];rfl
   ·show _<(m.L++ [_]).length;rw[ak];have:=kL m.L c;show _<_+1;omega
theorem JoO (I:ZF w B h S m N D hb Sh)(U:YQ c):am Tryz.prog 93 #[.pointer (aa ⟨h,0,N⟩),.int .i64 c] w fun e w'=>zN w B h S m c e w':=by
 obtain⟨_,q1,f1⟩:=I.cells;have J:=I.none_ rfl;have a5:=I.lt;have b5:=BY w U;have b6:∀Z,(Builtin.len_ #[140] Z #[.map N]).run Tryz.prog w=.ok (.int .i64 (0:Nat)) w:=fun Z=>by have:=I.len Z;rw[J]at this;exact this
 have b7:=Jmp;have HG:Hid (¬Yf m.L c<m.L.length):=by show ¬_;rw[J];exact ac _
 have HH:Hid (m.held c=aa ⟨m.name,m.L++ [(c,[],F)]⟩):=by show _=_;unfold Je.held;rw[if_neg HG.out,if_neg (by rw[J];decide)]
 obtain⟨O,a0⟩:=I.make;obtain⟨H,a2⟩:=Xb ((w.setCell ⟨h,1,N⟩ (.map (aa w.heap.size))).alloc (.map #[] 0));rw[<-a2]at O a0;have b8:(w.alloc (.map #[] 0)).frozen? ⟨h,1,N⟩=false:=by rw[((Below.refl _ w).alloc nR _).frozen (p:=⟨h,1,N⟩) a5];exact f1
 have c8:(w.alloc (.map #[] 0)).cell? ⟨h,1,N⟩=aa (.map N):=by rw[((Below.refl _ w).alloc nR _).cell (p:=⟨h,1,N⟩) a5];exact q1
 have d0:(Instr.makeMap 140 N).run Tryz.prog w=.ok (.map (aa w.heap.size)) (w.alloc (.map #[] 0)):=by kernel_rfl
 obtain⟨w1,K⟩:=Xb (H.alloc (.cells #[.map none, .bool false] 189));have a3:=Zk K;have a6:=fQ K;have a7:QB w1 H.heap.size (fun k=>k=H.heap.size) [] false:=by rw[K];exact FO H
 have a4:=O.below a3;obtain⟨_,k1,_⟩:=a4.cells;obtain⟨w2,d1,a9,b0⟩:=(a4.map w.heap.size rfl).2.2.step U (by rw[J];decide) H.heap.size;have HM:=O.more U HG.out HH.out a3 nR a6 a7 a9 b0;have b1:Hid _:=HM.1;have b2:Hid _:=a0.trans HM.2;have b3:Hid _:=a2;have b4:Hid _:=K;clear K a3 a6 a7 a4 a9 b0 HM I O a0 a2 J U;go_enter Tryz.func93,Tryz.ntmps93;go_wp2_with (first|rw[<-b3.out]|rw[<-b4.out])
 go_ret;refine ag ⟨_,_,_,_,_,_,HH.out,?_,?_,b1.out,b2.out⟩
 ·have e2:Yf m.L c=m.L.length:=by have:=kL m.L c;have:=HG.out;omega
  show _=Ending.returned (.pointer (aa ⟨if Yf m.L c=m.L.length then H.heap.size else hb (Yf m.L c),0,N⟩));rw[if_pos e2];rfl
 ·show _<(m.L++ [_]).length;rw[ak];have:=kL m.L c;show _<_+1;omega
theorem CJ (H:ZF w B h S m mp D hb Sh)(I:YQ c):am Tryz.prog 93 #[.pointer (aa ⟨h,0,N⟩),.int .i64 c] w fun e w'=>zN w B h S m c e w':=by
 cases mp with
 |none=>exact JoO H I
 |some b=>exact JoN H I
end
def iN (x:Zb):Prop:=(¬x.config<0/\Jo x.key=ah)/\¬kT x
instance (x:Zb):Decidable (iN x):=by unfold iN;infer_instance
theorem KD (h:¬(x.aP=m.name/\iN x)):m.aD x=(m,[]):=by
 unfold Je.aD;rw[if_pos];by_cases B:x.aP=m.name
 ·by_cases D:kT x
  ·exact ag D
  ·refine af (ag ?_);by_cases H:x.config<0
   ·exact af H
   ·refine ag ?_;cases I:Jo x.key with
    |false=>rfl
    |true=>exact absurd ⟨B,⟨H,I⟩,D⟩ h
 ·exact af (af B)
theorem uO (D:x.aP=m.name)(B:iN x):m.aD x=match m.held x.config with|none=>(m,[])|some m1=>m1.cG (Yf m.L x.config) x:=by
 unfold Je.aD;refine if_neg ?_;rintro(h|h)
 ·rcases h with h|h|h
  ·exact h D
  ·exact B.1.1 h
  ·rw[B.1.2]at h;cases h
 ·exact B.2 h
theorem vY (x:Zb×Lv)(hx:x.2.2.1=x.1.L.length)(hl:x.1.L.length<=2932031007317)(w:World):
 am Tryz.prog 92 #[.agg #[.string x.1.from_,.string x.1.aP,.string x.1.kind,.string x.1.key,.int .i64 x.1.op,.int .i64 x.1.config,.bool x.1.shut,.slice x.2.1 x.2.2.1 x.2.2.2]] w fun e w'=>e=.returned (.bool (decide (iN x.1)))/\ae w.heap.size w w':=by
 obtain⟨⟨m1,m2,m3,m4,m5,m6,m7,J⟩,lp,ln,lc⟩:=x;dsimp only at *;subst hx;obtain⟨w1,a4⟩:=Xb (w.alloc (.cells #[.string m1,.string m2,.string m3,.string m4,.int .i64 m5,.int .i64 m6,.bool m7,.slice lp J.length lc] 81));have b0:=Zk a4;have a7:=fQ a4;have d2:w1.cell? ⟨w.heap.size,2,N⟩=aa (.string m3):=XX a4 rfl;have d3:w1.cell? ⟨w.heap.size,3,N⟩=aa (.string m4):=XX a4 rfl;have d5:w1.cell? ⟨w.heap.size,5,N⟩=aa (.int .i64 m6):=XX a4 rfl;have d7:w1.cell? ⟨w.heap.size,7,N⟩=aa (.slice lp J.length lc):=XX a4 rfl;have a5:Hid _:=a4;have a9:Hid _:=b0;have HC:Hid (∀W,ae w1.heap.size w1 W->(W.cell? ⟨w.heap.size,2,N⟩=aa (.string m3)/\W.cell? ⟨w.heap.size,7,N⟩=aa (.slice lp J.length lc))/\ae w.heap.size w W):=fun W hW=>⟨⟨(hW.cell (p:=⟨w.heap.size,2,N⟩) a7).trans d2,(hW.cell (p:=⟨w.heap.size,7,N⟩) a7).trans d7⟩,a9.out.trans (hW.mono a9.out.size)⟩
 have I:=qF m4 w1;have e0:decide (iN ⟨m1,m2,m3,m4,m5,m6,m7,J⟩)=(decide (¬m6<0)&&(Jo m4&&!decide (m3≠ZW/\m3≠Q3/\(m3≠Y3∨J.length≠1)))):=by
  rw[Bool.eq_iff_iff];unfold iN kT;simp;constructor
  ·rintro⟨⟨h1,h2⟩,h3⟩;exact⟨h1,h2,h3⟩
  ·rintro⟨h1,h2,h3⟩;exact⟨⟨h1,h2⟩,h3⟩
 generalize decide (iN ⟨m1,m2,m3,m4,m5,m6,m7,J⟩)=R at *;have U:Hid (m3≠ZW/\m3≠Q3/\(m3≠Y3∨J.length≠1)↔m3≠⟨#[108,111,111,107]⟩/\m3≠⟨#[115,101,97,108]⟩/\(m3≠⟨#[107,101,101,112]⟩∨J.length≠1)):=Iff.rfl;generalize b1:decide (m3≠ZW/\m3≠Q3/\(m3≠Y3∨J.length≠1))=od at *;have Z:Hid _:=b1;generalize Jo m4=bn at *;have HR:Hid _:=e0;clear a4 b0 a7 e0 b1;by_cases g6:m6<0
 ·have n6:decide (m6<0)=true:=decide_eq_true g6;have HE:Hid (R=F):=by show _=_;rw[HR.out,decide_eq_false (fun h=>h g6)];rfl
  clear HR U Z;clear I;go_enter Tryz.func92,Tryz.ntmps92;go_wp2_with (rw[<-a5.out])
  go_ret;exact⟨by rw[HE.out];rfl,a9.out⟩
 ·have n6:decide (m6<0)=false:=decide_eq_false g6;have HE:Hid (R=(bn&&!od)):=by show _=_;rw[HR.out,decide_eq_true g6];rfl
  clear HR;cases bn with
  |false =>
   have b2:Hid _:=HE.out;clear HE U Z;go_enter Tryz.func92,Tryz.ntmps92;go_wp2_with (rw[<-a5.out])
   refine I.mono ?_;rintro e K ⟨rfl,B⟩;obtain⟨⟨q2,q7⟩,D⟩:=HC.out K B;have O:Hid _:=D;clear B I D;go_wp2;go_ret;exact⟨by rw[b2.out];rfl,O.out⟩
  |true =>
   have a0:Hid _:=HE.out;clear HE;by_cases a1:m3=⟨#[108,111,111,107]⟩
   ·have H:od=false:=by rw[<-Z.out];exact decide_eq_false fun h=>(U.out.1 h).1 a1
    have HF:Hid (R=ah):=by show _=_;rw[a0.out,H];rfl
    clear H a0;subst a1;go_enter Tryz.func92,Tryz.ntmps92;go_wp2_with (rw[<-a5.out])
    refine I.mono ?_;rintro e K ⟨rfl,B⟩;obtain⟨⟨q2,q7⟩,D⟩:=HC.out K B;have O:Hid _:=D;clear B I D;go_wp2;go_ret;exact⟨by rw[HF.out];rfl,O.out⟩
   ·have s1:¬m3.toList=[108,111,111,107]:=rI a1;have s2:=XQ a1;by_cases a2:m3=⟨#[115,101,97,108]⟩
    ·have H:od=false:=by rw[<-Z.out];exact decide_eq_false fun h=>(U.out.1 h).2.1 a2
     have HF:Hid (R=ah):=by show _=_;rw[a0.out,H];rfl
     clear H a0;subst a2;clear s1 s2 a1;go_enter Tryz.func92,Tryz.ntmps92;go_wp2_with (rw[<-a5.out])
     refine I.mono ?_;rintro e K ⟨rfl,B⟩;obtain⟨⟨q2,q7⟩,D⟩:=HC.out K B;have O:Hid _:=D;clear B I D;go_wp2;go_ret;exact⟨by rw[HF.out];rfl,O.out⟩
    ·have t1:¬m3.toList=[115,101,97,108]:=rI a2;have t2:=XQ a2;by_cases a3:m3=⟨#[107,101,101,112]⟩
     ·by_cases a6:J.length=1
      ·have H:od=false:=by rw[<-Z.out];exact decide_eq_false fun h=>(U.out.1 h).2.2.elim (fun h=>h a3) (fun h=>h a6)
       have HF:Hid (R=ah):=by show _=_;rw[a0.out,H];rfl
       clear H a0;subst a3;clear s1 s2 t1 t2 a1 a2 U Z;rw[a6]at HC d7 a5;rw[a6];go_enter Tryz.func92,Tryz.ntmps92;go_wp2_with (rw[<-a5.out])
       refine I.mono ?_;rintro e K ⟨rfl,B⟩;obtain⟨⟨q2,q7⟩,D⟩:=HC.out K B;have O:Hid _:=D;clear B I D;go_wp2;go_ret;exact⟨by rw[HF.out];rfl,O.out⟩
      ·have H:od=true:=by rw[<-Z.out];exact decide_eq_true (U.out.2 ⟨a1,a2,ag a6⟩)
       have HF:Hid (R=F):=by show _=_;rw[a0.out,H];rfl
       clear H a0;have gl:(((J.length:Nat):Int)==1)=false:=by simp;omega
       subst a3;clear s1 s2 t1 t2 a1 a2 U Z a6;go_enter Tryz.func92,Tryz.ntmps92;go_wp2_with (rw[<-a5.out])
       refine I.mono ?_;rintro e K ⟨rfl,B⟩;obtain⟨⟨q2,q7⟩,D⟩:=HC.out K B;have O:Hid _:=D;clear B I D;go_wp2;go_ret;exact⟨by rw[HF.out];rfl,O.out⟩
     ·have H:od=true:=by rw[<-Z.out];exact decide_eq_true (U.out.2 ⟨a1,a2,af a3⟩)
      have HF:Hid (R=F):=by show _=_;rw[a0.out,H];rfl
      clear H a0;have r1:=rI a3;have r2:=XQ a3;clear a1 a2 a3 U Z;go_enter Tryz.func92,Tryz.ntmps92;go_wp2_with (rw[<-a5.out])
      refine I.mono ?_;rintro e K ⟨rfl,B⟩;obtain⟨⟨q2,q7⟩,D⟩:=HC.out K B;have O:Hid _:=D;clear B I D;go_wp2;go_ret;exact⟨by rw[HF.out];rfl,O.out⟩
section
variable {w:World} {B h:Nat} {S:Nat->Prop} {m:Je} {mp:Option Nat} {D:ax ai} {hb:Nat->Nat} {Sh:Nat->Nat->Prop}
def Q1 (w:World)(B h:Nat)(S:Nat->Prop)(m:Je)(x:Zb)(e:Ending)(w':World):Prop:=∃p c H,e=.returned (.slice p (m.aD x).2.length c)/\Qp c (fun b=>w.heap.size<=b/\b<w'.heap.size/\¬H b) w' p (m.aD x).2/\XE w' B h H (m.aD x).1/\Yd S H w w'
theorem G0 {m H:Je}(h:m.held c=aa H):H.name=m.name:=by
 unfold Je.held at h;split at h
 ·rw[<-Option.some.inj h]
 ·split at h
  ·cases h
  ·rw[<-Option.some.inj h]
theorem Yd.mO {S I:Nat->Prop}{w w' J:World}(h:Yd S I w w')(hb:ae w.heap.size w' J):Yd S I w J:=⟨hb.os.trans h.os,hb.tape.trans h.tape,hb.output.trans h.output,aj h.size hb.size,fun k H K=>(hb.block k H).trans (h.block k H K),h.new⟩
theorem CH {L:List Yh}{key:BA}{v:Yb}:∀n i,Jx L key v i n=0∨Jx L key v i n=-1∨Jx L key v i n=6∨Jx L key v i n=7
 |0,i=>by
  have h:Jx L key v i 0=(if 60<=L.length then(7:Int)else 0):=rfl;rw[h];split<;>simp
 |n+1,i=>by
  have h:Jx L key v i (n+1)=(if Z5 (Yy L i) key v then(if(Yy L i).2=v then(-1:Int)else 6)else Jx L key v (i+1) n):=rfl;rw[h];split
  ·split<;>simp
  ·exact CH n (i+1)
theorem M9 (L:List Yh)(s:Bool)(key:BA)(v:Yb):(Qt L s key v).1=0∨(Qt L s key v).1=2∨(Qt L s key v).1=4∨(Qt L s key v).1=6∨(Qt L s key v).1=7∨(Qt L s key v).1=10:=by
 have h:Ju L s key v=10∨Ju L s key v=4∨Ju L s key v=2∨Ju L s key v=0∨Ju L s key v=-1∨Ju L s key v=6∨Ju L s key v=7:=by
  unfold Ju;split
  ·simp
  ·split
   ·split
    ·rcases CH (L:=L) (key:=key) (v:=v) L.length 0 with h|h|h|h<;>simp[h]
    ·simp
   ·simp
 unfold Qt;split
 ·simp
 ·split
  ·simp
  ·dsimp only;omega
theorem T6 {O:Nat->Prop}{w:World}{k:Nat}{x:Zb×Lv}(hb:w.heap[k]?=aa (.cells (Jw x).toArray t (0,0)))(U:Jn w x)(Z:O k)(hl:∀b o,x.2.1=aa ⟨b,o,N⟩->O b):iU O w (aa ⟨k,0,N⟩) [x.1]:=by
 have I:k<w.heap.size:=rE hb;refine⟨[x],rfl,ag ⟨k,0,rfl,I,fun i y H j u J=>?_⟩,fun y H=>by rw[List.mem_singleton.1 H];exact⟨U,hl⟩,fun b o e=>?_⟩
 ·match i,H with
  |0,H =>
   obtain rfl:x=y:=by simpa using H
   have K:(Jw x)[j]?=aa u:=J;rw[Nat.zero_mul,Nat.zero_add];simp[ab,hb,K]
 ·obtain⟨rfl,_⟩:k=b/\0=o:=by simpa using e
  exact Z
theorem tD {H:World}{I:Nat->Prop}(J:ZF H B h I m' mp D hb Sh)(K:Yd S I w H)(O:m.aD x=(m',[])):Q1 w B h S m x (.returned (.slice N 0 0)) H:=by
 unfold Q1;rw[O];exact⟨N,0,I,rfl,Qp.nil _ _,⟨_,_,_,_,J⟩,K⟩
theorem uZ {H I:World}{J:Nat->Prop}{y:Zb×Lv}{K:Nat}(hp:ZF H B h J m' mp D hb Sh)(O:Yd S J w H)(hb:ae w.heap.size H I)(hk:∀k,J k->I.heap[k]?=H.heap[k]?)(a0:I.heap[K]?=aa (.cells (Jw y).toArray t (0,0)))(hL:Jn I y)(a2:H.heap.size<=K)(U:∀b o,y.2.1=aa ⟨b,o,N⟩->H.heap.size<=b/\b<I.heap.size)(he:m.aD x=(m',[y.1])):Q1 w B h S m x (.returned (.slice (aa ⟨K,0,N⟩) 1 1)) I:=by
 unfold Q1;rw[he];have Z:∀b,H.heap.size<=b->¬J b:=fun b hb hs=>by have:=(hp.aO b hs).2;omega
 exact⟨_,1,J,rfl,⟨T6 a0 hL ⟨aj O.size a2,rE a0,Z _ a2⟩ (fun b o e=>⟨aj O.size (U b o e).1,(U b o e).2,Z _ (U b o e).1⟩),aw _,(fun e=>by cases e)⟩,⟨_,_,_,_,hp.aS hb.size hk⟩,O.mO hb⟩
end
section
variable {w:World} {B h:Nat} {S:Nat->Prop} {m:Je} {mp:Option Nat} {D:ax ai} {hb:Nat->Nat} {Sh:Nat->Nat->Prop}
theorem N3 (K:ZF w B h S m mp D hb Sh)(x:Zb×Lv)(hL:Jn w x)(J:x.1.aP≠m.name):
 am Tryz.prog 72 #[.pointer (aa ⟨h,0,N⟩),.agg #[.string x.1.from_,.string x.1.aP,.string x.1.kind,.string x.1.key,.int .i64 x.1.op,.int .i64 x.1.config,.bool x.1.shut,.slice x.2.1 x.2.2.1 x.2.2.2]] w fun e w'=>Q1 w B h S m x.1 e w':=by
 obtain⟨⟨m1,m2,m3,Z,m5,m6,m7,O⟩,lp,ln,lc⟩:=x;have a5:ln=O.length:=hL.len;subst a5;dsimp only at *;obtain⟨H,I⟩:=Xb (w.alloc (.cells #[.string m1,.string m2,.string m3,.string Z,.int .i64 m5,.int .i64 m6,.bool m7,.slice lp O.length lc] 81));have U:=Zk I;have a0:=QT I;have a6:w.heap.size<H.heap.size:=by omega
 have a2:=JH I;have a3:Hid _:=K.below U;have a7:Hid (∀k,S k->k<w.heap.size):=fun k hk=>(K.aO k hk).2
 have a9:h<H.heap.size:=by have:=K.lt;omega
 have c0:=a3.out.cells.1;have b0:Hid (m.aD ⟨m1,m2,m3,Z,m5,m6,m7,O⟩=(m,[])):=KD (fun h=>J h.1);generalize b1:m.name=nm at *;have b2:Hid _:=I;have a4:Hid (ae w.heap.size w H/\H.heap.size=w.heap.size+1):=⟨U,a0⟩;have d1:H.cell? (pA w.heap.size 1)=aa (.string m2):=by simp[ab,a2]
 have t0:=XT J;have t1:=YT J;have t2:=Y8 J;clear K hL J I U a0 a6 a2 a9 a7 b1;go_enter Tryz.func72,Tryz.ntmps72;go_wp2_with (rw[<-b2.out])
 go_quiet (fail)
 go_wp2;go_ret;exact tD (a3.out.below (below_drewN bR _)) (Yd.aJ (a4.out.1.trans ((below_drewN bR _).mono a4.out.1.size))) b0.out
theorem VJ (hp:ZF w B h S m mp D hb Sh)(x:Zb×Lv)(hL:Jn w x)(hR:pR x.1)(b7:x.1.aP=m.name)(a6:¬iN x.1):
 am Tryz.prog 72 #[.pointer (aa ⟨h,0,N⟩),.agg #[.string x.1.from_,.string x.1.aP,.string x.1.kind,.string x.1.key,.int .i64 x.1.op,.int .i64 x.1.config,.bool x.1.shut,.slice x.2.1 x.2.2.1 x.2.2.2]] w fun e w'=>Q1 w B h S m x.1 e w':=by
 obtain⟨⟨m1,m2,m3,K,O,U,Z,J⟩,lp,ln,lc⟩:=x;have b8:ln=J.length:=hL.len;subst b8;dsimp only at *;obtain⟨H,a3⟩:=Xb (w.alloc (.cells #[.string m1,.string m2,.string m3,.string K,.int .i64 O,.int .i64 U,.bool Z,.slice lp J.length lc] 81));have a5:=Zk a3;have a7:=QT a3;have a0:w.heap.size<H.heap.size:=by omega
 have a2:=JH a3;have a9:Hid _:=hp.below a5;have c8:Hid (∀k,S k->k<w.heap.size):=fun k hk=>(hp.aO k hk).2
 have b0:h<H.heap.size:=by have:=hp.lt;omega
 have c0:=a9.out.cells.1;rw[<-b7]at c0;have a4:Hid (∀W,ae H.heap.size H W->(W.cell? (pA h 0)=aa (.string m2)/\W.cell? (pA w.heap.size 0)=aa (.string m1)/\W.cell? (pA w.heap.size 1)=aa (.string m2)/\W.cell? (pA w.heap.size 2)=aa (.string m3)/\W.cell? (pA w.heap.size 3)=aa (.string K)/\W.cell? (pA w.heap.size 4)=aa (.int .i64 O)/\W.cell? (pA w.heap.size 5)=aa (.int .i64 U)/\W.cell? (pA w.heap.size 6)=aa (.bool Z)/\W.cell? (pA w.heap.size 7)=aa (.slice lp J.length lc)/\ae H.heap.size H W)):=fun W I=>⟨(I.cell (p:=(pA h 0)) b0).trans c0,(I.cell (p:=(pA w.heap.size 0)) a0).trans (by simp[ab,a2]),(I.cell (p:=(pA w.heap.size 1)) a0).trans (by simp[ab,a2]),(I.cell (p:=(pA w.heap.size 2)) a0).trans (by simp[ab,a2]),(I.cell (p:=(pA w.heap.size 3)) a0).trans (by simp[ab,a2]),(I.cell (p:=(pA w.heap.size 4)) a0).trans (by simp[ab,a2]),(I.cell (p:=(pA w.heap.size 5)) a0).trans (by simp[ab,a2]),(I.cell (p:=(pA w.heap.size 6)) a0).trans (by simp[ab,a2]),(I.cell (p:=(pA w.heap.size 7)) a0).trans (by simp[ab,a2]),I⟩
 have b1:Hid (∀W,(W.cell? (pA h 0)=aa (.string m2)/\W.cell? (pA w.heap.size 0)=aa (.string m1)/\W.cell? (pA w.heap.size 1)=aa (.string m2)/\W.cell? (pA w.heap.size 2)=aa (.string m3)/\W.cell? (pA w.heap.size 3)=aa (.string K)/\W.cell? (pA w.heap.size 4)=aa (.int .i64 O)/\W.cell? (pA w.heap.size 5)=aa (.int .i64 U)/\W.cell? (pA w.heap.size 6)=aa (.bool Z)/\W.cell? (pA w.heap.size 7)=aa (.slice lp J.length lc)/\ae H.heap.size H W)->am Tryz.prog 92 #[.agg #[.string m1,.string m2,.string m3,.string K,.int .i64 O,.int .i64 U,.bool Z,.slice lp J.length lc]] W fun e w'=>e=.returned (.bool F)/\(w'.cell? (pA h 0)=aa (.string m2)/\w'.cell? (pA w.heap.size 0)=aa (.string m1)/\w'.cell? (pA w.heap.size 1)=aa (.string m2)/\w'.cell? (pA w.heap.size 2)=aa (.string m3)/\w'.cell? (pA w.heap.size 3)=aa (.string K)/\w'.cell? (pA w.heap.size 4)=aa (.int .i64 O)/\w'.cell? (pA w.heap.size 5)=aa (.int .i64 U)/\w'.cell? (pA w.heap.size 6)=aa (.bool Z)/\w'.cell? (pA w.heap.size 7)=aa (.slice lp J.length lc)/\ae H.heap.size H w')):=fun W I=>(vY (⟨m1,m2,m3,K,O,U,Z,J⟩,(lp,J.length,lc)) rfl hR.2.1 W).mono fun e w' hq=>⟨by rw[hq.1,decide_eq_false a6],a4.out w' (I.2.2.2.2.2.2.2.2.2.trans (hq.2.mono I.2.2.2.2.2.2.2.2.2.size))⟩
 have b2:Hid _:=a3;have b3:Hid (ae w.heap.size w H/\H.heap.size=w.heap.size+1):=⟨a5,a7⟩;have d0:Hid (m.aD ⟨m1,m2,m3,K,O,U,Z,J⟩=(m,[])):=KD (fun h=>a6 h.2);clear hp hL hR b7 a6 a3 a5 a7 a0 a2 b0 c0 c8;go_enter Tryz.func72,Tryz.ntmps72;go_wp2_with (rw[<-b2.out])
 go_cut [23]from 8 to 93 (fun v W=>v=.bool ah/\(W.cell? (pA h 0)=aa (.string m2)/\W.cell? (pA w.heap.size 0)=aa (.string m1)/\W.cell? (pA w.heap.size 1)=aa (.string m2)/\W.cell? (pA w.heap.size 2)=aa (.string m3)/\W.cell? (pA w.heap.size 3)=aa (.string K)/\W.cell? (pA w.heap.size 4)=aa (.int .i64 O)/\W.cell? (pA w.heap.size 5)=aa (.int .i64 U)/\W.cell? (pA w.heap.size 6)=aa (.bool Z)/\W.cell? (pA w.heap.size 7)=aa (.slice lp J.length lc)/\ae H.heap.size H W))
 case first =>
  go_region_held3 (fun W=>(W.cell? (pA h 0)=aa (.string m2)/\W.cell? (pA w.heap.size 0)=aa (.string m1)/\W.cell? (pA w.heap.size 1)=aa (.string m2)/\W.cell? (pA w.heap.size 2)=aa (.string m3)/\W.cell? (pA w.heap.size 3)=aa (.string K)/\W.cell? (pA w.heap.size 4)=aa (.int .i64 O)/\W.cell? (pA w.heap.size 5)=aa (.int .i64 U)/\W.cell? (pA w.heap.size 6)=aa (.bool Z)/\W.cell? (pA w.heap.size 7)=aa (.slice lp J.length lc)/\ae H.heap.size H W)) (first|assumption|exact a4.out _ bR.drew|exact a4.out _ bR) (first|(go_at_call 92;refine(b1.out _ (by assumption)).mono ?_;rintro e w2 ⟨rfl,b4⟩))
  all_goals (go_wp2_with fail;go_meet)
  all_goals exact⟨rfl,by assumption⟩
 case rest =>
  obtain⟨rfl,b4⟩:=hcut;obtain⟨w2,rfl⟩:=Xb wc;obtain⟨_,_,_,_,_,_,d5,_,_,b5⟩:=b4;have b6:Hid _:=b5;clear b5 b1 a4 b2;clear d5;go_wp2;go_ret;exact tD (a9.out.below b6.out) (Yd.aJ (b3.out.1.trans (b6.out.mono b3.out.1.size))) d0.out
theorem TE (hp:ZF w B h S m mp D hb Sh)(x:Zb×Lv)(hL:Jn w x)(hR:pR x.1)(d2:YQ x.1.config)(a9:x.1.aP=m.name)(b0:iN x.1)(b1:m.held x.1.config=N):
 am Tryz.prog 72 #[.pointer (aa ⟨h,0,N⟩),.agg #[.string x.1.from_,.string x.1.aP,.string x.1.kind,.string x.1.key,.int .i64 x.1.op,.int .i64 x.1.config,.bool x.1.shut,.slice x.2.1 x.2.2.1 x.2.2.2]] w fun e w'=>Q1 w B h S m x.1 e w':=by
 obtain⟨⟨m1,m2,m3,O,U,J,Z,K⟩,lp,ln,lc⟩:=x;have d3:ln=K.length:=hL.len;subst d3;dsimp only at *;obtain⟨H,a3⟩:=Xb (w.alloc (.cells #[.string m1,.string m2,.string m3,.string O,.int .i64 U,.int .i64 J,.bool Z,.slice lp K.length lc] 81));have a6:=Zk a3;have b2:=QT a3;have a0:w.heap.size<H.heap.size:=by omega
 have a2:=JH a3;have a7:Hid _:=hp.below a6;have d4:Hid (∀k,S k->k<w.heap.size):=fun k hk=>(hp.aO k hk).2
 have b3:h<H.heap.size:=by have:=hp.lt;omega
 have c0:=a7.out.cells.1;rw[<-a9]at c0;have a4:Hid (∀W,ae H.heap.size H W->(W.cell? (pA h 0)=aa (.string m2)/\W.cell? (pA w.heap.size 0)=aa (.string m1)/\W.cell? (pA w.heap.size 1)=aa (.string m2)/\W.cell? (pA w.heap.size 2)=aa (.string m3)/\W.cell? (pA w.heap.size 3)=aa (.string O)/\W.cell? (pA w.heap.size 4)=aa (.int .i64 U)/\W.cell? (pA w.heap.size 5)=aa (.int .i64 J)/\W.cell? (pA w.heap.size 6)=aa (.bool Z)/\W.cell? (pA w.heap.size 7)=aa (.slice lp K.length lc)/\ae H.heap.size H W)):=fun W I=>⟨(I.cell (p:=(pA h 0)) b3).trans c0,(I.cell (p:=(pA w.heap.size 0)) a0).trans (by simp[ab,a2]),(I.cell (p:=(pA w.heap.size 1)) a0).trans (by simp[ab,a2]),(I.cell (p:=(pA w.heap.size 2)) a0).trans (by simp[ab,a2]),(I.cell (p:=(pA w.heap.size 3)) a0).trans (by simp[ab,a2]),(I.cell (p:=(pA w.heap.size 4)) a0).trans (by simp[ab,a2]),(I.cell (p:=(pA w.heap.size 5)) a0).trans (by simp[ab,a2]),(I.cell (p:=(pA w.heap.size 6)) a0).trans (by simp[ab,a2]),(I.cell (p:=(pA w.heap.size 7)) a0).trans (by simp[ab,a2]),I⟩
 have b4:Hid (∀W,(W.cell? (pA h 0)=aa (.string m2)/\W.cell? (pA w.heap.size 0)=aa (.string m1)/\W.cell? (pA w.heap.size 1)=aa (.string m2)/\W.cell? (pA w.heap.size 2)=aa (.string m3)/\W.cell? (pA w.heap.size 3)=aa (.string O)/\W.cell? (pA w.heap.size 4)=aa (.int .i64 U)/\W.cell? (pA w.heap.size 5)=aa (.int .i64 J)/\W.cell? (pA w.heap.size 6)=aa (.bool Z)/\W.cell? (pA w.heap.size 7)=aa (.slice lp K.length lc)/\ae H.heap.size H W)->am Tryz.prog 92 #[.agg #[.string m1,.string m2,.string m3,.string O,.int .i64 U,.int .i64 J,.bool Z,.slice lp K.length lc]] W fun e w'=>e=.returned (.bool ah)/\(w'.cell? (pA h 0)=aa (.string m2)/\w'.cell? (pA w.heap.size 0)=aa (.string m1)/\w'.cell? (pA w.heap.size 1)=aa (.string m2)/\w'.cell? (pA w.heap.size 2)=aa (.string m3)/\w'.cell? (pA w.heap.size 3)=aa (.string O)/\w'.cell? (pA w.heap.size 4)=aa (.int .i64 U)/\w'.cell? (pA w.heap.size 5)=aa (.int .i64 J)/\w'.cell? (pA w.heap.size 6)=aa (.bool Z)/\w'.cell? (pA w.heap.size 7)=aa (.slice lp K.length lc)/\ae H.heap.size H w')):=fun W I=>(vY (⟨m1,m2,m3,O,U,J,Z,K⟩,(lp,K.length,lc)) rfl hR.2.1 W).mono fun e w' hq=>⟨by rw[hq.1,decide_eq_true b0],a4.out w' (I.2.2.2.2.2.2.2.2.2.trans (hq.2.mono I.2.2.2.2.2.2.2.2.2.size))⟩
 have b5:Hid _:=a3;have b6:Hid (ae w.heap.size w H/\H.heap.size=w.heap.size+1):=⟨a6,b2⟩;have d6:Hid (m.aD ⟨m1,m2,m3,O,U,J,Z,K⟩=(m,[])):=by
  show _=_;rw[uO a9 b0];show(match m.held J with|none=>(m,[])|some d7=>d7.cG (Yf m.L J) _)=_;rw[b1]
 have d8:Hid _:=d2;have d9:Hid _:=b1;clear hp hL hR d2 a9 b0 b1 a3 a6 b2 a0 a2 b3 c0 d4;go_enter Tryz.func72,Tryz.ntmps72;go_wp2_with (rw[<-b5.out])
 go_cut [23]from 8 to 93 (fun v W=>v=.bool F/\(W.cell? (pA h 0)=aa (.string m2)/\W.cell? (pA w.heap.size 0)=aa (.string m1)/\W.cell? (pA w.heap.size 1)=aa (.string m2)/\W.cell? (pA w.heap.size 2)=aa (.string m3)/\W.cell? (pA w.heap.size 3)=aa (.string O)/\W.cell? (pA w.heap.size 4)=aa (.int .i64 U)/\W.cell? (pA w.heap.size 5)=aa (.int .i64 J)/\W.cell? (pA w.heap.size 6)=aa (.bool Z)/\W.cell? (pA w.heap.size 7)=aa (.slice lp K.length lc)/\ae H.heap.size H W))
 case first =>
  go_region_held3 (fun W=>(W.cell? (pA h 0)=aa (.string m2)/\W.cell? (pA w.heap.size 0)=aa (.string m1)/\W.cell? (pA w.heap.size 1)=aa (.string m2)/\W.cell? (pA w.heap.size 2)=aa (.string m3)/\W.cell? (pA w.heap.size 3)=aa (.string O)/\W.cell? (pA w.heap.size 4)=aa (.int .i64 U)/\W.cell? (pA w.heap.size 5)=aa (.int .i64 J)/\W.cell? (pA w.heap.size 6)=aa (.bool Z)/\W.cell? (pA w.heap.size 7)=aa (.slice lp K.length lc)/\ae H.heap.size H W)) (first|assumption|exact a4.out _ bR.drew|exact a4.out _ bR) (first|(go_at_call 92;refine(b4.out _ (by assumption)).mono ?_;rintro e w2 ⟨rfl,b7⟩))
  all_goals (go_wp2_with fail;go_meet)
  all_goals exact⟨rfl,by assumption⟩
 case rest =>
  obtain⟨rfl,b7⟩:=hcut;obtain⟨w2,rfl⟩:=Xb wc;obtain⟨_,_,_,_,_,_,d5,_,_,a5⟩:=b7;have b8:=CJ (a7.out.below a5) d8.out;have c8:Hid _:=a5;clear a5 b4 a4 b5;go_wp2_with fail
  refine b8.mono ?_;intro e w3 hH;clear b8 d5;rcases hH with⟨_,rfl,d0⟩|⟨m9,S2,e0,D2,a5,e1,h9,rfl,e2,e3,e4⟩
  rotate_left
  ·rw[d9.out]at h9;cases h9
  have d1:Hid _:=c8.out.trans (d0.mono c8.out.size);clear d0;go_wp2;go_ret;exact tD (a7.out.below d1.out) (Yd.aJ (b6.out.1.trans (d1.out.mono b6.out.1.size))) d6.out
end
theorem Zc.pB {w':World}{l:List Yb}(h:Zc Ze T w B v l)(Z:∀k,v.ownBlock=aa k->w'.heap[k]?=w.heap[k]?):Zc Ze T w' B v l:=by
 obtain⟨I,D⟩:=h;refine⟨I,?_⟩;rcases D with D|⟨g,cap,J,H,K,O,U⟩
 ·exact af D
 ·refine ag ⟨g,cap,J,H,K,?_,U⟩;rw[Z g (by rw[H];rfl)];exact O
theorem Zc.jX {l:List Yb}(h:Zc Ze T w B v l)(H:b<B)(i:Nat)(x:ai):Zc Ze T (w.setCell ⟨b,i,N⟩ x) B v l:=h.pB (fun k D=>Deep.blk_setCell_other _ _ _ _ (by have:=(h.block D).1;show k≠b;omega))
def nX (n:Int):List UInt8:=Lib.itoa n++ [58]
def EU (s:BA):List UInt8:=nX (s.size:Int)++s.data.toList
def PB (x:Yh):List UInt8:=EU x.1++(nX x.2.n++(nX x.2.who++(nX x.2.size++(nX x.2.at_++EU x.2.text))))
def N6 (L:List Yh):List UInt8:=L.flatMap PB
def wrote (L:List Yh)(s:Bool):List UInt8:=nX (if s then 1 else 0)++N6 L
structure kF (L:List Yh):Prop where
 sorted:Yw L
 bO:L.length<=60
 fits:∀x∈L,Jo x.1=ah/\Y7 x.2=ah
theorem kF.put (h:kF L){key:BA}{v:Yb}(B:Ju L s key v=0):kF (XK L key v)/\(∀x∈Xc L key,Zd x≠Zd v)/\s=F/\Jo key=ah/\Y7 v=ah/\L.length<60:=by
 unfold Ju at B;split at B
 ·cases B
 ·rename_i O;split at B
  ·rename_i J;split at B
   ·rename_i K;have D:∀x∈Xc L key,Zd x≠Zd v:=fun x H U=>by
     rw[KG h.sorted H U]at B;split at B<;>cases B
    rw[zQ D L.length 0 (by omega)]at B;have Z:L.length<60:=by
     refine Classical.byContradiction fun hc=>?_
     rw[if_pos (by omega)]at B;cases B
    refine⟨⟨Jlz h.sorted D,by rw[Jly];omega,fun x H=>?_⟩,D,by simpa using O,J,K,Z⟩;rcases EH.1 H with I|I
    ·exact h.fits x I
    ·rw[I];exact⟨J,K⟩
   ·cases B
  ·cases B
section
open Go.Sort
theorem xH (w:World)(n:Nat)(os:Array Obj):ae w.heap.size w (grow (w.drewN n) os):=⟨rfl,rfl,rfl,by show w.heap.size<=(w.heap++os).size;rw[Array.size_append];omega,fun _ B=>heap_grow_old (w.drewN n) os B⟩
end
end Go.Proofs.YtflpelnbjekjbaaGreatDoor

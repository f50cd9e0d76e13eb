/- Texts laid together. -/
import Derived.Test.YtgapmoniajcliaaGreatDoorRows
import Derived.ProofKit
import Derived.LaidLaws
import Derived.LaidHandle
import Derived.LaidMore
import Derived.Stop.LaidErr
import Derived.Test.YtgapmoniajcliaaGreatDoorProg
import Derived.Below
import Derived.RowKit
import Derived.WalkKit
import Derived.WalkSmall
import Derived.OwnWalk
import Derived.Laws.AppendOwn
import Derived.Laws.AppendOwnNone
import Derived.Deep.RegionHeld3
import Derived.LaidEql
import Derived.Stop.Asserts
import Derived.RowKitTokens
set_option maxRecDepth 100000
open Option renaming some->aa,none->N
open Go.World renaming cell?->ab
open Classical renaming byContradiction->ac
open Nat renaming not_lt_zero->ae,shiftRight_eq_div_pow->ag,xor_zero->aj,xor_self->ak,xor_lt_two_pow->al,shiftRight_xor_distrib->ap,mod_two_eq_zero_or_one->aq,zero_le->av,add_le_add_iff_right->ax,zero_xor->aB,xor_mod_two_pow->aE,lt_irrefl->aF,add_assoc->za,mod_eq_of_lt->aS,lt_succ_self->aW,le_refl->aY,add_mul->a1,xor_assoc->zb,zero_mul->bn,pow_succ->bo,mul_comm->bp,one_mul->bB,mod_lt->bU
open List renaming getD_eq_getElem?_getD->af,getElem?_eq_getElem->ah,mem_append_right->am,getElem?_take->ar,getElem?_eq_some_iff->au,flatMap_cons->aw,length_eq_zero_iff->ay,length_cons->az,mem_cons_of_mem->aC,mem_cons_self->aI,length_append->aJ,nodup_cons->bc
open Fin renaming ext->ai
open Go renaming Value->an,TypeId->aM,Addr->aR,bytes->bf,wpList->bt
open Or renaming inl->ao,inr->aA
namespace Go.Proofs.YtgapmoniajcliaaGreatDoor
open Go.Proofs.Tryz
open Go.RowKit
variable {J v H D I:an}{B n p c m k b a i x r j s y d:Nat}{T:aM}{o:Obj}{ops:Array Oper}{rest:List Oper}{l:List an}{at_:Int}
section
open Go.ChangeShapes Go.WideShapes Go.RowKit
def GZ (text:List UInt8):DataW Unit:=.iface "*errors.errorString" (.ptr (.agg [.lit (.string text)]))
theorem UX {P:Program}{W:World}{ti J K O:aM}{ms:Array (String×aM)}{f:Field}
 (hi:P.underlying ti=aa (.interface ms)) (b4:∀u,P.typeName? 3 u=aa "*errors.errorString"->u=J)
 (hp:P.underlying J=aa (.pointer K)) (he:P.underlying K=aa (.struct #[f])) (b5:f.type=O) (b6:f.offset=0) (hs:P.underlying O=aa .string) (hc:P.cellsOf K=1) (b7:P.cellsOf O=1):
 ∀(L:List (String×List UInt8)) (ps:List MemPlace),DataW.LaidVars P W (L.map fun x=>(x.1,GZ x.2)) ps ->
  (∀x∈L,∃g,P.globalNamed x.1=aa g/\(P.globals[g]?).map (·.type)=aa ti) ->
  (∀b I,MemPlace.cell b I∈ps->(∃c t,W.heap[b]?=aa (.cells c t (0,0)))/\∀u v,W.cell? ⟨b,I,N⟩=aa (.iface u v)->Value.okWide P W .any 0 u v) ->
  ∃ad:Nat->aR,(∀i x,L[i]?=aa x->MemPlace.cell (ad i).block (ad i).off∈ps/\W.var? P x.1=aa #[.iface J (.pointer (aa (ad i)))]) /\
   (ps.Nodup->∀i j,i<L.length->j<L.length->i≠j->ad i≠ad j):=by
 intro L
 induction L with
 |nil =>
  intro ps _ _ _;exact⟨fun _=>⟨0,0,N⟩,fun i x h=>by simp at h,fun _ i j h=>by simp at h⟩
 |cons x r ih =>
  intro ps hl U Z;obtain⟨g0,t0,a5,f0,p0,q0,a2,a6,a3,a7,hq,rfl⟩:=hl;obtain⟨g,hg,ht⟩:=U x (aI ..);obtain rfl:=Option.some.inj (hg.symm.trans a2);obtain rfl:=Option.some.inj (ht.symm.trans a6);obtain⟨ad,h1,h2⟩:=ih q0 hq (fun y D=>U y (aC _ D)) (fun b I H=>Z b I (am _ H));obtain⟨l0⟩:=a5;have a8:∀u v,l0=[.iface u v]->Value.okWide P W .any 0 u v:=fun u v e=>by
   subst e;exact(Z g 0 (by simp[MemPlace.row])).2 u v (by simpa using World.var?_cell a2 a3 0)
  obtain⟨a0,s0,rfl,b8,c8,d0,rfl⟩:=errorString_of_trod hi b4 hp he b5 b6 hs hc b7 a7 a8;refine⟨fun i=>match i with|0=>a0|k+1=>ad k,?_,?_⟩
  ·intro i y D
   match i with
   |0 =>
    obtain rfl:x=y:=by simpa using D
    exact⟨by simp[MemPlace.row],a3⟩
   |k+1 =>
    have:=h1 k y (by simpa using D);exact⟨am _ this.1,this.2⟩
  ·intro a4 i j a9 b0 b1;have b2:q0.Nodup:=List.Nodup.sublist (List.sublist_append_right _ _) a4;have hd:∀k,k<r.length->a0≠ad k:=by
    intro k B e;obtain⟨y,D⟩:∃y,r[k]?=aa y:=⟨r[k],ah B⟩;have H:=(h1 k y D).1;rw[<-e]at H;have b3:=(List.nodup_append.1 a4).2.2;exact b3 _ (am _ (by simp[MemPlace.row])) _ H rfl
   match i,j,a9,b0,b1 with
   |0,0,_,_,h=>exact absurd rfl h
   |0,k+1,_,B,_=>exact hd k (by simpa using B)
   |k+1,0,B,_,_=>exact(hd k (by simpa using B)).symm
   |k+1,m+1,B,H,hne=>exact h2 b2 k m (by simpa using B) (by simpa using H) (fun e=>hne (by rw[e]))
theorem AY {P:Program}{W:World}:∀(L M:List (String×DataW Unit)) (ps:List MemPlace),DataW.LaidVars P W (L++M) ps->∃p q,ps=p++q/\DataW.LaidVars P W M q
 | [],_,ps,h=>⟨[],ps,rfl,h⟩
 |x::L,M,ps,h=>by
  obtain⟨I,J,K,f0,O,B,U,Z,a0,a2,D,rfl⟩:=h;obtain⟨p,q,rfl,H⟩:=AY L M B D;exact⟨_,q,(List.append_assoc _ _ _).symm,H⟩
theorem ID: "*" ++ "errors.errorString" = "*errors.errorString":=by kernel_rfl
theorem JtW (u:aM) (h:prog.typeName? 3 u=aa "*errors.errorString"):u=287 :=
 typeName_ptr_named (nm:= "errors.errorString") (by rw[ID];kernel_rfl) (by kernel_rfl) (by decide) u (by rw[ID];exact h)
end
abbrev BA:=ByteArray
theorem Xb {α:Sort _}(x:α):∃y,y=x:=⟨_,rfl⟩
theorem bR {w:World}:Below B w w:=Below.refl _ _
theorem nR :n<=n:=aY _
section
structure eW (α:Type) where
 k:Nat
 pos:0<k
 enc:α->List an
 len:∀x,(enc x).length=k
 one:∀x,∀u∈enc x,u.oneCell'=true
variable {α:Type} {E:eW α}
def Qb (E:eW α)(l:List α):List Value:=l.flatMap E.enc
theorem Qr (E:eW α):∀l:List α,(Qb E l).length=l.length*E.k
 | []=>by simp[Qb]
 |x::l=>by
  have:=Qr E l;unfold Qb at this ⊢;rw[aw,aJ,this,E.len,az,a1,bB,Nat.add_comm]
theorem Qj (E:eW α)(l m:List α):Qb E (l++m)=Qb E l++Qb E m:=by unfold Qb;rw[List.flatMap_append]
theorem qK (E:eW α)(x:α):Qb E [x]=E.enc x:=by simp[Qb]
theorem uH (E:eW α):∀(l:List α) (i:Nat) (x:α),l[i]?=aa x->∀j u,(E.enc x)[j]?=aa u->(Qb E l)[i*E.k+j]?=aa u
 | [],i,x,h,_,_,_=>by simp at h
 |y::l,0,x,h,j,u,hj=>by
  obtain rfl:y=x:=by simpa using h
  unfold Qb;rw[aw,bn,Nat.zero_add,List.getElem?_append_left (au.1 hj).1];exact hj
 |y::l,i+1,x,h,j,u,hj=>by
  have ih:=uH E l i x (by simpa using h) j u hj;unfold Qb at ih ⊢;rw[aw,List.getElem?_append_right (by rw[E.len];have:=Nat.le_mul_of_pos_left E.k (show 0<i+1 by omega);omega),E.len];have e:(i+1)*E.k+j-E.k=i*E.k+j:=by rw[a1,bB];omega
  rw[e];exact ih
def Ql (E:eW α)(w:World)(p:Option aR)(l:List α):Prop :=
 l=[]∨∃b o,p=aa ⟨b,o,N⟩/\b<w.heap.size/\∀i x,l[i]?=aa x->∀j u,(E.enc x)[j]?=aa u->w.cell? ⟨b,o+i*E.k+j,N⟩=aa u
theorem Ql.nil (w:World)(p:Option aR):Ql E w p []:=ao rfl
theorem Ql.below {w w':World}{p:Option aR}{l:List α}(h:Ql E w p l)(D:Below w.heap.size w w'):Ql E w' p l:=by
 rcases h with h|⟨b,o,H,B,I⟩
 ·exact ao h
 ·exact aA ⟨b,o,H,Nat.lt_of_lt_of_le B D.size,fun i x J j u K=>(D.cell (p:=⟨b,o+i*E.k+j,N⟩) B).trans (I i x J j u K)⟩
theorem Ql.take {w:World}{p:Option aR}{l:List α}(h:Ql E w p l)(m:Nat):Ql E w p (l.take m):=by
 rcases h with h|⟨b,o,D,H,I⟩
 ·exact ao (by rw[h,List.take_nil])
 ·refine aA ⟨b,o,D,H,fun i x B j u J=>I i x ?_ j u J⟩;rw[ar]at B;split at B
  ·exact B
  ·cases B
theorem Ql.drop {w:World}{p:Option aR}{l:List α}(h:Ql E w p l)(H:m<=l.length)(hc:l.length<=c)(Z:p=N->l=[]/\c=0):
 Ql E w (if c=m then p else p.map (·.add (m*E.k))) (l.drop m)/\((if c=m then p else p.map (·.add (m*E.k)))=N->l.drop m=[]/\c-m=0):=by
 by_cases e:c=m
 ·rw[if_pos e];have B:l.drop m=[]:=List.drop_eq_nil_of_le (by omega);exact⟨ao B,fun _=>⟨B,by omega⟩⟩
 ·rw[if_neg e];cases p with
  |none =>
   obtain⟨I,h2⟩:=Z rfl;rw[I]at H;simp at H;omega
  |some a =>
   refine⟨?_,fun B=>by cases B⟩;rcases h with h|⟨b,o,J,K,O⟩
   ·exact ao (by rw[h,List.drop_nil])
   ·obtain rfl:a=⟨b,o,N⟩:=by simpa using J
    refine aA ⟨b,o+m*E.k,by simp[Addr.add_lit],K,fun i x D j u U=>?_⟩;rw[List.getElem?_drop]at D;have:=O (m+i) x D j u U;rw[a1,<-za]at this;exact this
def Zc (E:eW α)(T:aM)(w:World)(B:Nat)(v:an)(l:List α):Prop:=w.ownsRow B T E.k v l.length (Qb E l)
theorem Zc.nil (T:aM)(w:World)(B:Nat):Zc E T w B (.slice N 0 0) []:=World.ownsRow_nil w B T E.k
theorem Zc.block {w:World}{l:List α}(h:Zc E T w B v l)(D:v.ownBlock=aa k):B<=k/\k<w.heap.size:=World.ownsRow.lt h k D
theorem Zc.kept {w w':World}{l:List α}(h:Zc E T w B v l)(D:Below w.heap.size w w'):Zc E T w' B v l :=
 World.ownsRow.kept (row:=N) h ⟨D.os,D.tape,D.output,D.size,fun k H _=>D.block k H⟩ (by cases v.ownBlock<;>simp)
theorem Zc.base {w:World}{H:Nat}{l:List α}(h:Zc E T w B v l)(Z:H<=B):Zc E T w H v l:=by
 obtain⟨I,D⟩:=h;refine⟨I,?_⟩;rcases D with D|⟨g,cap,J,K,O,U⟩
 ·exact ao D
 ·exact aA ⟨g,cap,J,K,Nat.le_trans Z O,U⟩
theorem Zc.form {w:World}{l:List α}(h:Zc E T w B v l):∃p c,v=.slice p l.length c/\Ql E w p l/\l.length<=c/\(p=N->l=[]/\c=0)/\∀b o,p=aa ⟨b,o,N⟩->B<=b/\b<w.heap.size:=by
 have D:=h;rcases D.2 with⟨rfl,J⟩|⟨g,cap,a0,rfl,K,O,U,a2,a3,a4⟩
 ·have e:l=[]:=ay.1 J;subst e;exact⟨N,0,rfl,ao rfl,aY _,fun _=>⟨rfl,rfl⟩,fun _ _ h=>by cases h⟩
 ·have H:g<w.heap.size:=(Array.getElem?_eq_some_iff.1 O).1;refine⟨aa ⟨g,0,N⟩,cap,rfl,aA ⟨g,0,rfl,H,fun i x Z j u hu=>?_⟩,U,fun h=>(by cases h),fun b o h=>?_⟩
  ·have I:=World.ownsRow.cells (g:=g) D rfl (i*E.k+j) u (uH E l i x Z j u hu);rw[Addr.add_lit]at I;rw[za];exact I
  ·obtain⟨rfl,rfl⟩:g=b/\0=o:=by simpa using h
   exact⟨K,H⟩
theorem Zz (E:eW α)(l:List α):∀u∈Qb E l,u.oneCell'=true:=fun u B=>by
 obtain⟨x,_,D⟩:=List.mem_flatMap.1 B;exact E.one x u D
theorem Ql.cells {w:World}{o:Nat}{l:List α}(hc:∀i x,l[i]?=aa x->∀j u,(E.enc x)[j]?=aa u->w.cell? ⟨b,o+i*E.k+j,N⟩=aa u):∀j u,(Qb E l)[j]?=aa u->w.cell? ((⟨b,o,N⟩:aR).add j)=aa u:=by
 intro j u B;have D:=(au.1 B).1;rw[Qr]at D;have H:=E.pos;have hi:=(Nat.div_lt_iff_lt_mul H).2 D;have I:j%E.k<E.k:=bU _ H;have J:=ah hi;have K:(E.enc l[j/E.k])[j%E.k]?=aa ((E.enc l[j/E.k])[j%E.k]'(by rw[E.len];exact I)):=ah (by rw[E.len];exact I);have O:=uH E l (j/E.k) _ J (j%E.k) _ K;have U:=hc (j/E.k) _ J (j%E.k) _ K;have Z:j/E.k*E.k+j%E.k=j:=by rw[bp];exact Nat.div_add_mod j E.k
 rw[Z]at O;rw[za,Z]at U;rw[Addr.add_lit,U,<-O,B]
section
variable {w:World}
theorem F4 {o:Oper}{a:Act}{Q:Exit->Act->World->Prop}(U:o.guard=N)(s x:Operand)(t T:aM)
 (Z:o.op=.call {callee:=.builtin .append,args:=#[s,x],argTypes:=#[t,t]}) (z:an) (bf:Nat) (ht:prog.underlying t=aa (.slice T))
 (a7:(prog.info? T).map (fun i=>(i.zero,i.size,i.bytes))=aa (aa z,E.k,bf)) (a8:z.cells.size=E.k)
 (B:Nat) (v:an) (l:List α) (hs:a.eval s=v) (H:Zc E T w B v l) (q:Option aR) (r:List α) (c:Nat) (hx:a.eval x=.slice q r.length c) (hq:Ql E w q r) (a9:q=N->r=[]/\c=0) (hl:l.length+r.length<=maxLen) (b0:(l.length+r.length)*bf<=140737488355328) (a0:B<=w.heap.size)
 (h:∀D w',Zc E T w' B D (l++r)->Below B w w'->bt prog ops Q rest (a.put o.dst D) w'):bt prog ops Q (o::rest) a w:=by
 obtain⟨K,O,a2,a3,a4⟩:=info_parts a7;have a5:∀D w',w'.ownsRow B T E.k D (l.length+r.length) (Qb E l++Qb E r)->w.grownBy w' v.ownBlock->bt prog ops Q rest (a.put o.dst D) w':=fun D w' I J=>by
  refine h D w' ?_ (bR.grown J a0 (fun k hk=>(H.block hk).1));unfold Zc;rw[Qj,aJ];exact I
 cases q with
 |none =>
  obtain⟨hr,hc⟩:=a9 rfl;subst hr hc;refine wpList_append_own_none U s x _ Z B T K E.k ht O v l.length (Qb E l) hs H hx ?_;have:=h v w (by rw[List.append_nil];exact H) bR;exact this
 |some ad =>
  refine wpList_append_own w U s x _ Z B T K z E.k bf ht O a2 a3 a4 a8 E.pos v l.length (Qb E l) hs H ad r.length c (Qb E r) hx (Qr E r) ?_ (Zz E r) hl b0 a0 (fun D w' I J _=>a5 D w' I J);rcases hq with h0|⟨b,o',hp,_,a6⟩
  ·subst h0;intro j u hj;simp[Qb]at hj
  ·obtain rfl:ad=⟨b,o',N⟩:=by simpa using hp
   exact Ql.cells a6
theorem wJ {o:Oper}{a:Act}{Q:Exit->Act->World->Prop}(K:o.guard=N)(s x:Operand)(t T:aM)
 (O:o.op=.call {callee:=.builtin .append,args:=#[s,x],argTypes:=#[t,t]}) (z:an) (bf:Nat) (U:prog.underlying t=aa (.slice T))
 (Z:(prog.info? T).map (fun i=>(i.zero,i.size,i.bytes))=aa (aa z,E.k,bf)) (a0:z.cells.size=E.k)
 (B:Nat) (v:an) (l:List α) (hs:a.eval s=v) (a2:Zc E T w B v l) (b D c:Nat) (y:α) (hx:a.eval x=.slice (aa ⟨b,D,N⟩) 1 c) (hq:∀j u,(E.enc y)[j]?=aa u->w.cell? ⟨b,D+j,N⟩=aa u) (hl:l.length+1<=maxLen) (a3:(l.length+1)*bf<=140737488355328) (a4:B<=w.heap.size) (a5:b<w.heap.size)
 (h:∀I w',Zc E T w' B I (l++ [y])->Below B w w'->bt prog ops Q rest (a.put o.dst I) w'):bt prog ops Q (o::rest) a w :=
 F4 (E:=E) K s x t T O z bf U Z a0 B v l hs a2 (aa ⟨b,D,N⟩) [y] c hx (aA ⟨b,D,rfl,a5,fun i x H j u J=>by
  match i,H with
  |0,H =>
   obtain rfl:y=x:=by simpa using H
   rw[bn,Nat.add_zero];exact hq j u J⟩) (fun e=>by cases e) hl a3 a4 h
end
theorem sA  {a:an}:l.toArray.setIfInBounds i a=(l.set i a).toArray:=List.setIfInBounds_toArray ..
theorem sZ {x a:an} :(x::l).set 0 a=a::l:=rfl
theorem sS {x a:an} :(x::l).set (n+1) a=x::l.set n a:=rfl
theorem XX {w B:World} {D:Array an}  (h:B=w.alloc (.cells D T)) (H:D[i]?=aa v):B.cell? ⟨w.heap.size,i,N⟩=aa v:=by rw[h,World.cell?_alloc_at _ _ _ _ rfl];exact H
theorem zBe {w B:World} (h:B=w.alloc o):Below w.heap.size w B:=by rw[h];exact(Below.refl _ _).alloc (aY _) _
end
theorem QT {w B:World}(h:B=w.alloc o):B.heap.size=w.heap.size+1:=by rw[h];simp
theorem fQ {w B:World}(h:B=w.alloc o):w.heap.size<B.heap.size:=by rw[h];simp
theorem Zk {w B:World}(h:B=w.alloc o):Below w.heap.size w B:=zBe h
theorem JH {w B:World}(h:B=w.alloc o):B.heap[w.heap.size]?=aa o:=by
 rw[h];show(w.heap.push _)[w.heap.size]?=_;simp
theorem lO {W:World}{o:Nat×Nat}{B:an}(h:W.heap[b]?=aa (.cells #[B,D] T o)):W.cell? ⟨b,0,N⟩=aa B/\W.cell? ⟨b,1,N⟩=aa D:=⟨by simp[ab,h],by simp[ab,h]⟩
theorem P9 {W:World}{o:Nat×Nat}{B:an}(h:W.heap[b]?=aa (.cells #[B,D,H] T o)):W.cell? ⟨b,0,N⟩=aa B/\W.cell? ⟨b,1,N⟩=aa D/\W.cell? ⟨b,2,N⟩=aa H:=⟨by simp[ab,h],by simp[ab,h],by simp[ab,h]⟩
theorem c4B {W:World}{o:Nat×Nat}{B:an}(h:W.heap[b]?=aa (.cells #[B,D,H,I] T o)):W.cell? ⟨b,0,N⟩=aa B/\W.cell? ⟨b,1,N⟩=aa D/\W.cell? ⟨b,2,N⟩=aa H/\W.cell? ⟨b,3,N⟩=aa I:=⟨by simp[ab,h],by simp[ab,h],by simp[ab,h],by simp[ab,h]⟩
theorem zB {W:World}{o:Nat×Nat}{B:an}(h:W.heap[b]?=aa (.cells #[B,D,H,I,J] T o)):W.cell? ⟨b,0,N⟩=aa B/\W.cell? ⟨b,1,N⟩=aa D/\W.cell? ⟨b,2,N⟩=aa H/\W.cell? ⟨b,3,N⟩=aa I/\W.cell? ⟨b,4,N⟩=aa J:=⟨by simp[ab,h],by simp[ab,h],by simp[ab,h],by simp[ab,h],by simp[ab,h]⟩
theorem lF {W:World}{o:Nat×Nat}{B K O U:an}(h:W.heap[b]?=aa (.cells #[B,D,H,I,J,K,O,U] T o)):W.cell? ⟨b,0,N⟩=aa B/\W.cell? ⟨b,1,N⟩=aa D/\W.cell? ⟨b,2,N⟩=aa H/\W.cell? ⟨b,3,N⟩=aa I/\W.cell? ⟨b,4,N⟩=aa J/\W.cell? ⟨b,5,N⟩=aa K/\W.cell? ⟨b,6,N⟩=aa O/\W.cell? ⟨b,7,N⟩=aa U:=⟨by simp[ab,h],by simp[ab,h],by simp[ab,h],by simp[ab,h],by simp[ab,h],by simp[ab,h],by simp[ab,h],by simp[ab,h]⟩
section
open Go
abbrev _root_.Go.World.z (w:World):Nat:=w.heap.size
abbrev pA (b i:Nat):Addr:=⟨b,i,N⟩
section
variable {P:Program} {ops:Array Oper} {Q:Exit->Act->World->Prop} {md:Region.Mode} {S:World->Prop} {fuel:Nat} {listed:Array Bool} {a:Act} {w:World}
theorem tk (i:Nat)(oi:Oper){v:Value}(hS:S w)(h:wpAnyH P md ops Q S fuel (listed.setIfInBounds i true) (a.put oi.dst v) w)(hi:ops[i]?=some oi:=by(try simp only [List.getElem?_toArray,List.getElem?_cons_zero,List.getElem?_cons_succ]);all_goals rfl)(hs:Region.noSelect ops=true:=by kernel_rfl)(hf:Region.free md ops listed i=true:=by kernel_rfl)(hr:(Region.ready md ops listed).contains i=true:=by kernel_rfl)(hw:Region.wanted oi (yielded ops a.tmps)=true:=by rfl)(hy:∀ w,S w->(execOp a.eval oi).run P w=.ok (.value v) w:=by intro w hSw;(try dsimp only at hSw);go_simp;try with_reducible rfl)(hQ:∀ c a w,Q (.panic c) (a.put oi.dst v) w->Q (.panic c) a w:=by exact fun _ _ _ h=>h):wpAnyH P md ops Q S (fuel+1) listed a w :=
 wpAnyH_take hi hs hf hr hQ (ao ⟨hw,hy⟩) hS h
theorem rdy (i:Nat)(rs:List Nat)(o:Oper)(h:∀ K':Act->World->Prop,Shut (∀ a w,S w->(S w->wpAnyH P md ops Q S fuel (listed.setIfInBounds i true) a w)->K' a w)->if Region.wanted o (yielded ops a.tmps)=true then Oper.wp P o a w K' Q else K' (a.put o.dst undef) w)(hs:AllReadyH P md ops Q S fuel listed a w rs)(ho:ops[i]?=some o:=by(try simp only [List.getElem?_toArray,List.getElem?_cons_zero,List.getElem?_cons_succ]);all_goals rfl)(hr:Region.ready md ops listed=i :: rs:=by kernel_rfl):wpAnyH P md ops Q S (fuel+1) listed a w :=
 wpAnyH_ready hr (by simp) (AllReadyH.cons ho h hs)
end
end
namespace Gf
def tx (a:Nat):Nat:=if a<128 then a*2 else(a*2-256)^^^29
def dP (a:Nat):Nat->Nat
 |0=>a
 |k+1=>tx (dP a k)
def bT (b i:Nat):Nat:=b/2^i%2
def part (a b:Nat):Nat->Nat
 |0=>0
 |k+1=>if bT b k=1 then part a b k^^^dP a k else part a b k
def mul (a b:Nat):Nat:=part a b 8
theorem U2 (h:a<256):tx a<256:=by
 unfold tx;split
 ·omega
 ·exact al (n:=8) (by omega) (by decide)
theorem cY (h:a<256)(k:Nat):dP a k<256:=by
 induction k with
 |zero=>exact h
 |succ k ih=>exact U2 ih
theorem eF (h:a<256)(b k:Nat):part a b k<256:=by
 induction k with
 |zero=>exact(by decide:(0:Nat)<256)
 |succ k ih =>
  unfold part;split
  ·exact al (n:=8) ih (cY h k)
  ·exact ih
theorem aV (h:a<256)(b:Nat):mul a b<256:=eF h b 8
theorem yK:∀a:Nat,a<256->tx a=(a <<< 1) % 2 ^ 8 ^^^ (29 * (a >>>7)):=by decide +kernel
theorem Ja7 (a:Nat)(h:a<256):a>>>7=0∨a>>>7=1:=by
 rw[ag];omega
theorem iK (B:a<256)(D:b<256):a^^^b<256:=al (n:=8) B D
theorem GU (a b:Nat)(B:a<256)(D:b<256):tx (a^^^b)=tx a^^^tx b:=by
 rw[yK _ (iK B D),yK _ B,yK _ D,Nat.shiftLeft_xor_distrib,ap,aE];have I:29*(a>>>7^^^b>>>7)=29*(a>>>7)^^^29*(b>>>7):=by
  rcases Ja7 a B with h|h<;>rcases Ja7 b D with H|H<;>rw[h,H]<;>rfl
 rw[I]
 ac_rfl
theorem T7 (a b:Nat)(B:a<256)(D:b<256)(k:Nat):dP (a^^^b) k=dP a k^^^dP b k:=by
 induction k with
 |zero=>rfl
 |succ k ih =>
  show tx (dP (a^^^b) k)=tx (dP a k)^^^tx (dP b k);rw[ih,GU _ _ (cY B k) (cY D k)]
theorem C8:tx 0=0:=by decide
theorem NO (k:Nat):dP 0 k=0:=by
 induction k with
 |zero=>rfl
 |succ k ih=>show tx (dP 0 k)=0;rw[ih,C8]
theorem Js4 (b c k:Nat):bT (b^^^c) k=(bT b k+bT c k)%2:=by
 unfold bT;rw[<-ag,<-ag,<-ag,ap];have:=aE (a:=b>>>k) (b:=c>>>k) (n:=1);simp only[Nat.pow_one]at this;rw[this];rcases aq (b>>>k)with h|h<;>rcases Nat.mod_two_eq_zero_or_one (c>>>k)with B|B<;>rw[h,B]<;>rfl
theorem wL (b k:Nat):bT b k=0∨bT b k=1:=aq _
theorem T4 (a a' b:Nat)(B:a<256)(D:a'<256)(k:Nat):part (a^^^a') b k=part a b k^^^part a' b k:=by
 induction k with
 |zero=>exact(ak 0).symm
 |succ k ih =>
  simp only[part];rw[ih,T7 a a' B D];split
  ·ac_rfl
  ·rfl
theorem MK (a b c:Nat)(k:Nat):part a (b^^^c) k=part a b k^^^part a c k:=by
 induction k with
 |zero=>exact(ak 0).symm
 |succ k ih =>
  simp only[part];rw[ih,Js4];have D:dP a k^^^dP a k=0:=ak _;rcases wL b k with h|h<;>rcases wL c k with B|B<;>rw[h,B]<;>simp
  ·ac_rfl
  ·ac_rfl
  ·have:part a b k^^^dP a k^^^(part a c k^^^dP a k)=part a b k^^^part a c k^^^(dP a k^^^dP a k):=by ac_rfl
   rw[this,D,aj]
theorem mul_left (a a' b:Nat)(B:a<256)(D:a'<256):mul (a^^^a') b=mul a b^^^mul a' b:=T4 a a' b B D 8
theorem mul_right (a b c:Nat):mul a (b^^^c)=mul a b^^^mul a c:=MK a b c 8
theorem mul_zero (a:Nat):mul a 0=0:=by simp[mul,part,bT]
theorem JpZ (b k:Nat):part 0 b k=0:=by
 induction k with
 |zero=>rfl
 |succ k ih=>unfold part;rw[ih,NO];simp
theorem zero_mul (b:Nat):mul 0 b=0:=JpZ b 8
theorem mul_one (a:Nat):mul a 1=a:=by simp[mul,part,bT,dP]
theorem one_mul:∀b:Nat,b<256->mul 1 b=b:=by decide +kernel
theorem JtH (a k:Nat):dP (tx a) k=tx (dP a k):=by
 induction k with
 |zero=>rfl
 |succ k ih=>show tx (dP (tx a) k)=_;rw[ih];rfl
theorem UU (a b:Nat)(B:a<256)(k:Nat):part (tx a) b k=tx (part a b k):=by
 induction k with
 |zero=>exact C8.symm
 |succ k ih =>
  simp only[part];rw[ih,JtH];split
  ·rw[GU _ _ (eF B b k) (cY B k)]
  ·rfl
theorem MZ (a b:Nat)(B:a<256):mul (tx a) b=tx (mul a b):=UU a b B 8
theorem G6 (a b:Nat)(B:a<256)(k:Nat):mul (dP a k) b=dP (mul a b) k:=by
 induction k with
 |zero=>rfl
 |succ k ih=>show mul (tx (dP a k)) b=tx (dP (mul a b) k);rw[MZ _ _ (cY B k),ih]
theorem MH:∀b:Nat,b<256->part 1 b 8=b:=one_mul
theorem O9 (a b:Nat)(B:a<256)(k:Nat):mul (part 1 b k) a=part a b k:=by
 induction k with
 |zero=>exact zero_mul a
 |succ k ih =>
  simp only[part];split
  ·rw[mul_left _ _ _ (eF (by decide) b k) (cY (by decide) k),ih,G6 1 a (by decide) k,one_mul a B]
  ·exact ih
theorem mul_comm (a b:Nat)(B:a<256)(D:b<256):mul a b=mul b a:=by
 have h:=O9 a b B 8;rw[MH b D]at h;exact h.symm
theorem TP (a b c:Nat)(D:a<256)(B:b<256)(k:Nat):part (mul a b) c k=mul a (part b c k):=by
 induction k with
 |zero=>exact(mul_zero a).symm
 |succ k ih =>
  simp only[part];split
  ·rw[ih,mul_right,mul_comm a (dP b k) D (cY B k),G6 b a B k,mul_comm b a B D]
  ·exact ih
theorem mul_assoc (a b c:Nat)(B:a<256)(D:b<256):mul (mul a b) c=mul a (mul b c):=TP a b c B D 8
def sq (a:Nat):Nat->Nat
 |0=>a
 |k+1=>mul (sq a k) (sq a k)
def pw (a n:Nat):Nat->Nat
 |0=>1
 |k+1=>if bT n k=1 then mul (pw a n k) (sq a k)else pw a n k
def fM (a n:Nat):Nat:=pw a n 8
def inv (a:Nat):Nat:=fM a 254
theorem qI (h:a<256)(k:Nat):sq a k<256:=by
 induction k with
 |zero=>exact h
 |succ k ih=>exact aV ih _
theorem lL (n k:Nat):pw a n k<256:=by
 induction k with
 |zero=>exact(by decide:(1:Nat)<256)
 |succ k ih =>
  unfold pw;split
  ·exact aV ih _
  ·exact ih
theorem PM (a n:Nat):fM a n<256:=lL n 8
theorem cQ (a:Nat):inv a<256:=PM a 254
theorem eG:∀a:Nat,a<256->a≠0->mul a (inv a)=1:=by decide +kernel
theorem V6 (a:Nat)(h:a<256)(B:a≠0):mul (inv a) a=1:=by
 rw[mul_comm _ _ (cQ a) h];exact eG a h B
def bZ (a:Nat):Nat->Nat
 |0=>1
 |n+1=>mul (bZ a n) a
end Gf
namespace Gf
def wP (i n:Nat):Nat:=if bT n i=1 then n^^^(285*2^(i-8))else n
def rr (n:Nat):Nat->Nat
 |0=>n
 |j+1=>wP (14-j) (rr n j)
theorem RG (I:i<=14)(B:n<2^15):wP i n<2^15:=by
 unfold wP;split
 ·refine al B ?_;have D:2^(i-8)<=2^6:=Nat.pow_le_pow_right (by decide) (by omega);have H:285*2^(i-8)<=285*2^6:=Nat.mul_le_mul nR D;exact Nat.lt_of_le_of_lt H (by decide)
 ·exact B
theorem Jt7 {n:Nat}(B:n<2^15):∀j,rr n j<2^15
 |0=>B
 |j+1=>RG (by omega) (Jt7 B j)
theorem eN (a b:Nat)(D:a<256)(H:b<256)(I:a≠0)(h:mul a b=1):b=inv a:=by
 have B:mul (inv a) (mul a b)=mul (inv a) 1:=by rw[h]
 rw[<-mul_assoc (inv a) a b (cQ a) D,V6 a D I,mul_one,one_mul b H]at B;exact B
theorem dV (a:Nat):∀n,bZ a n<256
 |0=>by show 1<256;decide
 |n+1=>aV (dV a n) a
theorem zJ (a:Nat)(B:a<256)(m:Nat):∀n,bZ a (m+n)=mul (bZ a m) (bZ a n)
 |0=>(mul_one _).symm
 |n+1=>by
  show mul (bZ a (m+n)) a=mul (bZ a m) (mul (bZ a n) a);rw[zJ a B m n,mul_assoc _ _ _ (dV a m) (dV a n)]
theorem GM (a:Nat)(B:a<256):∀k,sq a k=bZ a (2^k)
 |0=>by show a=mul 1 a;exact(one_mul a B).symm
 |k+1=>by
  show mul (sq a k) (sq a k)=bZ a (2^(k+1));rw[GM a B k,<-zJ a B,bo]
  congr 1;omega
theorem Js7 (n k:Nat):n%2^(k+1)=n%2^k+bT n k*2^k:=by
 unfold bT;rw[bo,Nat.mod_mul];rw[bp (2^k)]
theorem BC (a n:Nat)(B:a<256):∀k,pw a n k=bZ a (n%2^k)
 |0=>by show 1=bZ a (n%1);rw[Nat.mod_one];rfl
 |k+1=>by
  simp only[pw];rw[BC a n B k,GM a B k,Js7];rcases wL n k with h|h<;>rw[h]<;>simp
  rw[zJ a B]
theorem iG (a n:Nat)(B:a<256)(D:n<256):fM a n=bZ a n:=by
 have:=BC a n B 8;rw[show n%2^8=n from aS D]at this;exact this
end Gf
namespace Gf
def horner (x:Nat):List Nat->Nat
 | []=>0
 |c::r=>mul (horner x r) x^^^c
def nth (l:List Nat)(i:Nat):Nat:=l.getD i 0
def XY (xs:List Nat)(i x:Nat):Nat->Nat
 |0=>1
 |k+1=>if k=i then XY xs i x k else mul (XY xs i x k) (x^^^nth xs k)
def aQ (xs:List Nat)(i x:Nat):Nat:=mul (XY xs i x xs.length) (inv (XY xs i (nth xs i) xs.length))
def fG (xs B:List Nat)(x:Nat):Nat->Nat
 |0=>0
 |k+1=>fG xs B x k^^^mul (nth B k) (aQ xs k x)
def Bytes (l:List Nat):Prop:=∀i,nth l i<256
theorem Bytes.tail {r:List Nat}(h:Bytes (c::r)):Bytes r:=fun i=>by simpa[nth]using h (i+1)
theorem bF (x:Nat):∀l:List Nat,Bytes l->horner x l<256
 | [],_=>by show 0<256;decide
 |c::r,h=>iK (aV (bF x r h.tail) x) (by simpa[nth]using h 0)
theorem bX (xs:List Nat)(i x:Nat):∀k,XY xs i x k<256
 |0=>by show 1<256;decide
 |k+1=>by
  unfold XY;split
  ·exact bX xs i x k
  ·exact aV (bX xs i x k) _
theorem bL (xs:List Nat)(i x:Nat):aQ xs i x<256:=aV (bX _ _ _ _) _
theorem gY (xs B:List Nat)(x:Nat)(D:Bytes B):∀k,fG xs B x k<256
 |0=>by show 0<256;decide
 |k+1=>iK (gY xs B x D k) (aV (D k) _)
theorem aK (l:List Nat)(k:Nat)(h:k<l.length):nth l k=l[k]:=by
 unfold nth;rw[af,ah h];rfl
theorem PU (l:List Nat)(k:Nat)(h:k<l.length):l.take (k+1)=l.take k++ [nth l k]:=by
 rw[List.take_succ_eq_append_getElem h,aK l k h]
end Gf
namespace Gf
theorem p8:Bytes []:=fun i=>by simp[nth]
theorem oG {r:List Nat}(B:c<256)(D:Bytes r):Bytes (c::r):=fun i=>by
 cases i with
 |zero=>simpa[nth]using B
 |succ i=>simpa[nth]using D i
theorem BX {r:List Nat}(h:Bytes (c::r)):c<256:=by simpa[nth]using h 0
theorem S9 (a b c d:Nat):(a^^^b)^^^(c^^^d)=(a^^^c)^^^(b^^^d):=by ac_rfl
theorem dQ (h:a^^^b=0):a=b:=by
 have:(a^^^b)^^^b=b:=by rw[h,aB]
 rw[zb,ak,aj]at this;exact this
theorem B0 (h:a≠b):a^^^b≠0:=fun e=>h (dQ e)
def j9:List Nat->List Nat->List Nat
 | [],b=>b
 |x::a,[]=>x::a
 |x::a,y::b=>(x^^^y)::j9 a b
theorem sN:∀a b:List Nat,Bytes a->Bytes b->Bytes (j9 a b)
 | [],_,_,hb=>hb
 |_::_,[],ha,_=>ha
 |_::a,_::b,ha,hb=>oG (iK (BX ha) (BX hb)) (sN a b ha.tail hb.tail)
theorem tO:∀(a b:List Nat) (n:Nat),a.length<=n->b.length<=n->(j9 a b).length<=n
 | [],_,_,_,hb=>hb
 |_::_,[],_,ha,_=>ha
 |_::a,_::b,n,ha,hb=>by
  cases n with
  |zero=>simp at ha
  |succ n=>simp only[az,ax]at ha hb;simp only[j9,az,ax];exact tO a b n ha hb
theorem pO (x:Nat):∀a b:List Nat,Bytes a->Bytes b->horner x (j9 a b)=horner x a^^^horner x b
 | [],b,_,_=>by show horner x b=0^^^horner x b;rw[aB]
 |c::a,[],_,_=>by show horner x (c::a)=horner x (c::a)^^^0;rw[aj]
 |c::a,d::b,ha,hb=>by
  show mul (horner x (j9 a b)) x^^^(c^^^d)=(mul (horner x a) x^^^c)^^^(mul (horner x b) x^^^d);rw[pO x a b ha.tail hb.tail,mul_left _ _ _ (bF x a ha.tail) (bF x b hb.tail)];exact S9 _ _ _ _
def lR (c:Nat):List Nat->List Nat
 | []=>[]
 |d::r=>mul c d::lR c r
theorem pC {c:Nat}(B:c<256):∀l:List Nat,Bytes (lR c l)
 | []=>p8
 |d::r=>oG (aV B d) (pC B r)
theorem yS (c:Nat):∀l:List Nat,(lR c l).length=l.length
 | []=>rfl
 |_::r=>by simp[lR,yS c r]
theorem xM (c x:Nat)(B:c<256):∀l:List Nat,Bytes l->horner x (lR c l)=mul c (horner x l)
 | [],_=>(mul_zero c).symm
 |d::r,h=>by
  show mul (horner x (lR c r)) x^^^mul c d=mul c (mul (horner x r) x^^^d);rw[xM c x B r h.tail,mul_right,mul_assoc c _ x B (bF x r h.tail)]
def pZ (l:List Nat)(c:Nat):List Nat:=j9 (0::l) (lR c l)
theorem VY {l:List Nat}(h:Bytes l)(B:c<256):Bytes (pZ l c):=sN _ _ (oG (by decide) h) (pC B l)
theorem E8 {l:List Nat}(h:l.length<=n):(pZ l c).length<=n+1:=tO _ _ _ (by simpa using h) (by rw[yS];omega)
theorem RW (l:List Nat)(c x:Nat)(h:Bytes l)(B:c<256):horner x (pZ l c)=mul (horner x l) (x^^^c):=by
 unfold pZ;rw[pO x _ _ (oG (by decide) h) (pC B l),xM c x B l h,mul_right,mul_comm c _ B (bF x l h)];show(mul (horner x l) x^^^0)^^^_=_;rw[aj]
def kR (r:Nat):List Nat->List Nat
 | []=>[]
 |_::t=>match t with
  | []=>[]
  |_::_=>horner r t::kR r t
theorem zS (r:Nat):∀l:List Nat,Bytes l->Bytes (kR r l)
 | [],_=>p8
 | [_],_=>p8
 |_::d::t,h=>oG (bF r _ h.tail) (zS r (d::t) h.tail)
theorem IN (r:Nat):∀(l:List Nat) (n:Nat),l.length<=n+1->(kR r l).length<=n
 | [],_,_=>av _
 | [_],_,_=>av _
 |_::d::t,n,h=>by
  cases n with
  |zero=>simp at h
  |succ n =>
   have:=IN r (d::t) n (by simpa using h);simpa[kR]using this
theorem EI (r x:Nat)(J:r<256)(D:x<256):∀l:List Nat,Bytes l->horner x l=mul (horner x (kR r l)) (x^^^r)^^^horner r l
 | [],_=>by show 0=mul 0 _^^^0;rw[zero_mul];rfl
 | [c],_=>by show mul 0 x^^^c=mul 0 _^^^(mul 0 r^^^c);rw[zero_mul,zero_mul,zero_mul];simp
 |c::d::t,h=>by
  have ih:=EI r x J D (d::t) h.tail;have B:=bF x _ (zS r (d::t) h.tail);have H:=bF r _ h.tail;show mul (horner x (d::t)) x^^^c=mul (mul (horner x (kR r (d::t))) x^^^horner r (d::t)) (x^^^r)^^^(mul (horner r (d::t)) r^^^c);rw[ih];generalize horner x (kR r (d::t))=q at B;generalize horner r (d::t)=s at H;have I:=iK D J;rw[mul_left _ _ _ (aV B _) H,mul_left _ _ _ (aV B _) H,mul_assoc q _ x B I,mul_assoc q x _ B D,mul_comm (x^^^r) x I D,mul_right s x r];have e:mul s r^^^mul s r=0:=ak _;have:mul q (mul x (x^^^r))^^^(mul s x^^^mul s r)^^^(mul s r^^^c)=mul q (mul x (x^^^r))^^^mul s x^^^c^^^(mul s r^^^mul s r):=by ac_rfl
  rw[this,e,aj]
theorem D3 (H:a<256)(D:b<256)(I:b≠0)(h:mul a b=0):a=0:=by
 have B:mul (mul a b) (inv b)=a:=by rw[mul_assoc a b _ H D,eG b D I,mul_one]
 rw[h,zero_mul]at B;exact B.symm
theorem BF:∀(rs l:List Nat),Bytes l->l.length<=rs.length->rs.Nodup->(∀r∈rs,r<256/\horner r l=0)->∀x,x<256->horner x l=0
 | [],l,_,hlen,_,_,x,_=>by
  have:l=[]:=ay.1 (by simpa using hlen);rw[this];rfl
 |r::rs,l,hl,hlen,hn,hz,x,hx=>by
  have D:=hz r (aI ..);have I:=zS r l hl;have J:∀y,y<256->horner y l=mul (horner y (kR r l)) (y^^^r):=fun y O=>by
   rw[EI r y D.1 O l hl,D.2,aj]
  have key:=BF rs (kR r l) I (IN r l _ (by simpa using hlen)) (bc.1 hn).2 (fun s H=>by
   have B:=hz s (aC _ H);refine⟨B.1,?_⟩;have K:=J s B.1;rw[B.2]at K;refine D3 (bF s _ I) (iK B.1 D.1) (B0 ?_) K.symm;intro e;rw[e]at H;exact(bc.1 hn).1 H) x hx
  rw[J x hx,key,zero_mul]
def bK (xs:List Nat)(i:Nat):Nat->List Nat
 |0=>[1]
 |k+1=>if k=i then bK xs i k else pZ (bK xs i k) (nth xs k)
theorem bM (xs:List Nat)(B:Bytes xs)(i:Nat):∀k,Bytes (bK xs i k)
 |0=>oG (by decide) p8
 |k+1=>by
  unfold bK;split
  ·exact bM xs B i k
  ·exact VY (bM xs B i k) (B k)
theorem cC (xs:List Nat)(i:Nat):∀k,(bK xs i k).length<=k+1-(if i<k then 1 else 0)
 |0=>by simp[bK]
 |k+1=>by
  have ih:=cC xs i k;unfold bK;split
  ·rename_i e;subst e;rw[if_neg (aF _)]at ih;rw[if_pos (aW _)];omega
  ·rename_i e;by_cases h:i<k
   ·rw[if_pos h]at ih;rw[if_pos (by omega)];have:=E8 (c:=nth xs k) ih;omega
   ·rw[if_neg h]at ih;rw[if_neg (by omega)];have:=E8 (c:=nth xs k) ih;omega
theorem bH (xs:List Nat)(B:Bytes xs)(i x:Nat):∀k,horner x (bK xs i k)=XY xs i x k
 |0=>by show mul 0 x^^^1=1;rw[zero_mul];rfl
 |k+1=>by
  unfold bK XY;split
  ·exact bH xs B i x k
  ·rw[RW _ _ _ (bM xs B i k) (B k),bH xs B i x k]
def wV (xs B:List Nat)(k:Nat):Nat:=mul (nth B k) (inv (XY xs k (nth xs k) xs.length))
def rK (xs B:List Nat):Nat->List Nat
 |0=>[]
 |k+1=>j9 (rK xs B k) (lR (wV xs B k) (bK xs k xs.length))
theorem xZ (xs B:List Nat)(D:Bytes B)(k:Nat):wV xs B k<256:=aV (D k) _
theorem wB (xs B:List Nat)(D:Bytes B):∀k,Bytes (rK xs B k)
 |0=>p8
 |k+1=>sN _ _ (wB xs B D k) (pC (xZ xs B D k) _)
theorem AG (xs B:List Nat):∀k,k<=xs.length->(rK xs B k).length<=xs.length
 |0,_=>av _
 |k+1,h=>by
  refine tO _ _ _ (AG xs B k (by omega)) ?_;rw[yS];have:=cC xs k xs.length;rw[if_pos (by omega)]at this;omega
theorem x9 (xs B:List Nat)(H:Bytes xs)(D:Bytes B)(x:Nat):∀k,horner x (rK xs B k)=fG xs B x k
 |0=>rfl
 |k+1=>by
  show horner x (j9 _ _)=fG xs B x k^^^mul (nth B k) (aQ xs k x);rw[pO x _ _ (wB xs B D k) (pC (xZ xs B D k) _),x9 xs B H D x k,xM _ x (xZ xs B D k) _ (bM xs H k _),bH xs H k x];unfold wV aQ;rw[mul_assoc _ _ _ (D k) (cQ _),mul_comm (inv _) _ (cQ _) (bX _ _ _ _)]
theorem cJ (xs:List Nat)(i j:Nat)(B:j≠i):∀k,j<k->XY xs i (nth xs j) k=0
 |0,h=>absurd h (ae _)
 |k+1,h=>by
  unfold XY;split
  ·rename_i e;exact cJ xs i j B k (by omega)
  ·by_cases e:j=k
   ·subst e;rw[ak,mul_zero]
   ·rw[cJ xs i j B k (by omega),zero_mul]
theorem M0 (xs:List Nat)(J:xs.Nodup)(D:i<xs.length)(H:j<xs.length)(h:nth xs i=nth xs j):i=j:=by
 rw[aK xs i D,aK xs j H]at h;have I:=List.pairwise_iff_getElem.1 J;rcases Nat.lt_trichotomy i j with B|B|B
 ·exact absurd h (I i j D H B)
 ·exact B
 ·exact absurd h.symm (I j i H D B)
theorem VI (B:a<256)(D:b<256)(H:a≠0)(I:b≠0):mul a b≠0:=fun h=>H (D3 B D I h)
theorem dG (xs:List Nat)(B:Bytes xs)(D:xs.Nodup)(i:Nat)(H:i<xs.length):∀k,k<=xs.length->XY xs i (nth xs i) k≠0
 |0,_=>by show(1:Nat)≠0;decide
 |k+1,h=>by
  unfold XY;split
  ·exact dG xs B D i H k (by omega)
  ·rename_i e;exact VI (bX _ _ _ _) (iK (B i) (B k)) (dG xs B D i H k (by omega)) (B0 fun I=>e (M0 xs D (by omega) H I.symm))
theorem Jn8 (xs:List Nat)(B:Bytes xs)(D:xs.Nodup)(i:Nat)(H:i<xs.length):aQ xs i (nth xs i)=1 :=
 eG _ (bX _ _ _ _) (dG xs B D i H _ nR)
theorem Jbr (xs:List Nat)(i j:Nat)(B:j<xs.length)(h:j≠i):aQ xs i (nth xs j)=0:=by
 unfold aQ;rw[cJ xs i j h _ B,zero_mul]
theorem CA (xs B:List Nat)(I:Bytes xs)(J:xs.Nodup)(j:Nat)(D:j<xs.length):∀k,k<=xs.length->fG xs B (nth xs j) k=if j<k then nth B j else 0
 |0,_=>by rw[if_neg (ae _)];rfl
 |k+1,h=>by
  unfold fG;rw[CA xs B I J j D k (by omega)];by_cases e:j=k
  ·subst e;rw[if_neg (aF _),if_pos (aW _),Jn8 xs I J j D,mul_one,aB]
  ·rw[Jbr xs k j D e,mul_zero,aj];by_cases H:j<k
   ·rw[if_pos H,if_pos (by omega)]
   ·rw[if_neg H,if_neg (by omega)]
theorem through (p xs B:List Nat)(J:Bytes p)(H:Bytes xs)(K:Bytes B)(U:xs.Nodup)(a0:p.length<=xs.length)(hv:∀j,j<xs.length->nth B j=horner (nth xs j) p)(x:Nat)(a2:x<256):
 fG xs B x xs.length=horner x p:=by
 have I:=wB xs B K xs.length;have O:=BF xs (j9 (rK xs B xs.length) p) (sN _ _ I J) (tO _ _ _ (AG xs B _ nR) a0) U (fun r Z=>by
  obtain⟨j,D,rfl⟩:=List.getElem_of_mem Z;rw[<-aK xs j D];refine⟨H j,?_⟩;rw[pO _ _ _ I J,x9 xs B H K,CA xs B H U j D _ nR,if_pos D,hv j D,ak]) x a2
 rw[pO x _ _ I J,x9 xs B H K]at O;exact dQ O
end Gf
namespace Gf
def gQ (l:List Nat)(x:Nat):Nat->Nat
 |0=>0
 |k+1=>gQ l x k^^^mul (nth l k) (bZ x k)
theorem iA (l:List Nat)(x:Nat)(h:Bytes l):∀k,gQ l x k<256
 |0=>by show 0<256;decide
 |k+1=>iK (iA l x h k) (aV (h k) _)
theorem CD (x c:Nat)(D:x<256)(B:c<256):∀l:List Nat,Bytes l->horner x (l++ [c])=horner x l^^^mul c (bZ x l.length)
 | [],_=>by show mul 0 x^^^c=0^^^mul c 1;rw[zero_mul,mul_one]
 |d::r,h=>by
  show mul (horner x (r++ [c])) x^^^d=(mul (horner x r) x^^^d)^^^mul c (mul (bZ x r.length) x);rw[CD x c D B r h.tail,mul_left _ _ _ (bF x r h.tail) (aV B _),mul_assoc c _ x B (dV x _)]
  ac_rfl
theorem Jn9 {l:List Nat}(h:Bytes l)(k:Nat):Bytes (l.take k):=fun i=>by
 by_cases B:i<k
 ·have:=h i;simpa[nth,af,ar,B]using this
 ·simp[nth,af,ar,B]
theorem KQ (l:List Nat)(x:Nat)(B:x<256)(h:Bytes l):∀k,k<=l.length->gQ l x k=horner x (l.take k)
 |0,_=>by simp[gQ,horner]
 |k+1,hk=>by
  rw[PU l k (by omega),CD x _ B (h k) _ (Jn9 h k),<-KQ l x B h k (by omega)];show _^^^_=_;rw[List.length_take,Nat.min_eq_left (by omega)]
theorem jL (l:List Nat)(x:Nat)(B:x<256)(h:Bytes l):gQ l x l.length=horner x l:=by
 rw[KQ l x B h _ nR,List.take_length]
end Gf
namespace Lin
abbrev F:=Fin 256
def ad (a b:F):F:=⟨a.1^^^b.1,Gf.iK a.2 b.2⟩
def mu (a b:F):F:=⟨Gf.mul a.1 b.1,Gf.aV a.2 _⟩
def iv (a:F):F:=⟨Gf.inv a.1,Gf.cQ _⟩
theorem uV (a b:F):ad a b=ad b a:=ai (Nat.xor_comm _ _)
theorem oO (a b c:F):ad (ad a b) c=ad a (ad b c):=ai (zb _ _ _)
theorem cF (a:F):ad a 0=a:=ai (aj _)
theorem AN (a:F):ad 0 a=a:=ai (aB _)
theorem uG (a:F):ad a a=0:=ai (ak _)
theorem wR {a b:F}(h:ad a b=0):a=b:=ai (Gf.dQ (congrArg Fin.val h))
theorem TK (a b c:F):ad a (ad b c)=ad b (ad a c):=by rw[<-oO,uV a b,oO]
theorem Js9 (a b c d:F):ad (ad a b) (ad c d)=ad (ad a c) (ad b d):=by rw[oO,TK b c d,<-oO]
theorem cR (a b:F):mu a b=mu b a:=ai (Gf.mul_comm _ _ a.2 b.2)
theorem aT (a b c:F):mu (mu a b) c=mu a (mu b c):=ai (Gf.mul_assoc _ _ _ a.2 b.2)
theorem C6 (a b c:F):mu a (ad b c)=ad (mu a b) (mu a c):=ai (Gf.mul_right _ _ _)
theorem vR (a b c:F):mu (ad a b) c=ad (mu a c) (mu b c):=ai (Gf.mul_left _ _ _ a.2 b.2)
theorem bN (a:F):mu a 0=0:=ai (Gf.mul_zero a.1)
theorem cT (a:F):mu 0 a=0:=ai (Gf.zero_mul a.1)
theorem oY (a:F):mu a 1=a:=ai (Gf.mul_one a.1)
theorem dU (a:F):mu 1 a=a:=by rw[cR,oY]
theorem yW (a:F)(h:a≠0):mu a (iv a)=1:=ai (Gf.eG a.1 a.2 (fun e=>h (ai e)))
theorem rX (a:F)(h:a≠0):mu (iv a) a=1:=by rw[cR,yW a h]
theorem G5:(1:F)≠0:=by decide
theorem lS {a b:F}(B:a≠0)(D:b≠0):mu a b≠0:=fun h=>B (by
 have:mu (mu a b) (iv b)=a:=by rw[aT,yW b D,oY]
 rw[h,cT]at this;exact this.symm)
def aL:Nat->(Nat->F)->F
 |0,_=>0
 |k+1,f=>ad (aL k f) (f k)
theorem aH {f g:Nat->F}:∀{k:Nat},(∀i,i<k->f i=g i)->aL k f=aL k g
 |0,_=>rfl
 |k+1,h=>by show ad _ _=ad _ _;rw[aH (fun i B=>h i (by omega)),h k (by omega)]
theorem bS {f:Nat->F}:∀{k:Nat},(∀i,i<k->f i=0)->aL k f=0
 |0,_=>rfl
 |k+1,h=>by show ad _ _=0;rw[bS (fun i B=>h i (by omega)),h k (by omega),cF]
theorem oT (f g:Nat->F):∀k,aL k (fun i=>ad (f i) (g i))=ad (aL k f) (aL k g)
 |0=>(cF 0).symm
 |k+1=>by show ad _ _=ad (ad _ _) (ad _ _);rw[oT f g k,Js9]
theorem bJ (c:F)(f:Nat->F):∀k,aL k (fun i=>mu c (f i))=mu c (aL k f)
 |0=>(bN c).symm
 |k+1=>by show ad _ _=mu c (ad _ _);rw[bJ c f k,C6]
theorem Z4 (c:F)(f:Nat->F)(k:Nat):aL k (fun i=>mu (f i) c)=mu (aL k f) c:=by
 rw[cR,<-bJ];exact aH fun i _=>cR _ _
theorem bW (f:Nat->Nat->F)(l:Nat):∀k,aL k (fun i=>aL l (fun j=>f i j))=aL l (fun j=>aL k (fun i=>f i j))
 |0=>(bS fun _ _=>rfl).symm
 |k+1=>by
  show ad (aL k _) (aL l _)=_;rw[bW f l k,<-oT];rfl
theorem b9 (p:Nat)(f:Nat->F):∀k,p<k->(∀i,i<k->i≠p->f i=0)->aL k f=f p
 |0,h,_=>absurd h (ae _)
 |k+1,h,hz=>by
  show ad (aL k f) (f k)=f p;by_cases e:p=k
  ·subst e;rw[bS (fun i B=>hz i (by omega) (by omega)),AN]
  ·rw[b9 p f k (by omega) (fun i B=>hz i (by omega)),hz k (by omega) (fun D=>e D.symm),cF]
def skip (p i:Nat):Nat:=if i<p then i else i+1
theorem O7 (p i:Nat):skip p i≠p:=by unfold skip;split<;>omega
theorem MQ (h:i<k):skip p i<k+1:=by unfold skip;split<;>omega
theorem sY (p:Nat)(f:Nat->F):∀k,p<k+1->aL (k+1) f=ad (f p) (aL k (fun i=>f (skip p i)))
 |0,h=>by
  obtain rfl:p=0:=by omega
  show ad 0 (f 0)=ad (f 0) 0;rw[AN,cF]
 |k+1,h=>by
  by_cases e:p=k+1
  ·subst e;show ad (aL (k+1) f) (f (k+1))=_;rw[uV]
   congr 1
   exact aH fun i B=>by unfold skip;rw[if_pos B]
  ·show ad (aL (k+1) f) (f (k+1))=ad (f p) (ad (aL k fun i=>f (skip p i)) (f (skip p k)));rw[sY p f k (by omega),show skip p k=k+1 from by unfold skip;rw[if_neg (by omega)],oO]
theorem uW:∀(s r:Nat),s<r->∀a:Nat->Nat->F,∃c:Nat->F,(∃i,i<r/\c i≠0)/\∀j,j<s->aL r (fun i=>mu (c i) (a i j))=0
 |0,r,h,_=>⟨fun _=>1,⟨0,h,G5⟩,fun j B=>absurd B (ae _)⟩
 |s+1,r,h,a=>by
  by_cases J:∃p,p<r/\a p s≠0
  ·obtain⟨p,U,Z⟩:=J;obtain⟨k,rfl⟩:∃k,r=k+1:=⟨r-1,by omega⟩;obtain⟨c,⟨K,a0,D⟩,H⟩:=uW s k (by omega) (fun i j=>ad (a (skip p i) j) (mu (mu (a (skip p i) s) (iv (a p s))) (a p j)))
   let cp:F:=aL k (fun i=>mu (c i) (mu (a (skip p i) s) (iv (a p s))))
   let d:Nat->F:=fun i=>if i=p then cp else c (if i<p then i else i-1)
   have dp:d p=cp:=if_pos rfl;have O:∀i,d (skip p i)=c i:=by
    intro i;show(if skip p i=p then cp else _)=_;rw[if_neg (O7 p i)]
    congr 1
    by_cases I:i<p
    ·rw[show skip p i=i from if_pos I,if_pos I]
    ·rw[show skip p i=i+1 from if_neg I,if_neg (by omega)];omega
   have key:∀j,aL (k+1) (fun i=>mu (d i) (a i j))=aL k (fun i=>mu (c i) (ad (a (skip p i) j) (mu (mu (a (skip p i) s) (iv (a p s))) (a p j)))):=by
    intro j;rw[sY p _ k U,dp];have e1:aL k (fun i=>mu (d (skip p i)) (a (skip p i) j))=aL k (fun i=>mu (c i) (a (skip p i) j)):=aH fun i _=>by rw[O i]
    have e2:mu cp (a p j)=aL k (fun i=>mu (c i) (mu (mu (a (skip p i) s) (iv (a p s))) (a p j))):=by
     show mu (aL k _) (a p j)=_;rw[<-Z4];exact aH fun i _=>by rw[aT,aT]
    rw[e1,e2,uV,<-oT];exact aH fun i _=>by rw[C6]
   refine⟨d,⟨skip p K,MQ a0,by rw[O K];exact D⟩,fun j B=>?_⟩;rw[key j];by_cases e:j=s
   ·subst e;refine bS fun i _=>?_
    rw[aT (a (skip p i) j),rX _ Z,oY,uG,bN]
   ·exact H j (by omega)
  ·obtain⟨c,D,H⟩:=uW s r (by omega) a;refine⟨c,D,fun j B=>?_⟩;by_cases e:j=s
   ·subst e;refine bS fun i hi=>?_
    have:a i j=0:=ac fun h'=>J ⟨i,hi,h'⟩
    rw[this,bN]
   ·exact H j (by omega)
def Zu (n k:Nat)(v:Nat->Nat->F)(u:Nat->F):Prop:=∃c:Nat->F,∀j,j<n->u j=aL k (fun i=>mu (c i) (v i j))
def dD (n k:Nat)(v:Nat->Nat->F):Prop:=∀c:Nat->F,(∀j,j<n->aL k (fun i=>mu (c i) (v i j))=0)->∀i,i<k->c i=0
theorem vJ {u v:Nat->Nat->F}(h:∀i,i<r->Zu n s v (u i)):∃a:Nat->Nat->F,∀i,i<r->∀j,j<n->u i j=aL s (fun l=>mu (a i l) (v l j)):=by
 have D:∀i,∃c:Nat->F,i<r->∀j,j<n->u i j=aL s (fun l=>mu (c l) (v l j)):=fun i=>by
  by_cases B:i<r
  ·obtain⟨c,H⟩:=h i B;exact⟨c,fun _=>H⟩
  ·exact⟨fun _=>0,fun h=>absurd h B⟩
 exact⟨fun i=>Classical.choose (D i),fun i B=>Classical.choose_spec (D i) B⟩
theorem wE {u v:Nat->Nat->F}(hu:dD n r u)(h:∀i,i<r->Zu n s v (u i)):r<=s:=by
 refine ac fun a0=>?_
 obtain⟨a,B⟩:=vJ h;obtain⟨c,⟨D,H,I⟩,J⟩:=uW s r (by omega) a;refine I (hu c (fun j K=>?_) D H);have O:aL r (fun i=>mu (c i) (u i j))=aL r (fun i=>aL s (fun l=>mu (mu (c i) (a i l)) (v l j))):=aH fun i U=>by
  rw[B i U j K,<-bJ];exact aH fun l _=>(aT _ _ _).symm
 rw[O,bW];refine bS fun l Z=>?_
 rw[Z4,J l Z,cT]
theorem UF {v:Nat->Nat->F}(at_:Nat->Nat)(O:∀i,i<k->at_ i<n)(U:∀i,i<k->v i (at_ i)≠0)(Z:∀i j,i<j->j<k->v j (at_ i)=0):dD n k v:=by
 intro c J;have key:∀m,∀i,i<m->i<k->c i=0:=by
  intro m
  induction m with
  |zero=>intro i B;exact absurd B (ae _)
  |succ m ih =>
   intro i B D;by_cases e:i<m
   ·exact ih i e D
   ·obtain rfl:i=m:=by omega
    have H:=J (at_ i) (O i D);rw[b9 i _ k D]at H
    ·refine ac fun h=>lS h (U i D) H
    ·intro j I a0;by_cases K:j<i
     ·rw[ih j K I,cT]
     ·rw[Z i j (by omega) I,bN]
 exact fun i B=>key k i B B
def cL (n k:Nat)(v:Nat->Nat->F)(r:Nat):Prop:=∃b:Nat->Nat->F,dD n r b/\(∀i,i<r->Zu n k v (b i))/\∀i,i<k->Zu n r b (v i)
theorem nM {l:Nat}{v w:Nat->Nat->F}{u:Nat->F}(K:Zu n k v u)(O:∀i,i<k->Zu n l w (v i)):Zu n l w u:=by
 obtain⟨c,D⟩:=K;obtain⟨a,H⟩:=vJ O;refine⟨fun m=>aL k (fun i=>mu (c i) (a i m)),fun j B=>?_⟩;rw[D j B];have I:aL k (fun i=>mu (c i) (v i j))=aL k (fun i=>aL l (fun m=>mu (mu (c i) (a i m)) (w m j))):=aH fun i J=>by
  rw[H i J j B,<-bJ];exact aH fun m _=>(aT _ _ _).symm
 rw[I,bW];exact aH fun m _=>Z4 _ _ _
theorem aU (v:Nat->Nat->F)(D:i<k):Zu n k v (v i) :=
 ⟨fun j=>if j=i then 1 else 0,fun j _=>by
  rw[b9 i _ k D]
  ·show v i j=mu (if i=i then 1 else 0) (v i j);rw[if_pos rfl,dU]
  ·intro l _ B;show mu (if l=i then 1 else 0) (v l j)=0;rw[if_neg B,cT]⟩
theorem G7 {v:Nat->Nat->F}{x y:Nat->F}(I:Zu n k v x)(J:Zu n k v y):Zu n k v (fun j=>ad (x j) (y j)):=by
 obtain⟨c,D⟩:=I;obtain⟨d,H⟩:=J;refine⟨fun i=>ad (c i) (d i),fun j B=>?_⟩;show ad (x j) (y j)=_;rw[D j B,H j B,<-oT];exact aH fun i _=>(vR _ _ _).symm
theorem xF {v:Nat->Nat->F}{x:Nat->F}(H:Zu n k v x)(a:F):Zu n k v (fun j=>mu a (x j)):=by
 obtain⟨c,B⟩:=H;refine⟨fun i=>mu a (c i),fun j D=>?_⟩;show mu a (x j)=_;rw[B j D,<-bJ];exact aH fun i _=>(aT _ _ _).symm
theorem aX {v w:Nat->Nat->F}{x y:Nat->F}(h:Zu n k v x)(I:∀i,i<k->∀j,j<n->v i j=w i j)(J:∀j,j<n->x j=y j):Zu n k w y:=by
 obtain⟨c,D⟩:=h;exact⟨c,fun j B=>by rw[<-J j B,D j B];exact aH fun i H=>by rw[I i H j B]⟩
theorem dY {v:Nat->Nat->F}(U:cL n k v r)(Z:cL n k v s):r=s:=by
 obtain⟨b,D,H,I⟩:=U;obtain⟨d,J,K,O⟩:=Z;exact Nat.le_antisymm (wE D fun i B=>nM (H i B) O) (wE J fun i B=>nM (K i B) I)
def mm (n:Nat)(a b:Nat->Nat->F):Nat->Nat->F:=fun i j=>aL n (fun k=>mu (a i k) (b k j))
def one:Nat->Nat->F:=fun i j=>if i=j then 1 else 0
theorem cN (n l:Nat)(a b c:Nat->Nat->F)(i j:Nat):mm l (mm n a b) c i j=mm n a (mm l b c) i j:=by
 show aL l (fun m=>mu (aL n (fun k=>mu (a i k) (b k m))) (c m j))=aL n (fun k=>mu (a i k) (aL l (fun m=>mu (b k m) (c m j))));have B:aL l (fun m=>mu (aL n (fun k=>mu (a i k) (b k m))) (c m j))=aL l (fun m=>aL n (fun k=>mu (mu (a i k) (b k m)) (c m j))):=aH fun m _=>(Z4 _ _ _).symm
 have D:aL n (fun k=>mu (a i k) (aL l (fun m=>mu (b k m) (c m j))))=aL n (fun k=>aL l (fun m=>mu (mu (a i k) (b k m)) (c m j))):=aH fun k _=>by
  rw[<-bJ];exact aH fun m _=>(aT _ _ _).symm
 rw[B,D,bW]
theorem fK (n:Nat)(a:Nat->Nat->F)(i j:Nat)(D:j<n):mm n a one i j=a i j:=by
 show aL n (fun k=>mu (a i k) (one k j))=_;rw[b9 j _ n D]
 ·show mu (a i j) (if j=j then 1 else 0)=_;rw[if_pos rfl,oY]
 ·intro k _ B;show mu (a i k) (if k=j then 1 else 0)=0;rw[if_neg B,bN]
theorem fJ (n:Nat)(a:Nat->Nat->F)(i j:Nat)(D:i<n):mm n one a i j=a i j:=by
 show aL n (fun k=>mu (one i k) (a k j))=_;rw[b9 i _ n D]
 ·show mu (if i=i then 1 else 0) (a i j)=_;rw[if_pos rfl,dU]
 ·intro k _ B;show mu (if i=k then 1 else 0) (a k j)=0;rw[if_neg (fun e=>B e.symm),cT]
theorem bQ (n:Nat){a b c d:Nat->Nat->F}(D:∀k,k<n->a i k=c i k)(H:∀k,k<n->b k j=d k j):mm n a b i j=mm n c d i j:=aH fun k B=>by rw[D k B,H k B]
theorem SR (n:Nat):dD n n one:=UF (fun i=>i) (fun _ h=>h) (fun i _=>by show(if i=i then(1:F)else 0)≠0;rw[if_pos rfl];exact G5) (fun i j B _=>by show(if j=i then(1:F)else 0)=0;rw[if_neg (by omega)])
theorem SU {v:Nat->Nat->F}(hv:dD n n v)(u:Nat->F):Zu n n v u:=by
 obtain⟨c,⟨D,a0,J⟩,K⟩:=uW n (n+1) (by omega) (fun i=>if i<n then v i else u);have I:∀j,j<n->ad (aL n (fun i=>mu (c i) (v i j))) (mu (c n) (u j))=0:=by
  intro j B;have h:=K j B;have e:aL (n+1) (fun i=>mu (c i) ((if i<n then v i else u) j))=ad (aL n (fun i=>mu (c i) (v i j))) (mu (c n) (u j)):=by
   show ad (aL n _) (mu (c n) ((if n<n then v n else u) j))=_;rw[if_neg (aF n)]
   congr 1
   exact aH fun i O=>by rw[if_pos O]
  rw[e]at h;exact h
 by_cases H:c n=0
 ·exfalso;refine J ?_;have U:=hv c (fun j B=>by have:=I j B;rw[H,cT,cF]at this;exact this);by_cases e:D<n
  ·exact U D e
  ·obtain rfl:D=n:=by omega
   exact H
 ·refine⟨fun i=>mu (iv (c n)) (c i),fun j B=>?_⟩;have Z:=wR (I j B);have h2:aL n (fun i=>mu (mu (iv (c n)) (c i)) (v i j))=mu (iv (c n)) (aL n (fun i=>mu (c i) (v i j))):=by
   rw[<-bJ];exact aH fun i _=>aT _ _ _
  rw[h2,Z,<-aT,rX _ H,dU]
theorem LN {x m:Nat->Nat->F}(h:∀i j,i<n->j<n->mm n x m i j=one i j):dD n n m:=by
 intro c J;refine ac fun K=>?_
 have ⟨p,hp⟩:∃p,p<n/\c p≠0:=ac fun O=>K fun i B=>ac fun U=>O ⟨i,B,U⟩
 obtain⟨D,Z⟩:=hp;obtain⟨k,rfl⟩:∃k,n=k+1:=⟨n-1,by omega⟩;have a0:∀i,i<k+1->Zu (k+1) k (fun i=>m (skip p i)) (one i):=by
  intro i B;refine⟨fun l=>ad (x i (skip p l)) (mu (x i p) (mu (iv (c p)) (c (skip p l)))),fun j H=>?_⟩;have h1:=h i j B H;rw[<-h1];show aL (k+1) (fun l=>mu (x i l) (m l j))=_;rw[sY p _ k D];have I:=J j H;rw[sY p _ k D]at I;have h3:m p j=mu (iv (c p)) (aL k (fun l=>mu (c (skip p l)) (m (skip p l) j))):=by
   rw[<-wR I,<-aT,rX _ Z,dU]
  have h4:aL k (fun l=>mu (ad (x i (skip p l)) (mu (x i p) (mu (iv (c p)) (c (skip p l))))) (m (skip p l) j))=ad (aL k (fun l=>mu (x i (skip p l)) (m (skip p l) j))) (mu (x i p) (mu (iv (c p)) (aL k (fun l=>mu (c (skip p l)) (m (skip p l) j))))):=by
   rw[<-bJ,<-bJ,<-oT];exact aH fun l _=>by rw[vR,aT,aT]
  rw[h4,<-h3,uV]
 have:=wE (SR (k+1)) a0;omega
theorem cK {x m:Nat->Nat->F}(h:∀i j,i<n->j<n->mm n x m i j=one i j):∀i j,i<n->j<n->mm n m x i j=one i j:=by
 have D:=LN h;intro i j H I;have key:=D (fun k=>ad (mm n m x i k) (one i k)) (fun l B=>by
  have J:aL n (fun k=>mu (ad (mm n m x i k) (one i k)) (m k l))=ad (mm n (mm n m x) m i l) (mm n one m i l):=by
   show _=ad (aL n _) (aL n _);rw[<-oT];exact aH fun k _=>vR _ _ _
  have K:mm n (mm n m x) m i l=m i l:=by
   rw[cN];show aL n (fun k=>mu (m i k) (mm n x m k l))=_;rw[aH (g:=fun k=>mu (m i k) (one k l)) fun k O=>by rw[h k l O B]];exact fK n m i l B
  rw[J,K,fJ n m i l H,uG]) j I
 exact wR key
theorem dR {m:Nat->Nat->F}(h:dD n n m):∃x:Nat->Nat->F,∀i j,i<n->j<n->mm n x m i j=one i j:=by
 obtain⟨x,B⟩:=vJ (r:=n) (u:=one) fun i _=>SU h (one i)
 exact⟨x,fun i j D H=>(B i D j H).symm⟩
end Lin
def Qi (n:Nat)(f:Nat->Nat):List Nat:=(List.range n).map f
theorem Jf (n:Nat)(f:Nat->Nat):(Qi n f).length=n:=by simp[Qi]
theorem Yq (n:Nat)(f:Nat->Nat)(j:Nat)(h:j<n):Gf.nth (Qi n f) j=f j:=by
 rw[Gf.aK _ _ (by rw[Jf];exact h)];simp[Qi]
theorem XL (n:Nat)(f:Nat->Nat)(h:∀j,f j<256):Gf.Bytes (Qi n f):=fun i=>by
 by_cases B:i<n
 ·rw[Yq n f i B];exact h i
 ·unfold Gf.nth;rw[af,List.getElem?_eq_none (by rw[Jf];omega)];decide
theorem YL (n:Nat)(f g:Nat->Nat)(h:∀j,j<n->f j=g j):Qi n f=Qi n g:=by
 unfold Qi;exact List.map_congr_left fun j B=>h j (List.mem_range.1 B)
theorem Jp6 (n:Nat)(f:Nat->Nat)(j v:Nat):(Qi n f).set j v=Qi n (fun i=>if i=j then v else f i):=by
 apply List.ext_getElem
 ·simp[Qi]
 ·intro i D H;rw[List.getElem_set];simp only[Qi,List.getElem_map,List.getElem_range];by_cases e:j=i
  ·rw[if_pos e,if_pos e.symm]
  ·rw[if_neg e,if_neg (fun B=>e B.symm)]
def Qh (M:List (List Nat))(i:Nat):List Nat:=M.getD i []
def Qm (x:Nat):Lin.F:=⟨x%256,bU _ (by decide)⟩
theorem YY (h:x<256):(Qm x).1=x:=aS h
theorem AP (h:x<256):Qm x=0↔x=0:=by
 constructor
 ·intro e;have:=congrArg Fin.val e;rw[YY h]at this;exact this
 ·rintro rfl;rfl
theorem qW (B:x<256)(D:y<256):Qm (x^^^y)=Lin.ad (Qm x) (Qm y):=by
 apply ai;rw[YY (Gf.iK B D)];show _=(Qm x).1^^^(Qm y).1;rw[YY B,YY D]
theorem oU (B:x<256)(D:y<256):Qm (Gf.mul x y)=Lin.mu (Qm x) (Qm y):=by
 apply ai;rw[YY (Gf.aV B y)];show _=Gf.mul (Qm x).1 (Qm y).1;rw[YY B,YY D]
def vec (M:List (List Nat)):Nat->Nat->Lin.F:=fun i j=>Qm (Gf.nth (Qh M i) j)
section
open Lin (F aL ad mu)
theorem E1 (x:Nat)(B:x<256)(l:List Nat)(h:Gf.Bytes l):Qm (Gf.horner x l)=aL l.length (fun j=>mu (Qm (Gf.nth l j)) (Qm (Gf.bZ x j))):=by
 rw[<-Gf.jL l x B h];have key:∀k,Qm (Gf.gQ l x k)=aL k (fun j=>mu (Qm (Gf.nth l j)) (Qm (Gf.bZ x j))):=by
  intro k
  induction k with
  |zero=>rfl
  |succ k ih =>
   show Qm (Gf.gQ l x k^^^Gf.mul (Gf.nth l k) (Gf.bZ x k))=ad _ _;rw[qW (Gf.iA l x h k) (Gf.aV (h k) _),ih,oU (h k) (Gf.dV x k)]
 exact key _
theorem JrP (f:Nat->F)(m:Nat):∀k,m<=k->(∀i,m<=i->i<k->f i=0)->aL k f=aL m f
 |0,h,_=>by
  obtain rfl:m=0:=by omega
  rfl
 |k+1,h,hz=>by
  by_cases e:m=k+1
  ·rw[e]
  ·show ad (aL k f) (f k)=_;rw[hz k (by omega) (by omega),Lin.cF];exact JrP f m k (by omega) fun i B D=>hz i B (by omega)
theorem AW (X:List Nat)(B:Gf.Bytes X)(O:X.Nodup)(c:Nat->F)(h:∀p:List Nat,Gf.Bytes p->p.length<=X.length->aL X.length (fun r=>mu (c r) (Qm (Gf.horner (Gf.nth X r) p)))=0):∀s,s<X.length->c s=0:=by
 intro s D;have H:=h (Gf.bK X s X.length) (Gf.bM X B s _) (by
  have:=Gf.cC X s X.length;rw[if_pos D]at this;omega)
 rw[Lin.b9 s _ X.length D]at H
 ·rw[Gf.bH X B]at H;refine ac fun I=>Lin.lS I ?_ H
  intro e;exact Gf.dG X B O s D _ nR ((AP (Gf.bX _ _ _ _)).1 e)
 ·intro i J K;rw[Gf.bH X B,Gf.cJ X s i K _ J];show mu _ (Qm 0)=0;exact Lin.bN _
theorem R3 (X:List Nat)(B:Gf.Bytes X)(J:X.Nodup):Lin.dD X.length X.length (fun r j=>Qm (Gf.bZ (Gf.nth X r) j)):=by
 intro c D;refine AW X B J c fun p H K=>?_
 have I:aL X.length (fun r=>mu (c r) (Qm (Gf.horner (Gf.nth X r) p)))=aL X.length (fun r=>aL p.length (fun j=>mu (Qm (Gf.nth p j)) (mu (c r) (Qm (Gf.bZ (Gf.nth X r) j))))):=Lin.aH fun r _=>by
  rw[E1 _ (B r) p H,<-Lin.bJ];exact Lin.aH fun j _=>by rw[<-Lin.aT,Lin.cR (c r),Lin.aT]
 rw[I,Lin.bW];refine Lin.bS fun j O=>?_
 rw[Lin.bJ,D j (by omega),Lin.bN]
theorem BW (xs B:List Nat)(D:Gf.Bytes B)(x:Nat):∀k,Qm (Gf.fG xs B x k)=aL k (fun j=>mu (Qm (Gf.nth B j)) (Qm (Gf.aQ xs j x)))
 |0=>rfl
 |k+1=>by
  show Qm (Gf.fG xs B x k^^^Gf.mul (Gf.nth B k) (Gf.aQ xs k x))=ad _ _;rw[qW (Gf.gY xs B x D k) (Gf.aV (D k) _),BW xs B D x k,oU (D k) (Gf.bL _ _ _)]
theorem IZ (xs p:List Nat)(I:Gf.Bytes xs)(J:xs.Nodup)(H:Gf.Bytes p)(K:p.length<=xs.length)(x:Nat)(O:x<256):Qm (Gf.horner x p)=aL xs.length (fun j=>mu (Qm (Gf.horner (Gf.nth xs j) p)) (Qm (Gf.aQ xs j x))):=by
 have D:Gf.Bytes (Qi xs.length fun j=>Gf.horner (Gf.nth xs j) p):=XL _ _ fun j=>Gf.bF _ p H
 rw[<-Gf.through p xs (Qi xs.length fun j=>Gf.horner (Gf.nth xs j) p) H I D J K (fun j B=>Yq _ _ j B) x O,BW _ _ D];exact Lin.aH fun j B=>by rw[Yq _ _ j B]
theorem PZ (xs X:List Nat)(K:Gf.Bytes xs)(O:xs.Nodup)(B:Gf.Bytes X)(U:X.Nodup)(hl:X.length=xs.length):Lin.dD xs.length X.length (fun r j=>Qm (Gf.aQ xs j (Gf.nth X r))):=by
 intro c D;refine AW X B U c fun p H Z=>?_
 have I:aL X.length (fun r=>mu (c r) (Qm (Gf.horner (Gf.nth X r) p)))=aL X.length (fun r=>aL xs.length (fun j=>mu (Qm (Gf.horner (Gf.nth xs j) p)) (mu (c r) (Qm (Gf.aQ xs j (Gf.nth X r)))))):=Lin.aH fun r _=>by
  rw[IZ xs p K O H (by omega) _ (B r),<-Lin.bJ];exact Lin.aH fun j _=>by rw[<-Lin.aT,Lin.cR (c r),Lin.aT]
 rw[I,Lin.bW];refine Lin.bS fun j J=>?_
 rw[Lin.bJ,D j J,Lin.bN]
def nH (m:Nat):List Nat:=Qi (m+1) fun j=>if j=m then 1 else 0
theorem DT (m:Nat):Gf.Bytes (nH m):=XL _ _ fun j=>by split<;>decide
theorem B4 (m x:Nat)(H:x<256):Qm (Gf.horner x (nH m))=Qm (Gf.bZ x m):=by
 rw[E1 x H _ (DT m),show(nH m).length=m+1 from Jf _ _,Lin.b9 m _ (m+1) (by omega)]
 ·unfold nH;rw[Yq _ _ m (by omega),if_pos rfl];exact Lin.dU _
 ·intro i B D;unfold nH;rw[Yq _ _ i B,if_neg D];exact Lin.cT _
theorem Y6 (xs:List Nat)(B:Gf.Bytes xs)(H:xs.Nodup)(x m:Nat)(D:x<256)(I:m<xs.length):aL xs.length (fun j=>mu (Qm (Gf.aQ xs j x)) (Qm (Gf.bZ (Gf.nth xs j) m)))=Qm (Gf.bZ x m):=by
 rw[<-B4 m x D,IZ xs (nH m) B H (DT m) (by rw[show(nH m).length=m+1 from Jf _ _];omega) x D];exact Lin.aH fun j _=>by rw[B4 m _ (B j),Lin.cR]
end
namespace Lin
def aZ (g:Nat->Nat->F)(d p k:Nat):Nat->Nat->F:=fun i j=>if i=d then mu (iv (g p k)) (g p j)else if i=p then g d j else g i j
def bE (h:Nat->Nat->F)(d k:Nat):Nat->Nat->F:=fun i j=>if i=d then h i j else ad (h i j) (mu (h i k) (h d j))
structure eO (r n k:Nat) (f g:Nat->Nat->F) (d:Nat):Prop where
 le:d<=r
 to:∀i,i<r->Zu n r f (g i)
 from_:∀i,i<r->Zu n r g (f i)
 piv:∃p:Nat->Nat,(∀i,i<d->p i<k/\g i (p i)=1/\∀i',i'<r->i'≠i->g i' (p i)=0)/\∀i j,i<j->j<d->p i<p j
 zero:∀i,d<=i->i<r->∀j,j<k->g i j=0
theorem eO.start (r n:Nat)(f:Nat->Nat->F):eO r n 0 f f 0 where
 le:=av _
 to:=fun _ B=>aU f B
 from_:=fun _ B=>aU f B
 piv:=⟨fun _=>0,fun _ B=>absurd B (ae _),fun _ _ _ D=>absurd D (ae _)⟩
 zero:=fun _ _ _ _ D=>absurd D (ae _)
theorem eO.skip {f g:Nat->Nat->F}(h:eO r n k f g d)(J:∀i,d<=i->i<r->g i k=0):eO r n (k+1) f g d where
 le:=h.le
 to:=h.to
 from_:=h.from_
 piv:=by
  obtain⟨p,D,I⟩:=h.piv;exact⟨p,fun i B=>⟨Nat.lt_succ_of_lt (D i B).1,(D i B).2⟩,I⟩
 zero:=fun i H B j K=>by
  by_cases e:j=k
  ·rw[e];exact J i H B
  ·exact h.zero i H B j (by omega)
theorem FH {v:Nat->Nat->F}{x y:Nat->F}(B:Zu n r v x)(a:F)(h:∀j,y j=mu a (x j)):Zu n r v y:=aX (xF B a) (fun _ _ _ _=>rfl) (fun j _=>(h j).symm)
theorem Jtc {g:Nat->Nat->F}(H:d<r)(I:p<r):∀i,i<r->Zu n r g (aZ g d p k i):=fun i D=>by
 by_cases e:i=d
 ·exact FH (aU g I) (iv (g p k)) (fun j=>by unfold aZ;rw[if_pos e])
 ·by_cases B:i=p
  ·exact aX (aU g H) (fun _ _ _ _=>rfl) (fun j _=>by unfold aZ;rw[if_neg e,if_pos B])
  ·exact aX (aU g D) (fun _ _ _ _=>rfl) (fun j _=>by unfold aZ;rw[if_neg e,if_neg B])
theorem KY {g:Nat->Nat->F}(H:d<r)(I:p<r)(J:g p k≠0):∀i,i<r->Zu n r (aZ g d p k) (g i):=fun i D=>by
 by_cases e:i=p
 ·refine FH (aU (aZ g d p k) H) (g p k) (fun j=>?_);unfold aZ;rw[if_pos rfl,<-aT,yW _ J,dU,e]
 ·by_cases B:i=d
  ·refine aX (aU (aZ g d p k) I) (fun _ _ _ _=>rfl) (fun j _=>?_);unfold aZ;rw[if_neg (fun h=>e (by rw[B,h])),if_pos rfl,B]
  ·refine aX (aU (aZ g d p k) D) (fun _ _ _ _=>rfl) (fun j _=>?_);unfold aZ;rw[if_neg B,if_neg e]
theorem WX {h:Nat->Nat->F}(D:d<r):∀i,i<r->Zu n r h (bE h d k i):=fun i B=>by
 by_cases e:i=d
 ·exact aX (aU h B) (fun _ _ _ _=>rfl) (fun j _=>by unfold bE;rw[if_pos e])
 ·exact aX (G7 (aU h B) (xF (aU h D) (h i k))) (fun _ _ _ _=>rfl) (fun j _=>by unfold bE;rw[if_neg e])
theorem TH {h:Nat->Nat->F}(D:d<r):∀i,i<r->Zu n r (bE h d k) (h i):=fun i B=>by
 by_cases e:i=d
 ·exact aX (aU (bE h d k) B) (fun _ _ _ _=>rfl) (fun j _=>by unfold bE;rw[if_pos e])
 ·refine aX (G7 (aU (bE h d k) B) (xF (aU (bE h d k) D) (h i k))) (fun _ _ _ _=>rfl) (fun j _=>?_);show ad (bE h d k i j) (mu (h i k) (bE h d k d j))=h i j;unfold bE;rw[if_neg e,if_pos rfl,oO,uG,cF]
theorem eO.step {f g:Nat->Nat->F}(h:eO r n k f g d)(a7:d<=p)(O:p<r)(a3:g p k≠0):eO r n (k+1) f (bE (aZ g d p k) d k) (d+1):=by
 have H:d<r:=by omega
 have L0:∀j,aZ g d p k d j=mu (iv (g p k)) (g p j):=fun j=>by unfold aZ;rw[if_pos rfl]
 have a2:aZ g d p k d k=1:=by rw[L0,rX _ a3]
 have C0:∀j,bE (aZ g d p k) d k d j=aZ g d p k d j:=fun j=>by unfold bE;rw[if_pos rfl]
 have U:∀i j,i≠d->aZ g d p k d j=0->bE (aZ g d p k) d k i j=aZ g d p k i j:=fun i j B Z=>by unfold bE;rw[if_neg B,Z,bN,cF]
 have Ck:∀i,i≠d->bE (aZ g d p k) d k i k=0:=fun i B=>by unfold bE;rw[if_neg B,a2,oY,uG]
 obtain⟨q,I,q2⟩:=h.piv;have Lq:∀i,i<d->aZ g d p k d (q i)=0:=fun i B=>by rw[L0,(I i B).2.2 p O (by omega),bN]
 refine⟨by omega,fun i B=>nM (nM (WX H i B) (Jtc H O)) h.to,fun i B=>nM (nM (h.from_ i B) (KY H O a3)) (TH H),?_,?_⟩
 ·refine⟨fun i=>if i=d then k else q i,fun i B=>?_,fun i j a4 hj=>?_⟩
  ·by_cases e:i=d
   ·subst e;simp only[if_true];exact⟨by omega,by rw[C0,a2],fun J _ a0=>Ck J a0⟩
   ·simp only[e,if_false];have D:i<d:=by omega
    refine⟨by have:=(I i D).1;omega,?_,fun J a0 a5=>?_⟩
    ·rw[U i (q i) e (Lq i D)];unfold aZ;rw[if_neg e,if_neg (by omega)];exact(I i D).2.1
    ·by_cases e2:J=d
     ·rw[e2,C0];exact Lq i D
     ·rw[U J (q i) e2 (Lq i D)];unfold aZ;rw[if_neg e2];by_cases K:J=p
      ·rw[if_pos K];exact(I i D).2.2 d H (by omega)
      ·rw[if_neg K];exact(I i D).2.2 J a0 a5
  ·by_cases e:j=d
   ·simp only[e,if_true,show ¬i=d by omega,if_false];exact(I i (by omega)).1
   ·simp only[e,if_false,show ¬i=d by omega];exact q2 i j a4 (by omega)
 ·intro i B a6 j hj;by_cases e:j=k
  ·rw[e];exact Ck i (by omega)
  ·have Z:aZ g d p k d j=0:=by rw[L0,h.zero p a7 O j (by omega),bN]
   rw[U i j (by omega) Z];unfold aZ;rw[if_neg (by omega)];by_cases K:i=p
   ·rw[if_pos K];exact h.zero d nR H j (by omega)
   ·rw[if_neg K];exact h.zero i (by omega) a6 j (by omega)
theorem VQ {v:Nat->Nat->F}{u:Nat->F}(h:Zu n r v u)(H:c<=n):Zu c r v u:=by
 obtain⟨a,B⟩:=h;exact⟨a,fun j D=>B j (by omega)⟩
theorem A8 {f:Nat->F}{m:Nat}:∀{k:Nat},m<=k->(∀i,m<=i->i<k->f i=0)->aL k f=aL m f
 |0,h,_=>by rw[show m=0 by omega]
 |k+1,h,hz=>by
  by_cases e:m=k+1
  ·rw[e]
  ·show ad (aL k f) (f k)=_;rw[hz k (by omega) (by omega),cF];exact A8 (by omega) (fun i B D=>hz i B (by omega))
theorem eO.xN {f g:Nat->Nat->F}(h:eO r n c f g d)(Z:c<=n):cL c r f d:=by
 obtain⟨q,D,_⟩:=h.piv;refine⟨g,?_,fun i B=>VQ (h.to i (by have:=h.le;omega)) Z,fun i B=>?_⟩
 ·intro a H i B;have:=H (q i) (D i B).1;rw[b9 i _ d B (fun I a0 J=>by rw[(D i B).2.2 I (by have:=h.le;omega) J,bN]),(D i B).2.1,oY]at this;exact this
 ·obtain⟨a,H⟩:=h.from_ i B;refine⟨a,fun j K=>?_⟩;rw[H j (by omega)];exact A8 h.le (fun I O U=>by rw[h.zero I O U j K,bN])
theorem eO.diag {f g:Nat->Nat->F}(h:eO r n r f g r):∀i j,i<r->j<r->g i j=one i j:=by
 obtain⟨q,H,I⟩:=h.piv;have up:∀i,i<r->i<=q i:=fun i=>by
  induction i with
  |zero=>intro _;exact av _
  |succ i ih=>intro B;have J:=ih (by omega);have D:=I i (i+1) (by omega) B;omega
 have O:∀m,m<r->q (r-1-m)<=r-1-m:=fun m=>by
  induction m with
  |zero=>intro U;have:=(H (r-1) (by omega)).1;show q (r-1)<=r-1;omega
  |succ m ih=>intro U;have J:=ih (by omega);have D:=I (r-1-(m+1)) (r-1-m) (by omega) (by omega);omega
 have id:∀i,i<r->q i=i:=fun i B=>by
  have J:=up i B;have D:=O (r-1-i) (by omega);rw[show r-1-(r-1-i)=i by omega]at D;omega
 intro i j B K;have:=H j K;rw[id j K]at this;unfold one;by_cases e:i=j
 ·rw[if_pos e,e];exact this.2.1
 ·rw[if_neg e];exact this.2.2 i B e
theorem eO.vA {l:Nat}{f g:Nat->Nat->F}(h:eO r n c f g d)(a:Nat->Nat->F)(U:m+l<=n)(K:∀i,i<r->∀j,j<m->f i j=aL l (fun t=>mu (f i (m+t)) (a t j))):∀i,i<r->∀j,j<m->g i j=aL l (fun t=>mu (g i (m+t)) (a t j)):=by
 intro i D j H;obtain⟨b,B⟩:=h.to i D;rw[B j (by omega)];have I:aL l (fun t=>mu (g i (m+t)) (a t j))=aL l (fun t=>aL r (fun s=>mu (mu (b s) (f s (m+t))) (a t j))):=aH fun t O=>by
  rw[B (m+t) (by omega),<-Z4]
 rw[I,bW];refine aH fun s J=>?_
 rw[K s J j H,<-bJ];exact aH fun t _=>(aT _ _ _).symm
theorem eO.kM {m f g:Nat->Nat->F}(h:eO r (2*r) r f g r)(J:∀i j,i<r->j<r->f i j=m i j)(K:∀i j,i<r->j<r->f i (r+j)=one i j):∀i j,i<r->j<r->mm r (fun i j=>g i (r+j)) m i j=one i j:=by
 intro i j B D;have H:=h.vA (m:=r) (l:=r) m (by omega) (fun i B j D=>by
  rw[J i j B D];have:aL r (fun t=>mu (f i (r+t)) (m t j))=aL r (fun t=>mu (one i t) (m t j)):=aH fun t I=>by rw[K i t B I]
  rw[this];exact(fJ r m i j B).symm) i B j D
 rw[<-h.diag i j B D,H];rfl
end Lin
section
open Go.Extern.Stop Go.Stop Go.Extern
end
theorem Yl {w:World}{o:Nat}(h:w.cell? ⟨b,o,N⟩=aa v):b<w.heap.size:=by
 rcases Nat.lt_or_ge b w.heap.size with B|B
 ·exact B
 ·simp[ab,Array.getElem?_eq_none B]at h
def Jd (w:World)(ad:Nat->aR)(D:an)(c at_:Int):Prop :=
 (D=.nilIface/\c=0/\at_=-1)∨(∃i,i<12/\D=.iface 287 (.pointer (aa (ad i)))/\c=((i+1:Nat):Int)/\at_=-1) ∨
 ∃i B,i<12/\D=.iface 75 (.pointer (aa ⟨B,0,N⟩))/\c=((i+1:Nat):Int)/\w.cell? ⟨B,0,N⟩=aa (.int .i64 at_)/\w.cell? ⟨B,1,N⟩=aa (.iface 287 (.pointer (aa (ad i))))
theorem Jd.below {w w':World}{ad:Nat->aR}{c:Int}(h:Jd w ad I c at_)(J:Below w.heap.size w w'):Jd w' ad I c at_:=by
 rcases h with h|h|⟨i,B,K,O,U,D,H⟩
 ·exact ao h
 ·exact aA (ao h)
 ·exact aA (aA ⟨i,B,K,O,U,(J.cell (p:=⟨B,0,N⟩) (Yl D)).trans D,(J.cell (p:=⟨B,1,N⟩) (Yl H)).trans H⟩)
theorem Jd.nil (w:World)(ad:Nat->aR):Jd w ad .nilIface 0 (-1):=ao ⟨rfl,rfl,rfl⟩
theorem Jd.b8 {w:World}{ad:Nat->aR}(i:Nat)(B:i<12):Jd w ad (.iface 287 (.pointer (aa (ad i)))) ((i+1:Nat):Int) (-1):=aA (ao ⟨i,B,rfl,rfl,rfl⟩)
theorem Jd.some {w:World}{ad:Nat->aR}{c:Int}(h:Jd w ad D c at_)(J:0<c):∃t v,D=.iface t v:=by
 rcases h with⟨_,H,_⟩|⟨i,_,B,_⟩|⟨i,I,_,B,_⟩
 ·omega
 ·exact⟨_,_,B⟩
 ·exact⟨_,_,B⟩
structure i7 (w:World) (ad:Nat->aR):Prop where
 c1:w.cell? ⟨0,0,N⟩=aa (.iface 287 (.pointer (aa (ad 1))))
 c3:w.cell? ⟨5,0,N⟩=aa (.iface 287 (.pointer (aa (ad 3))))
 c5:w.cell? ⟨3,0,N⟩=aa (.iface 287 (.pointer (aa (ad 5))))
 c7:w.cell? ⟨7,0,N⟩=aa (.iface 287 (.pointer (aa (ad 7))))
theorem i7.below {w w':World}{ad:Nat->aR}(h:i7 w ad)(B:Below w.heap.size w w'):i7 w' ad where
 c1:=(B.cell (Yl h.c1)).trans h.c1
 c3:=(B.cell (Yl h.c3)).trans h.c3
 c5:=(B.cell (Yl h.c5)).trans h.c5
 c7:=(B.cell (Yl h.c7)).trans h.c7
end Go.Proofs.YtgapmoniajcliaaGreatDoor

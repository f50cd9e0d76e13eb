/- Texts laid together. -/
import Derived.Test.YtaaahibncffcmaaDoorRows
import Derived.ProofKit
import Derived.LaidLaws
import Derived.LaidHandle
import Derived.LaidMore
import Derived.Stop.LaidErr
import Derived.Test.YtaaahibncffcmaaDoorProg
import Derived.WalkKit
import Derived.LaidEql
import Derived.Stop.Asserts
import Derived.RowKitTokens
import Derived.Below
import Derived.OwnWalk
import Derived.Deep.OwnRows
import Derived.OpenShut
import Derived.ChangeOld
set_option maxRecDepth 100000
open List renaming getD_eq_getElem?_getD->aa,getElem?_eq_getElem->aj,getElem?_map->an,mem_append_right->ao,getElem?_eq_none->ap,mem_cons_of_mem->aq,mem_cons_self->av,length_eq_zero_iff->ay,length_cons->az,nodup_cons->aC,map_congr_left->aI,getElem?_range->aJ,range->aM,getElem?_take->aN,mem_range->bb
open Classical renaming byContradiction->ab
open Option renaming some->ac,none->ax
open Nat renaming not_lt_zero->ae,shiftRight_eq_div_pow->af,xor_zero->ah,xor_self->ai,xor_lt_two_pow->ak,zero_le->al,le_refl->am,shiftRight_xor_distrib->ar,mod_two_eq_zero_or_one->au,add_le_add_iff_right->aw,zero_xor->aA,xor_mod_two_pow->aG,mod_eq_of_lt->aS,lt_succ_self->aW,xor_assoc->bf,lt_irrefl->bg,pow_succ->bl,lt_or_ge->bm
open Fin renaming ext->ag
open Go renaming Value->aF,TypeId->aY
namespace Go.Proofs.YtaaahibncffcmaaDoor
open Go.Proofs.Tryd
open Go.RowKit
variable {W w w':World}{B b o g r d p a i n c j k s x y:Nat}{E:aY}{v:aF}{l:List Nat}
section
open Go.ChangeShapes Go.WideShapes Go.RowKit
def GZ (d:List UInt8):DataW Unit:=.iface "*errors.errorString" (.ptr (.agg [.lit (.string d)]))
theorem UX {P:Program} {R B D:aY} {ms:Array (String×aY)} {f:Field}
 (hi:P.underlying R=ac (.interface ms)) (a7:∀ u,P.typeName? 3 u=ac "*errors.errorString"->u=B)
 (hp:P.underlying B=ac (.pointer D)) (he:P.underlying D=ac (.struct #[f])) (a8:f.type=E) (a9:f.offset=0) (hs:P.underlying E=ac .string) (hc:P.cellsOf D=1) (b1:P.cellsOf E=1) :
 ∀ (L:List (String×List UInt8)) (o:List MemPlace),DataW.LaidVars P W (L.map fun x=>(x.1,GZ x.2)) o ->
  (∀ x ∈ L,∃ g,P.globalNamed x.1=ac g/\(P.globals[g]?).map (·.type)=ac R) ->
  (∀ b A,MemPlace.cell b A ∈ o->(∃ c t,W.heap[b]?=ac (.cells c t (0,0)))/\∀ u v,W.cell? ⟨b,A,ax⟩=ac (.iface u v)->Value.okWide P W .any 0 u v) ->
  ∃ ad:Nat->Addr,(∀ i x,L[i]?=ac x->MemPlace.cell (ad i).block (ad i).off ∈ o/\W.var? P x.1=ac #[.iface B (.pointer (ac (ad i)))]) /\
   (o.Nodup->∀ i j,i < L.length->j < L.length->i≠j->ad i≠ad j):=by
 intro L
 induction L with
 | nil =>
  intro o _ _ _
  exact ⟨fun _=>⟨0,0,ax⟩,fun i x h=>by simp at h,fun _ i j h=>by simp at h⟩
 | cons x r ih =>
  intro o S G H
  obtain ⟨g0,t0,T,f0,p0,I,J,U,K,V,Y,rfl⟩:=S
  obtain ⟨g,Z,ht⟩:=G x (av ..)
  obtain rfl:=Option.some.inj (Z.symm.trans J)
  obtain rfl:=Option.some.inj (ht.symm.trans U)
  obtain ⟨ad,M,h2⟩:=ih I Y (fun y s=>G y (aq _ s)) (fun b A z=>H b A (ao _ z))
  obtain ⟨l0⟩:=T
  have a1:∀ u v,l0=[.iface u v]->Value.okWide P W .any 0 u v:=fun u v e=>by
   subst e
   exact (H g 0 (by simp [MemPlace.row])).2 u v (by simpa using World.var?_cell J K 0)
  obtain ⟨N,s0,rfl,b2,b3,b4,rfl⟩:=errorString_of_trod hi a7 hp he a8 a9 hs hc b1 V a1
  refine ⟨fun i=>match i with | 0=>N | k+1=>ad k,?_,?_⟩
  ·intro i y s
   match i with
   | 0 =>
    obtain rfl:x=y:=by simpa using s
    exact ⟨by simp [MemPlace.row],K⟩
   | k+1 =>
    have:=M k y (by simpa using s)
    exact ⟨ao _ this.1,this.2⟩
  ·intro O i j a2 a3 a4
   have a5:I.Nodup:=List.Nodup.sublist (List.sublist_append_right _ _) O
   have Q:∀ k,k < r.length->N≠ad k:=by
    intro k d e
    obtain ⟨y,s⟩:∃ y,r[k]?=ac y:=⟨r[k],aj d⟩
    have z:=(M k y s).1
    rw [<- e] at z
    have a6:=(List.nodup_append.1 O).2.2
    exact a6 _ (ao _ (by simp [MemPlace.row])) _ z rfl
   match i,j,a2,a3,a4 with
   | 0,0,_,_,h=>exact absurd rfl h
   | 0,k+1,_,d,_=>exact Q k (by simpa using d)
   | k+1,0,d,_,_=>exact (Q k (by simpa using d)).symm
   | k+1,m+1,d,z,hne=>exact h2 a5 k m (by simpa using d) (by simpa using z) (fun e=>hne (by rw [e]))
theorem ID : "*" ++ "errors.errorString" = "*errors.errorString":=by kernel_rfl
theorem n3 (u:aY) (h:prog.typeName? 3 u=ac "*errors.errorString"):u=136 :=
 typeName_ptr_named (nm := "errors.errorString") (by rw [ID];kernel_rfl) (by kernel_rfl) (by decide) u (by rw [ID];exact h)
end
section
open Go.Extern.Stop Go.Stop Go.Extern
end
section
open Go.Extern.Stop Go.Stop Go.Extern
theorem Qf  (h:w.cell? ⟨b,o,ax⟩=ac v):b < w.heap.size:=by
 rcases bm b w.heap.size with d | d
 ·exact d
 ·simp [World.cell?,Array.getElem?_eq_none d] at h
end
section
open Go.ChangeShapes Go.WideShapes Go.RowKit
theorem own:ownKnob prog.godebug=none:=by kernel_rfl
end
theorem W9 (r:Nat) (f:Nat->aF) (j:Nat) (v:aF):((aM r).map f).set j v=(aM r).map (fun i=>if i=j then v else f i):=by
 apply List.ext_getElem?
 intro i
 rw [List.getElem?_set,an,an]
 by_cases d:i < r
 ·rw [aJ d]
  by_cases e:j=i
  ·subst e;simp [d]
  ·have k:¬ i=j:=fun h=>e h.symm
   simp [e,k]
 ·rw [ap (by simpa using d)]
  by_cases e:j=i
  ·subst e;simp [d]
  ·simp [e]
def Ja (w:World) (E:aY) (B g r:Nat) (d:Nat->aF):Prop:=w.ownsRow B E 1 (.slice (ac ⟨g,0,ax⟩) r r) r ((aM r).map d)
theorem Ja.made (w:World) (E:aY) (z:aF) (B r:Nat) (d:B<=w.heap.size) (f:r<=1000000):Ja (w.alloc (.cells (madeCells #[z] r) E)) E B w.heap.size r (fun _=>z):=by
 have h:=World.ownsRow_lit (base:=B) (e:=E) (size:=1) w (madeCells #[z] r) r d (by unfold maxLen;omega) (by have:=congrArg List.length (toList_madeCells_one z r);simpa using this)
 rw [toList_madeCells_one] at h
 unfold Ja
 rw [List.map_const',List.length_range]
 exact h
theorem Ja.cell  {d:Nat->aF} (h:Ja w E B g r d) (j:Nat) (f:j < r):w.cell? ⟨g,j,ax⟩=ac (d j):=by
 rw [World.ownsRow.cellAt (w:=w) h j (by omega),an,aJ f]
 rfl
theorem Ja.free  {d:Nat->aF} (h:Ja w E B g r d) (j:Nat):w.frozen? ⟨g,j,ax⟩=false:=World.ownsRow.frozenAt (w:=w) h j
theorem Ja.set  {d:Nat->aF} (h:Ja w E B g r d) (j:Nat) (v:aF):Ja (w.setCell ⟨g,j,ax⟩ v) E B g r (fun i=>if i=j then v else d i):=by
 have:=(World.ownsRow.stored (w:=w) h j v).1
 rw [W9] at this
 exact this
theorem Ja.kept  {d:Nat->aF} {row:Option Nat} (h:Ja w E B g r d) (f:w.grownBy w' row) (j:row≠ac g):Ja w' E B g r d :=
 World.ownsRow.kept h f (Or.inr (fun e=>j e.symm))
theorem Ja.congr  {d f:Nat->aF} (h:Ja w E B g r d) (k:∀ i,i < r->d i=f i):Ja w E B g r f:=by
 unfold Ja
 rw [aI (g:=d) (fun i j=>(k i (bb.1 j)).symm)]
 exact h
def Zx (w:World) (p:Option Addr) (l:List Int):Prop:=l=[]∨∃ b o,p=ac ⟨b,o,ax⟩/\b < w.heap.size/\∀ i,i < l.length->w.cell? ⟨b,o+i,ax⟩=ac (.int .i64 (l.getD i 0))
theorem Zx.below {p:Option Addr} {l:List Int} (h:Zx w p l) (f:Below w.heap.size w w'):Zx w' p l:=by
 rcases h with h | ⟨b,o,j,d,k⟩
 ·exact Or.inl h
 ·exact Or.inr ⟨b,o,j,Nat.lt_of_lt_of_le d f.size,fun i r=>(f.cell (p:=⟨b,o+i,ax⟩) d).trans (k i r)⟩
theorem Xh:∀ (l X:List Nat),l.Nodup->(∀ x ∈ l,x ∈ X)->l.length<=X.length
 | [],_,_,_=>al _
 | a :: t,X,hn,hs=>by
  have d:a ∈ X:=hs a (av ..)
  have f:=aC.1 hn
  have:=Xh t (X.erase a) f.2 (fun x h=>(List.mem_erase_of_ne (fun e=>f.1 (by rw [<- e];exact h))).2 (hs x (aq _ h)))
  rw [List.length_erase_of_mem d] at this
  have j:=List.length_pos_of_mem d
  simp only [az]
  omega
theorem j1:(prog.info? 4).map (fun i=>(i.zero,i.size,i.bytes))=ac (ac (.bool false),1,1):=by kernel_rfl
section
open Go.ChangeShapes Go.WideShapes Go.ChangeAt Go.RowKit
theorem hY  (h:w.cell? ⟨b,o,ax⟩=ac v):b < w.heap.size:=by
 rcases bm b w.heap.size with d | d
 ·exact d
 ·simp [World.cell?,Array.getElem?_eq_none d] at h
theorem k6:laidOutB prog=true:=by kernel_rfl
theorem o0 {H:Type} {enc:aY×aF->H} {base:Nat} {d:DataW H} {J:List MemPlace} (K:Value.okWide prog W .any base 35 v)
 (h:DataW.Trod enc prog W 0 (fun _=>true) true 35 v d J):∃ p l y,v=.slice p l.length y/\Zx W p l/\l.length<=maxLen/\∀ i,-9223372036854775808<=l.getD i 0/\l.getD i 0 < 9223372036854775808:=by
 obtain ⟨L,f,s,rfl⟩:=okWide_slice underlying35 K
 obtain ⟨fuel,z⟩:=h
 rcases open_ints underlying35 underlying3 (by kernel_rfl) z with ⟨o,_⟩ | ⟨x,l,c,j,o,_,M,N,A,_,B,D⟩
 ·simp [Value.cells] at o
  obtain ⟨rfl,rfl,rfl⟩:=o
  exact ⟨ax,[],0,rfl,Or.inl rfl,al _,fun i=>by simp⟩
 ·simp [Value.cells] at o
  obtain ⟨rfl,rfl,rfl⟩:=o
  have O:j.length=s:=by simpa using A
  have r:(j.take f).length=f:=by simp;omega
  have t:∀ i,i < f->(j.take f).getD i 0=j.getD i 0:=by
   intro i k
   rw [aa,aa,List.getElem?_take_of_lt k]
  refine ⟨ac x,j.take f,s,by rw [r],?_,by rw [r];omega,fun i=>?_⟩
  ·by_cases E:f=0
   ·exact Or.inl (ay.1 (by rw [r];exact E))
   ·obtain ⟨b,G,rfl,u⟩:=ints_at B (by omega)
    refine Or.inr ⟨b,G,rfl,hY (u 0 (by omega)),fun i k=>?_⟩
    rw [r] at k
    rw [u i (by omega),t i k]
  ·by_cases k:i < f
   ·rw [t i k]
    have I:j.getD i 0 ∈ j:=by rw [aa,aj (by omega)];exact List.getElem_mem _
    have:=bounds_i64 (D _ I)
    omega
   ·rw [aa,ap (by rw [r];omega)]
    decide
end
section
open Go.ChangeShapes Go.WideShapes Go.ChangeAt Go.RowKit
def L3:List (String×List UInt8):=Rows.matrixAnyRow.laid.map fun x=>(x.1,match x.2 with | .iface _ (.ptr (.agg [.lit (.string t)]))=>t | _=>[])
theorem eS (W:World):laidMetH prog Rows.matrixAnyRow.laid W=laidMet prog (L3.map fun x=>(x.1,GZ x.2)) W:=by kernel_rfl
theorem e9:(L3.all fun x=>match prog.globalNamed x.1 with | some g=>(prog.globals[g]?).map (·.type)==ac 25 | none=>false)=true:=by kernel_rfl
theorem g3:L3.map (fun x=>prog.globalNamed x.1)=[ac 0,ac 1,ac 2]:=by kernel_rfl
theorem X5 (h:laidMetH prog Rows.matrixAnyRow.laid W):∃ z,W.cell? ⟨2,0,ax⟩=ac (.iface 136 (.pointer (ac z))):=by
 rw [eS] at h
 obtain ⟨j,k,_,o⟩:=h
 have r:∀ x ∈ L3,∃ g,prog.globalNamed x.1=ac g/\(prog.globals[g]?).map (·.type)=ac 25:=by
  intro x d
  have:=List.all_eq_true.1 e9 x d
  split at this
  ·rename_i g s
   exact ⟨g,s,by simpa using this⟩
  ·cases this
 have t:prog.cellsOf 156=1:=by kernel_rfl
 have u:prog.cellsOf 9=1:=by kernel_rfl
 obtain ⟨ad,y,_⟩:=UX underlying25 n3 underlying136 underlying156 rfl rfl underlying9 t u L3 j k r o
 have f:∀ i g,(L3.map (fun x=>prog.globalNamed x.1))[i]?=ac (ac g)->W.cell? ⟨g,0,ax⟩=ac (.iface 136 (.pointer (ac (ad i)))):=by
  intro i g d
  rw [an] at d
  obtain ⟨x,A,B⟩:=Option.map_eq_some_iff.1 d
  simpa using World.var?_cell B (y i x A).2 0
 rw [g3] at f
 exact ⟨ad 2,f 2 _ rfl⟩
end
namespace Gf
def tx (a:Nat):Nat:=if a < 128 then a*2 else (a*2 - 256) ^^^ 29
def dP (a:Nat):Nat->Nat
 | 0=>a
 | k+1=>tx (dP a k)
def bT (b i:Nat):Nat:=b / 2 ^ i % 2
def part (a b:Nat):Nat->Nat
 | 0=>0
 | k+1=>if bT b k=1 then part a b k ^^^ dP a k else part a b k
def mul (a b:Nat):Nat:=part a b 8
theorem U2 (h:a < 256):tx a < 256:=by
 unfold tx;split
 ·omega
 ·exact ak (n:=8) (by omega) (by decide)
theorem aE (h:a < 256) (k:Nat):dP a k < 256:=by
 induction k with
 | zero=>exact h
 | succ k ih=>exact U2 ih
theorem eF (h:a < 256) (b k:Nat):part a b k < 256:=by
 induction k with
 | zero=>exact (by decide:(0:Nat) < 256)
 | succ k ih => unfold part; split
                ·exact ak (n:=8) ih (aE h k)
                ·exact ih
theorem aV (h:a < 256) (b:Nat):mul a b < 256:=eF h b 8
theorem yK:∀ a:Nat,a < 256->tx a=(a <<< 1) % 2 ^ 8 ^^^ (29 * (a >>> 7)):=by decide +kernel
theorem B1 (a:Nat) (h:a < 256):a >>> 7=0∨a >>> 7=1:=by
 rw [af];omega
theorem iK (d:a < 256) (f:b < 256):a ^^^ b < 256:=ak (n:=8) d f
theorem GU (a b:Nat) (d:a < 256) (f:b < 256):tx (a ^^^ b)=tx a ^^^ tx b:=by
 rw [yK _ (iK d f),yK _ d,yK _ f,Nat.shiftLeft_xor_distrib,ar,aG]
 have k:29*(a >>> 7 ^^^ b >>> 7)=29*(a >>> 7) ^^^ 29*(b >>> 7):=by
  rcases B1 a d with h | h <;> rcases B1 b f with j | j <;> rw [h,j] <;> rfl
 rw [k]
 ac_rfl
theorem T7 (a b:Nat) (d:a < 256) (f:b < 256) (k:Nat):dP (a ^^^ b) k=dP a k ^^^ dP b k:=by
 induction k with
 | zero=>rfl
 | succ k ih => show tx (dP (a ^^^ b) k) = tx (dP a k) ^^^ tx (dP b k)
                rw [ih,GU _ _ (aE d k) (aE f k)]
theorem C8:tx 0=0:=by decide
theorem NO (k:Nat):dP 0 k=0:=by
 induction k with
 | zero=>rfl
 | succ k ih=>show tx (dP 0 k)=0;rw [ih,C8]
theorem e6 (b c k:Nat):bT (b ^^^ c) k=(bT b k+bT c k) % 2:=by
 unfold bT
 rw [<- af,<- af,<- af,ar]
 have:=aG (a:=b >>> k) (b:=c >>> k) (n:=1)
 simp only [Nat.pow_one] at this
 rw [this]
 rcases au (b >>> k) with h | h <;> rcases Nat.mod_two_eq_zero_or_one (c >>> k) with d | d <;> rw [h,d] <;> rfl
theorem wL (b k:Nat):bT b k=0∨bT b k=1:=au _
theorem T4 (a d b:Nat) (f:a < 256) (h:d < 256) (k:Nat):part (a ^^^ d) b k=part a b k ^^^ part d b k:=by
 induction k with
 | zero=>exact (ai 0).symm
 | succ k ih =>
  simp only [part]
  rw [ih,T7 a d f h]
  split
  ·ac_rfl
  ·rfl
theorem MK (a b c:Nat) (k:Nat):part a (b ^^^ c) k=part a b k ^^^ part a c k:=by
 induction k with
 | zero=>exact (ai 0).symm
 | succ k ih =>
  simp only [part]
  rw [ih,e6]
  have f:dP a k ^^^ dP a k=0:=ai _
  rcases wL b k with h | h <;> rcases wL c k with d | d <;> rw [h,d] <;> simp
  ·ac_rfl
  ·ac_rfl
  ·have:part a b k ^^^ dP a k ^^^ (part a c k ^^^ dP a k)=part a b k ^^^ part a c k ^^^ (dP a k ^^^ dP a k):=by ac_rfl
   rw [this,f,ah]
theorem mul_left (a d b:Nat) (f:a < 256) (h:d < 256):mul (a ^^^ d) b=mul a b ^^^ mul d b:=T4 a d b f h 8
theorem mul_right (a b c:Nat):mul a (b ^^^ c)=mul a b ^^^ mul a c:=MK a b c 8
theorem mul_zero (a:Nat):mul a 0=0:=by simp [mul,part,bT]
theorem h9 (b k:Nat):part 0 b k=0:=by
 induction k with
 | zero=>rfl
 | succ k ih=>unfold part;rw [ih,NO];simp
theorem zero_mul (b:Nat):mul 0 b=0:=h9 b 8
theorem mul_one (a:Nat):mul a 1=a:=by simp [mul,part,bT,dP]
theorem Qy:∀ b:Nat,b < 256->mul 1 b=b:=by decide +kernel
theorem nP (a k:Nat):dP (tx a) k=tx (dP a k):=by
 induction k with
 | zero=>rfl
 | succ k ih=>show tx (dP (tx a) k)=_;rw [ih];rfl
theorem UU (a b:Nat) (d:a < 256) (k:Nat):part (tx a) b k=tx (part a b k):=by
 induction k with
 | zero=>exact C8.symm
 | succ k ih =>
  simp only [part]
  rw [ih,nP]
  split
  ·rw [GU _ _ (eF d b k) (aE d k)]
  ·rfl
theorem MZ (a b:Nat) (d:a < 256):mul (tx a) b=tx (mul a b):=UU a b d 8
theorem G6 (a b:Nat) (d:a < 256) (k:Nat):mul (dP a k) b=dP (mul a b) k:=by
 induction k with
 | zero=>rfl
 | succ k ih=>show mul (tx (dP a k)) b=tx (dP (mul a b) k);rw [MZ _ _ (aE d k),ih]
theorem MH:∀ b:Nat,b < 256->part 1 b 8=b:=Qy
theorem O9 (a b:Nat) (d:a < 256) (k:Nat):mul (part 1 b k) a=part a b k:=by
 induction k with
 | zero=>exact zero_mul a
 | succ k ih =>
  simp only [part]
  split
  ·rw [mul_left _ _ _ (eF (by decide) b k) (aE (by decide) k),ih,G6 1 a (by decide) k,Qy a d]
  ·exact ih
theorem mul_comm (a b:Nat) (d:a < 256) (f:b < 256):mul a b=mul b a:=by
 have h:=O9 a b d 8
 rw [MH b f] at h
 exact h.symm
theorem TP (a b c:Nat) (f:a < 256) (d:b < 256) (k:Nat):part (mul a b) c k=mul a (part b c k):=by
 induction k with
 | zero=>exact (mul_zero a).symm
 | succ k ih =>
  simp only [part]
  split
  ·rw [ih,mul_right,mul_comm a (dP b k) f (aE d k),G6 b a d k,mul_comm b a d f]
  ·exact ih
theorem mul_assoc (a b c:Nat) (d:a < 256) (f:b < 256):mul (mul a b) c=mul a (mul b c):=TP a b c d f 8
def sq (a:Nat):Nat->Nat
 | 0=>a
 | k+1=>mul (sq a k) (sq a k)
def pw (a n:Nat):Nat->Nat
 | 0=>1
 | k+1=>if bT n k=1 then mul (pw a n k) (sq a k) else pw a n k
def fM (a n:Nat):Nat:=pw a n 8
def inv (a:Nat):Nat:=fM a 254
theorem qI (h:a < 256) (k:Nat):sq a k < 256:=by
 induction k with
 | zero=>exact h
 | succ k ih=>exact aV ih _
theorem lL (n k:Nat):pw a n k < 256:=by
 induction k with
 | zero=>exact (by decide:(1:Nat) < 256)
 | succ k ih => unfold pw; split
                ·exact aV ih _
                ·exact ih
theorem PM (a n:Nat):fM a n < 256:=lL n 8
theorem cQ (a:Nat):inv a < 256:=PM a 254
theorem eG:∀ a:Nat,a < 256->a≠0->mul a (inv a)=1:=by decide +kernel
def bZ (a:Nat):Nat->Nat
 | 0=>1
 | n+1=>mul (bZ a n) a
end Gf
namespace Gf
def wP (i n:Nat):Nat:=if bT n i=1 then n ^^^ (285*2 ^ (i - 8)) else n
def rr (n:Nat):Nat->Nat
 | 0=>n
 | j+1=>wP (14 - j) (rr n j)
theorem RG (j:i<=14) (d:n < 2 ^ 15):wP i n < 2 ^ 15:=by
 unfold wP
 split
 ·refine ak d ?_
  have f:2 ^ (i - 8)<=2 ^ 6:=Nat.pow_le_pow_right (by decide) (by omega)
  have h:285*2 ^ (i - 8)<=285*2 ^ 6:=Nat.mul_le_mul (am _) f
  exact Nat.lt_of_le_of_lt h (by decide)
 ·exact d
theorem e7 {n:Nat} (d:n < 2 ^ 15):∀ j,rr n j < 2 ^ 15
 | 0=>d
 | j+1=>RG (by omega) (e7 d j)
theorem dV (a:Nat):∀ n,bZ a n < 256
 | 0=>by show 1 < 256;decide
 | n+1=>aV (dV a n) a
theorem zJ (a:Nat) (d:a < 256) (m:Nat):∀ n,bZ a (m+n)=mul (bZ a m) (bZ a n)
 | 0=>(mul_one _).symm
 | n+1=>by
  show mul (bZ a (m+n)) a=mul (bZ a m) (mul (bZ a n) a)
  rw [zJ a d m n,mul_assoc _ _ _ (dV a m) (dV a n)]
theorem GM (a:Nat) (d:a < 256):∀ k,sq a k=bZ a (2 ^ k)
 | 0=>by show a=mul 1 a;exact (Qy a d).symm
 | k+1=>by
  show mul (sq a k) (sq a k)=bZ a (2 ^ (k+1))
  rw [GM a d k,<- zJ a d,bl]
  congr 1;omega
theorem hU (n k:Nat):n % 2 ^ (k+1)=n % 2 ^ k+bT n k*2 ^ k:=by
 unfold bT
 rw [bl,Nat.mod_mul]
 rw [Nat.mul_comm (2 ^ k)]
theorem BC (a n:Nat) (d:a < 256):∀ k,pw a n k=bZ a (n % 2 ^ k)
 | 0=>by show 1=bZ a (n % 1);rw [Nat.mod_one];rfl
 | k+1=>by
  simp only [pw]
  rw [BC a n d k,GM a d k,hU]
  rcases wL n k with h | h <;> rw [h] <;> simp
  rw [zJ a d]
theorem iG (a n:Nat) (d:a < 256) (f:n < 256):fM a n=bZ a n:=by
 have:=BC a n d 8
 rw [show n % 2 ^ 8=n from aS f] at this
 exact this
end Gf
namespace Gf
def horner (x:Nat):List Nat->Nat
 | []=>0
 | c :: r=>mul (horner x r) x ^^^ c
def nth (l:List Nat) (i:Nat):Nat:=l.getD i 0
def XY (d:List Nat) (i x:Nat):Nat->Nat
 | 0=>1
 | k+1=>if k=i then XY d i x k else mul (XY d i x k) (x ^^^ nth d k)
def aQ (d:List Nat) (i x:Nat):Nat:=mul (XY d i x d.length) (inv (XY d i (nth d i) d.length))
def fG (d f:List Nat) (x:Nat):Nat->Nat
 | 0=>0
 | k+1=>fG d f x k ^^^ mul (nth f k) (aQ d k x)
def Bytes (l:List Nat):Prop:=∀ i,nth l i < 256
theorem Bytes.tail {r:List Nat} (h:Bytes (c :: r)):Bytes r:=fun i=>by simpa [nth] using h (i+1)
theorem bF (x:Nat):∀ l:List Nat,Bytes l->horner x l < 256
 | [],_=>by show 0 < 256;decide
 | c :: r,h=>iK (aV (bF x r h.tail) x) (by simpa [nth] using h 0)
theorem bX (d:List Nat) (i x:Nat):∀ k,XY d i x k < 256
 | 0=>by show 1 < 256;decide
 | k+1=>by
  unfold XY
  split
  ·exact bX d i x k
  ·exact aV (bX d i x k) _
theorem bL (d:List Nat) (i x:Nat):aQ d i x < 256:=aV (bX _ _ _ _) _
theorem gY (f d:List Nat) (x:Nat) (h:Bytes d):∀ k,fG f d x k < 256
 | 0=>by show 0 < 256;decide
 | k+1=>iK (gY f d x h k) (aV (h k) _)
theorem aK (l:List Nat) (k:Nat) (h:k < l.length):nth l k=l[k]:=by
 unfold nth;rw [aa,aj h];rfl
theorem PU (l:List Nat) (k:Nat) (h:k < l.length):l.take (k+1)=l.take k ++ [nth l k]:=by
 rw [List.take_succ_eq_append_getElem h,aK l k h]
end Gf
namespace Gf
theorem p8:Bytes []:=fun i=>by simp [nth]
theorem oG {r:List Nat} (d:c < 256) (f:Bytes r):Bytes (c :: r):=fun i=>by
 cases i with
 | zero=>simpa [nth] using d
 | succ i=>simpa [nth] using f i
theorem BX {r:List Nat} (h:Bytes (c :: r)):c < 256:=by simpa [nth] using h 0
theorem S9 (a b c d:Nat):(a ^^^ b) ^^^ (c ^^^ d)=(a ^^^ c) ^^^ (b ^^^ d):=by ac_rfl
theorem dQ (h:a ^^^ b=0):a=b:=by
 have:(a ^^^ b) ^^^ b=b:=by rw [h,aA]
 rw [bf,ai,ah] at this
 exact this
theorem B0 (h:a≠b):a ^^^ b≠0:=fun e=>h (dQ e)
def j9:List Nat->List Nat->List Nat
 | [],b=>b
 | x :: a,[]=>x :: a
 | x :: a,y :: b=>(x ^^^ y) :: j9 a b
theorem sN:∀ a b:List Nat,Bytes a->Bytes b->Bytes (j9 a b)
 | [],_,_,hb=>hb
 | _ :: _,[],ha,_=>ha
 | _ :: a,_ :: b,ha,hb=>oG (iK (BX ha) (BX hb)) (sN a b ha.tail hb.tail)
theorem tO:∀ (a b:List Nat) (n:Nat),a.length<=n->b.length<=n->(j9 a b).length<=n
 | [],_,_,_,hb=>hb
 | _ :: _,[],_,ha,_=>ha
 | _ :: a,_ :: b,n,ha,hb=>by
  cases n with
  | zero=>simp at ha
  | succ n=>simp only [az,aw] at ha hb;simp only [j9,az,aw];exact tO a b n ha hb
theorem pO (x:Nat):∀ a b:List Nat,Bytes a->Bytes b->horner x (j9 a b)=horner x a ^^^ horner x b
 | [],b,_,_=>by show horner x b=0 ^^^ horner x b;rw [aA]
 | c :: a,[],_,_=>by show horner x (c :: a)=horner x (c :: a) ^^^ 0;rw [ah]
 | c :: a,d :: b,ha,hb=>by
  show mul (horner x (j9 a b)) x ^^^ (c ^^^ d)=(mul (horner x a) x ^^^ c) ^^^ (mul (horner x b) x ^^^ d)
  rw [pO x a b ha.tail hb.tail,mul_left _ _ _ (bF x a ha.tail) (bF x b hb.tail)]
  exact S9 _ _ _ _
def lR (c:Nat):List Nat->List Nat
 | []=>[]
 | d :: r=>mul c d :: lR c r
theorem pC {c:Nat} (f:c < 256):∀ l:List Nat,Bytes (lR c l)
 | []=>p8
 | d :: r=>oG (aV f d) (pC f r)
theorem yS (c:Nat):∀ l:List Nat,(lR c l).length=l.length
 | []=>rfl
 | _ :: r=>by simp [lR,yS c r]
theorem xM (c x:Nat) (f:c < 256):∀ l:List Nat,Bytes l->horner x (lR c l)=mul c (horner x l)
 | [],_=>(mul_zero c).symm
 | d :: r,h=>by
  show mul (horner x (lR c r)) x ^^^ mul c d=mul c (mul (horner x r) x ^^^ d)
  rw [xM c x f r h.tail,mul_right,mul_assoc c _ x f (bF x r h.tail)]
def pZ (l:List Nat) (c:Nat):List Nat:=j9 (0 :: l) (lR c l)
theorem VY  (h:Bytes l) (d:c < 256):Bytes (pZ l c):=sN _ _ (oG (by decide) h) (pC d l)
theorem E8  (h:l.length<=n):(pZ l c).length<=n+1:=tO _ _ _ (by simpa using h) (by rw [yS];omega)
theorem RW (l:List Nat) (c x:Nat) (h:Bytes l) (d:c < 256):horner x (pZ l c)=mul (horner x l) (x ^^^ c):=by
 unfold pZ
 rw [pO x _ _ (oG (by decide) h) (pC d l),xM c x d l h,mul_right,mul_comm c _ d (bF x l h)]
 show (mul (horner x l) x ^^^ 0) ^^^ _=_
 rw [ah]
def kR (r:Nat):List Nat->List Nat
 | []=>[]
 | _ :: t=>match t with
  | []=>[]
  | _ :: _=>horner r t :: kR r t
theorem zS (r:Nat):∀ l:List Nat,Bytes l->Bytes (kR r l)
 | [],_=>p8
 | [_],_=>p8
 | _ :: d :: t,h=>oG (bF r _ h.tail) (zS r (d :: t) h.tail)
theorem IN (r:Nat):∀ (l:List Nat) (n:Nat),l.length<=n+1->(kR r l).length<=n
 | [],_,_=>al _
 | [_],_,_=>al _
 | _ :: d :: t,n,h=>by
  cases n with
  | zero=>simp at h
  | succ n =>
   have:=IN r (d :: t) n (by simpa using h)
   simpa [kR] using this
theorem EI (r x:Nat) (u:r < 256) (j:x < 256):∀ l:List Nat,Bytes l->horner x l=mul (horner x (kR r l)) (x ^^^ r) ^^^ horner r l
 | [],_=>by show 0=mul 0 _ ^^^ 0;rw [zero_mul];rfl
 | [c],_=>by show mul 0 x ^^^ c=mul 0 _ ^^^ (mul 0 r ^^^ c);rw [zero_mul,zero_mul,zero_mul];simp
 | c :: d :: t,h=>by
  have ih:=EI r x u j (d :: t) h.tail
  have f:=bF x _ (zS r (d :: t) h.tail)
  have k:=bF r _ h.tail
  show mul (horner x (d :: t)) x ^^^ c=mul (mul (horner x (kR r (d :: t))) x ^^^ horner r (d :: t)) (x ^^^ r) ^^^ (mul (horner r (d :: t)) r ^^^ c)
  rw [ih]
  generalize horner x (kR r (d :: t))=q at f
  generalize horner r (d :: t)=s at k
  have o:=iK j u
  rw [mul_left _ _ _ (aV f _) k,mul_left _ _ _ (aV f _) k,mul_assoc q _ x f o,mul_assoc q x _ f j,mul_comm (x ^^^ r) x o j,mul_right s x r]
  have e:mul s r ^^^ mul s r=0:=ai _
  have:mul q (mul x (x ^^^ r)) ^^^ (mul s x ^^^ mul s r) ^^^ (mul s r ^^^ c)=mul q (mul x (x ^^^ r)) ^^^ mul s x ^^^ c ^^^ (mul s r ^^^ mul s r):=by ac_rfl
  rw [this,e,ah]
theorem D3 (j:a < 256) (f:b < 256) (k:b≠0) (h:mul a b=0):a=0:=by
 have d:mul (mul a b) (inv b)=a:=by rw [mul_assoc a b _ j f,eG b f k,mul_one]
 rw [h,zero_mul] at d
 exact d.symm
theorem BF:∀ (d l:List Nat),Bytes l->l.length<=d.length->d.Nodup->(∀ r ∈ d,r < 256/\horner r l=0)->∀ x,x < 256->horner x l=0
 | [],l,_,hlen,_,_,x,_=>by
  have:l=[]:=ay.1 (by simpa using hlen)
  rw [this];rfl
 | r :: d,l,hl,hlen,hn,hz,x,hx=>by
  have h:=hz r (av ..)
  have k:=zS r l hl
  have o:∀ y,y < 256->horner y l=mul (horner y (kR r l)) (y ^^^ r):=fun y u=>by
   rw [EI r y h.1 u l hl,h.2,ah]
  have z:=BF d (kR r l) k (IN r l _ (by simpa using hlen)) (aC.1 hn).2 (fun s j=>by
   have f:=hz s (aq _ j)
   refine ⟨f.1,?_⟩
   have t:=o s f.1
   rw [f.2] at t
   refine D3 (bF s _ k) (iK f.1 h.1) (B0 ?_) t.symm
   intro e
   rw [e] at j
   exact (aC.1 hn).1 j) x hx
  rw [o x hx,z,zero_mul]
def bK (d:List Nat) (i:Nat):Nat->List Nat
 | 0=>[1]
 | k+1=>if k=i then bK d i k else pZ (bK d i k) (nth d k)
theorem bM (d:List Nat) (f:Bytes d) (i:Nat):∀ k,Bytes (bK d i k)
 | 0=>oG (by decide) p8
 | k+1=>by
  unfold bK
  split
  ·exact bM d f i k
  ·exact VY (bM d f i k) (f k)
theorem cC (d:List Nat) (i:Nat):∀ k,(bK d i k).length<=k+1 - (if i < k then 1 else 0)
 | 0=>by simp [bK]
 | k+1=>by
  have ih:=cC d i k
  unfold bK
  split
  ·rename_i e
   subst e
   rw [if_neg (bg _)] at ih
   rw [if_pos (aW _)]
   omega
  ·rename_i e
   by_cases h:i < k
   ·rw [if_pos h] at ih
    rw [if_pos (by omega)]
    have:=E8 (c:=nth d k) ih
    omega
   ·rw [if_neg h] at ih
    rw [if_neg (by omega)]
    have:=E8 (c:=nth d k) ih
    omega
theorem bH (d:List Nat) (f:Bytes d) (i x:Nat):∀ k,horner x (bK d i k)=XY d i x k
 | 0=>by show mul 0 x ^^^ 1=1;rw [zero_mul];rfl
 | k+1=>by
  unfold bK XY
  split
  ·exact bH d f i x k
  ·rw [RW _ _ _ (bM d f i k) (f k),bH d f i x k]
def wV (d f:List Nat) (k:Nat):Nat:=mul (nth f k) (inv (XY d k (nth d k) d.length))
def rK (d f:List Nat):Nat->List Nat
 | 0=>[]
 | k+1=>j9 (rK d f k) (lR (wV d f k) (bK d k d.length))
theorem xZ (f d:List Nat) (h:Bytes d) (k:Nat):wV f d k < 256:=aV (h k) _
theorem wB (f d:List Nat) (h:Bytes d):∀ k,Bytes (rK f d k)
 | 0=>p8
 | k+1=>sN _ _ (wB f d h k) (pC (xZ f d h k) _)
theorem AG (d f:List Nat):∀ k,k<=d.length->(rK d f k).length<=d.length
 | 0,_=>al _
 | k+1,h=>by
  refine tO _ _ _ (AG d f k (by omega)) ?_
  rw [yS]
  have:=cC d k d.length
  rw [if_pos (by omega)] at this
  omega
theorem x9 (d f:List Nat) (j:Bytes d) (h:Bytes f) (x:Nat):∀ k,horner x (rK d f k)=fG d f x k
 | 0=>rfl
 | k+1=>by
  show horner x (j9 _ _)=fG d f x k ^^^ mul (nth f k) (aQ d k x)
  rw [pO x _ _ (wB d f h k) (pC (xZ d f h k) _),x9 d f j h x k,xM _ x (xZ d f h k) _ (bM d j k _),bH d j k x]
  unfold wV aQ
  rw [mul_assoc _ _ _ (h k) (cQ _),mul_comm (inv _) _ (cQ _) (bX _ _ _ _)]
theorem cJ (d:List Nat) (i j:Nat) (f:j≠i):∀ k,j < k->XY d i (nth d j) k=0
 | 0,h=>absurd h (ae _)
 | k+1,h=>by
  unfold XY
  split
  ·rename_i e
   exact cJ d i j f k (by omega)
  ·by_cases e:j=k
   ·subst e
    rw [ai,mul_zero]
   ·rw [cJ d i j f k (by omega),zero_mul]
theorem M0 (d:List Nat) (s:d.Nodup) (k:i < d.length) (o:j < d.length) (h:nth d i=nth d j):i=j:=by
 rw [aK d i k,aK d j o] at h
 have r:=List.pairwise_iff_getElem.1 s
 rcases Nat.lt_trichotomy i j with f | f | f
 ·exact absurd h (r i j k o f)
 ·exact f
 ·exact absurd h.symm (r j i o k f)
theorem VI (d:a < 256) (f:b < 256) (j:a≠0) (k:b≠0):mul a b≠0:=fun h=>j (D3 d f k h)
theorem dG (d:List Nat) (f:Bytes d) (j:d.Nodup) (i:Nat) (o:i < d.length):∀ k,k<=d.length->XY d i (nth d i) k≠0
 | 0,_=>by show (1:Nat)≠0;decide
 | k+1,h=>by
  unfold XY
  split
  ·exact dG d f j i o k (by omega)
  ·rename_i e
   exact VI (bX _ _ _ _) (iK (f i) (f k)) (dG d f j i o k (by omega)) (B0 fun r=>e (M0 d j (by omega) o r.symm))
theorem gW (d:List Nat) (f:Bytes d) (h:d.Nodup) (i:Nat) (j:i < d.length):aQ d i (nth d i)=1 :=
 eG _ (bX _ _ _ _) (dG d f h i j _ (am _))
theorem W4 (d:List Nat) (i j:Nat) (f:j < d.length) (h:j≠i):aQ d i (nth d j)=0:=by
 unfold aQ
 rw [cJ d i j h _ f,zero_mul]
theorem CA (d f:List Nat) (s:Bytes d) (t:d.Nodup) (j:Nat) (o:j < d.length):∀ k,k<=d.length->fG d f (nth d j) k=if j < k then nth f j else 0
 | 0,_=>by rw [if_neg (ae _)];rfl
 | k+1,h=>by
  unfold fG
  rw [CA d f s t j o k (by omega)]
  by_cases e:j=k
  ·subst e
   rw [if_neg (bg _),if_pos (aW _),gW d s t j o,mul_one,aA]
  ·rw [W4 d k j o e,mul_zero,ah]
   by_cases r:j < k
   ·rw [if_pos r,if_pos (by omega)]
   ·rw [if_neg r,if_neg (by omega)]
theorem through (p d f:List Nat) (s:Bytes p) (k:Bytes d) (t:Bytes f) (y:d.Nodup) (A:p.length<=d.length) (B:∀ j,j < d.length->nth f j=horner (nth d j) p) (x:Nat) (D:x < 256) :
 fG d f x d.length=horner x p:=by
 have o:=wB d f t d.length
 have u:=BF d (j9 (rK d f d.length) p) (sN _ _ o s) (tO _ _ _ (AG d f _ (am _)) A) y (fun r z=>by
  obtain ⟨j,h,rfl⟩:=List.getElem_of_mem z
  rw [<- aK d j h]
  refine ⟨k j,?_⟩
  rw [pO _ _ _ o s,x9 d f k t,CA d f k y j h _ (am _),if_pos h,B j h,ai]) x D
 rw [pO x _ _ o s,x9 d f k t] at u
 exact dQ u
end Gf
namespace Gf
def gQ (l:List Nat) (x:Nat):Nat->Nat
 | 0=>0
 | k+1=>gQ l x k ^^^ mul (nth l k) (bZ x k)
theorem iA (l:List Nat) (x:Nat) (h:Bytes l):∀ k,gQ l x k < 256
 | 0=>by show 0 < 256;decide
 | k+1=>iK (iA l x h k) (aV (h k) _)
theorem CD (x c:Nat) (j:x < 256) (f:c < 256):∀ l:List Nat,Bytes l->horner x (l ++ [c])=horner x l ^^^ mul c (bZ x l.length)
 | [],_=>by show mul 0 x ^^^ c=0 ^^^ mul c 1;rw [zero_mul,mul_one]
 | d :: r,h=>by
  show mul (horner x (r ++ [c])) x ^^^ d=(mul (horner x r) x ^^^ d) ^^^ mul c (mul (bZ x r.length) x)
  rw [CD x c j f r h.tail,mul_left _ _ _ (bF x r h.tail) (aV f _),mul_assoc c _ x f (dV x _)]
  ac_rfl
theorem hZ (h:Bytes l) (k:Nat):Bytes (l.take k):=fun i=>by
 by_cases d:i < k
 ·have:=h i
  simpa [nth,aa,aN,d] using this
 ·simp [nth,aa,aN,d]
theorem KQ (l:List Nat) (x:Nat) (d:x < 256) (h:Bytes l):∀ k,k<=l.length->gQ l x k=horner x (l.take k)
 | 0,_=>by simp [gQ,horner]
 | k+1,hk=>by
  rw [PU l k (by omega),CD x _ d (h k) _ (hZ h k),<- KQ l x d h k (by omega)]
  show _ ^^^ _=_
  rw [List.length_take,Nat.min_eq_left (by omega)]
theorem jL (l:List Nat) (x:Nat) (d:x < 256) (h:Bytes l):gQ l x l.length=horner x l:=by
 rw [KQ l x d h _ (am _),List.take_length]
end Gf
namespace Lin
abbrev F:=Fin 256
def ad (a b:F):F:=⟨a.1 ^^^ b.1,Gf.iK a.2 b.2⟩
def mu (a b:F):F:=⟨Gf.mul a.1 b.1,Gf.aV a.2 _⟩
def iv (a:F):F:=⟨Gf.inv a.1,Gf.cQ _⟩
theorem uV (a b:F):ad a b=ad b a:=ag (Nat.xor_comm _ _)
theorem oO (a b c:F):ad (ad a b) c=ad a (ad b c):=ag (bf _ _ _)
theorem cF (a:F):ad a 0=a:=ag (ah _)
theorem AN (a:F):ad 0 a=a:=ag (aA _)
theorem uG (a:F):ad a a=0:=ag (ai _)
theorem wR {a b:F} (h:ad a b=0):a=b:=ag (Gf.dQ (congrArg Fin.val h))
theorem TK (a b c:F):ad a (ad b c)=ad b (ad a c):=by rw [<- oO,uV a b,oO]
theorem oN (a b c d:F):ad (ad a b) (ad c d)=ad (ad a c) (ad b d):=by rw [oO,TK b c d,<- oO]
theorem cR (a b:F):mu a b=mu b a:=ag (Gf.mul_comm _ _ a.2 b.2)
theorem aT (a b c:F):mu (mu a b) c=mu a (mu b c):=ag (Gf.mul_assoc _ _ _ a.2 b.2)
theorem C6 (a b c:F):mu a (ad b c)=ad (mu a b) (mu a c):=ag (Gf.mul_right _ _ _)
theorem vR (a b c:F):mu (ad a b) c=ad (mu a c) (mu b c):=ag (Gf.mul_left _ _ _ a.2 b.2)
theorem bN (a:F):mu a 0=0:=ag (Gf.mul_zero a.1)
theorem cT (a:F):mu 0 a=0:=ag (Gf.zero_mul a.1)
theorem oY (a:F):mu a 1=a:=ag (Gf.mul_one a.1)
theorem dU (a:F):mu 1 a=a:=by rw [cR,oY]
theorem yW (a:F) (h:a≠0):mu a (iv a)=1:=ag (Gf.eG a.1 a.2 (fun e=>h (ag e)))
theorem rX (a:F) (h:a≠0):mu (iv a) a=1:=by rw [cR,yW a h]
theorem G5:(1:F)≠0:=by decide
theorem lS {a b:F} (d:a≠0) (f:b≠0):mu a b≠0:=fun h=>d (by
 have:mu (mu a b) (iv b)=a:=by rw [aT,yW b f,oY]
 rw [h,cT] at this
 exact this.symm)
def aL:Nat->(Nat->F)->F
 | 0,_=>0
 | k+1,f=>ad (aL k f) (f k)
theorem aH {f g:Nat->F}:∀ {k:Nat},(∀ i,i < k->f i=g i)->aL k f=aL k g
 | 0,_=>rfl
 | k+1,h=>by show ad _ _=ad _ _;rw [aH (fun i d=>h i (by omega)),h k (by omega)]
theorem bS {f:Nat->F}:∀ {k:Nat},(∀ i,i < k->f i=0)->aL k f=0
 | 0,_=>rfl
 | k+1,h=>by show ad _ _=0;rw [bS (fun i d=>h i (by omega)),h k (by omega),cF]
theorem oT (f g:Nat->F):∀ k,aL k (fun i=>ad (f i) (g i))=ad (aL k f) (aL k g)
 | 0=>(cF 0).symm
 | k+1=>by show ad _ _=ad (ad _ _) (ad _ _);rw [oT f g k,oN]
theorem bJ (c:F) (f:Nat->F):∀ k,aL k (fun i=>mu c (f i))=mu c (aL k f)
 | 0=>(bN c).symm
 | k+1=>by show ad _ _=mu c (ad _ _);rw [bJ c f k,C6]
theorem Z4 (c:F) (f:Nat->F) (k:Nat):aL k (fun i=>mu (f i) c)=mu (aL k f) c:=by
 rw [cR,<- bJ]
 exact aH fun i _=>cR _ _
theorem bW (f:Nat->Nat->F) (l:Nat):∀ k,aL k (fun i=>aL l (fun j=>f i j))=aL l (fun j=>aL k (fun i=>f i j))
 | 0=>(bS fun _ _=>rfl).symm
 | k+1=>by
  show ad (aL k _) (aL l _)=_
  rw [bW f l k,<- oT]
  rfl
theorem b9 (p:Nat) (f:Nat->F):∀ k,p < k->(∀ i,i < k->i≠p->f i=0)->aL k f=f p
 | 0,h,_=>absurd h (ae _)
 | k+1,h,hz=>by
  show ad (aL k f) (f k)=f p
  by_cases e:p=k
  ·subst e
   rw [bS (fun i d=>hz i (by omega) (by omega)),AN]
  ·rw [b9 p f k (by omega) (fun i d=>hz i (by omega)),hz k (by omega) (fun j=>e j.symm),cF]
def skip (p i:Nat):Nat:=if i < p then i else i+1
theorem O7 (p i:Nat):skip p i≠p:=by unfold skip;split <;> omega
theorem MQ (h:i < k):skip p i < k+1:=by unfold skip;split <;> omega
theorem sY (p:Nat) (f:Nat->F):∀ k,p < k+1->aL (k+1) f=ad (f p) (aL k (fun i=>f (skip p i)))
 | 0,h=>by
  obtain rfl:p=0:=by omega
  show ad 0 (f 0)=ad (f 0) 0
  rw [AN,cF]
 | k+1,h=>by
  by_cases e:p=k+1
  ·subst e
   show ad (aL (k+1) f) (f (k+1))=_
   rw [uV]
   congr 1
   exact aH fun i d=>by unfold skip;rw [if_pos d]
  ·show ad (aL (k+1) f) (f (k+1))=ad (f p) (ad (aL k fun i=>f (skip p i)) (f (skip p k)))
   rw [sY p f k (by omega),show skip p k=k+1 from by unfold skip;rw [if_neg (by omega)],oO]
theorem uW:∀ (s r:Nat),s < r->∀ a:Nat->Nat->F,∃ c:Nat->F,(∃ i,i < r/\c i≠0)/\∀ j,j < s->aL r (fun i=>mu (c i) (a i j))=0
 | 0,r,h,_=>⟨fun _=>1,⟨0,h,G5⟩,fun j f=>absurd f (ae _)⟩
 | s+1,r,h,a=>by
  by_cases y:∃ p,p < r/\a p s≠0
  ·obtain ⟨p,B,D⟩:=y
   obtain ⟨k,rfl⟩:∃ k,r=k+1:=⟨r - 1,by omega⟩
   obtain ⟨c,⟨z,E,o⟩,t⟩:=uW s k (by omega) (fun i j=>ad (a (skip p i) j) (mu (mu (a (skip p i) s) (iv (a p s))) (a p j)))
   let cp:F:=aL k (fun i=>mu (c i) (mu (a (skip p i) s) (iv (a p s))))
   let d:Nat->F:=fun i=>if i=p then cp else c (if i < p then i else i - 1)
   have G:d p=cp:=if_pos rfl
   have A:∀ i,d (skip p i)=c i:=by
    intro i
    show (if skip p i=p then cp else _)=_
    rw [if_neg (O7 p i)]
    congr 1
    by_cases u:i < p
    ·rw [show skip p i=i from if_pos u,if_pos u]
    ·rw [show skip p i=i+1 from if_neg u,if_neg (by omega)];omega
   have H:∀ j,aL (k+1) (fun i=>mu (d i) (a i j))=aL k (fun i=>mu (c i) (ad (a (skip p i) j) (mu (mu (a (skip p i) s) (iv (a p s))) (a p j)))):=by
    intro j
    rw [sY p _ k B,G]
    have I:aL k (fun i=>mu (d (skip p i)) (a (skip p i) j))=aL k (fun i=>mu (c i) (a (skip p i) j)):=aH fun i _=>by rw [A i]
    have J:mu cp (a p j)=aL k (fun i=>mu (c i) (mu (mu (a (skip p i) s) (iv (a p s))) (a p j))):=by
     show mu (aL k _) (a p j)=_
     rw [<- Z4]
     exact aH fun i _=>by rw [aT,aT]
    rw [I,J,uV,<- oT]
    exact aH fun i _=>by rw [C6]
   refine ⟨d,⟨skip p z,MQ E,by rw [A z];exact o⟩,fun j f=>?_⟩
   rw [H j]
   by_cases e:j=s
   ·subst e
    refine bS fun i _=>?_
    rw [aT (a (skip p i) j),rX _ D,oY,uG,bN]
   ·exact t j (by omega)
  ·obtain ⟨c,o,t⟩:=uW s r (by omega) a
   refine ⟨c,o,fun j f=>?_⟩
   by_cases e:j=s
   ·subst e
    refine bS fun i K=>?_
    have:a i j=0:=ab fun L=>y ⟨i,K,L⟩
    rw [this,bN]
   ·exact t j (by omega)
def Zu (n k:Nat) (v:Nat->Nat->F) (u:Nat->F):Prop:=∃ c:Nat->F,∀ j,j < n->u j=aL k (fun i=>mu (c i) (v i j))
def dD (n k:Nat) (v:Nat->Nat->F):Prop:=∀ c:Nat->F,(∀ j,j < n->aL k (fun i=>mu (c i) (v i j))=0)->∀ i,i < k->c i=0
theorem vJ {u v:Nat->Nat->F} (h:∀ i,i < r->Zu n s v (u i)):∃ a:Nat->Nat->F,∀ i,i < r->∀ j,j < n->u i j=aL s (fun l=>mu (a i l) (v l j)):=by
 have f:∀ i,∃ c:Nat->F,i < r->∀ j,j < n->u i j=aL s (fun l=>mu (c l) (v l j)):=fun i=>by
  by_cases d:i < r
  ·obtain ⟨c,k⟩:=h i d
   exact ⟨c,fun _=>k⟩
  ·exact ⟨fun _=>0,fun h=>absurd h d⟩
 exact ⟨fun i=>Classical.choose (f i),fun i d=>Classical.choose_spec (f i) d⟩
theorem wE {u v:Nat->Nat->F} (D:dD n r u) (h:∀ i,i < r->Zu n s v (u i)):r<=s:=by
 refine ab fun E=>?_
 obtain ⟨a,d⟩:=vJ h
 obtain ⟨c,⟨f,k,o⟩,t⟩:=uW s r (by omega) a
 refine o (D c (fun j y=>?_) f k)
 have z:aL r (fun i=>mu (c i) (u i j))=aL r (fun i=>aL s (fun l=>mu (mu (c i) (a i l)) (v l j))):=aH fun i A=>by
  rw [d i A j y,<- bJ]
  exact aH fun l _=>(aT _ _ _).symm
 rw [z,bW]
 refine bS fun l B=>?_
 rw [Z4,t l B,cT]
theorem UF {v:Nat->Nat->F} (at_:Nat->Nat) (y:∀ i,i < k->at_ i < n) (z:∀ i,i < k->v i (at_ i)≠0) (A:∀ i j,i < j->j < k->v j (at_ i)=0):dD n k v:=by
 intro c s
 have t:∀ m,∀ i,i < m->i < k->c i=0:=by
  intro m
  induction m with
  | zero=>intro i d;exact absurd d (ae _)
  | succ m ih =>
   intro i d f
   by_cases e:i < m
   ·exact ih i e f
   ·obtain rfl:i=m:=by omega
    have o:=s (at_ i) (y i f)
    rw [b9 i _ k f] at o
    ·refine ab fun h=>lS h (z i f) o
    ·intro j r B
     by_cases u:j < i
     ·rw [ih j u r,cT]
     ·rw [A i j (by omega) r,bN]
 exact fun i d=>t k i d d
def cL (n k:Nat) (v:Nat->Nat->F) (r:Nat):Prop:=∃ b:Nat->Nat->F,dD n r b/\(∀ i,i < r->Zu n k v (b i))/\∀ i,i < k->Zu n r b (v i)
theorem nM {l:Nat} {v w:Nat->Nat->F} {u:Nat->F} (s:Zu n k v u) (t:∀ i,i < k->Zu n l w (v i)):Zu n l w u:=by
 obtain ⟨c,f⟩:=s
 obtain ⟨a,h⟩:=vJ t
 refine ⟨fun m=>aL k (fun i=>mu (c i) (a i m)),fun j d=>?_⟩
 rw [f j d]
 have o:aL k (fun i=>mu (c i) (v i j))=aL k (fun i=>aL l (fun m=>mu (mu (c i) (a i m)) (w m j))):=aH fun i r=>by
  rw [h i r j d,<- bJ]
  exact aH fun m _=>(aT _ _ _).symm
 rw [o,bW]
 exact aH fun m _=>Z4 _ _ _
theorem aU (v:Nat->Nat->F) (f:i < k):Zu n k v (v i) :=
 ⟨fun j=>if j=i then 1 else 0,fun j _=>by
  rw [b9 i _ k f]
  ·show v i j=mu (if i=i then 1 else 0) (v i j);rw [if_pos rfl,dU]
  ·intro l _ d;show mu (if l=i then 1 else 0) (v l j)=0;rw [if_neg d,cT]⟩
theorem G7 {v:Nat->Nat->F} {x y:Nat->F} (r:Zu n k v x) (s:Zu n k v y):Zu n k v (fun j=>ad (x j) (y j)):=by
 obtain ⟨c,h⟩:=r
 obtain ⟨d,o⟩:=s
 refine ⟨fun i=>ad (c i) (d i),fun j f=>?_⟩
 show ad (x j) (y j)=_
 rw [h j f,o j f,<- oT]
 exact aH fun i _=>(vR _ _ _).symm
theorem xF {v:Nat->Nat->F} {x:Nat->F} (h:Zu n k v x) (a:F):Zu n k v (fun j=>mu a (x j)):=by
 obtain ⟨c,d⟩:=h
 refine ⟨fun i=>mu a (c i),fun j f=>?_⟩
 show mu a (x j)=_
 rw [d j f,<- bJ]
 exact aH fun i _=>(aT _ _ _).symm
theorem aX {v w:Nat->Nat->F} {x y:Nat->F} (h:Zu n k v x) (r:∀ i,i < k->∀ j,j < n->v i j=w i j) (s:∀ j,j < n->x j=y j):Zu n k w y:=by
 obtain ⟨c,f⟩:=h
 exact ⟨c,fun j d=>by rw [<- s j d,f j d];exact aH fun i o=>by rw [r i o j d]⟩
theorem dY {v:Nat->Nat->F} (z:cL n k v r) (A:cL n k v s):r=s:=by
 obtain ⟨b,h,j,o⟩:=z
 obtain ⟨d,t,u,y⟩:=A
 exact Nat.le_antisymm (wE h fun i f=>nM (j i f) y) (wE t fun i f=>nM (u i f) o)
def mm (n:Nat) (a b:Nat->Nat->F):Nat->Nat->F:=fun i j=>aL n (fun k=>mu (a i k) (b k j))
def one:Nat->Nat->F:=fun i j=>if i=j then 1 else 0
theorem cN (n l:Nat) (a b c:Nat->Nat->F) (i j:Nat):mm l (mm n a b) c i j=mm n a (mm l b c) i j:=by
 show aL l (fun m=>mu (aL n (fun k=>mu (a i k) (b k m))) (c m j))=aL n (fun k=>mu (a i k) (aL l (fun m=>mu (b k m) (c m j))))
 have d:aL l (fun m=>mu (aL n (fun k=>mu (a i k) (b k m))) (c m j))=aL l (fun m=>aL n (fun k=>mu (mu (a i k) (b k m)) (c m j))):=aH fun m _=>(Z4 _ _ _).symm
 have f:aL n (fun k=>mu (a i k) (aL l (fun m=>mu (b k m) (c m j))))=aL n (fun k=>aL l (fun m=>mu (mu (a i k) (b k m)) (c m j))):=aH fun k _=>by
  rw [<- bJ]
  exact aH fun m _=>(aT _ _ _).symm
 rw [d,f,bW]
theorem fK (n:Nat) (a:Nat->Nat->F) (i j:Nat) (f:j < n):mm n a one i j=a i j:=by
 show aL n (fun k=>mu (a i k) (one k j))=_
 rw [b9 j _ n f]
 ·show mu (a i j) (if j=j then 1 else 0)=_
  rw [if_pos rfl,oY]
 ·intro k _ d;show mu (a i k) (if k=j then 1 else 0)=0;rw [if_neg d,bN]
theorem fJ (n:Nat) (a:Nat->Nat->F) (i j:Nat) (f:i < n):mm n one a i j=a i j:=by
 show aL n (fun k=>mu (one i k) (a k j))=_
 rw [b9 i _ n f]
 ·show mu (if i=i then 1 else 0) (a i j)=_
  rw [if_pos rfl,dU]
 ·intro k _ d;show mu (if i=k then 1 else 0) (a k j)=0;rw [if_neg (fun e=>d e.symm),cT]
theorem bQ (n:Nat) {a b c d:Nat->Nat->F} (h:∀ k,k < n->a i k=c i k) (o:∀ k,k < n->b k j=d k j):mm n a b i j=mm n c d i j:=aH fun k f=>by rw [h k f,o k f]
theorem SR (n:Nat):dD n n one:=UF (fun i=>i) (fun _ h=>h) (fun i _=>by show (if i=i then (1:F) else 0)≠0;rw [if_pos rfl];exact G5) (fun i j d _=>by show (if j=i then (1:F) else 0)=0;rw [if_neg (by omega)])
theorem LN {x m:Nat->Nat->F} (h:∀ i j,i < n->j < n->mm n x m i j=one i j):dD n n m:=by
 intro c s
 refine ab fun t=>?_
 have ⟨p,hp⟩:∃ p,p < n/\c p≠0:=ab fun u=>t fun i d=>ab fun y=>u ⟨i,d,y⟩
 obtain ⟨f,z⟩:=hp
 obtain ⟨k,rfl⟩:∃ k,n=k+1:=⟨n - 1,by omega⟩
 have A:∀ i,i < k+1->Zu (k+1) k (fun i=>m (skip p i)) (one i):=by
  intro i d
  refine ⟨fun l=>ad (x i (skip p l)) (mu (x i p) (mu (iv (c p)) (c (skip p l)))),fun j o=>?_⟩
  have B:=h i j d o
  rw [<- B]
  show aL (k+1) (fun l=>mu (x i l) (m l j))=_
  rw [sY p _ k f]
  have r:=s j o
  rw [sY p _ k f] at r
  have D:m p j=mu (iv (c p)) (aL k (fun l=>mu (c (skip p l)) (m (skip p l) j))):=by
   rw [<- wR r,<- aT,rX _ z,dU]
  have E:aL k (fun l=>mu (ad (x i (skip p l)) (mu (x i p) (mu (iv (c p)) (c (skip p l))))) (m (skip p l) j))=ad (aL k (fun l=>mu (x i (skip p l)) (m (skip p l) j))) (mu (x i p) (mu (iv (c p)) (aL k (fun l=>mu (c (skip p l)) (m (skip p l) j))))):=by
   rw [<- bJ,<- bJ,<- oT]
   exact aH fun l _=>by rw [vR,aT,aT]
  rw [E,<- D,uV]
 have:=wE (SR (k+1)) A
 omega
theorem cK {x m:Nat->Nat->F} (h:∀ i j,i < n->j < n->mm n x m i j=one i j):∀ i j,i < n->j < n->mm n m x i j=one i j:=by
 have f:=LN h
 intro i j o r
 have s:=f (fun k=>ad (mm n m x i k) (one i k)) (fun l d=>by
  have t:aL n (fun k=>mu (ad (mm n m x i k) (one i k)) (m k l))=ad (mm n (mm n m x) m i l) (mm n one m i l):=by
   show _=ad (aL n _) (aL n _)
   rw [<- oT]
   exact aH fun k _=>vR _ _ _
  have u:mm n (mm n m x) m i l=m i l:=by
   rw [cN]
   show aL n (fun k=>mu (m i k) (mm n x m k l))=_
   rw [aH (g:=fun k=>mu (m i k) (one k l)) fun k y=>by rw [h k l y d]]
   exact fK n m i l d
  rw [t,u,fJ n m i l o,uG]) j r
 exact wR s
end Lin
def Qi (n:Nat) (f:Nat->Nat):List Nat:=(aM n).map f
theorem Jf (n:Nat) (f:Nat->Nat):(Qi n f).length=n:=by simp [Qi]
theorem Yq (n:Nat) (f:Nat->Nat) (j:Nat) (h:j < n):Gf.nth (Qi n f) j=f j:=by
 rw [Gf.aK _ _ (by rw [Jf];exact h)];simp [Qi]
theorem XL (n:Nat) (f:Nat->Nat) (h:∀ j,f j < 256):Gf.Bytes (Qi n f):=fun i=>by
 by_cases d:i < n
 ·rw [Yq n f i d];exact h i
 ·unfold Gf.nth;rw [aa,ap (by rw [Jf];omega)];decide
theorem YL (n:Nat) (f g:Nat->Nat) (h:∀ j,j < n->f j=g j):Qi n f=Qi n g:=by
 unfold Qi
 exact aI fun j d=>h j (bb.1 d)
theorem k0 (n:Nat) (f:Nat->Nat) (j v:Nat):(Qi n f).set j v=Qi n (fun i=>if i=j then v else f i):=by
 apply List.ext_getElem
 ·simp [Qi]
 ·intro i h k
  rw [List.getElem_set]
  simp only [Qi,List.getElem_map,List.getElem_range]
  by_cases e:j=i
  ·rw [if_pos e,if_pos e.symm]
  ·rw [if_neg e,if_neg (fun d=>e d.symm)]
def Qh (M:List (List Nat)) (i:Nat):List Nat:=M.getD i []
def Qm (x:Nat):Lin.F:=⟨x % 256,Nat.mod_lt _ (by decide)⟩
theorem YY (h:x < 256):(Qm x).1=x:=aS h
theorem AP (h:x < 256):Qm x=0↔x=0:=by
 constructor
 ·intro e
  have:=congrArg Fin.val e
  rw [YY h] at this
  exact this
 ·rintro rfl;rfl
theorem qW (d:x < 256) (f:y < 256):Qm (x ^^^ y)=Lin.ad (Qm x) (Qm y):=by
 apply ag
 rw [YY (Gf.iK d f)]
 show _=(Qm x).1 ^^^ (Qm y).1
 rw [YY d,YY f]
theorem oU (d:x < 256) (f:y < 256):Qm (Gf.mul x y)=Lin.mu (Qm x) (Qm y):=by
 apply ag
 rw [YY (Gf.aV d y)]
 show _=Gf.mul (Qm x).1 (Qm y).1
 rw [YY d,YY f]
def Xi (M:List (List Nat)):Nat->Nat->Lin.F:=fun i j=>Qm (Gf.nth (Qh M i) j)
section
open Lin (F aL ad mu)
theorem E1 (x:Nat) (f:x < 256) (l:List Nat) (h:Gf.Bytes l):Qm (Gf.horner x l)=aL l.length (fun j=>mu (Qm (Gf.nth l j)) (Qm (Gf.bZ x j))):=by
 rw [<- Gf.jL l x f h]
 have d:∀ k,Qm (Gf.gQ l x k)=aL k (fun j=>mu (Qm (Gf.nth l j)) (Qm (Gf.bZ x j))):=by
  intro k
  induction k with
  | zero=>rfl
  | succ k ih =>
   show Qm (Gf.gQ l x k ^^^ Gf.mul (Gf.nth l k) (Gf.bZ x k))=ad _ _
   rw [qW (Gf.iA l x h k) (Gf.aV (h k) _),ih,oU (h k) (Gf.dV x k)]
 exact d _
theorem n9 (f:Nat->F) (m:Nat):∀ k,m<=k->(∀ i,m<=i->i < k->f i=0)->aL k f=aL m f
 | 0, h, _ => by obtain rfl : m = 0 := by omega
                 rfl
 | k+1,h,hz=>by
  by_cases e:m=k+1
  ·rw [e]
  ·show ad (aL k f) (f k)=_
   rw [hz k (by omega) (by omega),Lin.cF]
   exact n9 f m k (by omega) fun i d j=>hz i d (by omega)
theorem AW (X:List Nat) (d:Gf.Bytes X) (u:X.Nodup) (c:Nat->F) (h:∀ p:List Nat,Gf.Bytes p->p.length<=X.length->aL X.length (fun r=>mu (c r) (Qm (Gf.horner (Gf.nth X r) p)))=0):∀ s,s < X.length->c s=0:=by
 intro s f
 have j:=h (Gf.bK X s X.length) (Gf.bM X d s _) (by
  have:=Gf.cC X s X.length
  rw [if_pos f] at this
  omega)
 rw [Lin.b9 s _ X.length f] at j
 ·rw [Gf.bH X d] at j
  refine ab fun k=>Lin.lS k ?_ j
  intro e
  exact Gf.dG X d u s f _ (am _) ((AP (Gf.bX _ _ _ _)).1 e)
 ·intro i o t
  rw [Gf.bH X d,Gf.cJ X s i t _ o]
  show mu _ (Qm 0)=0
  exact Lin.bN _
theorem R3 (X:List Nat) (d:Gf.Bytes X) (o:X.Nodup):Lin.dD X.length X.length (fun r j=>Qm (Gf.bZ (Gf.nth X r) j)):=by
 intro c f
 refine AW X d o c fun p h s=>?_
 have k:aL X.length (fun r=>mu (c r) (Qm (Gf.horner (Gf.nth X r) p)))=aL X.length (fun r=>aL p.length (fun j=>mu (Qm (Gf.nth p j)) (mu (c r) (Qm (Gf.bZ (Gf.nth X r) j))))):=Lin.aH fun r _=>by
  rw [E1 _ (d r) p h,<- Lin.bJ]
  exact Lin.aH fun j _=>by rw [<- Lin.aT,Lin.cR (c r),Lin.aT]
 rw [k,Lin.bW]
 refine Lin.bS fun j t=>?_
 rw [Lin.bJ,f j (by omega),Lin.bN]
theorem BW (f d:List Nat) (h:Gf.Bytes d) (x:Nat):∀ k,Qm (Gf.fG f d x k)=aL k (fun j=>mu (Qm (Gf.nth d j)) (Qm (Gf.aQ f j x)))
 | 0=>rfl
 | k+1=>by
  show Qm (Gf.fG f d x k ^^^ Gf.mul (Gf.nth d k) (Gf.aQ f k x))=ad _ _
  rw [qW (Gf.gY f d x h k) (Gf.aV (h k) _),BW f d h x k,oU (h k) (Gf.bL _ _ _)]
theorem IZ (d p:List Nat) (o:Gf.Bytes d) (r:d.Nodup) (k:Gf.Bytes p) (s:p.length<=d.length) (x:Nat) (t:x < 256):Qm (Gf.horner x p)=aL d.length (fun j=>mu (Qm (Gf.horner (Gf.nth d j) p)) (Qm (Gf.aQ d j x))):=by
 have h:Gf.Bytes (Qi d.length fun j=>Gf.horner (Gf.nth d j) p):=XL _ _ fun j=>Gf.bF _ p k
 rw [<- Gf.through p d (Qi d.length fun j=>Gf.horner (Gf.nth d j) p) k o h r s (fun j f=>Yq _ _ j f) x t,BW _ _ h]
 exact Lin.aH fun j f=>by rw [Yq _ _ j f]
theorem PZ (d X:List Nat) (t:Gf.Bytes d) (u:d.Nodup) (f:Gf.Bytes X) (y:X.Nodup) (A:X.length=d.length):Lin.dD d.length X.length (fun r j=>Qm (Gf.aQ d j (Gf.nth X r))):=by
 intro c h
 refine AW X f y c fun p k z=>?_
 have o:aL X.length (fun r=>mu (c r) (Qm (Gf.horner (Gf.nth X r) p)))=aL X.length (fun r=>aL d.length (fun j=>mu (Qm (Gf.horner (Gf.nth d j) p)) (mu (c r) (Qm (Gf.aQ d j (Gf.nth X r)))))):=Lin.aH fun r _=>by
  rw [IZ d p t u k (by omega) _ (f r),<- Lin.bJ]
  exact Lin.aH fun j _=>by rw [<- Lin.aT,Lin.cR (c r),Lin.aT]
 rw [o,Lin.bW]
 refine Lin.bS fun j s=>?_
 rw [Lin.bJ,h j s,Lin.bN]
def nH (m:Nat):List Nat:=Qi (m+1) fun j=>if j=m then 1 else 0
theorem DT (m:Nat):Gf.Bytes (nH m):=XL _ _ fun j=>by split <;> decide
theorem B4 (m x:Nat) (h:x < 256):Qm (Gf.horner x (nH m))=Qm (Gf.bZ x m):=by
 rw [E1 x h _ (DT m),show (nH m).length=m+1 from Jf _ _,Lin.b9 m _ (m+1) (by omega)]
 ·unfold nH
  rw [Yq _ _ m (by omega),if_pos rfl]
  exact Lin.dU _
 ·intro i d f
  unfold nH
  rw [Yq _ _ i d,if_neg f]
  exact Lin.cT _
theorem Y6 (d:List Nat) (f:Gf.Bytes d) (k:d.Nodup) (x m:Nat) (h:x < 256) (o:m < d.length):aL d.length (fun j=>mu (Qm (Gf.aQ d j x)) (Qm (Gf.bZ (Gf.nth d j) m)))=Qm (Gf.bZ x m):=by
 rw [<- B4 m x h,IZ d (nH m) f k (DT m) (by rw [show (nH m).length=m+1 from Jf _ _];omega) x h]
 exact Lin.aH fun j _=>by rw [B4 m _ (f j),Lin.cR]
end
namespace Lin
def aZ (g:Nat->Nat->F) (d p k:Nat):Nat->Nat->F:=fun i j=>if i=d then mu (iv (g p k)) (g p j) else if i=p then g d j else g i j
def bE (h:Nat->Nat->F) (d k:Nat):Nat->Nat->F:=fun i j=>if i=d then h i j else ad (h i j) (mu (h i k) (h d j))
structure eO (r n k:Nat) (f g:Nat->Nat->F) (d:Nat):Prop where
 le:d<=r
 to:∀ i,i < r->Zu n r f (g i)
 from_:∀ i,i < r->Zu n r g (f i)
 piv:∃ p:Nat->Nat,(∀ i,i < d->p i < k/\g i (p i)=1/\∀ i',i' < r->i'≠i->g i' (p i)=0)/\∀ i j,i < j->j < d->p i < p j
 zero:∀ i,d<=i->i < r->∀ j,j < k->g i j=0
theorem eO.start (r n:Nat) (f:Nat->Nat->F):eO r n 0 f f 0 where
 le:=al _
 to:=fun _ d=>aU f d
 from_:=fun _ d=>aU f d
 piv:=⟨fun _=>0,fun _ d=>absurd d (ae _),fun _ _ _ h=>absurd h (ae _)⟩
 zero:=fun _ _ _ _ h=>absurd h (ae _)
theorem eO.skip {f g:Nat->Nat->F} (h:eO r n k f g d) (y:∀ i,d<=i->i < r->g i k=0):eO r n (k+1) f g d where
 le:=h.le
 to:=h.to
 from_:=h.from_
 piv:=by
  obtain ⟨p,s,u⟩:=h.piv
  exact ⟨p,fun i o=>⟨Nat.lt_succ_of_lt (s i o).1,(s i o).2⟩,u⟩
 zero:=fun i t o j z=>by
  by_cases e:j=k
  ·rw [e];exact y i t o
  ·exact h.zero i t o j (by omega)
theorem FH {v:Nat->Nat->F} {x y:Nat->F} (d:Zu n r v x) (a:F) (h:∀ j,y j=mu a (x j)):Zu n r v y:=aX (xF d a) (fun _ _ _ _=>rfl) (fun j _=>(h j).symm)
theorem hT {g:Nat->Nat->F} (o:d < r) (s:p < r):∀ i,i < r->Zu n r g (aZ g d p k i):=fun i h=>by
 by_cases e:i=d
 ·exact FH (aU g s) (iv (g p k)) (fun j=>by unfold aZ;rw [if_pos e])
 ·by_cases f:i=p
  ·exact aX (aU g o) (fun _ _ _ _=>rfl) (fun j _=>by unfold aZ;rw [if_neg e,if_pos f])
  ·exact aX (aU g h) (fun _ _ _ _=>rfl) (fun j _=>by unfold aZ;rw [if_neg e,if_neg f])
theorem KY {g:Nat->Nat->F} (s:d < r) (t:p < r) (u:g p k≠0):∀ i,i < r->Zu n r (aZ g d p k) (g i):=fun i o=>by
 by_cases e:i=p
 ·refine FH (aU (aZ g d p k) s) (g p k) (fun j=>?_)
  unfold aZ
  rw [if_pos rfl,<- aT,yW _ u,dU,e]
 ·by_cases f:i=d
  ·refine aX (aU (aZ g d p k) t) (fun _ _ _ _=>rfl) (fun j _=>?_)
   unfold aZ
   rw [if_neg (fun h=>e (by rw [f,h])),if_pos rfl,f]
  ·refine aX (aU (aZ g d p k) o) (fun _ _ _ _=>rfl) (fun j _=>?_)
   unfold aZ
   rw [if_neg f,if_neg e]
theorem WX {h:Nat->Nat->F} (o:d < r):∀ i,i < r->Zu n r h (bE h d k i):=fun i f=>by
 by_cases e:i=d
 ·exact aX (aU h f) (fun _ _ _ _=>rfl) (fun j _=>by unfold bE;rw [if_pos e])
 ·exact aX (G7 (aU h f) (xF (aU h o) (h i k))) (fun _ _ _ _=>rfl) (fun j _=>by unfold bE;rw [if_neg e])
theorem TH {h:Nat->Nat->F} (o:d < r):∀ i,i < r->Zu n r (bE h d k) (h i):=fun i f=>by
 by_cases e:i=d
 ·exact aX (aU (bE h d k) f) (fun _ _ _ _=>rfl) (fun j _=>by unfold bE;rw [if_pos e])
 ·refine aX (G7 (aU (bE h d k) f) (xF (aU (bE h d k) o) (h i k))) (fun _ _ _ _=>rfl) (fun j _=>?_)
  show ad (bE h d k i j) (mu (h i k) (bE h d k d j))=h i j
  unfold bE
  rw [if_neg e,if_pos rfl,oO,uG,cF]
theorem eO.step {f g:Nat->Nat->F} (h:eO r n k f g d) (T:d<=p) (A:p < r) (M:g p k≠0):eO r n (k+1) f (bE (aZ g d p k) d k) (d+1):=by
 have t:d < r:=by omega
 have B:∀ j,aZ g d p k d j=mu (iv (g p k)) (g p j):=fun j=>by unfold aZ;rw [if_pos rfl]
 have J:aZ g d p k d k=1:=by rw [B,rX _ M]
 have K:∀ j,bE (aZ g d p k) d k d j=aZ g d p k d j:=fun j=>by unfold bE;rw [if_pos rfl]
 have D:∀ i j,i≠d->aZ g d p k d j=0->bE (aZ g d p k) d k i j=aZ g d p k i j:=fun i j o E=>by unfold bE;rw [if_neg o,E,bN,cF]
 have L:∀ i,i≠d->bE (aZ g d p k) d k i k=0:=fun i o=>by unfold bE;rw [if_neg o,J,oY,uG]
 obtain ⟨q,u,N⟩:=h.piv
 have G:∀ i,i < d->aZ g d p k d (q i)=0:=fun i o=>by rw [B,(u i o).2.2 p A (by omega),bN]
 refine ⟨by omega,fun i o=>nM (nM (WX t i o) (hT t A)) h.to,fun i o=>nM (nM (h.from_ i o) (KY t A M)) (TH t),?_,?_⟩
 ·refine ⟨fun i=>if i=d then k else q i,fun i o=>?_,fun i j O Q=>?_⟩
  ·by_cases e:i=d
   ·subst e
    simp only [if_true]
    exact ⟨by omega,by rw [K,J],fun y _ H=>L y H⟩
   ·simp only [e,if_false]
    have s:i < d:=by omega
    refine ⟨by have:=(u i s).1;omega,?_,fun y H R=>?_⟩
    ·rw [D i (q i) e (G i s)]
     unfold aZ
     rw [if_neg e,if_neg (by omega)]
     exact (u i s).2.1
    ·by_cases I:y=d
     ·rw [I,K];exact G i s
     ·rw [D y (q i) I (G i s)]
      unfold aZ
      rw [if_neg I]
      by_cases z:y=p
      ·rw [if_pos z];exact (u i s).2.2 d t (by omega)
      ·rw [if_neg z];exact (u i s).2.2 y H R
  ·by_cases e:j=d
   ·simp only [e,if_true,show ¬ i=d by omega,if_false]
    exact (u i (by omega)).1
   ·simp only [e,if_false,show ¬ i=d by omega]
    exact N i j O (by omega)
 ·intro i o S j Q
  by_cases e:j=k
  ·rw [e];exact L i (by omega)
  ·have E:aZ g d p k d j=0:=by rw [B,h.zero p T A j (by omega),bN]
   rw [D i j (by omega) E]
   unfold aZ
   rw [if_neg (by omega)]
   by_cases z:i=p
   ·rw [if_pos z];exact h.zero d (am _) t j (by omega)
   ·rw [if_neg z];exact h.zero i (by omega) S j (by omega)
theorem VQ {v:Nat->Nat->F} {u:Nat->F} (h:Zu n r v u) (k:c<=n):Zu c r v u:=by
 obtain ⟨a,d⟩:=h
 exact ⟨a,fun j f=>d j (by omega)⟩
theorem A8 {f:Nat->F} {m:Nat}:∀ {k:Nat},m<=k->(∀ i,m<=i->i < k->f i=0)->aL k f=aL m f
 | 0,h,_=>by rw [show m=0 by omega]
 | k+1,h,hz=>by
  by_cases e:m=k+1
  ·rw [e]
  ·show ad (aL k f) (f k)=_
   rw [hz k (by omega) (by omega),cF]
   exact A8 (by omega) (fun i d j=>hz i d (by omega))
theorem eO.xN {f g:Nat->Nat->F} (h:eO r n c f g d) (B:c<=n):cL c r f d:=by
 obtain ⟨q,o,_⟩:=h.piv
 refine ⟨g,?_,fun i k=>VQ (h.to i (by have:=h.le;omega)) B,fun i k=>?_⟩
 ·intro a s i k
  have:=s (q i) (o i k).1
  rw [b9 i _ d k (fun t D u=>by rw [(o i k).2.2 t (by have:=h.le;omega) u,bN]),(o i k).2.1,oY] at this
  exact this
 ·obtain ⟨a,s⟩:=h.from_ i k
  refine ⟨a,fun j y=>?_⟩
  rw [s j (by omega)]
  exact A8 h.le (fun t z A=>by rw [h.zero t z A j y,bN])
theorem eO.diag {f g:Nat->Nat->F} (h:eO r n r f g r):∀ i j,i < r->j < r->g i j=one i j:=by
 obtain ⟨q,o,s⟩:=h.piv
 have y:∀ i,i < r->i<=q i:=fun i=>by
  induction i with
  | zero=>intro _;exact al _
  | succ i ih=>intro d;have t:=ih (by omega);have k:=s i (i+1) (by omega) d;omega
 have z:∀ m,m < r->q (r - 1 - m)<=r - 1 - m:=fun m=>by
  induction m with
  | zero=>intro A;have:=(o (r - 1) (by omega)).1;show q (r - 1)<=r - 1;omega
  | succ m ih=>intro A;have t:=ih (by omega);have k:=s (r - 1 - (m+1)) (r - 1 - m) (by omega) (by omega);omega
 have id:∀ i,i < r->q i=i:=fun i d=>by
  have t:=y i d
  have k:=z (r - 1 - i) (by omega)
  rw [show r - 1 - (r - 1 - i)=i by omega] at k
  omega
 intro i j d u
 have:=o j u
 rw [id j u] at this
 unfold one
 by_cases e:i=j
 ·rw [if_pos e,e];exact this.2.1
 ·rw [if_neg e];exact this.2.2 i d e
theorem eO.vA {m l:Nat} {f g:Nat->Nat->F} (h:eO r n c f g d) (a:Nat->Nat->F) (D:m+l<=n) (A:∀ i,i < r->∀ j,j < m->f i j=aL l (fun t=>mu (f i (m+t)) (a t j))):∀ i,i < r->∀ j,j < m->g i j=aL l (fun t=>mu (g i (m+t)) (a t j)):=by
 intro i o j u
 obtain ⟨b,k⟩:=h.to i o
 rw [k j (by omega)]
 have y:aL l (fun t=>mu (g i (m+t)) (a t j))=aL l (fun t=>aL r (fun s=>mu (mu (b s) (f s (m+t))) (a t j))):=aH fun t B=>by
  rw [k (m+t) (by omega),<- Z4]
 rw [y,bW]
 refine aH fun s z=>?_
 rw [A s z j u,<- bJ]
 exact aH fun t _=>(aT _ _ _).symm
theorem eO.kM {m f g:Nat->Nat->F} (h:eO r (2*r) r f g r) (u:∀ i j,i < r->j < r->f i j=m i j) (y:∀ i j,i < r->j < r->f i (r+j)=one i j):∀ i j,i < r->j < r->mm r (fun i j=>g i (r+j)) m i j=one i j:=by
 intro i j d k
 have o:=h.vA (m:=r) (l:=r) m (by omega) (fun i d j k=>by
  rw [u i j d k]
  have:aL r (fun t=>mu (f i (r+t)) (m t j))=aL r (fun t=>mu (one i t) (m t j)):=aH fun t s=>by rw [y i t d s]
  rw [this]
  exact (fJ r m i j d).symm) i d j k
 rw [<- h.diag i j d k,o]
 rfl
end Lin
end Go.Proofs.YtaaahibncffcmaaDoor

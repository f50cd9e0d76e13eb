/- Texts laid together. -/
import Derived.Test.YtaaahibncffcmaaDoorRows
import Derived.ProofKit
import Derived.LaidLaws
import Derived.LaidHandle
import Derived.LaidMore
import Derived.Stop.LaidErr
import Derived.Test.YtaaahibncffcmaaDoorCf0
import Derived.OpenShut
import Derived.ChangeOld
import Derived.Below
import Derived.OwnWalk
import Derived.Deep.OwnRows
import Derived.Laws.BitsAllLaws
import Derived.Laws.BitsLemmas
import Derived.WalkSmall
import Derived.Laws.AppendOwn
import Derived.Laws.AppendOwnNone
import Derived.Deep.QuietTactic
import Derived.BigQuiet
import Derived.Laws.BytesArg
set_option maxRecDepth 100000
set_option maxHeartbeats 4000000
open Option renaming some->aa,none->ab,map_eq_some_iff->ax
open List renaming getElem?_map->ac,getElem?_eq_getElem->ae,getD_eq_getElem?_getD->af,length_eq_zero_iff->ag,mem_singleton->aj,mem_append_right->al,range->au,length_append->aE,sublist_append_right->aG,getElem?_eq_some_iff->za,map_toArray->aM,all_eq_true->aN,getElem?_eq_none->zc,mem_range->aS,mem_cons_of_mem->zd,getElem?_range->bb,map_cons->bc,mem_cons_self->bf,map_nil->bl,map_const'->bC,length_nil->bD,length->ce
open Go renaming Value->ah,TypeId->ai,toList_madeCells_one->an,Calls->zb,Addr->aR,TypeInfo->zf,wpList_plain->bm,laidMetH->bn,madeCells->bv,below_drewN->bz,run_append_room->zh,run_append_grow->zi,wpList->zk,run_underlying->zl,run_append_own->zm,run_append_nil->zn,maxLen->zo,growslice_fits->bO,loadCells->bY,Program->b6,Operand->b7,MemPlace->cj,Oper->cG
open Option.some renaming inj->ak
open Nat renaming mod_two_eq_zero_or_one->am,lt_of_lt_of_le->ar,le_refl->aB,lt_of_le_of_lt->be,lt_or_ge->bk,mod_eq_of_lt->bu,not_lt_zero->bA,div_le_self->bB,mul_le_mul->zj,zero_add->zu,zero_le->cc
open Array renaming getElem?_eq_some_iff->ao,getElem?_eq_none->ay
open Go.World.ownsRow renaming cells->ap,kept->av,lt->aA,frozenAt->aO,stored->ze,cellAt->aW
open Go.Builtin renaming append_->aq,firstCells->bi,lenOf->zt
open Go.RowKit.Below renaming refl->aw
open Or renaming inr->az,inl->aD
open Go.World renaming var?_cell->aC,ownsRow_nil->aI,ownsRow_lit->bo,cell?->ch
open Go.Result renaming andThen_ok->aJ
namespace Go.Proofs.YtaaahibncffcmaaDoor
open Go.Proofs.Tryd
open Go.RowKit
variable {W w w':World}{B b g r k n:Nat}{E e T:ai}{o:cG}{v:ah}{d:Nat->ah}{p q:Option aR}{l:List Nat}{M:List (List Nat)}{a:Act}{Q:Exit->Act->World->Prop}
section
open Go.ChangeShapes Go.WideShapes Go.RowKit
def GZ (d:List UInt8):DataW Unit:=.iface "*errors.errorString" (.ptr (.agg [.lit (.string d)]))
theorem UX {P:b6} {S B D:ai} {ms:Array (String×ai)} {f:Field}
 (hi:P.underlying S=aa (.interface ms)) (a7:∀ u,P.typeName? 3 u=aa "*errors.errorString"->u=B)
 (hp:P.underlying B=aa (.pointer D)) (he:P.underlying D=aa (.struct #[f])) (a8:f.type=E) (a9:f.offset=0) (hs:P.underlying E=aa .string) (hc:P.cellsOf D=1) (b1:P.cellsOf E=1) :
 ∀ (L:List (String×List UInt8)) (o:List cj),DataW.LaidVars P W (L.map fun x=>(x.1,GZ x.2)) o ->
  (∀ x ∈ L,∃ g,P.globalNamed x.1=aa g/\(P.globals[g]?).map (·.type)=aa S) ->
  (∀ b A,MemPlace.cell b A ∈ o->(∃ c t,W.heap[b]?=aa (.cells c t (0,0)))/\∀ u v,W.cell? ⟨b,A,ab⟩=aa (.iface u v)->Value.okWide P W .any 0 u v) ->
  ∃ ad:Nat->aR,(∀ i x,L[i]?=aa x->MemPlace.cell (ad i).block (ad i).off ∈ o/\W.var? P x.1=aa #[.iface B (.pointer (aa (ad i)))]) /\
   (o.Nodup->∀ i j,i < L.length->j < L.length->i≠j->ad i≠ad j):=by
 intro L
 induction L with
 | nil =>
  intro o _ _ _
  exact ⟨fun _=>⟨0,0,ab⟩,fun i x h=>by simp at h,fun _ i j h=>by simp at h⟩
 | cons x r ih =>
  intro o T G H
  obtain ⟨g0,t0,U,f0,p0,I,J,V,K,Y,Z,rfl⟩:=T
  obtain ⟨g,hg,ht⟩:=G x (bf ..)
  obtain rfl:=ak (hg.symm.trans J)
  obtain rfl:=ak (ht.symm.trans V)
  obtain ⟨ad,M,h2⟩:=ih I Z (fun y s=>G y (zd _ s)) (fun b A z=>H b A (al _ z))
  obtain ⟨l0⟩:=U
  have a1:∀ u v,l0=[.iface u v]->Value.okWide P W .any 0 u v:=fun u v e=>by
   subst e
   exact (H g 0 (by simp [MemPlace.row])).2 u v (by simpa using aC J K 0)
  obtain ⟨N,s0,rfl,b2,b3,b4,rfl⟩:=errorString_of_trod hi a7 hp he a8 a9 hs hc b1 Y a1
  refine ⟨fun i=>match i with | 0=>N | k+1=>ad k,?_,?_⟩
  ·intro i y s
   match i with
   | 0 =>
    obtain rfl:x=y:=by simpa using s
    exact ⟨by simp [MemPlace.row],K⟩
   | k+1 =>
    have:=M k y (by simpa using s)
    exact ⟨al _ this.1,this.2⟩
  ·intro O i j a2 a3 a4
   have a5:I.Nodup:=List.Nodup.sublist (aG _ _) O
   have Q:∀ k,k < r.length->N≠ad k:=by
    intro k d e
    obtain ⟨y,s⟩:∃ y,r[k]?=aa y:=⟨r[k],ae d⟩
    have z:=(M k y s).1
    rw [<- e] at z
    have a6:=(List.nodup_append.1 O).2.2
    exact a6 _ (al _ (by simp [MemPlace.row])) _ z rfl
   match i,j,a2,a3,a4 with
   | 0,0,_,_,h=>exact absurd rfl h
   | 0,k+1,_,d,_=>exact Q k (by simpa using d)
   | k+1,0,d,_,_=>exact (Q k (by simpa using d)).symm
   | k+1,m+1,d,z,hne=>exact h2 a5 k m (by simpa using d) (by simpa using z) (fun e=>hne (by rw [e]))
theorem AY {P:b6} {W:World}:∀ (L M:List (String×DataW Unit)) (d:List cj),DataW.LaidVars P W (L ++ M) d->∃ p q,d=p ++ q/\DataW.LaidVars P W M q
 | [],_,d,h=>⟨[],d,rfl,h⟩
 | x :: L,M,d,h=>by
  obtain ⟨s,t,y,z,A,f,B,D,E,G,j,rfl⟩:=h
  obtain ⟨p,q,rfl,o⟩:=AY L M f j
  exact ⟨_,q,(List.append_assoc _ _ _).symm,o⟩
theorem ID : "*" ++ "errors.errorString" = "*errors.errorString":=by kernel_rfl
theorem z7 (u:ai) (h:prog.typeName? 3 u=aa "*errors.errorString"):u=136 :=
 typeName_ptr_named (nm := "errors.errorString") (by rw [ID];kernel_rfl) (by kernel_rfl) (by decide) u (by rw [ID];exact h)
end
section
open Go.Extern.Stop Go.Stop Go.Extern
structure n3 (w:World) (ad:Nat->aR):Prop where
 c0:w.cell? ⟨4,0,ab⟩=aa (.iface 136 (.pointer (aa (ad 0))))
 c1:w.cell? ⟨0,0,ab⟩=aa (.iface 136 (.pointer (aa (ad 1))))
 c2:w.cell? ⟨1,0,ab⟩=aa (.iface 136 (.pointer (aa (ad 2))))
 c3:w.cell? ⟨5,0,ab⟩=aa (.iface 136 (.pointer (aa (ad 3))))
 c4:w.cell? ⟨6,0,ab⟩=aa (.iface 136 (.pointer (aa (ad 4))))
 c5:w.cell? ⟨7,0,ab⟩=aa (.iface 136 (.pointer (aa (ad 5))))
 c6:w.cell? ⟨8,0,ab⟩=aa (.iface 136 (.pointer (aa (ad 6))))
 c7:w.cell? ⟨3,0,ab⟩=aa (.iface 136 (.pointer (aa (ad 7))))
 c8:w.cell? ⟨9,0,ab⟩=aa (.iface 136 (.pointer (aa (ad 8))))
 c9:w.cell? ⟨10,0,ab⟩=aa (.iface 136 (.pointer (aa (ad 9))))
 n0:w.cell? ⟨11,0,ab⟩=aa (.iface 136 (.pointer (aa (ad 10))))
 mL:w.cell? ⟨2,0,ab⟩=aa (.iface 136 (.pointer (aa (ad 11))))
 oP:w.cell? ⟨12,0,ab⟩=aa (.iface 121 (.agg #[.pointer (aa ⟨14,25,ab⟩)]))
 row:∀ i,i < 12->∃ c t,w.heap[(ad i).block]?=aa (.cells c t (0,0))
 ne:∀ i j,i < 12->j < 12->i≠j->ad i≠ad j
theorem Qf {o:Nat} (h:w.cell? ⟨b,o,ab⟩=aa v):b < w.heap.size:=by
 rcases bk b w.heap.size with d | d
 ·exact d
 ·simp [ch,ay d] at h
theorem Jca  {o:Obj} (h:w.heap[b]?=aa o):b < w.heap.size:=by
 rcases bk b w.heap.size with d | d
 ·exact d
 ·rw [ay d] at h;cases h
theorem n3.below {ad:Nat->aR} (h:n3 w ad) (d:Below w.heap.size w w'):n3 w' ad where
 c0:=(d.cell (Qf h.c0)).trans h.c0
 c1:=(d.cell (Qf h.c1)).trans h.c1
 c2:=(d.cell (Qf h.c2)).trans h.c2
 c3:=(d.cell (Qf h.c3)).trans h.c3
 c4:=(d.cell (Qf h.c4)).trans h.c4
 c5:=(d.cell (Qf h.c5)).trans h.c5
 c6:=(d.cell (Qf h.c6)).trans h.c6
 c7:=(d.cell (Qf h.c7)).trans h.c7
 c8:=(d.cell (Qf h.c8)).trans h.c8
 c9:=(d.cell (Qf h.c9)).trans h.c9
 n0:=(d.cell (Qf h.n0)).trans h.n0
 mL:=(d.cell (Qf h.mL)).trans h.mL
 oP:=(d.cell (Qf h.oP)).trans h.oP
 row:=fun i j=>by
  obtain ⟨c,t,f⟩:=h.row i j
  exact ⟨c,t,(d.block _ (Jca f)).trans f⟩
 ne:=h.ne
theorem Jdc (w:World):zb prog 31 #[.nilIface] w fun e w'=>e=.returned (.tuple #[.int .i64 0,.int .i64 (-1)])/\w'=w:=by
 go_enter func31,ntmps31
 go_wp2
 go_ret2
 exact ⟨rfl,rfl⟩
def k2 (ad:Nat->aR):Array Value:=#[.iface 136 (.pointer (aa (ad 0))),.iface 136 (.pointer (aa (ad 1))),.iface 136 (.pointer (aa (ad 2))),.iface 136 (.pointer (aa (ad 3))),.iface 136 (.pointer (aa (ad 4))),.iface 136 (.pointer (aa (ad 5))),.iface 136 (.pointer (aa (ad 6))),.iface 136 (.pointer (aa (ad 7))),.iface 136 (.pointer (aa (ad 8))),.iface 136 (.pointer (aa (ad 9))),.iface 136 (.pointer (aa (ad 10))),.iface 136 (.pointer (aa (ad 11)))]
theorem E3 (ad:Nat->aR) (w:World):∀ k,k < 12->(w.alloc (.cells (k2 ad) 25)).cell? ⟨w.heap.size,k,ab⟩=aa (.iface 136 (.pointer (aa (ad k)))):=by
 intro k d
 have e:(k2 ad)[k]?=aa (.iface 136 (.pointer (aa (ad k)))):=by
  match k,d with
  | 0,_ | 1,_ | 2,_ | 3,_ | 4,_ | 5,_ | 6,_ | 7,_ | 8,_ | 9,_ | 10,_ | 11,_=>rfl
 rw [World.cell?_alloc_at _ _ _ _ (by simp)]
 exact e
theorem Jc7 (ad:Nat->aR) (i:Nat) (O:i < 12) (w:World) (Q:n3 w ad) :
 zb prog 31 #[.iface 136 (.pointer (aa (ad i)))] w fun e w'=>e=.returned (.tuple #[.int .i64 ((i+1:Nat):Int),.int .i64 (-1)])/\Below w.heap.size w w':=by
 have D:Below w.heap.size w (w.alloc (.cells #[.pointer ab] 85)):=(aw _ _).alloc (aB _) _
 have s:=Q.below D
 go_enter func31,ntmps31
 go_wp2_with fail
 refine (Jcy _ _ _ s.oP).mono ?_
 rintro e d ⟨rfl,j⟩
 have t:=s.below j
 have S:=t
 obtain ⟨c0,c1,c2,c3,c4,c5,c6,c7,c8,c9,n0,mL,_,_,_⟩:=S
 go_wp2
 clear c0 c1 c2 c3 c4 c5 c6 c7 c8 c9 n0 mL D s Q
 have z:Below d.heap.size d (d.alloc (.cells (k2 ad) 25)):=(aw _ _).alloc (aB _) _
 have f:=t.below z
 have o:=E3 ad d
 have A:Hid (Below w.heap.size w (d.alloc (.cells (k2 ad) 25))):=(((aw _ _).alloc (aB _) _).trans (j.mono (by simp))).trans (z.mono (by have:=j.size;simp at this;omega))
 have T:(d.alloc (.cells (k2 ad) 25)).heap.size=d.heap.size+1:=by simp
 unfold k2 at f o A
 generalize d.alloc (.cells _ 25)=E at f o A ⊢
 clear j z t T
 go_loop [3,30] (fun y x=>y=.int .i64 (-1)/\∃ k:Nat,k<=i/\x=.int .i64 k) (fun _ x=>12 - (intOf x).toNat)
 case atStart=>exact ⟨rfl,0,by omega,rfl⟩
 case round =>
  obtain ⟨rfl,k,Y,rfl⟩:=hrel
  have B:k < 12:=by omega
  have Z:=o k B
  obtain ⟨G,H,I⟩:=f.row i O
  obtain ⟨J,K,L⟩:=f.row k B
  clear o
  by_cases M:k=i
  ·subst M
   go_wp2_with (go_at_call 63;refine (Jcv (ad k) _).mono ?_;rintro e w' ⟨rfl,rfl⟩)
   go_ret2
   exact ⟨by simp,A.out⟩
  ·have N:=f.ne i k O B (fun h=>M h.symm)
   have U:Hid (ad i≠ad k):=N
   have V:Hid (E.heap[(ad i).block]?=aa (.cells G H (0,0))):=I
   have W:Hid (E.heap[(ad k).block]?=aa (.cells J K (0,0))):=L
   clear N I L
   go_wp2_with (go_at_call 63;refine (L1 (ad i) (ad k) G J H K _ U.out V.out W.out).mono ?_;rintro e w' ⟨rfl,rfl⟩)
   go_round
   case rel=>exact ⟨rfl,k+1,by omega,by go_num⟩
   case measure=>simp [intOf];omega
end
section
open Go.ChangeShapes Go.WideShapes Go.RowKit
def gW:List (String×List UInt8):=(Rows.matrixSpreadRow.laid.drop (0+1)).map fun x=>(x.1,match x.2 with | .iface _ (.ptr (.agg [.lit (.string t)]))=>t | _=>[])
theorem Jc9:(gW.map fun x=>(x.1,GZ x.2))=Rows.matrixSpreadRow.laid.drop (0+1):=rfl
theorem JbL (W:World):bn prog Rows.matrixSpreadRow.laid W=(laidMet prog (Rows.matrixSpreadRow.laid.take 0 ++ gW.map fun x=>(x.1,GZ x.2)) W/\handlesMet prog ((Rows.matrixSpreadRow.laid.drop 0).take 1) W):=by kernel_rfl
theorem O0:(gW.all fun x=>match prog.globalNamed x.1 with | some g=>(prog.globals[g]?).map (·.type)==aa 25 | none=>false)=true:=by kernel_rfl
theorem g12:gW.map (fun x=>prog.globalNamed x.1)=[aa 4,aa 0,aa 1,aa 5,aa 6,aa 7,aa 8,aa 3,aa 9,aa 10,aa 11,aa 2]:=by kernel_rfl
theorem D0:prog.globalNamed "errors.errorType"=aa 12:=by kernel_rfl
theorem Jb0:((au 168).filter fun t=>prog.rowNamed t [101,114,114,111,114])=[25]:=by kernel_rfl
theorem Jb1:prog.types.size=168:=by kernel_rfl
theorem JcD (h:bn prog Rows.matrixSpreadRow.laid W):∃ ad,n3 W ad:=by
 rw [JbL] at h
 obtain ⟨⟨a0,B,D,E⟩,K⟩:=h
 obtain ⟨pp,z,rfl,L⟩:=AY _ _ _ B
 have M:z.Nodup:=List.Nodup.sublist (aG _ _) D
 have G:=fun b H (o:MemPlace.cell b H ∈ z)=>E b H (al _ o)
 clear B D E
 have N:∀ x ∈ gW,∃ g,prog.globalNamed x.1=aa g/\(prog.globals[g]?).map (·.type)=aa 25:=by
  intro x f
  have:=aN.1 O0 x f
  split at this
  ·rename_i g A
   exact ⟨g,A,by simpa using this⟩
  ·cases this
 have O:prog.cellsOf 156=1:=by kernel_rfl
 have c9:prog.cellsOf 9=1:=by kernel_rfl
 obtain ⟨ad,I,Q⟩:=UX underlying25 z7 underlying136 underlying156 rfl rfl underlying9 O c9 gW z L N G
 have S:∀ i g x,gW[i]?=aa x->prog.globalNamed x.1=aa g->W.cell? ⟨g,0,ab⟩=aa (.iface 136 (.pointer (aa (ad i)))):=by
  intro i g x f A
  simpa using aC A (I i x f).2 0
 have d:∀ i g,(gW.map (fun x=>prog.globalNamed x.1))[i]?=aa (aa g)->W.cell? ⟨g,0,ab⟩=aa (.iface 136 (.pointer (aa (ad i)))):=by
  intro i g f
  rw [ac] at f
  obtain ⟨x,T,U⟩:=ax.1 f
  exact S i g x T U
 rw [g12] at d
 have s:gW.length=12:=rfl
 refine ⟨ad,d 0 _ rfl,d 1 _ rfl,d 2 _ rfl,d 3 _ rfl,d 4 _ rfl,d 5 _ rfl,d 6 _ rfl,d 7 _ rfl,d 8 _ rfl,d 9 _ rfl,d 10 _ rfl,d 11 _ rfl,?_,?_,fun i j y V=>Q M i j (by rw [s];exact y) (by rw [s];exact V)⟩
 ·obtain ⟨Y,u,Z,e1,e2,e3,e4,J⟩:=K _ (aj.2 rfl)
  have en:Y=[101,114,114,111,114]:=(ak e1).symm
  subst en
  obtain rfl:121=u:=ak ((show _=aa 121 by kernel_rfl).symm.trans e2)
  have o:Z ∈ (au 168).filter fun t=>prog.rowNamed t [101,114,114,111,114]:=List.mem_filter.2 ⟨aS.2 (by rw [<- Jb1];exact e3),e4⟩
  rw [Jb0] at o
  obtain rfl:=aj.1 o
  have hh:typeHandle prog 25=.pointer (aa ⟨14,25,ab⟩):=by kernel_rfl
  rw [hh] at J
  simpa using aC D0 J 0
 ·intro i y
  obtain ⟨x,f⟩:∃ x,gW[i]?=aa x:=⟨gW[i]'(by rw [s];exact y),ae (by rw [s];exact y)⟩
  exact (G _ _ (I i x f).1).1
theorem own:ownKnob prog.godebug=none:=by kernel_rfl
theorem JcI (os:Os) (args:Array ah):bn prog Rows.matrixSpreadRow.laid ((World.doorLaid prog 244 os).forCall (fun _ _=>0) ⟨#[],args,[]⟩).memory :=
 laidMetH_of_parts3 (fuel:=8) (laidMet_of_run' 8 (by kernel_rfl) (by kernel_rfl)) (by kernel_rfl) (by kernel_rfl)
end
section
open Go.ChangeShapes Go.WideShapes Go.ChangeAt Go.RowKit
def LA:List (String×List UInt8):=Rows.coderAnyRow.laid.map fun x=>(x.1,match x.2 with | .iface _ (.ptr (.agg [.lit (.string t)]))=>t | _=>[])
theorem Jcq (W:World):bn prog Rows.coderAnyRow.laid W=laidMet prog (LA.map fun x=>(x.1,GZ x.2)) W:=by kernel_rfl
theorem Jcf:(LA.all fun x=>match prog.globalNamed x.1 with | some g=>(prog.globals[g]?).map (·.type)==aa 25 | none=>false)=true:=by kernel_rfl
theorem Jc8:LA.map (fun x=>prog.globalNamed x.1)=[aa 0,aa 1,aa 3,aa 2]:=by kernel_rfl
theorem JbK (h:bn prog Rows.coderAnyRow.laid W):∃ z,W.cell? ⟨2,0,ab⟩=aa (.iface 136 (.pointer (aa z))):=by
 rw [Jcq] at h
 obtain ⟨j,o,_,s⟩:=h
 have t:∀ x ∈ LA,∃ g,prog.globalNamed x.1=aa g/\(prog.globals[g]?).map (·.type)=aa 25:=by
  intro x d
  have:=aN.1 Jcf x d
  split at this
  ·rename_i g y
   exact ⟨g,y,by simpa using this⟩
  ·cases this
 have A:prog.cellsOf 156=1:=by kernel_rfl
 have c9:prog.cellsOf 9=1:=by kernel_rfl
 obtain ⟨ad,B,_⟩:=UX underlying25 z7 underlying136 underlying156 rfl rfl underlying9 A c9 LA j o t s
 have f:∀ i g,(LA.map (fun x=>prog.globalNamed x.1))[i]?=aa (aa g)->W.cell? ⟨g,0,ab⟩=aa (.iface 136 (.pointer (aa (ad i)))):=by
  intro i g d
  rw [ac] at d
  obtain ⟨x,D,E⟩:=ax.1 d
  simpa using aC E (B i x D).2 0
 rw [Jc8] at f
 exact ⟨ad 3,f 3 _ rfl⟩
end
theorem W9 (r:Nat) (f:Nat->ah) (j:Nat) (v:ah):((au r).map f).set j v=(au r).map (fun i=>if i=j then v else f i):=by
 apply List.ext_getElem?
 intro i
 rw [List.getElem?_set,ac,ac]
 by_cases d:i < r
 ·rw [bb d]
  by_cases e:j=i
  ·subst e;simp [d]
  ·have o:¬ i=j:=fun h=>e h.symm
   simp [e,o]
 ·rw [zc (by simpa using d)]
  by_cases e:j=i
  ·subst e;simp [d]
  ·simp [e]
def Qo (w:World) (E:ai) (B g r:Nat) (d:Nat->ah):Prop:=w.ownsRow B E 1 (.slice (aa ⟨g,0,ab⟩) r r) r ((au r).map d)
theorem Qo.made (w:World) (E:ai) (z:ah) (B r:Nat) (d:B<=w.heap.size) (f:r<=1000000):Qo (w.alloc (.cells (bv #[z] r) E)) E B w.heap.size r (fun _=>z):=by
 have h:=bo (base:=B) (e:=E) (size:=1) w (bv #[z] r) r d (by unfold zo;omega) (by have:=congrArg ce (an z r);simpa using this)
 rw [an] at h
 unfold Qo
 rw [bC,List.length_range]
 exact h
theorem Qo.cell   (h:Qo w E B g r d) (j:Nat) (f:j < r):w.cell? ⟨g,j,ab⟩=aa (d j):=by
 rw [aW (w:=w) h j (by omega),ac,bb f]
 rfl
theorem Qo.free   (h:Qo w E B g r d) (j:Nat):w.frozen? ⟨g,j,ab⟩=false:=aO (w:=w) h j
theorem Qo.set   (h:Qo w E B g r d) (j:Nat) (v:ah):Qo (w.setCell ⟨g,j,ab⟩ v) E B g r (fun i=>if i=j then v else d i):=by
 have:=(ze (w:=w) h j v).1
 rw [W9] at this
 exact this
theorem Qo.kept   {row:Option Nat} (h:Qo w E B g r d) (f:w.grownBy w' row) (j:row≠aa g):Qo w' E B g r d :=
 av h f (az (fun e=>j e.symm))
theorem Qo.congr  {f:Nat->ah} (h:Qo w E B g r d) (o:∀ i,i < r->d i=f i):Qo w E B g r f:=by
 unfold Qo
 rw [List.map_congr_left (g:=d) (fun i j=>(o i (aS.1 j)).symm)]
 exact h
theorem Qo.lt   (h:Qo w E B g r d):B<=g/\g < w.heap.size:=aA h g rfl
def hZ (w:World) (p:Option aR) (l:List Int):Prop:=l=[]∨∃ b o,p=aa ⟨b,o,ab⟩/\b < w.heap.size/\∀ i,i < l.length->w.cell? ⟨b,o+i,ab⟩=aa (.int .i64 (l.getD i 0))
theorem hZ.below  {l:List Int} (h:hZ w p l) (f:Below w.heap.size w w'):hZ w' p l:=by
 rcases h with h | ⟨b,o,j,d,s⟩
 ·exact aD h
 ·exact az ⟨b,o,j,ar d f.size,fun i t=>(f.cell (p:=⟨b,o+i,ab⟩) d).trans (s i t)⟩
theorem X3:∀ (l X:List Nat),l.Nodup->(∀ x ∈ l,x ∈ X)->l.length<=X.length
 | [],_,_,_=>cc _
 | a :: t,X,hn,hs=>by
  have d:a ∈ X:=hs a (bf ..)
  have f:=List.nodup_cons.1 hn
  have:=X3 t (X.erase a) f.2 (fun x h=>(List.mem_erase_of_ne (fun e=>f.1 (by rw [<- e];exact h))).2 (hs x (zd _ h)))
  rw [List.length_erase_of_mem d] at this
  have j:=List.length_pos_of_mem d
  simp only [List.length_cons]
  omega
theorem Jcm:(prog.info? 4).map (fun i=>(i.zero,i.size,i.bytes))=aa (aa (.bool false),1,1):=by kernel_rfl
section
open Go.ChangeShapes Go.WideShapes Go.ChangeAt Go.RowKit
theorem Jbx {o:Nat} (h:w.cell? ⟨b,o,ab⟩=aa v):b < w.heap.size:=by
 rcases bk b w.heap.size with d | d
 ·exact d
 ·simp [ch,ay d] at h
theorem RR:laidOutB prog=true:=by kernel_rfl
theorem Jcg {H:Type} {enc:ai×ah->H} {base:Nat} {d:DataW H} {M:List cj} (N:Value.okWide prog W .any base 35 v)
 (h:DataW.Trod enc prog W 0 (fun _=>true) true 35 v d M):∃ p l B,v=.slice p l.length B/\hZ W p l/\l.length<=zo/\∀ i,-9223372036854775808<=l.getD i 0/\l.getD i 0 < 9223372036854775808:=by
 obtain ⟨O,f,y,rfl⟩:=okWide_slice underlying35 N
 obtain ⟨fuel,D⟩:=h
 rcases open_ints underlying35 underlying3 (by kernel_rfl) D with ⟨s,_⟩ | ⟨x,l,c,j,s,_,Q,S,E,_,G,I⟩
 ·simp [Value.cells] at s
  obtain ⟨rfl,rfl,rfl⟩:=s
  exact ⟨ab,[],0,rfl,aD rfl,cc _,fun i=>by simp⟩
 ·simp [Value.cells] at s
  obtain ⟨rfl,rfl,rfl⟩:=s
  have T:j.length=y:=by simpa using E
  have t:(j.take f).length=f:=by simp;omega
  have z:∀ i,i < f->(j.take f).getD i 0=j.getD i 0:=by
   intro i o
   rw [af,af,List.getElem?_take_of_lt o]
  refine ⟨aa x,j.take f,y,by rw [t],?_,by rw [t];omega,fun i=>?_⟩
  ·by_cases J:f=0
   ·exact aD (ag.1 (by rw [t];exact J))
   ·obtain ⟨b,K,rfl,A⟩:=ints_at G (by omega)
    refine az ⟨b,K,rfl,Jbx (A 0 (by omega)),fun i o=>?_⟩
    rw [t] at o
    rw [A i (by omega),z i o]
  ·by_cases o:i < f
   ·rw [z i o]
    have L:j.getD i 0 ∈ j:=by rw [af,ae (by omega)];exact List.getElem_mem _
    have:=bounds_i64 (I _ L)
    omega
   ·rw [af,zc (by rw [t];omega)]
    decide
end
theorem l4 {k:IntKind} {a b:Int} (h:a=b):Ending.returned (.int k a)=.returned (.int k b):=by rw [h]
theorem sB {a b:Bool} (h:a=b):Ending.returned (.bool a)=.returned (.bool b):=by rw [h]
theorem S5 (b k:Nat) (o:b < 256):(bits BinOp.and IntKind.u8 ((b:Int) / 2 ^ k) 1==1)=decide (Gf.bT b k=1):=by
 have d:((b:Int) / 2 ^ k)=((b / 2 ^ k:Nat):Int):=by simp
 have f:b / 2 ^ k < 256:=be (bB _ _) o
 have j:bits BinOp.and IntKind.u8 ((b / 2 ^ k:Nat):Int) 1=((b / 2 ^ k % 2:Nat):Int):=by
  have:=u8_and_nat (b / 2 ^ k) 1 f (by decide)
  rw [Nat.and_one_is_mod] at this
  exact this
 rw [d,j]
 unfold Gf.bT
 rcases am (b / 2 ^ k) with h | h <;> rw [h] <;> rfl
theorem Jnr (b k:Nat) (o:b < 256):(bits BinOp.and IntKind.i64 ((b:Int) / 2 ^ k) 1==1)=decide (Gf.bT b k=1):=by
 have d:((b:Int) / 2 ^ k)=((b / 2 ^ k:Nat):Int):=by simp
 have f:b / 2 ^ k < 256:=be (bB _ _) o
 have j:bits BinOp.and IntKind.i64 ((b / 2 ^ k:Nat):Int) 1=((b / 2 ^ k % 2:Nat):Int):=by
  have:=bits_mask IntKind.i64 8 (by decide) (fun n s d=>by rw [IntKind.wrap_i64];omega) 1 (by decide) ((b / 2 ^ k:Nat):Int) (Int.natCast_nonneg _) (by exact_mod_cast f)
  rw [show ((2:Int) ^ 1 - 1)=1 from rfl] at this
  rw [this]
  rfl
 rw [d,j]
 unfold Gf.bT
 rcases am (b / 2 ^ k) with h | h <;> rw [h] <;> rfl
def red (n:Int):Nat:=(n % 255).toNat
theorem M4 (n:Int):((red n:Nat):Int)=n % 255:=by unfold red;omega
theorem UP (n:Int):red n < 255:=by unfold red;omega
theorem H7 (n:Int):n.tmod 255=-((-n).tmod 255):=by rw [Int.neg_tmod,Int.neg_neg]
theorem sT (a b:Nat) (d:a < 2 ^ 62) (f:b < 2 ^ 62):bits .xor .i64 (a:Int) (b:Int)=((a ^^^ b:Nat):Int):=by
 have h:a ^^^ b < 2 ^ 62:=Nat.xor_lt_two_pow d f
 show IntKind.i64.wrap ((BitVec.ofInt 64 (a:Int) ^^^ BitVec.ofInt 64 (b:Int)).toNat:Int)=_
 rw [BitVec.toNat_xor,BitVec.ofInt_natCast,BitVec.ofInt_natCast,BitVec.toNat_ofNat,BitVec.toNat_ofNat,bu (by omega),bu (by omega),IntKind.wrap_i64]
 omega
theorem z8 (n:Nat) (h:n < 2 ^ 62):wrap64 (n:Int)=(n:Int):=by
 unfold wrap64;omega
theorem x4 (b k:Nat):(((b:Int) / 2 ^ k).tmod 2==1)=decide (Gf.bT b k=1):=by
 have d:((b:Int) / 2 ^ k)=((b / 2 ^ k:Nat):Int):=by simp
 rw [d,Int.tmod_eq_emod_of_nonneg (Int.natCast_nonneg _)]
 unfold Gf.bT
 have f:(((b / 2 ^ k:Nat):Int) % 2)=((b / 2 ^ k % 2:Nat):Int):=by simp
 rw [f]
 rcases am (b / 2 ^ k) with h | h <;> rw [h] <;> rfl
structure jU (w:World) (p:Option aR) (l:List Nat):Prop where
 lt:Gf.Bytes l
 cells:l=[]∨∃ b o,p=aa ⟨b,o,ab⟩/\b < w.heap.size/\∀ i,i < l.length->w.cell? ⟨b,o+i,ab⟩=aa (.int .u8 ((Gf.nth l i:Nat):Int))
theorem jU.drewN  (h:jU w p l) (n:Nat):jU (w.drewN n) p l:=⟨h.lt,h.cells⟩
theorem jU.below  (h:jU w p l) (f:Below w.heap.size w w'):jU w' p l:=by
 refine ⟨h.lt,?_⟩
 rcases h.cells with h | ⟨b,o,j,d,s⟩
 ·exact aD h
 ·exact az ⟨b,o,j,ar d f.size,fun i t=>(f.cell (p:=⟨b,o+i,ab⟩) d).trans (s i t)⟩
def QJ (w:World) (p:Option aR) (M:List (List Nat)):Prop :=
 M=[]∨∃ b o,p=aa ⟨b,o,ab⟩/\b < w.heap.size/\∀ i,i < M.length->∃ q c,w.cell? ⟨b,o+i,ab⟩=aa (.slice q (Qh M i).length c)/\jU w q (Qh M i)/\(q=ab->c=0)
theorem QJ.below  (h:QJ w p M) (d:Below w.heap.size w w'):QJ w' p M:=by
 rcases h with h | ⟨b,o,s,f,t⟩
 ·exact aD h
 ·refine az ⟨b,o,s,ar f d.size,fun i y=>?_⟩
  obtain ⟨q,c,z,j⟩:=t i y
  exact ⟨q,c,(d.cell (p:=⟨b,o+i,ab⟩) f).trans z,j.1.below d,j.2⟩
theorem QJ.drewN  (h:QJ w p M) (n:Nat):QJ (w.drewN n) p M:=h.below (bz (aw _ _) n)
def Jdi (M:List (List Nat)):Bool:=decide (40 < M.length) || !decide (∀ i,i < M.length->(Qh M i).length<=40)
def jQ (M:List (List Nat)):Prop:=1<=M.length/\M.length<=16/\∀ i,i < M.length->1<=(Qh M i).length/\(Qh M i).length<=16/\(Qh M i).length=(Qh M 0).length
section
def ZM (n:Nat):Value:=.int .u8 (n:Int)
def Qu (w:World) (B:Nat) (e:ai) (v:ah) (l:List Nat):Prop:=w.ownsRow B e 1 v l.length (l.map ZM)
theorem Qu.nil (w:World) (B:Nat) (e:ai):Qu w B e (.slice ab 0 0) []:=aI w B e 1
theorem Qu.kept   {row:Option Nat} (h:Qu w B e v l) (d:w.grownBy w' row) (f:v.ownBlock=ab∨v.ownBlock≠row):Qu w' B e v l:=av h d f
theorem Qu.block   (h:Qu w B e v l) (d:v.ownBlock=aa k):B<=k/\k < w.heap.size:=aA h k d
theorem JO (w:World) (n:Nat) (row:Option Nat):w.grownBy (w.drewN n) row:=⟨rfl,rfl,rfl,aB _,fun _ _ _=>rfl⟩
theorem Qu.s8   (h:Qu w B e v l) (o:Gf.Bytes l):∃ p d,v=.slice p l.length d/\jU w p l:=by
 rcases h.2 with ⟨rfl,s⟩ | ⟨g,d,y,rfl,z,t,A,D,E,G⟩
 ·have:l=[]:=ag.1 s
  subst this
  exact ⟨ab,0,rfl,o,aD rfl⟩
 ·refine ⟨aa ⟨g,0,ab⟩,d,rfl,o,az ⟨g,0,rfl,(ao.1 t).1,fun i f=>?_⟩⟩
  have j:=ap (g:=g) h rfl i (ZM (Gf.nth l i)) (by rw [ac,ae f,Gf.aK l i f];rfl)
  rw [Addr.add_lit] at j
  exact j
section
variable {P:b6} {w:World}
theorem Jbn (B:Nat) (t o e:ai) (i:zf) (z:ah) (D:P.underlying t=aa (.slice e)) (E:P.info? e=aa i) (K:i.zero=aa z) (h:i.size=1) (L:i.bytes=1)
 (v:ah) (l:List Nat) (G:Qu w B e v l) (ad:aR) (c b:Nat) (S:w.cell? ad=aa (ZM b)) (Z:l.length+1<=1000000) {H:ah} 
 (d:(aq #[t,t] o #[v,.slice (aa ad) 1 c]).run P w=.ok H w'):H.ownBlock=v.ownBlock∨H.ownBlock=aa w.heap.size:=by
 have s:∀ j u,[ZM b][j]?=aa u->w.cell? (ad.add j)=aa u:=by
  intro j u y
  match j,y with
  | 0,y =>
   obtain rfl:ZM b=u:=by simpa using y
   simpa [Addr.add] using S
 rcases G.2 with ⟨rfl,T⟩ | ⟨g,A,M,rfl,U,N,V,W,O,Y⟩
 ·have:=zn (P:=P) w t o e i z D E K ad 1 c [ZM b] (by rw [h];rfl) s (by decide) (by decide) (by rw [L];decide)
  rw [this] at d
  injection d with f I
  subst f
  exact az rfl
 ·by_cases J:l.length+1<=A
  ·have:=zh (P:=P) w t o e i D E g l.length A M N ad 1 c [ZM b] (by rw [h];rfl) s (fun u Q=>by rw [aj.1 Q];rfl) J (by rw [h,O];simpa using J)
   rw [this] at d
   injection d with f I
   subst f
   exact aD rfl
  ·have:=zi (P:=P) w t o e i z D E K ⟨g,0,ab⟩ l.length A (l.map ZM) (by rw [h];exact G.1) (ap (g:=g) G rfl) ad 1 c [ZM b] (by rw [h];rfl) s (by omega) (by omega) (bO (by omega) (by rw [L];omega))
   rw [this] at d
   injection d with f I
   subst f
   exact az rfl
theorem Ja6  {K:Act->World->Prop} (s x:b7) (t:ai)
 (T:o.op=.call { callee:=.builtin .append,args:=#[s,x],argTypes:=#[t,t] })
 (B:Nat) (e:ai) (i:zf) (z:P.underlying t=aa (.slice e)) (A:P.info? e=aa i) (D:i.zero=aa (ZM 0)) (E:i.size=1) (G:i.bytes=1)
 (v:ah) (l:List Nat) (U:a.eval s=v) (H:Qu w B e v l) (ad:aR) (c b:Nat) (V:a.eval x=.slice (aa ad) 1 c) (I:w.cell? ad=aa (ZM b)) (W:l.length+1<=1000000) (Y:B<=w.heap.size)
 (h:∀ d w',Qu w' B e d (l ++ [b])->w.grownBy w' v.ownBlock->(d.ownBlock=v.ownBlock∨d.ownBlock=aa w.heap.size)->K (a.put o.dst d) w'):o.wp P a w K Q:=by
 have J:∀ j u,[ZM b][j]?=aa u->w.cell? (ad.add j)=aa u:=by
  intro j u f
  match j,f with
  | 0,f =>
   obtain rfl:ZM b=u:=by simpa using f
   simpa [Addr.add] using I
 obtain ⟨d,w',y,L,M,_⟩:=zm (P:=P) w B t o.type e i (ZM 0) 1 1 z A D E G rfl (by decide) v l.length (l.map ZM) H ad 1 c [ZM b] rfl J (fun u N=>by rw [aj.1 N];rfl) (by unfold zo;omega) (by omega) Y
 have O:=Jbn B t o.type e i (ZM 0) z A D E G v l H ad c b I W y
 have S:Qu w' B e d (l ++ [b]):=by
  unfold Qu
  rw [aE,List.map_append]
  exact L
 unfold Oper.wp execOp
 simp only [T,resolve,invoke,builtin,Sem.run_bind,Sem.run_pure,aJ,aM,bc,bl,U,V,y]
 exact h d w' S M O
theorem O6 {f:Array cG} {j:List cG}  (E:o.guard=ab) (s x:b7) (t:ai)
 (G:o.op=.call { callee:=.builtin .append,args:=#[s,x],argTypes:=#[t,t] })
 (B:Nat) (e:ai) (i:zf) (H:P.underlying t=aa (.slice e)) (I:P.info? e=aa i) (J:i.zero=aa (ZM 0)) (K:i.size=1) (L:i.bytes=1)
 (v:ah) (l:List Nat) (M:a.eval s=v) (N:Qu w B e v l) (ad:aR) (c b:Nat) (O:a.eval x=.slice (aa ad) 1 c) (S:w.cell? ad=aa (ZM b)) (T:l.length+1<=1000000) (U:B<=w.heap.size)
 (h:∀ d w',Qu w' B e d (l ++ [b])->w.grownBy w' v.ownBlock->(d.ownBlock=v.ownBlock∨d.ownBlock=aa w.heap.size)->zk P f Q j (a.put o.dst d) w'):zk P f Q (o :: j) a w :=
 bm E fun _ y=>Ja6 s x t G B e i H I J K L v l M N ad c b O S T U fun d w' z A D=>y _ _ (h d w' z A D)
end
end
def o2 (M:List (List Nat)):Bool:=decide (1<=M.length/\M.length<=16) && (au M.length).all fun i=>decide (1<=(Qh M i).length/\(Qh M i).length<=16/\(Qh M i).length=(Qh M 0).length)
theorem D9 (M:List (List Nat)):o2 M=true↔jQ M:=by
 unfold o2 jQ
 simp only [Bool.and_eq_true,decide_eq_true_eq,aN,aS]
 exact ⟨fun h=>⟨h.1.1,h.1.2,h.2⟩,fun h=>⟨⟨h.1,h.2.1⟩,h.2.2⟩⟩
theorem JcA (h:¬ jQ M):o2 M=false:=by
 cases e:o2 M with
 | false=>rfl
 | true=>exact absurd ((D9 M).1 e) h
theorem KF:(prog.info? 5).map (fun i=>(i.zero,i.size,i.bytes))=aa (aa (ZM 0),1,1):=by kernel_rfl
def JB (k:Nat):List Nat:=au k
section
def JM (w:World) (B:Nat) (e:ai) (v:ah) (d:List ah):Prop:=w.ownsRow B e 1 v d.length d
theorem JM.nil (w:World) (B:Nat) (e:ai):JM w B e (.slice ab 0 0) []:=aI w B e 1
theorem JM.kept   {l:List ah} {row:Option Nat} (h:JM w B e v l) (d:w.grownBy w' row) (f:v.ownBlock=ab∨v.ownBlock≠row):JM w' B e v l:=av h d f
theorem JM.block   {l:List ah} (h:JM w B e v l) (d:v.ownBlock=aa k):B<=k/\k < w.heap.size:=aA h k d
theorem JM.cells   {l:List ah} (h:JM w B e v l):v=.slice ab 0 0/\l=[]∨∃ g d,v=.slice (aa ⟨g,0,ab⟩) l.length d/\B<=g/\g < w.heap.size/\∀ i u,l[i]?=aa u->w.cell? ⟨g,i,ab⟩=aa u:=by
 rcases h.2 with ⟨rfl,j⟩ | ⟨g,d,y,rfl,o,s,z,A,D,E⟩
 ·exact aD ⟨rfl,ag.1 j⟩
 ·refine az ⟨g,d,rfl,o,(ao.1 s).1,fun i u t=>?_⟩
  have f:=ap (g:=g) h rfl i u t
  rw [Addr.add_lit,zu] at f
  exact f
section
variable {P:b6} {w:World}
theorem R2 (B:Nat) (t o e:ai) (i:zf) (z:ah) (D:Nat) (E:P.underlying t=aa (.slice e)) (G:P.info? e=aa i) (L:i.zero=aa z) (h:i.size=1) (M:i.bytes=D) (T:D<=64)
 (v:ah) (l:List ah) (H:JM w B e v l) (ad:aR) (c:Nat) (u:ah) (U:u.oneCell'=true) (V:w.cell? ad=aa u) (W:l.length+1<=1000000) {I:ah} 
 (d:(aq #[t,t] o #[v,.slice (aa ad) 1 c]).run P w=.ok I w'):I.ownBlock=v.ownBlock∨I.ownBlock=aa w.heap.size:=by
 have s:∀ j x,[u][j]?=aa x->w.cell? (ad.add j)=aa x:=by
  intro j x y
  match j,y with
  | 0,y =>
   obtain rfl:u=x:=by simpa using y
   simpa [Addr.add] using V
 rcases H.2 with ⟨rfl,Y⟩ | ⟨g,A,N,rfl,Z,O,a0,a1,Q,a2⟩
 ·have:=zn (P:=P) w t o e i z E G L ad 1 c [u] (by rw [h];rfl) s (by decide) (by decide) (by rw [M];omega)
  rw [this] at d
  injection d with f J
  subst f
  exact az rfl
 ·by_cases K:l.length+1<=A
  ·have:=zh (P:=P) w t o e i E G g l.length A N O ad 1 c [u] (by rw [h];rfl) s (fun x S=>by rw [aj.1 S];exact U) K (by rw [h,Q];simpa using K)
   rw [this] at d
   injection d with f J
   subst f
   exact aD rfl
  ·have a3:(l.length+1)*D<=1000000*64:=zj W T
   have:=zi (P:=P) w t o e i z E G L ⟨g,0,ab⟩ l.length A l (by rw [h];exact H.1) (ap (g:=g) H rfl) ad 1 c [u] (by rw [h];rfl) s (by omega) (by omega) (bO (by omega) (by rw [M];omega))
   rw [this] at d
   injection d with f J
   subst f
   exact az rfl
theorem yL {E:Array cG} {G:List cG}  (a0:o.guard=ab) (s x:b7) (t:ai)
 (ho:o.op=.call { callee:=.builtin .append,args:=#[s,x],argTypes:=#[t,t] })
 (B:Nat) (e:ai) (i:zf) (z:ah) (f:Nat) (H:P.underlying t=aa (.slice e)) (I:P.info? e=aa i) (J:i.zero=aa z) (a1:z.cells.size=1) (L:i.size=1) (M:i.bytes=f) (N:f<=64)
 (v:ah) (l:List ah) (hs:a.eval s=v) (O:JM w B e v l) (ad:aR) (c:Nat) (u:ah) (S:u.oneCell'=true) (A:a.eval x=.slice (aa ad) 1 c) (T:w.cell? ad=aa u) (U:l.length+1<=1000000) (a2:B<=w.heap.size)
 (h:∀ d w',JM w' B e d (l ++ [u])->w.grownBy w' v.ownBlock->(d.ownBlock=v.ownBlock∨d.ownBlock=aa w.heap.size)->zk P E Q G (a.put o.dst d) w'):zk P E Q (o :: G) a w:=by
 have V:∀ j x,[u][j]?=aa x->w.cell? (ad.add j)=aa x:=by
  intro j x y
  match j,y with
  | 0,y =>
   obtain rfl:u=x:=by simpa using y
   simpa [Addr.add] using T
 have a3:(l.length+1)*f<=1000000*64:=zj U N
 refine bm a0 fun K W=>?_
 obtain ⟨d,w',D,Y,Z,_⟩:=zm (P:=P) w B t o.type e i z 1 f H I J L M a1 (by decide) v l.length l O ad 1 c [u] rfl V (fun x A=>by rw [aj.1 A];exact S) (by unfold zo;omega) (by omega) a2
 have h4:=R2 B t o.type e i z f H I J L M N v l O ad c u S T U D
 have h5:JM w' B e d (l ++ [u]):=by
  unfold JM
  rw [aE]
  exact Y
 unfold Oper.wp execOp
 simp only [ho,resolve,invoke,builtin,Sem.run_bind,Sem.run_pure,aJ,aM,bc,bl,hs,A,D]
 exact W _ _ (h d w' h5 Z h4)
theorem Jco {H:Array cG} {I:List cG}  (J:o.guard=ab) (s x:b7) (t:ai)
 (L:o.op=.call { callee:=.builtin .append,args:=#[s,x],argTypes:=#[t,t] })
 (e:ai) (i:zf) (z:P.underlying t=aa (.slice e)) (A:P.info? e=aa i) (Z:i.zero=aa (ZM 0)) (a0:i.size=1) (a1:i.bytes=1)
 (M:a.eval s=.slice ab 0 0) (q:Option aR) (r:List Nat) (c:Nat) (B:a.eval x=.slice q r.length c) (hq:jU w q r) (hl:r.length<=1000000) (a2:q=ab->c=0)
 (h:∀ d w',Qu w' w.heap.size e d r->Below w.heap.size w w'->zk P H Q I (a.put o.dst d) w'):zk P H Q (o :: I) a w:=by
 rcases hq.cells with f | ⟨b,N,rfl,hb,O⟩
 ·subst f
  refine bm J fun K S=>?_
  have f:(aq #[t,t] o.type #[.slice ab 0 0,.slice q 0 c]).run P w=.ok (.slice ab 0 0) w:=by
   cases q with
   | none=>obtain rfl:=a2 rfl;simp [aq,zl z,sizeOf,typeInfo,A,zt,bi]
   | some ad=>simp [aq,zl z,sizeOf,typeInfo,A,zt,bi,bY,loadCellsFrom]
  unfold Oper.wp execOp
  simp only [bD] at B
  simp only [L,resolve,invoke,builtin,Sem.run_bind,Sem.run_pure,aJ,aM,bc,bl,M,B,f]
  exact S _ _ (h _ _ (Qu.nil w _ e) (aw _ _))
 ·refine wpList_append_own w J s x t L w.heap.size e i (ZM 0) 1 1 z A Z a0 a1 rfl (by decide) (.slice ab 0 0) 0 [] M (aI w _ e 1) ⟨b,N,ab⟩ r.length c (r.map ZM) B (by simp) ?_ ?_ (by unfold zo;omega) (by omega) (aB _) ?_
  ·intro j u D
   rw [ac] at D
   obtain ⟨y,E,T⟩:=ax.1 D
   have G:j < r.length:=(za.1 E).1
   rw [Addr.add_lit,O j G,Gf.aK r j G,<- T]
   have:r[j]=y:=(za.1 E).2
   rw [this]
   rfl
  ·intro u U
   obtain ⟨y,_,rfl⟩:=List.mem_map.1 U
   rfl
  ·intro d w' V W _
   refine h d w' ?_ ((aw _ _).grown W (aB _) (fun k Y=>by simp [Value.ownBlock] at Y))
   simpa [Qu] using V
end
end
theorem jU.kept  {row:Option Nat} (h:jU w q l) (j:w.grownBy w' row) (y:∀ ad,q=aa ad->aa ad.block≠row):jU w' q l:=by
 refine ⟨h.lt,?_⟩
 rcases h.cells with h | ⟨b,o,d,f,s⟩
 ·exact aD h
 ·refine az ⟨b,o,d,ar f j.size,fun i t=>?_⟩
  exact (World.cell?_of_block (a:=⟨b,o+i,ab⟩) (j.block b f (y _ d))).trans (s i t)
def nP (B:Nat) (w:World) (e:ai) (v:ah) (d:List ah) (M:List (List Nat)):Prop :=
 JM w B e v d/\d.length=M.length/\∀ i,i < M.length->∃ q c,d[i]?=aa (.slice q (Qh M i).length c)/\jU w q (Qh M i)/\(q=ab->c=0)/\∀ ad,q=aa ad->B<=ad.block/\ad.block < w.heap.size/\v.ownBlock≠aa ad.block
def k0 (B:Nat) (w:World) (e:ai) (v:ah) (M:List (List Nat)):Prop:=∃ d,nP B w e v d M
theorem k0.nil (B:Nat) (w:World) (e:ai):k0 B w e (.slice ab 0 0) []:=⟨[],JM.nil w B e,rfl,fun _ d=>absurd d (bA _)⟩
theorem Qu.form   (h:Qu w B e v l) (d:Gf.Bytes l):∃ q c,v=.slice q l.length c/\jU w q l/\(q=ab->c=0)/\∀ ad,q=aa ad->B<=ad.block/\ad.block < w.heap.size:=by
 rcases h.2 with ⟨rfl,f⟩ | ⟨g,j,A,rfl,o,s,D,E,G,H⟩
 ·have:l=[]:=ag.1 f
  subst this
  exact ⟨ab,0,rfl,⟨d,aD rfl⟩,fun _=>rfl,fun ad h=>by cases h⟩
 ·refine ⟨aa ⟨g,0,ab⟩,j,rfl,?_,(fun h=>by cases h),(fun ad h=>by injection h with h;subst h;exact ⟨o,(ao.1 s).1⟩)⟩
  obtain ⟨p,c,t,y⟩:=h.s8 d
  injection t with z I J
  subst z
  exact y
theorem nP.snoc {f z:World} {A r:ah} {J:List ah} {row:List Nat} {o:Obj} (h:nP B w T v J M) (hB:B<=w.heap.size) (Y:Qu f w.heap.size E r row) (Z:Gf.Bytes row) (Q:Below w.heap.size w f)
 (hv:JM z B T A (J ++ [r]))
 (t:(f.alloc o).grownBy z v.ownBlock) (d:A.ownBlock=v.ownBlock∨A.ownBlock=aa (f.alloc o).heap.size):nP B z T A (J ++ [r]) (M ++ [row]):=by
 obtain ⟨S,K,U⟩:=h
 have hz:=Q.size
 have L:(f.alloc o).heap.size=f.heap.size+1:=by simp
 have N:∀ k,v.ownBlock=aa k->k < w.heap.size:=fun k D=>(S.block D).2
 have y:f.grownBy z v.ownBlock:=⟨t.os,t.tape,t.output,by have:=t.size;omega,fun k D V=>(t.block k (by omega) V).trans (Below.heap_alloc f o k D)⟩
 refine ⟨hv,by simp [K],fun i W=>?_⟩
 rw [aE,List.length_singleton] at W
 by_cases O:i < M.length
 ·obtain ⟨q,c,G,H,I,s⟩:=U i O
  rw [Zx M row i O]
  refine ⟨q,c,by rw [List.getElem?_append_left (by omega)];exact G,(H.below Q).kept y (fun ad j=>fun e=>(s ad j).2.2 e.symm),I,fun ad j=>?_⟩
  have:=s ad j
  refine ⟨this.1,by have:=y.size;omega,?_⟩
  rcases d with d | d
  ·rw [d];exact this.2.2
  ·rw [d,L];intro e;have:=ak e;omega
 ·obtain rfl:i=M.length:=by omega
  rw [X4]
  obtain ⟨q,c,G,H,I,s⟩:=Y.form Z
  refine ⟨q,c,by rw [List.getElem?_append_right (by omega),K,Nat.sub_self,G];rfl,H.kept y (fun ad j=>?_),I,fun ad j=>?_⟩
  ·have:=s ad j
   intro e
   have:=N _ e.symm
   omega
  ·have:=s ad j
   refine ⟨by omega,by have:=y.size;omega,?_⟩
   rcases d with d | d
   ·rw [d];intro e;have:=N _ e;omega
   ·rw [d,L];intro e;have:=ak e;omega
theorem k0.tU   (h:k0 B w T v M):∃ p c,v=.slice p M.length c/\QJ w p M:=by
 obtain ⟨E,f,d,j⟩:=h
 rcases f.cells with ⟨rfl,rfl⟩ | ⟨g,o,rfl,G,s,t⟩
 ·have:M=[]:=ag.1 (by simpa using d.symm)
  subst this
  exact ⟨ab,0,rfl,aD rfl⟩
 ·refine ⟨aa ⟨g,0,ab⟩,o,by rw [d],az ⟨g,0,rfl,s,fun i y=>?_⟩⟩
  obtain ⟨q,c,z,A,D,_⟩:=j i y
  refine ⟨q,c,?_,A,D⟩
  rw [zu]
  exact t i _ z
theorem s4:(prog.info? 32).map (fun i=>(i.zero,i.size,i.bytes))=aa (aa (.slice ab 0 0),1,24):=by kernel_rfl
def Zo (w:World) (B:Nat) (E:ai) (g n:Nat) (l:List Nat):Prop:=w.ownsRow B E 1 (.slice (aa ⟨g,0,ab⟩) n n) n (l.map ZM)
theorem Zo.made (w:World) (B:Nat) (E:ai) (n:Nat) (d:B<=w.heap.size) (f:n<=1000000):Zo (w.alloc (.cells (bv #[ZM 0] n) E)) B E w.heap.size n (Qi n fun _=>0):=by
 have h:=bo (base:=B) (e:=E) (size:=1) w (bv #[ZM 0] n) n d (by unfold zo;omega) (by have:=congrArg ce (an (ZM 0) n);simpa using this)
 rw [an] at h
 have e:(Qi n fun _=>0).map ZM=List.replicate n (ZM 0):=by
  simp [Qi,bC]
 unfold Zo
 rw [e]
 exact h
theorem Zo.cell   (h:Zo w B E g n l) (j:Nat) (d:j < n) (f:l.length=n):w.cell? ⟨g,j,ab⟩=aa (.int .u8 ((Gf.nth l j:Nat):Int)):=by
 rw [aW (w:=w) h j (by omega),ac,ae (by omega),Gf.aK l j (by omega)]
 rfl
theorem Zo.free   (h:Zo w B E g n l) (j:Nat):w.frozen? ⟨g,j,ab⟩=false:=aO (w:=w) h j
theorem Zo.set   {f:Nat->Nat} (h:Zo w B E g n (Qi n f)) (j v:Nat):Zo (w.setCell ⟨g,j,ab⟩ (.int .u8 (v:Int))) B E g n (Qi n (fun i=>if i=j then v else f i)):=by
 have:=(ze (w:=w) h j (ZM v)).1
 rw [<- List.map_set,Jp6] at this
 exact this
theorem Zo.drewN   (h:Zo w B E g n l) (m:Nat):Zo (w.drewN m) B E g n l:=av h (JO w m ab) (az (by simp [Value.ownBlock]))
theorem Zo.own   (h:Zo w B E g n l) (d:l.length=n):Qu w B E (.slice (aa ⟨g,0,ab⟩) n n) l:=by
 unfold Qu
 rw [d]
 exact h
theorem Zo.lt   (h:Zo w B E g n l):B<=g/\g < w.heap.size:=aA h g rfl
def jM (A B:List (List Nat)) (i j:Nat):Nat->Nat
 | 0=>0
 | k+1=>jM A B i j k ^^^ Gf.mul (Gf.nth (Qh A i) k) (Gf.nth (Qh B k) j)
def xW (A B:List (List Nat)) (m:Nat):List (List Nat):=(au m).map fun i=>Qi (Qh B 0).length fun j=>jM A B i j B.length
theorem JcQ (A B:List (List Nat)) (m:Nat):xW A B (m+1)=xW A B m ++ [Qi (Qh B 0).length fun j=>jM A B m j B.length]:=by simp [xW,List.range_succ]
theorem JcC (A B:List (List Nat)) (m:Nat):(xW A B m).length=m:=by simp [xW]
def QR (M:List (List Nat)):Prop:=∀ i,Gf.Bytes (Qh M i)
theorem o8 (A B:List (List Nat)) (d:QR A) (i j:Nat):∀ k,jM A B i j k < 256
 | 0=>by show 0 < 256;decide
 | k+1=>Gf.iK (o8 A B d i j k) (Gf.aV (d i k) _)
theorem QJ.row  (h:QJ w p M) {i:Nat} (s:i < M.length) (t:0 < (Qh M i).length) :
 ∃ b o d f c,p=aa ⟨b,o,ab⟩/\b < w.heap.size/\d < w.heap.size/\w.cell? ⟨b,o+i,ab⟩=aa (.slice (aa ⟨d,f,ab⟩) (Qh M i).length c)/\∀ j,j < (Qh M i).length->w.cell? ⟨d,f+j,ab⟩=aa (.int .u8 ((Gf.nth (Qh M i) j:Nat):Int)):=by
 rcases h with h | ⟨b,o,y,z,A⟩
 ·rw [h] at s;exact absurd s (bA _)
 ·obtain ⟨q,c,B,D,_⟩:=A i s
  rcases D.cells with E | ⟨d,f,G,H,I⟩
  ·rw [E] at t;exact absurd t (Nat.lt_irrefl _)
  ·subst G
   exact ⟨b,o,d,f,c,y,z,H,B,I⟩
theorem oC (a b:Nat) (w:World) (d:a < 256) (f:b < 256) :
 zb prog 69 #[.int .u8 (a:Int),.int .u8 (b:Int)] w fun e w'=>e=.returned (.int .u8 ((a ^^^ b:Nat):Int))/\w'=w:=by
 go_enter func69,ntmps69
 go_wp2
 go_ret
 exact ⟨l4 (u8_xor_nat a b d f),rfl⟩
theorem CP (a:Nat) (w:World) (d:a < 256)  :
 zb prog 75 #[.int .u8 (a:Int)] w fun e w'=>e=.returned (.int .u8 ((Gf.tx a:Nat):Int))/\w'=w:=by
 by_cases h:a < 128
 ·go_enter func75,ntmps75
  go_wp2
  go_ret
  exact ⟨l4 (by simp [Gf.tx,h]),rfl⟩
 ·go_enter func75,ntmps75
  go_wp2_with fail
  have e:((a:Int)*2 % 256)=((a*2 - 256:Nat):Int):=by omega
  rw [e]
  refine (oC (a*2 - 256) 29 _ (by omega) (by decide)).mono ?_
  rintro e w' ⟨rfl,rfl⟩
  go_wp2
  go_ret
  exact ⟨l4 (by simp [Gf.tx,h]),rfl⟩
theorem k1 (a b:Nat) (w:World) (s:a < 256) (y:b < 256) :
 zb prog 61 #[.int .u8 (a:Int),.int .u8 (b:Int)] w fun e w'=>e=.returned (.int .u8 ((Gf.mul a b:Nat):Int))/\w'=w:=by
 go_enter func61,ntmps61
 go_wp2
 go_loop [0,5,7] (fun x p i=>∃ k:Nat,k<=8/\i=.int .i64 k/\x=.int .u8 (Gf.dP a k:Nat)/\p=.int .u8 (Gf.part a b k:Nat)) (fun _ _ i=>8 - (intOf i).toNat)
 case atStart=>exact ⟨0,by omega,rfl,rfl,rfl⟩
 case round =>
  obtain ⟨k,z,rfl,rfl,rfl⟩:=hrel
  have f:=Gf.b0 s k
  have j:=Gf.eF s b k
  have o:=S5 b k y
  by_cases A:k < 8
  ·by_cases d:Gf.bT b k=1
   ·have h:Hid (Gf.part a b (k+1)=Gf.part a b k ^^^ Gf.dP a k):=by show _=_;simp [Gf.part,d]
    rw [decide_eq_true d] at o
    clear d
    go_wp2_with (first | (go_at_call 69;refine (oC _ _ _ j f).mono ?_;rintro e w' ⟨rfl,rfl⟩) | (go_at_call 75;refine (CP _ _ f).mono ?_;rintro e w' ⟨rfl,rfl⟩))
    go_round
    case rel=>exact ⟨k+1,by omega,by go_num,rfl,by rw [h.out]⟩
    case measure=>simp [intOf];omega
   ·have h:Hid (Gf.part a b (k+1)=Gf.part a b k):=by show _=_;simp [Gf.part,d]
    rw [decide_eq_false d] at o
    clear d
    go_wp2_with (first | (go_at_call 69;refine (oC _ _ _ j f).mono ?_;rintro e w' ⟨rfl,rfl⟩) | (go_at_call 75;refine (CP _ _ f).mono ?_;rintro e w' ⟨rfl,rfl⟩))
    go_round
    case rel=>exact ⟨k+1,by omega,by go_num,rfl,by rw [h.out]⟩
    case measure=>simp [intOf];omega
  ·go_wp2
   go_ret
   have t:k=8:=by omega
   subst t
   exact ⟨rfl,rfl⟩
theorem vW (a n:Nat) (w:World) (t:a < 256) (y:n < 256) :
 zb prog 56 #[.int .u8 (a:Int),.int .i64 (n:Int)] w fun e w'=>e=.returned (.int .u8 ((Gf.fM a n:Nat):Int))/\w'=w:=by
 go_enter func56,ntmps56
 go_wp2
 go_loop [0,5,7] (fun x p i=>∃ k:Nat,k<=8/\i=.int .i64 k/\x=.int .u8 (Gf.sq a k:Nat)/\p=.int .u8 (Gf.pw a n k:Nat)) (fun _ _ i=>8 - (intOf i).toNat)
 case atStart=>exact ⟨0,by omega,rfl,rfl,rfl⟩
 case round =>
  obtain ⟨k,z,rfl,rfl,rfl⟩:=hrel
  have f:=Gf.qI t k
  have o:=Gf.lL (a:=a) n k
  have j:=Jnr n k y
  by_cases A:k < 8
  ·by_cases d:Gf.bT n k=1
   ·have h:Hid (Gf.pw a n (k+1)=Gf.mul (Gf.pw a n k) (Gf.sq a k)):=by show _=_;simp [Gf.pw,d]
    rw [decide_eq_true d] at j
    clear d
    go_wp2_with fail
    refine (k1 _ _ _ o f).mono ?_
    rintro e w' ⟨rfl,rfl⟩
    go_wp2_with fail
    refine (k1 _ _ _ f f).mono ?_
    rintro e w' ⟨rfl,rfl⟩
    go_wp2
    go_round
    case rel=>exact ⟨k+1,by omega,by go_num,rfl,by rw [h.out]⟩
    case measure=>simp [intOf];omega
   ·have h:Hid (Gf.pw a n (k+1)=Gf.pw a n k):=by show _=_;simp [Gf.pw,d]
    rw [decide_eq_false d] at j
    clear d
    go_wp2_with fail
    refine (k1 _ _ _ f f).mono ?_
    rintro e w' ⟨rfl,rfl⟩
    go_wp2
    go_round
    case rel=>exact ⟨k+1,by omega,by go_num,rfl,by rw [h.out]⟩
    case measure=>simp [intOf];omega
  ·go_wp2
   go_ret
   have s:k=8:=by omega
   subst s
   exact ⟨rfl,rfl⟩
theorem JmA (a:Nat) (w:World) (d:a < 256) :
 zb prog 89 #[.int .u8 (a:Int)] w fun e w'=>e=.returned (.int .u8 ((Gf.inv a:Nat):Int))/\w'=w:=by
 go_enter func89,ntmps89
 go_wp2_with fail
 refine (vW a 254 _ d (by decide)).mono ?_
 rintro e w' ⟨rfl,rfl⟩
 go_wp2
 go_ret
 exact ⟨rfl,rfl⟩
theorem AX (n:Int) (w:World) :
 zb prog 57 #[.int .i64 n] w fun e w'=>e=.returned (.int .i64 ((red n:Nat):Int))/\w'=w:=by
 have f:Hid (((red n:Nat):Int)=n % 255):=M4 n
 by_cases h:0<=n
 ·go_enter func57,ntmps57
  go_wp2
  go_ret
  exact ⟨l4 f.out.symm,rfl⟩
 ·have d:Hid (n.tmod 255=-((-n) % 255)):=by show _=_;rw [H7,Int.tmod_eq_emod_of_nonneg (by omega)]
  have j:-255 < n.tmod 255:=by rw [d.out];omega
  have o:n.tmod 255<=0:=by rw [d.out];omega
  go_enter func57,ntmps57
  go_wp2
  ·go_ret
   exact ⟨l4 (by have:=d.out;have:=f.out;omega),rfl⟩
  ·go_ret
   exact ⟨l4 (by have:=d.out;have:=f.out;omega),rfl⟩
theorem LQ (n:Int) (w:World) (d:0 < n) :
 zb prog 29 #[.int .u8 0,.int .i64 n] w fun e w'=>e=.returned (.tuple #[.int .u8 0,.nilIface])/\w'=w:=by
 go_enter func29,ntmps29
 go_wp2
 go_ret2
 exact ⟨rfl,rfl⟩
theorem H2 (a:Nat) (n:Int) (w:World) (f:a < 256) (h:a=0->n=0) :
 zb prog 29 #[.int .u8 (a:Int),.int .i64 n] w fun e w'=>e=.returned (.tuple #[.int .u8 (Gf.fM a (red n):Nat),.nilIface])/\w'=w:=by
 have j:=UP n
 by_cases d:a=0
 ·obtain rfl:=h d
  subst d
  clear h
  go_enter func29,ntmps29
  go_wp2_with (first | (go_at_call 57;refine (AX 0 _).mono ?_;rintro e w' ⟨rfl,rfl⟩) | (go_at_call 56;refine (vW 0 (red 0) _ (by decide) (by omega)).mono ?_;rintro e w' ⟨rfl,rfl⟩))
  go_ret2
  exact ⟨rfl,rfl⟩
 ·have o:((a:Int)==0)=false:=by simpa using d
  clear h d
  go_enter func29,ntmps29
  go_wp2_with (first | (go_at_call 57;refine (AX n _).mono ?_;rintro e w' ⟨rfl,rfl⟩) | (go_at_call 56;refine (vW a (red n) _ f (by omega)).mono ?_;rintro e w' ⟨rfl,rfl⟩))
  go_ret2
  exact ⟨rfl,rfl⟩
theorem Jdf (n:Int) (z:aR) (w:World) (d:n < 0) (f:w.cell? ⟨2,0,ab⟩=aa (.iface 136 (.pointer (aa z)))) :
 zb prog 29 #[.int .u8 0,.int .i64 n] w fun e w'=>e=.returned (.tuple #[.int .u8 0,.iface 136 (.pointer (aa z))])/\Below w.heap.size w w':=by
 go_enter func29,ntmps29
 go_wp2
 go_quiet (fail)
 go_wp2
 go_ret2
 exact ⟨rfl,bz (aw _ _) _⟩
theorem NL (z:aR) (w:World) (d:w.cell? ⟨2,0,ab⟩=aa (.iface 136 (.pointer (aa z)))) :
 zb prog 82 #[.int .u8 0] w fun e w'=>e=.returned (.tuple #[.int .u8 0,.iface 136 (.pointer (aa z))])/\Below w.heap.size w w':=by
 go_enter func82,ntmps82
 go_wp2
 go_quiet (fail)
 go_wp2
 go_ret2
 exact ⟨rfl,bz (aw _ _) _⟩
theorem Jc1 (b:Nat) (h:b=0) (z:aR) (w:World) (d:w.cell? ⟨2,0,ab⟩=aa (.iface 136 (.pointer (aa z)))) :
 zb prog 82 #[.int .u8 (b:Int)] w fun e w'=>e=.returned (.tuple #[.int .u8 0,.iface 136 (.pointer (aa z))])/\Below w.heap.size w w':=by
 subst h;exact NL z w d
theorem TG (a:Nat) (w:World) (f:a < 256) (d:a≠0) :
 zb prog 82 #[.int .u8 (a:Int)] w fun e w'=>e=.returned (.tuple #[.int .u8 (Gf.inv a:Nat),.nilIface])/\w'=w:=by
 have h:((a:Int)==0)=false:=by simpa using d
 clear d
 go_enter func82,ntmps82
 go_wp2_with (go_at_call 89;refine (JmA a _ f).mono ?_;rintro e w' ⟨rfl,rfl⟩)
 go_ret2
 exact ⟨rfl,rfl⟩
def Jp (l:List Nat):ByteArray:=strOfNums (l.map Int.ofNat)
theorem WU  (h:jU w q l) (c:Nat):(convert 32 9 (.slice q l.length c)).run prog w=.ok (.string (Jp l)) w:=by
 rcases h.cells with d | ⟨b,o,rfl,s,j⟩
 ·subst d
  cases q with
  | none=>exact run_convert_bytes_nil w 32 5 underlying32 underlying5 0 c 9 underlying9
  | some ad =>
   have d:(bY ad 0).run prog w=.ok (([]:List Int).map (Value.int .u8)).toArray w:=by simp [bY,loadCellsFrom]
   rw [bD,run_convert_bytes_string w 32 9 5 _ 0 c underlying32 underlying5 underlying9,run_bytesToString w ad 0 c [] d]
   rfl
 ·refine run_convert_bytes_arg w 32 5 underlying32 underlying5 b o l.length c (l.map Int.ofNat) (by simp) (fun i f=>?_) 9 underlying9
  rw [j i f,Gf.aK l i f,af,ac,ae f]
  rfl
theorem xC (n k:Int) (w:World):zb prog 26 #[.int .i64 n,.int .i64 k] w fun e w'=>e=.returned (.bool (decide (1<=k/\k<=n/\n<=12)))/\w'=w:=by
 by_cases f:1<=k
 ·by_cases j:k<=n
  ·by_cases o:n<=12
   ·have d:Hid (decide (1<=k/\k<=n/\n<=12)=true):=decide_eq_true ⟨f,j,o⟩
    rw [d.out]
    go_enter func26,ntmps26
    go_wp2
    go_ret
    exact ⟨rfl,rfl⟩
   ·have d:Hid (decide (1<=k/\k<=n/\n<=12)=false):=decide_eq_false fun h=>o h.2.2
    rw [d.out]
    go_enter func26,ntmps26
    go_wp2
    go_ret
    exact ⟨rfl,rfl⟩
  ·have d:Hid (decide (1<=k/\k<=n/\n<=12)=false):=decide_eq_false fun h=>j h.2.1
   rw [d.out]
   go_enter func26,ntmps26
   go_wp2
   go_ret
   exact ⟨rfl,rfl⟩
 ·have d:Hid (decide (1<=k/\k<=n/\n<=12)=false):=decide_eq_false fun h=>f h.1
  rw [d.out]
  go_enter func26,ntmps26
  go_wp2
  go_ret
  exact ⟨rfl,rfl⟩
end Go.Proofs.YtaaahibncffcmaaDoor

/- Texts laid together. -/
import Derived.Test.YtaaahibncffcmaaDoorRows
import Derived.ProofKit
import Derived.LaidLaws
import Derived.LaidHandle
import Derived.LaidMore
import Derived.Stop.LaidErr
import Derived.Test.YtaaahibncffcmaaDoorCe0
import Derived.OpenShut
import Derived.ChangeOld
import Derived.Laws.BitsAllLaws
import Derived.Laws.BitsLemmas
import Derived.WalkSmall
import Derived.Laws.AppendOwn
import Derived.OwnWalk
import Derived.Laws.AppendOwnNone
import Derived.Deep.OwnRows
import Derived.Below
import Derived.Deep.QuietTactic
import Derived.BigQuiet
import Derived.Laws.BytesArg
set_option maxRecDepth 10000
set_option maxHeartbeats 4000000
open Option renaming some->aa,none->ab,map_eq_some_iff->aw
open List renaming getElem?_map->ac,getElem?_eq_getElem->ae,mem_singleton->ah,length_eq_zero_iff->ai,mem_append_right->ak,range->ar,length_append->aB,sublist_append_right->aD,getElem?_eq_some_iff->aE,map_toArray->aI,all_eq_true->aJ,mem_range->zc,mem_cons_of_mem->aR,getElem?_range->zg,map_cons->ba,mem_cons_self->bd,map_nil->bi,map_const'->bx,length_nil->bz,length->cb
open Go renaming Value->af,TypeId->ag,toList_madeCells_one->am,Calls->za,Addr->aP,TypeInfo->ze,wpList_plain->bj,laidMetH->bk,madeCells->br,below_drewN->bu,run_append_room->bA,run_append_grow->bB,wpList->bG,run_underlying->zj,run_append_own->bI,run_append_nil->zk,growslice_fits->zl,loadCells->zr,maxLen->zt,Program->zu,Operand->zv,Oper->cy
open Option.some renaming inj->aj
open Nat renaming mod_two_eq_zero_or_one->al,lt_of_lt_of_le->aq,le_refl->ay,lt_of_le_of_lt->bc,mod_eq_of_lt->bq,not_lt_zero->bv,div_le_self->bw,mul_le_mul->bD,zero_add->bU,lt_or_ge->bV
open Array renaming getElem?_eq_some_iff->an,getElem?_eq_none->aN
open Go.World.ownsRow renaming cells->ao,kept->au,lt->ax,frozenAt->aM,stored->aS,cellAt->zd
open Go.Builtin renaming append_->ap,firstCells->bg,lenOf->zq
open Go.RowKit.Below renaming refl->av
open Or renaming inr->az,inl->zb
open Go.World renaming var?_cell->aA,ownsRow_nil->aF,ownsRow_lit->bl
open Go.Result renaming andThen_ok->aG
namespace Go.Proofs.YtaaahibncffcmaaDoor
open Go.Proofs.Tryd
open Go.RowKit
variable {W w w':World}{B b k r g n:Nat}{E e T:ag}{o:cy}{v:af}{a:Act}{p q:Option aP}{l:List Nat}{M:List (List Nat)}{Q:Exit->Act->World->Prop}{d:Nat->af}
section
open Go.ChangeShapes Go.WideShapes Go.RowKit
def GZ (d:List UInt8):DataW Unit:=.iface "*errors.errorString" (.ptr (.agg [.lit (.string d)]))
theorem UX {P:zu} {S B D:ag} {ms:Array (String×ag)} {f:Field}
 (hi:P.underlying S=aa (.interface ms)) (a7:∀ u,P.typeName? 3 u=aa "*errors.errorString"->u=B)
 (hp:P.underlying B=aa (.pointer D)) (he:P.underlying D=aa (.struct #[f])) (a8:f.type=E) (a9:f.offset=0) (hs:P.underlying E=aa .string) (hc:P.cellsOf D=1) (b1:P.cellsOf E=1) :
 ∀ (L:List (String×List UInt8)) (o:List MemPlace),DataW.LaidVars P W (L.map fun x=>(x.1,GZ x.2)) o ->
  (∀ x ∈ L,∃ g,P.globalNamed x.1=aa g/\(P.globals[g]?).map (·.type)=aa S) ->
  (∀ b A,MemPlace.cell b A ∈ o->(∃ c t,W.heap[b]?=aa (.cells c t (0,0)))/\∀ u v,W.cell? ⟨b,A,ab⟩=aa (.iface u v)->Value.okWide P W .any 0 u v) ->
  ∃ ad:Nat->aP,(∀ i x,L[i]?=aa x->MemPlace.cell (ad i).block (ad i).off ∈ o/\W.var? P x.1=aa #[.iface B (.pointer (aa (ad i)))]) /\
   (o.Nodup->∀ i j,i < L.length->j < L.length->i≠j->ad i≠ad j):=by
 intro L
 induction L with
 | nil =>
  intro o _ _ _
  exact ⟨fun _=>⟨0,0,ab⟩,fun i x h=>by simp at h,fun _ i j h=>by simp at h⟩
 | cons x r ih =>
  intro o T G H
  obtain ⟨g0,t0,U,f0,p0,I,J,V,K,Y,Z,rfl⟩:=T
  obtain ⟨g,hg,ht⟩:=G x (bd ..)
  obtain rfl:=aj (hg.symm.trans J)
  obtain rfl:=aj (ht.symm.trans V)
  obtain ⟨ad,M,h2⟩:=ih I Z (fun y s=>G y (aR _ s)) (fun b A z=>H b A (ak _ z))
  obtain ⟨l0⟩:=U
  have a1:∀ u v,l0=[.iface u v]->Value.okWide P W .any 0 u v:=fun u v e=>by
   subst e
   exact (H g 0 (by simp [MemPlace.row])).2 u v (by simpa using aA J K 0)
  obtain ⟨N,s0,rfl,b2,b3,b4,rfl⟩:=errorString_of_trod hi a7 hp he a8 a9 hs hc b1 Y a1
  refine ⟨fun i=>match i with | 0=>N | k+1=>ad k,?_,?_⟩
  ·intro i y s
   match i with
   | 0 =>
    obtain rfl:x=y:=by simpa using s
    exact ⟨by simp [MemPlace.row],K⟩
   | k+1 =>
    have:=M k y (by simpa using s)
    exact ⟨ak _ this.1,this.2⟩
  ·intro O i j a2 a3 a4
   have a5:I.Nodup:=List.Nodup.sublist (aD _ _) O
   have Q:∀ k,k < r.length->N≠ad k:=by
    intro k d e
    obtain ⟨y,s⟩:∃ y,r[k]?=aa y:=⟨r[k],ae d⟩
    have z:=(M k y s).1
    rw [<- e] at z
    have a6:=(List.nodup_append.1 O).2.2
    exact a6 _ (ak _ (by simp [MemPlace.row])) _ z rfl
   match i,j,a2,a3,a4 with
   | 0,0,_,_,h=>exact absurd rfl h
   | 0,k+1,_,d,_=>exact Q k (by simpa using d)
   | k+1,0,d,_,_=>exact (Q k (by simpa using d)).symm
   | k+1,m+1,d,z,hne=>exact h2 a5 k m (by simpa using d) (by simpa using z) (fun e=>hne (by rw [e]))
theorem AY {P:zu} {W:World}:∀ (L M:List (String×DataW Unit)) (d:List MemPlace),DataW.LaidVars P W (L ++ M) d->∃ p q,d=p ++ q/\DataW.LaidVars P W M q
 | [],_,d,h=>⟨[],d,rfl,h⟩
 | x :: L,M,d,h=>by
  obtain ⟨s,t,y,z,A,f,B,D,E,G,j,rfl⟩:=h
  obtain ⟨p,q,rfl,o⟩:=AY L M f j
  exact ⟨_,q,(List.append_assoc _ _ _).symm,o⟩
theorem ID : "*" ++ "errors.errorString" = "*errors.errorString":=by kernel_rfl
theorem v8 (u:ag) (h:prog.typeName? 3 u=aa "*errors.errorString"):u=136 :=
 typeName_ptr_named (nm := "errors.errorString") (by rw [ID];kernel_rfl) (by kernel_rfl) (by decide) u (by rw [ID];exact h)
end
section
open Go.Extern.Stop Go.Stop Go.Extern
structure h9 (w:World) (ad:Nat->aP):Prop where
 c0:w.cell? ⟨4,0,ab⟩=aa (.iface 136 (.pointer (aa (ad 0))))
 c1:w.cell? ⟨0,0,ab⟩=aa (.iface 136 (.pointer (aa (ad 1))))
 c2:w.cell? ⟨1,0,ab⟩=aa (.iface 136 (.pointer (aa (ad 2))))
 c3:w.cell? ⟨5,0,ab⟩=aa (.iface 136 (.pointer (aa (ad 3))))
 c4:w.cell? ⟨6,0,ab⟩=aa (.iface 136 (.pointer (aa (ad 4))))
 c5:w.cell? ⟨7,0,ab⟩=aa (.iface 136 (.pointer (aa (ad 5))))
 c6:w.cell? ⟨8,0,ab⟩=aa (.iface 136 (.pointer (aa (ad 6))))
 c7:w.cell? ⟨3,0,ab⟩=aa (.iface 136 (.pointer (aa (ad 7))))
 c8:w.cell? ⟨9,0,ab⟩=aa (.iface 136 (.pointer (aa (ad 8))))
 c9:w.cell? ⟨10,0,ab⟩=aa (.iface 136 (.pointer (aa (ad 9))))
 j2:w.cell? ⟨11,0,ab⟩=aa (.iface 136 (.pointer (aa (ad 10))))
 hY:w.cell? ⟨2,0,ab⟩=aa (.iface 136 (.pointer (aa (ad 11))))
 k5:w.cell? ⟨12,0,ab⟩=aa (.iface 121 (.agg #[.pointer (aa ⟨14,25,ab⟩)]))
 row:∀ i,i < 12->∃ c t,w.heap[(ad i).block]?=aa (.cells c t (0,0))
 ne:∀ i j,i < 12->j < 12->i≠j->ad i≠ad j
theorem Qf {o:Nat} (h:w.cell? ⟨b,o,ab⟩=aa v):b < w.heap.size:=by
 rcases bV b w.heap.size with d | d
 ·exact d
 ·simp [World.cell?,aN d] at h
theorem H4  {o:Obj} (h:w.heap[b]?=aa o):b < w.heap.size:=by
 rcases bV b w.heap.size with d | d
 ·exact d
 ·rw [aN d] at h;cases h
theorem h9.below {ad:Nat->aP} (h:h9 w ad) (d:Below w.heap.size w w'):h9 w' ad where
 c0:=(d.cell (Qf h.c0)).trans h.c0
 c1:=(d.cell (Qf h.c1)).trans h.c1
 c2:=(d.cell (Qf h.c2)).trans h.c2
 c3:=(d.cell (Qf h.c3)).trans h.c3
 c4:=(d.cell (Qf h.c4)).trans h.c4
 c5:=(d.cell (Qf h.c5)).trans h.c5
 c6:=(d.cell (Qf h.c6)).trans h.c6
 c7:=(d.cell (Qf h.c7)).trans h.c7
 c8:=(d.cell (Qf h.c8)).trans h.c8
 c9:=(d.cell (Qf h.c9)).trans h.c9
 j2:=(d.cell (Qf h.j2)).trans h.j2
 hY:=(d.cell (Qf h.hY)).trans h.hY
 k5:=(d.cell (Qf h.k5)).trans h.k5
 row:=fun i j=>by
  obtain ⟨c,t,f⟩:=h.row i j
  exact ⟨c,t,(d.block _ (H4 f)).trans f⟩
 ne:=h.ne
theorem Jc4 (w:World):za prog 31 #[.nilIface] w fun e w'=>e=.returned (.tuple #[.int .i64 0,.int .i64 (-1)])/\w'=w:=by
 go_enter func31,ntmps31
 go_wp2
 go_ret2
 exact ⟨rfl,rfl⟩
def hT (ad:Nat->aP):Array Value:=#[.iface 136 (.pointer (aa (ad 0))),.iface 136 (.pointer (aa (ad 1))),.iface 136 (.pointer (aa (ad 2))),.iface 136 (.pointer (aa (ad 3))),.iface 136 (.pointer (aa (ad 4))),.iface 136 (.pointer (aa (ad 5))),.iface 136 (.pointer (aa (ad 6))),.iface 136 (.pointer (aa (ad 7))),.iface 136 (.pointer (aa (ad 8))),.iface 136 (.pointer (aa (ad 9))),.iface 136 (.pointer (aa (ad 10))),.iface 136 (.pointer (aa (ad 11)))]
theorem T2 (ad:Nat->aP) (w:World):∀ k,k < 12->(w.alloc (.cells (hT ad) 25)).cell? ⟨w.heap.size,k,ab⟩=aa (.iface 136 (.pointer (aa (ad k)))):=by
 intro k d
 have e:(hT ad)[k]?=aa (.iface 136 (.pointer (aa (ad k)))):=by
  match k,d with
  | 0,_ | 1,_ | 2,_ | 3,_ | 4,_ | 5,_ | 6,_ | 7,_ | 8,_ | 9,_ | 10,_ | 11,_=>rfl
 rw [World.cell?_alloc_at _ _ _ _ (by simp)]
 exact e
theorem JcZ (ad:Nat->aP) (i:Nat) (O:i < 12) (w:World) (Q:h9 w ad) :
 za prog 31 #[.iface 136 (.pointer (aa (ad i)))] w fun e w'=>e=.returned (.tuple #[.int .i64 ((i+1:Nat):Int),.int .i64 (-1)])/\Below w.heap.size w w':=by
 have D:Below w.heap.size w (w.alloc (.cells #[.pointer ab] 85)):=(av _ _).alloc (ay _) _
 have s:=Q.below D
 go_enter func31,ntmps31
 go_wp2_with fail
 refine (D9 _ _ _ s.k5).mono ?_
 rintro e d ⟨rfl,j⟩
 have t:=s.below j
 have S:=t
 obtain ⟨c0,c1,c2,c3,c4,c5,c6,c7,c8,c9,j2,hY,_,_,_⟩:=S
 go_wp2
 clear c0 c1 c2 c3 c4 c5 c6 c7 c8 c9 j2 hY D s Q
 have z:Below d.heap.size d (d.alloc (.cells (hT ad) 25)):=(av _ _).alloc (ay _) _
 have f:=t.below z
 have o:=T2 ad d
 have A:Hid (Below w.heap.size w (d.alloc (.cells (hT ad) 25))):=(((av _ _).alloc (ay _) _).trans (j.mono (by simp))).trans (z.mono (by have:=j.size;simp at this;omega))
 have T:(d.alloc (.cells (hT ad) 25)).heap.size=d.heap.size+1:=by simp
 unfold hT at f o A
 generalize d.alloc (.cells _ 25)=E at f o A ⊢
 clear j z t T
 go_loop [3,30] (fun y x=>y=.int .i64 (-1)/\∃ k:Nat,k<=i/\x=.int .i64 k) (fun _ x=>12 - (intOf x).toNat)
 case atStart=>exact ⟨rfl,0,by omega,rfl⟩
 case round =>
  obtain ⟨rfl,k,Y,rfl⟩:=hrel
  have B:k < 12:=by omega
  have Z:=o k B
  obtain ⟨G,H,I⟩:=f.row i O
  obtain ⟨J,K,L⟩:=f.row k B
  clear o
  by_cases M:k=i
  ·subst M
   go_wp2_with (go_at_call 63;refine (y2 (ad k) _).mono ?_;rintro e w' ⟨rfl,rfl⟩)
   go_ret2
   exact ⟨by simp,A.out⟩
  ·have N:=f.ne i k O B (fun h=>M h.symm)
   have U:Hid (ad i≠ad k):=N
   have V:Hid (E.heap[(ad i).block]?=aa (.cells G H (0,0))):=I
   have W:Hid (E.heap[(ad k).block]?=aa (.cells J K (0,0))):=L
   clear N I L
   go_wp2_with (go_at_call 63;refine (LW (ad i) (ad k) G J H K _ U.out V.out W.out).mono ?_;rintro e w' ⟨rfl,rfl⟩)
   go_round
   case rel=>exact ⟨rfl,k+1,by omega,by go_num⟩
   case measure=>simp [intOf];omega
end
section
open Go.ChangeShapes Go.WideShapes Go.RowKit
def e8:List (String×List UInt8):=(Rows.matrixSpreadRow.laid.drop (0+1)).map fun x=>(x.1,match x.2 with | .iface _ (.ptr (.agg [.lit (.string t)]))=>t | _=>[])
theorem Jc1:(e8.map fun x=>(x.1,GZ x.2))=Rows.matrixSpreadRow.laid.drop (0+1):=rfl
theorem y1 (W:World):bk prog Rows.matrixSpreadRow.laid W=(laidMet prog (Rows.matrixSpreadRow.laid.take 0 ++ e8.map fun x=>(x.1,GZ x.2)) W/\handlesMet prog ((Rows.matrixSpreadRow.laid.drop 0).take 1) W):=by kernel_rfl
theorem JbS:(e8.all fun x=>match prog.globalNamed x.1 with | some g=>(prog.globals[g]?).map (·.type)==aa 25 | none=>false)=true:=by kernel_rfl
theorem g12:e8.map (fun x=>prog.globalNamed x.1)=[aa 4,aa 0,aa 1,aa 5,aa 6,aa 7,aa 8,aa 3,aa 9,aa 10,aa 11,aa 2]:=by kernel_rfl
theorem D0:prog.globalNamed "errors.errorType"=aa 12:=by kernel_rfl
theorem C3:((ar 168).filter fun t=>prog.rowNamed t [101,114,114,111,114])=[25]:=by kernel_rfl
theorem JbU:prog.types.size=168:=by kernel_rfl
theorem Jcu (h:bk prog Rows.matrixSpreadRow.laid W):∃ ad,h9 W ad:=by
 rw [y1] at h
 obtain ⟨⟨a0,B,D,E⟩,K⟩:=h
 obtain ⟨pp,z,rfl,L⟩:=AY _ _ _ B
 have M:z.Nodup:=List.Nodup.sublist (aD _ _) D
 have G:=fun b H (o:MemPlace.cell b H ∈ z)=>E b H (ak _ o)
 clear B D E
 have N:∀ x ∈ e8,∃ g,prog.globalNamed x.1=aa g/\(prog.globals[g]?).map (·.type)=aa 25:=by
  intro x f
  have:=aJ.1 JbS x f
  split at this
  ·rename_i g A
   exact ⟨g,A,by simpa using this⟩
  ·cases this
 have O:prog.cellsOf 156=1:=by kernel_rfl
 have c9:prog.cellsOf 9=1:=by kernel_rfl
 obtain ⟨ad,I,Q⟩:=UX underlying25 v8 underlying136 underlying156 rfl rfl underlying9 O c9 e8 z L N G
 have S:∀ i g x,e8[i]?=aa x->prog.globalNamed x.1=aa g->W.cell? ⟨g,0,ab⟩=aa (.iface 136 (.pointer (aa (ad i)))):=by
  intro i g x f A
  simpa using aA A (I i x f).2 0
 have d:∀ i g,(e8.map (fun x=>prog.globalNamed x.1))[i]?=aa (aa g)->W.cell? ⟨g,0,ab⟩=aa (.iface 136 (.pointer (aa (ad i)))):=by
  intro i g f
  rw [ac] at f
  obtain ⟨x,T,U⟩:=aw.1 f
  exact S i g x T U
 rw [g12] at d
 have s:e8.length=12:=rfl
 refine ⟨ad,d 0 _ rfl,d 1 _ rfl,d 2 _ rfl,d 3 _ rfl,d 4 _ rfl,d 5 _ rfl,d 6 _ rfl,d 7 _ rfl,d 8 _ rfl,d 9 _ rfl,d 10 _ rfl,d 11 _ rfl,?_,?_,fun i j y V=>Q M i j (by rw [s];exact y) (by rw [s];exact V)⟩
 ·obtain ⟨Y,u,Z,e1,e2,e3,e4,J⟩:=K _ (ah.2 rfl)
  have en:Y=[101,114,114,111,114]:=(aj e1).symm
  subst en
  obtain rfl:121=u:=aj ((show _=aa 121 by kernel_rfl).symm.trans e2)
  have o:Z ∈ (ar 168).filter fun t=>prog.rowNamed t [101,114,114,111,114]:=List.mem_filter.2 ⟨zc.2 (by rw [<- JbU];exact e3),e4⟩
  rw [C3] at o
  obtain rfl:=ah.1 o
  have hh:typeHandle prog 25=.pointer (aa ⟨14,25,ab⟩):=by kernel_rfl
  rw [hh] at J
  simpa using aA D0 J 0
 ·intro i y
  obtain ⟨x,f⟩:∃ x,e8[i]?=aa x:=⟨e8[i]'(by rw [s];exact y),ae (by rw [s];exact y)⟩
  exact (G _ _ (I i x f).1).1
theorem own:ownKnob prog.godebug=none:=by kernel_rfl
theorem Jcz (os:Os) (args:Array af):bk prog Rows.matrixSpreadRow.laid ((World.doorLaid prog 244 os).forCall (fun _ _=>0) ⟨#[],args,[]⟩).memory :=
 laidMetH_of_parts3 (fuel:=8) (laidMet_of_run' 8 (by kernel_rfl) (by kernel_rfl)) (by kernel_rfl) (by kernel_rfl)
end
section
open Go.ChangeShapes Go.WideShapes Go.ChangeAt Go.RowKit
def LA:List (String×List UInt8):=Rows.coderAnyRow.laid.map fun x=>(x.1,match x.2 with | .iface _ (.ptr (.agg [.lit (.string t)]))=>t | _=>[])
theorem x2 (W:World):bk prog Rows.coderAnyRow.laid W=laidMet prog (LA.map fun x=>(x.1,GZ x.2)) W:=by kernel_rfl
theorem Jb8:(LA.all fun x=>match prog.globalNamed x.1 with | some g=>(prog.globals[g]?).map (·.type)==aa 25 | none=>false)=true:=by kernel_rfl
theorem E3:LA.map (fun x=>prog.globalNamed x.1)=[aa 0,aa 1,aa 3,aa 2]:=by kernel_rfl
theorem BL (h:bk prog Rows.coderAnyRow.laid W):∃ z,W.cell? ⟨2,0,ab⟩=aa (.iface 136 (.pointer (aa z))):=by
 rw [x2] at h
 obtain ⟨j,o,_,s⟩:=h
 have t:∀ x ∈ LA,∃ g,prog.globalNamed x.1=aa g/\(prog.globals[g]?).map (·.type)=aa 25:=by
  intro x d
  have:=aJ.1 Jb8 x d
  split at this
  ·rename_i g y
   exact ⟨g,y,by simpa using this⟩
  ·cases this
 have A:prog.cellsOf 156=1:=by kernel_rfl
 have c9:prog.cellsOf 9=1:=by kernel_rfl
 obtain ⟨ad,B,_⟩:=UX underlying25 v8 underlying136 underlying156 rfl rfl underlying9 A c9 LA j o t s
 have f:∀ i g,(LA.map (fun x=>prog.globalNamed x.1))[i]?=aa (aa g)->W.cell? ⟨g,0,ab⟩=aa (.iface 136 (.pointer (aa (ad i)))):=by
  intro i g d
  rw [ac] at d
  obtain ⟨x,D,E⟩:=aw.1 d
  simpa using aA E (B i x D).2 0
 rw [E3] at f
 exact ⟨ad 3,f 3 _ rfl⟩
end
theorem l4 {k:IntKind} {a b:Int} (h:a=b):Ending.returned (.int k a)=.returned (.int k b):=by rw [h]
theorem sB {a b:Bool} (h:a=b):Ending.returned (.bool a)=.returned (.bool b):=by rw [h]
theorem H3 (b k:Nat) (o:b < 256):(bits BinOp.and IntKind.u8 ((b:Int) / 2 ^ k) 1==1)=decide (Gf.bT b k=1):=by
 have d:((b:Int) / 2 ^ k)=((b / 2 ^ k:Nat):Int):=by simp
 have f:b / 2 ^ k < 256:=bc (bw _ _) o
 have j:bits BinOp.and IntKind.u8 ((b / 2 ^ k:Nat):Int) 1=((b / 2 ^ k % 2:Nat):Int):=by
  have:=u8_and_nat (b / 2 ^ k) 1 f (by decide)
  rw [Nat.and_one_is_mod] at this
  exact this
 rw [d,j]
 unfold Gf.bT
 rcases al (b / 2 ^ k) with h | h <;> rw [h] <;> rfl
theorem y3 (b k:Nat) (o:b < 256):(bits BinOp.and IntKind.i64 ((b:Int) / 2 ^ k) 1==1)=decide (Gf.bT b k=1):=by
 have d:((b:Int) / 2 ^ k)=((b / 2 ^ k:Nat):Int):=by simp
 have f:b / 2 ^ k < 256:=bc (bw _ _) o
 have j:bits BinOp.and IntKind.i64 ((b / 2 ^ k:Nat):Int) 1=((b / 2 ^ k % 2:Nat):Int):=by
  have:=bits_mask IntKind.i64 8 (by decide) (fun n s d=>by rw [IntKind.wrap_i64];omega) 1 (by decide) ((b / 2 ^ k:Nat):Int) (Int.natCast_nonneg _) (by exact_mod_cast f)
  rw [show ((2:Int) ^ 1 - 1)=1 from rfl] at this
  rw [this]
  rfl
 rw [d,j]
 unfold Gf.bT
 rcases al (b / 2 ^ k) with h | h <;> rw [h] <;> rfl
def red (n:Int):Nat:=(n % 255).toNat
theorem M4 (n:Int):((red n:Nat):Int)=n % 255:=by unfold red;omega
theorem UP (n:Int):red n < 255:=by unfold red;omega
theorem x4 (n:Int):n.tmod 255=-((-n).tmod 255):=by rw [Int.neg_tmod,Int.neg_neg]
theorem o2 (a b:Nat) (d:a < 2 ^ 62) (f:b < 2 ^ 62):bits .xor .i64 (a:Int) (b:Int)=((a ^^^ b:Nat):Int):=by
 have h:a ^^^ b < 2 ^ 62:=Nat.xor_lt_two_pow d f
 show IntKind.i64.wrap ((BitVec.ofInt 64 (a:Int) ^^^ BitVec.ofInt 64 (b:Int)).toNat:Int)=_
 rw [BitVec.toNat_xor,BitVec.ofInt_natCast,BitVec.ofInt_natCast,BitVec.toNat_ofNat,BitVec.toNat_ofNat,bq (by omega),bq (by omega),IntKind.wrap_i64]
 omega
theorem q7 (n:Nat) (h:n < 2 ^ 62):wrap64 (n:Int)=(n:Int):=by
 unfold wrap64;omega
theorem o6 (b k:Nat):(((b:Int) / 2 ^ k).tmod 2==1)=decide (Gf.bT b k=1):=by
 have d:((b:Int) / 2 ^ k)=((b / 2 ^ k:Nat):Int):=by simp
 rw [d,Int.tmod_eq_emod_of_nonneg (Int.natCast_nonneg _)]
 unfold Gf.bT
 have f:(((b / 2 ^ k:Nat):Int) % 2)=((b / 2 ^ k % 2:Nat):Int):=by simp
 rw [f]
 rcases al (b / 2 ^ k) with h | h <;> rw [h] <;> rfl
structure jU (w:World) (p:Option aP) (l:List Nat):Prop where
 lt:Gf.Bytes l
 cells:l=[]∨∃ b o,p=aa ⟨b,o,ab⟩/\b < w.heap.size/\∀ i,i < l.length->w.cell? ⟨b,o+i,ab⟩=aa (.int .u8 ((Gf.nth l i:Nat):Int))
theorem jU.drewN  (h:jU w p l) (n:Nat):jU (w.drewN n) p l:=⟨h.lt,h.cells⟩
theorem jU.below  (h:jU w p l) (f:Below w.heap.size w w'):jU w' p l:=by
 refine ⟨h.lt,?_⟩
 rcases h.cells with h | ⟨b,o,j,d,s⟩
 ·exact zb h
 ·exact az ⟨b,o,j,aq d f.size,fun i t=>(f.cell (p:=⟨b,o+i,ab⟩) d).trans (s i t)⟩
def QJ (w:World) (p:Option aP) (M:List (List Nat)):Prop :=
 M=[]∨∃ b o,p=aa ⟨b,o,ab⟩/\b < w.heap.size/\∀ i,i < M.length->∃ q c,w.cell? ⟨b,o+i,ab⟩=aa (.slice q (Qh M i).length c)/\jU w q (Qh M i)/\(q=ab->c=0)
theorem QJ.below  (h:QJ w p M) (d:Below w.heap.size w w'):QJ w' p M:=by
 rcases h with h | ⟨b,o,s,f,t⟩
 ·exact zb h
 ·refine az ⟨b,o,s,aq f d.size,fun i y=>?_⟩
  obtain ⟨q,c,z,j⟩:=t i y
  exact ⟨q,c,(d.cell (p:=⟨b,o+i,ab⟩) f).trans z,j.1.below d,j.2⟩
theorem QJ.drewN  (h:QJ w p M) (n:Nat):QJ (w.drewN n) p M:=h.below (bu (av _ _) n)
def Jdc (M:List (List Nat)):Bool:=decide (40 < M.length) || !decide (∀ i,i < M.length->(Qh M i).length<=40)
def jQ (M:List (List Nat)):Prop:=1<=M.length/\M.length<=16/\∀ i,i < M.length->1<=(Qh M i).length/\(Qh M i).length<=16/\(Qh M i).length=(Qh M 0).length
section
def ZM (n:Nat):Value:=.int .u8 (n:Int)
def Yr (w:World) (B:Nat) (e:ag) (v:af) (l:List Nat):Prop:=w.ownsRow B e 1 v l.length (l.map ZM)
theorem Yr.nil (w:World) (B:Nat) (e:ag):Yr w B e (.slice ab 0 0) []:=aF w B e 1
theorem Yr.kept   {row:Option Nat} (h:Yr w B e v l) (d:w.grownBy w' row) (f:v.ownBlock=ab∨v.ownBlock≠row):Yr w' B e v l:=au h d f
theorem Yr.block   (h:Yr w B e v l) (d:v.ownBlock=aa k):B<=k/\k < w.heap.size:=ax h k d
theorem JO (w:World) (n:Nat) (row:Option Nat):w.grownBy (w.drewN n) row:=⟨rfl,rfl,rfl,ay _,fun _ _ _=>rfl⟩
theorem Yr.pE   (h:Yr w B e v l) (o:Gf.Bytes l):∃ p d,v=.slice p l.length d/\jU w p l:=by
 rcases h.2 with ⟨rfl,s⟩ | ⟨g,d,y,rfl,z,t,A,D,E,G⟩
 ·have:l=[]:=ai.1 s
  subst this
  exact ⟨ab,0,rfl,o,zb rfl⟩
 ·refine ⟨aa ⟨g,0,ab⟩,d,rfl,o,az ⟨g,0,rfl,(an.1 t).1,fun i f=>?_⟩⟩
  have j:=ao (g:=g) h rfl i (ZM (Gf.nth l i)) (by rw [ac,ae f,Gf.aK l i f];rfl)
  rw [Addr.add_lit] at j
  exact j
section
variable {P:zu} {w:World}
theorem S2 (B:Nat) (t o e:ag) (i:ze) (z:af) (D:P.underlying t=aa (.slice e)) (E:P.info? e=aa i) (K:i.zero=aa z) (h:i.size=1) (L:i.bytes=1)
 (v:af) (l:List Nat) (G:Yr w B e v l) (ad:aP) (c b:Nat) (S:w.cell? ad=aa (ZM b)) (Z:l.length+1<=1000000) {H:af} 
 (d:(ap #[t,t] o #[v,.slice (aa ad) 1 c]).run P w=.ok H w'):H.ownBlock=v.ownBlock∨H.ownBlock=aa w.heap.size:=by
 have s:∀ j u,[ZM b][j]?=aa u->w.cell? (ad.add j)=aa u:=by
  intro j u y
  match j,y with
  | 0,y =>
   obtain rfl:ZM b=u:=by simpa using y
   simpa [Addr.add] using S
 rcases G.2 with ⟨rfl,T⟩ | ⟨g,A,M,rfl,U,N,V,W,O,Y⟩
 ·have:=zk (P:=P) w t o e i z D E K ad 1 c [ZM b] (by rw [h];rfl) s (by decide) (by decide) (by rw [L];decide)
  rw [this] at d
  injection d with f I
  subst f
  exact az rfl
 ·by_cases J:l.length+1<=A
  ·have:=bA (P:=P) w t o e i D E g l.length A M N ad 1 c [ZM b] (by rw [h];rfl) s (fun u Q=>by rw [ah.1 Q];rfl) J (by rw [h,O];simpa using J)
   rw [this] at d
   injection d with f I
   subst f
   exact zb rfl
  ·have:=bB (P:=P) w t o e i z D E K ⟨g,0,ab⟩ l.length A (l.map ZM) (by rw [h];exact G.1) (ao (g:=g) G rfl) ad 1 c [ZM b] (by rw [h];rfl) s (by omega) (by omega) (zl (by omega) (by rw [L];omega))
   rw [this] at d
   injection d with f I
   subst f
   exact az rfl
theorem y4  {K:Act->World->Prop} (s x:zv) (t:ag)
 (T:o.op=.call { callee:=.builtin .append,args:=#[s,x],argTypes:=#[t,t] })
 (B:Nat) (e:ag) (i:ze) (z:P.underlying t=aa (.slice e)) (A:P.info? e=aa i) (D:i.zero=aa (ZM 0)) (E:i.size=1) (G:i.bytes=1)
 (v:af) (l:List Nat) (U:a.eval s=v) (H:Yr w B e v l) (ad:aP) (c b:Nat) (V:a.eval x=.slice (aa ad) 1 c) (I:w.cell? ad=aa (ZM b)) (W:l.length+1<=1000000) (Y:B<=w.heap.size)
 (h:∀ d w',Yr w' B e d (l ++ [b])->w.grownBy w' v.ownBlock->(d.ownBlock=v.ownBlock∨d.ownBlock=aa w.heap.size)->K (a.put o.dst d) w'):o.wp P a w K Q:=by
 have J:∀ j u,[ZM b][j]?=aa u->w.cell? (ad.add j)=aa u:=by
  intro j u f
  match j,f with
  | 0,f =>
   obtain rfl:ZM b=u:=by simpa using f
   simpa [Addr.add] using I
 obtain ⟨d,w',y,L,M,_⟩:=bI (P:=P) w B t o.type e i (ZM 0) 1 1 z A D E G rfl (by decide) v l.length (l.map ZM) H ad 1 c [ZM b] rfl J (fun u N=>by rw [ah.1 N];rfl) (by unfold zt;omega) (by omega) Y
 have O:=S2 B t o.type e i (ZM 0) z A D E G v l H ad c b I W y
 have S:Yr w' B e d (l ++ [b]):=by
  unfold Yr
  rw [aB,List.map_append]
  exact L
 unfold Oper.wp execOp
 simp only [T,resolve,invoke,builtin,Sem.run_bind,Sem.run_pure,aG,aI,ba,bi,U,V,y]
 exact h d w' S M O
theorem H2 {f:Array cy} {j:List cy}  (E:o.guard=ab) (s x:zv) (t:ag)
 (G:o.op=.call { callee:=.builtin .append,args:=#[s,x],argTypes:=#[t,t] })
 (B:Nat) (e:ag) (i:ze) (H:P.underlying t=aa (.slice e)) (I:P.info? e=aa i) (J:i.zero=aa (ZM 0)) (K:i.size=1) (L:i.bytes=1)
 (v:af) (l:List Nat) (M:a.eval s=v) (N:Yr w B e v l) (ad:aP) (c b:Nat) (O:a.eval x=.slice (aa ad) 1 c) (S:w.cell? ad=aa (ZM b)) (T:l.length+1<=1000000) (U:B<=w.heap.size)
 (h:∀ d w',Yr w' B e d (l ++ [b])->w.grownBy w' v.ownBlock->(d.ownBlock=v.ownBlock∨d.ownBlock=aa w.heap.size)->bG P f Q j (a.put o.dst d) w'):bG P f Q (o :: j) a w :=
 bj E fun _ y=>y4 s x t G B e i H I J K L v l M N ad c b O S T U fun d w' z A D=>y _ _ (h d w' z A D)
end
end
def k3 (M:List (List Nat)):Bool:=decide (1<=M.length/\M.length<=16) && (ar M.length).all fun i=>decide (1<=(Qh M i).length/\(Qh M i).length<=16/\(Qh M i).length=(Qh M 0).length)
theorem Jby (M:List (List Nat)):k3 M=true↔jQ M:=by
 unfold k3 jQ
 simp only [Bool.and_eq_true,decide_eq_true_eq,aJ,zc]
 exact ⟨fun h=>⟨h.1.1,h.1.2,h.2⟩,fun h=>⟨⟨h.1,h.2.1⟩,h.2.2⟩⟩
theorem Jcr (h:¬ jQ M):k3 M=false:=by
 cases e:k3 M with
 | false=>rfl
 | true=>exact absurd ((Jby M).1 e) h
theorem KF:(prog.info? 5).map (fun i=>(i.zero,i.size,i.bytes))=aa (aa (ZM 0),1,1):=by kernel_rfl
def JB (k:Nat):List Nat:=ar k
section
def JM (w:World) (B:Nat) (e:ag) (v:af) (d:List af):Prop:=w.ownsRow B e 1 v d.length d
theorem JM.nil (w:World) (B:Nat) (e:ag):JM w B e (.slice ab 0 0) []:=aF w B e 1
theorem JM.kept   {l:List af} {row:Option Nat} (h:JM w B e v l) (d:w.grownBy w' row) (f:v.ownBlock=ab∨v.ownBlock≠row):JM w' B e v l:=au h d f
theorem JM.block   {l:List af} (h:JM w B e v l) (d:v.ownBlock=aa k):B<=k/\k < w.heap.size:=ax h k d
theorem JM.cells   {l:List af} (h:JM w B e v l):v=.slice ab 0 0/\l=[]∨∃ g d,v=.slice (aa ⟨g,0,ab⟩) l.length d/\B<=g/\g < w.heap.size/\∀ i u,l[i]?=aa u->w.cell? ⟨g,i,ab⟩=aa u:=by
 rcases h.2 with ⟨rfl,j⟩ | ⟨g,d,y,rfl,o,s,z,A,D,E⟩
 ·exact zb ⟨rfl,ai.1 j⟩
 ·refine az ⟨g,d,rfl,o,(an.1 s).1,fun i u t=>?_⟩
  have f:=ao (g:=g) h rfl i u t
  rw [Addr.add_lit,bU] at f
  exact f
section
variable {P:zu} {w:World}
theorem C2 (B:Nat) (t o e:ag) (i:ze) (z:af) (D:Nat) (E:P.underlying t=aa (.slice e)) (G:P.info? e=aa i) (L:i.zero=aa z) (h:i.size=1) (M:i.bytes=D) (T:D<=64)
 (v:af) (l:List af) (H:JM w B e v l) (ad:aP) (c:Nat) (u:af) (U:u.oneCell'=true) (V:w.cell? ad=aa u) (W:l.length+1<=1000000) {I:af} 
 (d:(ap #[t,t] o #[v,.slice (aa ad) 1 c]).run P w=.ok I w'):I.ownBlock=v.ownBlock∨I.ownBlock=aa w.heap.size:=by
 have s:∀ j x,[u][j]?=aa x->w.cell? (ad.add j)=aa x:=by
  intro j x y
  match j,y with
  | 0,y =>
   obtain rfl:u=x:=by simpa using y
   simpa [Addr.add] using V
 rcases H.2 with ⟨rfl,Y⟩ | ⟨g,A,N,rfl,Z,O,a0,a1,Q,a2⟩
 ·have:=zk (P:=P) w t o e i z E G L ad 1 c [u] (by rw [h];rfl) s (by decide) (by decide) (by rw [M];omega)
  rw [this] at d
  injection d with f J
  subst f
  exact az rfl
 ·by_cases K:l.length+1<=A
  ·have:=bA (P:=P) w t o e i E G g l.length A N O ad 1 c [u] (by rw [h];rfl) s (fun x S=>by rw [ah.1 S];exact U) K (by rw [h,Q];simpa using K)
   rw [this] at d
   injection d with f J
   subst f
   exact zb rfl
  ·have a3:(l.length+1)*D<=1000000*64:=bD W T
   have:=bB (P:=P) w t o e i z E G L ⟨g,0,ab⟩ l.length A l (by rw [h];exact H.1) (ao (g:=g) H rfl) ad 1 c [u] (by rw [h];rfl) s (by omega) (by omega) (zl (by omega) (by rw [M];omega))
   rw [this] at d
   injection d with f J
   subst f
   exact az rfl
theorem yL {E:Array cy} {G:List cy}  (a0:o.guard=ab) (s x:zv) (t:ag)
 (ho:o.op=.call { callee:=.builtin .append,args:=#[s,x],argTypes:=#[t,t] })
 (B:Nat) (e:ag) (i:ze) (z:af) (f:Nat) (H:P.underlying t=aa (.slice e)) (I:P.info? e=aa i) (J:i.zero=aa z) (a1:z.cells.size=1) (L:i.size=1) (M:i.bytes=f) (N:f<=64)
 (v:af) (l:List af) (hs:a.eval s=v) (O:JM w B e v l) (ad:aP) (c:Nat) (u:af) (S:u.oneCell'=true) (A:a.eval x=.slice (aa ad) 1 c) (T:w.cell? ad=aa u) (U:l.length+1<=1000000) (a2:B<=w.heap.size)
 (h:∀ d w',JM w' B e d (l ++ [u])->w.grownBy w' v.ownBlock->(d.ownBlock=v.ownBlock∨d.ownBlock=aa w.heap.size)->bG P E Q G (a.put o.dst d) w'):bG P E Q (o :: G) a w:=by
 have V:∀ j x,[u][j]?=aa x->w.cell? (ad.add j)=aa x:=by
  intro j x y
  match j,y with
  | 0,y =>
   obtain rfl:u=x:=by simpa using y
   simpa [Addr.add] using T
 have a3:(l.length+1)*f<=1000000*64:=bD U N
 refine bj a0 fun K W=>?_
 obtain ⟨d,w',D,Y,Z,_⟩:=bI (P:=P) w B t o.type e i z 1 f H I J L M a1 (by decide) v l.length l O ad 1 c [u] rfl V (fun x A=>by rw [ah.1 A];exact S) (by unfold zt;omega) (by omega) a2
 have h4:=C2 B t o.type e i z f H I J L M N v l O ad c u S T U D
 have h5:JM w' B e d (l ++ [u]):=by
  unfold JM
  rw [aB]
  exact Y
 unfold Oper.wp execOp
 simp only [ho,resolve,invoke,builtin,Sem.run_bind,Sem.run_pure,aG,aI,ba,bi,hs,A,D]
 exact W _ _ (h d w' h5 Z h4)
theorem Jcg {H:Array cy} {I:List cy}  (J:o.guard=ab) (s x:zv) (t:ag)
 (L:o.op=.call { callee:=.builtin .append,args:=#[s,x],argTypes:=#[t,t] })
 (e:ag) (i:ze) (z:P.underlying t=aa (.slice e)) (A:P.info? e=aa i) (Z:i.zero=aa (ZM 0)) (a0:i.size=1) (a1:i.bytes=1)
 (M:a.eval s=.slice ab 0 0) (q:Option aP) (r:List Nat) (c:Nat) (B:a.eval x=.slice q r.length c) (hq:jU w q r) (hl:r.length<=1000000) (a2:q=ab->c=0)
 (h:∀ d w',Yr w' w.heap.size e d r->Below w.heap.size w w'->bG P H Q I (a.put o.dst d) w'):bG P H Q (o :: I) a w:=by
 rcases hq.cells with f | ⟨b,N,rfl,hb,O⟩
 ·subst f
  refine bj J fun K S=>?_
  have f:(ap #[t,t] o.type #[.slice ab 0 0,.slice q 0 c]).run P w=.ok (.slice ab 0 0) w:=by
   cases q with
   | none=>obtain rfl:=a2 rfl;simp [ap,zj z,sizeOf,typeInfo,A,zq,bg]
   | some ad=>simp [ap,zj z,sizeOf,typeInfo,A,zq,bg,zr,loadCellsFrom]
  unfold Oper.wp execOp
  simp only [bz] at B
  simp only [L,resolve,invoke,builtin,Sem.run_bind,Sem.run_pure,aG,aI,ba,bi,M,B,f]
  exact S _ _ (h _ _ (Yr.nil w _ e) (av _ _))
 ·refine wpList_append_own w J s x t L w.heap.size e i (ZM 0) 1 1 z A Z a0 a1 rfl (by decide) (.slice ab 0 0) 0 [] M (aF w _ e 1) ⟨b,N,ab⟩ r.length c (r.map ZM) B (by simp) ?_ ?_ (by unfold zt;omega) (by omega) (ay _) ?_
  ·intro j u D
   rw [ac] at D
   obtain ⟨y,E,T⟩:=aw.1 D
   have G:j < r.length:=(aE.1 E).1
   rw [Addr.add_lit,O j G,Gf.aK r j G,<- T]
   have:r[j]=y:=(aE.1 E).2
   rw [this]
   rfl
  ·intro u U
   obtain ⟨y,_,rfl⟩:=List.mem_map.1 U
   rfl
  ·intro d w' V W _
   refine h d w' ?_ ((av _ _).grown W (ay _) (fun k Y=>by simp [Value.ownBlock] at Y))
   simpa [Yr] using V
end
end
theorem jU.kept  {row:Option Nat} (h:jU w q l) (j:w.grownBy w' row) (y:∀ ad,q=aa ad->aa ad.block≠row):jU w' q l:=by
 refine ⟨h.lt,?_⟩
 rcases h.cells with h | ⟨b,o,d,f,s⟩
 ·exact zb h
 ·refine az ⟨b,o,d,aq f j.size,fun i t=>?_⟩
  exact (World.cell?_of_block (a:=⟨b,o+i,ab⟩) (j.block b f (y _ d))).trans (s i t)
def k0 (B:Nat) (w:World) (e:ag) (v:af) (d:List af) (M:List (List Nat)):Prop :=
 JM w B e v d/\d.length=M.length/\∀ i,i < M.length->∃ q c,d[i]?=aa (.slice q (Qh M i).length c)/\jU w q (Qh M i)/\(q=ab->c=0)/\∀ ad,q=aa ad->B<=ad.block/\ad.block < w.heap.size/\v.ownBlock≠aa ad.block
def hP (B:Nat) (w:World) (e:ag) (v:af) (M:List (List Nat)):Prop:=∃ d,k0 B w e v d M
theorem hP.nil (B:Nat) (w:World) (e:ag):hP B w e (.slice ab 0 0) []:=⟨[],JM.nil w B e,rfl,fun _ d=>absurd d (bv _)⟩
theorem Yr.form   (h:Yr w B e v l) (d:Gf.Bytes l):∃ q c,v=.slice q l.length c/\jU w q l/\(q=ab->c=0)/\∀ ad,q=aa ad->B<=ad.block/\ad.block < w.heap.size:=by
 rcases h.2 with ⟨rfl,f⟩ | ⟨g,j,A,rfl,o,s,D,E,G,H⟩
 ·have:l=[]:=ai.1 f
  subst this
  exact ⟨ab,0,rfl,⟨d,zb rfl⟩,fun _=>rfl,fun ad h=>by cases h⟩
 ·refine ⟨aa ⟨g,0,ab⟩,j,rfl,?_,(fun h=>by cases h),(fun ad h=>by injection h with h;subst h;exact ⟨o,(an.1 s).1⟩)⟩
  obtain ⟨p,c,t,y⟩:=h.pE d
  injection t with z I J
  subst z
  exact y
theorem k0.snoc {f z:World} {A r:af} {J:List af} {row:List Nat} {o:Obj} (h:k0 B w T v J M) (hB:B<=w.heap.size) (Y:Yr f w.heap.size E r row) (Z:Gf.Bytes row) (Q:Below w.heap.size w f)
 (hv:JM z B T A (J ++ [r]))
 (t:(f.alloc o).grownBy z v.ownBlock) (d:A.ownBlock=v.ownBlock∨A.ownBlock=aa (f.alloc o).heap.size):k0 B z T A (J ++ [r]) (M ++ [row]):=by
 obtain ⟨S,K,U⟩:=h
 have hz:=Q.size
 have L:(f.alloc o).heap.size=f.heap.size+1:=by simp
 have N:∀ k,v.ownBlock=aa k->k < w.heap.size:=fun k D=>(S.block D).2
 have y:f.grownBy z v.ownBlock:=⟨t.os,t.tape,t.output,by have:=t.size;omega,fun k D V=>(t.block k (by omega) V).trans (Below.heap_alloc f o k D)⟩
 refine ⟨hv,by simp [K],fun i W=>?_⟩
 rw [aB,List.length_singleton] at W
 by_cases O:i < M.length
 ·obtain ⟨q,c,G,H,I,s⟩:=U i O
  rw [Qu M row i O]
  refine ⟨q,c,by rw [List.getElem?_append_left (by omega)];exact G,(H.below Q).kept y (fun ad j=>fun e=>(s ad j).2.2 e.symm),I,fun ad j=>?_⟩
  have:=s ad j
  refine ⟨this.1,by have:=y.size;omega,?_⟩
  rcases d with d | d
  ·rw [d];exact this.2.2
  ·rw [d,L];intro e;have:=aj e;omega
 ·obtain rfl:i=M.length:=by omega
  rw [X2]
  obtain ⟨q,c,G,H,I,s⟩:=Y.form Z
  refine ⟨q,c,by rw [List.getElem?_append_right (by omega),K,Nat.sub_self,G];rfl,H.kept y (fun ad j=>?_),I,fun ad j=>?_⟩
  ·have:=s ad j
   intro e
   have:=N _ e.symm
   omega
  ·have:=s ad j
   refine ⟨by omega,by have:=y.size;omega,?_⟩
   rcases d with d | d
   ·rw [d];intro e;have:=N _ e;omega
   ·rw [d,L];intro e;have:=aj e;omega
theorem hP.tU   (h:hP B w T v M):∃ p c,v=.slice p M.length c/\QJ w p M:=by
 obtain ⟨E,f,d,j⟩:=h
 rcases f.cells with ⟨rfl,rfl⟩ | ⟨g,o,rfl,G,s,t⟩
 ·have:M=[]:=ai.1 (by simpa using d.symm)
  subst this
  exact ⟨ab,0,rfl,zb rfl⟩
 ·refine ⟨aa ⟨g,0,ab⟩,o,by rw [d],az ⟨g,0,rfl,s,fun i y=>?_⟩⟩
  obtain ⟨q,c,z,A,D,_⟩:=j i y
  refine ⟨q,c,?_,A,D⟩
  rw [bU]
  exact t i _ z
theorem s4:(prog.info? 32).map (fun i=>(i.zero,i.size,i.bytes))=aa (aa (.slice ab 0 0),1,24):=by kernel_rfl
def Zo (w:World) (B:Nat) (E:ag) (g n:Nat) (l:List Nat):Prop:=w.ownsRow B E 1 (.slice (aa ⟨g,0,ab⟩) n n) n (l.map ZM)
theorem Zo.made (w:World) (B:Nat) (E:ag) (n:Nat) (d:B<=w.heap.size) (f:n<=1000000):Zo (w.alloc (.cells (br #[ZM 0] n) E)) B E w.heap.size n (Qi n fun _=>0):=by
 have h:=bl (base:=B) (e:=E) (size:=1) w (br #[ZM 0] n) n d (by unfold zt;omega) (by have:=congrArg cb (am (ZM 0) n);simpa using this)
 rw [am] at h
 have e:(Qi n fun _=>0).map ZM=List.replicate n (ZM 0):=by
  simp [Qi,bx]
 unfold Zo
 rw [e]
 exact h
theorem Zo.cell   (h:Zo w B E g n l) (j:Nat) (d:j < n) (f:l.length=n):w.cell? ⟨g,j,ab⟩=aa (.int .u8 ((Gf.nth l j:Nat):Int)):=by
 rw [zd (w:=w) h j (by omega),ac,ae (by omega),Gf.aK l j (by omega)]
 rfl
theorem Zo.free   (h:Zo w B E g n l) (j:Nat):w.frozen? ⟨g,j,ab⟩=false:=aM (w:=w) h j
theorem Zo.set   {f:Nat->Nat} (h:Zo w B E g n (Qi n f)) (j v:Nat):Zo (w.setCell ⟨g,j,ab⟩ (.int .u8 (v:Int))) B E g n (Qi n (fun i=>if i=j then v else f i)):=by
 have:=(aS (w:=w) h j (ZM v)).1
 rw [<- List.map_set,Jp6] at this
 exact this
theorem Zo.drewN   (h:Zo w B E g n l) (m:Nat):Zo (w.drewN m) B E g n l:=au h (JO w m ab) (az (by simp [Value.ownBlock]))
theorem Zo.own   (h:Zo w B E g n l) (d:l.length=n):Yr w B E (.slice (aa ⟨g,0,ab⟩) n n) l:=by
 unfold Yr
 rw [d]
 exact h
theorem Zo.lt   (h:Zo w B E g n l):B<=g/\g < w.heap.size:=ax h g rfl
def jM (A B:List (List Nat)) (i j:Nat):Nat->Nat
 | 0=>0
 | k+1=>jM A B i j k ^^^ Gf.mul (Gf.nth (Qh A i) k) (Gf.nth (Qh B k) j)
def xW (A B:List (List Nat)) (m:Nat):List (List Nat):=(ar m).map fun i=>Qi (Qh B 0).length fun j=>jM A B i j B.length
theorem JcI (A B:List (List Nat)) (m:Nat):xW A B (m+1)=xW A B m ++ [Qi (Qh B 0).length fun j=>jM A B m j B.length]:=by simp [xW,List.range_succ]
theorem Jct (A B:List (List Nat)) (m:Nat):(xW A B m).length=m:=by simp [xW]
def QR (M:List (List Nat)):Prop:=∀ i,Gf.Bytes (Qh M i)
theorem o8 (A B:List (List Nat)) (d:QR A) (i j:Nat):∀ k,jM A B i j k < 256
 | 0=>by show 0 < 256;decide
 | k+1=>Gf.iK (o8 A B d i j k) (Gf.aV (d i k) _)
theorem QJ.row  (h:QJ w p M) {i:Nat} (s:i < M.length) (t:0 < (Qh M i).length) :
 ∃ b o d f c,p=aa ⟨b,o,ab⟩/\b < w.heap.size/\d < w.heap.size/\w.cell? ⟨b,o+i,ab⟩=aa (.slice (aa ⟨d,f,ab⟩) (Qh M i).length c)/\∀ j,j < (Qh M i).length->w.cell? ⟨d,f+j,ab⟩=aa (.int .u8 ((Gf.nth (Qh M i) j:Nat):Int)):=by
 rcases h with h | ⟨b,o,y,z,A⟩
 ·rw [h] at s;exact absurd s (bv _)
 ·obtain ⟨q,c,B,D,_⟩:=A i s
  rcases D.cells with E | ⟨d,f,G,H,I⟩
  ·rw [E] at t;exact absurd t (Nat.lt_irrefl _)
  ·subst G
   exact ⟨b,o,d,f,c,y,z,H,B,I⟩
theorem oC (a b:Nat) (w:World) (d:a < 256) (f:b < 256) :
 za prog 69 #[.int .u8 (a:Int),.int .u8 (b:Int)] w fun e w'=>e=.returned (.int .u8 ((a ^^^ b:Nat):Int))/\w'=w:=by
 go_enter func69,ntmps69
 go_wp2
 go_ret
 exact ⟨l4 (u8_xor_nat a b d f),rfl⟩
theorem CP (a:Nat) (w:World) (d:a < 256)  :
 za prog 75 #[.int .u8 (a:Int)] w fun e w'=>e=.returned (.int .u8 ((Gf.tx a:Nat):Int))/\w'=w:=by
 by_cases h:a < 128
 ·go_enter func75,ntmps75
  go_wp2
  go_ret
  exact ⟨l4 (by simp [Gf.tx,h]),rfl⟩
 ·go_enter func75,ntmps75
  go_wp2_with fail
  have e:((a:Int)*2 % 256)=((a*2 - 256:Nat):Int):=by omega
  rw [e]
  refine (oC (a*2 - 256) 29 _ (by omega) (by decide)).mono ?_
  rintro e w' ⟨rfl,rfl⟩
  go_wp2
  go_ret
  exact ⟨l4 (by simp [Gf.tx,h]),rfl⟩
theorem X5 (a b:Nat) (w:World) (s:a < 256) (y:b < 256) :
 za prog 61 #[.int .u8 (a:Int),.int .u8 (b:Int)] w fun e w'=>e=.returned (.int .u8 ((Gf.mul a b:Nat):Int))/\w'=w:=by
 go_enter func61,ntmps61
 go_wp2
 go_loop [0,5,7] (fun x p i=>∃ k:Nat,k<=8/\i=.int .i64 k/\x=.int .u8 (Gf.dP a k:Nat)/\p=.int .u8 (Gf.part a b k:Nat)) (fun _ _ i=>8 - (intOf i).toNat)
 case atStart=>exact ⟨0,by omega,rfl,rfl,rfl⟩
 case round =>
  obtain ⟨k,z,rfl,rfl,rfl⟩:=hrel
  have f:=Gf.cY s k
  have j:=Gf.eF s b k
  have o:=H3 b k y
  by_cases A:k < 8
  ·by_cases d:Gf.bT b k=1
   ·have h:Hid (Gf.part a b (k+1)=Gf.part a b k ^^^ Gf.dP a k):=by show _=_;simp [Gf.part,d]
    rw [decide_eq_true d] at o
    clear d
    go_wp2_with (first | (go_at_call 69;refine (oC _ _ _ j f).mono ?_;rintro e w' ⟨rfl,rfl⟩) | (go_at_call 75;refine (CP _ _ f).mono ?_;rintro e w' ⟨rfl,rfl⟩))
    go_round
    case rel=>exact ⟨k+1,by omega,by go_num,rfl,by rw [h.out]⟩
    case measure=>simp [intOf];omega
   ·have h:Hid (Gf.part a b (k+1)=Gf.part a b k):=by show _=_;simp [Gf.part,d]
    rw [decide_eq_false d] at o
    clear d
    go_wp2_with (first | (go_at_call 69;refine (oC _ _ _ j f).mono ?_;rintro e w' ⟨rfl,rfl⟩) | (go_at_call 75;refine (CP _ _ f).mono ?_;rintro e w' ⟨rfl,rfl⟩))
    go_round
    case rel=>exact ⟨k+1,by omega,by go_num,rfl,by rw [h.out]⟩
    case measure=>simp [intOf];omega
  ·go_wp2
   go_ret
   have t:k=8:=by omega
   subst t
   exact ⟨rfl,rfl⟩
theorem vW (a n:Nat) (w:World) (t:a < 256) (y:n < 256) :
 za prog 56 #[.int .u8 (a:Int),.int .i64 (n:Int)] w fun e w'=>e=.returned (.int .u8 ((Gf.fM a n:Nat):Int))/\w'=w:=by
 go_enter func56,ntmps56
 go_wp2
 go_loop [0,5,7] (fun x p i=>∃ k:Nat,k<=8/\i=.int .i64 k/\x=.int .u8 (Gf.sq a k:Nat)/\p=.int .u8 (Gf.pw a n k:Nat)) (fun _ _ i=>8 - (intOf i).toNat)
 case atStart=>exact ⟨0,by omega,rfl,rfl,rfl⟩
 case round =>
  obtain ⟨k,z,rfl,rfl,rfl⟩:=hrel
  have f:=Gf.qI t k
  have o:=Gf.lL (a:=a) n k
  have j:=y3 n k y
  by_cases A:k < 8
  ·by_cases d:Gf.bT n k=1
   ·have h:Hid (Gf.pw a n (k+1)=Gf.mul (Gf.pw a n k) (Gf.sq a k)):=by show _=_;simp [Gf.pw,d]
    rw [decide_eq_true d] at j
    clear d
    go_wp2_with fail
    refine (X5 _ _ _ o f).mono ?_
    rintro e w' ⟨rfl,rfl⟩
    go_wp2_with fail
    refine (X5 _ _ _ f f).mono ?_
    rintro e w' ⟨rfl,rfl⟩
    go_wp2
    go_round
    case rel=>exact ⟨k+1,by omega,by go_num,rfl,by rw [h.out]⟩
    case measure=>simp [intOf];omega
   ·have h:Hid (Gf.pw a n (k+1)=Gf.pw a n k):=by show _=_;simp [Gf.pw,d]
    rw [decide_eq_false d] at j
    clear d
    go_wp2_with fail
    refine (X5 _ _ _ f f).mono ?_
    rintro e w' ⟨rfl,rfl⟩
    go_wp2
    go_round
    case rel=>exact ⟨k+1,by omega,by go_num,rfl,by rw [h.out]⟩
    case measure=>simp [intOf];omega
  ·go_wp2
   go_ret
   have s:k=8:=by omega
   subst s
   exact ⟨rfl,rfl⟩
theorem WZ (a:Nat) (w:World) (d:a < 256) :
 za prog 89 #[.int .u8 (a:Int)] w fun e w'=>e=.returned (.int .u8 ((Gf.inv a:Nat):Int))/\w'=w:=by
 go_enter func89,ntmps89
 go_wp2_with fail
 refine (vW a 254 _ d (by decide)).mono ?_
 rintro e w' ⟨rfl,rfl⟩
 go_wp2
 go_ret
 exact ⟨rfl,rfl⟩
theorem W9 (r:Nat) (f:Nat->af) (j:Nat) (v:af):((ar r).map f).set j v=(ar r).map (fun i=>if i=j then v else f i):=by
 apply List.ext_getElem?
 intro i
 rw [List.getElem?_set,ac,ac]
 by_cases d:i < r
 ·rw [zg d]
  by_cases e:j=i
  ·subst e;simp [d]
  ·have o:¬ i=j:=fun h=>e h.symm
   simp [e,o]
 ·rw [List.getElem?_eq_none (by simpa using d)]
  by_cases e:j=i
  ·subst e;simp [d]
  ·simp [e]
def Qy (w:World) (E:ag) (B g r:Nat) (d:Nat->af):Prop:=w.ownsRow B E 1 (.slice (aa ⟨g,0,ab⟩) r r) r ((ar r).map d)
theorem Qy.made (w:World) (E:ag) (z:af) (B r:Nat) (d:B<=w.heap.size) (f:r<=1000000):Qy (w.alloc (.cells (br #[z] r) E)) E B w.heap.size r (fun _=>z):=by
 have h:=bl (base:=B) (e:=E) (size:=1) w (br #[z] r) r d (by unfold zt;omega) (by have:=congrArg cb (am z r);simpa using this)
 rw [am] at h
 unfold Qy
 rw [bx,List.length_range]
 exact h
theorem Qy.cell   (h:Qy w E B g r d) (j:Nat) (f:j < r):w.cell? ⟨g,j,ab⟩=aa (d j):=by
 rw [zd (w:=w) h j (by omega),ac,zg f]
 rfl
theorem Qy.free   (h:Qy w E B g r d) (j:Nat):w.frozen? ⟨g,j,ab⟩=false:=aM (w:=w) h j
theorem Qy.set   (h:Qy w E B g r d) (j:Nat) (v:af):Qy (w.setCell ⟨g,j,ab⟩ v) E B g r (fun i=>if i=j then v else d i):=by
 have:=(aS (w:=w) h j v).1
 rw [W9] at this
 exact this
theorem Qy.kept   {row:Option Nat} (h:Qy w E B g r d) (f:w.grownBy w' row) (j:row≠aa g):Qy w' E B g r d :=
 au h f (az (fun e=>j e.symm))
theorem Qy.congr  {f:Nat->af} (h:Qy w E B g r d) (o:∀ i,i < r->d i=f i):Qy w E B g r f:=by
 unfold Qy
 rw [List.map_congr_left (g:=d) (fun i j=>(o i (zc.1 j)).symm)]
 exact h
theorem Qy.lt   (h:Qy w E B g r d):B<=g/\g < w.heap.size:=ax h g rfl
def o0 (w:World) (p:Option aP) (l:List Int):Prop:=l=[]∨∃ b o,p=aa ⟨b,o,ab⟩/\b < w.heap.size/\∀ i,i < l.length->w.cell? ⟨b,o+i,ab⟩=aa (.int .i64 (l.getD i 0))
theorem o0.below  {l:List Int} (h:o0 w p l) (f:Below w.heap.size w w'):o0 w' p l:=by
 rcases h with h | ⟨b,o,j,d,s⟩
 ·exact zb h
 ·exact az ⟨b,o,j,aq d f.size,fun i t=>(f.cell (p:=⟨b,o+i,ab⟩) d).trans (s i t)⟩
theorem Jat:∀ (l X:List Nat),l.Nodup->(∀ x ∈ l,x ∈ X)->l.length<=X.length
 | [],_,_,_=>Nat.zero_le _
 | a :: t,X,hn,hs=>by
  have d:a ∈ X:=hs a (bd ..)
  have f:=List.nodup_cons.1 hn
  have:=Jat t (X.erase a) f.2 (fun x h=>(List.mem_erase_of_ne (fun e=>f.1 (by rw [<- e];exact h))).2 (hs x (aR _ h)))
  rw [List.length_erase_of_mem d] at this
  have j:=List.length_pos_of_mem d
  simp only [List.length_cons]
  omega
theorem Jc7:(prog.info? 4).map (fun i=>(i.zero,i.size,i.bytes))=aa (aa (.bool false),1,1):=by kernel_rfl
theorem AX (n:Int) (w:World) :
 za prog 57 #[.int .i64 n] w fun e w'=>e=.returned (.int .i64 ((red n:Nat):Int))/\w'=w:=by
 have f:Hid (((red n:Nat):Int)=n % 255):=M4 n
 by_cases h:0<=n
 ·go_enter func57,ntmps57
  go_wp2
  go_ret
  exact ⟨l4 f.out.symm,rfl⟩
 ·have d:Hid (n.tmod 255=-((-n) % 255)):=by show _=_;rw [x4,Int.tmod_eq_emod_of_nonneg (by omega)]
  have j:-255 < n.tmod 255:=by rw [d.out];omega
  have o:n.tmod 255<=0:=by rw [d.out];omega
  go_enter func57,ntmps57
  go_wp2
  ·go_ret
   exact ⟨l4 (by have:=d.out;have:=f.out;omega),rfl⟩
  ·go_ret
   exact ⟨l4 (by have:=d.out;have:=f.out;omega),rfl⟩
theorem LQ (n:Int) (w:World) (d:0 < n) :
 za prog 29 #[.int .u8 0,.int .i64 n] w fun e w'=>e=.returned (.tuple #[.int .u8 0,.nilIface])/\w'=w:=by
 go_enter func29,ntmps29
 go_wp2
 go_ret2
 exact ⟨rfl,rfl⟩
theorem W2 (a:Nat) (n:Int) (w:World) (f:a < 256) (h:a=0->n=0) :
 za prog 29 #[.int .u8 (a:Int),.int .i64 n] w fun e w'=>e=.returned (.tuple #[.int .u8 (Gf.fM a (red n):Nat),.nilIface])/\w'=w:=by
 have j:=UP n
 by_cases d:a=0
 ·obtain rfl:=h d
  subst d
  clear h
  go_enter func29,ntmps29
  go_wp2_with (first | (go_at_call 57;refine (AX 0 _).mono ?_;rintro e w' ⟨rfl,rfl⟩) | (go_at_call 56;refine (vW 0 (red 0) _ (by decide) (by omega)).mono ?_;rintro e w' ⟨rfl,rfl⟩))
  go_ret2
  exact ⟨rfl,rfl⟩
 ·have o:((a:Int)==0)=false:=by simpa using d
  clear h d
  go_enter func29,ntmps29
  go_wp2_with (first | (go_at_call 57;refine (AX n _).mono ?_;rintro e w' ⟨rfl,rfl⟩) | (go_at_call 56;refine (vW a (red n) _ f (by omega)).mono ?_;rintro e w' ⟨rfl,rfl⟩))
  go_ret2
  exact ⟨rfl,rfl⟩
theorem Jc9 (n:Int) (z:aP) (w:World) (d:n < 0) (f:w.cell? ⟨2,0,ab⟩=aa (.iface 136 (.pointer (aa z)))) :
 za prog 29 #[.int .u8 0,.int .i64 n] w fun e w'=>e=.returned (.tuple #[.int .u8 0,.iface 136 (.pointer (aa z))])/\Below w.heap.size w w':=by
 go_enter func29,ntmps29
 go_wp2
 go_quiet (fail)
 go_wp2
 go_ret2
 exact ⟨rfl,bu (av _ _) _⟩
theorem NL (z:aP) (w:World) (d:w.cell? ⟨2,0,ab⟩=aa (.iface 136 (.pointer (aa z)))) :
 za prog 82 #[.int .u8 0] w fun e w'=>e=.returned (.tuple #[.int .u8 0,.iface 136 (.pointer (aa z))])/\Below w.heap.size w w':=by
 go_enter func82,ntmps82
 go_wp2
 go_quiet (fail)
 go_wp2
 go_ret2
 exact ⟨rfl,bu (av _ _) _⟩
theorem JcT (b:Nat) (h:b=0) (z:aP) (w:World) (d:w.cell? ⟨2,0,ab⟩=aa (.iface 136 (.pointer (aa z)))) :
 za prog 82 #[.int .u8 (b:Int)] w fun e w'=>e=.returned (.tuple #[.int .u8 0,.iface 136 (.pointer (aa z))])/\Below w.heap.size w w':=by
 subst h;exact NL z w d
theorem TG (a:Nat) (w:World) (f:a < 256) (d:a≠0) :
 za prog 82 #[.int .u8 (a:Int)] w fun e w'=>e=.returned (.tuple #[.int .u8 (Gf.inv a:Nat),.nilIface])/\w'=w:=by
 have h:((a:Int)==0)=false:=by simpa using d
 clear d
 go_enter func82,ntmps82
 go_wp2_with (go_at_call 89;refine (WZ a _ f).mono ?_;rintro e w' ⟨rfl,rfl⟩)
 go_ret2
 exact ⟨rfl,rfl⟩
def Jp (l:List Nat):ByteArray:=strOfNums (l.map Int.ofNat)
theorem WU  (h:jU w q l) (c:Nat):(convert 32 9 (.slice q l.length c)).run prog w=.ok (.string (Jp l)) w:=by
 rcases h.cells with d | ⟨b,o,rfl,s,j⟩
 ·subst d
  cases q with
  | none=>exact run_convert_bytes_nil w 32 5 underlying32 underlying5 0 c 9 underlying9
  | some ad =>
   have d:(zr ad 0).run prog w=.ok (([]:List Int).map (Value.int .u8)).toArray w:=by simp [zr,loadCellsFrom]
   rw [bz,run_convert_bytes_string w 32 9 5 _ 0 c underlying32 underlying5 underlying9,run_bytesToString w ad 0 c [] d]
   rfl
 ·refine run_convert_bytes_arg w 32 5 underlying32 underlying5 b o l.length c (l.map Int.ofNat) (by simp) (fun i f=>?_) 9 underlying9
  rw [j i f,Gf.aK l i f,List.getD_eq_getElem?_getD,ac,ae f]
  rfl
theorem xC (n k:Int) (w:World):za prog 26 #[.int .i64 n,.int .i64 k] w fun e w'=>e=.returned (.bool (decide (1<=k/\k<=n/\n<=12)))/\w'=w:=by
 by_cases f:1<=k
 ·by_cases j:k<=n
  ·by_cases o:n<=12
   ·have d:Hid (decide (1<=k/\k<=n/\n<=12)=true):=decide_eq_true ⟨f,j,o⟩
    rw [d.out]
    go_enter func26,ntmps26
    go_wp2
    go_ret
    exact ⟨rfl,rfl⟩
   ·have d:Hid (decide (1<=k/\k<=n/\n<=12)=false):=decide_eq_false fun h=>o h.2.2
    rw [d.out]
    go_enter func26,ntmps26
    go_wp2
    go_ret
    exact ⟨rfl,rfl⟩
  ·have d:Hid (decide (1<=k/\k<=n/\n<=12)=false):=decide_eq_false fun h=>j h.2.1
   rw [d.out]
   go_enter func26,ntmps26
   go_wp2
   go_ret
   exact ⟨rfl,rfl⟩
 ·have d:Hid (decide (1<=k/\k<=n/\n<=12)=false):=decide_eq_false fun h=>f h.1
  rw [d.out]
  go_enter func26,ntmps26
  go_wp2
  go_ret
  exact ⟨rfl,rfl⟩
end Go.Proofs.YtaaahibncffcmaaDoor

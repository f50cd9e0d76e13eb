/- Texts laid together. -/
import Derived.Test.YtppcijpgalaohaaGreatDoorRows
import Derived.ProofKit
import Derived.LaidLaws
import Derived.LaidHandle
import Derived.LaidMore
import Derived.Stop.LaidErr
import Derived.Test.YtppcijpgalaohaaGreatDoorGc0
import Derived.Laws.BitsAllLaws
import Derived.Laws.BitsLemmas
import Derived.Laws.BytesArg
import Derived.WalkSmall
import Derived.OpenShut
import Derived.ChangeOld
import Derived.Deep.Strs
import Derived.Laws.AppendOwn
import Derived.OwnWalk
import Derived.Laws.AppendOwnNone
import Derived.BigQuiet
set_option maxRecDepth 100000
set_option maxHeartbeats 4000000
open Option renaming some->aa,none->ab,map_eq_some_iff->aA
open Go.Value renaming string->ac,ownBlock->zh,okWide->bs,cells->cm
open List renaming getD_eq_getElem?_getD->ae,getElem?_eq_getElem->ag,mem_singleton->ah,getElem?_eq_some_iff->ai,length_map->an,mem_append_right->ao,getElem?_map->aq,length_eq_zero_iff->az,range->aE,getElem_of_mem->za,nodup_iff_pairwise_ne->aJ,sublist_append_right->zb,pairwise_iff_getElem->aM,mem_take_iff_getElem->aN,map_toArray->aS,map_map->ze,map_append->aW,getElem?_eq_none->aY,map_congr_left->bb,map_cons->bd,length_append->bg,mem_map->bm,map_nil->bn,any_eq_false->bo,getElem_mem->zm,getElem_map->zn,ext_getElem->bC,any_eq_true->bD,all_eq_true->zo,mem_range->zy,map_id->cj
open Nat renaming not_lt_zero->af,le_refl->aj,lt_or_ge->am,zero_le->ar,mod_two_eq_zero_or_one->au,lt_of_lt_of_le->aI,lt_of_le_of_lt->bf,mod_eq_of_lt->bz,div_le_self->zv,mul_le_mul->zx,zero_add->cc
open Go.RowKit.Below renaming refl->ak
open Bool renaming true->al,false->F,and_eq_true->bI,false_or->zE
open Go renaming TypeId->ap,Value->av,Addr->aO,wpList->aR,maxLen->zf,TypeInfo->zi,wpList_plain->bp,wpList_append_own->bq,bytes->br,Operand->bv,below_drewN->zt,run_append_room->zw,run_append_grow->bO,run_underlying->bV,run_append_own->zz,run_append_nil->zA,growslice_fits->bY,Calls->zB,Program->ce,laidMetH->ck,MemPlace->cn,Oper->cM
open Array renaming getElem?_eq_some_iff->aw,getElem?_eq_none->aC
open Go.World.ownsRow renaming cells->ax,kept->bj,lt->zp
open Go.Builtin renaming append_->ay,firstCells->bk,lenOf->zD
open Go.Addr renaming add_lit->aB,add->bx
open Or renaming inr->aD,inl->aF
open Option.some renaming inj->aG
open Go.World renaming ownsRow_nil->aP,var?_cell->zg,cell?->zu
open Go.Result renaming andThen_ok->zc
open Go.RowKit renaming Below->zd
namespace Go.Proofs.YtppcijpgalaohaaGreatDoor
open Go.Proofs.Tryz
open Go.RowKit
variable {W f w d:World}{B j k i:Nat}{b x s:ByteArray}{o:cM}{v I:av}{a:Act}{l:List ByteArray}{p:Option aO}{n:Int}{e:ap}{row:Option Nat}{Q:Exit->Act->World->Prop}{rest:List cM}
section
open Go.ChangeShapes Go.WideShapes Go.RowKit
def GZ (d:List UInt8):DataW Unit:=.iface "*errors.errorString" (.ptr (.agg [.lit (.string d)]))
theorem UX {P:ce} {S B D G:ap} {ms:Array (String×ap)} {f:Field}
 (hi:P.underlying S=aa (.interface ms)) (b1:∀ u,P.typeName? 3 u=aa "*errors.errorString"->u=B)
 (hp:P.underlying B=aa (.pointer D)) (he:P.underlying D=aa (.struct #[f])) (b2:f.type=G) (b7:f.offset=0) (hs:P.underlying G=aa .string) (hc:P.cellsOf D=1) (b8:P.cellsOf G=1) :
 ∀ (L:List (String×List UInt8)) (o:List cn),DataW.LaidVars P W (L.map fun x=>(x.1,GZ x.2)) o ->
  (∀ x ∈ L,∃ g,P.globalNamed x.1=aa g/\(P.globals[g]?).map (·.type)=aa S) ->
  (∀ b A,MemPlace.cell b A ∈ o->(∃ c t,W.heap[b]?=aa (.cells c t (0,0)))/\∀ u v,W.cell? ⟨b,A,ab⟩=aa (.iface u v)->bs P W .any 0 u v) ->
  ∃ ad:Nat->aO,(∀ i x,L[i]?=aa x->MemPlace.cell (ad i).block (ad i).off ∈ o/\W.var? P x.1=aa #[.iface B (.pointer (aa (ad i)))]) /\
   (o.Nodup->∀ i j,i < L.length->j < L.length->i≠j->ad i≠ad j):=by
 intro L
 induction L with
 | nil =>
  intro o _ _ _
  exact ⟨fun _=>⟨0,0,ab⟩,fun i x h=>by simp at h,fun _ i j h=>by simp at h⟩
 | cons x r ih =>
  intro o T H I
  obtain ⟨g0,t0,U,f0,p0,J,K,V,M,Y,Z,rfl⟩:=T
  obtain ⟨g,hg,ht⟩:=H x (List.mem_cons_self ..)
  obtain rfl:=aG (hg.symm.trans K)
  obtain rfl:=aG (ht.symm.trans V)
  obtain ⟨ad,N,h2⟩:=ih J Z (fun y q=>H y (List.mem_cons_of_mem _ q)) (fun b A s=>I b A (ao _ s))
  obtain ⟨l0⟩:=U
  have a2:∀ u v,l0=[.iface u v]->bs P W .any 0 u v:=fun u v e=>by
   subst e
   exact (I g 0 (by simp [MemPlace.row])).2 u v (by simpa using zg K M 0)
  obtain ⟨O,s0,rfl,d0,d1,d2,rfl⟩:=errorString_of_trod hi b1 hp he b2 b7 hs hc b8 Y a2
  refine ⟨fun i=>match i with | 0=>O | k+1=>ad k,?_,?_⟩
  ·intro i y q
   match i with
   | 0 =>
    obtain rfl:x=y:=by simpa using q
    exact ⟨by simp [MemPlace.row],M⟩
   | k+1 =>
    have:=N k y (by simpa using q)
    exact ⟨ao _ this.1,this.2⟩
  ·intro Q i j a3 a4 a5
   have a8:J.Nodup:=List.Nodup.sublist (zb _ _) Q
   have R:∀ k,k < r.length->O≠ad k:=by
    intro k d e
    obtain ⟨y,q⟩:∃ y,r[k]?=aa y:=⟨r[k],ag d⟩
    have s:=(N k y q).1
    rw [<- e] at s
    have a9:=(List.nodup_append.1 Q).2.2
    exact a9 _ (ao _ (by simp [MemPlace.row])) _ s rfl
   match i,j,a3,a4,a5 with
   | 0,0,_,_,h=>exact absurd rfl h
   | 0,k+1,_,d,_=>exact R k (by simpa using d)
   | k+1,0,d,_,_=>exact (R k (by simpa using d)).symm
   | k+1,m+1,d,s,hne=>exact h2 a8 k m (by simpa using d) (by simpa using s) (fun e=>hne (by rw [e]))
theorem AY {P:ce} {W:World}:∀ (L M:List (String×DataW Unit)) (d:List cn),DataW.LaidVars P W (L ++ M) d->∃ p q,d=p ++ q/\DataW.LaidVars P W M q
 | [],_,d,h=>⟨[],d,rfl,h⟩
 | x :: L,M,d,h=>by
  obtain ⟨s,t,A,B,D,f,G,H,I,J,j,rfl⟩:=h
  obtain ⟨p,q,rfl,o⟩:=AY L M f j
  exact ⟨_,q,(List.append_assoc _ _ _).symm,o⟩
theorem ID : "*" ++ "errors.errorString" = "*errors.errorString":=by kernel_rfl
theorem WZ (u:ap) (h:prog.typeName? 3 u=aa "*errors.errorString"):u=158 :=
 typeName_ptr_named (nm := "errors.errorString") (by rw [ID];kernel_rfl) (by kernel_rfl) (by decide) u (by rw [ID];exact h)
end
section
open Go.Extern.Stop Go.Stop Go.Extern
structure b0 (w:World) (ad:Nat->aO):Prop where
 c0:w.cell? ⟨3,0,ab⟩=aa (.iface 158 (.pointer (aa (ad 0))))
 c1:w.cell? ⟨0,0,ab⟩=aa (.iface 158 (.pointer (aa (ad 1))))
 c2:w.cell? ⟨4,0,ab⟩=aa (.iface 158 (.pointer (aa (ad 2))))
 c3:w.cell? ⟨1,0,ab⟩=aa (.iface 158 (.pointer (aa (ad 3))))
 c4:w.cell? ⟨5,0,ab⟩=aa (.iface 158 (.pointer (aa (ad 4))))
 c5:w.cell? ⟨2,0,ab⟩=aa (.iface 158 (.pointer (aa (ad 5))))
 c6:w.cell? ⟨6,0,ab⟩=aa (.iface 158 (.pointer (aa (ad 6))))
 c7:w.cell? ⟨7,0,ab⟩=aa (.iface 158 (.pointer (aa (ad 7))))
 c8:w.cell? ⟨8,0,ab⟩=aa (.iface 158 (.pointer (aa (ad 8))))
 c9:w.cell? ⟨9,0,ab⟩=aa (.iface 158 (.pointer (aa (ad 9))))
 b6:w.cell? ⟨10,0,ab⟩=aa (.iface 158 (.pointer (aa (ad 10))))
 eK:w.cell? ⟨11,0,ab⟩=aa (.iface 158 (.pointer (aa (ad 11))))
 e7:w.cell? ⟨12,0,ab⟩=aa (.iface 105 (.agg #[.pointer (aa ⟨16,27,ab⟩)]))
 row:∀ i,i < 12->∃ c t,w.heap[(ad i).block]?=aa (.cells c t (0,0))
 ne:∀ i j,i < 12->j < 12->i≠j->ad i≠ad j
theorem Qf {b o:Nat} (h:w.cell? ⟨b,o,ab⟩=aa v):b < w.heap.size:=by
 rcases am b w.heap.size with d | d
 ·exact d
 ·simp [zu,aC d] at h
theorem Jce {b:Nat} {o:Obj} (h:w.heap[b]?=aa o):b < w.heap.size:=by
 rcases am b w.heap.size with d | d
 ·exact d
 ·rw [aC d] at h;cases h
theorem b0.below {j:World} {ad:Nat->aO} (h:b0 w ad) (d:zd w.heap.size w j):b0 j ad where
 c0:=(d.cell (Qf h.c0)).trans h.c0
 c1:=(d.cell (Qf h.c1)).trans h.c1
 c2:=(d.cell (Qf h.c2)).trans h.c2
 c3:=(d.cell (Qf h.c3)).trans h.c3
 c4:=(d.cell (Qf h.c4)).trans h.c4
 c5:=(d.cell (Qf h.c5)).trans h.c5
 c6:=(d.cell (Qf h.c6)).trans h.c6
 c7:=(d.cell (Qf h.c7)).trans h.c7
 c8:=(d.cell (Qf h.c8)).trans h.c8
 c9:=(d.cell (Qf h.c9)).trans h.c9
 b6:=(d.cell (Qf h.b6)).trans h.b6
 eK:=(d.cell (Qf h.eK)).trans h.eK
 e7:=(d.cell (Qf h.e7)).trans h.e7
 row:=fun i o=>by
  obtain ⟨c,t,f⟩:=h.row i o
  exact ⟨c,t,(d.block _ (Jce f)).trans f⟩
 ne:=h.ne
theorem Jcu (w:World):zB prog 17 #[.nilIface] w fun e d=>e=.returned (.tuple #[.int .i64 0,.int .i64 (-1)])/\d=w:=by
 go_enter func17,ntmps17
 go_wp2
 go_ret2
 exact ⟨rfl,rfl⟩
def cB (ad:Nat->aO):Array Value:=#[.iface 158 (.pointer (aa (ad 0))),.iface 158 (.pointer (aa (ad 1))),.iface 158 (.pointer (aa (ad 2))),.iface 158 (.pointer (aa (ad 3))),.iface 158 (.pointer (aa (ad 4))),.iface 158 (.pointer (aa (ad 5))),.iface 158 (.pointer (aa (ad 6))),.iface 158 (.pointer (aa (ad 7))),.iface 158 (.pointer (aa (ad 8))),.iface 158 (.pointer (aa (ad 9))),.iface 158 (.pointer (aa (ad 10))),.iface 158 (.pointer (aa (ad 11)))]
theorem r4 (ad:Nat->aO) (w:World):∀ k,k < 12->(w.alloc (.cells (cB ad) 27)).cell? ⟨w.heap.size,k,ab⟩=aa (.iface 158 (.pointer (aa (ad k)))):=by
 intro k d
 have e:(cB ad)[k]?=aa (.iface 158 (.pointer (aa (ad k)))):=by
  match k,d with
  | 0,_ | 1,_ | 2,_ | 3,_ | 4,_ | 5,_ | 6,_ | 7,_ | 8,_ | 9,_ | 10,_ | 11,_=>rfl
 rw [World.cell?_alloc_at _ _ _ _ (by simp)]
 exact e
theorem Jcf (ad:Nat->aO) (i:Nat) (R:i < 12) (w:World) (S:b0 w ad) :
 zB prog 17 #[.iface 158 (.pointer (aa (ad i)))] w fun e q=>e=.returned (.tuple #[.int .i64 ((i+1:Nat):Int),.int .i64 (-1)])/\zd w.heap.size w q:=by
 have G:zd w.heap.size w (w.alloc (.cells #[.pointer ab] 49)):=(ak _ _).alloc (aj _) _
 have s:=S.below G
 go_enter func17,ntmps17
 go_wp2_with fail
 refine (y6 _ _ _ s.e7).mono ?_
 rintro e d ⟨rfl,j⟩
 have t:=s.below j
 have T:=t
 obtain ⟨c0,c1,c2,c3,c4,c5,c6,c7,c8,c9,b6,eK,_,_,_⟩:=T
 go_wp2
 clear c0 c1 c2 c3 c4 c5 c6 c7 c8 c9 b6 eK G s S
 have A:zd d.heap.size d (d.alloc (.cells (cB ad) 27)):=(ak _ _).alloc (aj _) _
 have f:=t.below A
 have o:=r4 ad d
 have B:Hid (zd w.heap.size w (d.alloc (.cells (cB ad) 27))):=(((ak _ _).alloc (aj _) _).trans (j.mono (by simp))).trans (A.mono (by have:=j.size;simp at this;omega))
 have U:(d.alloc (.cells (cB ad) 27)).heap.size=d.heap.size+1:=by simp
 unfold cB at f o B
 generalize d.alloc (.cells _ 27)=H at f o B ⊢
 clear j A t U
 go_loop [3,30] (fun y x=>y=.int .i64 (-1)/\∃ k:Nat,k<=i/\x=.int .i64 k) (fun _ x=>12 - (intOf x).toNat)
 case atStart=>exact ⟨rfl,0,by omega,rfl⟩
 case round =>
  obtain ⟨rfl,k,Z,rfl⟩:=hrel
  have D:k < 12:=by omega
  have hc:=o k D
  obtain ⟨I,J,K⟩:=f.row i R
  obtain ⟨L,M,N⟩:=f.row k D
  clear o
  by_cases O:k=i
  ·subst O
   go_wp2_with (go_at_call 30;refine (V3 (ad k) _).mono ?_;rintro e q ⟨rfl,rfl⟩)
   go_ret2
   exact ⟨by simp,B.out⟩
  ·have Q:=f.ne i k R D (fun h=>O h.symm)
   have V:Hid (ad i≠ad k):=Q
   have W:Hid (H.heap[(ad i).block]?=aa (.cells I J (0,0))):=K
   have Y:Hid (H.heap[(ad k).block]?=aa (.cells L M (0,0))):=N
   clear Q K N
   go_wp2_with (go_at_call 30;refine (JcA (ad i) (ad k) I L J M _ V.out W.out Y.out).mono ?_;rintro e q ⟨rfl,rfl⟩)
   go_round
   case rel=>exact ⟨rfl,k+1,by omega,by go_num⟩
   case measure=>simp [intOf];omega
end
section
open Go.ChangeShapes Go.WideShapes Go.RowKit
def b5:List (String×List UInt8):=(Rows.ringPrefersRow.laid.drop (3+1)).map fun x=>(x.1,match x.2 with | .iface _ (.ptr (.agg [.lit (.string t)]))=>t | _=>[])
theorem Jdw:(b5.map fun x=>(x.1,GZ x.2))=Rows.ringPrefersRow.laid.drop (3+1):=rfl
theorem S2 (W:World):ck prog Rows.ringPrefersRow.laid W=(laidMet prog (Rows.ringPrefersRow.laid.take 3 ++ b5.map fun x=>(x.1,GZ x.2)) W/\handlesMet prog ((Rows.ringPrefersRow.laid.drop 3).take 1) W):=by kernel_rfl
theorem X2:(b5.all fun x=>match prog.globalNamed x.1 with | some g=>(prog.globals[g]?).map (·.type)==aa 27 | none=>F)=true:=by kernel_rfl
theorem g12:b5.map (fun x=>prog.globalNamed x.1)=[aa 3,aa 0,aa 4,aa 1,aa 5,aa 2,aa 6,aa 7,aa 8,aa 9,aa 10,aa 11]:=by kernel_rfl
theorem VV:prog.globalNamed "errors.errorType"=aa 12:=by kernel_rfl
theorem S3:((aE 190).filter fun t=>prog.rowNamed t [101,114,114,111,114])=[27]:=by kernel_rfl
theorem Jb4:prog.types.size=190:=by kernel_rfl
theorem Jbo (h:ck prog Rows.ringPrefersRow.laid W):∃ ad,b0 W ad:=by
 rw [S2] at h
 obtain ⟨⟨a0,B,D,G⟩,L⟩:=h
 obtain ⟨pp,s,rfl,M⟩:=AY _ _ _ B
 have N:s.Nodup:=List.Nodup.sublist (zb _ _) D
 have H:=fun b I (o:MemPlace.cell b I ∈ s)=>G b I (ao _ o)
 clear B D G
 have O:∀ x ∈ b5,∃ g,prog.globalNamed x.1=aa g/\(prog.globals[g]?).map (·.type)=aa 27:=by
  intro x f
  have:=zo.1 X2 x f
  split at this
  ·rename_i g A
   exact ⟨g,A,by simpa using this⟩
  ·cases this
 have Q:prog.cellsOf 178=1:=by kernel_rfl
 have c9:prog.cellsOf 9=1:=by kernel_rfl
 obtain ⟨ad,J,R⟩:=UX underlying27 WZ underlying158 underlying178 rfl rfl underlying9 Q c9 b5 s M O H
 have S:∀ i g x,b5[i]?=aa x->prog.globalNamed x.1=aa g->W.cell? ⟨g,0,ab⟩=aa (.iface 158 (.pointer (aa (ad i)))):=by
  intro i g x f A
  simpa using zg A (J i x f).2 0
 have d:∀ i g,(b5.map (fun x=>prog.globalNamed x.1))[i]?=aa (aa g)->W.cell? ⟨g,0,ab⟩=aa (.iface 158 (.pointer (aa (ad i)))):=by
  intro i g f
  rw [aq] at f
  obtain ⟨x,T,U⟩:=aA.1 f
  exact S i g x T U
 rw [g12] at d
 have len:b5.length=12:=rfl
 refine ⟨ad,d 0 _ rfl,d 1 _ rfl,d 2 _ rfl,d 3 _ rfl,d 4 _ rfl,d 5 _ rfl,d 6 _ rfl,d 7 _ rfl,d 8 _ rfl,d 9 _ rfl,d 10 _ rfl,d 11 _ rfl,?_,?_,fun i j q V=>R N i j (by rw [len];exact q) (by rw [len];exact V)⟩
 ·obtain ⟨Y,u,Z,e1,e2,e3,e4,K⟩:=L _ (ah.2 rfl)
  have en:Y=[101,114,114,111,114]:=(aG e1).symm
  subst en
  obtain rfl:105=u:=aG ((show _=aa 105 by kernel_rfl).symm.trans e2)
  have o:Z ∈ (aE 190).filter fun t=>prog.rowNamed t [101,114,114,111,114]:=List.mem_filter.2 ⟨zy.2 (by rw [<- Jb4];exact e3),e4⟩
  rw [S3] at o
  obtain rfl:=ah.1 o
  have hh:typeHandle prog 27=.pointer (aa ⟨16,27,ab⟩):=by kernel_rfl
  rw [hh] at K
  simpa using zg VV K 0
 ·intro i q
  obtain ⟨x,f⟩:∃ x,b5[i]?=aa x:=⟨b5[i]'(by rw [len];exact q),ag (by rw [len];exact q)⟩
  exact (H _ _ (J i x f).1).1
theorem own:ownKnob prog.godebug=none:=by kernel_rfl
theorem Jc8 (os:Os) (args:Array av):ck prog Rows.ringPrefersRow.laid ((World.doorLaid prog 259 os).forCall (fun _ _=>0) ⟨#[],args,[]⟩).memory :=
 laidMetH_of_parts3 (fuel:=8) (laidMet_of_run' 8 (by kernel_rfl) (by kernel_rfl)) (by kernel_rfl) (by kernel_rfl)
end
theorem l4 {k:IntKind} {a b:Int} (h:a=b):Ending.returned (.int k a)=.returned (.int k b):=by rw [h]
theorem sB {a b:Bool} (h:a=b):Ending.returned (.bool a)=.returned (.bool b):=by rw [h]
theorem Jq5 (b k:Nat) (o:b < 256):(bits BinOp.and IntKind.u8 ((b:Int) / 2 ^ k) 1==1)=decide (Gf.bT b k=1):=by
 have d:((b:Int) / 2 ^ k)=((b / 2 ^ k:Nat):Int):=by simp
 have f:b / 2 ^ k < 256:=bf (zv _ _) o
 have j:bits BinOp.and IntKind.u8 ((b / 2 ^ k:Nat):Int) 1=((b / 2 ^ k % 2:Nat):Int):=by
  have:=u8_and_nat (b / 2 ^ k) 1 f (by decide)
  rw [Nat.and_one_is_mod] at this
  exact this
 rw [d,j]
 unfold Gf.bT
 rcases au (b / 2 ^ k) with h | h <;> rw [h] <;> rfl
theorem Jnr (b k:Nat) (o:b < 256):(bits BinOp.and IntKind.i64 ((b:Int) / 2 ^ k) 1==1)=decide (Gf.bT b k=1):=by
 have d:((b:Int) / 2 ^ k)=((b / 2 ^ k:Nat):Int):=by simp
 have f:b / 2 ^ k < 256:=bf (zv _ _) o
 have j:bits BinOp.and IntKind.i64 ((b / 2 ^ k:Nat):Int) 1=((b / 2 ^ k % 2:Nat):Int):=by
  have:=bits_mask IntKind.i64 8 (by decide) (fun n q d=>by rw [IntKind.wrap_i64];omega) 1 (by decide) ((b / 2 ^ k:Nat):Int) (Int.natCast_nonneg _) (by exact_mod_cast f)
  rw [show ((2:Int) ^ 1 - 1)=1 from rfl] at this
  rw [this]
  rfl
 rw [d,j]
 unfold Gf.bT
 rcases au (b / 2 ^ k) with h | h <;> rw [h] <;> rfl
def red (n:Int):Nat:=(n % 255).toNat
theorem M4 (n:Int):((red n:Nat):Int)=n % 255:=by unfold red;omega
theorem UP (n:Int):red n < 255:=by unfold red;omega
theorem Jq7 (n:Int):n.tmod 255=-((-n).tmod 255):=by rw [Int.neg_tmod,Int.neg_neg]
theorem JbB (a b:Nat) (d:a < 2 ^ 62) (f:b < 2 ^ 62):bits .xor .i64 (a:Int) (b:Int)=((a ^^^ b:Nat):Int):=by
 have h:a ^^^ b < 2 ^ 62:=Nat.xor_lt_two_pow d f
 show IntKind.i64.wrap ((BitVec.ofInt 64 (a:Int) ^^^ BitVec.ofInt 64 (b:Int)).toNat:Int)=_
 rw [BitVec.toNat_xor,BitVec.ofInt_natCast,BitVec.ofInt_natCast,BitVec.toNat_ofNat,BitVec.toNat_ofNat,bz (by omega),bz (by omega),IntKind.wrap_i64]
 omega
theorem Jj6 (n:Nat) (h:n < 2 ^ 62):wrap64 (n:Int)=(n:Int):=by
 unfold wrap64;omega
theorem Jdi (b k:Nat):(((b:Int) / 2 ^ k).tmod 2==1)=decide (Gf.bT b k=1):=by
 have d:((b:Int) / 2 ^ k)=((b / 2 ^ k:Nat):Int):=by simp
 rw [d,Int.tmod_eq_emod_of_nonneg (Int.natCast_nonneg _)]
 unfold Gf.bT
 have f:(((b / 2 ^ k:Nat):Int) % 2)=((b / 2 ^ k % 2:Nat):Int):=by simp
 rw [f]
 rcases au (b / 2 ^ k) with h | h <;> rw [h] <;> rfl
def Jp (l:List Nat):ByteArray:=strOfNums (l.map Int.ofNat)
def bytesOf (s:ByteArray):List Nat:=s.data.toList.map UInt8.toNat
theorem xK (s:ByteArray):Gf.Bytes (bytesOf s):=fun i=>by
 by_cases d:i < (bytesOf s).length
 ·rw [Gf.aK _ i d]
  simp only [bytesOf,zn]
  exact UInt8.toNat_lt _
 ·show (bytesOf s).getD i 0 < 256
  rw [ae,aY (by omega)]
  decide
theorem uD (s:ByteArray) (i:Nat) (h:i < s.size):Gf.nth (bytesOf s) i=(s[i]'h).toNat:=by
 rw [Gf.aK _ i (by simpa [bytesOf] using h)]
 simp only [bytesOf,zn]
 rfl
theorem tZ (s:ByteArray):(bytesOf s).length=s.size:=by simp [bytesOf]
theorem Jo6 {l:List Nat} (h:Gf.Bytes l) {x:Nat} (f:x ∈ l):x < 256:=by
 obtain ⟨i,d,rfl⟩:=za f
 have:=h i
 rwa [Gf.aK l i d] at this
theorem FK {l:List Nat} (h:Gf.Bytes l):bytesOf (Jp l)=l:=by
 unfold bytesOf Jp
 rw [strOfNums_data,ze,ze]
 conv=>rhs;rw [<- cj l]
 refine bb fun x d=>?_
 have:=Jo6 h d
 simp only [Function.comp]
 show (UInt8.ofNat x).toNat=x
 simp only [UInt8.toNat_ofNat']
 omega
theorem CX (s:ByteArray):Jp (bytesOf s)=s:=by
 unfold bytesOf Jp strOfNums
 rw [ze,ze]
 have:(List.map (((fun n:Int=>UInt8.ofNat n.toNat) ∘ Int.ofNat) ∘ UInt8.toNat) s.data.toList)=s.data.toList:=by
  conv=>rhs;rw [<- cj s.data.toList]
  refine bb fun x _=>?_
  show UInt8.ofNat x.toNat=x
  exact UInt8.ofNat_toNat
 rw [this]
theorem xG (l:List Nat):(Jp l).size=l.length:=by
 unfold Jp
 rw [strOfNums_size,an]
theorem EP (s:ByteArray) (i:Nat) (h:i < s.size) (W:World):Sem.run prog (Instr.index 9 (.string s) (.int .i64 (i:Int))) W=.ok (.int .u8 ((Gf.nth (bytesOf s) i:Nat):Int)) W:=by
 rw [run_index_string W 9 s .i64 _ underlying9,dif_pos ⟨by omega,by omega⟩,uD s i h]
 congr 3
theorem BO {l m:List Nat} (j:l.length=m.length) (h:∀ i,i < l.length->Gf.nth l i=Gf.nth m i):l=m:=by
 refine bC j fun i d f=>?_
 rw [<- Gf.aK l i d,<- Gf.aK m i f]
 exact h i d
theorem F0 {l:List Nat} (h:l.length<=i):Gf.nth l i=0:=by
 show l.getD i 0=0
 rw [ae,aY h]
 rfl
def Yc (l:List ByteArray) (i:Nat):ByteArray:=l.getD i ⟨#[]⟩
theorem Xk (l:List ByteArray) (i:Nat) (h:i < l.length):Yc l i=l[i]:=by
 unfold Yc
 rw [ae,ag h]
 rfl
theorem oQ  (h:i < l.length):Yc l i ∈ l:=by
 rw [Xk l i h]
 exact zm h
theorem tF  (h:x ∈ l):∃ i,i < l.length/\Yc l i=x:=by
 obtain ⟨i,d,e⟩:=za h
 exact ⟨i,d,by rw [Xk l i d,e]⟩
theorem y5  (h:j < i):Yc (l.take i) j=Yc l j:=by
 unfold Yc
 rw [ae,ae,List.getElem?_take_of_lt h]
theorem O2 {m:List ByteArray} (j:l.length=m.length) (h:∀ i,i < l.length->Yc l i=Yc m i):l=m:=by
 refine bC j fun i d f=>?_
 rw [<- Xk l i d,<- Xk m i f]
 exact h i d
def Strs (w:World) (p:Option aO) (l:List ByteArray):Prop :=
 l=[]∨∃ b o,p=aa ⟨b,o,ab⟩/\b < w.heap.size/\∀ i,i < l.length->w.cell? ⟨b,o+i,ab⟩=aa (.string (Yc l i))
theorem Strs.nil (w:World) (p:Option aO):Strs w p []:=aF rfl
theorem Strs.drewN  (h:Strs w p l) (n:Nat):Strs (w.drewN n) p l:=h
theorem Strs.below  (h:Strs w p l) (j:zd w.heap.size w f):Strs f p l:=by
 rcases h with h | ⟨b,o,q,d,s⟩
 ·exact aF h
 ·exact aD ⟨b,o,q,aI d j.size,fun i t=>(j.cell (p:=⟨b,o+i,ab⟩) d).trans (s i t)⟩
theorem Strs.b7   (h:Strs w p l) (j:zd B w f) (A:∀ b o,p=aa ⟨b,o,ab⟩->b < B):Strs f p l:=by
 rcases h with h | ⟨b,o,d,q,s⟩
 ·exact aF h
 ·exact aD ⟨b,o,d,aI q j.size,fun i t=>(j.cell (p:=⟨b,o+i,ab⟩) (A b o d)).trans (s i t)⟩
theorem Strs.take  (h:Strs w p l) (i:Nat):Strs w p (l.take i):=by
 rcases h with h | ⟨b,o,d,f,q⟩
 ·exact aF (by rw [h,List.take_nil])
 ·refine aD ⟨b,o,d,f,fun j s=>?_⟩
  rw [List.length_take] at s
  rw [q j (by omega),y5 (by omega)]
theorem XT {a:ByteArray} (h:a≠b):¬ a.toList=b.toList:=fun e=>h (by
 rw [ByteArray.toList_eq,ByteArray.toList_eq] at e
 exact ByteArray.ext (Array.toList_inj.1 e))
theorem YT {a:ByteArray} (h:a≠b):(a.toList==b.toList)=false:=by simpa using XT h
theorem Y8 {a:ByteArray} (h:a≠b):(a==b)=false:=by rw [beq_toListBytes];exact YT h
section
open Go.ChangeShapes Go.WideShapes Go.ChangeAt Go.RowKit
theorem JbF:laidOutB prog=true:=by kernel_rfl
theorem z6:prog.bytesOf 9=16:=by kernel_rfl
theorem O6 {H:Type} {enc:ap×av->H} {a2:Nat} {d:DataW H} {ps:List cn} (a3:bs prog W .any a2 22 v)
 (h:DataW.Trod enc prog W 0 (fun _=>al) al 22 v d ps):∃ p l G,v=.slice p l.length G/\Strs W p l/\l.length<=zf/\(∀ x ∈ l,x.size<=zf)/\l.length<=G/\(p=ab->l=[]/\G=0)/\((d.weights prog 22).all (·<=reachBytes)=al->l.length<=8796093021952):=by
 obtain ⟨a0,f,L,rfl⟩:=okWide_slice underlying22 a3
 obtain ⟨fuel,M⟩:=h
 rcases Deep.open_strs underlying22 underlying9 (by kernel_rfl) M with ⟨A,_⟩ | ⟨a,len,cp,m,s,A,_,N,a4,O,Q,B⟩
 ·simp [cm] at A
  obtain ⟨rfl,rfl,rfl⟩:=A
  exact ⟨ab,[],0,rfl,aF rfl,ar _,fun x B=>(by cases B),aj _,fun _=>⟨rfl,rfl⟩,fun _=>ar _⟩
 ·simp [cm] at A
  obtain ⟨rfl,rfl,rfl⟩:=A
  have a5:f<=m:=by rw [O];split <;> omega
  have o:((aE f).map s).length=f:=by simp
  have R:∀ i,i < f->Yc ((aE f).map s) i=s i:=fun i t=>by
   rw [Xk _ i (by rw [o];exact t)]
   simp
  refine ⟨aa a,(aE f).map s,L,by rw [o],?_,by rw [o];omega,fun x S=>?_,by rw [o];exact N,(fun e=>by cases e),fun I=>?_⟩
  ·by_cases T:f=0
   ·exact aF (az.1 (by rw [o];exact T))
   ·have D:=(B 0 (by omega)).1
    obtain ⟨b,U,K⟩:=a
    have V:K=none:=by
     cases K with
     | none=>rfl
     | some q =>
      exfalso
      simp [bx,zu] at D
      revert D
      split <;> intro Y <;> cases Y
    subst V
    refine aD ⟨b,U,rfl,?_,fun i t=>?_⟩
    ·rw [aB] at D
     rcases am b W.heap.size with J | J
     ·exact J
     ·simp [zu,aC J] at D
    ·rw [o] at t
     have:=(B i (by omega)).1
     rw [aB] at this
     rw [R i t]
     exact this
  ·obtain ⟨i,t,rfl⟩:=bm.1 S
   exact (B i (by have:=zy.1 t;omega)).2
  ·have Z:d=.slice ((aE f).map fun i=>.lit (.string (s i).data.toList)) ((aE (m - f)).map fun j=>.lit (.string (s (f+j)).data.toList)):=congrArg Prod.fst Q
   rw [Z] at I
   simp only [DataW.weights,underlying22,List.all_cons,bI,an,List.length_range,z6,reachBytes] at I
   have h1:=of_decide_eq_true I.1
   rw [o]
   omega
end
def ZJ (l:List ByteArray) (s:ByteArray):Nat:=l.findIdx fun x=>decide (x=s)
theorem DQ  (d:i < l.length) (h:Yc l i=s) (o:∀ j,j < i->Yc l j≠s):ZJ l s=i:=by
 unfold ZJ
 rw [List.findIdx_eq d]
 refine ⟨decide_eq_true (by rw [<- Xk l i d];exact h),fun j f=>decide_eq_false ?_⟩
 rw [<- Xk l j (by omega)]
 exact o j f
def Xr (c:Nat):Bool:=decide (97<=c/\c<=122) || decide (48<=c/\c<=57) || decide (c=45)
def Jo (s:ByteArray):Bool:=decide (1<=s.size/\s.size<=16) && (bytesOf s).all Xr
theorem QF (h:Jo s=al):1<=s.size/\s.size<=16:=by
 unfold Jo at h
 rw [bI] at h
 exact of_decide_eq_true h.1
theorem y2 (o:1<=s.size) (q:s.size<=16) (h:∀ j,j < s.size->Xr (Gf.nth (bytesOf s) j)=al):Jo s=true:=by
 unfold Jo
 rw [decide_eq_true ⟨o,q⟩,Bool.true_and,zo]
 intro x f
 obtain ⟨j,d,rfl⟩:=za f
 rw [<- Gf.aK _ j d]
 exact h j (by rw [tZ] at d;exact d)
theorem y3  (f:j < s.size) (h:Xr (Gf.nth (bytesOf s) j)=F):Jo s=false:=by
 unfold Jo
 rw [Bool.and_eq_false_iff]
 refine aD (List.all_eq_false.2 ⟨Gf.nth (bytesOf s) j,?_,by rw [h];decide⟩)
 have d:j < (bytesOf s).length:=by rw [tZ];exact f
 rw [Gf.aK _ j d]
 exact zm d
theorem CT (h:¬ (1<=s.size/\s.size<=16)):Jo s=false:=by
 unfold Jo
 rw [decide_eq_false h,Bool.false_and]
def Xu (l:List ByteArray) (x:ByteArray):Bool:=l.any fun y=>decide (y=x)
theorem Zl :Xu l x=al↔x ∈ l:=by
 unfold Xu
 rw [bD]
 exact ⟨fun ⟨y,d,e⟩=>by rw [<- of_decide_eq_true e];exact d,fun h=>⟨x,h,decide_eq_true rfl⟩⟩
def Yu (l:List ByteArray) (i:Nat):Nat:=if Jo (Yc l i) then (if Xu (l.take i) (Yc l i) then 6 else 0) else 4
theorem n5  (h:Jo (Yc l i)=F):Yu l i=4:=by
 unfold Yu
 rw [h,if_neg (by decide)]
theorem TL  (h:Jo (Yc l i)=al) (d:Yc l i ∈ l.take i):Yu l i=6:=by
 unfold Yu
 rw [if_pos h,if_pos (Zl.2 d)]
theorem ET  (h:Jo (Yc l i)=al) (f:Yc l i ∉ l.take i):Yu l i=0:=by
 unfold Yu
 rw [if_pos h,if_neg (fun d=>f (Zl.1 d))]
def XO (l:List ByteArray):Nat->Nat->Int×Int
 | _,0=>(0,-1)
 | i,m+1=>if Yu l i=0 then XO l (i+1) m else ((Yu l i:Nat),(i:Nat))
def Xj (l:List ByteArray):Int×Int:=if l.length < 1∨16 < l.length then (2,-1) else XO l 0 l.length
theorem E7 (h:l.length < 1∨16 < l.length):Xj l=(2,-1):=if_pos h
theorem AB (d:¬ l.length < 1) (f:¬ 16 < l.length):Xj l=XO l 0 l.length:=if_neg (by omega)
theorem GC {l:List ByteArray}:∀ (m i:Nat),XO l i m=(0,-1)->∀ j,i<=j->j < i+m->Yu l j=0
 | 0,i,_,j,h1,h2=>by omega
 | m+1,i,h,j,h1,h2=>by
  have d:(if Yu l i=0 then XO l (i+1) m else (((Yu l i:Nat):Int),(i:Int)))=(0,-1):=h
  by_cases e:Yu l i=0
  ·rw [if_pos e] at d
   by_cases f:j=i
   ·rw [f];exact e
   ·exact GC m (i+1) d j (by omega) (by omega)
  ·rw [if_neg e] at d
   have o:=congrArg Prod.fst d
   have q:((Yu l i:Nat):Int)=0:=o
   omega
theorem EG {l:List ByteArray}:∀ (m i:Nat),(XO l i m).1<=0->XO l i m=(0,-1)
 | 0,_,_=>rfl
 | m+1,i,h=>by
  show (if Yu l i=0 then XO l (i+1) m else (((Yu l i:Nat):Int),(i:Int)))=(0,-1)
  have d:(if Yu l i=0 then XO l (i+1) m else (((Yu l i:Nat):Int),(i:Int))).1<=0:=h
  by_cases e:Yu l i=0
  ·rw [if_pos e] at d ⊢
   exact EG m (i+1) d
  ·rw [if_neg e] at d
   have f:((Yu l i:Nat):Int)<=0:=d
   omega
theorem QV (h:(Xj l).1<=0):Xj l=(0,-1)/\1<=l.length/\l.length<=16:=by
 by_cases d:l.length < 1∨16 < l.length
 ·rw [E7 d] at h
  exact absurd h (by decide)
 ·have f:Xj l=XO l 0 l.length:=if_neg d
  rw [f] at h ⊢
  exact ⟨EG _ _ h,by omega,by omega⟩
theorem YP (h:(Xj l).1<=0):(∀ x ∈ l,Jo x=al)/\l.Nodup:=by
 obtain ⟨f,A,B⟩:=QV h
 rw [AB (by omega) (by omega)] at f
 have q:=GC l.length 0 f
 have o:∀ j,j < l.length->Jo (Yc l j)=al/\Yc l j ∉ l.take j:=fun j d=>by
  have:=q j (ar _) (by omega)
  unfold Yu at this
  by_cases e:Jo (Yc l j)=al
  ·rw [if_pos e] at this
   refine ⟨e,fun s=>?_⟩
   rw [if_pos (Zl.2 s)] at this
   omega
  ·rw [if_neg e] at this
   omega
 refine ⟨fun x t=>?_,?_⟩
 ·obtain ⟨j,d,rfl⟩:=tF t
  exact (o j d).1
 ·rw [aJ,aM]
  intro i j D d G e
  refine (o j d).2 ?_
  rw [Xk l j d,<- e,aN]
  exact ⟨i,by omega,rfl⟩
def Jm (l:List ByteArray) (n:Int):Int×Int:=if 0 < (Xj l).1 then Xj l else if (l.length:Int) < n then (8,-1) else if n < 0 then (2,-1) else Xj l
theorem sK  (h:¬ 0 < (Jm l n).1):(Xj l).1<=0/\0<=n/\n<=l.length/\Jm l n=(0,-1):=by
 unfold Jm at h ⊢
 by_cases d:0 < (Xj l).1
 ·rw [if_pos d] at h;exact absurd d h
 rw [if_neg d] at h ⊢
 by_cases f:(l.length:Int) < n
 ·rw [if_pos f] at h;exact absurd (by decide) h
 rw [if_neg f] at h ⊢
 by_cases j:n < 0
 ·rw [if_pos j] at h;exact absurd (by decide) h
 rw [if_neg j] at h ⊢
 exact ⟨by omega,by omega,by omega,(QV (by omega)).1⟩
def Qk (l:List ByteArray):Bool:=decide (40 < l.length) || l.any fun x=>decide (100 < x.size)
theorem JbQ (h:Qk l=F):l.length<=40/\∀ x ∈ l,x.size<=100:=by
 unfold Qk at h
 rw [Bool.or_eq_false_iff] at h
 refine ⟨by have:=of_decide_eq_false h.1;omega,fun x d=>?_⟩
 have:=bo.1 h.2 x d
 have j:¬ 100 < x.size:=fun f=>this (decide_eq_true f)
 omega
theorem KR {l:List ByteArray}:∀ (m i:Nat),(∀ j,i<=j->j < i+m->Yu l j=0)->XO l i m=(0,-1)
 | 0,_,_=>rfl
 | m+1,i,h=>by
  show (if Yu l i=0 then XO l (i+1) m else (((Yu l i:Nat):Int),(i:Int)))=(0,-1)
  rw [if_pos (h i (aj _) (by omega))]
  exact KR m (i+1) (fun j d f=>h j (by omega) (by omega))
theorem UY (t:1<=l.length) (A:l.length<=16) (h:∀ x ∈ l,Jo x=al) (o:l.Nodup):Xj l=(0,-1):=by
 rw [AB (by omega) (by omega)]
 refine KR _ _ fun j _ q=>ET (h _ (oQ (by omega))) fun f=>?_
 obtain ⟨i,s,e⟩:=aN.1 f
 have d:j < l.length:=by omega
 rw [Xk l j d] at e
 have:=(aJ.1 o)
 rw [aM] at this
 exact this i j (by omega) d (by omega) e
theorem Jdb  (h:Xj l=(0,-1)) (d:0<=n) (f:n<=l.length):Jm l n=(0,-1):=by
 unfold Jm
 rw [h,if_neg (by decide),if_neg (by omega),if_neg (by omega)]
structure jU (w:World) (p:Option aO) (l:List Nat):Prop where
 lt:Gf.Bytes l
 cells:l=[]∨∃ b o,p=aa ⟨b,o,ab⟩/\b < w.heap.size/\∀ i,i < l.length->w.cell? ⟨b,o+i,ab⟩=aa (.int .u8 ((Gf.nth l i:Nat):Int))
theorem jU.drewN  {l:List Nat} (h:jU w p l) (n:Nat):jU (w.drewN n) p l:=⟨h.lt,h.cells⟩
theorem jU.below  {l:List Nat} (h:jU w p l) (j:zd w.heap.size w f):jU f p l:=by
 refine ⟨h.lt,?_⟩
 rcases h.cells with h | ⟨b,o,q,d,s⟩
 ·exact aF h
 ·exact aD ⟨b,o,q,aI d j.size,fun i t=>(j.cell (p:=⟨b,o+i,ab⟩) d).trans (s i t)⟩
section
def ZM (n:Nat):Value:=.int .u8 (n:Int)
def bR (w:World) (B:Nat) (e:ap) (v:av) (l:List Nat):Prop:=w.ownsRow B e 1 v l.length (l.map ZM)
theorem bR.nil (w:World) (B:Nat) (e:ap):bR w B e (.slice ab 0 0) []:=aP w B e 1
theorem bR.kept   {l:List Nat} (h:bR w B e v l) (f:w.grownBy d row) (j:v.ownBlock=ab∨v.ownBlock≠row):bR d B e v l:=bj h f j
theorem bR.block   {l:List Nat} (h:bR w B e v l) (d:v.ownBlock=aa k):B<=k/\k < w.heap.size:=zp h k d
theorem JO (w:World) (n:Nat) (row:Option Nat):w.grownBy (w.drewN n) row:=⟨rfl,rfl,rfl,aj _,fun _ _ _=>rfl⟩
theorem bR.seg   {l:List Nat} (h:bR w B e v l) (o:Gf.Bytes l):∃ p d,v=.slice p l.length d/\jU w p l:=by
 rcases h.2 with ⟨rfl,q⟩ | ⟨g,d,t,rfl,A,s,D,G,H,I⟩
 ·have:l=[]:=az.1 q
  subst this
  exact ⟨ab,0,rfl,o,aF rfl⟩
 ·refine ⟨aa ⟨g,0,ab⟩,d,rfl,o,aD ⟨g,0,rfl,(aw.1 s).1,fun i f=>?_⟩⟩
  have j:=ax (g:=g) h rfl i (ZM (Gf.nth l i)) (by rw [aq,ag f,Gf.aK l i f];rfl)
  rw [aB] at j
  exact j
section
variable {P:ce} {w:World}
theorem H5 (B:Nat) (t o e:ap) (i:zi) (z:av) (D:P.underlying t=aa (.slice e)) (G:P.info? e=aa i) (L:i.zero=aa z) (h:i.size=1) (M:i.bytes=1)
 (v:av) (l:List Nat) (H:bR w B e v l) (ad:aO) (c b:Nat) (S:w.cell? ad=aa (ZM b)) (hl:l.length+1<=1000000) {T:World}
 (d:(ay #[t,t] o #[v,.slice (aa ad) 1 c]).run P w=.ok I T):I.ownBlock=v.ownBlock∨I.ownBlock=aa w.heap.size:=by
 have q:∀ j u,[ZM b][j]?=aa u->w.cell? (ad.add j)=aa u:=by
  intro j u s
  match j,s with
  | 0,s =>
   obtain rfl:ZM b=u:=by simpa using s
   simpa [bx] using S
 rcases H.2 with ⟨rfl,U⟩ | ⟨g,A,N,rfl,V,O,W,Y,Q,Z⟩
 ·have:=zA (P:=P) w t o e i z D G L ad 1 c [ZM b] (by rw [h];rfl) q (by decide) (by decide) (by rw [M];decide)
  rw [this] at d
  injection d with f J
  subst f
  exact aD rfl
 ·by_cases K:l.length+1<=A
  ·have:=zw (P:=P) w t o e i D G g l.length A N O ad 1 c [ZM b] (by rw [h];rfl) q (fun u R=>by rw [ah.1 R];rfl) K (by rw [h,Q];simpa using K)
   rw [this] at d
   injection d with f J
   subst f
   exact aF rfl
  ·have:=bO (P:=P) w t o e i z D G L ⟨g,0,ab⟩ l.length A (l.map ZM) (by rw [h];exact H.1) (ax (g:=g) H rfl) ad 1 c [ZM b] (by rw [h];rfl) q (by omega) (by omega) (bY (by omega) (by rw [M];omega))
   rw [this] at d
   injection d with f J
   subst f
   exact aD rfl
theorem D0  {K:Act->World->Prop} (s x:bv) (t:ap)
 (V:o.op=.call { callee:=.builtin .append,args:=#[s,x],argTypes:=#[t,t] })
 (B:Nat) (e:ap) (i:zi) (D:P.underlying t=aa (.slice e)) (G:P.info? e=aa i) (H:i.zero=aa (ZM 0)) (I:i.size=1) (J:i.bytes=1)
 (v:av) (l:List Nat) (W:a.eval s=v) (L:bR w B e v l) (ad:aO) (c b:Nat) (Y:a.eval x=.slice (aa ad) 1 c) (M:w.cell? ad=aa (ZM b)) (Z:l.length+1<=1000000) (a0:B<=w.heap.size)
 (h:∀ d f,bR f B e d (l ++ [b])->w.grownBy f v.ownBlock->(d.ownBlock=v.ownBlock∨d.ownBlock=aa w.heap.size)->K (a.put o.dst d) f):o.wp P a w K Q:=by
 have N:∀ j u,[ZM b][j]?=aa u->w.cell? (ad.add j)=aa u:=by
  intro j u q
  match j,q with
  | 0,q =>
   obtain rfl:ZM b=u:=by simpa using q
   simpa [bx] using M
 obtain ⟨d,f,A,O,R,_⟩:=zz (P:=P) w B t o.type e i (ZM 0) 1 1 D G H I J rfl (by decide) v l.length (l.map ZM) L ad 1 c [ZM b] rfl N (fun u S=>by rw [ah.1 S];rfl) (by unfold zf;omega) (by omega) a0
 have T:=H5 B t o.type e i (ZM 0) D G H I J v l L ad c b M Z A
 have U:bR f B e d (l ++ [b]):=by
  unfold bR
  rw [bg,aW]
  exact O
 unfold Oper.wp execOp
 simp only [V,resolve,invoke,builtin,Sem.run_bind,Sem.run_pure,zc,aS,bd,bn,W,Y,A]
 exact h d f U R T
theorem Jb5 {j:Array cM}   (H:o.guard=ab) (s x:bv) (t:ap)
 (I:o.op=.call { callee:=.builtin .append,args:=#[s,x],argTypes:=#[t,t] })
 (B:Nat) (e:ap) (i:zi) (J:P.underlying t=aa (.slice e)) (K:P.info? e=aa i) (L:i.zero=aa (ZM 0)) (M:i.size=1) (N:i.bytes=1)
 (v:av) (l:List Nat) (O:a.eval s=v) (R:bR w B e v l) (ad:aO) (c b:Nat) (S:a.eval x=.slice (aa ad) 1 c) (T:w.cell? ad=aa (ZM b)) (U:l.length+1<=1000000) (V:B<=w.heap.size)
 (h:∀ d f,bR f B e d (l ++ [b])->w.grownBy f v.ownBlock->(d.ownBlock=v.ownBlock∨d.ownBlock=aa w.heap.size)->aR P j Q rest (a.put o.dst d) f):aR P j Q (o :: rest) a w :=
 bp H fun _ q=>D0 s x t I B e i J K L M N v l O R ad c b S T U V fun d f A D G=>q _ _ (h d f A D G)
end
end
section
def JM (w:World) (B:Nat) (e:ap) (v:av) (d:List av):Prop:=w.ownsRow B e 1 v d.length d
theorem JM.nil (w:World) (B:Nat) (e:ap):JM w B e (.slice ab 0 0) []:=aP w B e 1
theorem JM.kept   {l:List av} (h:JM w B e v l) (f:w.grownBy d row) (j:v.ownBlock=ab∨v.ownBlock≠row):JM d B e v l:=bj h f j
theorem JM.block   {l:List av} (h:JM w B e v l) (d:v.ownBlock=aa k):B<=k/\k < w.heap.size:=zp h k d
theorem JM.cells   {l:List av} (h:JM w B e v l):v=.slice ab 0 0/\l=[]∨∃ g d,v=.slice (aa ⟨g,0,ab⟩) l.length d/\B<=g/\g < w.heap.size/\∀ i u,l[i]?=aa u->w.cell? ⟨g,i,ab⟩=aa u:=by
 rcases h.2 with ⟨rfl,j⟩ | ⟨g,d,t,rfl,o,q,A,D,G,H⟩
 ·exact aF ⟨rfl,az.1 j⟩
 ·refine aD ⟨g,d,rfl,o,(aw.1 q).1,fun i u s=>?_⟩
  have f:=ax (g:=g) h rfl i u s
  rw [aB,cc] at f
  exact f
section
variable {P:ce} {w:World}
theorem Jgr (B:Nat) (t o e:ap) (i:zi) (z:av) (br:Nat) (D:P.underlying t=aa (.slice e)) (G:P.info? e=aa i) (L:i.zero=aa z) (h:i.size=1) (M:i.bytes=br) (S:br<=64)
 (v:av) (l:List av) (H:JM w B e v l) (ad:aO) (c:Nat) (u:av) (T:u.oneCell'=al) (U:w.cell? ad=aa u) (V:l.length+1<=1000000) 
 (d:(ay #[t,t] o #[v,.slice (aa ad) 1 c]).run P w=.ok I W):I.ownBlock=v.ownBlock∨I.ownBlock=aa w.heap.size:=by
 have q:∀ j x,[u][j]?=aa x->w.cell? (ad.add j)=aa x:=by
  intro j x s
  match j,s with
  | 0,s =>
   obtain rfl:u=x:=by simpa using s
   simpa [bx] using U
 rcases H.2 with ⟨rfl,Y⟩ | ⟨g,A,N,rfl,Z,O,a0,a2,Q,a3⟩
 ·have:=zA (P:=P) w t o e i z D G L ad 1 c [u] (by rw [h];rfl) q (by decide) (by decide) (by rw [M];omega)
  rw [this] at d
  injection d with f J
  subst f
  exact aD rfl
 ·by_cases K:l.length+1<=A
  ·have:=zw (P:=P) w t o e i D G g l.length A N O ad 1 c [u] (by rw [h];rfl) q (fun x R=>by rw [ah.1 R];exact T) K (by rw [h,Q];simpa using K)
   rw [this] at d
   injection d with f J
   subst f
   exact aF rfl
  ·have a4:(l.length+1)*br<=1000000*64:=zx V S
   have:=bO (P:=P) w t o e i z D G L ⟨g,0,ab⟩ l.length A l (by rw [h];exact H.1) (ax (g:=g) H rfl) ad 1 c [u] (by rw [h];rfl) q (by omega) (by omega) (bY (by omega) (by rw [M];omega))
   rw [this] at d
   injection d with f J
   subst f
   exact aD rfl
theorem yL {G:Array cM}   (a0:o.guard=ab) (s x:bv) (t:ap)
 (ho:o.op=.call { callee:=.builtin .append,args:=#[s,x],argTypes:=#[t,t] })
 (B:Nat) (e:ap) (i:zi) (z:av) (br:Nat) (H:P.underlying t=aa (.slice e)) (I:P.info? e=aa i) (J:i.zero=aa z) (a2:z.cells.size=1) (L:i.size=1) (M:i.bytes=br) (N:br<=64)
 (v:av) (l:List av) (hs:a.eval s=v) (O:JM w B e v l) (ad:aO) (c:Nat) (u:av) (R:u.oneCell'=al) (A:a.eval x=.slice (aa ad) 1 c) (S:w.cell? ad=aa u) (T:l.length+1<=1000000) (a3:B<=w.heap.size)
 (h:∀ d f,JM f B e d (l ++ [u])->w.grownBy f v.ownBlock->(d.ownBlock=v.ownBlock∨d.ownBlock=aa w.heap.size)->aR P G Q rest (a.put o.dst d) f):aR P G Q (o :: rest) a w:=by
 have U:∀ j x,[u][j]?=aa x->w.cell? (ad.add j)=aa x:=by
  intro j x q
  match j,q with
  | 0,q =>
   obtain rfl:u=x:=by simpa using q
   simpa [bx] using S
 have a4:(l.length+1)*br<=1000000*64:=zx T N
 refine bp a0 fun K V=>?_
 obtain ⟨d,f,D,W,Y,_⟩:=zz (P:=P) w B t o.type e i z 1 br H I J L M a2 (by decide) v l.length l O ad 1 c [u] rfl U (fun x A=>by rw [ah.1 A];exact R) (by unfold zf;omega) (by omega) a3
 have Z:=Jgr B t o.type e i z br H I J L M N v l O ad c u R S T D
 have h5:JM f B e d (l ++ [u]):=by
  unfold JM
  rw [bg]
  exact W
 unfold Oper.wp execOp
 simp only [ho,resolve,invoke,builtin,Sem.run_bind,Sem.run_pure,zc,aS,bd,bn,hs,A,D]
 exact V _ _ (h d f h5 Y Z)
theorem JcD {L:Array cM}   (M:o.guard=ab) (s x:bv) (t:ap)
 (N:o.op=.call { callee:=.builtin .append,args:=#[s,x],argTypes:=#[t,t] })
 (e:ap) (i:zi) (B:P.underlying t=aa (.slice e)) (D:P.info? e=aa i) (hz:i.zero=aa (ZM 0)) (a0:i.size=1) (a2:i.bytes=1)
 (O:a.eval s=.slice ab 0 0) (q:Option aO) (r:List Nat) (c:Nat) (G:a.eval x=.slice q r.length c) (hq:jU w q r) (hl:r.length<=1000000) (a3:q=ab->c=0)
 (h:∀ f d,bR d w.heap.size e f r->zd w.heap.size w d->aR P L Q rest (a.put o.dst f) d):aR P L Q (o :: rest) a w:=by
 rcases hq.cells with A | ⟨b,R,rfl,hb,S⟩
 ·subst A
  refine bp M fun K T=>?_
  have A:(ay #[t,t] o.type #[.slice ab 0 0,.slice q 0 c]).run P w=.ok (.slice ab 0 0) w:=by
   cases q with
   | none=>obtain rfl:=a3 rfl;simp [ay,bV B,sizeOf,typeInfo,D,zD,bk]
   | some ad=>simp [ay,bV B,sizeOf,typeInfo,D,zD,bk,loadCells,loadCellsFrom]
  unfold Oper.wp execOp
  simp only [List.length_nil] at G
  simp only [N,resolve,invoke,builtin,Sem.run_bind,Sem.run_pure,zc,aS,bd,bn,O,G,A]
  exact T _ _ (h _ _ (bR.nil w _ e) (ak _ _))
 ·refine bq w M s x t N w.heap.size e i (ZM 0) 1 1 B D hz a0 a2 rfl (by decide) (.slice ab 0 0) 0 [] O (aP w _ e 1) ⟨b,R,ab⟩ r.length c (r.map ZM) G (by simp) ?_ ?_ (by unfold zf;omega) (by omega) (aj _) ?_
  ·intro j u H
   rw [aq] at H
   obtain ⟨y,I,U⟩:=aA.1 H
   have J:j < r.length:=(ai.1 I).1
   rw [aB,S j J,Gf.aK r j J,<- U]
   have:r[j]=y:=(ai.1 I).2
   rw [this]
   rfl
  ·intro u V
   obtain ⟨y,_,rfl⟩:=bm.1 V
   rfl
  ·intro f d W Y _
   refine h f d ?_ ((ak _ _).grown Y (aj _) (fun k Z=>by simp [zh] at Z))
   simpa [bR] using W
end
end
section
def Zq (w:World) (B:Nat) (v:av) (l:List ByteArray):Prop:=JM w B 9 v (l.map ac)
theorem Zq.nil (w:World) (B:Nat):Zq w B (.slice ab 0 0) []:=JM.nil w B _
theorem Zq.block   (h:Zq w B v l) (d:v.ownBlock=aa k):B<=k/\k < w.heap.size:=JM.block h d
theorem Zq.form   (h:Zq w B v l):∃ p c,v=.slice p l.length c/\Strs w p l/\l.length<=c/\(p=ab->c=0)/\∀ b o,p=aa ⟨b,o,ab⟩->B<=b/\b < w.heap.size:=by
 have q:=JM.cells h
 have s:w.ownsRow B 9 1 v (l.map ac).length (l.map ac):=h
 rcases s.2 with ⟨rfl,t⟩ | ⟨g,A,M,rfl,D,G,d,N,O,Q⟩
 ·have e:l=[]:=by simpa using t
  subst e
  exact ⟨ab,0,rfl,aF rfl,aj _,fun _=>rfl,fun _ _ h=>by cases h⟩
 ·rw [an] at d ⊢
  have f:g < w.heap.size:=(aw.1 G).1
  refine ⟨aa ⟨g,0,ab⟩,A,rfl,aD ⟨g,0,rfl,f,fun i j=>?_⟩,d,fun h=>(by cases h),fun b o h=>?_⟩
  ·rcases q with ⟨H,_⟩ | ⟨I,R,J,_,_,K⟩
   ·cases H
   ·have L : g = I := by
     have:=congrArg zh J
     simpa [zh] using this
    subst L
    rw [cc,K i (.string (Yc l i)) (by rw [aq,ag j,Xk l i j];rfl)]
  ·obtain ⟨rfl,rfl⟩:g=b/\0=o:=by simpa using h
   exact ⟨D,f⟩
theorem Zq.base {f:Nat}  (h:Zq w B v l) (D:f<=B):Zq w f v l:=by
 obtain ⟨j,d⟩:=h
 refine ⟨j,?_⟩
 rcases d with d | ⟨g,o,q,s,t,A⟩
 ·exact aF d
 ·exact aD ⟨g,o,q,s,Nat.le_trans D t,A⟩
theorem Zq.kept   (h:Zq w B v l) (d:zd w.heap.size w f):Zq f B v l :=
 JM.kept (row:=ab) h ⟨d.os,d.tape,d.output,d.size,fun k j _=>d.block k j⟩ (by cases v.ownBlock <;> simp)
section
variable {w:World}
theorem R8 {H:Array cM}   (M:o.guard=ab) (s x:bv)
 (N:o.op=.call { callee:=.builtin .append,args:=#[s,x],argTypes:=#[22,22] })
 (B:Nat) (v:av) (l:List ByteArray) (O:a.eval s=v) (A:Zq w B v l) (q:Option aO) (r:List ByteArray) (c:Nat) (R:a.eval x=.slice q r.length c) (hq:Strs w q r) (a3:q=ab->r=[]/\c=0) (hl:l.length+r.length<=8796093022208) (S:B<=w.heap.size)
 (h:∀ f d,Zq d B f (l ++ r)->zd B w d->aR prog H Q rest (a.put o.dst f) d):aR prog H Q (o :: rest) a w:=by
 obtain ⟨I,J,T,U,V⟩:=info_parts (P:=prog) (e:=9) (z:=.string ⟨#[]⟩) (size:=1) (bytes:=16) (by kernel_rfl)
 have W:∀ f d,d.ownsRow B 9 1 f ((l.map ac).length+r.length) (l.map ac ++ r.map ac)->w.grownBy d v.ownBlock->aR prog H Q rest (a.put o.dst f) d:=fun f d D G=>by
  refine h f d ?_ ((ak _ _).grown G S (fun k Y=>(A.block Y).1))
  unfold Zq JM
  have e:(l.map ac ++ r.map ac).length=(l.map ac).length+r.length:=by simp
  rw [aW,e]
  exact D
 cases q with
 | none =>
  obtain ⟨Z,hc⟩:=a3 rfl
  subst Z hc
  refine wpList_append_own_none M s x _ N B 9 I 1 underlying22 J v (l.map ac).length (l.map ac) O A R ?_
  have:=h v w (by rw [List.append_nil];exact A) (ak _ _)
  exact this
 | some ad =>
  refine bq w M s x _ N B 9 I (.string ⟨#[]⟩) 1 16 underlying22 J T U V rfl (by decide) v (l.map ac).length (l.map ac) O A ad r.length c (r.map ac) R (by simp) ?_ ?_ (by rw [an];unfold zf;omega) (by rw [an];omega) S (fun f d D G _=>W f d D G)
  ·intro j u K
   rw [aq] at K
   obtain ⟨y,L,a0⟩:=aA.1 K
   have t:j < r.length:=(ai.1 L).1
   rcases hq with h0 | ⟨b,o',hp,_,a2⟩
   ·rw [h0] at t;exact absurd t (af _)
   ·obtain rfl:ad=⟨b,o',ab⟩:=by simpa using hp
    rw [aB,a2 j t,Xk r j t,<- a0,(ai.1 L).2]
  ·intro u hu
   obtain ⟨y,_,rfl⟩:=bm.1 hu
   rfl
theorem BA {j:Array cM}   (N:o.guard=ab) (s x:bv)
 (O:o.op=.call { callee:=.builtin .append,args:=#[s,x],argTypes:=#[22,22] })
 (B:Nat) (v:av) (l:List ByteArray) (R:a.eval s=v) (q:Zq w B v l) (ad:aO) (t:ByteArray) (c:Nat) (S:a.eval x=.slice (aa ad) 1 c) (T:w.cell? ad=aa (.string t)) (U:l.length+1<=1000000) (A:B<=w.heap.size)
 (h:∀ f d,Zq d B f (l ++ [t])->zd B w d->aR prog j Q rest (a.put o.dst f) d):aR prog j Q (o :: rest) a w:=by
 obtain ⟨D,G,H,I,J⟩:=info_parts (P:=prog) (e:=9) (z:=.string ⟨#[]⟩) (size:=1) (bytes:=16) (by kernel_rfl)
 refine yL N s x _ O B 9 D (.string ⟨#[]⟩) 16 underlying22 G H rfl I J (by decide) v (l.map ac) R q ad c (.string t) rfl S T (by rw [an];exact U) A fun f d K L _=>h f d ?_ ((ak _ _).grown L A (fun k M=>(q.block M).1))
 unfold Zq
 rw [aW]
 exact K
end
end
theorem n0 (p:Option aO) (l:List ByteArray) (c:Nat) (w:World) (V:l.length<=zf) (s:∀ x ∈ l,x.size<=zf) (N:Strs w p l) :
 zB prog 6 #[.slice p l.length c] w fun e O=>e=.returned (.bool (Qk l))/\O=w:=by
 unfold zf at V
 by_cases A:40 < l.length
 ·have f:Hid (Qk l=al):=by show _=_;unfold Qk;rw [decide_eq_true A,Bool.true_or]
  rw [f.out]
  go_enter func6,ntmps6
  go_wp2
  go_ret
  exact ⟨rfl,rfl⟩
 have B:Hid (∀ i,i < l.length->(Yc l i).size<=9223372036854775807):=fun i d=>by have:=s _ (oQ d);unfold zf at this;omega
 have D:Hid (∀ i,i < l.length->100 < (Yc l i).size->Qk l=al):=fun i d h=>by
  unfold Qk
  rw [decide_eq_false A,zE,bD]
  exact ⟨Yc l i,oQ d,decide_eq_true h⟩
 have G:Hid ((∀ i,i < l.length->¬ 100 < (Yc l i).size)->Qk l=F):=fun h=>by
  unfold Qk
  rw [decide_eq_false A,zE,bo]
  intro x s Q
  obtain ⟨i,d,rfl⟩:=tF s
  exact h i d (of_decide_eq_true Q)
 generalize Qk l=r at *
 have R:Hid (Strs w p l):=N
 clear N s
 go_enter func6,ntmps6
 go_wp2
 go_loop [3] (fun x=>∃ i:Nat,i<=l.length/\x=.int .i64 i/\∀ j,j < i->¬ 100 < (Yc l j).size) (fun x=>l.length - (intOf x).toNat)
 case atStart=>exact ⟨0,ar _,rfl,fun j H=>absurd H (af _)⟩
 case round =>
  obtain ⟨i,d,rfl,J⟩:=hrel
  have I:Hid (∀ j,j < i->¬ 100 < (Yc l j).size):=J
  clear J
  by_cases q:i < l.length
  ·rcases R.out with S | ⟨b,o,rfl,W,K⟩
   ·rw [S] at q;exact absurd q (af _)
   have Y:=K i q
   have Z:=B.out i q
   clear K
   by_cases L:100 < (Yc l i).size
   ·have f:Hid (r=al):=D.out i q L
    clear D G I B
    generalize Yc l i=t at *
    go_wp2
    go_ret
    exact ⟨by rw [f.out];rfl,rfl⟩
   ·have T:Hid (¬ 100 < (Yc l i).size):=L
    clear D G B
    generalize M:Yc l i=t at *
    have U:Hid (Yc l i=t):=M
    clear M
    go_wp2
    go_round
    case rel=>exact ⟨i+1,by omega,by go_num,fun j H=>by
     rcases am j i with h | h
     ·exact I.out j h
     ·obtain rfl:j=i:=by omega
      rw [U.out];exact T.out⟩
    case measure=>simp [intOf];omega
  ·have f:Hid (r=F):=G.out (fun j H=>I.out j (by omega))
   go_wp2
   go_ret
   exact ⟨by rw [f.out];rfl,rfl⟩
theorem x0 (p:Option aO) (l:List ByteArray) (c:Nat) (w:World) (A:l.length<=8796093021952) (h:Strs w p l) (s:p=ab->l=[]/\c=0) :
 zB prog 9 #[.slice p l.length c] w fun e d=>(∃ v,e=.returned v/\Zq d w.heap.size v l)/\zd w.heap.size w d:=by
 have j:Hid (Strs w p l):=h
 clear h
 go_enter func9,ntmps9
 go_wp2_with (first | (at_builtin;refine R8 rfl (.tmp 4) (.tmp 5) rfl w.heap.size (.slice ab 0 0) [] rfl (Zq.nil _ _) p l c rfl j.out s (by show 0+l.length<=_;omega) (aj _) ?_;intro o t f q;rw [List.nil_append] at f))
 go_ret
 exact ⟨⟨o,rfl,f⟩,q⟩
def lV (s:ByteArray):Nat->Nat
 | 0=>2166136261
 | i+1=>(lV s i ^^^ Gf.nth (bytesOf s) i)*16777619 % 4294967296
theorem B2 (s:ByteArray):∀ i,lV s i < 4294967296
 | 0=>by show 2166136261 < 4294967296;decide
 | i+1=>Nat.mod_lt _ (by decide)
theorem Jbj (D G:Option aO) (l m:List ByteArray) (ca cb:Nat) (w:World) (hl:l.length<=1000000) (_hm:m.length<=1000000) (ha:Strs w D l) (hb:Strs w G m) :
 zB prog 13 #[.slice D l.length ca,.slice G m.length cb] w fun e V=>e=.returned (.bool (decide (l=m)))/\zd w.heap.size w V:=by
 by_cases o:l.length=m.length
 ·have L:Hid ((∀ i,i < l.length->Yc l i=Yc m i)->decide (l=m)=al):=fun h=>decide_eq_true (O2 o h)
  have M:Hid (∀ i,i < l.length->Yc l i≠Yc m i->decide (l=m)=F):=fun i _ h=>decide_eq_false (fun e=>h (by rw [e]))
  generalize decide (l=m)=r at *
  have N:Hid (m.length=l.length):=o.symm
  rw [<- o]
  clear o
  go_enter func13,ntmps13
  go_wp2
  go_loopw [5] (fun x W=>∃ i:Nat,i<=l.length/\x=.int .i64 i/\(∀ j,j < i->Yc l j=Yc m j)/\∃ n,W=w.drewN n) (fun x _=>l.length - (intOf x).toNat)
  case atStart=>exact ⟨0,ar _,rfl,fun j H=>absurd H (af _),0,rfl⟩
  case round =>
   obtain ⟨i,hi,rfl,O,n,A⟩:=hrel
   obtain ⟨f,rfl⟩:∃ f,f=wr:=⟨_,rfl⟩
   have I:Hid (∀ j,j < i->Yc l j=Yc m j):=O
   have J:Hid (∃ n,f=w.drewN n):=⟨n,A⟩
   have Q:Hid (Strs f D l):=by show Strs f D l;rw [A];exact ha.drewN n
   have R:Hid (Strs f G m):=by show Strs f G m;rw [A];exact hb.drewN n
   clear A O
   by_cases B:i < l.length
   ·rcases Q.out with K | ⟨b1,o1,rfl,a2,S⟩
    ·rw [K] at B;exact absurd B (af _)
    rcases R.out with K | ⟨b2,o2,rfl,a3,T⟩
    ·have:=N.out;rw [K] at this;have h3:(0:Nat)=l.length:=this;omega
    have q1:=S i B
    have Y:=T i (by have:=N.out;omega)
    clear S T Q R
    by_cases d:Yc l i=Yc m i
    ·have Z:Hid (Yc l i=Yc m i):=d
     rw [<- d] at Y
     clear d
     generalize U:Yc l i=t at *
     have a0:Hid (Yc l i=t):=U
     clear U
     go_wp2
     go_quiet (fail)
     go_wp2
     go_roundw
     case rel=>exact ⟨i+1,by omega,by go_num,fun j H=>by
      rcases am j i with h | h
      ·exact I.out j h
      ·obtain rfl:j=i:=by omega
       rw [a0.out];exact Z.out,by obtain ⟨n,q⟩:=J.out;exact ⟨_,by rw [q,World.drewN_drewN]⟩⟩
     case measure=>simp [intOf];omega
    ·have s:Hid (r=F):=M.out i B d
     have d1:=XT d
     have d2:=YT d
     have d3:=Y8 d
     clear d M L I
     generalize Yc l i=t at *
     generalize Yc m i=u at *
     go_wp2
     go_quiet (fail)
     go_wp2
     go_ret
     exact ⟨by rw [s.out];rfl,by obtain ⟨n,q⟩:=J.out;rw [q];exact zt (zt (ak _ _) n) _⟩
   ·have s:Hid (r=al):=L.out (fun j H=>I.out j (by omega))
    go_wp2
    go_ret
    exact ⟨by rw [s.out];rfl,by obtain ⟨n,q⟩:=J.out;rw [q];exact zt (ak _ _) n⟩
 ·have s:Hid (decide (l=m)=F):=decide_eq_false (fun e=>o (by rw [e]))
  rw [s.out]
  have h6:((l.length:Int) != (m.length:Int))=true:=by rw [bne_iff_ne];omega
  clear o
  go_enter func13,ntmps13
  go_wp2
  go_ret
  exact ⟨rfl,ak _ _⟩
theorem u9 (p:Option aO) (l:List ByteArray) (c:Nat) (s:ByteArray) (w:World) (M:l.length<=1000000) (D:Strs w p l) (h:s ∉ l) :
 zB prog 21 #[.slice p l.length c,.string s] w fun e q=>e=.returned (.int .i64 (-1))/\q=w:=by
 have A:Hid (s ∉ l):=h
 clear h
 go_enter func21,ntmps21
 go_wp2
 go_loop [5] (fun x=>∃ i:Nat,i<=l.length/\x=.int .i64 i) (fun x=>l.length - (intOf x).toNat)
 case atStart=>exact ⟨0,ar _,rfl⟩
 case round =>
  obtain ⟨i,G,rfl⟩:=hrel
  by_cases d:i < l.length
  ·rcases D with B | ⟨b,o,rfl,H,j⟩
   ·rw [B] at d;exact absurd d (af _)
   have I:=j i d
   have f:Yc l i≠s:=fun e=>A.out (e ▸ oQ d)
   have J:=XT f
   have K:=YT f
   have L:=Y8 f
   clear f j
   generalize Yc l i=t at *
   go_wp2
   go_round
   case rel=>exact ⟨i+1,by omega,by go_num⟩
   case measure=>simp [intOf];omega
  ·go_wp2
   go_ret
   exact ⟨rfl,rfl⟩
theorem oN (p:Option aO) (l:List ByteArray) (c:Nat) (s:ByteArray) (w:World) (W:l.length<=1000000) (Q:Strs w p l) (h:s ∈ l) :
 zB prog 21 #[.slice p l.length c,.string s] w fun e I=>e=.returned (.int .i64 ((ZJ l s:Nat):Int))/\I=w:=by
 have J:Hid (s ∈ l):=h
 clear h
 go_enter func21,ntmps21
 go_wp2
 go_loop [5] (fun x=>∃ i:Nat,i<=l.length/\x=.int .i64 i/\∀ j,j < i->Yc l j≠s) (fun x=>l.length - (intOf x).toNat)
 case atStart=>exact ⟨0,ar _,rfl,fun j q=>absurd q (af _)⟩
 case round =>
  obtain ⟨i,R,rfl,B⟩:=hrel
  have A:Hid (∀ j,j < i->Yc l j≠s):=B
  clear B
  have f:i < l.length:=by
   rcases am i l.length with h | h
   ·exact h
   ·obtain ⟨j,q,e⟩:=tF J.out
    exact absurd e (A.out j (by omega))
  rcases Q with K | ⟨b,o,rfl,S,D⟩
  ·rw [K] at f;exact absurd f (af _)
  have L:=D i f
  have G:Hid (Yc l i=Yc l i):=by show _=_;rfl
  clear D
  by_cases d:Yc l i=s
  ·have M:Hid (ZJ l s=i):=DQ f d A.out
   rw [d] at L
   clear d G
   go_wp2
   go_ret
   exact ⟨by rw [M.out];rfl,rfl⟩
  ·have N:Hid (Yc l i≠s):=d
   have T:=XT d
   have U:=YT d
   have V:=Y8 d
   clear d G
   generalize H:Yc l i=t at *
   have O:Hid (Yc l i=t):=H
   clear H
   go_wp2
   go_round
   case rel=>exact ⟨i+1,by omega,by go_num,fun j q=>by
    rcases am j i with h | h
    ·exact A.out j h
    ·obtain rfl:j=i:=by omega
     rw [O.out];exact N.out⟩
   case measure=>simp [intOf];omega
theorem JbS (s:ByteArray) (w:World) (hs:s.size<=1000000) :
 zB prog 20 #[.string s] w fun e M=>e=.returned (.bool (Jo s))/\M=w:=by
 by_cases S:s.size < 1
 ·have q:Hid (Jo s=F):=CT (by omega)
  rw [q.out]
  go_enter func20,ntmps20
  go_wp2
  go_ret
  exact ⟨rfl,rfl⟩
 by_cases T:16 < s.size
 ·have q:Hid (Jo s=F):=CT (by omega)
  rw [q.out]
  go_enter func20,ntmps20
  go_wp2
  go_ret
  exact ⟨rfl,rfl⟩
 have U:decide ((s.size:Int) < 1)=false:=decide_eq_false (by omega)
 have V:decide (16 < (s.size:Int))=false:=decide_eq_false (by omega)
 have H:Hid (∀ j,j < s.size->Xr (Gf.nth (bytesOf s) j)=F->Jo s=F):=fun j o h=>y3 o h
 have N:Hid ((∀ j,j < s.size->Xr (Gf.nth (bytesOf s) j)=al)->Jo s=al):=fun h=>y2 (by omega) (by omega) h
 generalize Jo s=r at *
 go_enter func20,ntmps20
 go_wp2
 go_loop [3] (fun x=>∃ i:Nat,i<=s.size/\x=.int .i64 i/\∀ j,j < i->Xr (Gf.nth (bytesOf s) j)=al) (fun x=>s.size - (intOf x).toNat)
 case atStart=>exact ⟨0,ar _,rfl,fun j o=>absurd o (af _)⟩
 case round =>
  obtain ⟨i,W,rfl,I⟩:=hrel
  have t:Hid (∀ j,j < i->Xr (Gf.nth (bytesOf s) j)=al):=I
  clear I
  by_cases J:i < s.size
  ·have Y:=EP s i J
   have Z:=xK s i
   have A:Hid (Xr (Gf.nth (bytesOf s) i)=F->r=F):=fun h=>H.out i J h
   have B:Hid (Xr (Gf.nth (bytesOf s) i)=al->∀ j,j < i+1->Xr (Gf.nth (bytesOf s) j)=al):=fun h j o=>by
    rcases am j i with K | K
    ·exact t.out j K
    ·obtain rfl:j=i:=by omega
     exact h
   clear H t
   generalize Gf.nth (bytesOf s) i=y at *
   rcases (show (97<=y/\y<=122)∨(48<=y/\y<=57)∨y=45∨122 < y∨(57 < y/\y < 97)∨(y < 48/\y≠45) by omega) with d | d | d | d | d | d
   ·have f:Hid (Xr y=al):=by show _=_;simp [Xr,d]
    obtain ⟨D,G⟩:=d
    go_wp2
    go_round
    case rel=>exact ⟨i+1,by omega,by go_num,B.out f.out⟩
    case measure=>simp [intOf];omega
   ·have f:Hid (Xr y=al):=by show _=_;simp [Xr,d]
    obtain ⟨D,G⟩:=d
    go_wp2
    go_round
    case rel=>exact ⟨i+1,by omega,by go_num,B.out f.out⟩
    case measure=>simp [intOf];omega
   ·have f:Hid (Xr y=al):=by show _=_;simp [Xr,d]
    subst d
    go_wp2
    go_round
    case rel=>exact ⟨i+1,by omega,by go_num,B.out f.out⟩
    case measure=>simp [intOf];omega
   ·have f : Hid (r = F) := A.out (by
     unfold Xr
     rw [decide_eq_false (by omega),decide_eq_false (by omega),decide_eq_false (by omega)]
     rfl)
    have d1:decide ((y:Int)<=122)=false:=decide_eq_false (by omega)
    have O:decide ((y:Int)<=57)=false:=decide_eq_false (by omega)
    have L:((y:Int)==45)=false:=by
     rw [beq_eq_false_iff_ne]
     omega
    go_wp2
    go_ret
    exact ⟨by rw [f.out];rfl,rfl⟩
   ·have f : Hid (r = F) := A.out (by
     unfold Xr
     rw [decide_eq_false (by omega),decide_eq_false (by omega),decide_eq_false (by omega)]
     rfl)
    obtain ⟨D,G⟩:=d
    have O:decide ((y:Int)<=57)=false:=decide_eq_false (by omega)
    have L:((y:Int)==45)=false:=by
     rw [beq_eq_false_iff_ne]
     omega
    go_wp2
    go_ret
    exact ⟨by rw [f.out];rfl,rfl⟩
   ·have f : Hid (r = F) := A.out (by
     unfold Xr
     rw [decide_eq_false (by omega),decide_eq_false (by omega),decide_eq_false (by omega)]
     rfl)
    obtain ⟨D,G⟩:=d
    have L:((y:Int)==45)=false:=by
     rw [beq_eq_false_iff_ne]
     omega
    go_wp2
    go_ret
    exact ⟨by rw [f.out];rfl,rfl⟩
  ·have Q:i=s.size:=by omega
   subst Q
   have R:Hid (r=al):=N.out t.out
   go_wp2
   go_ret
   exact ⟨by rw [R.out];rfl,rfl⟩
end Go.Proofs.YtppcijpgalaohaaGreatDoor

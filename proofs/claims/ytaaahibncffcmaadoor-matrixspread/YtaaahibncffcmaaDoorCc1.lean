/- Texts laid together. -/
import Derived.Test.YtaaahibncffcmaaDoorRows
import Derived.ProofKit
import Derived.LaidLaws
import Derived.LaidHandle
import Derived.LaidMore
import Derived.Stop.LaidErr
import Derived.Test.YtaaahibncffcmaaDoorCc0
import Derived.Laws.BitsAllLaws
import Derived.Laws.BitsLemmas
import Derived.WalkSmall
import Derived.Laws.AppendOwn
import Derived.OwnWalk
import Derived.Laws.AppendOwnNone
import Derived.Deep.OwnRows
import Derived.Deep.QuietTactic
import Derived.BigQuiet
import Derived.Deep.RegionWith
import Derived.StillTailTactics
import Derived.Below
set_option maxRecDepth 10000
set_option maxHeartbeats 4000000
open Option renaming some->aa,none->ab
open List renaming mem_singleton->ac,getElem?_eq_getElem->ae,length_eq_zero_iff->af,mem_append_right->aj,getElem?_map->ak,range->au,length_append->ay,sublist_append_right->aB,getElem?_eq_none->za,map_toArray->be,range_succ->bj,map_cons->bA,map_nil->zg
open Go renaming Value->ag,TypeId->ah,Calls->ar,toList_madeCells_one->zb,Addr->aO,madeCells->aR,TypeInfo->ba,below_drewN->bh,run_append_room->bk,run_append_grow->bl,u8_xor_nat->bq,run_append_own->br,run_append_nil->bs,info_parts->bt,growslice_fits->bu,Program->zk,wpList->b8,bits->cj
open Option.some renaming inj->ai
open Nat renaming mod_two_eq_zero_or_one->al,le_refl->am,mul_le_mul->aw,lt_of_lt_of_le->ax,not_lt_zero->aF,pow_le_pow_right->aJ,lt_of_le_of_lt->zd,mod_eq_of_lt->bd,div_le_self->bi,lt_irrefl->bz,zero_add->bC,lt_or_ge->bD
open Array renaming getElem?_eq_some_iff->an,getElem?_eq_none->aE
open Go.RowKit renaming Below->ao,wrap64->bv
open Go.World.ownsRow renaming cells->ap,kept->aA,lt->aD,frozenAt->bG,stored->zn,cellAt->zo
open Go.RowKit.Below renaming refl->aq
open Go.Calls renaming quiet_of_same->av
open Or renaming inr->aC,inl->aI
namespace Go.Proofs.YtaaahibncffcmaaDoor
open Go.Proofs.Tryd
open Go.RowKit
variable {W w w':World}{B b k g n:Nat}{E e T:ah}{o:Oper}{v:ag}{a:Act}{p:Option aO}{l:List Nat}{M:List (List Nat)}{Q:Exit->Act->World->Prop}
section
open Go.ChangeShapes Go.WideShapes Go.RowKit
def GZ (d:List UInt8):DataW Unit:=.iface "*errors.errorString" (.ptr (.agg [.lit (.string d)]))
theorem UX {P:zk} {R B D:ah} {ms:Array (String×ah)} {f:Field}
 (hi:P.underlying R=aa (.interface ms)) (a7:∀ u,P.typeName? 3 u=aa "*errors.errorString"->u=B)
 (hp:P.underlying B=aa (.pointer D)) (he:P.underlying D=aa (.struct #[f])) (a8:f.type=E) (a9:f.offset=0) (hs:P.underlying E=aa .string) (hc:P.cellsOf D=1) (b1:P.cellsOf E=1) :
 ∀ (L:List (String×List UInt8)) (o:List MemPlace),DataW.LaidVars P W (L.map fun x=>(x.1,GZ x.2)) o ->
  (∀ x ∈ L,∃ g,P.globalNamed x.1=aa g/\(P.globals[g]?).map (·.type)=aa R) ->
  (∀ b A,MemPlace.cell b A ∈ o->(∃ c t,W.heap[b]?=aa (.cells c t (0,0)))/\∀ u v,W.cell? ⟨b,A,ab⟩=aa (.iface u v)->Value.okWide P W .any 0 u v) ->
  ∃ ad:Nat->aO,(∀ i x,L[i]?=aa x->MemPlace.cell (ad i).block (ad i).off ∈ o/\W.var? P x.1=aa #[.iface B (.pointer (aa (ad i)))]) /\
   (o.Nodup->∀ i j,i < L.length->j < L.length->i≠j->ad i≠ad j):=by
 intro L
 induction L with
 | nil =>
  intro o _ _ _
  exact ⟨fun _=>⟨0,0,ab⟩,fun i x h=>by simp at h,fun _ i j h=>by simp at h⟩
 | cons x r ih =>
  intro o S G H
  obtain ⟨g0,t0,T,f0,p0,I,J,U,K,V,Y,rfl⟩:=S
  obtain ⟨g,Z,ht⟩:=G x (List.mem_cons_self ..)
  obtain rfl:=ai (Z.symm.trans J)
  obtain rfl:=ai (ht.symm.trans U)
  obtain ⟨ad,M,h2⟩:=ih I Y (fun y s=>G y (List.mem_cons_of_mem _ s)) (fun b A z=>H b A (aj _ z))
  obtain ⟨l0⟩:=T
  have a1:∀ u v,l0=[.iface u v]->Value.okWide P W .any 0 u v:=fun u v e=>by
   subst e
   exact (H g 0 (by simp [MemPlace.row])).2 u v (by simpa using World.var?_cell J K 0)
  obtain ⟨N,s0,rfl,b2,b3,b4,rfl⟩:=errorString_of_trod hi a7 hp he a8 a9 hs hc b1 V a1
  refine ⟨fun i=>match i with | 0=>N | k+1=>ad k,?_,?_⟩
  ·intro i y s
   match i with
   | 0 =>
    obtain rfl:x=y:=by simpa using s
    exact ⟨by simp [MemPlace.row],K⟩
   | k+1 =>
    have:=M k y (by simpa using s)
    exact ⟨aj _ this.1,this.2⟩
  ·intro O i j a2 a3 a4
   have a5:I.Nodup:=List.Nodup.sublist (aB _ _) O
   have Q:∀ k,k < r.length->N≠ad k:=by
    intro k d e
    obtain ⟨y,s⟩:∃ y,r[k]?=aa y:=⟨r[k],ae d⟩
    have z:=(M k y s).1
    rw [<- e] at z
    have a6:=(List.nodup_append.1 O).2.2
    exact a6 _ (aj _ (by simp [MemPlace.row])) _ z rfl
   match i,j,a2,a3,a4 with
   | 0,0,_,_,h=>exact absurd rfl h
   | 0,k+1,_,d,_=>exact Q k (by simpa using d)
   | k+1,0,d,_,_=>exact (Q k (by simpa using d)).symm
   | k+1,m+1,d,z,hne=>exact h2 a5 k m (by simpa using d) (by simpa using z) (fun e=>hne (by rw [e]))
theorem AY {P:zk} {W:World}:∀ (L M:List (String×DataW Unit)) (d:List MemPlace),DataW.LaidVars P W (L ++ M) d->∃ p q,d=p ++ q/\DataW.LaidVars P W M q
 | [],_,d,h=>⟨[],d,rfl,h⟩
 | x :: L,M,d,h=>by
  obtain ⟨o,r,s,t,u,f,y,z,A,B,j,rfl⟩:=h
  obtain ⟨p,q,rfl,k⟩:=AY L M f j
  exact ⟨_,q,(List.append_assoc _ _ _).symm,k⟩
theorem ID : "*" ++ "errors.errorString" = "*errors.errorString":=by kernel_rfl
theorem oP (u:ah) (h:prog.typeName? 3 u=aa "*errors.errorString"):u=136 :=
 typeName_ptr_named (nm := "errors.errorString") (by rw [ID];kernel_rfl) (by kernel_rfl) (by decide) u (by rw [ID];exact h)
end
section
open Go.Extern.Stop Go.Stop Go.Extern
structure Qy (w:World) (ad:Nat->aO):Prop where
 c0:w.cell? ⟨4,0,ab⟩=aa (.iface 136 (.pointer (aa (ad 0))))
 c1:w.cell? ⟨0,0,ab⟩=aa (.iface 136 (.pointer (aa (ad 1))))
 c2:w.cell? ⟨1,0,ab⟩=aa (.iface 136 (.pointer (aa (ad 2))))
 c3:w.cell? ⟨5,0,ab⟩=aa (.iface 136 (.pointer (aa (ad 3))))
 c4:w.cell? ⟨6,0,ab⟩=aa (.iface 136 (.pointer (aa (ad 4))))
 c5:w.cell? ⟨7,0,ab⟩=aa (.iface 136 (.pointer (aa (ad 5))))
 c6:w.cell? ⟨8,0,ab⟩=aa (.iface 136 (.pointer (aa (ad 6))))
 c7:w.cell? ⟨3,0,ab⟩=aa (.iface 136 (.pointer (aa (ad 7))))
 c8:w.cell? ⟨9,0,ab⟩=aa (.iface 136 (.pointer (aa (ad 8))))
 c9:w.cell? ⟨10,0,ab⟩=aa (.iface 136 (.pointer (aa (ad 9))))
 e9:w.cell? ⟨11,0,ab⟩=aa (.iface 136 (.pointer (aa (ad 10))))
 e8:w.cell? ⟨2,0,ab⟩=aa (.iface 136 (.pointer (aa (ad 11))))
 gW:w.cell? ⟨12,0,ab⟩=aa (.iface 121 (.agg #[.pointer (aa ⟨14,25,ab⟩)]))
 row:∀ i,i < 12->∃ c t,w.heap[(ad i).block]?=aa (.cells c t (0,0))
 ne:∀ i j,i < 12->j < 12->i≠j->ad i≠ad j
theorem Qf {o:Nat} (h:w.cell? ⟨b,o,ab⟩=aa v):b < w.heap.size:=by
 rcases bD b w.heap.size with d | d
 ·exact d
 ·simp [World.cell?,aE d] at h
theorem q9  {o:Obj} (h:w.heap[b]?=aa o):b < w.heap.size:=by
 rcases bD b w.heap.size with d | d
 ·exact d
 ·rw [aE d] at h;cases h
theorem Qy.below {ad:Nat->aO} (h:Qy w ad) (d:ao w.heap.size w w'):Qy w' ad where
 c0:=(d.cell (Qf h.c0)).trans h.c0
 c1:=(d.cell (Qf h.c1)).trans h.c1
 c2:=(d.cell (Qf h.c2)).trans h.c2
 c3:=(d.cell (Qf h.c3)).trans h.c3
 c4:=(d.cell (Qf h.c4)).trans h.c4
 c5:=(d.cell (Qf h.c5)).trans h.c5
 c6:=(d.cell (Qf h.c6)).trans h.c6
 c7:=(d.cell (Qf h.c7)).trans h.c7
 c8:=(d.cell (Qf h.c8)).trans h.c8
 c9:=(d.cell (Qf h.c9)).trans h.c9
 e9:=(d.cell (Qf h.e9)).trans h.e9
 e8:=(d.cell (Qf h.e8)).trans h.e8
 gW:=(d.cell (Qf h.gW)).trans h.gW
 row:=fun i j=>by
  obtain ⟨c,t,f⟩:=h.row i j
  exact ⟨c,t,(d.block _ (q9 f)).trans f⟩
 ne:=h.ne
def Qu (ad:Nat->aO):Array Value:=#[.iface 136 (.pointer (aa (ad 0))),.iface 136 (.pointer (aa (ad 1))),.iface 136 (.pointer (aa (ad 2))),.iface 136 (.pointer (aa (ad 3))),.iface 136 (.pointer (aa (ad 4))),.iface 136 (.pointer (aa (ad 5))),.iface 136 (.pointer (aa (ad 6))),.iface 136 (.pointer (aa (ad 7))),.iface 136 (.pointer (aa (ad 8))),.iface 136 (.pointer (aa (ad 9))),.iface 136 (.pointer (aa (ad 10))),.iface 136 (.pointer (aa (ad 11)))]
theorem q3 (ad:Nat->aO) (w:World):∀ k,k < 12->(w.alloc (.cells (Qu ad) 25)).cell? ⟨w.heap.size,k,ab⟩=aa (.iface 136 (.pointer (aa (ad k)))):=by
 intro k d
 have e:(Qu ad)[k]?=aa (.iface 136 (.pointer (aa (ad k)))):=by
  match k,d with
  | 0,_ | 1,_ | 2,_ | 3,_ | 4,_ | 5,_ | 6,_ | 7,_ | 8,_ | 9,_ | 10,_ | 11,_=>rfl
 rw [World.cell?_alloc_at _ _ _ _ (by simp)]
 exact e
theorem r2 (ad:Nat->aO) (i:Nat) (M:i < 12) (w:World) (N:Qy w ad) :
 ar prog 31 #[.iface 136 (.pointer (aa (ad i)))] w fun e w'=>e=.returned (.tuple #[.int .i64 ((i+1:Nat):Int),.int .i64 (-1)])/\ao w.heap.size w w':=by
 have A:ao w.heap.size w (w.alloc (.cells #[.pointer ab] 85)):=(aq _ _).alloc (am _) _
 have r:=N.below A
 go_enter func31,ntmps31
 go_wp2_with fail
 refine (p9 _ _ _ r.gW).mono ?_
 rintro e d ⟨rfl,j⟩
 have s:=r.below j
 have O:=s
 obtain ⟨c0,c1,c2,c3,c4,c5,c6,c7,c8,c9,e9,e8,_,_,_⟩:=O
 go_wp2
 clear c0 c1 c2 c3 c4 c5 c6 c7 c8 c9 e9 e8 A r N
 have t:ao d.heap.size d (d.alloc (.cells (Qu ad) 25)):=(aq _ _).alloc (am _) _
 have f:=s.below t
 have o:=q3 ad d
 have u:Hid (ao w.heap.size w (d.alloc (.cells (Qu ad) 25))):=(((aq _ _).alloc (am _) _).trans (j.mono (by simp))).trans (t.mono (by have:=j.size;simp at this;omega))
 have Q:(d.alloc (.cells (Qu ad) 25)).heap.size=d.heap.size+1:=by simp
 unfold Qu at f o u
 generalize d.alloc (.cells _ 25)=B at f o u ⊢
 clear j t s Q
 go_loop [3,30] (fun y x=>y=.int .i64 (-1)/\∃ k:Nat,k<=i/\x=.int .i64 k) (fun _ x=>12 - (intOf x).toNat)
 case atStart=>exact ⟨rfl,0,by omega,rfl⟩
 case round =>
  obtain ⟨rfl,k,U,rfl⟩:=hrel
  have z:k < 12:=by omega
  have V:=o k z
  obtain ⟨D,E,G⟩:=f.row i M
  obtain ⟨H,I,J⟩:=f.row k z
  clear o
  by_cases K:k=i
  ·subst K
   go_wp2_with (go_at_call 63;refine (s8 (ad k) _).mono ?_;rintro e w' ⟨rfl,rfl⟩)
   go_ret2
   exact ⟨by simp,u.out⟩
  ·have L:=f.ne i k M z (fun h=>K h.symm)
   have R:Hid (ad i≠ad k):=L
   have S:Hid (B.heap[(ad i).block]?=aa (.cells D E (0,0))):=G
   have T:Hid (B.heap[(ad k).block]?=aa (.cells H I (0,0))):=J
   clear L G J
   go_wp2_with (go_at_call 63;refine (oN (ad i) (ad k) D H E I _ R.out S.out T.out).mono ?_;rintro e w' ⟨rfl,rfl⟩)
   go_round
   case rel=>exact ⟨rfl,k+1,by omega,by go_num⟩
   case measure=>simp [intOf];omega
end
section
open Go.ChangeShapes Go.WideShapes Go.RowKit
def e6:List (String×List UInt8):=(Rows.matrixSpreadRow.laid.drop (0+1)).map fun x=>(x.1,match x.2 with | .iface _ (.ptr (.agg [.lit (.string t)]))=>t | _=>[])
theorem w9 (W:World):laidMetH prog Rows.matrixSpreadRow.laid W=(laidMet prog (Rows.matrixSpreadRow.laid.take 0 ++ e6.map fun x=>(x.1,GZ x.2)) W/\handlesMet prog ((Rows.matrixSpreadRow.laid.drop 0).take 1) W):=by kernel_rfl
theorem HQ:(e6.all fun x=>match prog.globalNamed x.1 with | some g=>(prog.globals[g]?).map (·.type)==aa 25 | none=>false)=true:=by kernel_rfl
theorem g12:e6.map (fun x=>prog.globalNamed x.1)=[aa 4,aa 0,aa 1,aa 5,aa 6,aa 7,aa 8,aa 3,aa 9,aa 10,aa 11,aa 2]:=by kernel_rfl
theorem wX:prog.globalNamed "errors.errorType"=aa 12:=by kernel_rfl
theorem o3:((au 168).filter fun t=>prog.rowNamed t [101,114,114,111,114])=[25]:=by kernel_rfl
theorem D0:prog.types.size=168:=by kernel_rfl
theorem u2 (h:laidMetH prog Rows.matrixSpreadRow.laid W):∃ ad,Qy W ad:=by
 rw [w9] at h
 obtain ⟨⟨a0,z,A,B⟩,I⟩:=h
 obtain ⟨pp,s,rfl,J⟩:=AY _ _ _ z
 have K:s.Nodup:=List.Nodup.sublist (aB _ _) A
 have D:=fun b E (k:MemPlace.cell b E ∈ s)=>B b E (aj _ k)
 clear z A B
 have L:∀ x ∈ e6,∃ g,prog.globalNamed x.1=aa g/\(prog.globals[g]?).map (·.type)=aa 25:=by
  intro x f
  have:=List.all_eq_true.1 HQ x f
  split at this
  ·rename_i g y
   exact ⟨g,y,by simpa using this⟩
  ·cases this
 have M:prog.cellsOf 156=1:=by kernel_rfl
 have c9:prog.cellsOf 9=1:=by kernel_rfl
 obtain ⟨ad,G,N⟩:=UX underlying25 oP underlying136 underlying156 rfl rfl underlying9 M c9 e6 s J L D
 have O:∀ i g x,e6[i]?=aa x->prog.globalNamed x.1=aa g->W.cell? ⟨g,0,ab⟩=aa (.iface 136 (.pointer (aa (ad i)))):=by
  intro i g x f y
  simpa using World.var?_cell y (G i x f).2 0
 have d:∀ i g,(e6.map (fun x=>prog.globalNamed x.1))[i]?=aa (aa g)->W.cell? ⟨g,0,ab⟩=aa (.iface 136 (.pointer (aa (ad i)))):=by
  intro i g f
  rw [ak] at f
  obtain ⟨x,Q,R⟩:=Option.map_eq_some_iff.1 f
  exact O i g x Q R
 rw [g12] at d
 have o:e6.length=12:=rfl
 refine ⟨ad,d 0 _ rfl,d 1 _ rfl,d 2 _ rfl,d 3 _ rfl,d 4 _ rfl,d 5 _ rfl,d 6 _ rfl,d 7 _ rfl,d 8 _ rfl,d 9 _ rfl,d 10 _ rfl,d 11 _ rfl,?_,?_,fun i j r S=>N K i j (by rw [o];exact r) (by rw [o];exact S)⟩
 ·obtain ⟨T,u,U,V,Y,Z,e4,H⟩:=I _ (ac.2 rfl)
  have en:T=[101,114,114,111,114]:=(ai V).symm
  subst en
  obtain rfl:121=u:=ai ((show _=aa 121 by kernel_rfl).symm.trans Y)
  have k:U ∈ (au 168).filter fun t=>prog.rowNamed t [101,114,114,111,114]:=List.mem_filter.2 ⟨List.mem_range.2 (by rw [<- D0];exact Z),e4⟩
  rw [o3] at k
  obtain rfl:=ac.1 k
  have hh:typeHandle prog 25=.pointer (aa ⟨14,25,ab⟩):=by kernel_rfl
  rw [hh] at H
  simpa using World.var?_cell wX H 0
 ·intro i r
  obtain ⟨x,f⟩:∃ x,e6[i]?=aa x:=⟨e6[i]'(by rw [o];exact r),ae (by rw [o];exact r)⟩
  exact (D _ _ (G i x f).1).1
theorem own:ownKnob prog.godebug=none:=by kernel_rfl
end
theorem l4 {k:IntKind} {a b:Int} (h:a=b):Ending.returned (.int k a)=.returned (.int k b):=by rw [h]
theorem sB {a b:Bool} (h:a=b):Ending.returned (.bool a)=.returned (.bool b):=by rw [h]
theorem x7 (b k:Nat) (o:b < 256):(cj BinOp.and IntKind.u8 ((b:Int) / 2 ^ k) 1==1)=decide (Gf.bT b k=1):=by
 have d:((b:Int) / 2 ^ k)=((b / 2 ^ k:Nat):Int):=by simp
 have f:b / 2 ^ k < 256:=zd (bi _ _) o
 have j:cj BinOp.and IntKind.u8 ((b / 2 ^ k:Nat):Int) 1=((b / 2 ^ k % 2:Nat):Int):=by
  have:=u8_and_nat (b / 2 ^ k) 1 f (by decide)
  rw [Nat.and_one_is_mod] at this
  exact this
 rw [d,j]
 unfold Gf.bT
 rcases al (b / 2 ^ k) with h | h <;> rw [h] <;> rfl
theorem s5 (b k:Nat) (o:b < 256):(cj BinOp.and IntKind.i64 ((b:Int) / 2 ^ k) 1==1)=decide (Gf.bT b k=1):=by
 have d:((b:Int) / 2 ^ k)=((b / 2 ^ k:Nat):Int):=by simp
 have f:b / 2 ^ k < 256:=zd (bi _ _) o
 have j:cj BinOp.and IntKind.i64 ((b / 2 ^ k:Nat):Int) 1=((b / 2 ^ k % 2:Nat):Int):=by
  have:=bits_mask IntKind.i64 8 (by decide) (fun n r d=>by rw [IntKind.wrap_i64];omega) 1 (by decide) ((b / 2 ^ k:Nat):Int) (Int.natCast_nonneg _) (by exact_mod_cast f)
  rw [show ((2:Int) ^ 1 - 1)=1 from rfl] at this
  rw [this]
  rfl
 rw [d,j]
 unfold Gf.bT
 rcases al (b / 2 ^ k) with h | h <;> rw [h] <;> rfl
def Xh (n:Int):Nat:=(n % 255).toNat
theorem M4 (n:Int):((Xh n:Nat):Int)=n % 255:=by unfold Xh;omega
theorem UP (n:Int):Xh n < 255:=by unfold Xh;omega
theorem hP (n:Int):n.tmod 255=-((-n).tmod 255):=by rw [Int.neg_tmod,Int.neg_neg]
theorem j2 (a b:Nat) (d:a < 2 ^ 62) (f:b < 2 ^ 62):cj .xor .i64 (a:Int) (b:Int)=((a ^^^ b:Nat):Int):=by
 have h:a ^^^ b < 2 ^ 62:=Nat.xor_lt_two_pow d f
 show IntKind.i64.wrap ((BitVec.ofInt 64 (a:Int) ^^^ BitVec.ofInt 64 (b:Int)).toNat:Int)=_
 rw [BitVec.toNat_xor,BitVec.ofInt_natCast,BitVec.ofInt_natCast,BitVec.toNat_ofNat,BitVec.toNat_ofNat,bd (by omega),bd (by omega),IntKind.wrap_i64]
 omega
theorem h9 (n:Nat) (h:n < 2 ^ 62):bv (n:Int)=(n:Int):=by
 unfold bv;omega
theorem nR (b k:Nat):(((b:Int) / 2 ^ k).tmod 2==1)=decide (Gf.bT b k=1):=by
 have d:((b:Int) / 2 ^ k)=((b / 2 ^ k:Nat):Int):=by simp
 rw [d,Int.tmod_eq_emod_of_nonneg (Int.natCast_nonneg _)]
 unfold Gf.bT
 have f:(((b / 2 ^ k:Nat):Int) % 2)=((b / 2 ^ k % 2:Nat):Int):=by simp
 rw [f]
 rcases al (b / 2 ^ k) with h | h <;> rw [h] <;> rfl
structure jU (w:World) (p:Option aO) (l:List Nat):Prop where
 lt:Gf.Bytes l
 cells:l=[]∨∃ b o,p=aa ⟨b,o,ab⟩/\b < w.heap.size/\∀ i,i < l.length->w.cell? ⟨b,o+i,ab⟩=aa (.int .u8 ((Gf.nth l i:Nat):Int))
theorem jU.drewN  (h:jU w p l) (n:Nat):jU (w.drewN n) p l:=⟨h.lt,h.cells⟩
theorem jU.below  (h:jU w p l) (f:ao w.heap.size w w'):jU w' p l:=by
 refine ⟨h.lt,?_⟩
 rcases h.cells with h | ⟨b,o,j,d,k⟩
 ·exact aI h
 ·exact aC ⟨b,o,j,ax d f.size,fun i r=>(f.cell (p:=⟨b,o+i,ab⟩) d).trans (k i r)⟩
def QJ (w:World) (p:Option aO) (M:List (List Nat)):Prop :=
 M=[]∨∃ b o,p=aa ⟨b,o,ab⟩/\b < w.heap.size/\∀ i,i < M.length->∃ q c,w.cell? ⟨b,o+i,ab⟩=aa (.slice q (Qh M i).length c)/\jU w q (Qh M i)/\(q=ab->c=0)
theorem QJ.below  (h:QJ w p M) (d:ao w.heap.size w w'):QJ w' p M:=by
 rcases h with h | ⟨b,o,k,f,r⟩
 ·exact aI h
 ·refine aC ⟨b,o,k,ax f d.size,fun i s=>?_⟩
  obtain ⟨q,c,t,j⟩:=r i s
  exact ⟨q,c,(d.cell (p:=⟨b,o+i,ab⟩) f).trans t,j.1.below d,j.2⟩
theorem QJ.drewN  (h:QJ w p M) (n:Nat):QJ (w.drewN n) p M:=h.below (bh (aq _ _) n)
def jQ (M:List (List Nat)):Prop:=1<=M.length/\M.length<=16/\∀ i,i < M.length->1<=(Qh M i).length/\(Qh M i).length<=16/\(Qh M i).length=(Qh M 0).length
section
def ZM (n:Nat):Value:=.int .u8 (n:Int)
def Qa (w:World) (B:Nat) (e:ah) (v:ag) (l:List Nat):Prop:=w.ownsRow B e 1 v l.length (l.map ZM)
theorem Qa.nil (w:World) (B:Nat) (e:ah):Qa w B e (.slice ab 0 0) []:=World.ownsRow_nil w B e 1
theorem Qa.kept   {row:Option Nat} (h:Qa w B e v l) (d:w.grownBy w' row) (f:v.ownBlock=ab∨v.ownBlock≠row):Qa w' B e v l:=aA h d f
theorem Qa.block   (h:Qa w B e v l) (d:v.ownBlock=aa k):B<=k/\k < w.heap.size:=aD h k d
theorem JO (w:World) (n:Nat) (row:Option Nat):w.grownBy (w.drewN n) row:=⟨rfl,rfl,rfl,am _,fun _ _ _=>rfl⟩
theorem Qa.hZ   (h:Qa w B e v l) (k:Gf.Bytes l):∃ p d,v=.slice p l.length d/\jU w p l:=by
 rcases h.2 with ⟨rfl,o⟩ | ⟨g,d,s,rfl,t,r,u,y,z,A⟩
 ·have:l=[]:=af.1 o
  subst this
  exact ⟨ab,0,rfl,k,aI rfl⟩
 ·refine ⟨aa ⟨g,0,ab⟩,d,rfl,k,aC ⟨g,0,rfl,(an.1 r).1,fun i f=>?_⟩⟩
  have j:=ap (g:=g) h rfl i (ZM (Gf.nth l i)) (by rw [ak,ae f,Gf.aK l i f];rfl)
  rw [Addr.add_lit] at j
  exact j
section
variable {P:zk} {w:World}
theorem y6 (B:Nat) (t k e:ah) (i:ba) (z:ag) (y:P.underlying t=aa (.slice e)) (A:P.info? e=aa i) (I:i.zero=aa z) (h:i.size=1) (J:i.bytes=1)
 (v:ag) (l:List Nat) (D:Qa w B e v l) (ad:aO) (c b:Nat) (O:w.cell? ad=aa (ZM b)) (V:l.length+1<=1000000) {E:ag} 
 (d:(Builtin.append_ #[t,t] k #[v,.slice (aa ad) 1 c]).run P w=.ok E w'):E.ownBlock=v.ownBlock∨E.ownBlock=aa w.heap.size:=by
 have o:∀ j u,[ZM b][j]?=aa u->w.cell? (ad.add j)=aa u:=by
  intro j u r
  match j,r with
  | 0,r =>
   obtain rfl:ZM b=u:=by simpa using r
   simpa [Addr.add] using O
 rcases D.2 with ⟨rfl,Q⟩ | ⟨g,s,K,rfl,R,L,S,T,M,U⟩
 ·have:=bs (P:=P) w t k e i z y A I ad 1 c [ZM b] (by rw [h];rfl) o (by decide) (by decide) (by rw [J];decide)
  rw [this] at d
  injection d with f G
  subst f
  exact aC rfl
 ·by_cases H:l.length+1<=s
  ·have:=bk (P:=P) w t k e i y A g l.length s K L ad 1 c [ZM b] (by rw [h];rfl) o (fun u N=>by rw [ac.1 N];rfl) H (by rw [h,M];simpa using H)
   rw [this] at d
   injection d with f G
   subst f
   exact aI rfl
  ·have:=bl (P:=P) w t k e i z y A I ⟨g,0,ab⟩ l.length s (l.map ZM) (by rw [h];exact D.1) (ap (g:=g) D rfl) ad 1 c [ZM b] (by rw [h];rfl) o (by omega) (by omega) (bu (by omega) (by rw [J];omega))
   rw [this] at d
   injection d with f G
   subst f
   exact aC rfl
theorem n9  {K:Act->World->Prop} (s x:Operand) (t:ah)
 (O:o.op=.call { callee:=.builtin .append,args:=#[s,x],argTypes:=#[t,t] })
 (B:Nat) (e:ah) (i:ba) (r:P.underlying t=aa (.slice e)) (y:P.info? e=aa i) (z:i.zero=aa (ZM 0)) (A:i.size=1) (D:i.bytes=1)
 (v:ag) (l:List Nat) (R:a.eval s=v) (E:Qa w B e v l) (ad:aO) (c b:Nat) (S:a.eval x=.slice (aa ad) 1 c) (G:w.cell? ad=aa (ZM b)) (T:l.length+1<=1000000) (U:B<=w.heap.size)
 (h:∀ d w',Qa w' B e d (l ++ [b])->w.grownBy w' v.ownBlock->(d.ownBlock=v.ownBlock∨d.ownBlock=aa w.heap.size)->K (a.put o.dst d) w'):o.wp P a w K Q:=by
 have H:∀ j u,[ZM b][j]?=aa u->w.cell? (ad.add j)=aa u:=by
  intro j u f
  match j,f with
  | 0,f =>
   obtain rfl:ZM b=u:=by simpa using f
   simpa [Addr.add] using G
 obtain ⟨d,w',k,I,J,_⟩:=br (P:=P) w B t o.type e i (ZM 0) 1 1 r y z A D rfl (by decide) v l.length (l.map ZM) E ad 1 c [ZM b] rfl H (fun u L=>by rw [ac.1 L];rfl) (by unfold maxLen;omega) (by omega) U
 have M:=y6 B t o.type e i (ZM 0) r y z A D v l E ad c b G T k
 have N:Qa w' B e d (l ++ [b]):=by
  unfold Qa
  rw [ay,List.map_append]
  exact I
 unfold Oper.wp execOp
 simp only [O,resolve,invoke,builtin,Sem.run_bind,Sem.run_pure,Result.andThen_ok,be,bA,zg,R,S,k]
 exact h d w' N J M
theorem X4 {f:Array Oper} {j:List Oper}  (z:o.guard=ab) (s x:Operand) (t:ah)
 (A:o.op=.call { callee:=.builtin .append,args:=#[s,x],argTypes:=#[t,t] })
 (B:Nat) (e:ah) (i:ba) (D:P.underlying t=aa (.slice e)) (E:P.info? e=aa i) (G:i.zero=aa (ZM 0)) (H:i.size=1) (I:i.bytes=1)
 (v:ag) (l:List Nat) (J:a.eval s=v) (K:Qa w B e v l) (ad:aO) (c b:Nat) (L:a.eval x=.slice (aa ad) 1 c) (M:w.cell? ad=aa (ZM b)) (N:l.length+1<=1000000) (O:B<=w.heap.size)
 (h:∀ d w',Qa w' B e d (l ++ [b])->w.grownBy w' v.ownBlock->(d.ownBlock=v.ownBlock∨d.ownBlock=aa w.heap.size)->b8 P f Q j (a.put o.dst d) w'):b8 P f Q (o :: j) a w :=
 wpList_plain z fun _ k=>n9 s x t A B e i D E G H I v l J K ad c b L M N O fun d w' r u y=>k _ _ (h d w' r u y)
end
end
theorem KF:(prog.info? 5).map (fun i=>(i.zero,i.size,i.bytes))=aa (aa (ZM 0),1,1):=by kernel_rfl
def JB (k:Nat):List Nat:=au k
section
def JM (w:World) (B:Nat) (e:ah) (v:ag) (d:List ag):Prop:=w.ownsRow B e 1 v d.length d
theorem JM.nil (w:World) (B:Nat) (e:ah):JM w B e (.slice ab 0 0) []:=World.ownsRow_nil w B e 1
theorem JM.kept   {l:List ag} {row:Option Nat} (h:JM w B e v l) (d:w.grownBy w' row) (f:v.ownBlock=ab∨v.ownBlock≠row):JM w' B e v l:=aA h d f
theorem JM.block   {l:List ag} (h:JM w B e v l) (d:v.ownBlock=aa k):B<=k/\k < w.heap.size:=aD h k d
theorem JM.cells   {l:List ag} (h:JM w B e v l):v=.slice ab 0 0/\l=[]∨∃ g d,v=.slice (aa ⟨g,0,ab⟩) l.length d/\B<=g/\g < w.heap.size/\∀ i u,l[i]?=aa u->w.cell? ⟨g,i,ab⟩=aa u:=by
 rcases h.2 with ⟨rfl,j⟩ | ⟨g,d,s,rfl,k,o,t,y,z,A⟩
 ·exact aI ⟨rfl,af.1 j⟩
 ·refine aC ⟨g,d,rfl,k,(an.1 o).1,fun i u r=>?_⟩
  have f:=ap (g:=g) h rfl i u r
  rw [Addr.add_lit,bC] at f
  exact f
section
variable {P:zk} {w:World}
theorem r9 (B:Nat) (t k e:ah) (i:ba) (z:ag) (y:Nat) (A:P.underlying t=aa (.slice e)) (D:P.info? e=aa i) (J:i.zero=aa z) (h:i.size=1) (K:i.bytes=y) (Q:y<=64)
 (v:ag) (l:List ag) (E:JM w B e v l) (ad:aO) (c:Nat) (u:ag) (R:u.oneCell'=true) (S:w.cell? ad=aa u) (T:l.length+1<=1000000) {G:ag} 
 (d:(Builtin.append_ #[t,t] k #[v,.slice (aa ad) 1 c]).run P w=.ok G w'):G.ownBlock=v.ownBlock∨G.ownBlock=aa w.heap.size:=by
 have o:∀ j x,[u][j]?=aa x->w.cell? (ad.add j)=aa x:=by
  intro j x r
  match j,r with
  | 0,r =>
   obtain rfl:u=x:=by simpa using r
   simpa [Addr.add] using S
 rcases E.2 with ⟨rfl,U⟩ | ⟨g,s,L,rfl,V,M,W,Y,N,Z⟩
 ·have:=bs (P:=P) w t k e i z A D J ad 1 c [u] (by rw [h];rfl) o (by decide) (by decide) (by rw [K];omega)
  rw [this] at d
  injection d with f H
  subst f
  exact aC rfl
 ·by_cases I:l.length+1<=s
  ·have:=bk (P:=P) w t k e i A D g l.length s L M ad 1 c [u] (by rw [h];rfl) o (fun x O=>by rw [ac.1 O];exact R) I (by rw [h,N];simpa using I)
   rw [this] at d
   injection d with f H
   subst f
   exact aI rfl
  ·have a0:(l.length+1)*y<=1000000*64:=aw T Q
   have:=bl (P:=P) w t k e i z A D J ⟨g,0,ab⟩ l.length s l (by rw [h];exact E.1) (ap (g:=g) E rfl) ad 1 c [u] (by rw [h];rfl) o (by omega) (by omega) (bu (by omega) (by rw [K];omega))
   rw [this] at d
   injection d with f H
   subst f
   exact aC rfl
theorem yL {A:Array Oper} {D:List Oper}  (Z:o.guard=ab) (s x:Operand) (t:ah)
 (ho:o.op=.call { callee:=.builtin .append,args:=#[s,x],argTypes:=#[t,t] })
 (B:Nat) (e:ah) (i:ba) (z:ag) (f:Nat) (E:P.underlying t=aa (.slice e)) (G:P.info? e=aa i) (H:i.zero=aa z) (a0:z.cells.size=1) (I:i.size=1) (J:i.bytes=f) (L:f<=64)
 (v:ag) (l:List ag) (hs:a.eval s=v) (M:JM w B e v l) (ad:aO) (c:Nat) (u:ag) (N:u.oneCell'=true) (r:a.eval x=.slice (aa ad) 1 c) (O:w.cell? ad=aa u) (R:l.length+1<=1000000) (a1:B<=w.heap.size)
 (h:∀ d w',JM w' B e d (l ++ [u])->w.grownBy w' v.ownBlock->(d.ownBlock=v.ownBlock∨d.ownBlock=aa w.heap.size)->b8 P A Q D (a.put o.dst d) w'):b8 P A Q (o :: D) a w:=by
 have S:∀ j x,[u][j]?=aa x->w.cell? (ad.add j)=aa x:=by
  intro j x k
  match j,k with
  | 0,k =>
   obtain rfl:u=x:=by simpa using k
   simpa [Addr.add] using O
 have a2:(l.length+1)*f<=1000000*64:=aw R L
 refine wpList_plain Z fun K T=>?_
 obtain ⟨d,w',y,U,V,_⟩:=br (P:=P) w B t o.type e i z 1 f E G H I J a0 (by decide) v l.length l M ad 1 c [u] rfl S (fun x r=>by rw [ac.1 r];exact N) (by unfold maxLen;omega) (by omega) a1
 have W:=r9 B t o.type e i z f E G H I J L v l M ad c u N O R y
 have Y:JM w' B e d (l ++ [u]):=by
  unfold JM
  rw [ay]
  exact U
 unfold Oper.wp execOp
 simp only [ho,resolve,invoke,builtin,Sem.run_bind,Sem.run_pure,Result.andThen_ok,be,bA,zg,hs,r,y]
 exact T _ _ (h d w' Y V W)
end
end
theorem jU.kept {q:Option aO} {row:Option Nat} (h:jU w q l) (j:w.grownBy w' row) (s:∀ ad,q=aa ad->aa ad.block≠row):jU w' q l:=by
 refine ⟨h.lt,?_⟩
 rcases h.cells with h | ⟨b,o,d,f,k⟩
 ·exact aI h
 ·refine aC ⟨b,o,d,ax f j.size,fun i r=>?_⟩
  exact (World.cell?_of_block (a:=⟨b,o+i,ab⟩) (j.block b f (s _ d))).trans (k i r)
def X1 (B:Nat) (w:World) (e:ah) (v:ag) (d:List ag) (M:List (List Nat)):Prop :=
 JM w B e v d/\d.length=M.length/\∀ i,i < M.length->∃ q c,d[i]?=aa (.slice q (Qh M i).length c)/\jU w q (Qh M i)/\(q=ab->c=0)/\∀ ad,q=aa ad->B<=ad.block/\ad.block < w.heap.size/\v.ownBlock≠aa ad.block
def Jy (B:Nat) (w:World) (e:ah) (v:ag) (M:List (List Nat)):Prop:=∃ d,X1 B w e v d M
theorem Jy.nil (B:Nat) (w:World) (e:ah):Jy B w e (.slice ab 0 0) []:=⟨[],JM.nil w B e,rfl,fun _ d=>absurd d (aF _)⟩
theorem Qa.form   (h:Qa w B e v l) (d:Gf.Bytes l):∃ q c,v=.slice q l.length c/\jU w q l/\(q=ab->c=0)/\∀ ad,q=aa ad->B<=ad.block/\ad.block < w.heap.size:=by
 rcases h.2 with ⟨rfl,f⟩ | ⟨g,j,u,rfl,k,o,y,z,A,D⟩
 ·have:l=[]:=af.1 f
  subst this
  exact ⟨ab,0,rfl,⟨d,aI rfl⟩,fun _=>rfl,fun ad h=>by cases h⟩
 ·refine ⟨aa ⟨g,0,ab⟩,j,rfl,?_,(fun h=>by cases h),(fun ad h=>by injection h with h;subst h;exact ⟨k,(an.1 o).1⟩)⟩
  obtain ⟨p,c,r,s⟩:=h.hZ d
  injection r with t E G
  subst t
  exact s
theorem X1.snoc {f y:World} {z r:ag} {I:List ag} {row:List Nat} {o:Obj} (h:X1 B w T v I M) (hB:B<=w.heap.size) (V:Qa f w.heap.size E r row) (W:Gf.Bytes row) (O:ao w.heap.size w f)
 (Y:JM y B T z (I ++ [r]))
 (t:(f.alloc o).grownBy y v.ownBlock) (d:z.ownBlock=v.ownBlock∨z.ownBlock=aa (f.alloc o).heap.size):X1 B y T z (I ++ [r]) (M ++ [row]):=by
 obtain ⟨Q,J,R⟩:=h
 have Z:=O.size
 have K:(f.alloc o).heap.size=f.heap.size+1:=by simp
 have L:∀ k,v.ownBlock=aa k->k < w.heap.size:=fun k A=>(Q.block A).2
 have u:f.grownBy y v.ownBlock:=⟨t.os,t.tape,t.output,by have:=t.size;omega,fun k A S=>(t.block k (by omega) S).trans (Below.heap_alloc f o k A)⟩
 refine ⟨Y,by simp [J],fun i U=>?_⟩
 rw [ay,List.length_singleton] at U
 by_cases N:i < M.length
 ·obtain ⟨q,c,D,G,H,s⟩:=R i N
  rw [x8 M row i N]
  refine ⟨q,c,by rw [List.getElem?_append_left (by omega)];exact D,(G.below O).kept u (fun ad j=>fun e=>(s ad j).2.2 e.symm),H,fun ad j=>?_⟩
  have:=s ad j
  refine ⟨this.1,by have:=u.size;omega,?_⟩
  rcases d with d | d
  ·rw [d];exact this.2.2
  ·rw [d,K];intro e;have:=ai e;omega
 ·obtain rfl:i=M.length:=by omega
  rw [z1]
  obtain ⟨q,c,D,G,H,s⟩:=V.form W
  refine ⟨q,c,by rw [List.getElem?_append_right (by omega),J,Nat.sub_self,D];rfl,G.kept u (fun ad j=>?_),H,fun ad j=>?_⟩
  ·have:=s ad j
   intro e
   have:=L _ e.symm
   omega
  ·have:=s ad j
   refine ⟨by omega,by have:=u.size;omega,?_⟩
   rcases d with d | d
   ·rw [d];intro e;have:=L _ e;omega
   ·rw [d,K];intro e;have:=ai e;omega
theorem Jy.tU   (h:Jy B w T v M):∃ p c,v=.slice p M.length c/\QJ w p M:=by
 obtain ⟨z,f,d,j⟩:=h
 rcases f.cells with ⟨rfl,rfl⟩ | ⟨g,k,rfl,A,o,r⟩
 ·have:M=[]:=af.1 (by simpa using d.symm)
  subst this
  exact ⟨ab,0,rfl,aI rfl⟩
 ·refine ⟨aa ⟨g,0,ab⟩,k,by rw [d],aC ⟨g,0,rfl,o,fun i s=>?_⟩⟩
  obtain ⟨q,c,t,u,y,_⟩:=j i s
  refine ⟨q,c,?_,u,y⟩
  rw [bC]
  exact r i _ t
theorem k0:(prog.info? 32).map (fun i=>(i.zero,i.size,i.bytes))=aa (aa (.slice ab 0 0),1,24):=by kernel_rfl
def Zo (w:World) (B:Nat) (E:ah) (g n:Nat) (l:List Nat):Prop:=w.ownsRow B E 1 (.slice (aa ⟨g,0,ab⟩) n n) n (l.map ZM)
theorem Zo.made (w:World) (B:Nat) (E:ah) (n:Nat) (d:B<=w.heap.size) (f:n<=1000000):Zo (w.alloc (.cells (aR #[ZM 0] n) E)) B E w.heap.size n (Qi n fun _=>0):=by
 have h:=World.ownsRow_lit (base:=B) (e:=E) (size:=1) w (aR #[ZM 0] n) n d (by unfold maxLen;omega) (by have:=congrArg List.length (zb (ZM 0) n);simpa using this)
 rw [zb] at h
 have e:(Qi n fun _=>0).map ZM=List.replicate n (ZM 0):=by
  simp [Qi,List.map_const']
 unfold Zo
 rw [e]
 exact h
theorem Zo.cell   (h:Zo w B E g n l) (j:Nat) (d:j < n) (f:l.length=n):w.cell? ⟨g,j,ab⟩=aa (.int .u8 ((Gf.nth l j:Nat):Int)):=by
 rw [zo (w:=w) h j (by omega),ak,ae (by omega),Gf.aK l j (by omega)]
 rfl
theorem Zo.free   (h:Zo w B E g n l) (j:Nat):w.frozen? ⟨g,j,ab⟩=false:=bG (w:=w) h j
theorem Zo.set   {f:Nat->Nat} (h:Zo w B E g n (Qi n f)) (j v:Nat):Zo (w.setCell ⟨g,j,ab⟩ (.int .u8 (v:Int))) B E g n (Qi n (fun i=>if i=j then v else f i)):=by
 have:=(zn (w:=w) h j (ZM v)).1
 rw [<- List.map_set,u5] at this
 exact this
theorem Zo.drewN   (h:Zo w B E g n l) (m:Nat):Zo (w.drewN m) B E g n l:=aA h (JO w m ab) (aC (by simp [Value.ownBlock]))
theorem Zo.own   (h:Zo w B E g n l) (d:l.length=n):Qa w B E (.slice (aa ⟨g,0,ab⟩) n n) l:=by
 unfold Qa
 rw [d]
 exact h
theorem Zo.lt   (h:Zo w B E g n l):B<=g/\g < w.heap.size:=aD h g rfl
def jM (A B:List (List Nat)) (i j:Nat):Nat->Nat
 | 0=>0
 | k+1=>jM A B i j k ^^^ Gf.mul (Gf.nth (Qh A i) k) (Gf.nth (Qh B k) j)
def xW (A B:List (List Nat)) (m:Nat):List (List Nat):=(au m).map fun i=>Qi (Qh B 0).length fun j=>jM A B i j B.length
def QR (M:List (List Nat)):Prop:=∀ i,Gf.Bytes (Qh M i)
theorem o8 (A B:List (List Nat)) (d:QR A) (i j:Nat):∀ k,jM A B i j k < 256
 | 0=>by show 0 < 256;decide
 | k+1=>Gf.iK (o8 A B d i j k) (Gf.aV (d i k) _)
theorem QJ.row  (h:QJ w p M) {i:Nat} (k:i < M.length) (r:0 < (Qh M i).length) :
 ∃ b o d f c,p=aa ⟨b,o,ab⟩/\b < w.heap.size/\d < w.heap.size/\w.cell? ⟨b,o+i,ab⟩=aa (.slice (aa ⟨d,f,ab⟩) (Qh M i).length c)/\∀ j,j < (Qh M i).length->w.cell? ⟨d,f+j,ab⟩=aa (.int .u8 ((Gf.nth (Qh M i) j:Nat):Int)):=by
 rcases h with h | ⟨b,o,s,t,u⟩
 ·rw [h] at k;exact absurd k (aF _)
 ·obtain ⟨q,c,y,z,_⟩:=u i k
  rcases z.cells with A | ⟨d,f,B,D,E⟩
  ·rw [A] at r;exact absurd r (bz _)
  ·subst B
   exact ⟨b,o,d,f,c,s,t,D,y,E⟩
theorem y7 (k:Nat) (w:World) (R:k<=100) :
 ar prog 32 #[.int .i64 (k:Int)] w fun e w'=>(∃ v,e=.returned v/\Qa w' w.heap.size 5 v (JB k))/\ao w.heap.size w w':=by
 obtain ⟨r,s,t,u,y⟩:=bt KF
 go_enter func32,ntmps32
 go_wp2
 go_loopw [3,4] (fun v j wr=>∃ n:Nat,n<=k/\j=.int .i64 n/\Qa wr w.heap.size 5 v (JB n)/\ao w.heap.size w wr) (fun _ j _=>k - (intOf j).toNat)
 case atStart=>exact ⟨0,by omega,rfl,Qa.nil _ _ _,aq _ _⟩
 case round =>
  obtain ⟨n,J,rfl,h,d⟩:=hrel
  have f:Hid (Qa wr w.heap.size 5 u3 (JB n)):=h
  have o:Hid (ao w.heap.size w wr):=d
  have z:w.heap.size<=wr.heap.size:=d.size
  have K:(JB n).length=n:=by simp [JB]
  clear h d
  by_cases L:n < k
  ·have A:Hid (JB (n+1)=JB n ++ [n]):=by show _=_;simp [JB,bj]
   go_wp2_with (first | (at_builtin;refine X4 rfl (.tmp 10) (.tmp 13) 32 rfl w.heap.size 5 r underlying32 s t u y u3 (JB n) rfl (f.out.kept (World.grownBy_alloc wr _ ab) (by cases M:u3.ownBlock <;> simp)) ⟨wr.heap.size,0,ab⟩ 1 n rfl (by simp [ZM]) (by omega) (by simp;omega) ?_;intro N B D E O))
   have G:ao w.heap.size w B:=(o.out.alloc z _).grown E (by simp;omega) (fun Q H=>(f.out.block H).1)
   go_roundw
   case rel=>exact ⟨n+1,by omega,by go_num,by rw [A.out];exact D,G⟩
   case measure=>simp [intOf];omega
  ·have I:n=k:=by omega
   subst I
   go_wp2
   go_ret
   exact ⟨⟨u3,rfl,f.out⟩,o.out⟩
theorem Qk (a b:Nat) (w:World) (B:a < 256) (_hb:b < 256) :
 ar prog 34 #[.int .u8 (a:Int),.int .u8 (b:Int)] w fun e w'=>e=.returned (.int .u8 ((Gf.mul a b:Nat):Int))/\w'=w:=by
 go_enter func34,ntmps34
 go_wp2
 go_loop [5,6] (fun p i=>∃ k:Nat,k<=8/\i=.int .i64 k/\p=.int .i64 (Gf.rprod a b k:Nat)) (fun _ i=>8 - (intOf i).toNat)
 case atStart=>exact ⟨0,by omega,rfl,rfl⟩
 case round =>
  obtain ⟨k,D,rfl,rfl⟩:=hrel
  have t:=Gf.dT B b k D
  by_cases I:k < 8
  ·have h:=nR b k
   have J:a*2 ^ k < 2 ^ 15:=by
    have r:2 ^ k<=2 ^ 7:=aJ (by decide) (by omega)
    have E:a*2 ^ k<=255*2 ^ 7:=aw (by omega) r
    omega
   have j:bv ((a:Int)*2 ^ k)=((a*2 ^ k:Nat):Int):=by
    have:=h9 (a*2 ^ k) (by omega)
    simpa using this
   have s:Hid (cj .xor .i64 ((Gf.rprod a b k:Nat):Int) (bv ((a:Int)*2 ^ k))=((Gf.rprod a b k ^^^ (a*2 ^ k):Nat):Int)):=by show _=_;rw [j];exact j2 _ _ (by omega) (by omega)
   clear j
   by_cases d:Gf.bT b k=1
   ·have f:Hid (Gf.rprod a b (k+1)=Gf.rprod a b k ^^^ (a*2 ^ k)):=by show _=_;simp [Gf.rprod,d]
    rw [decide_eq_true d] at h
    clear d
    go_wp2
    exact ⟨⟨k+1,by omega,by go_num,by rw [f.out,s.out]⟩,by simp [intOf];omega⟩
   ·have f:Hid (Gf.rprod a b (k+1)=Gf.rprod a b k):=by show _=_;simp [Gf.rprod,d]
    rw [decide_eq_false d] at h
    clear d
    go_wp2
    exact ⟨⟨k+1,by omega,by go_num,by rw [f.out]⟩,by simp [intOf];omega⟩
  ·have G:k=8:=by omega
   subst G
   go_wp2
   have u:Hid (Gf.rprod a b 8 < 2 ^ 15):=t
   have y:Hid (Gf.b0 (Gf.rprod a b 8)=Gf.mul a b):=Gf.e7 a b B
   generalize Gf.rprod a b 8=n at u y t ⊢
   go_loop [5,7] (fun p i=>∃ m:Nat,7<=m/\m<=14/\i=.int .i64 m/\p=.int .i64 (Gf.rr n (14 - m):Nat)) (fun _ i=>(intOf i).toNat)
   case atStart=>exact ⟨14,by omega,by omega,rfl,rfl⟩
   case round =>
    obtain ⟨m,K,L,rfl,rfl⟩:=hrel
    have M:=Gf.Jt7 u.out (14 - m)
    have z:Hid (Gf.rr n (14 - (m - 1))=if 8<=m then Gf.wP m (Gf.rr n (14 - m)) else Gf.rr n (14 - (m - 1))):=by
     show _=_
     by_cases o:8<=m
     ·rw [if_pos o,show 14 - (m - 1)=(14 - m)+1 from by omega]
      show Gf.wP (14 - (14 - m)) _=_
      rw [show 14 - (14 - m)=m from by omega]
     ·rw [if_neg o]
    by_cases o:8<=m
    ·have h:=nR (Gf.rr n (14 - m)) m
     have N:285*2 ^ (m - 8) < 2 ^ 15:=by
      have r:2 ^ (m - 8)<=2 ^ 6:=aJ (by decide) (by omega)
      have E:285*2 ^ (m - 8)<=285*2 ^ 6:=aw (am _) r
      omega
     have j:bv ((285:Int)*2 ^ (m - 8))=((285*2 ^ (m - 8):Nat):Int):=by
      have:=h9 (285*2 ^ (m - 8)) (by omega)
      simpa using this
     have s:Hid (cj .xor .i64 ((Gf.rr n (14 - m):Nat):Int) (bv ((285:Int)*2 ^ (m - 8)))=((Gf.rr n (14 - m) ^^^ (285*2 ^ (m - 8)):Nat):Int)):=by show _=_;rw [j];exact j2 _ _ (by omega) (by omega)
     have A:Hid (Gf.rr n (14 - (m - 1))=Gf.wP m (Gf.rr n (14 - m))):=by have:=z.out;rw [if_pos o] at this;exact this
     clear j z
     by_cases d:Gf.bT (Gf.rr n (14 - m)) m=1
     ·have f:Hid (Gf.wP m (Gf.rr n (14 - m))=Gf.rr n (14 - m) ^^^ (285*2 ^ (m - 8))):=by show _=_;simp [Gf.wP,d]
      rw [decide_eq_true d] at h
      clear d
      go_wp2
      exact ⟨⟨m - 1,by omega,by omega,by congr 1;omega,by rw [A.out,f.out,s.out]⟩,by simp [intOf];omega⟩
     ·have f:Hid (Gf.wP m (Gf.rr n (14 - m))=Gf.rr n (14 - m)):=by show _=_;simp [Gf.wP,d]
      rw [decide_eq_false d] at h
      clear d
      go_wp2
      exact ⟨⟨m - 1,by omega,by omega,by congr 1;omega,by rw [A.out,f.out]⟩,by simp [intOf];omega⟩
    ·have H:m=7:=by omega
     subst H
     go_wp2
     go_ret
     refine ⟨l4 ?_,rfl⟩
     have:=y.out
     rw [<- this]
     simp [Gf.b0]
theorem y1 (a b c:Nat) (w:World) (d:a < 256) (f:b < 256) (h:Gf.mul a b=c) :
 ar prog 34 #[.int .u8 (a:Int),.int .u8 (b:Int)] w fun e w'=>e=.returned (.int .u8 ((c:Nat):Int))/\w'=w:=h ▸ Qk a b w d f
theorem x1 (a:Nat) (w:World) (d:a < 256) (f:a≠0) :
 ar prog 64 #[.int .u8 (a:Int)] w fun e w'=>e=.returned (.int .u8 ((Gf.inv a:Nat):Int))/\w'=w:=by
 have o:=Gf.cQ a
 have u:=Gf.inv_pos a d f
 have r:Hid (Gf.mul a (Gf.inv a)=1):=Gf.eG a d f
 have s:Hid (∀ b,b < 256->Gf.mul a b=1->b=Gf.inv a):=fun b t h=>Gf.eN a b d t f h
 clear f
 go_enter func64,ntmps64
 go_wp2
 go_loop [3] (fun i=>∃ k:Nat,1<=k/\k<=Gf.inv a/\i=.int .i64 k) (fun i=>256 - (intOf i).toNat)
 case atStart=>exact ⟨1,by omega,by omega,rfl⟩
 case round =>
  obtain ⟨k,y,z,rfl⟩:=hrel
  by_cases j:k=Gf.inv a
  ·subst j
   go_wp2_with fail
   refine (y1 a (Gf.inv a) 1 _ d o r.out).mono ?_
   rintro e w' ⟨rfl,rfl⟩
   go_wp2
   go_ret
   exact ⟨rfl,rfl⟩
  ·have A : (((Gf.mul a k : Nat) : Int) == 1) = false := by
    simp only [beq_eq_false_iff_ne,ne_eq]
    intro h
    exact j (s.out k (by omega) (by omega))
   go_wp2_with fail
   refine (Qk a k _ d (by omega)).mono ?_
   rintro e w' ⟨rfl,rfl⟩
   go_wp2
   exact ⟨⟨k+1,by omega,by omega,by go_num⟩,by simp [intOf];omega⟩
theorem o6 (p:Option aO) (l:List Nat) (a1 i x:Nat) (w:World) (I:x < 256) (hl:l.length < 2 ^ 40) (A:i < l.length) (f:l.Nodup) (t:jU w p l) :
 ar prog 33 #[.slice p l.length a1,.int .i64 (i:Int),.int .u8 (x:Int)] w fun e w'=>e=.returned (.int .u8 ((Gf.aQ l i x:Nat):Int))/\∃ n,w'=w.drewN n:=by
 obtain ⟨D,t⟩:=t
 rcases t with t | ⟨b,o,rfl,hb,E⟩
 ·rw [t] at A;simp at A
 have G:=D i
 have R:Hid (Gf.eK l i x l.length=Gf.aQ l i x):=Gf.e0 l D f i x A I
 have J:Hid (∀ k,k < l.length->k≠i->Gf.nth l i ^^^ Gf.nth l k≠0):=fun k K e=>Gf.B0 fun S=>e (Gf.M0 l f K A S.symm)
 clear f
 go_enter func33,ntmps33
 go_wp2
 go_loopw [7,8] (fun s j wr=>(∃ n,wr=w.drewN n)/\∃ k:Nat,k<=l.length/\j=.int .i64 k/\s=.int .u8 (Gf.eK l i x k:Nat)) (fun _ j _=>l.length - (intOf j).toNat)
 case atStart=>exact ⟨⟨0,rfl⟩,0,by omega,rfl,rfl⟩
 case round =>
  obtain ⟨L,k,K,rfl,rfl⟩:=hrel
  have u:Hid (∃ n,wr=w.drewN n):=L
  clear L
  have M:=Gf.eS l i x k
  by_cases N:k < l.length
  ·have T : wr.cell? ⟨b, o + k, ab⟩ = aa (.int .u8 ((Gf.nth l k : Nat) : Int)) := by
    obtain ⟨n,f⟩:=u.out
    rw [f]
    exact E k N
   have U:wr.cell? ⟨b,o+i,ab⟩=aa (.int .u8 ((Gf.nth l i:Nat):Int)):=by
    obtain ⟨n,f⟩:=u.out
    rw [f]
    exact E i A
   have y:=D k
   have B:Hid (Gf.eK l i x (k+1)=if k=i then Gf.eK l i x k else Gf.mul (Gf.eK l i x k) (Gf.mul (x ^^^ Gf.nth l k) (Gf.inv (Gf.nth l i ^^^ Gf.nth l k)))):=rfl
   clear E
   by_cases z:k=i
   ·have h:=B.out
    rw [if_pos z] at h
    have r:Hid (Gf.eK l i x (k+1)=Gf.eK l i x k):=h
    have V:((k:Int) != (i:Int))=false:=by simp;omega
    clear B h z
    go_wp2
    go_roundw
    case rel=>exact ⟨u.out,k+1,by omega,by go_num,by rw [r.out]⟩
    case measure=>simp [intOf];omega
   ·have h:=B.out
    rw [if_neg z] at h
    have r:Hid (Gf.eK l i x (k+1)=Gf.mul (Gf.eK l i x k) (Gf.mul (x ^^^ Gf.nth l k) (Gf.inv (Gf.nth l i ^^^ Gf.nth l k)))):=h
    have H:Hid (Gf.nth l i ^^^ Gf.nth l k≠0):=J.out k N z
    have V:((k:Int) != (i:Int))=true:=by simp;omega
    clear B h z J
    generalize Gf.eK l i x k=O at M r ⊢
    generalize Gf.nth l k=c at T y r H
    generalize Gf.nth l i=d at U G r H
    have Q:=Gf.iK I y
    have W:=Gf.iK G y
    have a2:=bq x c I y
    have a3:=bq d c G y
    have Y:=Gf.cQ (d ^^^ c)
    have Z:=Gf.aV Q (Gf.inv (d ^^^ c))
    go_wp2
    go_quiet ((first | (go_at_call 64;exact av (x1 (d ^^^ c) _ W H.out)) | (go_at_call_of 34 (Value.int IntKind.u8 ((x ^^^ c:Nat):Int));exact av (Qk (x ^^^ c) (Gf.inv (d ^^^ c)) _ Q Y)) | (go_at_call_of 34 (Value.int IntKind.u8 ((O:Nat):Int));exact av (Qk O (Gf.mul (x ^^^ c) (Gf.inv (d ^^^ c))) _ M Z))))
    go_wp2
    go_roundw
    case rel =>
     obtain ⟨n,f⟩:=u.out
     exact ⟨⟨n+nq,by rw [f,World.drewN_drewN]⟩,k+1,by omega,by go_num,by rw [r.out]⟩
    case measure=>simp [intOf];omega
  ·have a0:k=l.length:=by omega
   subst a0
   go_wp2
   go_ret
   exact ⟨by simp [R.out],u.out⟩
def kK (k n:Nat):List (List Nat):=(au n).map fun i=>Qi k fun j=>Gf.aQ (JB k) j i
theorem r7 (k n:Nat):kK k (n+1)=kK k n ++ [Qi k fun j=>Gf.aQ (JB k) j n]:=by simp [kK,bj]
theorem Xi (k n:Nat):(kK k n).length=n:=by simp [kK]
theorem sI (k:Nat):(JB k).Nodup:=List.nodup_range
theorem JE (k:Nat):(JB k).length=k:=by simp [JB]
theorem tA (k:Nat) (h:k<=256):Gf.Bytes (JB k):=fun i=>by
 by_cases d:i < k
 ·rw [Gf.aK _ _ (by rw [JE];exact d)];simp [JB];omega
 ·unfold Gf.nth;rw [List.getD_eq_getElem?_getD,za (by rw [JE];omega)];decide
theorem r4 (p:Option aO) (k d j x:Nat) (w:World) (f:x < 256) (s:k<=100) (o:j < k) (r:jU w p (JB k)) :
 ar prog 33 #[.slice p k d,.int .i64 (j:Int),.int .u8 (x:Int)] w fun e w'=>e=.returned (.int .u8 ((Gf.aQ (JB k) j x:Nat):Int))/\∃ n,w'=w.drewN n:=by
 have h:=o6 p (JB k) d j x w f (by rw [JE];omega) (by rw [JE];exact o) (sI k) r
 rw [JE] at h
 exact h
theorem x2 (n k:Nat) (w:World) (hn:n<=100) (d9:1<=k) (A:k<=100) :
 ar prog 15 #[.int .i64 (n:Int),.int .i64 (k:Int)] w fun e w'=>(∃ s D,e=.returned (.slice s n D)/\QJ w' s (kK k n))/\ao w.heap.size w w':=by
 obtain ⟨i1,a2,a3,a4,a5⟩:=bt k0
 obtain ⟨i0,a6,a7,a8,a9⟩:=bt KF
 go_enter func15,ntmps15
 go_wp2_with fail
 refine (y7 k _ A).mono ?_
 rintro e f ⟨⟨vx,rfl,Q⟩,E⟩
 obtain ⟨G,cx,R,S⟩:=Q.hZ (tA k (by omega))
 rw [JE] at R
 subst R
 have b1:Hid (jU f G (JB k)):=S
 have b2:Hid (ao w.heap.size w f):=E
 have b3:w.heap.size<=f.heap.size:=E.size
 clear Q S E
 go_wp2
 go_loopw [6,7] (fun v x wr=>∃ i:Nat,i<=n/\x=.int .i64 i/\Jy f.heap.size wr 32 v (kK k i)/\ao f.heap.size f wr) (fun _ x _=>n - (intOf x).toNat)
 case atStart=>exact ⟨0,by omega,rfl,Jy.nil _ _ _,aq _ _⟩
 case round =>
  obtain ⟨i,hi,rfl,T,H⟩:=hrel
  have I:Hid (Jy f.heap.size wr 32 u6 (kK k i)):=T
  have J:Hid (ao f.heap.size f wr):=H
  have U:f.heap.size<=wr.heap.size:=H.size
  clear T H
  by_cases d7:i < n
  ·go_wp2_with (first | (at_make;refine wpList_make_row _ rfl (.tmp 17) (.tmp 17) 32 rfl 5 i0 (ZM 0) underlying32 a6 a7 a8 rfl .i64 .i64 k rfl rfl (by rw [a9];omega) (by omega) ?_))
   obtain ⟨d,rfl⟩:∃ d,d=wr:=⟨_,rfl⟩
   have K:Zo (d.alloc (.cells (aR #[ZM 0] k) 5)) d.heap.size 5 d.heap.size k (Qi k (fun c=>if c < 0 then Gf.aQ (JB k) c i else 0)):=by
    have:=Zo.made d d.heap.size 5 k (am _) (by omega)
    rw [YL k _ (fun c=>if c < 0 then Gf.aQ (JB k) c i else 0) (fun c _=>by rw [if_neg (aF _)])] at this
    exact this
   have L:ao d.heap.size d (d.alloc (.cells (aR #[ZM 0] k) 5)):=(aq _ _).alloc (am _) _
   generalize d.alloc (.cells (aR #[ZM 0] k) 5)=w4 at K L ⊢
   have V:Hid (Zo w4 d.heap.size 5 d.heap.size k (Qi k (fun c=>if c < 0 then Gf.aQ (JB k) c i else 0))):=K
   have W:Hid (ao d.heap.size d w4):=L
   clear K L
   go_loopw [9] (fun x Y=>∃ j:Nat,j<=k/\x=.int .i64 j/\Zo Y d.heap.size 5 d.heap.size k (Qi k (fun c=>if c < j then Gf.aQ (JB k) c i else 0))/\ao d.heap.size d Y) (fun x _=>k - (intOf x).toNat)
   case atStart=>exact ⟨0,by omega,rfl,V.out,W.out⟩
   case round =>
    obtain ⟨j,hj,rfl,Z,M⟩:=hrel
    obtain ⟨o,rfl⟩:∃ o,o=wr:=⟨_,rfl⟩
    have t:Hid (Zo o d.heap.size 5 d.heap.size k (Qi k (fun c=>if c < j then Gf.aQ (JB k) c i else 0))):=Z
    have h:Hid (ao d.heap.size d o):=M
    have d8:d.heap.size<=o.heap.size:=M.size
    clear Z M V W
    by_cases N:j < k
    ·have a0:Hid (jU o G (JB k)):=(b1.out.below J.out).below h.out
     go_wp2_with fail
     refine (r4 G k cx j i _ (by omega) A N a0.out).mono ?_
     rintro e r ⟨rfl,m,O⟩
     have u:Hid (Zo r d.heap.size 5 d.heap.size k (Qi k (fun c=>if c < j then Gf.aQ (JB k) c i else 0))):=by rw [O];exact t.out.drewN m
     have b4:Hid (ao d.heap.size d r):=by rw [O];exact bh h.out m
     have q5:r.cell? ⟨d.heap.size,j,ab⟩=aa (.int .u8 ((0:Nat):Int)):=by rw [u.out.cell j N (Jf _ _),Yq _ _ j N,if_neg (bz _)]
     have q6:r.frozen? ⟨d.heap.size,j,ab⟩=false:=u.out.free j
     have HT:Hid (Zo (r.setCell ⟨d.heap.size,j,ab⟩ (.int .u8 ((Gf.aQ (JB k) j i:Nat):Int))) d.heap.size 5 d.heap.size k (Qi k (fun c=>if c < j+1 then Gf.aQ (JB k) c i else 0))):=by
      have:=u.out.set j (Gf.aQ (JB k) j i)
      rw [YL k (fun c=>if c < j+1 then Gf.aQ (JB k) c i else 0) (fun c=>if c=j then Gf.aQ (JB k) j i else if c < j then Gf.aQ (JB k) c i else 0) (fun c _=>by
       by_cases e:c=j
       ·subst e;rw [if_pos (by omega),if_pos rfl]
       ·rw [if_neg e]
        by_cases e':c < j
        ·rw [if_pos (by omega),if_pos e']
        ·rw [if_neg (by omega),if_neg e'])]
      exact this
     clear O t h a0 u
     generalize Gf.aQ (JB k) j i=sh at HT ⊢
     go_wp2
     go_roundw
     case rel=>exact ⟨j+1,by omega,by go_num,HT.out,b4.out.setCell (am _) _⟩
     case measure=>simp [intOf];omega
    ·have b5:j=k:=by omega
     subst b5
     obtain ⟨y,z⟩:=I.out
     have b6:Hid (X1 f.heap.size d 32 u6 y (kK j i)):=z
     have HV:Hid (JM d f.heap.size 32 u6 y):=z.1
     have b7:Hid (y.length=i):=z.2.1.trans (Xi j i)
     have hr:Hid (Qa o d.heap.size 5 (.slice (aa ⟨d.heap.size,0,ab⟩) j j) (Qi j fun c=>Gf.aQ (JB j) c i)):=by
      refine Zo.own ?_ (Jf _ _)
      rw [YL j _ (fun c=>if c < j then Gf.aQ (JB j) c i else 0) (fun c hc=>by rw [if_pos hc])]
      exact t.out
     clear z t
     go_wp2_with (first | (at_builtin;refine yL rfl (.tmp 32) (.tmp 34) 23 rfl f.heap.size 32 i1 (.slice ab 0 0) 24 underlying23 a2 a3 rfl a4 a5 (by decide) u6 y rfl (((HV.out.kept (row:=ab) ⟨h.out.os,h.out.tape,h.out.output,h.out.size,fun k A _=>h.out.block k A⟩ (by cases B:u6.ownBlock <;> simp))).kept (World.grownBy_alloc o _ ab) (by cases B:u6.ownBlock <;> simp)) ⟨o.heap.size,0,ab⟩ 1 (.slice (aa ⟨d.heap.size,0,ab⟩) j j) rfl rfl (by simp) (by have:=b7.out;omega) (by simp;omega) ?_;intro v' w8 d0 a1 d1))
     have d2:=b6.out.snoc U hr.out (XL _ _ fun c=>Gf.bL _ c _) h.out d0 a1 d1
     have d3:ao f.heap.size f w8:=((J.out.trans (h.out.mono U)).alloc (by omega) _).grown a1 (by simp;omega) (fun k' d4=>(HV.out.block d4).1)
     go_roundw
     case rel=>exact ⟨i+1,by omega,by go_num,⟨_,by rw [r7];exact d2⟩,d3⟩
     case measure=>simp [intOf];omega
  ·have d5:i=n:=by omega
   subst d5
   obtain ⟨s,D,B,d6⟩:=I.out.tU
   rw [Xi] at B
   subst B
   clear I
   go_wp2
   go_ret
   exact ⟨⟨s,D,rfl,d6⟩,b2.out.trans (J.out.mono b3)⟩
theorem oC (a b:Nat) (w:World) (d:a < 256) (f:b < 256) :
 ar prog 69 #[.int .u8 (a:Int),.int .u8 (b:Int)] w fun e w'=>e=.returned (.int .u8 ((a ^^^ b:Nat):Int))/\w'=w:=by
 go_enter func69,ntmps69
 go_wp2
 go_ret
 exact ⟨l4 (bq a b d f),rfl⟩
theorem CP (a:Nat) (w:World) (d:a < 256)  :
 ar prog 75 #[.int .u8 (a:Int)] w fun e w'=>e=.returned (.int .u8 ((Gf.tx a:Nat):Int))/\w'=w:=by
 by_cases h:a < 128
 ·go_enter func75,ntmps75
  go_wp2
  go_ret
  exact ⟨l4 (by simp [Gf.tx,h]),rfl⟩
 ·go_enter func75,ntmps75
  go_wp2_with fail
  have e:((a:Int)*2 % 256)=((a*2 - 256:Nat):Int):=by omega
  rw [e]
  refine (oC (a*2 - 256) 29 _ (by omega) (by decide)).mono ?_
  rintro e w' ⟨rfl,rfl⟩
  go_wp2
  go_ret
  exact ⟨l4 (by simp [Gf.tx,h]),rfl⟩
theorem Zx (a b:Nat) (w:World) (r:a < 256) (t:b < 256) :
 ar prog 61 #[.int .u8 (a:Int),.int .u8 (b:Int)] w fun e w'=>e=.returned (.int .u8 ((Gf.mul a b:Nat):Int))/\w'=w:=by
 go_enter func61,ntmps61
 go_wp2
 go_loop [0,5,7] (fun x p i=>∃ k:Nat,k<=8/\i=.int .i64 k/\x=.int .u8 (Gf.dP a k:Nat)/\p=.int .u8 (Gf.part a b k:Nat)) (fun _ _ i=>8 - (intOf i).toNat)
 case atStart=>exact ⟨0,by omega,rfl,rfl,rfl⟩
 case round =>
  obtain ⟨k,u,rfl,rfl,rfl⟩:=hrel
  have f:=Gf.cY r k
  have j:=Gf.eF r b k
  have o:=x7 b k t
  by_cases y:k < 8
  ·by_cases d:Gf.bT b k=1
   ·have h:Hid (Gf.part a b (k+1)=Gf.part a b k ^^^ Gf.dP a k):=by show _=_;simp [Gf.part,d]
    rw [decide_eq_true d] at o
    clear d
    go_wp2_with (first | (go_at_call 69;refine (oC _ _ _ j f).mono ?_;rintro e w' ⟨rfl,rfl⟩) | (go_at_call 75;refine (CP _ _ f).mono ?_;rintro e w' ⟨rfl,rfl⟩))
    go_round
    case rel=>exact ⟨k+1,by omega,by go_num,rfl,by rw [h.out]⟩
    case measure=>simp [intOf];omega
   ·have h:Hid (Gf.part a b (k+1)=Gf.part a b k):=by show _=_;simp [Gf.part,d]
    rw [decide_eq_false d] at o
    clear d
    go_wp2_with (first | (go_at_call 69;refine (oC _ _ _ j f).mono ?_;rintro e w' ⟨rfl,rfl⟩) | (go_at_call 75;refine (CP _ _ f).mono ?_;rintro e w' ⟨rfl,rfl⟩))
    go_round
    case rel=>exact ⟨k+1,by omega,by go_num,rfl,by rw [h.out]⟩
    case measure=>simp [intOf];omega
  ·go_wp2
   go_ret
   have s:k=8:=by omega
   subst s
   exact ⟨rfl,rfl⟩
theorem vW (a n:Nat) (w:World) (s:a < 256) (t:n < 256) :
 ar prog 56 #[.int .u8 (a:Int),.int .i64 (n:Int)] w fun e w'=>e=.returned (.int .u8 ((Gf.fM a n:Nat):Int))/\w'=w:=by
 go_enter func56,ntmps56
 go_wp2
 go_loop [0,5,7] (fun x p i=>∃ k:Nat,k<=8/\i=.int .i64 k/\x=.int .u8 (Gf.sq a k:Nat)/\p=.int .u8 (Gf.pw a n k:Nat)) (fun _ _ i=>8 - (intOf i).toNat)
 case atStart=>exact ⟨0,by omega,rfl,rfl,rfl⟩
 case round =>
  obtain ⟨k,u,rfl,rfl,rfl⟩:=hrel
  have f:=Gf.qI s k
  have o:=Gf.lL (a:=a) n k
  have j:=s5 n k t
  by_cases y:k < 8
  ·by_cases d:Gf.bT n k=1
   ·have h:Hid (Gf.pw a n (k+1)=Gf.mul (Gf.pw a n k) (Gf.sq a k)):=by show _=_;simp [Gf.pw,d]
    rw [decide_eq_true d] at j
    clear d
    go_wp2_with fail
    refine (Zx _ _ _ o f).mono ?_
    rintro e w' ⟨rfl,rfl⟩
    go_wp2_with fail
    refine (Zx _ _ _ f f).mono ?_
    rintro e w' ⟨rfl,rfl⟩
    go_wp2
    go_round
    case rel=>exact ⟨k+1,by omega,by go_num,rfl,by rw [h.out]⟩
    case measure=>simp [intOf];omega
   ·have h:Hid (Gf.pw a n (k+1)=Gf.pw a n k):=by show _=_;simp [Gf.pw,d]
    rw [decide_eq_false d] at j
    clear d
    go_wp2_with fail
    refine (Zx _ _ _ f f).mono ?_
    rintro e w' ⟨rfl,rfl⟩
    go_wp2
    go_round
    case rel=>exact ⟨k+1,by omega,by go_num,rfl,by rw [h.out]⟩
    case measure=>simp [intOf];omega
  ·go_wp2
   go_ret
   have r:k=8:=by omega
   subst r
   exact ⟨rfl,rfl⟩
theorem y5 (a:Nat) (w:World) (d:a < 256) :
 ar prog 89 #[.int .u8 (a:Int)] w fun e w'=>e=.returned (.int .u8 ((Gf.inv a:Nat):Int))/\w'=w:=by
 go_enter func89,ntmps89
 go_wp2_with fail
 refine (vW a 254 _ d (by decide)).mono ?_
 rintro e w' ⟨rfl,rfl⟩
 go_wp2
 go_ret
 exact ⟨rfl,rfl⟩
theorem W9 (r:Nat) (f:Nat->ag) (j:Nat) (v:ag):((au r).map f).set j v=(au r).map (fun i=>if i=j then v else f i):=by
 apply List.ext_getElem?
 intro i
 rw [List.getElem?_set,ak,ak]
 by_cases d:i < r
 ·rw [List.getElem?_range d]
  by_cases e:j=i
  ·subst e;simp [d]
  ·have k:¬ i=j:=fun h=>e h.symm
   simp [e,k]
 ·rw [za (by simpa using d)]
  by_cases e:j=i
  ·subst e;simp [d]
  ·simp [e]
theorem AX (n:Int) (w:World) :
 ar prog 57 #[.int .i64 n] w fun e w'=>e=.returned (.int .i64 ((Xh n:Nat):Int))/\w'=w:=by
 have f:Hid (((Xh n:Nat):Int)=n % 255):=M4 n
 by_cases h:0<=n
 ·go_enter func57,ntmps57
  go_wp2
  go_ret
  exact ⟨l4 f.out.symm,rfl⟩
 ·have d:Hid (n.tmod 255=-((-n) % 255)):=by show _=_;rw [hP,Int.tmod_eq_emod_of_nonneg (by omega)]
  have j:-255 < n.tmod 255:=by rw [d.out];omega
  have k:n.tmod 255<=0:=by rw [d.out];omega
  go_enter func57,ntmps57
  go_wp2
  ·go_ret
   exact ⟨l4 (by have:=d.out;have:=f.out;omega),rfl⟩
  ·go_ret
   exact ⟨l4 (by have:=d.out;have:=f.out;omega),rfl⟩
theorem LQ (n:Int) (w:World) (d:0 < n) :
 ar prog 29 #[.int .u8 0,.int .i64 n] w fun e w'=>e=.returned (.tuple #[.int .u8 0,.nilIface])/\w'=w:=by
 go_enter func29,ntmps29
 go_wp2
 go_ret2
 exact ⟨rfl,rfl⟩
theorem o5 (a:Nat) (n:Int) (w:World) (f:a < 256) (h:a=0->n=0) :
 ar prog 29 #[.int .u8 (a:Int),.int .i64 n] w fun e w'=>e=.returned (.tuple #[.int .u8 (Gf.fM a (Xh n):Nat),.nilIface])/\w'=w:=by
 have j:=UP n
 by_cases d:a=0
 ·obtain rfl:=h d
  subst d
  clear h
  go_enter func29,ntmps29
  go_wp2_with (first | (go_at_call 57;refine (AX 0 _).mono ?_;rintro e w' ⟨rfl,rfl⟩) | (go_at_call 56;refine (vW 0 (Xh 0) _ (by decide) (by omega)).mono ?_;rintro e w' ⟨rfl,rfl⟩))
  go_ret2
  exact ⟨rfl,rfl⟩
 ·have k:((a:Int)==0)=false:=by simpa using d
  clear h d
  go_enter func29,ntmps29
  go_wp2_with (first | (go_at_call 57;refine (AX n _).mono ?_;rintro e w' ⟨rfl,rfl⟩) | (go_at_call 56;refine (vW a (Xh n) _ f (by omega)).mono ?_;rintro e w' ⟨rfl,rfl⟩))
  go_ret2
  exact ⟨rfl,rfl⟩
theorem NL (z:aO) (w:World) (d:w.cell? ⟨2,0,ab⟩=aa (.iface 136 (.pointer (aa z)))) :
 ar prog 82 #[.int .u8 0] w fun e w'=>e=.returned (.tuple #[.int .u8 0,.iface 136 (.pointer (aa z))])/\ao w.heap.size w w':=by
 go_enter func82,ntmps82
 go_wp2
 go_quiet (fail)
 go_wp2
 go_ret2
 exact ⟨rfl,bh (aq _ _) _⟩
theorem TG (a:Nat) (w:World) (f:a < 256) (d:a≠0) :
 ar prog 82 #[.int .u8 (a:Int)] w fun e w'=>e=.returned (.tuple #[.int .u8 (Gf.inv a:Nat),.nilIface])/\w'=w:=by
 have h:((a:Int)==0)=false:=by simpa using d
 clear d
 go_enter func82,ntmps82
 go_wp2_with (go_at_call 89;refine (y5 a _ f).mono ?_;rintro e w' ⟨rfl,rfl⟩)
 go_ret2
 exact ⟨rfl,rfl⟩
theorem xC (n k:Int) (w:World):ar prog 26 #[.int .i64 n,.int .i64 k] w fun e w'=>e=.returned (.bool (decide (1<=k/\k<=n/\n<=12)))/\w'=w:=by
 by_cases f:1<=k
 ·by_cases j:k<=n
  ·by_cases o:n<=12
   ·have d:Hid (decide (1<=k/\k<=n/\n<=12)=true):=decide_eq_true ⟨f,j,o⟩
    rw [d.out]
    go_enter func26,ntmps26
    go_wp2
    go_ret
    exact ⟨rfl,rfl⟩
   ·have d:Hid (decide (1<=k/\k<=n/\n<=12)=false):=decide_eq_false fun h=>o h.2.2
    rw [d.out]
    go_enter func26,ntmps26
    go_wp2
    go_ret
    exact ⟨rfl,rfl⟩
  ·have d:Hid (decide (1<=k/\k<=n/\n<=12)=false):=decide_eq_false fun h=>j h.2.1
   rw [d.out]
   go_enter func26,ntmps26
   go_wp2
   go_ret
   exact ⟨rfl,rfl⟩
 ·have d:Hid (decide (1<=k/\k<=n/\n<=12)=false):=decide_eq_false fun h=>f h.1
  rw [d.out]
  go_enter func26,ntmps26
  go_wp2
  go_ret
  exact ⟨rfl,rfl⟩
end Go.Proofs.YtaaahibncffcmaaDoor

/- Texts laid together. -/
import Derived.Test.YtfgapcknnoeplaaGreatDoorX0
import Derived.WalkSmall
import Derived.OwnWalk
import Derived.Laws.AppendOwn
import Derived.Laws.AppendOwnNone
import Derived.Deep.RegionHeld3
import Derived.Laws.BitsAllLaws
import Derived.Laws.BitsLemmas
import Derived.Laws.BytesArg
import Derived.Maps.RangeWalk
import Derived.Maps.OwnOps
import Derived.Maps.OwnSet
import Derived.BigQuiet
import Derived.Deep.QuietTactic
import Derived.Shelf.Abstract
set_option maxRecDepth 10000
set_option maxHeartbeats 4000000
open Option renaming some->aa,none->N
open List renaming getElem?_eq_getElem->ab,getD_eq_getElem?_getD->ac,length_append->ak,mem_singleton->an,length_eq_zero_iff->ao,getElem_of_mem->aw,nodup_iff_pairwise_ne->az,pairwise_iff_getElem->aB,mem_take_iff_getElem->aC,getElem?_eq_some_iff->aD,flatMap_cons->aF,map_map->zc,getElem?_eq_none->zd,map_congr_left->zg,map_toArray->bd,length_cons->be,getElem_mem->bf,getElem_map->bg,any_eq_true->bh,length_map->bq,append_nil->br,take_nil->zl,map_cons->zm,map_nil->zv,map_id->cn,range->cx
open Go.World renaming cell?->ae,cell?_alloc_at->zf,ownsRow_nil->bb,var?_cell->bt
open Go renaming Value->af,bytes->ah,TypeId->ar,maxLen->za,Addr->zb,run_append_room->aN,wpList->aS,run_append_own->ze,run_append_grow->bs,run_append_nil->bA,growslice_fits->bB,TypeInfo->bC,DataW->zq,Program->cd,Operand->ce,Calls->z1,Oper->cX
open Nat renaming lt_of_lt_of_le->ag,add_mul->au,mod_two_eq_zero_or_one->ay,le_refl->aE,lt_or_ge->aI,div_lt_iff_lt_mul->aO,mul_le_mul_right->aR,add_assoc->zh,lt_of_le_of_lt->aY,zero_add->ba,zero_le->bm,not_lt_zero->bo,div_le_self->bp,mul_le_mul->bw,zero_mul->zs,le_trans->bO,one_mul->cl
open Go.Builtin renaming append_->ai
open Or renaming inl->aj,inr->al
open Go.RowKit renaming Below->am
open Array renaming getElem?_eq_none->ap,getElem?_eq_some_iff->aA,toList_inj->bk
open Bool renaming true->aq,false->a1
open Option.some renaming inj->av
open Go.World.ownsRow renaming cells->ax,kept->zi,lt->bi
open Go.Addr renaming add_lit->aM
namespace Go.Proofs.YtfgapcknnoeplaaGreatDoor
open Go.Proofs.Tryz
open Go.RowKit
variable {b B k i n j size:Nat}{o:Obj}{v D H I J v':af}{p:Option zb}{T e:ar}{ops:Array cX}{rest:List cX}{a:Act}{l:List BA}{x s key:BA}{P:Int×BA->Bool}
section
open Go.Extern.Stop Go.Stop Go.Extern
structure O0 (w:World) (ad:Nat->zb):Prop where
 c0:w.cell? ⟨3,0,N⟩=aa (.iface 335 (.pointer (aa (ad 0))))
 c1:w.cell? ⟨4,0,N⟩=aa (.iface 335 (.pointer (aa (ad 1))))
 c2:w.cell? ⟨5,0,N⟩=aa (.iface 335 (.pointer (aa (ad 2))))
 c3:w.cell? ⟨6,0,N⟩=aa (.iface 335 (.pointer (aa (ad 3))))
 c4:w.cell? ⟨1,0,N⟩=aa (.iface 335 (.pointer (aa (ad 4))))
 c5:w.cell? ⟨2,0,N⟩=aa (.iface 335 (.pointer (aa (ad 5))))
 c6:w.cell? ⟨7,0,N⟩=aa (.iface 335 (.pointer (aa (ad 6))))
 c7:w.cell? ⟨8,0,N⟩=aa (.iface 335 (.pointer (aa (ad 7))))
 c8:w.cell? ⟨9,0,N⟩=aa (.iface 335 (.pointer (aa (ad 8))))
 c9:w.cell? ⟨0,0,N⟩=aa (.iface 335 (.pointer (aa (ad 9))))
 wS:w.cell? ⟨10,0,N⟩=aa (.iface 335 (.pointer (aa (ad 10))))
 c11:w.cell? ⟨11,0,N⟩=aa (.iface 335 (.pointer (aa (ad 11))))
 typ:w.cell? ⟨12,0,N⟩=aa (.iface 163 (.agg #[.pointer (aa ⟨17,28,N⟩)]))
 row:∀i,i<12->∃c t,w.heap[(ad i).block]?=aa (.cells c t (0,0))
 ne:∀i j,i<12->j<12->i≠j->ad i≠ad j
theorem Qf {w:World}{o:Nat}(h:w.cell? ⟨b,o,N⟩=aa v):b<w.heap.size:=by
 rcases aI b w.heap.size with B|B
 ·exact B
 ·simp[ae,ap B]at h
theorem Jbd {w:World}(h:w.heap[b]?=aa o):b<w.heap.size:=by
 rcases aI b w.heap.size with B|B
 ·exact B
 ·rw[ap B]at h;cases h
theorem O0.below {w w':World}{ad:Nat->zb}(h:O0 w ad)(B:am w.heap.size w w'):O0 w' ad where
 c0:=(B.cell (Qf h.c0)).trans h.c0
 c1:=(B.cell (Qf h.c1)).trans h.c1
 c2:=(B.cell (Qf h.c2)).trans h.c2
 c3:=(B.cell (Qf h.c3)).trans h.c3
 c4:=(B.cell (Qf h.c4)).trans h.c4
 c5:=(B.cell (Qf h.c5)).trans h.c5
 c6:=(B.cell (Qf h.c6)).trans h.c6
 c7:=(B.cell (Qf h.c7)).trans h.c7
 c8:=(B.cell (Qf h.c8)).trans h.c8
 c9:=(B.cell (Qf h.c9)).trans h.c9
 wS:=(B.cell (Qf h.wS)).trans h.wS
 c11:=(B.cell (Qf h.c11)).trans h.c11
 typ:=(B.cell (Qf h.typ)).trans h.typ
 row:=fun i H=>by
  obtain⟨c,t,D⟩:=h.row i H;exact⟨c,t,(B.block _ (Jbd D)).trans D⟩
 ne:=h.ne
theorem Jch (w:World):z1 prog 25 #[.nilIface] w fun e w'=>e=.returned (.tuple #[.int .i64 0,.int .i64 (-1)])/\w'=w:=by
 go_enter func25,ntmps25;go_wp2
 go_ret2
 exact⟨rfl,rfl⟩
def Jar (ad:Nat->zb):Array Value:=#[.iface 335 (.pointer (aa (ad 0))),.iface 335 (.pointer (aa (ad 1))),.iface 335 (.pointer (aa (ad 2))),.iface 335 (.pointer (aa (ad 3))),.iface 335 (.pointer (aa (ad 4))),.iface 335 (.pointer (aa (ad 5))),.iface 335 (.pointer (aa (ad 6))),.iface 335 (.pointer (aa (ad 7))),.iface 335 (.pointer (aa (ad 8))),.iface 335 (.pointer (aa (ad 9))),.iface 335 (.pointer (aa (ad 10))),.iface 335 (.pointer (aa (ad 11)))]
theorem JaK (ad:Nat->zb)(w:World):∀k,k<12->(w.alloc (.cells (Jar ad) 28)).cell? ⟨w.heap.size,k,N⟩=aa (.iface 335 (.pointer (aa (ad k)))):=by
 intro k B;have e:(Jar ad)[k]?=aa (.iface 335 (.pointer (aa (ad k)))):=by
  match k,B with
  |0,_|1,_|2,_|3,_|4,_|5,_|6,_|7,_|8,_|9,_|10,_|11,_=>rfl
 rw[zf _ _ _ _ (by simp)];exact e
theorem Jb0 (ad:Nat->zb)(i:Nat)(hi:i<12)(w:World)(hS:O0 w ad):
 z1 prog 25 #[.iface 335 (.pointer (aa (ad i)))] w fun e w'=>e=.returned (.tuple #[.int .i64 ((i+1:Nat):Int),.int .i64 (-1)])/\am w.heap.size w w':=by
 have a0:am w.heap.size w (w.alloc (.cells #[.pointer N] 75)):=bR.alloc nR _;have J:=hS.below a0;go_enter func25,ntmps25;go_wp2_with fail
 refine(JcF _ _ _ J.typ).mono ?_;rintro e B ⟨rfl,H⟩;have K:=J.below H;have a6:=K;obtain⟨c0,c1,c2,c3,c4,c5,c6,c7,c8,c9,wS,c11,_,_,_⟩:=a6;go_wp2;clear c0 c1 c2 c3 c4 c5 c6 c7 c8 c9 wS c11 a0 J hS;have O:am B.heap.size B (B.alloc (.cells (Jar ad) 28)):=bR.alloc nR _;have D:=K.below O;have I:=JaK ad B;have U:Hid _:=((bR.alloc nR _).trans (H.mono (by simp))).trans (O.mono (by have:=H.size;simp at this;omega));have e3:(B.alloc (.cells (Jar ad) 28)).heap.size=B.heap.size+1:=by simp
 unfold Jar at D I U;generalize B.alloc (.cells _ 28)=w3 at D I U ⊢;clear H O K e3
 go_loop [3,30] (fun y x=>y=.int .i64 (-1)/\∃k:Nat,k<=i/\x=.int .i64 k) (fun _ x=>12-(intOf x).toNat)
 case atStart=>exact⟨rfl,0,by omega,rfl⟩
 case round =>
  obtain⟨rfl,k,hk,rfl⟩:=hrel;have Z:k<12:=by omega
  have hc:=I k Z;obtain⟨ca,ta,a2⟩:=D.row i hi;obtain⟨cb,tb,a3⟩:=D.row k Z;clear I;by_cases a4:k=i
  ·subst a4;go_wp2_with (go_at_call 48;refine(JcE (ad k) _).mono ?_;rintro e w' ⟨rfl,rfl⟩)
   go_ret2
   exact⟨by simp,U.out⟩
  ·have a5:=D.ne i k hi Z (fun h=>a4 h.symm);have HN:Hid _:=a5;have HA:Hid _:=a2;have HB:Hid _:=a3;clear a5 a2 a3;go_wp2_with (go_at_call 48;refine(Jcn (ad i) (ad k) ca cb ta tb _ HN.out HA.out HB.out).mono ?_;rintro e w' ⟨rfl,rfl⟩)
   go_round
   case rel=>exact⟨rfl,k+1,by omega,by go_num⟩
   case measure=>simp[intOf];omega
end
section
open Go.ChangeShapes Go.WideShapes Go.RowKit
def L12:List (String×List UInt8):=(Rows.playTellsRow.laid.drop (3+1)).map fun x=>(x.1,match x.2 with| .iface _ (.ptr (.agg [.lit (.string t)]))=>t|_=>[])
theorem JaX (W:World):laidMetH prog Rows.playTellsRow.laid W=(laidMet prog (Rows.playTellsRow.laid.take 3++L12.map fun x=>(x.1,GZ x.2)) W/\handlesMet prog ((Rows.playTellsRow.laid.drop 3).take 1) W):=by kernel_rfl
theorem JbV:(L12.all fun x=>match prog.globalNamed x.1 with|some g=>(prog.globals[g]?).map (·.type)==aa 28|none=>a1)=true:=by kernel_rfl
theorem g12:L12.map (fun x=>prog.globalNamed x.1)=[aa 3,aa 4,aa 5,aa 6,aa 1,aa 2,aa 7,aa 8,aa 9,aa 0,aa 10,aa 11]:=by kernel_rfl
theorem Jcs:prog.globalNamed "errors.errorType"=aa 12:=by kernel_rfl
theorem JbW:((cx 364).filter fun t=>prog.rowNamed t [101,114,114,111,114])=[28]:=by kernel_rfl
theorem JbX:prog.types.size=364:=by kernel_rfl
theorem Jbn {W:World}(h:laidMetH prog Rows.playTellsRow.laid W):∃ad,O0 W ad:=by
 rw[JaX]at h;obtain⟨⟨a7,K,O,U⟩,hH⟩:=h;obtain⟨pp,ps,rfl,hl⟩:=AY _ _ _ K;have a2:ps.Nodup:=List.Nodup.sublist (List.sublist_append_right _ _) O;have Z:=fun b a0 (H:MemPlace.cell b a0∈ps)=>U b a0 (List.mem_append_right _ H)
 clear K O U;have hn:∀x∈L12,∃g,prog.globalNamed x.1=aa g/\(prog.globals[g]?).map (·.type)=aa 28:=by
  intro x D;have:=List.all_eq_true.1 JbV x D;split at this
  ·rename_i g J;exact⟨g,J,by simpa using this⟩
  ·cases this
 have a3:prog.cellsOf 353=1:=by kernel_rfl
 have c9:prog.cellsOf 9=1:=by kernel_rfl
 obtain⟨ad,h1,h2⟩:=UX underlying28 JtW underlying335 underlying353 rfl rfl underlying9 a3 c9 L12 ps hl hn Z;have a4:∀i g x,L12[i]?=aa x->prog.globalNamed x.1=aa g->W.cell? ⟨g,0,N⟩=aa (.iface 335 (.pointer (aa (ad i)))):=by
  intro i g x D J;simpa using bt J (h1 i x D).2 0
 have B:∀i g,(L12.map (fun x=>prog.globalNamed x.1))[i]?=aa (aa g)->W.cell? ⟨g,0,N⟩=aa (.iface 335 (.pointer (aa (ad i)))):=by
  intro i g D;rw[List.getElem?_map]at D;obtain⟨x,a5,a6⟩:=Option.map_eq_some_iff.1 D;exact a4 i g x a5 a6
 rw[g12]at B;have len:L12.length=12:=rfl;refine⟨ad,B 0 _ rfl,B 1 _ rfl,B 2 _ rfl,B 3 _ rfl,B 4 _ rfl,B 5 _ rfl,B 6 _ rfl,B 7 _ rfl,B 8 _ rfl,B 9 _ rfl,B 10 _ rfl,B 11 _ rfl,?_,?_,fun i j I hj=>h2 a2 i j (by rw[len];exact I) (by rw[len];exact hj)⟩
 ·obtain⟨name,u,ty,e1,e2,e3,e4,e5⟩:=hH _ (an.2 rfl);have en:name=[101,114,114,111,114]:=(av e1).symm;subst en;obtain rfl:163=u:=av ((show _=aa 163 by kernel_rfl).symm.trans e2);have H:ty∈(cx 364).filter fun t=>prog.rowNamed t [101,114,114,111,114]:=List.mem_filter.2 ⟨List.mem_range.2 (by rw[<-JbX];exact e3),e4⟩
  rw[JbW]at H;obtain rfl:=an.1 H;have hh:typeHandle prog 28=.pointer (aa ⟨17,28,N⟩):=by kernel_rfl
  rw[hh]at e5;simpa using bt Jcs e5 0
 ·intro i I;obtain⟨x,D⟩:∃x,L12[i]?=aa x:=⟨L12[i]'(by rw[len];exact I),ab (by rw[len];exact I)⟩;exact(Z _ _ (h1 i x D).1).1
theorem own:ownKnob prog.godebug=none:=by kernel_rfl
end
section
structure eW (α:Type) where
 k:Nat
 pos:0<k
 enc:α->List af
 len:∀x,(enc x).length=k
 one:∀x,∀u∈enc x,u.oneCell'=aq
variable {α:Type} {E:eW α}
def Qb (E:eW α)(l:List α):List Value:=l.flatMap E.enc
theorem Qr (E:eW α):∀l:List α,(Qb E l).length=l.length*E.k
 | []=>by simp[Qb]
 |x::l=>by
  have:=Qr E l;unfold Qb at this ⊢;rw[aF,ak,this,E.len,be,au,cl,Nat.add_comm]
theorem Qj (E:eW α)(l m:List α):Qb E (l++m)=Qb E l++Qb E m:=by unfold Qb;rw[List.flatMap_append]
theorem qK (E:eW α)(x:α):Qb E [x]=E.enc x:=by simp[Qb]
theorem uH (E:eW α):∀(l:List α) (i:Nat) (x:α),l[i]?=aa x->∀j u,(E.enc x)[j]?=aa u->(Qb E l)[i*E.k+j]?=aa u
 | [],i,x,h,_,_,_=>by simp at h
 |y::l,0,x,h,j,u,hj=>by
  obtain rfl:y=x:=by simpa using h
  unfold Qb;rw[aF,zs,ba,List.getElem?_append_left (aD.1 hj).1];exact hj
 |y::l,i+1,x,h,j,u,hj=>by
  have ih:=uH E l i x (by simpa using h) j u hj;unfold Qb at ih ⊢;rw[aF,List.getElem?_append_right (by rw[E.len];have:=Nat.le_mul_of_pos_left E.k (show 0<i+1 by omega);omega),E.len];have e:(i+1)*E.k+j-E.k=i*E.k+j:=by rw[au,cl];omega
  rw[e];exact ih
def Ql (E:eW α)(w:World)(p:Option zb)(l:List α):Prop :=
 l=[]∨∃b o,p=aa ⟨b,o,N⟩/\b<w.heap.size/\∀i x,l[i]?=aa x->∀j u,(E.enc x)[j]?=aa u->w.cell? ⟨b,o+i*E.k+j,N⟩=aa u
theorem Ql.nil (w:World)(p:Option zb):Ql E w p []:=aj rfl
theorem Ql.below {w w':World}{l:List α}(h:Ql E w p l)(D:am w.heap.size w w'):Ql E w' p l:=by
 rcases h with h|⟨b,o,H,B,I⟩
 ·exact aj h
 ·exact al ⟨b,o,H,ag B D.size,fun i x J j u K=>(D.cell (p:=⟨b,o+i*E.k+j,N⟩) B).trans (I i x J j u K)⟩
theorem Ql.take {w:World}{l:List α}(h:Ql E w p l)(m:Nat):Ql E w p (l.take m):=by
 rcases h with h|⟨b,o,D,H,I⟩
 ·exact aj (by rw[h,zl])
 ·refine al ⟨b,o,D,H,fun i x B j u J=>I i x ?_ j u J⟩;rw[List.getElem?_take]at B;split at B
  ·exact B
  ·cases B
theorem Ql.drop {w:World}{l:List α}{c m:Nat}(h:Ql E w p l)(H:m<=l.length)(hc:l.length<=c)(Z:p=N->l=[]/\c=0):
 Ql E w (if c=m then p else p.map (·.add (m*E.k))) (l.drop m)/\((if c=m then p else p.map (·.add (m*E.k)))=N->l.drop m=[]/\c-m=0):=by
 by_cases e:c=m
 ·rw[if_pos e];have B:l.drop m=[]:=List.drop_eq_nil_of_le (by omega);exact⟨aj B,fun _=>⟨B,by omega⟩⟩
 ·rw[if_neg e];cases p with
  |none =>
   obtain⟨I,h2⟩:=Z rfl;rw[I]at H;simp at H;omega
  |some a =>
   refine⟨?_,fun B=>by cases B⟩;rcases h with h|⟨b,o,J,K,O⟩
   ·exact aj (by rw[h,List.drop_nil])
   ·obtain rfl:a=⟨b,o,N⟩:=by simpa using J
    refine al ⟨b,o+m*E.k,by simp[aM],K,fun i x D j u U=>?_⟩;rw[List.getElem?_drop]at D;have:=O (m+i) x D j u U;rw[au,<-zh]at this;exact this
def Zc (E:eW α)(T:ar)(w:World)(B:Nat)(v:af)(l:List α):Prop:=w.ownsRow B T E.k v l.length (Qb E l)
theorem Zc.nil (T:ar)(w:World)(B:Nat):Zc E T w B (.slice N 0 0) []:=bb w B T E.k
theorem Zc.block {w:World}{l:List α}(h:Zc E T w B v l)(D:v.ownBlock=aa k):B<=k/\k<w.heap.size:=bi h k D
theorem Zc.kept {w w':World}{l:List α}(h:Zc E T w B v l)(D:am w.heap.size w w'):Zc E T w' B v l :=
 zi (row:=N) h ⟨D.os,D.tape,D.output,D.size,fun k H _=>D.block k H⟩ (by cases v.ownBlock<;>simp)
theorem Zc.base {w:World}{B':Nat}{l:List α}(h:Zc E T w B v l)(U:B'<=B):Zc E T w B' v l:=by
 obtain⟨H,D⟩:=h;refine⟨H,?_⟩;rcases D with D|⟨g,cap,I,J,K,O⟩
 ·exact aj D
 ·exact al ⟨g,cap,I,J,bO U K,O⟩
theorem Zc.form {w:World}{l:List α}(h:Zc E T w B v l):∃p c,v=.slice p l.length c/\Ql E w p l/\l.length<=c/\(p=N->l=[]/\c=0)/\∀b o,p=aa ⟨b,o,N⟩->B<=b/\b<w.heap.size:=by
 have D:=h;rcases D.2 with⟨rfl,J⟩|⟨g,cap,a0,rfl,K,O,U,a2,a3,a4⟩
 ·have e:l=[]:=ao.1 J;subst e;exact⟨N,0,rfl,aj rfl,aE _,fun _=>⟨rfl,rfl⟩,fun _ _ h=>by cases h⟩
 ·have H:g<w.heap.size:=(aA.1 O).1;refine⟨aa ⟨g,0,N⟩,cap,rfl,al ⟨g,0,rfl,H,fun i x Z j u hu=>?_⟩,U,fun h=>(by cases h),fun b o h=>?_⟩
  ·have I:=ax (g:=g) D rfl (i*E.k+j) u (uH E l i x Z j u hu);rw[aM]at I;rw[zh];exact I
  ·obtain⟨rfl,rfl⟩:g=b/\0=o:=by simpa using h
   exact⟨K,H⟩
theorem Zz (E:eW α)(l:List α):∀u∈Qb E l,u.oneCell'=true:=fun u B=>by
 obtain⟨x,_,D⟩:=List.mem_flatMap.1 B;exact E.one x u D
theorem Ql.cells {w:World}{o:Nat}{l:List α}(hc:∀i x,l[i]?=aa x->∀j u,(E.enc x)[j]?=aa u->w.cell? ⟨b,o+i*E.k+j,N⟩=aa u):∀j u,(Qb E l)[j]?=aa u->w.cell? ((⟨b,o,N⟩:zb).add j)=aa u:=by
 intro j u B;have D:=(aD.1 B).1;rw[Qr]at D;have H:=E.pos;have hi:=(aO H).2 D;have I:j%E.k<E.k:=Nat.mod_lt _ H;have J:=ab hi;have K:(E.enc l[j/E.k])[j%E.k]?=aa ((E.enc l[j/E.k])[j%E.k]'(by rw[E.len];exact I)):=ab (by rw[E.len];exact I);have O:=uH E l (j/E.k) _ J (j%E.k) _ K;have U:=hc (j/E.k) _ J (j%E.k) _ K;have Z:j/E.k*E.k+j%E.k=j:=by rw[Nat.mul_comm];exact Nat.div_add_mod j E.k
 rw[Z]at O;rw[zh,Z]at U;rw[aM,U,<-O,B]
section
variable {w:World}
theorem F4 {o:cX}{Q:Exit->Act->World->Prop}(U:o.guard=N)(s x:ce)(t T:ar)
 (Z:o.op=.call {callee:=.builtin .append,args:=#[s,x],argTypes:=#[t,t]}) (z:af) (ah:Nat) (ht:prog.underlying t=aa (.slice T))
 (a7:(prog.info? T).map (fun i=>(i.zero,i.size,i.bytes))=aa (aa z,E.k,ah)) (a8:z.cells.size=E.k)
 (B:Nat) (v:af) (l:List α) (hs:a.eval s=v) (H:Zc E T w B v l) (q:Option zb) (r:List α) (c:Nat) (hx:a.eval x=.slice q r.length c) (hq:Ql E w q r) (a9:q=N->r=[]/\c=0) (hl:l.length+r.length<=za) (b0:(l.length+r.length)*ah<=140737488355328) (a0:B<=w.heap.size)
 (h:∀D w',Zc E T w' B D (l++r)->am B w w'->aS prog ops Q rest (a.put o.dst D) w'):aS prog ops Q (o::rest) a w:=by
 obtain⟨K,O,a2,a3,a4⟩:=info_parts a7;have a5:∀D w',w'.ownsRow B T E.k D (l.length+r.length) (Qb E l++Qb E r)->w.grownBy w' v.ownBlock->aS prog ops Q rest (a.put o.dst D) w':=fun D w' I J=>by
  refine h D w' ?_ (bR.grown J a0 (fun k hk=>(H.block hk).1));unfold Zc;rw[Qj,ak];exact I
 cases q with
 |none =>
  obtain⟨hr,hc⟩:=a9 rfl;subst hr hc;refine wpList_append_own_none U s x _ Z B T K E.k ht O v l.length (Qb E l) hs H hx ?_;have:=h v w (by rw[br];exact H) bR;exact this
 |some ad =>
  refine wpList_append_own w U s x _ Z B T K z E.k ah ht O a2 a3 a4 a8 E.pos v l.length (Qb E l) hs H ad r.length c (Qb E r) hx (Qr E r) ?_ (Zz E r) hl b0 a0 (fun D w' I J _=>a5 D w' I J);rcases hq with h0|⟨b,o',hp,_,a6⟩
  ·subst h0;intro j u hj;simp[Qb]at hj
  ·obtain rfl:ad=⟨b,o',N⟩:=by simpa using hp
   exact Ql.cells a6
theorem wJ {o:cX}{Q:Exit->Act->World->Prop}(K:o.guard=N)(s x:ce)(t T:ar)
 (O:o.op=.call {callee:=.builtin .append,args:=#[s,x],argTypes:=#[t,t]}) (z:af) (ah:Nat) (U:prog.underlying t=aa (.slice T))
 (Z:(prog.info? T).map (fun i=>(i.zero,i.size,i.bytes))=aa (aa z,E.k,ah)) (a0:z.cells.size=E.k)
 (B:Nat) (v:af) (l:List α) (hs:a.eval s=v) (a2:Zc E T w B v l) (b D c:Nat) (y:α) (hx:a.eval x=.slice (aa ⟨b,D,N⟩) 1 c) (hq:∀j u,(E.enc y)[j]?=aa u->w.cell? ⟨b,D+j,N⟩=aa u) (hl:l.length+1<=za) (a3:(l.length+1)*ah<=140737488355328) (a4:B<=w.heap.size) (a5:b<w.heap.size)
 (h:∀I w',Zc E T w' B I (l++ [y])->am B w w'->aS prog ops Q rest (a.put o.dst I) w'):aS prog ops Q (o::rest) a w :=
 F4 (E:=E) K s x t T O z ah U Z a0 B v l hs a2 (aa ⟨b,D,N⟩) [y] c hx (al ⟨b,D,rfl,a5,fun i x H j u J=>by
  match i,H with
  |0,H =>
   obtain rfl:y=x:=by simpa using H
   rw[zs,Nat.add_zero];exact hq j u J⟩) (fun e=>by cases e) hl a3 a4 h
end
theorem sA {l:List af} {a:af}:l.toArray.setIfInBounds i a=(l.set i a).toArray:=List.setIfInBounds_toArray ..
theorem sZ {x a:af} {l:List af}:(x::l).set 0 a=a::l:=rfl
theorem sS {x a:af} {l:List af} :(x::l).set (n+1) a=x::l.set n a:=rfl
theorem XX {w B:World} {D:Array af}  (h:B=w.alloc (.cells D T)) (H:D[i]?=aa v):B.cell? ⟨w.heap.size,i,N⟩=aa v:=by rw[h,zf _ _ _ _ rfl];exact H
theorem x8 {w B:World} (h:B=w.alloc o):am w.heap.size w B:=by rw[h];exact(Below.refl _ _).alloc (aE _) _
end
theorem QT {w B:World}(h:B=w.alloc o):B.heap.size=w.heap.size+1:=by rw[h];simp
theorem fQ {w B:World}(h:B=w.alloc o):w.heap.size<B.heap.size:=by rw[h];simp
theorem Zk {w B:World}(h:B=w.alloc o):am w.heap.size w B:=x8 h
theorem JH {w B:World}(h:B=w.alloc o):B.heap[w.heap.size]?=aa o:=by
 rw[h];show(w.heap.push _)[w.heap.size]?=_;simp
theorem lO {W:World}{o:Nat×Nat}{B:af}(h:W.heap[b]?=aa (.cells #[B,D] T o)):W.cell? ⟨b,0,N⟩=aa B/\W.cell? ⟨b,1,N⟩=aa D:=⟨by simp[ae,h],by simp[ae,h]⟩
theorem P9 {W:World}{o:Nat×Nat}{B:af}(h:W.heap[b]?=aa (.cells #[B,D,H] T o)):W.cell? ⟨b,0,N⟩=aa B/\W.cell? ⟨b,1,N⟩=aa D/\W.cell? ⟨b,2,N⟩=aa H:=⟨by simp[ae,h],by simp[ae,h],by simp[ae,h]⟩
theorem c4B {W:World}{o:Nat×Nat}{B:af}(h:W.heap[b]?=aa (.cells #[B,D,H,I] T o)):W.cell? ⟨b,0,N⟩=aa B/\W.cell? ⟨b,1,N⟩=aa D/\W.cell? ⟨b,2,N⟩=aa H/\W.cell? ⟨b,3,N⟩=aa I:=⟨by simp[ae,h],by simp[ae,h],by simp[ae,h],by simp[ae,h]⟩
theorem zB {W:World}{o:Nat×Nat}{B:af}(h:W.heap[b]?=aa (.cells #[B,D,H,I,J] T o)):W.cell? ⟨b,0,N⟩=aa B/\W.cell? ⟨b,1,N⟩=aa D/\W.cell? ⟨b,2,N⟩=aa H/\W.cell? ⟨b,3,N⟩=aa I/\W.cell? ⟨b,4,N⟩=aa J:=⟨by simp[ae,h],by simp[ae,h],by simp[ae,h],by simp[ae,h],by simp[ae,h]⟩
theorem lF {W:World}{o:Nat×Nat}{B K O U:af}(h:W.heap[b]?=aa (.cells #[B,D,H,I,J,K,O,U] T o)):W.cell? ⟨b,0,N⟩=aa B/\W.cell? ⟨b,1,N⟩=aa D/\W.cell? ⟨b,2,N⟩=aa H/\W.cell? ⟨b,3,N⟩=aa I/\W.cell? ⟨b,4,N⟩=aa J/\W.cell? ⟨b,5,N⟩=aa K/\W.cell? ⟨b,6,N⟩=aa O/\W.cell? ⟨b,7,N⟩=aa U:=⟨by simp[ae,h],by simp[ae,h],by simp[ae,h],by simp[ae,h],by simp[ae,h],by simp[ae,h],by simp[ae,h],by simp[ae,h]⟩
section
open Go
abbrev _root_.Go.World.z (w:World):Nat:=w.heap.size
abbrev pA (b i:Nat):Addr:=⟨b,i,N⟩
section
variable {P:cd} {ops:Array cX} {Q:Exit->Act->World->Prop} {md:Region.Mode} {S:World->Prop} {fuel:Nat} {listed:Array Bool} {a:Act} {w:World}
theorem tk (i:Nat)(oi:Oper){v:Value}(hS:S w)(h:wpAnyH P md ops Q S fuel (listed.setIfInBounds i true) (a.put oi.dst v) w)(hi:ops[i]?=some oi:=by(try simp only [List.getElem?_toArray,List.getElem?_cons_zero,List.getElem?_cons_succ]);all_goals rfl)(hs:Region.noSelect ops=true:=by kernel_rfl)(hf:Region.free md ops listed i=true:=by kernel_rfl)(hr:(Region.ready md ops listed).contains i=true:=by kernel_rfl)(hw:Region.wanted oi (yielded ops a.tmps)=true:=by rfl)(hy:∀ w,S w->(execOp a.eval oi).run P w=.ok (.value v) w:=by intro w hSw;(try dsimp only at hSw);go_simp;try with_reducible rfl)(hQ:∀ c a w,Q (.panic c) (a.put oi.dst v) w->Q (.panic c) a w:=by exact fun _ _ _ h=>h):wpAnyH P md ops Q S (fuel+1) listed a w :=
 wpAnyH_take hi hs hf hr hQ (aj ⟨hw,hy⟩) hS h
theorem rdy (i:Nat)(rs:List Nat)(o:Oper)(h:∀ K':Act->World->Prop,Shut (∀ a w,S w->(S w->wpAnyH P md ops Q S fuel (listed.setIfInBounds i true) a w)->K' a w)->if Region.wanted o (yielded ops a.tmps)=true then Oper.wp P o a w K' Q else K' (a.put o.dst undef) w)(hs:AllReadyH P md ops Q S fuel listed a w rs)(ho:ops[i]?=some o:=by(try simp only [List.getElem?_toArray,List.getElem?_cons_zero,List.getElem?_cons_succ]);all_goals rfl)(hr:Region.ready md ops listed=i :: rs:=by kernel_rfl):wpAnyH P md ops Q S (fuel+1) listed a w :=
 wpAnyH_ready hr (by simp) (AllReadyH.cons ho h hs)
end
end
theorem l4 {k:IntKind}{a b:Int}(h:a=b):Ending.returned (.int k a)=.returned (.int k b):=by rw[h]
theorem sB {a b:Bool}(h:a=b):Ending.returned (.bool a)=.returned (.bool b):=by rw[h]
theorem Jq5 (b k:Nat)(I:b<256):(bits BinOp.and IntKind.u8 ((b:Int)/2^k) 1==1)=decide (Gf.bT b k=1):=by
 have B:((b:Int)/2^k)=((b/2^k:Nat):Int):=by simp
 have D:b/2^k<256:=aY (bp _ _) I;have H:bits BinOp.and IntKind.u8 ((b/2^k:Nat):Int) 1=((b/2^k%2:Nat):Int):=by
  have:=u8_and_nat (b/2^k) 1 D (by decide);rw[Nat.and_one_is_mod]at this;exact this
 rw[B,H];unfold Gf.bT;rcases ay (b/2^k)with h|h<;>rw[h]<;>rfl
theorem Jnr (b k:Nat)(I:b<256):(bits BinOp.and IntKind.i64 ((b:Int)/2^k) 1==1)=decide (Gf.bT b k=1):=by
 have B:((b:Int)/2^k)=((b/2^k:Nat):Int):=by simp
 have D:b/2^k<256:=aY (bp _ _) I;have H:bits BinOp.and IntKind.i64 ((b/2^k:Nat):Int) 1=((b/2^k%2:Nat):Int):=by
  have:=bits_mask IntKind.i64 8 (by decide) (fun n J B=>by rw[IntKind.wrap_i64];omega) 1 (by decide) ((b/2^k:Nat):Int) (Int.natCast_nonneg _) (by exact_mod_cast D);rw[show((2:Int)^1-1)=1 from rfl]at this;rw[this];rfl
 rw[B,H];unfold Gf.bT;rcases ay (b/2^k)with h|h<;>rw[h]<;>rfl
def red (n:Int):Nat:=(n%255).toNat
theorem M4 (n:Int):((red n:Nat):Int)=n%255:=by unfold red;omega
theorem UP (n:Int):red n<255:=by unfold red;omega
theorem Jq7 (n:Int):n.tmod 255=-((-n).tmod 255):=by rw[Int.neg_tmod,Int.neg_neg]
theorem Jj6 (n:Nat)(h:n<2^62):wrap64 (n:Int)=(n:Int):=by
 unfold wrap64;omega
def Jp (l:List Nat):BA:=strOfNums (l.map Int.ofNat)
def Zj (s:BA):List Nat:=s.data.toList.map UInt8.toNat
theorem xK (s:BA):Gf.Bytes (Zj s):=fun i=>by
 by_cases B:i<(Zj s).length
 ·rw[Gf.aK _ i B];simp only[Zj,bg];exact UInt8.toNat_lt _
 ·show(Zj s).getD i 0<256;rw[ac,zd (by omega)];decide
theorem uD (s:BA)(i:Nat)(h:i<s.size):Gf.nth (Zj s) i=(s[i]'h).toNat:=by
 rw[Gf.aK _ i (by simpa[Zj]using h)];simp only[Zj,bg];rfl
theorem tZ (s:BA):(Zj s).length=s.size:=by simp[Zj]
theorem Jo6 {l:List Nat}(h:Gf.Bytes l){x:Nat}(D:x∈l):x<256:=by
 obtain⟨i,B,rfl⟩:=aw D;have:=h i
 rwa[Gf.aK l i B]at this
theorem FK {l:List Nat}(h:Gf.Bytes l):Zj (Jp l)=l:=by
 unfold Zj Jp;rw[strOfNums_data,zc,zc]
 conv=>rhs;rw[<-cn l]
 refine zg fun x B=>?_
 have:=Jo6 h B;simp only[Function.comp];show(UInt8.ofNat x).toNat=x;simp only[UInt8.toNat_ofNat'];omega
theorem CX (s:BA):Jp (Zj s)=s:=by
 unfold Zj Jp strOfNums;rw[zc,zc];have:(List.map (((fun n:Int=>UInt8.ofNat n.toNat)∘Int.ofNat)∘UInt8.toNat) s.data.toList)=s.data.toList:=by
  conv=>rhs;rw[<-cn s.data.toList]
  refine zg fun x _=>?_
  show UInt8.ofNat x.toNat=x;exact UInt8.ofNat_toNat
 rw[this]
theorem xG (l:List Nat):(Jp l).size=l.length:=by
 unfold Jp;rw[strOfNums_size,bq]
theorem EP (s:BA)(i:Nat)(h:i<s.size)(W:World):Sem.run prog (Instr.index 9 (.string s) (.int .i64 (i:Int))) W=.ok (.int .u8 ((Gf.nth (Zj s) i:Nat):Int)) W:=by
 rw[run_index_string W 9 s .i64 _ underlying9,dif_pos ⟨by omega,by omega⟩,uD s i h]
 congr 3
theorem BO {l m:List Nat}(H:l.length=m.length)(h:∀i,i<l.length->Gf.nth l i=Gf.nth m i):l=m:=by
 refine List.ext_getElem H fun i B D=>?_
 rw[<-Gf.aK l i B,<-Gf.aK m i D];exact h i B
theorem F0 {l:List Nat}(h:l.length<=i):Gf.nth l i=0:=by
 show l.getD i 0=0;rw[ac,zd h];rfl
def Yc (l:List BA)(i:Nat):BA:=l.getD i ⟨#[]⟩
theorem Xk (l:List BA)(i:Nat)(h:i<l.length):Yc l i=l[i]:=by
 unfold Yc;rw[ac,ab h];rfl
theorem oQ (h:i<l.length):Yc l i∈l:=by
 rw[Xk l i h];exact bf h
theorem tF (h:x∈l):∃i,i<l.length/\Yc l i=x:=by
 obtain⟨i,B,e⟩:=aw h;exact⟨i,B,by rw[Xk l i B,e]⟩
theorem Jrb (h:j<i):Yc (l.take i) j=Yc l j:=by
 unfold Yc;rw[ac,ac,List.getElem?_take_of_lt h]
def Xi (w:World)(p:Option zb)(l:List BA):Prop :=
 l=[]∨∃b o,p=aa ⟨b,o,N⟩/\b<w.heap.size/\∀i,i<l.length->w.cell? ⟨b,o+i,N⟩=aa (.string (Yc l i))
theorem Xi.below {w w':World}(h:Xi w p l)(D:am w.heap.size w w'):Xi w' p l:=by
 rcases h with h|⟨b,o,H,B,I⟩
 ·exact aj h
 ·exact al ⟨b,o,H,ag B D.size,fun i J=>(D.cell (p:=⟨b,o+i,N⟩) B).trans (I i J)⟩
theorem Xi.take {w:World}(h:Xi w p l)(i:Nat):Xi w p (l.take i):=by
 rcases h with h|⟨b,o,B,D,H⟩
 ·exact aj (by rw[h,zl])
 ·refine al ⟨b,o,B,D,fun j I=>?_⟩;rw[List.length_take]at I;rw[H j (by omega),Jrb (by omega)]
theorem XT {a b:BA}(h:a≠b):¬a.toList=b.toList:=fun e=>h (by
 rw[ByteArray.toList_eq,ByteArray.toList_eq]at e;exact ByteArray.ext (bk.1 e))
theorem YT {a b:BA}(h:a≠b):(a.toList==b.toList)=false:=by simpa using XT h
theorem Y8 {a b:BA}(h:a≠b):(a==b)=false:=by rw[beq_toListBytes];exact YT h
structure Yb where
 n:Int
 who:Int
 size:Int
 at_:Int
 text:BA
deriving DecidableEq
def JL (v:Yb):List Value:=[.int .i64 v.n,.int .i64 v.who,.int .i64 v.size,.int .i64 v.at_,.string v.text]
def Ze:eW Yb:=⟨5,by decide,JL,fun _=>rfl,fun x u B=>by simp[JL]at B;rcases B with rfl|rfl|rfl|rfl|rfl<;>rfl⟩
abbrev Yh:=BA×Yb
theorem Zn {w:World}{o:Nat}(h:w.cell? ⟨b,o,N⟩=aa v):b<w.heap.size:=by
 rcases aI b w.heap.size with B|B
 ·exact B
 ·simp[ae,ap B]at h
def Xc (L:List Yh)(key:BA):List Yb:=(L.filter fun x=>decide (x.1=key)).map Prod.snd
def Yy (L:List Yh)(i:Nat):Yh:=L.getD i (⟨#[]⟩,⟨0,0,0,0,⟨#[]⟩⟩)
theorem Q0 {L:List Yh}(B:i<L.length):L[i]?=aa (Yy L i):=by
 unfold Yy;rw[ac,ab B];rfl
theorem oF (L:List Yh)(key:BA):(Xc L key).length<=L.length:=by
 unfold Xc;rw[bq];exact List.length_filter_le _ _
def ZJ (l:List BA)(s:BA):Nat:=l.findIdx fun x=>decide (x=s)
theorem DQ (B:i<l.length)(h:Yc l i=s)(H:∀j,j<i->Yc l j≠s):ZJ l s=i:=by
 unfold ZJ;rw[List.findIdx_eq B];refine⟨decide_eq_true (by rw[<-Xk l i B];exact h),fun j D=>decide_eq_false ?_⟩;rw[<-Xk l j (by omega)];exact H j D
def Xr (c:Nat):Bool:=decide (97<=c/\c<=122)||decide (48<=c/\c<=57)||decide (c=45)
def Jo (s:BA):Bool:=decide (1<=s.size/\s.size<=16)&&(Zj s).all Xr
theorem QF (h:Jo s=aq):1<=s.size/\s.size<=16:=by
 unfold Jo at h;rw[Bool.and_eq_true]at h;exact of_decide_eq_true h.1
theorem CT (h:¬(1<=s.size/\s.size<=16)):Jo s=false:=by
 unfold Jo;rw[decide_eq_false h,Bool.false_and]
def Xu (l:List BA)(x:BA):Bool:=l.any fun y=>decide (y=x)
theorem Zl :Xu l x=aq↔x∈l:=by
 unfold Xu;rw[bh];exact⟨fun⟨y,B,e⟩=>by rw[<-of_decide_eq_true e];exact B,fun h=>⟨x,h,decide_eq_true rfl⟩⟩
def Yu (l:List BA)(i:Nat):Nat:=if Jo (Yc l i)then(if Xu (l.take i) (Yc l i)then 6 else 0)else 4
theorem Jj1 (h:Jo (Yc l i)=a1):Yu l i=4:=by
 unfold Yu;rw[h,if_neg (by decide)]
theorem TL (h:Jo (Yc l i)=aq)(B:Yc l i∈l.take i):Yu l i=6:=by
 unfold Yu;rw[if_pos h,if_pos (Zl.2 B)]
theorem ET (h:Jo (Yc l i)=aq)(D:Yc l i∉l.take i):Yu l i=0:=by
 unfold Yu;rw[if_pos h,if_neg (fun B=>D (Zl.1 B))]
def XO (l:List BA):Nat->Nat->Int×Int
 |_,0=>(0,-1)
 |i,m+1=>if Yu l i=0 then XO l (i+1) m else((Yu l i:Nat),(i:Nat))
def Xj (l:List BA):Int×Int:=if l.length<1∨16<l.length then(2,-1)else XO l 0 l.length
theorem E7 (h:l.length<1∨16<l.length):Xj l=(2,-1):=if_pos h
theorem AB (B:¬l.length<1)(D:¬16<l.length):Xj l=XO l 0 l.length:=if_neg (by omega)
theorem GC {l:List BA}:∀(m i:Nat),XO l i m=(0,-1)->∀j,i<=j->j<i+m->Yu l j=0
 |0,i,_,j,h1,h2=>by omega
 |m+1,i,h,j,h1,h2=>by
  have B:(if Yu l i=0 then XO l (i+1) m else(((Yu l i:Nat):Int),(i:Int)))=(0,-1):=h;by_cases e:Yu l i=0
  ·rw[if_pos e]at B;by_cases D:j=i
   ·rw[D];exact e
   ·exact GC m (i+1) B j (by omega) (by omega)
  ·rw[if_neg e]at B;have H:=congrArg Prod.fst B;have I:=H;omega
theorem EG {l:List BA}:∀(m i:Nat),(XO l i m).1<=0->XO l i m=(0,-1)
 |0,_,_=>rfl
 |m+1,i,h=>by
  show(if Yu l i=0 then XO l (i+1) m else(((Yu l i:Nat):Int),(i:Int)))=(0,-1);have B:(if Yu l i=0 then XO l (i+1) m else(((Yu l i:Nat):Int),(i:Int))).1<=0:=h;by_cases e:Yu l i=0
  ·rw[if_pos e]at B ⊢;exact EG m (i+1) B
  ·rw[if_neg e]at B;have D:=B;omega
theorem QV (h:(Xj l).1<=0):Xj l=(0,-1)/\1<=l.length/\l.length<=16:=by
 by_cases B:l.length<1∨16<l.length
 ·rw[E7 B]at h;exact absurd h (by decide)
 ·have D:Xj l=XO l 0 l.length:=if_neg B;rw[D]at h ⊢;exact⟨EG _ _ h,by omega,by omega⟩
theorem YP (h:(Xj l).1<=0):(∀x∈l,Jo x=aq)/\l.Nodup:=by
 obtain⟨D,K,O⟩:=QV h;rw[AB (by omega) (by omega)]at D;have H:=GC l.length 0 D;have key:∀j,j<l.length->Jo (Yc l j)=aq/\Yc l j∉l.take j:=fun j B=>by
  have:=H j (bm _) (by omega);unfold Yu at this;by_cases e:Jo (Yc l j)=aq
  ·rw[if_pos e]at this;refine⟨e,fun I=>?_⟩;rw[if_pos (Zl.2 I)]at this;omega
  ·rw[if_neg e]at this;omega
 refine⟨fun x J=>?_,?_⟩
 ·obtain⟨j,B,rfl⟩:=tF J;exact(key j B).1
 ·rw[az,aB];intro i j U B Z e;refine(key j B).2 ?_;rw[Xk l j B,<-e,aC];exact⟨i,by omega,rfl⟩
def Jm (l:List BA)(n:Int):Int×Int:=if 0<(Xj l).1 then Xj l else if(l.length:Int)<n then(8,-1)else if n<0 then(2,-1)else Xj l
theorem sK {n:Int}(h:¬0<(Jm l n).1):(Xj l).1<=0/\0<=n/\n<=l.length/\Jm l n=(0,-1):=by
 unfold Jm at h ⊢;by_cases B:0<(Xj l).1
 ·rw[if_pos B]at h;exact absurd B h
 rw[if_neg B]at h ⊢;by_cases D:(l.length:Int)<n
 ·rw[if_pos D]at h;exact absurd (by decide) h
 rw[if_neg D]at h ⊢;by_cases H:n<0
 ·rw[if_pos H]at h;exact absurd (by decide) h
 rw[if_neg H]at h ⊢;exact⟨by omega,by omega,by omega,(QV (by omega)).1⟩
theorem KR {l:List BA}:∀(m i:Nat),(∀j,i<=j->j<i+m->Yu l j=0)->XO l i m=(0,-1)
 |0,_,_=>rfl
 |m+1,i,h=>by
  show(if Yu l i=0 then XO l (i+1) m else(((Yu l i:Nat):Int),(i:Int)))=(0,-1);rw[if_pos (h i nR (by omega))];exact KR m (i+1) (fun j B D=>h j (by omega) (by omega))
theorem UY (O:1<=l.length)(U:l.length<=16)(H:∀x∈l,Jo x=aq)(I:l.Nodup):Xj l=(0,-1):=by
 rw[AB (by omega) (by omega)];refine KR _ _ fun j _ J=>ET (H _ (oQ (by omega))) fun D=>?_
 obtain⟨i,K,e⟩:=aC.1 D;have B:j<l.length:=by omega
 rw[Xk l j B]at e;have:=(az.1 I);rw[aB]at this;exact this i j (by omega) B (by omega) e
def Qd (a b:Int×Int):Bool:=decide (a.1<b.1)||(decide (a.1=b.1)&&decide (a.2<b.2))
theorem qS:(prog.info? 216).map (fun i=>(i.zero,i.size,i.bytes))=aa (aa (.agg #[.int .i64 0,.int .i64 0,.int .i64 0,.int .i64 0,.string ⟨#[]⟩]),5,48):=by kernel_rfl
def Xd (L:List Yb)(i:Nat):Yb:=L.getD i ⟨0,0,0,0,⟨#[]⟩⟩
theorem Xx {L:List Yb}(B:i<L.length):L[i]?=aa (Xd L i):=by
 unfold Xd;rw[ac,ab B];rfl
theorem QU {w:World}{L:List Yb}(h:Ql Ze w p L)(H:i<L.length):∃b o,p=aa ⟨b,o,N⟩/\b<w.heap.size/\w.cell? ⟨b,o+i*5,N⟩=aa (.int .i64 (Xd L i).n)/\w.cell? ⟨b,o+i*5+1,N⟩=aa (.int .i64 (Xd L i).who)/\w.cell? ⟨b,o+i*5+2,N⟩=aa (.int .i64 (Xd L i).size)/\w.cell? ⟨b,o+i*5+3,N⟩=aa (.int .i64 (Xd L i).at_)/\w.cell? ⟨b,o+i*5+4,N⟩=aa (.string (Xd L i).text):=by
 rcases h with h|⟨b,o,I,J,B⟩
 ·rw[h]at H;exact absurd H (bo _)
 ·have D:=Xx H;exact⟨b,o,I,J,B i _ D 0 _ rfl,B i _ D 1 _ rfl,B i _ D 2 _ rfl,B i _ D 3 _ rfl,B i _ D 4 _ rfl⟩
def k9 (n who:Int):Bool:=decide (0<=n)&&decide (n<=1099511627776)&&decide (0<=who)&&decide (who<=1099511627776)
def Y7 (v:Yb):Bool:=k9 v.n v.who&&decide (0<=v.size/\v.size<=1000/\0<=v.at_/\v.at_<12/\v.text.size<=1000)
def Z5 (x:Yh)(key:BA)(v:Yb):Bool:=decide (x.1=key)&&decide (x.2.n=v.n)&&decide (x.2.who=v.who)
def Jx (L:List Yh)(key:BA)(v:Yb):Nat->Nat->Int
 |_,0=>if 60<=L.length then 7 else 0
 |i,m+1=>if Z5 (Yy L i) key v then(if(Yy L i).2=v then -1 else 6)else Jx L key v (i+1) m
def Ju (L:List Yh)(s:Bool)(key:BA)(v:Yb):Int:=if s then 10 else if Jo key then(if Y7 v then Jx L key v 0 L.length else 2)else 4
def j6 (L:List Yh):Nat->List BA
 |0=>[]
 |i+1=>if(j6 L i).length=0∨Yc (j6 L i) ((j6 L i).length-1)≠(Yy L i).1 then j6 L i++ [(Yy L i).1]else j6 L i
theorem KS (L:List Yh):∀i,(j6 L i).length<=i
 |0=>bm _
 |i+1=>by
  have ih:=KS L i;show(if _ then _ else _:List BA).length<=i+1;split
  ·rw[ak];show _+1<=_;omega
  ·omega
def Jz (x:Yh)(key:BA)(v:Yb):Bool:=Op.bytesLess x.1.toList key.toList||(decide (x.1=key)&&Qd (x.2.n,x.2.who) (v.n,v.who))
def QA (L:List Yh)(key:BA)(v:Yb):Nat:=L.findIdx fun x=>!Jz x key v
theorem yC (L:List Yh)(key:BA)(v:Yb):QA L key v<=L.length:=List.findIdx_le_length
def XK (L:List Yh)(key:BA)(v:Yb):List Yh:=L.take (QA L key v)++ [(key,v)]++L.drop (QA L key v)
theorem ON {L:List Yh}{v:Yb}(D:j<QA L key v):Jz (Yy L j) key v=true:=by
 have B:j<L.length:=ag D (yC L key v);have h:=List.not_of_lt_findIdx (p:=fun x=>!Jz x key v) (xs:=L) (i:=j) D;have e:L[j]=Yy L j:=by
  have:=Q0 B;rw[ab B]at this;exact av this
 rw[e]at h;simpa using h
theorem N8 {L:List Yh}{v:Yb}(B:QA L key v<L.length):Jz (Yy L (QA L key v)) key v=false:=by
 have h:=List.findIdx_getElem (p:=fun x=>!Jz x key v) (xs:=L) (w:=B);have e:L[QA L key v]=Yy L (QA L key v):=by
  have:=Q0 B;rw[ab B]at this;exact av this
 have D:(!Jz L[QA L key v] key v)=true:=h;rw[e]at D;simpa using D
def Qt (L:List Yh)(s:Bool)(key:BA)(v:Yb):Int×List Yh:=if Ju L s key v=0 then(0,XK L key v)else if Ju L s key v<0 then(0,L)else(Ju L s key v,L)
def oJ (ad:Nat->zb)(B:af)(c:Int):Prop:=(B=.nilIface/\c=0)∨∃i,i<12/\B=.iface 335 (.pointer (aa (ad i)))/\c=((i+1:Nat):Int)
structure Yd (S S':Nat->Prop) (w w':World):Prop where
 os:w'.os=w.os
 tape:w'.tape=w.tape
 output:w'.output=w.output
 size:w.heap.size<=w'.heap.size
 block:∀k,k<w.heap.size->¬S k->w'.heap[k]?=w.heap[k]?
 new:∀k,S' k->S k∨w.heap.size<=k
theorem Yd.aJ {S:Nat->Prop}{w w':World}(B:am w.heap.size w w'):Yd S S w w':=⟨B.os,B.tape,B.output,B.size,fun k D _=>B.block k D,fun _ h=>aj h⟩
def DN (v:Yb):Value:=.agg #[.int .i64 v.n,.int .i64 v.who,.int .i64 v.size,.int .i64 v.at_,.string v.text]
def Xv (x:BA):Lit:=.string x.data.toList
theorem rF {y:BA}(h:Xv x=Xv y):x=y:=by
 unfold Xv at h;injection h with h
 exact ByteArray.ext (bk.1 h)
theorem qR (x:BA):WideAt.IsKeyLit (Xv x):=trivial
theorem C5 (x:BA):(Xv x).sameKey (Xv x)=true:=WideAt.sameKey_self (qR x)
def iW (v:af):Option (zq af×List MemPlace):=aa (.held v,[])
theorem kE:Maps.Keyed prog 9:=Maps.string_keyed underlying9
theorem qP (B:x.size<=za):keyOf prog 9 (.string x)=aa (Xv x):=WideMaps.keyOf_string_mk underlying9 B
theorem vI {l:Lit}(h:keyOf prog 9 v=aa l):∃x:BA,v=.string x/\l=Xv x/\x.size<=maxLen:=by
 cases v<;>simp[keyOf,underlying9,mapKey]at h
 rename_i s;exact⟨s,rfl,h.2.symm,h.1⟩
abbrev QX (w:World)(b n:Nat)(D:zq af):Prop:=w.ownsMap prog 9 iW b n D
theorem QX.tight {w:World}{D:zq af}(h:QX w b n D):QX w b (Maps.size D) D:=by
 obtain⟨B,H,I,F,J,rfl⟩:=h;refine⟨B,H,I,F,?_,rfl⟩;rw[Maps.size_eq,length_sorted];simp
theorem QX.keys {w:World}{D:zq af}(h:QX w b n D):∃B,D=.map B/\B.Pairwise (fun p q=>p.1≠q.1)/\∀p∈B,∃x:BA,x.size<=za/\p.1=Xv x:=by
 have J:=World.ownsMap.tidy h kE;obtain⟨a0,a2,hb,F,hs,rfl⟩:=h;obtain⟨a3,H,K⟩:=J;injection H with H
 refine⟨_,rfl,by rw[H];exact K,fun p O=>?_⟩;obtain⟨x,U,rfl⟩:=List.mem_map.1 (mem_sorted.1 O);obtain⟨y,I⟩:=F.reads x U;obtain⟨z,h1,Z,h3⟩:=vI (WideElems.rd_key I);exact⟨z,h3,by rw[WideElems.rg_of I];exact Z⟩
theorem YS {α:Type}:∀{l m:List α},l.Nodup->(∀x∈l,x∈m)->l.length<=m.length
 | [],_,_,_=>bm _
 |a::l,m,hn,hs=>by
  classical
  obtain⟨H,I⟩:=List.nodup_cons.1 hn;have B:=hs a (by simp);have:=YS (l:=l) (m:=m.erase a) I (fun x D=>(List.mem_erase_of_ne (show x≠a from fun e=>H (e▸D))).2 (hs x (by simp[D])));rw[List.length_erase_of_mem B]at this;have:=List.length_pos_of_mem B;simp only[be];omega
theorem Zc.same {w w':World}{l:List Yb}(h:Zc Ze T w B v l)(Z:∀k,v.ownBlock=aa k->w'.heap[k]?=w.heap[k]?):Zc Ze T w' B v l:=by
 obtain⟨I,D⟩:=h;refine⟨I,?_⟩;rcases D with D|⟨g,cap,J,H,K,O,U⟩
 ·exact aj D
 ·refine al ⟨g,cap,J,H,K,?_,U⟩;rw[Z g (by rw[H];rfl)];exact O
theorem QX.same {w w':World}{D:zq af}(h:QX w b n D)(K:w'.heap[b]?=w.heap[b]?):QX w' b n D:=by
 obtain⟨B,H,I,J⟩:=h;exact⟨B,H,K.trans I,J⟩
theorem Qx {w w':World}(h:w'.heap[b]?=w.heap[b]?)(o:Nat):w'.cell? ⟨b,o,N⟩=w.cell? ⟨b,o,N⟩/\w'.frozen? ⟨b,o,N⟩=w.frozen? ⟨b,o,N⟩:=⟨World.cell?_of_block (a:=⟨b,o,N⟩) h,World.frozen?_of_block (a:=⟨b,o,N⟩) h⟩
structure jA (w w':World) (b:Nat) (D:zq af) (key:BA) (v:af):Prop where
 own:∃n,QX w' b n (D.put (Xv key) (.held v))
 grown:w.grownBy w' (aa b)
theorem zC {w W:World}{D:zq af}(J:QX w b n D)(hn:n<za)(I:key.size<=za)(B:am w.heap.size w W):
 ∃w',(Instr.mapUpdate 190 (.map (aa b)) (.string key) v).run prog W=.ok () w'/\jA w w' b D key v:=by
 have K:b<w.heap.size:=World.ownsMap.lt J;have O:QX W b n D:=J.same (B.block b K);obtain⟨w',U,Z,H⟩:=World.ownsMap.update O kE underlying190 hn (val:=v) (d:=.held v) (ps:=[]) (qP I) rfl;refine⟨w',U,⟨_,Z⟩,⟨H.os.trans B.os,H.tape.trans B.tape,H.output.trans B.output,bO B.size H.size,fun k I a0=>?_⟩⟩;rw[H.block k (ag I B.size) a0];exact B.block k I
theorem FI (b:Nat)(W:World):Sem.run prog (binOp .eql 190 (.map (aa b)) (.map N)) W=.ok (.bool a1) W:=by kernel_rfl
theorem AD (W:World):Sem.run prog (binOp .eql 190 (.map N) (.map N)) W=.ok (.bool aq) W:=by kernel_rfl
theorem xB {w W:World}(h:am B w.drew W):am B w W:=⟨h.os,h.tape,h.output,h.size,h.block⟩
structure Zb where
 from_:BA
 aP:BA
 kind:BA
 key:BA
 op:Int
 config:Int
 shut:Bool
 L:List Yb
def Z1 (m:Zb)(B:af):Value:=.agg #[.string m.from_,.string m.aP,.string m.kind,.string m.key,.int .i64 m.op,.int .i64 m.config,.bool m.shut,B]
section
section
variable {P:cd} {w:World}
theorem yO (base:Nat)(t I e:ar)(i:bC)(z:af)(size ah:Nat)(K:P.underlying t=aa (.slice e))(O:P.info? e=aa i)(hz:i.zero=aa z)
 (a7:i.size=size) (a8:i.bytes=ah) (v:af) (n:Nat) (xs:List af) (U:w.ownsRow base e size v n xs)
 (a:zb) (m c:Nat) (B:List af) (J:B.length=m*size) (Z:∀j u,B[j]?=aa u->w.cell? (a.add j)=aa u) (h1:∀u∈B,u.oneCell'=aq)
 (a9:n+m<=za) (a3:(n+m)*ah<=140737488355328) (hm:0<m) {w':World}
 (D:(ai #[t,t] I #[v,.slice (aa a) m c]).run P w=.ok v' w'):v'.ownBlock=v.ownBlock∨v'.ownBlock=aa w.heap.size:=by
 subst a7;subst a8;have b0:n+m<=9223372036854775807:=by simp only[za]at a9;omega
 rcases U.2 with⟨rfl,rfl⟩|⟨g,cap,a0,rfl,b1,hg,b2,b3,a4,b4⟩
 ·have:=bA (P:=P) w t I e i z K O hz a m c B J Z (by omega) (by omega) (by have hb:=a3;simp only[ba]at hb;omega);rw[this]at D;injection D with H e2
  subst H;exact al rfl
 ·by_cases a2:n+m<=cap
  ·have a5:n*i.size+B.length<=a0.size:=by rw[J,a4,<-au];exact aR _ a2
   have:=aN (P:=P) w t I e i K O g n cap a0 hg a m c B J Z h1 a2 a5;rw[this]at D;injection D with H e2
   subst H;exact aj rfl
  ·have a6:∀j u,xs[j]?=aa u->w.cell? ((⟨g,0,N⟩:zb).add j)=aa u:=U.cells (g:=g) rfl;have:=bs (P:=P) w t I e i z K O hz ⟨g,0,N⟩ n cap xs U.1 a6 a m c B J Z (by omega) (by omega) (bB (by omega) a3);rw[this]at D;injection D with H e2
   subst H;exact al rfl
theorem EW {o:cX}{Q:Exit->Act->World->Prop}(a5:o.guard=N)(s x:ce)(t:ar)
 (ho:o.op=.call {callee:=.builtin .append,args:=#[s,x],argTypes:=#[t,t]})
 (base:Nat) (e:ar) (i:bC) (z:af) (size ah:Nat) (I:P.underlying t=aa (.slice e)) (J:P.info? e=aa i) (O:i.zero=aa z)
 (U:i.size=size) (Z:i.bytes=ah) (a6:z.cells.size=size) (a7:0<size)
 (v:af) (n:Nat) (xs:List af) (hs:a.eval s=v) (a0:w.ownsRow base e size v n xs)
 (ad:zb) (m c:Nat) (D:List af) (hx:a.eval x=.slice (aa ad) m c) (hl:D.length=m*size) (a2:∀j u,D[j]?=aa u->w.cell? (ad.add j)=aa u) (h1:∀u∈D,u.oneCell'=aq)
 (a3:n+m<=za) (a4:(n+m)*ah<=140737488355328) (a8:base<=w.heap.size) (hm:0<m)
 (h:∀B w',w'.ownsRow base e size B (n+m) (xs++D)->w.grownBy w' v.ownBlock->(B.ownBlock=v.ownBlock∨B.ownBlock=aa w.heap.size)->aS P ops Q rest (a.put o.dst B) w'):aS P ops Q (o::rest) a w:=by
 refine wpList_plain a5 fun K hK=>?_
 obtain⟨B,w',H,h2,h3,h4⟩:=ze (P:=P) w base t o.type e i z size ah I J O U Z a6 a7 v n xs a0 ad m c D hl a2 h1 a3 a4 a8;have hw:=yO base t o.type e i z size ah I J O U Z v n xs a0 ad m c D hl a2 h1 a3 a4 hm H;unfold Oper.wp execOp;simp only[ho,resolve,invoke,builtin,Sem.run_bind,Sem.run_pure,Result.andThen_ok,bd,zm,zv,hs,hx,H];exact hK _ _ (h B w' h2 h3 hw)
end
end
theorem Joh (w:World)(o:Option Nat):w.grownBy w o:=⟨rfl,rfl,rfl,aE _,fun _ _ _=>rfl⟩
theorem vX {α:Type}{E:eW α}{w:World}(t T:ar)(z:af)(ah:Nat)(K:prog.underlying t=aa (.slice T))
 (b6:(prog.info? T).map (fun i=>(i.zero,i.size,i.bytes))=aa (aa z,E.k,ah)) (b7:z.cells.size=E.k)
 (B:Nat) (v:af) (l:List α) (O:Zc E T w B v l) (q:Option zb) (r:List α) (c:Nat) (hq:Ql E w q r) (b8:q=N->r=[]/\c=0) (hl:l.length+r.length<=za) (a6:(l.length+r.length)*ah<=140737488355328) (d0:B<=w.heap.size):
 ∃D w',(∀U,(ai #[t,t] U #[v,.slice q r.length c]).run prog w=.ok D w')/\Zc E T w' B D (l++r)/\w.grownBy w' v.ownBlock/\(D.ownBlock=v.ownBlock∨∃k,D.ownBlock=aa k/\w.heap.size<=k):=by
 obtain⟨Z,H,a3,a2,a4⟩:=info_parts b6;cases q with
 |none =>
  obtain⟨hr,hc⟩:=b8 rfl;subst hr hc;refine⟨v,w,fun U=>run_append_owned_none (P:=prog) (w:=w) B t U T Z E.k K H v l.length (Qb E l) O,by rw[br];exact O,Joh _ _,aj rfl⟩
 |some ad =>
  have hn:∀j u,(Qb E r)[j]?=aa u->w.cell? (ad.add j)=aa u:=by
   rcases hq with h0|⟨b,o',hp,_,a7⟩
   ·subst h0;intro j u I;simp[Qb]at I
   ·obtain rfl:ad=⟨b,o',N⟩:=by simpa using hp
    exact Ql.cells a7
  obtain⟨D,w',a0,h2,h3,_⟩:=ze (P:=prog) w B t 0 T Z z E.k ah K H a3 a2 a4 b7 E.pos v l.length (Qb E l) O ad r.length c (Qb E r) (Qr E r) hn (Zz E r) hl a6 d0;refine⟨D,w',fun U=>a0,?_,h3,?_⟩
  ·unfold Zc;rw[Qj,ak];exact h2
  ·by_cases hm:0<r.length
   ·rcases yO (P:=prog) B t 0 T Z z E.k ah K H a3 a2 a4 v l.length (Qb E l) O ad r.length c (Qb E r) (Qr E r) hn (Zz E r) hl a6 hm a0 with h|h
    ·exact aj h
    ·exact al ⟨_,h,aE _⟩
   ·have a8:r=[]:=ao.1 (by omega);subst a8;rcases O.2 with⟨rfl,hz⟩|⟨g,cap,a5,rfl,d1,a9,b0,d2,b1,d3⟩
    ·rcases h2.2 with⟨h4,_⟩|⟨g,cap,a5,h4,h5,h6,h7,h8,h9,d4⟩
     ·rw[h4];exact aj rfl
     ·rw[h4];refine al ⟨g,rfl,?_⟩;rcases aI g w.heap.size with d5|b2
      ·exfalso;have b3:(ai #[t,t] 0 #[.slice N 0 0,.slice (aa ad) 0 c]).run prog w=.ok (.slice N 0 0) w:=by
        have b4:(loadCells ad 0).run prog w=.ok #[] w:=run_loadCells_list (P:=prog) w ad [] (fun j u I=>by simp at I);simp[ai,run_underlying K,sizeOf,typeInfo,H,Builtin.lenOf,Builtin.firstCells,b4,Result.andThen]
       have J:(ai #[t,t] 0 #[.slice N 0 0,.slice (aa ad) 0 c]).run prog w=.ok D w':=a0;rw[b3]at J;injection J with e1 _
       rw[h4]at e1;cases e1
      ·exact b2
    ·have b5:=aN (P:=prog) w t 0 T Z K H g l.length cap a5 a9 ad 0 c [] (by simp) (fun j u I=>by simp at I) (fun u hu=>by simp at hu) (by omega) (by rw[a2,b1];show l.length*E.k+0<=_;exact aR _ b0);have J:(ai #[t,t] 0 #[.slice (aa ⟨g,0,N⟩) l.length cap,.slice (aa ad) 0 c]).run prog w=.ok D w':=a0;rw[b5]at J;injection J with e1 _
     rw[<-e1];exact aj rfl
def Jk (k size:Nat):Nat:=(size+(k-1))/k
theorem RS (B:1<=k)(h:i*k<size):i<Jk k size:=by
 unfold Jk;rw[Nat.lt_iff_add_one_le,Nat.le_div_iff_mul_le (by omega),au];omega
theorem Jra (B:1<=k)(h:¬i*k<size):Jk k size<=i:=by
 unfold Jk;rw[<-Nat.lt_add_one_iff,aO (by omega),au];omega
theorem xR (B:1<=k):Jk k size<=size:=Jra B (by
 have:size*1<=size*k:=Nat.mul_le_mul_left size B;omega)
def YO (n k:Nat)(v:Yb):Bool:=k9 v.n v.who&&decide (0<=v.size/\v.size<=1000/\0<=v.at_/\v.at_<n/\v.text.size=Jk k v.size.toNat)
def Ji (l:List (Int×BA))(i:Nat):Int×BA:=l.getD i (0,⟨#[]⟩)
def fE (w:World)(p:Option zb)(l:List (Int×BA)):Prop :=
 l=[]∨∃b o,p=aa ⟨b,o,N⟩/\b<w.heap.size/\∀i,i<l.length->w.cell? ⟨b,o+i*2,N⟩=aa (.int .i64 (Ji l i).1)/\w.cell? ⟨b,o+i*2+1,N⟩=aa (.string (Ji l i).2)
theorem fE.below {w w':World}{l:List (Int×BA)}(h:fE w p l)(D:am w.heap.size w w'):fE w' p l:=by
 rcases h with h|⟨b,o,J,B,H⟩
 ·exact aj h
 ·exact al ⟨b,o,J,ag B D.size,fun i I=>⟨(D.cell (p:=⟨b,o+i*2,N⟩) B).trans (H i I).1,(D.cell (p:=⟨b,o+i*2+1,N⟩) B).trans (H i I).2⟩⟩
def tK (w:World)(H:FuncId)(I:Array af)(l:List (Int×BA))(P:Int×BA->Bool):Prop :=
 ∀i,i<l.length->∀B,am w.heap.size w B->z1 prog H (#[.agg #[.int .i64 (Ji l i).1,.string (Ji l i).2]]++I) B fun e D=>e=.returned (.bool (P (Ji l i)))/\am B.heap.size B D
theorem sE {l:List (Int×BA)}(h:i<l.length):Ji l i∈l:=by
 unfold Ji;rw[ac,ab h];exact bf h
theorem XG {l:List (Int×BA)}{x:Int×BA}(h:x∈l):∃i,i<l.length/\Ji l i=x:=by
 obtain⟨i,B,rfl⟩:=aw h;refine⟨i,B,?_⟩;unfold Ji;rw[ac,ab B];rfl
theorem Jpm {l:List (Int×BA)}(h:i<l.length)(B:P (Ji l i)=aq):l.any P=true:=bh.2 ⟨_,sE h,B⟩
theorem Jnt {l:List (Int×BA)}(h:∀i,i<l.length->P (Ji l i)=a1):l.any P=false:=by
 rw[List.any_eq_false];intro x B;obtain⟨i,D,rfl⟩:=XG B;rw[h i D];decide
theorem Jpn (p:Option zb)(l:List (Int×BA))(cap:Nat)(K:FuncId)(a6:Array af)(P:Int×BA->Bool)(w:World)(hl:l.length<=100000)(hs:fE w p l)
 (a9:∀args W,Sem.run prog (callFunc K args) W=.ok (.enter K args) W) (hc:tK w K a6 l P):
 z1 prog 217 #[.slice p l.length cap,.func (.func K) #[] a6] w fun e w'=>(∃r:Int,e=.returned (.int .i64 r)/\(0<=r/\l.any P=aq∨r=-1/\l.any P=a1))/\am w.heap.size w w':=by
 have HS:Hid (fE w p l):=hs;have HC:Hid _:=hc;clear hs hc;go_enter func217,ntmps217;go_wp2;go_loopw [8] (fun x wr=>∃i:Nat,i<=l.length/\x=.int .i64 i/\(∀j,j<i->P (Ji l j)=a1)/\am w.heap.size w wr) (fun x _=>l.length-(intOf x).toNat)
 case atStart=>exact⟨0,by omega,rfl,fun j O=>absurd O (bo _),Below.refl _ _⟩
 case round =>
  obtain⟨i,hi,rfl,a2,hB⟩:=hrel;have a3:Hid _:=a2;have D:Hid _:=hB;clear a2 hB;by_cases H:i<l.length
  ·rcases(HS.out.below D.out)with h0|⟨b1,o1,rfl,_,a4⟩
   ·rw[h0]at H;simp at H
   obtain⟨U,Z⟩:=a4 i H;have B:=HC.out i H wr D.out;clear a4;have a5:Hid (∀v,P (Ji l i)=v->v=P (Ji l i)):=fun v h=>h.symm
   by_cases I:P (Ji l i)=aq
   ·have HA:Hid (l.any P=aq):=Jpm H I;rw[I]at B;clear I a5;generalize (Ji l i).1=x at U B;generalize (Ji l i).2=t at Z B;go_wp2_with fail
    refine B.mono ?_;rintro e w2 ⟨rfl,J⟩;clear B;go_wp2;go_ret;exact⟨⟨(i:Int),rfl,aj ⟨by omega,HA.out⟩⟩,D.out.trans (J.mono D.out.size)⟩
   ·have a0:P (Ji l i)=false:=by simpa using I
    have a7:Hid _:=a0;rw[a0]at B;clear I a0 a5;generalize (Ji l i).1=x at U B;generalize (Ji l i).2=t at Z B;go_wp2_with fail
    refine B.mono ?_;rintro e w2 ⟨rfl,J⟩;have a8:Hid _:=D.out.trans (J.mono D.out.size);clear B J U Z;go_wp2;go_roundw
    case rel =>
     refine⟨i+1,by omega,by go_num,fun j O=>?_,a8.out⟩;by_cases e:j=i
     ·rw[e];exact a7.out
     ·exact a3.out j (by omega)
    case measure=>simp[intOf];omega
  ·have HN:Hid (l.any P=a1):=Jnt fun j O=>a3.out j (by omega)
   go_wp2;go_ret;exact⟨⟨-1,rfl,al ⟨rfl,HN.out⟩⟩,D.out⟩
theorem JaA (p:Option zb)(l:List (Int×BA))(cap:Nat)(D:FuncId)(J:Array af)(P:Int×BA->Bool)(w:World)(hl:l.length<=100000)(U:fE w p l)
 (Z:∀args W,Sem.run prog (callFunc D args) W=.ok (.enter D args) W) (hc:tK w D J l P):
 z1 prog 205 #[.slice p l.length cap,.func (.func D) #[] J] w fun e w'=>e=.returned (.bool (l.any P))/\am w.heap.size w w':=by
 have K:=Jpn p l cap D J P w hl U Z hc;clear U hc Z;go_enter func205,ntmps205;go_wp2_with fail
 refine K.mono ?_;rintro e w1 ⟨⟨r,rfl,H⟩,O⟩;clear K;rcases H with⟨H,B⟩|⟨H,B⟩
 ·have I:Hid (l.any P=aq):=B;clear B;go_wp2;go_ret;exact⟨sB (by rw[I.out]),O⟩
 ·have I:Hid (l.any P=a1):=B;subst H;clear B;go_wp2;go_ret;exact⟨sB (by rw[I.out]),O⟩
structure jU (w:World) (p:Option zb) (l:List Nat):Prop where
 lt:Gf.Bytes l
 cells:l=[]∨∃b o,p=aa ⟨b,o,N⟩/\b<w.heap.size/\∀i,i<l.length->w.cell? ⟨b,o+i,N⟩=aa (.int .u8 ((Gf.nth l i:Nat):Int))
theorem jU.below {w w':World}{l:List Nat}(h:jU w p l)(D:am w.heap.size w w'):jU w' p l:=by
 refine⟨h.lt,?_⟩;rcases h.cells with h|⟨b,o,H,B,I⟩
 ·exact aj h
 ·exact al ⟨b,o,H,ag B D.size,fun i J=>(D.cell (p:=⟨b,o+i,N⟩) B).trans (I i J)⟩
section
def ZM (n:Nat):Value:=.int .u8 (n:Int)
theorem JO (w:World)(n:Nat)(row:Option Nat):w.grownBy (w.drewN n) row:=⟨rfl,rfl,rfl,aE _,fun _ _ _=>rfl⟩
section
variable {P:cd} {w:World}
end
end
section
def JM (w:World)(B:Nat)(e:ar)(v:af)(D:List af):Prop:=w.ownsRow B e 1 v D.length D
theorem JM.nil (w:World)(B:Nat)(e:ar):JM w B e (.slice N 0 0) []:=bb w B e 1
theorem JM.kept {w w':World}{l:List af}{row:Option Nat}(h:JM w B e v l)(D:w.grownBy w' row)(H:v.ownBlock=N∨v.ownBlock≠row):JM w' B e v l:=zi h D H
theorem JM.block {w:World}{l:List af}(h:JM w B e v l)(D:v.ownBlock=aa k):B<=k/\k<w.heap.size:=bi h k D
theorem JM.cells {w:World}{l:List af}(h:JM w B e v l):v=.slice N 0 0/\l=[]∨∃g cap,v=.slice (aa ⟨g,0,N⟩) l.length cap/\B<=g/\g<w.heap.size/\∀i u,l[i]?=aa u->w.cell? ⟨g,i,N⟩=aa u:=by
 rcases h.2 with⟨rfl,H⟩|⟨g,cap,O,rfl,I,J,U,Z,a0,a2⟩
 ·exact aj ⟨rfl,ao.1 H⟩
 ·refine al ⟨g,cap,rfl,I,(aA.1 J).1,fun i u K=>?_⟩;have D:=ax (g:=g) h rfl i u K;rw[aM,ba]at D;exact D
section
variable {P:cd} {w:World}
theorem Jgr (B:Nat)(t J e:ar)(i:bC)(z:af)(ah:Nat)(U:P.underlying t=aa (.slice e))(Z:P.info? e=aa i)(hz:i.zero=aa z)(I:i.size=1)(a3:i.bytes=ah)(a6:ah<=64)
 (v:af) (l:List af) (a0:JM w B e v l) (ad:zb) (c:Nat) (u:af) (hu:u.oneCell'=aq) (hb:w.cell? ad=aa u) (hl:l.length+1<=1000000) {w':World}
 (D:(ai #[t,t] J #[v,.slice (aa ad) 1 c]).run P w=.ok v' w'):v'.ownBlock=v.ownBlock∨v'.ownBlock=aa w.heap.size:=by
 have K:∀j x,[u][j]?=aa x->w.cell? (ad.add j)=aa x:=by
  intro j x O
  match j,O with
  |0,O =>
   obtain rfl:u=x:=by simpa using O
   simpa[Addr.add]using hb
 rcases a0.2 with⟨rfl,h0⟩|⟨g,cap,a4,rfl,a7,hg,a8,a9,a5,b0⟩
 ·have:=bA (P:=P) w t J e i z U Z hz ad 1 c [u] (by rw[I];rfl) K (by decide) (by decide) (by rw[a3];omega);rw[this]at D;injection D with H h2
  subst H;exact al rfl
 ·by_cases a2:l.length+1<=cap
  ·have:=aN (P:=P) w t J e i U Z g l.length cap a4 hg ad 1 c [u] (by rw[I];rfl) K (fun x hx=>by rw[an.1 hx];exact hu) a2 (by rw[I,a5];simpa using a2);rw[this]at D;injection D with H h2
   subst H;exact aj rfl
  ·have b1:(l.length+1)*ah<=1000000*64:=bw hl a6;have:=bs (P:=P) w t J e i z U Z hz ⟨g,0,N⟩ l.length cap l (by rw[I];exact a0.1) (ax (g:=g) a0 rfl) ad 1 c [u] (by rw[I];rfl) K (by omega) (by omega) (bB (by omega) (by rw[a3];omega));rw[this]at D;injection D with H h2
   subst H;exact al rfl
theorem yL {o:cX}{Q:Exit->Act->World->Prop}(a6:o.guard=N)(s x:ce)(t:ar)
 (ho:o.op=.call {callee:=.builtin .append,args:=#[s,x],argTypes:=#[t,t]})
 (B:Nat) (e:ar) (i:bC) (z:af) (ah:Nat) (O:P.underlying t=aa (.slice e)) (U:P.info? e=aa i) (Z:i.zero=aa z) (a7:z.cells.size=1) (a0:i.size=1) (a2:i.bytes=ah) (a3:ah<=64)
 (v:af) (l:List af) (hs:a.eval s=v) (a4:JM w B e v l) (ad:zb) (c:Nat) (u:af) (hu:u.oneCell'=aq) (I:a.eval x=.slice (aa ad) 1 c) (hb:w.cell? ad=aa u) (hl:l.length+1<=1000000) (a8:B<=w.heap.size)
 (h:∀D w',JM w' B e D (l++ [u])->w.grownBy w' v.ownBlock->(D.ownBlock=v.ownBlock∨D.ownBlock=aa w.heap.size)->aS P ops Q rest (a.put o.dst D) w'):aS P ops Q (o::rest) a w:=by
 have a5:∀j x,[u][j]?=aa x->w.cell? (ad.add j)=aa x:=by
  intro j x H
  match j,H with
  |0,H =>
   obtain rfl:u=x:=by simpa using H
   simpa[Addr.add]using hb
 have a9:(l.length+1)*ah<=1000000*64:=bw hl a3;refine wpList_plain a6 fun K hK=>?_
 obtain⟨D,w',J,h2,h3,_⟩:=ze (P:=P) w B t o.type e i z 1 ah O U Z a0 a2 a7 (by decide) v l.length l a4 ad 1 c [u] rfl a5 (fun x I=>by rw[an.1 I];exact hu) (by unfold za;omega) (by omega) a8;have h4:=Jgr B t o.type e i z ah O U Z a0 a2 a3 v l a4 ad c u hu hb hl J;have h5:JM w' B e D (l++ [u]):=by
  unfold JM;rw[ak];exact h2
 unfold Oper.wp execOp;simp only[ho,resolve,invoke,builtin,Sem.run_bind,Sem.run_pure,Result.andThen_ok,bd,zm,zv,hs,I,J];exact hK _ _ (h D w' h5 h3 h4)
end
end
end Go.Proofs.YtfgapcknnoeplaaGreatDoor

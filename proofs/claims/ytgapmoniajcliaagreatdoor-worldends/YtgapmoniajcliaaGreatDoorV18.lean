/- Texts laid together. -/
import Derived.Laws.Rows
import Derived.Test.YtgapmoniajcliaaGreatDoorV16
import Derived.Lib.LaidTab
import Derived.OpenShut
import Derived.ChangeOld
import Derived.Deep.SlicePairs
import Derived.Deep.Strs
import Derived.Lib.SmallJoins
import Derived.Laws.IdiomRangeMap
import Derived.Deep.Heap
import Derived.Lib.AtoiAll
import Derived.Lib.ItoaNum
import Derived.Lib.IndexMore
import Derived.Shelf.SlSortCmp.QuietGrown
set_option maxRecDepth 100000
set_option maxHeartbeats 8000000
open Option renaming some->aa,none->ab
open Go.RowKit renaming Below->ac
open List renaming getElem?_eq_getElem->ae,getElem_of_mem->ap,filter_cons_of_pos->au,filter_cons_of_neg->av,range->aA,getD_eq_getElem?_getD->aB,getElem?_eq_some_iff->aC,length_take->aI,length_eq_zero_iff->zc,findIdx_le_length->aN,getElem?_map->zi,getElem_mem->aY,any_eq_true->zk,mem_range->be,sum_cons->bk,map_cons->zl,mem_map->bp
open Go renaming Calls->af,cell_grown->ai,Value->aj,maxLen->am,DataW->zb,MemPlace->aW,bytes->bf,TypeId->br,laidMetH->bx,Addr->bA
open Bool renaming true->ag,false->F,and_eq_true->ay,eq_iff_iff->bd
open Option.some renaming inj->ah
open Go.World renaming cell?->ak,frozen?_setCell->ao,cell?_setCell_same->aq,cell?_setCell_other->aD,cell?_alloc_at->zf,frozen?->bm
open Nat renaming le_refl->al,lt_or_ge->az,zero_le->aF,le_succ->za,le_trans->zh,mod_eq_of_lt->zj,not_lt_zero->ba
open Go.RowKit.Below renaming refl->an
open Or renaming inl->ar,inr->aM
open Go.Deep renaming blk_setCell_other->aw
open Go.Addr renaming add_lit->ax
open Go.Maps renaming has->ze,size->bn,IsMap->zs
namespace Go.Proofs
open Go.Shelf
def Tryz.laysCloneM_ren:Go.Shelf.Ren:=⟨fun | 41=>48 | n=>n,fun | 22=>46 | 23=>90 | 4=>4 | n=>n,fun | n=>n⟩
theorem Tryz.laysCloneM:Go.Proofs.SlLaysE0.n41 Tryz.prog Tryz.laysCloneM_ren:={
 mixed:=by kernel_rfl
 f41:=⟨Tryz.f48.name,by decide,Tryz.func48.trans (congrArg aa (by kernel_rfl))⟩
 t4:=Tryz.underlying4
 a4:=Tryz.isAgg4
 z4:=Tryz.sizeOf4
 v4:=Tryz.zeroValue4
 t22:=Tryz.underlying46
 a22:=Tryz.isAgg46
 z22:=Tryz.sizeOf46
 v22:=Tryz.zeroValue46 }
open Go.RowKit in
theorem Tryz.slices_CloneM (i0:TypeInfo)(z:aj)(size bf:Nat)(hi:Tryz.prog.info? 90=aa i0)(hz0:i0.zero=aa z)(hz1:i0.size=size)(hz2:i0.bytes=bf)(hzs:z.cells.size=size)(hsz:0 < size)
 (z23:∀ w,(Go.sizeOf 90).run Tryz.prog w=.ok size w) (b off n c:Nat) (news:List aj) (w:World) (hl:news.length=n*size) (hn:n<=am) (hbig:n*bf<=140737488355328)
 (hc:∀ j u,news[j]?=aa u->w.cell? ⟨b,off+j,ab⟩=aa u) (h1:∀ u ∈ news,u.oneCell'=ag) :
 af Tryz.prog 48 #[.slice (aa ⟨b,off,ab⟩) n c] w fun e w'=>∃ v',e=.returned v'/\w'.ownsRow w.heap.size 90 size v' n news/\v'≠.slice ab 0 0/\ac w.heap.size w w':=AnyE.slices_Clone Tryz.laysCloneM i0 z size bf hi hz0 hz1 hz2 hzs hsz z23 b off n c news w hl hn hbig hc h1
end Go.Proofs
namespace Go.Proofs
open Go.Shelf
def Tryz.laysCloneE_ren:Go.Shelf.Ren:=⟨fun | 41=>24 | n=>n,fun | 22=>36 | 23=>41 | 4=>4 | n=>n,fun | n=>n⟩
theorem Tryz.laysCloneE:Go.Proofs.SlLaysE0.n41 Tryz.prog Tryz.laysCloneE_ren:={
 mixed:=by kernel_rfl
 f41:=⟨Tryz.f24.name,by decide,Tryz.func24.trans (congrArg aa (by kernel_rfl))⟩
 t4:=Tryz.underlying4
 a4:=Tryz.isAgg4
 z4:=Tryz.sizeOf4
 v4:=Tryz.zeroValue4
 t22:=Tryz.underlying36
 a22:=Tryz.isAgg36
 z22:=Tryz.sizeOf36
 v22:=Tryz.zeroValue36 }
open Go.RowKit in
theorem Tryz.slices_CloneE (i0:TypeInfo)(z:aj)(size bf:Nat)(hi:Tryz.prog.info? 41=aa i0)(hz0:i0.zero=aa z)(hz1:i0.size=size)(hz2:i0.bytes=bf)(hzs:z.cells.size=size)(hsz:0 < size)
 (z23:∀ w,(Go.sizeOf 41).run Tryz.prog w=.ok size w) (b off n c:Nat) (news:List aj) (w:World) (hl:news.length=n*size) (hn:n<=am) (hbig:n*bf<=140737488355328)
 (hc:∀ j u,news[j]?=aa u->w.cell? ⟨b,off+j,ab⟩=aa u) (h1:∀ u ∈ news,u.oneCell'=ag) :
 af Tryz.prog 24 #[.slice (aa ⟨b,off,ab⟩) n c] w fun e w'=>∃ v',e=.returned v'/\w'.ownsRow w.heap.size 41 size v' n news/\v'≠.slice ab 0 0/\ac w.heap.size w w':=AnyE.slices_Clone Tryz.laysCloneE i0 z size bf hi hz0 hz1 hz2 hzs hsz z23 b off n c news w hl hn hbig hc h1
end Go.Proofs
namespace Go.Proofs.YtgapmoniajcliaaGreatDoor
open Go.RowKit
variable {W w:World}{H:Type}{fuel i B b k:Nat}{v v':aj}{a key x:BA}{l:List Yb}{T:br}{left:Lit->Bool}{t:Int×Int}{ad:Nat->bA}
section
open Go.ChangeShapes Go.WideShapes Go.RowKit
def LW:List (String×List UInt8):=(Rows.worldEndsRow.laid.drop 3).map fun x=>(x.1,match x.2 with| .iface _ (.ptr (.agg [.lit (.string t)]))=>t|_=>[])
theorem A2 (W:World):bx Tryz.prog Rows.worldEndsRow.laid W=laidMet Tryz.prog (Rows.worldEndsRow.laid.take 3++LW.map fun x=>(x.1,GZ x.2)) W:=by kernel_rfl
theorem JrV:(LW.all fun x=>match Tryz.prog.globalNamed x.1 with|some g=>(Tryz.prog.globals[g]?).map (·.type)==aa 28|none=>F)=true:=by kernel_rfl
theorem gW:LW.map (fun x=>Tryz.prog.globalNamed x.1)=[aa 0,aa 6,aa 5,aa 4,aa 3,aa 2,aa 7,aa 8,aa 1,aa 9]:=by kernel_rfl
theorem TU:Rows.worldEndsRow.laid.take 3=Rows.worldEndsRow.laid.take 2++ [("internal/strconv.uint64pow10",Lib.tabData .u64 Lib.pow10Tab)]:=by kernel_rfl
theorem JtM (h:bx Tryz.prog Rows.worldEndsRow.laid W):Lib.TabIs Tryz.prog W "internal/strconv.uint64pow10" .u64 Lib.pow10Tab:=by
 rw[A2]at h;rw[TU]at h;have e:∃B D,Rows.worldEndsRow.laid.take 2=[B,D]:=⟨_,_,rfl⟩;obtain⟨B,D,e⟩:=e;rw[e]at h;simp only[List.cons_append,List.nil_append]at h;exact Lib.tabIs_of_head (g:=10) (t:=266) (e:=241) (n:=20) (by kernel_rfl) (by kernel_rfl) Tryz.underlying266 Tryz.underlying241 (by kernel_rfl) (by kernel_rfl) h.tail.tail
theorem JkN (Z:bx Tryz.prog Rows.worldEndsRow.laid W):∃ad,iZ ad W:=by
 have a0:=JtM Z;have h:=Z;rw[A2]at h;obtain⟨a9,a2,a3,a4⟩:=h;obtain⟨pp,ps,rfl,hl⟩:=AY _ _ _ a2;have a5:ps.Nodup:=List.Nodup.sublist (List.sublist_append_right _ _) a3;have K:=fun b O (hm:MemPlace.cell b O∈ps)=>a4 b O (List.mem_append_right _ hm)
 have hn:∀x∈LW,∃g,Tryz.prog.globalNamed x.1=aa g/\(Tryz.prog.globals[g]?).map (·.type)=aa 28:=by
  intro x D;have:=List.all_eq_true.1 JrV x D;split at this
  ·rename_i g hg;exact⟨g,hg,by simpa using this⟩
  ·cases this
 have a6:Tryz.prog.cellsOf 301=1:=by kernel_rfl
 have c9:Tryz.prog.cellsOf 9=1:=by kernel_rfl
 obtain⟨ad,U,h2⟩:=UX Tryz.underlying28 JtW Tryz.underlying287 Tryz.underlying301 rfl rfl Tryz.underlying9 a6 c9 LW ps hl hn K;have B:∀i g,(LW.map (fun x=>Tryz.prog.globalNamed x.1))[i]?=aa (aa g)->W.cell? ⟨g,0,ab⟩=aa (.iface 287 (.pointer (aa (ad i)))):=by
  intro i g D;rw[zi]at D;obtain⟨x,a7,a8⟩:=Option.map_eq_some_iff.1 D;simpa using World.var?_cell a8 (U i x a7).2 0
 rw[gW]at B;have len:LW.length=10:=rfl;have H:∀i,i<10->∃c t,W.heap[(ad i).block]?=aa (.cells c t (0,0)):=fun i J=>by
  obtain⟨x,D⟩:∃x,LW[i]?=aa x:=⟨LW[i]'(by rw[len];exact J),ae (by rw[len];exact J)⟩;exact(K _ _ (U i x D).1).1
 have I:∀i,i<10->i≠7->ad i≠ad 7:=fun i J h7=>h2 a5 i 7 (by rw[len];omega) (by rw[len];omega) h7
 refine⟨fun i=>match i with|1=>ad 0|2=>ad 1|3=>ad 2|4=>ad 3|5=>ad 4|6=>ad 5|7=>ad 6|9=>ad 7|10=>ad 8|_=>ad 9,⟨B 0 _ rfl,B 1 _ rfl,B 2 _ rfl,B 3 _ rfl,B 4 _ rfl⟩,⟨⟨ad 9,B 9 _ rfl⟩,a0⟩,⟨⟨B 0 _ rfl,B 2 _ rfl,B 4 _ rfl,B 5 _ rfl,B 7 _ rfl⟩,?_,?_⟩,B 6 _ rfl,B 8 _ rfl⟩
 ·rintro i (rfl|rfl|rfl|rfl|rfl)
  ·exact H 0 (by decide)
  ·exact H 2 (by decide)
  ·exact H 4 (by decide)
  ·exact H 5 (by decide)
  ·exact H 7 (by decide)
 ·rintro i (rfl|rfl|rfl|rfl)
  ·exact I 0 (by decide) (by decide)
  ·exact I 2 (by decide) (by decide)
  ·exact I 4 (by decide) (by decide)
  ·exact I 5 (by decide) (by decide)
end
section
open Go.ChangeShapes Go.WideShapes Go.ChangeAt Go.RowKit
theorem BE {enc:br×aj->H}{y:zb H×List aW}(h:DataW.trod enc Tryz.prog W 0 (fun _=>ag) ag fuel 22 [v]=aa y):∃p l cap,v=.slice p l.length cap/\IK W l p cap:=by
 rcases Deep.open_strs Tryz.underlying22 Tryz.underlying9 (by kernel_rfl) h with⟨J,_⟩|⟨a,B,a0,m,O,J,_,a2,a7,hm,hd,K⟩
 ·simp at J;subst J;exact⟨ab,[],0,rfl,⟨ar rfl,al _,fun _=>⟨rfl,rfl⟩,aF _,fun x K=>by cases K⟩⟩
 ·simp at J;subst J;have a8:B<=m:=by rw[hm];split<;>omega
  have D:((aA B).map O).length=B:=by simp
  have a3:∀i,i<B->Yc ((aA B).map O) i=O i:=fun i I=>by
   rw[Xk _ i (by rw[D];exact I)];simp
  refine⟨aa a,(aA B).map O,a0,by rw[D],⟨?_,by rw[D];exact a2,(fun e=>by cases e),by rw[D];omega,fun x a4=>?_⟩⟩
  ·by_cases h0:B=0
   ·exact ar (zc.1 (by rw[D];exact h0))
   ·have U:=(K 0 (by omega)).1;obtain⟨b,a5,sp⟩:=a;have a6:sp=none:=by
     cases sp with
     |none=>rfl
     |some q =>
      exfalso;simp[Addr.add,ak]at U
      revert U
      split<;>intro h9<;>cases h9
    subst a6;refine aM ⟨b,a5,rfl,?_,fun i I=>?_⟩
    ·rw[ax]at U;rcases az b W.heap.size with Z|Z
     ·exact Z
     ·simp[ak,Array.getElem?_eq_none Z]at U
    ·rw[D]at I;have:=(K i (by omega)).1;rw[ax]at this;rw[a3 i I];exact this
  ·obtain⟨i,I,rfl⟩:=bp.1 a4;exact(K i (by have:=be.1 I;omega)).2
theorem M5 {enc:br×aj->H}{base:Nat}{d:zb H}{ps:List aW}(D:Value.okWide Tryz.prog W .any base 22 v)(h:DataW.Trod enc Tryz.prog W 0 (fun _=>ag) ag 22 v d ps):∃p l cap,v=.slice p l.length cap/\IK W l p cap:=by
 obtain⟨I,J,K,rfl⟩:=okWide_slice Tryz.underlying22 D;obtain⟨fuel,B⟩:=h;exact BE B
end
structure Nm where
 l:List ByteArray
 p:Option bA
 c:Nat
def nmC (x:Nm):List Value:=[.slice x.p x.l.length x.c]
def nmE:eW Nm:=⟨1,by decide,nmC,fun _=>rfl,fun x u B=>by simp[nmC]at B;rw[B];rfl⟩
def JaO (W:World)(x:Nm):Prop:=Strs W x.p x.l/\x.l.length<=9223372036854775807/\(∀t∈x.l,t.size<=9223372036854775807)/\(x.p=ab->x.l=[]/\x.c=0)
def wS (L:List Nm)(i:Nat):Nm:=L.getD i ⟨[],ab,0⟩
theorem JbZ {L:List Nm}(h:i<L.length):wS L i∈L:=by
 unfold wS;rw[aB,ae h];exact aY h
theorem Jby {p:Option bA}{L:List Nm}(h:Ql nmE w p L)(B:i<L.length):∃b o,p=aa ⟨b,o,ab⟩/\w.cell? ⟨b,o+i,ab⟩=aa (.slice (wS L i).p (wS L i).l.length (wS L i).c):=by
 rcases h with h|⟨b,o,H,J,I⟩
 ·rw[h]at B;exact absurd B (ba _)
 ·have D:=I i _ (ae B) 0 _ rfl;rw[show nmE.k=1 from rfl,Nat.mul_one,Nat.add_zero]at D;have e:wS L i=L[i]:=by unfold wS;rw[aB,ae B];rfl
  rw[e];exact⟨b,o,H,D⟩
section
open Go.ChangeShapes Go.WideShapes Go.ChangeAt Go.RowKit
theorem JbE:Tryz.prog.cellsOf 22=1:=by kernel_rfl
theorem Jb7 {enc:br×aj->H}{D:List aj}{y:zb H×List aW}(h:DataW.trod enc Tryz.prog W 0 (fun _=>ag) ag fuel 22 D=aa y)(J:D.length=1):∃x:Nm,D=nmC x/\JaO W x:=by
 match D,J with
 | [v0],_ =>
  obtain⟨p,L,c,rfl,B⟩:=BE h;have K:am=9223372036854775807:=rfl;exact⟨⟨L,p,c⟩,rfl,B.strs,by show L.length<=_;have:=B.len;omega,fun t I=>by have:=B.size t I;omega,B.empty⟩
theorem Jb8 {enc:br×aj->H}{y:zb H×List aW}(h:DataW.trod enc Tryz.prog W 0 (fun _=>ag) ag fuel 23 [v]=aa y):
 ∃p L cap,v=.slice p L.length cap/\Ql nmE W p L/\(∀x∈L,JaO W x)/\L.length<=9223372036854775807:=by
 rcases Deep.open_slice Tryz.underlying23 h with⟨K,_⟩|⟨a,B,a2,m0,nn,D,Pl,K,_,b0,b1,hm,hy,Z⟩
 ·simp at K;subst K;exact⟨ab,[],0,rfl,ar rfl,(fun x Z=>by cases Z),aF _⟩
 ·simp at K;subst K;have b2:B<=m0:=by rw[hm];split<;>omega
  have b3:am=9223372036854775807:=rfl;have hv:∀i,∃x:Nm,i<B->(∀j u,(nmC x)[j]?=aa u->W.cell? ((a.add (i*1)).add j)=aa u)/\JaO W x:=fun i=>by
   by_cases I:i<B
   ·obtain⟨b4,h1,h2⟩:=Z i (by omega);rw[JbE]at h1;obtain⟨_,J,a3⟩:=World.cells?_some h1;obtain⟨x,a4,a5⟩:=Jb7 h2 J;refine⟨x,fun _=>⟨fun j u O=>?_,a5⟩⟩;have b5:j<1:=(aC.1 O).1;have:=a3 j (by omega);rw[this,a4];exact O
   ·exact⟨⟨[],ab,0⟩,fun h=>absurd h I⟩
  obtain⟨R,hR⟩:∃R:Nat->Nm,∀i,i<B->(∀j u,(nmC (R i))[j]?=aa u->W.cell? ((a.add (i*1)).add j)=aa u)/\JaO W (R i):=⟨fun i=>Classical.choose (hv i),fun i=>Classical.choose_spec (hv i)⟩;clear hv;have J:((aA B).map R).length=B:=by simp
  have a6:∀i,i<B->((aA B).map R)[i]?=aa (R i):=fun i I=>by
   rw[zi,List.getElem?_range I];rfl
  refine⟨aa a,(aA B).map R,a2,by rw[J],?_,fun x a7=>?_,by rw[J];omega⟩
  ·by_cases h0:B=0
   ·exact ar (zc.1 (by rw[J];exact h0))
   ·obtain⟨u0,U⟩:∃u,W.cell? ((a.add (0*1)).add 0)=aa u:=⟨_,(hR 0 (by omega)).1 0 _ rfl⟩;obtain⟨b,a8,sp⟩:=a;have a9:sp=none:=by
     cases sp with
     |none=>rfl
     |some q =>
      exfalso;simp[Addr.add,ak]at U
      revert U
      split<;>intro h9<;>cases h9
    subst a9;refine aM ⟨b,a8,rfl,?_,fun i x a0 j u O=>?_⟩
    ·rw[ax,ax]at U;rcases az b W.heap.size with h'|h'
     ·exact h'
     ·simp[ak,Array.getElem?_eq_none h']at U
    ·have I:i<B:=by have:=(aC.1 a0).1;rw[J]at this;exact this
     rw[a6 i I]at a0;have e:=ah a0;have hc:=(hR i I).1 j u (by rw[e];exact O);rw[ax,ax]at hc;exact hc
  ·obtain⟨i,I,rfl⟩:=bp.1 a7;exact(hR i (be.1 I)).2
end
def lV (s:BA):Nat->Nat
 |0=>2166136261
 |i+1=>(lV s i^^^Gf.nth (Zj s) i)*16777619%4294967296
theorem B2 (s:BA):∀i,lV s i<4294967296
 |0=>by show 2166136261<4294967296;decide
 |i+1=>Nat.mod_lt _ (by decide)
theorem WN (a b:Nat)(D:a<4294967296)(H:b<4294967296):bits .xor .u32 (a:Int) (b:Int)=((a^^^b:Nat):Int):=by
 have B:a^^^b<2^32:=Nat.xor_lt_two_pow (by omega) (by omega);show IntKind.u32.wrap ((BitVec.ofInt 32 (a:Int)^^^BitVec.ofInt 32 (b:Int)).toNat:Int)=_;rw[BitVec.toNat_xor,BitVec.ofInt_natCast,BitVec.ofInt_natCast,BitVec.toNat_ofNat,BitVec.toNat_ofNat,zj (by omega),zj (by omega)];show((a^^^b:Nat):Int)%4294967296=_;omega
theorem IH (s:BA)(w:World)(Z:s.size<=1000000):
 af Tryz.prog 76 #[.string s] w fun e w'=>e=.returned (.int .u32 ((lV s s.size:Nat):Int))/\w'=w:=by
 go_enter Tryz.func76,Tryz.ntmps76;go_wp2
 go_loop [3,7] (fun c x=>∃i:Nat,i<=s.size/\x=.int .i64 i/\c=.int .u32 ((lV s i:Nat):Int)) (fun _ x=>s.size-(intOf x).toNat)
 case atStart=>exact⟨0,aF _,rfl,rfl⟩
 case round =>
  obtain⟨i,J,rfl,rfl⟩:=hrel;have B:=B2 s i;by_cases D:i<s.size
  ·have K:=EP s i D;have O:=xK s i;have H:Hid (lV s (i+1)=(lV s i^^^Gf.nth (Zj s) i)*16777619%4294967296):=by show _=_;rfl
   generalize lV s i=c at *;generalize Gf.nth (Zj s) i=y at *;have U:bits .xor .u32 (c:Int) (y:Int)=((c^^^y:Nat):Int):=WN _ _ B (by omega);generalize c^^^y=q at *;go_wp2
   go_round
   case rel=>exact⟨i+1,by omega,by go_num,by rw[H.out];congr 1⟩
   case measure=>simp[intOf];omega
  ·have I:i=s.size:=by omega
   subst I;go_wp2;go_ret;exact⟨rfl,rfl⟩
theorem rI {l:List UInt8}(h:a≠⟨l.toArray⟩):¬a.toList=l:=fun e=>h (by
 rw[ByteArray.toList_eq]at e;exact ByteArray.ext (by rw[<-e]))
theorem XQ {l:List UInt8}(h:a≠⟨l.toArray⟩):(a.toList==l)=false:=by simpa using rI h
section
variable {h:Nat} {S:Nat->Prop} {L:List Yh} {s:Bool} {m:Option Nat} {D:zb aj} {row:BA->aj} {blk:BA->Nat}
theorem vG (B:QC w h S L s m D row blk):af Tryz.prog 136 #[.pointer (aa ⟨h,0,ab⟩)] w fun e w'=>e=.returned (.map m)/\w'=w:=by
 have H:=B.ptr;clear B;go_enter Tryz.func136,Tryz.ntmps136;go_wp2;go_ret;exact⟨rfl,rfl⟩
theorem I8 (B:QC w h S L s m D row blk)(key:BA)(K:key.size<=am):af Tryz.prog 111 #[.pointer (aa ⟨h,0,ab⟩),.string key] w fun e w'=>e=.returned (row key)/\w'=w:=by
 have O:=B.look K;have H:Hid (af Tryz.prog 136 #[.pointer (aa ⟨h,0,ab⟩)] w fun e w'=>e=.returned (.map m)/\w'=w):=vG B;clear B;generalize row key=r at *;go_enter Tryz.func111,Tryz.ntmps111;go_wp2_with fail
 refine H.out.mono ?_;rintro e J ⟨rfl,I⟩;rw[I];clear I J H;go_wp2;go_ret;exact⟨rfl,rfl⟩
theorem FD (B:QC w h S L s m D row blk):af Tryz.prog 85 #[.pointer (aa ⟨h,0,ab⟩)] w fun e w'=>e=.returned (.bool s)/\w'=w:=by
 have H:=B.shut;clear B;go_enter Tryz.func85,Tryz.ntmps85;go_wp2;go_ret;exact⟨rfl,rfl⟩
theorem F5 (v:Yb)(w:World)(ht:v.text.size<=1000000):af Tryz.prog 112 #[.agg #[.int .i64 v.n,.int .i64 v.who,.int .i64 v.size,.int .i64 v.at_,.string v.text]] w fun e w'=>e=.returned (.agg #[.int .i64 v.n,.int .i64 v.who,.int .i64 v.size,.int .i64 v.at_,.string v.text])/\ac w.heap.size w w':=by
 have HC:Hid (∀W,af Tryz.prog 19 #[.string v.text] W fun e w'=>e=.returned (.string v.text)/\ac W.heap.size W w'):=fun W=>Xs v.text W (by omega)
 obtain⟨n,who,size,at_,text⟩:=v;obtain⟨I,J⟩:=Xb ((w.alloc (.cells #[.int .i64 n,.int .i64 who,.int .i64 size,.int .i64 at_,.string text] 142)).alloc (.cells #[.int .i64 0,.int .i64 0,.int .i64 0,.int .i64 0,.string ⟨#[]⟩] 142));have a0:Hid _:=J;have U:Hid (ac w.heap.size w I):=by rw[J];exact(bR.alloc nR _).alloc (by simp) _
 have K:Hid (I.heap[w.heap.size]?=aa (.cells #[.int .i64 n,.int .i64 who,.int .i64 size,.int .i64 at_,.string text] 142 (0,0))/\I.heap[w.heap.size+1]?=aa (.cells #[.int .i64 0,.int .i64 0,.int .i64 0,.int .i64 0,.string ⟨#[]⟩] 142 (0,0))):=by
  rw[J];constructor
  ·rw[heap_alloc_old _ _ (by simp),heap_alloc_new]
  ·have e:w.heap.size+1=(w.alloc (.cells #[.int .i64 n,.int .i64 who,.int .i64 size,.int .i64 at_,.string text] 142)).heap.size:=by simp
   rw[e,heap_alloc_new]
 have a3:w.heap.size+1<I.heap.size:=by rw[J];simp
 have k4:I.cell? ⟨w.heap.size,4,ab⟩=aa (.string text):=by simp[ak,K.out.1]
 clear J ht;go_enter Tryz.func112,Tryz.ntmps112;go_wp2_with fail
 rw[<-a0.out];clear a0;refine(HC.out _).mono ?_;rintro e B ⟨rfl,O⟩;have a2:Hid _:=U.out.trans (O.mono U.out.size);have Z:=(O.block _ (by omega)).trans K.out.1;have H:=(O.block _ (by omega)).trans K.out.2;obtain⟨c0,c1,c2,c3,c4⟩:=zB Z;have f4:∀o,B.frozen? ⟨w.heap.size,o,ab⟩=false:=fun o=>by simp[bm,Z]
 have d0:B.cell? ⟨w.heap.size+1,0,ab⟩=aa (.int .i64 0):=by simp[ak,H]
 have d1:B.cell? ⟨w.heap.size+1,1,ab⟩=aa (.int .i64 0):=by simp[ak,H]
 have d2:B.cell? ⟨w.heap.size+1,2,ab⟩=aa (.int .i64 0):=by simp[ak,H]
 have d3:B.cell? ⟨w.heap.size+1,3,ab⟩=aa (.int .i64 0):=by simp[ak,H]
 have d4:B.cell? ⟨w.heap.size+1,4,ab⟩=aa (.string ⟨#[]⟩):=by simp[ak,H]
 have g4:∀o,B.frozen? ⟨w.heap.size+1,o,ab⟩=false:=fun o=>by simp[bm,H]
 clear O Z H K U HC;go_wp2;refine bodyPost_ret (v:=.agg #[.int .i64 n,.int .i64 who,.int .i64 size,.int .i64 at_,.string text]) (by simp[results,Tryz.results112,go_sem,d0,d1,d2,d3,d4]) rfl ⟨rfl,?_⟩;exact(((((a2.out.setCell (p:=⟨w.heap.size,4,ab⟩) nR _).setCell (p:=⟨w.heap.size+1,0,ab⟩) (za _) _).setCell (p:=⟨w.heap.size+1,1,ab⟩) (za _) _).setCell (p:=⟨w.heap.size+1,2,ab⟩) (za _) _).setCell (p:=⟨w.heap.size+1,3,ab⟩) (za _) _).setCell (p:=⟨w.heap.size+1,4,ab⟩) (za _) _
theorem JnY (v:Yb):Y7 v=(YM v.n v.who&&(decide (0<=v.size/\v.size<=1000)&&(decide (0<=v.at_/\v.at_<=11)&&decide (0<=(v.text.size:Int)/\(v.text.size:Int)<=1000)))):=by
 unfold Y7 k9 YM;rw[bd];simp only[ay,decide_eq_true_eq];omega
theorem TS (v:Yb)(w:World)(ht:v.text.size<=am):af Tryz.prog 113 #[.agg #[.int .i64 v.n,.int .i64 v.who,.int .i64 v.size,.int .i64 v.at_,.string v.text]] w fun e w'=>e=.returned (.bool (Y7 v))/\ac w.heap.size w w':=by
 rw[JnY];obtain⟨n,who,size,at_,text⟩:=v;simp only;have U:Hid (∀W,af Tryz.prog 104 #[.agg #[.int .i64 n,.int .i64 who]] W fun e w'=>e=.returned (.bool (YM n who))/\ac W.heap.size W w'):=fun W=>wI n who W
 have H3:Hid (∀W,af Tryz.prog 129 #[.int .i64 size,.int .i64 1000] W fun e w'=>e=.returned (.bool (decide (0<=size/\size<=1000)))/\w'=W):=fun W=>qG size _ W
 have H4:Hid (∀W,af Tryz.prog 129 #[.int .i64 at_,.int .i64 11] W fun e w'=>e=.returned (.bool (decide (0<=at_/\at_<=11)))/\w'=W):=fun W=>qG at_ _ W
 have H5:Hid (∀W,af Tryz.prog 129 #[.int .i64 (text.size:Int),.int .i64 1000] W fun e w'=>e=.returned (.bool (decide (0<=(text.size:Int)/\(text.size:Int)<=1000)))/\w'=W):=fun W=>qG (text.size:Int) _ W
 generalize YM n who=r1 at *;generalize decide (0<=size/\size<=1000)=r3 at *;generalize decide (0<=at_/\at_<=11)=r4 at *;generalize decide (0<=(text.size:Int)/\(text.size:Int)<=1000)=r5 at *;obtain⟨J,B⟩:=Xb (w.alloc (.cells #[.int .i64 n,.int .i64 who,.int .i64 size,.int .i64 at_,.string text] 142));have Z:Hid _:=B;have a0:Hid (ac w.heap.size w J):=by rw[B];exact bR.alloc nR _
 have H:=fQ B;obtain⟨c0,c1,c2,c3,c4⟩:=zB (JH B);have HC:Hid (∀W,ac J.heap.size J W->W.cell? ⟨w.heap.size,2,ab⟩=aa (.int .i64 size)/\W.cell? ⟨w.heap.size,3,ab⟩=aa (.int .i64 at_)/\W.cell? ⟨w.heap.size,4,ab⟩=aa (.string text)):=fun W K=>⟨(K.cell (p:=⟨w.heap.size,2,ab⟩) H).trans c2,(K.cell (p:=⟨w.heap.size,3,ab⟩) H).trans c3,(K.cell (p:=⟨w.heap.size,4,ab⟩) H).trans c4⟩
 clear B ht H;go_enter Tryz.func113,Tryz.ntmps113;go_wp2_with (first|rw[<-Z.out])
 refine(U.out _).mono ?_;rintro e w3 ⟨rfl,O⟩;obtain⟨d2,d3,d4⟩:=HC.out w3 O;have I:Hid _:=a0.out.trans (O.mono a0.out.size);clear Z c0 c1 c2 c3 c4 HC O U;cases r1 with
 |false =>
  go_wp2;go_ret;exact⟨rfl,I.out⟩
 |true =>
  go_wp2_with fail
  refine(H3.out _).mono ?_;rintro e w4 ⟨rfl,rfl⟩;cases r3 with
  |false =>
   go_wp2;go_ret;exact⟨rfl,I.out⟩
  |true =>
   go_wp2_with fail
   refine(H4.out _).mono ?_;rintro e w4 ⟨rfl,rfl⟩;cases r4 with
   |false =>
    go_wp2;go_ret;exact⟨rfl,I.out⟩
   |true =>
    go_wp2_with fail
    refine(H5.out _).mono ?_;rintro e w4 ⟨rfl,rfl⟩;go_wp2;go_ret;exact⟨by cases r5<;>rfl,I.out⟩
end
section
variable {h:Nat} {S:Nat->Prop} {L:List Yh} {s:Bool} {m:Option Nat} {D:zb aj} {row:BA->aj} {blk:BA->Nat}
theorem K8 (B:i<l.length):l.take (i+1)=l.take i++ [Xd l i]:=by
 rw[List.take_add_one,Xx B];rfl
theorem JbK {L:List Yh}(B:∀x∈L,Jo x.1=ag/\Y7 x.2=ag)(H:i<(Xc L key).length):Y7 (Xd (Xc L key) i)=true:=by
 have:=List.mem_of_getElem? (Xx H);exact(B _ (YJ.1 this)).2
theorem BV {v:Yb}(h:Y7 v=ag):v.text.size<=1000:=by
 unfold Y7 at h;simp only[ay,decide_eq_true_eq]at h;exact h.2.2.2.2.2
theorem CN (hd:QC w h S L s m D row blk)(key:BA)(hk:key.size<=am):
 af Tryz.prog 86 #[.pointer (aa ⟨h,0,ab⟩),.string key] w fun e w'=>(∃v,e=.returned v/\Zc Ze 142 w' w.heap.size v (Xc L key))/\ac w.heap.size w w':=by
 have a0:Hid (af Tryz.prog 111 #[.pointer (aa ⟨h,0,ab⟩),.string key] w fun e w'=>e=.returned (row key)/\w'=w):=I8 hd key hk;obtain⟨p,c,a5,a6,d5,b5,b6⟩:=hd.form key;have b7:Hid (Ql Ze w p (Xc L key)):=a6;have a7:Hid (∀i,i<(Xc L key).length->(Xd (Xc L key) i).text.size<=1000000):=fun i hi=>by have:=BV (JbK hd.fits hi);omega
 have hl:(Xc L key).length<=60:=zh (oF _ _) hd.bO;rw[a5]at a0;clear hd a5 a6 b5 b6;generalize Xc L key=l at *;go_enter Tryz.func86,Tryz.ntmps86;go_wp2_with fail
 refine a0.out.mono ?_;rintro e H ⟨rfl,a8⟩;rw[a8];clear a8 H a0;go_wp2;go_loopw [5,12] (fun v x wq=>∃i:Nat,i<=l.length/\x=.int .i64 i/\Zc Ze 142 wq w.heap.size v (l.take i)/\ac w.heap.size w wq) (fun _ x _=>l.length-(intOf x).toNat)
 case atStart=>exact⟨0,aF _,rfl,Zc.nil _ _ _,an _ _⟩
 case round =>
  obtain⟨i,hi,rfl,Z,hB⟩:=hrel;obtain⟨H,rfl⟩:=Xb wr;obtain⟨v,rfl⟩:=Xb u5;have HO:Hid (Zc Ze 142 H w.heap.size v (l.take i)):=Z;have HB:Hid (ac w.heap.size w H):=hB;have d6:w.heap.size<=H.heap.size:=hB.size;clear Z hB;by_cases a2:i<l.length
  ·obtain⟨b,o,b8,d7,c0,c1,c2,c3,c4⟩:=QU (b7.out.below HB.out) a2;subst b8;have c8:Hid (l.take (i+1)=l.take i++ [Xd l i]):=K8 a2;have a9:Hid (∀W,af Tryz.prog 112 #[.agg #[.int .i64 (Xd l i).n,.int .i64 (Xd l i).who,.int .i64 (Xd l i).size,.int .i64 (Xd l i).at_,.string (Xd l i).text]] W fun e w'=>e=.returned (.agg #[.int .i64 (Xd l i).n,.int .i64 (Xd l i).who,.int .i64 (Xd l i).size,.int .i64 (Xd l i).at_,.string (Xd l i).text])/\ac W.heap.size W w'):=fun W=>F5 (Xd l i) W (a7.out i a2)
   have d8:(l.take i).length<=60:=by rw[aI];omega
   clear a7;generalize Xd l i=x at *;obtain⟨I,J,xs,K,O⟩:=x;generalize l.take i=gs at *;have a3:Hid (ac H.heap.size H (H.alloc (.cells #[.int .i64 I,.int .i64 J,.int .i64 xs,.int .i64 K,.string O] 142))):=bR.alloc nR _;go_wp2_with fail
   refine(a9.out _).mono ?_;rintro e U ⟨rfl,b0⟩;have a4:ac H.heap.size H U:=a3.out.trans (b0.mono a3.out.size);have d0:Hid (Zc Ze 142 (U.alloc (.cells #[.int .i64 I,.int .i64 J,.int .i64 xs,.int .i64 K,.string O] 142)) w.heap.size v gs):=(HO.out.kept a4).kept (bR.alloc nR _);have b1:Hid (ac w.heap.size w U):=HB.out.trans (a4.mono HB.out.size);have d1:Hid (∀j u,(Ze.enc ⟨I,J,xs,K,O⟩)[j]?=aa u->(U.alloc (.cells #[.int .i64 I,.int .i64 J,.int .i64 xs,.int .i64 K,.string O] 142)).cell? ⟨U.heap.size,0+j,ab⟩=aa u):=fun j u B=>by
    rw[Nat.zero_add,zf _ _ _ _ rfl]
    match j,B with
    |0,B=>exact B
    |1,B=>exact B
    |2,B=>exact B
    |3,B=>exact B
    |4,B=>exact B
   have b2:Hid (ac w.heap.size w (U.alloc (.cells #[.int .i64 I,.int .i64 J,.int .i64 xs,.int .i64 K,.string O] 142))):=b1.out.alloc b1.out.size _;clear b0 a4 a3 a9 c0 c1 c2 c3 c4;go_wp2_with (first|(at_builtin;refine wJ rfl (.tmp 16) (.tmp 19) 88 142 rfl (.agg #[.int .i64 0,.int .i64 0,.int .i64 0,.int .i64 0,.string ⟨#[]⟩]) 48 Tryz.underlying88 qS rfl w.heap.size v gs rfl d0.out U.heap.size 0 1 ⟨I,J,xs,K,O⟩ rfl d1.out (by unfold am;omega) (by omega) b2.out.size (by simp) ?_;intro v4 w4 b3 b4))
   have d2:Hid (Zc Ze 142 w4 w.heap.size v4 (gs++ [⟨I,J,xs,K,O⟩])):=b3;have d3:Hid (ac w.heap.size w w4):=b2.out.trans b4;clear b3 b4;go_wp2;go_roundw
   case rel=>exact⟨i+1,by omega,by go_num,by rw[c8.out];exact d2.out,d3.out⟩
   case measure=>simp[intOf];omega
  ·have d4:i=l.length:=by omega
   subst d4;have HE:Hid (l.take l.length=l):=List.take_length;go_wp2;go_ret;have Z:=HO.out;rw[HE.out]at Z;exact⟨⟨v,rfl,Z⟩,HB.out⟩
end
theorem Zc.pB {w':World}(h:Zc Ze T w B v l)(Z:∀k,v.ownBlock=aa k->w'.heap[k]?=w.heap[k]?):Zc Ze T w' B v l:=by
 obtain⟨I,D⟩:=h;refine⟨I,?_⟩;rcases D with D|⟨g,cap,J,H,K,O,U⟩
 ·exact ar D
 ·refine aM ⟨g,cap,J,H,K,?_,U⟩;rw[Z g (by rw[H];rfl)];exact O
theorem Zc.jX (h:Zc Ze T w B v l)(H:b<B)(i:Nat)(x:aj):Zc Ze T (w.setCell ⟨b,i,ab⟩ x) B v l:=h.pB (fun k D=>aw _ _ _ _ (by have:=(h.block D).1;show k≠b;omega))
section
variable {h:Nat} {S:Nat->Prop} {L:List Yh} {s:Bool} {m:Option Nat} {D:zb aj} {row:BA->aj} {blk:BA->Nat}
theorem Jrr (B:QC w h S L s m D row blk):af Tryz.prog 88 #[.pointer (aa ⟨h,0,ab⟩)] w fun e w'=>e=.returned (.tuple #[])/\w'=w.setCell ⟨h,1,ab⟩ (.bool ag):=by
 have H:=B.shut;have f1:=B.fD;clear B;go_enter Tryz.func88,Tryz.ntmps88;go_wp2
 go_end0
 exact⟨rfl,rfl⟩
theorem VZ (B:QB w h S L s):af Tryz.prog 88 #[.pointer (aa ⟨h,0,ab⟩)] w fun e w'=>e=.returned (.tuple #[])/\∃O,QB w' h O L ag/\Yd S O w w':=by
 obtain⟨m,D,row,blk,B⟩:=B;refine(Jrr B).mono fun e w' U=>?_
 obtain⟨Z,rfl⟩:=U;have J:∀k,k≠h->(w.setCell ⟨h,1,ab⟩ (.bool ag)).heap[k]?=w.heap[k]?:=fun k H=>aw _ _ _ _ H
 refine⟨Z,S,⟨m,D,row,blk,B.sorted,B.bO,B.fits,fun k H=>by simpa using B.dH k H,B.self,?_,aq _ _ _ B.shut,by rw[ao];exact B.fP,by rw[ao];exact B.fD,B.nothing,fun b hm=>?_,fun x=>(B.own x).same (fun k H=>J k ?_),B.dW,B.aO,B.apart⟩,⟨rfl,rfl,rfl,by simp,fun k _ hn=>J k (fun e=>hn (e▸B.self)),fun k H=>ar H⟩⟩
 ·rw[aD _ _ _ _ (fun e=>by have I:(1:Nat)=0:=congrArg Addr.off e;omega)];exact B.ptr
 ·obtain⟨h1,I,⟨n,K⟩,h4⟩:=B.eY b hm;exact⟨h1,I,⟨n,K.same (J b I)⟩,h4⟩
 ·obtain⟨_,I,K⟩:=B.eD H;rw[K];exact(B.aO x I).2.2.1
end
theorem KX (h b n:Nat)(D:zb aj)(key:BA)(p:Option bA)(k c:Nat)(w:World)(hk:key.size<=1000000)(a6:0<k)(a7:k<=1000)(K:w.cell? ⟨h,0,ab⟩=aa (.map (aa b)))(O:QX w b n D)(U:n<am):
 af Tryz.prog 116 #[.pointer (aa ⟨h,0,ab⟩),.string key,.slice p k c] w fun e w'=>e=.returned (.tuple #[])/\jA w w' b D key (.slice p k c):=by
 have Z:=Zn K;have a0:Hid (∀W,ac w.heap.size w W->∃w',(Instr.mapUpdate 122 (.map (aa b)) (.string key) (.slice p k c)).run Tryz.prog W=.ok () w'/\jA w w' b D key (.slice p k c)):=fun W B=>zC O U (by unfold am;omega) B
 have a2:Hid (∀W,af Tryz.prog 19 #[.string key] W fun e w'=>e=.returned (.string key)/\ac W.heap.size W w'):=fun W=>Xs key W (by omega)
 have HQ:Hid (∀W,ac w.heap.size w W->W.cell? ⟨h,0,ab⟩=aa (.map (aa b))):=fun W B=>(B.cell (p:=⟨h,0,ab⟩) Z).trans K
 have hz:¬((k:Int)=0):=by omega
 have a4:=FI b;clear O U hk;go_enter Tryz.func116,Tryz.ntmps116;go_wp2;go_region_with (go_at_call 19;refine(a2.out _).mono ?_;rintro e I ⟨rfl,J⟩;have H:=xB J;have q5:=HQ.out I H;obtain⟨w9,a5,a3⟩:=a0.out I H;clear J H)
 all_goals
  go_wp2
  go_end0
  first|exact⟨rfl,a3⟩|exact⟨rfl,by assumption⟩
theorem SP (h:Nat)(key:BA)(p:Option bA)(k c:Nat)(w:World)(hk:key.size<=1000000)(b1:0<k)(b2:k<=1000)(O:w.cell? ⟨h,0,ab⟩=aa (.map ab))(f0:w.frozen? ⟨h,0,ab⟩=F):
 af Tryz.prog 116 #[.pointer (aa ⟨h,0,ab⟩),.string key,.slice p k c] w fun e w'=>e=.returned (.tuple #[])/\jA ((w.setCell ⟨h,0,ab⟩ (.map (aa w.heap.size))).alloc (.map #[] 0)) w' w.heap.size (.map []) key (.slice p k c):=by
 have H:=Zn O;obtain⟨B,D⟩:=Xb ((w.setCell ⟨h,0,ab⟩ (.map (aa w.heap.size))).alloc (.map #[] 0));have U:Hid _:=D;have I:(w.setCell ⟨h,0,ab⟩ (.map (aa w.heap.size))).heap.size=w.heap.size:=by simp
 have Z:QX B w.heap.size 0 (.map []):=by
  have:=World.ownsMap_made (w.setCell ⟨h,0,ab⟩ (.map (aa w.heap.size))) Tryz.prog 9 iW;rw[I]at this;rw[D];exact this
 have hq:B.cell? ⟨h,0,ab⟩=aa (.map (aa w.heap.size)):=by
  rw[D,((an _ (w.setCell ⟨h,0,ab⟩ (.map (aa w.heap.size)))).alloc nR _).cell (p:=⟨h,0,ab⟩) (by rw[I];exact H)];exact aq _ _ _ O
 have a2:=Zn hq;have a3:Hid (∀W,ac B.heap.size B W->∃w',(Instr.mapUpdate 122 (.map (aa w.heap.size)) (.string key) (.slice p k c)).run Tryz.prog W=.ok () w'/\jA B w' w.heap.size (.map []) key (.slice p k c)):=fun W J=>zC Z (by unfold am;omega) (by unfold am;omega) J
 have a4:Hid (∀W,af Tryz.prog 19 #[.string key] W fun e w'=>e=.returned (.string key)/\ac W.heap.size W w'):=fun W=>Xs key W (by omega)
 have HQ:Hid (∀W,ac B.heap.size B W->W.cell? ⟨h,0,ab⟩=aa (.map (aa w.heap.size))):=fun W J=>(J.cell (p:=⟨h,0,ab⟩) a2).trans hq
 have hz:¬((k:Int)=0):=by omega
 have a6:=AD;have a7:(w.alloc (.map #[] 0)).frozen? ⟨h,0,ab⟩=false:=by rw[((an _ w).alloc nR _).frozen (p:=⟨h,0,ab⟩) H];exact f0
 have a8:(w.alloc (.map #[] 0)).cell? ⟨h,0,ab⟩=aa (.map ab):=by rw[((an _ w).alloc nR _).cell (p:=⟨h,0,ab⟩) H];exact O
 have a9:(Instr.makeMap 122 ab).run Tryz.prog w=.ok (.map (aa w.heap.size)) (w.alloc (.map #[] 0)):=by kernel_rfl
 rw[<-D];clear Z hk D I;go_enter Tryz.func116,Tryz.ntmps116;go_wp2;rw[<-U.out];clear U;go_region_with (go_at_call 19;refine(a4.out _).mono ?_;rintro e w5 ⟨rfl,a0⟩;have K:=xB a0;have q5:=HQ.out w5 K;obtain⟨w9,b0,a5⟩:=a3.out w5 K;clear a0 K)
 all_goals
  go_wp2
  go_end0
  first|exact⟨rfl,a5⟩|exact⟨rfl,by assumption⟩
section
variable {h:Nat} {S:Nat->Prop} {L:List Yh} {s:Bool} {m:Option Nat} {D:zb aj} {row:BA->aj} {blk:BA->Nat}
theorem JhX (z x:BA):(Xv z).sameKey (Xv x)=decide (z=x):=by
 by_cases e:z=x
 ·subst e;rw[C5,decide_eq_true rfl]
 ·rw[Maps.sameKey_ne (fun h=>e (rF h)),decide_eq_false e]
def ZS (L:List Yh)(left:Lit->Bool):Nat:=(((Qs L).filter fun x=>left (Xv x)).map fun x=>(Xc L x).length).sum
theorem JnH {K:List BA}(hn:K.Nodup)(f:BA->Nat)(p:BA->Bool)(I:x∈K)(hp:p x=ag):((K.filter p).map f).sum=f x+((K.filter fun z=>p z&&!decide (z=x)).map f).sum:=by
 induction K with
 |nil=>cases I
 |cons a K ih =>
  obtain⟨J,O⟩:=List.nodup_cons.1 hn;by_cases e:a=x
  ·subst e;have U:K.filter (fun z=>p z&&!decide (z=a))=K.filter p:=by
    apply List.filter_congr;intro z Z;have:z≠a:=fun e=>J (e▸Z)
    simp[this]
   rw[au hp,av (by simp),U];simp
  ·have a0:x∈K:=by
    rcases List.mem_cons.1 I with H|H
    ·exact absurd H.symm e
    ·exact H
   have:=ih O a0;cases B:p a with
   |true =>
    rw[au B,au (by simp[B,e]),zl,zl,bk,bk,this];omega
   |false =>
    rw[av (by simp[B]),av (by simp[B]),this]
theorem MC {L:List Yh}(B:Yw L)(H:x∈Qs L)(I:left (Xv x)=ag):ZS L left=(Xc L x).length+ZS L (fun z=>left z&&!z.sameKey (Xv x)):=by
 unfold ZS;rw[JnH (Jlx B) (fun x=>(Xc L x).length) (fun x=>left (Xv x)) H I];simp only[JhX]
theorem TD {L:List Yh}(B:Yw L)(H:∀x∈Qs L,left (Xv x)=ag):ZS L left=L.length:=by
 unfold ZS;rw[List.filter_eq_self.2 H,NI B]
theorem UT {L:List Yh}(B:∀k,left k=F):ZS L left=0:=by
 unfold ZS;rw[List.filter_eq_nil_iff.2 (fun x _=>by rw[B];decide)];rfl
theorem TV {L:List Yh}(H:Yw L)(I:∀x∈L,Jo x.1=ag/\Y7 x.2=ag)(J:x∈Qs L):x.size<=16:=by
 obtain⟨v,B⟩:=List.exists_mem_of_ne_nil _ (((nU L H).mem x).1 J);exact(QF (I _ (YJ.1 B)).1).2
theorem QC.entry (K:QC w h S L s m D row blk)(hm:m=aa b){c:aj}{kl:Lit}{y:zb aj×List aW}(a0:∀z,left z=ag->ze D z=ag)(a2:keyOf Tryz.prog 9 (.string x)=aa kl)(a3:left kl=ag)(O:iW c=aa y)(a4:∀zd,D.atKey kl zd=y.1):kl=Xv x/\x∈Qs L/\c=row x:=by
 obtain⟨x',B,U,Z⟩:=vI a2;injection B with B
 subst B;subst U;obtain⟨_,_,_,h4,h5⟩:=K.eY b hm;have I:=a0 _ a3;rw[h4 x Z]at I;have J:Xc L x≠[]:=by simpa using I
 refine⟨rfl,((nU L K.sorted).mem x).2 J,?_⟩;have H:=h5 x J .nil;rw[a4]at H;have h7:y.1=.held c:=by
  unfold iW at O;exact(congrArg Prod.fst (ah O)).symm
 rw[h7]at H;injection H
theorem UD (H:QC w h S L s ab D row blk):af Tryz.prog 115 #[.pointer (aa ⟨h,0,ab⟩)] w fun e w'=>e=.returned (.int .i64 (L.length:Int))/\ac w.heap.size w w':=by
 have I:Hid (af Tryz.prog 136 #[.pointer (aa ⟨h,0,ab⟩)] w fun e w'=>e=.returned (.map ab)/\w'=w):=vG H;rw[H.nothing rfl];clear H;have O:=run_range_nilMap (P:=Tryz.prog) w 122 9 88 Tryz.underlying122;have U:∀B,(Instr.next (.pointer (aa ⟨w.heap.size,0,ab⟩)) F B).run Tryz.prog (w.alloc (.mapIter ab 0 #[] 0))=_:=fun B=>run_next_nilMap w B 0 0 #[]
 go_enter Tryz.func115,Tryz.ntmps115;go_wp2_with fail
 refine I.out.mono ?_;rintro e K ⟨rfl,J⟩;rw[J];clear J K I;go_wp2;refine wp_loop_rounds 1 ?_;rw[rounds_succ];go_wp2;go_ret;exact⟨rfl,bR.alloc nR _⟩
theorem WD (B:QC w h S L s (aa b) D row blk):af Tryz.prog 115 #[.pointer (aa ⟨h,0,ab⟩)] w fun e w'=>e=.returned (.int .i64 (L.length:Int))/\ac w.heap.size w w':=by
 have HA:Hid (af Tryz.prog 136 #[.pointer (aa ⟨h,0,ab⟩)] w fun e w'=>e=.returned (.map (aa b))/\w'=w):=vG B;obtain⟨a6,d3,⟨n,a7⟩,h4,h5⟩:=B.eY b rfl;have HD:Hid _:=B;have d4:=B.bO;have H0:Hid (ZS L (ze D)=L.length):=TD B.sorted (fun x O=>by
  rw[h4 x (by have:=TV B.sorted B.fits O;unfold am;omega)];simpa using ((nU L B.sorted).mem x).1 O)
 have e4:=B.dH b a6;clear h4 h5 B a6 d3;go_enter Tryz.func115,Tryz.ntmps115;go_wp2_with fail
 refine HA.out.mono ?_;rintro e w1 ⟨rfl,a8⟩;rw[a8];clear a8 w1 HA;go_wp2_with (first
  |(at_range;refine wpList_range_own _ rfl _ 122 rfl 9 88 kE Tryz.underlying122 iW b n D rfl a7 ?_;intro w0 a9 I d5)
  |go_in)
 go_frame
 go_loopw [3] (fun k wr=>∃(left:Lit->Bool) (K H:Nat),wr.ranges Tryz.prog 9 iW b w.heap.size n D left K/\k=.int .i64 H/\H+ZS L left=L.length/\(∀z,left z=ag->ze D z=ag)/\ac w.heap.size w wr) (fun _ wr=>wr.rangeLeft b w.heap.size)
 case atStart=>exact⟨ze D,bn D,0,a9,rfl,by rw[H0.out];omega,fun z U=>U,⟨I.os,I.tape,I.output,I.size,fun k Z=>I.block k Z (by simp)⟩⟩
 case round =>
  clear I d5 a9 a7 H0;obtain⟨left,K,H,a0,rfl,b0,b1,b2⟩:=hrel;obtain⟨w1,rfl⟩:=Xb wr;have a2:Hid _:=b0;have b3:Hid _:=b1;have a3:Hid _:=b2;have e5:H<=60:=by omega
  clear b0 b1 b2;go_wp2_with (first
   |(at_next;refine wpList_next_ranges (α:=BA) (β:=aj) _ rfl _ rfl 9 kE iW Value.string id (fun key kl Z=>by obtain⟨x,O,_⟩:=vI Z;exact⟨x,O⟩) (fun v y _=>⟨v,rfl⟩) b w.heap.size n D left K rfl a0 ?_ ?_)
   |go_in)
  ·intro _ d6;have HE:Hid (H=L.length):=by
    show _=_;have:=a2.out;rw[UT d6]at this;exact this
   go_wp2;go_ret;exact⟨by rw[HE.out];rfl,a3.out⟩
  ·intro x c kl yd yp w2 a4 b4 a5 hv b5 b6 b7 J d7 d8;obtain⟨rfl,b8,rfl⟩:=HD.out.entry rfl b3.out b4 a5 hv b5;have c8:Hid (ZS L left=(Xc L x).length+ZS L (fun z=>left z&&!z.sameKey (Xv x))):=MC HD.out.sorted b8 a5;obtain⟨p,cc,d0,_,_,_,_⟩:=HD.out.form x;have d1:row x=.slice p (Xc L x).length cc:=d0;rw[d1]at d8 ⊢;have d2:Hid (w2.ranges Tryz.prog 9 iW b w.heap.size n D (fun z=>left z&&!z.sameKey (Xv x)) a4):=b6;have d9:Hid (a4<K):=b7;have e0:Hid (w1.ranges Tryz.prog 9 iW b w.heap.size n D left K):=a0;have e1:Hid (ac w.heap.size w w2):=a3.out.trans ⟨J.os,J.tape,J.output,J.size,fun k Z=>J.block k (by have:=a3.out.size;omega) (fun e=>by injection e with e;omega)⟩;have e6:(Xc L x).length<=60:=zh (oF _ _) d4;have e2:Hid (H+(Xc L x).length+ZS L (fun z=>left z&&!z.sameKey (Xv x))=L.length):=by
    show _=_;have:=a2.out;rw[c8.out]at this;omega
   have e3:Hid (∀z,(left z&&!z.sameKey (Xv x))=ag->ze D z=ag):=fun z U=>b3.out z (by simp only[ay]at U;exact U.1)
   clear hv b5 b6 b7 J d7 d0 d1 b4 a5 b8 c8 a2 a0;generalize (Xc L x).length=g at *;go_wp2;go_roundw
   case rel=>exact⟨_,a4,H+g,d2.out,by go_num,e2.out,e3.out,e1.out⟩
   case measure=>rw[d2.out.left_eq,e0.out.left_eq];exact d9.out
theorem KL (B:QC w h S L s m D row blk):af Tryz.prog 115 #[.pointer (aa ⟨h,0,ab⟩)] w fun e w'=>e=.returned (.int .i64 (L.length:Int))/\ac w.heap.size w w':=by
 cases m with
 |none=>exact UD B
 |some b=>exact WD B
end
def nX (n:Int):List UInt8:=Lib.itoa n++ [58]
def EU (s:BA):List UInt8:=nX (s.size:Int)++s.data.toList
def PB (x:Yh):List UInt8:=EU x.1++(nX x.2.n++(nX x.2.who++(nX x.2.size++(nX x.2.at_++EU x.2.text))))
def N6 (L:List Yh):List UInt8:=L.flatMap PB
def wrote (L:List Yh)(s:Bool):List UInt8:=nX (if s then 1 else 0)++N6 L
structure kF (L:List Yh):Prop where
 sorted:Yw L
 bO:L.length<=60
 fits:∀x∈L,Jo x.1=ag/\Y7 x.2=ag
theorem kF.put {L:List Yh}(h:kF L){s:Bool}{v:Yb}(B:Ju L s key v=0):kF (XK L key v)/\(∀x∈Xc L key,Zd x≠Zd v)/\s=F/\Jo key=ag/\Y7 v=ag/\L.length<60:=by
 unfold Ju at B;split at B
 ·cases B
 ·rename_i O;split at B
  ·rename_i J;split at B
   ·rename_i K;have D:∀x∈Xc L key,Zd x≠Zd v:=fun x H U=>by
     rw[KG h.sorted H U]at B;split at B<;>cases B
    rw[zQ D L.length 0 (by omega)]at B;have Z:L.length<60:=by
     refine Classical.byContradiction fun hc=>?_
     rw[if_pos (by omega)]at B;cases B
    refine⟨⟨Jlz h.sorted D,by rw[Jly];omega,fun x H=>?_⟩,D,by simpa using O,J,K,Z⟩;rcases EH.1 H with I|I
    ·exact h.fits x I
    ·rw[I];exact⟨J,K⟩
   ·cases B
  ·cases B
section
variable {w w1 w2 w3:World} {h:Nat} {S:Nat->Prop} {L:List Yh} {s:Bool} {m:Option Nat} {D:zb aj} {row:BA->aj} {blk:BA->Nat}
def JI (S:Nat->Prop)(w w':World):Nat->Prop:=fun k=>k<w'.heap.size/\(S k∨w.heap.size<=k)
structure tR (w2 w3:World) (h b':Nat) (s:Bool) (D0:zb aj) (key:BA) (v:aj):Prop where
 os:w3.os=w2.os
 tape:w3.tape=w2.tape
 output:w3.output=w2.output
 size:w2.heap.size<=w3.heap.size
 ptr:w3.cell? ⟨h,0,ab⟩=aa (.map (aa b'))
 shut:w3.cell? ⟨h,1,ab⟩=aa (.bool s)
 fP:w3.frozen? ⟨h,0,ab⟩=F
 fD:w3.frozen? ⟨h,1,ab⟩=F
 own:∃n,QX w3 b' n (D0.put (Xv key) (.held v))
 ne:b'≠h
 block:∀k,k<w2.heap.size->k≠b'->k≠h->w3.heap[k]?=w2.heap[k]?
theorem II {L:List Yh}(B:Yw L)(key:BA)(v:Yb):Xc (XK L key v) key=fN (Xc L key) (Jq (Xc L key) (Zd v)) v:=MB B key v
theorem QC.wM (B:QC w h S L s m D row blk)(key:BA){L':List Yh}(hG:kF L')(b2:Xc L' key≠[])(a2:∀x,x≠key->Xc L' x=Xc L x)(hb:ac w.heap.size w w1)(hO:Zc Ze 142 w2 0 v' (Xc L' key))(hg:w1.grownBy w2 (row key).ownBlock)(b3:(v'.ownBlock=(row key).ownBlock/\(row key).ownBlock≠ab)∨∃k,v'.ownBlock=aa k/\w1.heap.size<=k)
 {K:Nat} {D0:zb aj} (O:tR w2 w3 h K s D0 key v') (a6:(m=aa K∨(m=ab/\w2.heap.size<=K))) (hI:zs D0) (b8:∀x,x.size<=am->ze D0 (Xv x)=decide (Xc L x≠[])) (c8:∀x,Xc L x≠[]->∀z,D0.atKey (Xv x) z=.held (row x)):
 QB w3 h (JI S w w3) L' s/\Yd S (JI S w w3) w w3:=by
 have d0:=hb.size;have d1:=hg.size;have d2:=O.size;have a4:=B.dH;obtain⟨H,a5⟩:∃H,v'.ownBlock=aa H:=by
  rcases b3 with⟨e,a3⟩|⟨k,e,_⟩
  ·cases hr:(row key).ownBlock with
   |none=>exact absurd hr a3
   |some k=>exact⟨k,by rw[e,hr]⟩
  ·exact⟨k,e⟩
 have a7:S H/\(row key).ownBlock=aa H∨w1.heap.size<=H:=by
  rcases b3 with⟨e,_⟩|⟨k,e,I⟩
  ·have hr:(row key).ownBlock=aa H:=by rw[<-e];exact a5
   exact ar ⟨(B.eD hr).1,hr⟩
  ·rw[a5]at e;injection e with e
   exact aM (e▸I)
 have b4:=(Zc.block hO a5).2;have a8:H≠h:=by
  rcases a7 with⟨_,U⟩|U
  ·obtain⟨_,a3,e⟩:=B.eD U;rw[e];exact(B.aO key a3).2.2.1
  ·have:=a4 h B.self;omega
 have a9:H≠K:=by
  rcases a6 with e|⟨_,e⟩
  ·rcases a7 with⟨_,U⟩|U
   ·obtain⟨_,a3,Z⟩:=B.eD U;rw[Z];exact(B.aO key a3).2.2.2 K e
   ·have:=a4 K (B.eY K e).1;omega
  ·omega
 have b5:∀x,x≠key->∀k,(row x).ownBlock=aa k->w3.heap[k]?=w.heap[k]?:=fun x J k I=>by
  obtain⟨h1,U,h3⟩:=B.eD I;obtain⟨_,_,h6,h7⟩:=B.aO x U;have b6:=a4 k h1;have e1:k≠h:=by rw[h3];exact h6
  have Z:k≠K:=by
   rcases a6 with e|⟨_,e⟩
   ·rw[h3];exact h7 K e
   ·omega
  have e3:aa k≠(row key).ownBlock:=fun e=>by
   obtain⟨_,h8,h9⟩:=B.eD e.symm;exact B.apart x key U h8 J (by rw[<-h3,<-h9])
  rw[O.block k (by omega) Z e1,hg.block k (by omega) e3];exact hb.block k b6
 have b7:JI S w w3 K:=by
  obtain⟨n,hn⟩:=O.own;refine⟨World.ownsMap.lt hn,?_⟩;rcases a6 with e|⟨_,e⟩
  ·exact ar (B.eY K e).1
  ·exact aM (by omega)
 refine⟨⟨aa K,D0.put (Xv key) (.held v'),fun x=>if x=key then v' else row x,fun x=>if x=key then H else blk x,?_⟩,⟨O.os.trans (hg.os.trans hb.os),O.tape.trans (hg.tape.trans hb.tape),O.output.trans (hg.output.trans hb.output),by omega,fun k I hn=>?_,fun k I=>I.2⟩⟩
 ·refine⟨hG.sorted,hG.bO,hG.fits,fun k I=>I.1,⟨by have:=a4 h B.self;omega,ar B.self⟩,O.ptr,O.shut,O.fP,O.fD,(fun e=>by cases e),fun b a0=>?_,fun x=>?_,fun x J=>?_,fun x J=>?_,fun x y J hy b0=>?_⟩
  ·injection a0 with a0
   subst a0;refine⟨b7,O.ne,O.own,fun x J=>?_,fun x J z=>?_⟩
   ·by_cases e:x=key
    ·subst e;rw[Maps.has_put_same hI (qR x)];simpa using b2
    ·rw[Maps.has_put_other (fun Z=>e (rF Z)),b8 x J,a2 x e]
   ·by_cases e:x=key
    ·subst e;rw[Maps.atKey_put_same hI (qR x),if_pos rfl]
    ·rw[Maps.atKey_put_other (fun Z=>e (rF Z)),if_neg e];exact c8 x (by rw[<-a2 x e];exact J) z
  ·show Zc Ze _ w3 0 (if x=key then v' else row x) _;by_cases e:x=key
   ·subst e;rw[if_pos rfl];refine hO.same fun k I=>?_
    rw[a5]at I;injection I with I
    subst I;exact O.block H b4 a9 a8
   ·rw[if_neg e,a2 x e];exact(B.own x).same (b5 x e)
  ·by_cases e:x=key
   ·subst e;exact absurd J b2
   ·show(if x=key then v' else row x)=_;rw[if_neg e];exact B.dW x (by rw[<-a2 x e];exact J)
  ·show(if x=key then v' else row x).ownBlock=aa (if x=key then H else blk x)/\_;by_cases e:x=key
   ·subst e;rw[if_pos rfl,if_pos rfl];refine⟨a5,⟨by omega,?_⟩,a8,fun b a0=>by injection a0 with a0;rw[<-a0];exact a9⟩;rcases a7 with⟨h1,_⟩|h1
    ·exact ar h1
    ·exact aM (by omega)
   ·rw[if_neg e,if_neg e];rw[a2 x e]at J;obtain⟨h1,U,h3,h4⟩:=B.aO x J;have:=a4 _ U;refine⟨h1,⟨by omega,ar U⟩,h3,fun b a0=>?_⟩;injection a0 with a0
    subst a0;rcases a6 with Z|⟨_,Z⟩
    ·exact h4 _ Z
    ·omega
  ·show(if x=key then H else blk x)≠(if y=key then H else blk y);have b1:∀z,z≠key->Xc L z≠[]->blk z≠H:=fun z hz a3 e=>by
    obtain⟨h1,U,_,_⟩:=B.aO z a3;rcases a7 with⟨_,h4⟩|h4
    ·obtain⟨_,h5,h6⟩:=B.eD h4;exact B.apart z key a3 h5 hz (by rw[e,<-h6])
    ·have:=a4 _ U;omega
   by_cases ex:x=key
   ·by_cases ey:y=key
    ·exact absurd (ex.trans ey.symm) b0
    ·rw[if_pos ex,if_neg ey];exact fun e=>b1 y ey (by rw[<-a2 y ey];exact hy) e.symm
   ·by_cases ey:y=key
    ·rw[if_neg ex,if_pos ey];exact b1 x ex (by rw[<-a2 x ex];exact J)
    ·rw[if_neg ex,if_neg ey];exact B.apart x y (by rw[<-a2 x ex];exact J) (by rw[<-a2 y ey];exact hy) b0
 ·have e1:k≠h:=fun e=>hn (e▸B.self)
  have Z:k≠K:=fun e=>by
   rcases a6 with e3|⟨_,e3⟩
   ·exact hn (e▸(B.eY K e3).1)
   ·omega
  have e3:aa k≠(row key).ownBlock:=fun e=>hn (B.eD e.symm).1
  rw[O.block k (by omega) Z e1,hg.block k (by omega) e3];exact hb.block k I
theorem QC.put (I:QC w h S L s m D row blk)(key:BA)(v:Yb)(O:kF (XK L key v))(U:ac w.heap.size w w1){B:aj}(Z:Zc Ze 142 w2 0 B (fN (Xc L key) (Jq (Xc L key) (Zd v)) v))(hg:w1.grownBy w2 (row key).ownBlock)(a0:(B.ownBlock=(row key).ownBlock/\(row key).ownBlock≠ab)∨∃k,B.ownBlock=aa k/\w1.heap.size<=k)
 {J:Nat} {H:zb aj} (a2:tR w2 w3 h J s H key B) (a3:(m=aa J∨(m=ab/\w2.heap.size<=J))) (hI:zs H) (a4:∀x,x.size<=am->ze H (Xv x)=decide (Xc L x≠[])) (a5:∀x,Xc L x≠[]->∀z,H.atKey (Xv x) z=.held (row x)):
 QB w3 h (JI S w w3) (XK L key v) s/\Yd S (JI S w w3) w w3 :=
 I.wM key O (by rw[II I.sorted];unfold fN;simp) (fun x K=>VO L v K) U (by rw[II I.sorted];exact Z) hg a0 a2 a3 hI a4 a5
theorem T0 (I:b≠h)(J:w2.cell? ⟨h,0,ab⟩=aa (.map (aa b)))(Z:w2.cell? ⟨h,1,ab⟩=aa (.bool s))(f0:w2.frozen? ⟨h,0,ab⟩=F)(f1:w2.frozen? ⟨h,1,ab⟩=F)(B:jA w2 w3 b D key v):tR w2 w3 h b s D key v:=by
 have K:=Zn J;have H:=B.grown.block h K (fun e=>I (ah e).symm);exact⟨B.grown.os,B.grown.tape,B.grown.output,B.grown.size,(Qx H 0).1.trans J,(Qx H 1).1.trans Z,(Qx H 0).2.trans f0,(Qx H 1).2.trans f1,B.own,I,fun k O U _=>B.grown.block k O (fun e=>U (ah e))⟩
theorem X6 (O:w2.cell? ⟨h,0,ab⟩=aa (.map ab))(q1:w2.cell? ⟨h,1,ab⟩=aa (.bool s))(f0:w2.frozen? ⟨h,0,ab⟩=F)(f1:w2.frozen? ⟨h,1,ab⟩=F)(B:jA ((w2.setCell ⟨h,0,ab⟩ (.map (aa w2.heap.size))).alloc (.map #[] 0)) w3 w2.heap.size (.map []) key v):tR w2 w3 h w2.heap.size s (.map []) key v:=by
 have U:=Zn O;obtain⟨Z,H⟩:=Xb ((w2.setCell ⟨h,0,ab⟩ (.map (aa w2.heap.size))).alloc (.map #[] 0));rw[<-H]at B;have a0:(w2.setCell ⟨h,0,ab⟩ (.map (aa w2.heap.size))).heap.size=w2.heap.size:=by simp
 have a2:=QT H;have hold:∀k,k<w2.heap.size->Z.heap[k]?=(w2.setCell ⟨h,0,ab⟩ (.map (aa w2.heap.size))).heap[k]?:=fun k J=>by rw[H];exact heap_alloc_old _ _ (by rw[a0];exact J)
 have I:w3.heap[h]?=(w2.setCell ⟨h,0,ab⟩ (.map (aa w2.heap.size))).heap[h]?:=by
  rw[B.grown.block h (by omega) (fun e=>by injection e with e;omega),hold h U]
 have a3:=B.grown.size;refine⟨by rw[B.grown.os,H];rfl,by rw[B.grown.tape,H];rfl,by rw[B.grown.output,H];rfl,by omega,?_,?_,?_,?_,B.own,by omega,fun k J h1 K=>?_⟩
 ·rw[(Qx I 0).1];exact aq _ _ _ O
 ·rw[(Qx I 1).1,aD _ _ _ _ (fun e=>by have K:(0:Nat)=1:=congrArg Addr.off e;omega)];exact q1
 ·rw[(Qx I 0).2,ao];exact f0
 ·rw[(Qx I 1).2,ao];exact f1
 ·rw[B.grown.block k (by omega) (fun e=>h1 (ah e)),hold k J];exact aw _ _ _ _ K
end
section
open Go.Sort
theorem xH (w:World)(n:Nat)(os:Array Obj):ac w.heap.size w (grow (w.drewN n) os):=⟨rfl,rfl,rfl,by show w.heap.size<=(w.heap++os).size;rw[Array.size_append];omega,fun _ B=>heap_grow_old (w.drewN n) os B⟩
end
section
open Go.Sort
theorem Jre (v:Yb)(b:Int×Int)(w:World):af Tryz.prog 138 #[.agg #[.int .i64 v.n,.int .i64 v.who,.int .i64 v.size,.int .i64 v.at_,.string v.text],.agg #[.int .i64 b.1,.int .i64 b.2]] w fun e w'=>e=.returned (.int .i64 (JZ (Zd v) b))/\∃q os,w'=grow (w.drewN q) os:=by
 obtain⟨n,who,size,at_,text⟩:=v;have H:Hid (∀W,af Tryz.prog 139 #[.agg #[.int .i64 n,.int .i64 who],.agg #[.int .i64 b.1,.int .i64 b.2]] W fun e w'=>e=.returned (.int .i64 (JZ (n,who) b))/\∃n os,w'=grow (W.drewN n) os):=fun W=>EC (n,who) b W
 show af Tryz.prog 138 #[.agg #[.int .i64 n,.int .i64 who,.int .i64 size,.int .i64 at_,.string text],.agg #[.int .i64 b.1,.int .i64 b.2]] w fun e w'=>e=.returned (.int .i64 (JZ (n,who) b))/\∃q os,w'=grow (w.drewN q) os
 generalize JZ (n,who) b=c at *;obtain⟨I,J⟩:=b;have B:Hid (∃os,(w.alloc (.cells #[.int .i64 n,.int .i64 who,.int .i64 size,.int .i64 at_,.string text] 142)).alloc (.cells #[.int .i64 I,.int .i64 J] 39)=grow w os):=⟨_,by rw[alloc_eq_grow,alloc_eq_grow,grow_grow]⟩;go_enter Tryz.func138,Tryz.ntmps138;go_wp2_with fail
 refine(H.out _).mono ?_;rintro e K ⟨rfl,q,os,D⟩;have O:Hid (∃q os,K=grow (w.drewN q) os):=by
  obtain⟨U,Z⟩:=B.out;exact⟨q,U++os,by rw[D,Z,C7,grow_grow]⟩
 clear D B;go_wp2;go_ret;exact⟨rfl,O.out⟩
end
section
open Go.Sort
def J5 (l:List Yb)(t:Int×Int):Bool:=l.any fun x=>decide (Zd x=t)
theorem uP (H:l.Pairwise fun x y=>Qd (Zd x) (Zd y)=ag){j:Nat}(I:i<j)(D:j<l.length):Qd (Zd (Xd l i)) (Zd (Xd l j))=true:=by
 have:=List.pairwise_iff_getElem.1 H i j (by omega) D I;have e:∀k (B:k<l.length),l[k]=Xd l k:=fun k B=>by
  have:=Xx B;rw[ae B]at this;exact ah this
 rw[e i (by omega),e j D]at this;exact this
theorem A6 (B:k<=l.length)(I:∀j,j<k->Qd (Zd (Xd l j)) t=ag)(J:∀j,k<=j->j<l.length->Qd (Zd (Xd l j)) t=F):Jq l t=k:=by
 have e:∀k (B:k<l.length),l[k]=Xd l k:=fun k B=>by
  have:=Xx B;rw[ae B]at this;exact ah this
 unfold Jq;rw[<-List.take_append_drop k l];rw[DX (fun x D=>?_) (fun x D=>?_),aI]
 ·omega
 ·obtain⟨j,H,rfl⟩:=ap D;rw[aI]at H;rw[List.getElem_take,e j (by omega),I j (by omega)];rfl
 ·obtain⟨j,H,rfl⟩:=ap D;rw[List.length_drop]at H;rw[List.getElem_drop,e (k+j) (by omega),J (k+j) (by omega) (by omega)];rfl
theorem U9 (U:l.Pairwise fun x y=>Qd (Zd x) (Zd y)=ag)(Z:∀j,j<k->Qd (Zd (Xd l j)) t=ag)(a0:∀j,k<=j->j<l.length->Qd (Zd (Xd l j)) t=F):J5 l t=(decide (k<l.length)&&decide (Zd (Xd l k)=t)):=by
 have e:∀k (B:k<l.length),l[k]=Xd l k:=fun k B=>by
  have:=Xx B;rw[ae B]at this;exact ah this
 unfold J5;rw[bd];simp only[zk,decide_eq_true_eq,ay];constructor
 ·rintro⟨x,O,D⟩;obtain⟨j,H,rfl⟩:=ap O;rw[e j H]at D;have h1:k<=j:=by
   refine Classical.byContradiction fun h=>?_
   have:=Z j (by omega);rw[D,YX]at this;cases this
  rcases az k j with I|I
  ·have J:=uP U I H;have K:=a0 k nR (by omega);rw[D]at J;rw[J]at K;cases K
  ·obtain rfl:j=k:=by omega
   exact⟨H,D⟩
 ·rintro⟨B,D⟩;exact⟨l[k],aY B,by rw[e k B];exact D⟩
theorem V5 (p:Option bA)(l:List Yb)(c:Nat)(t:Int×Int)(w:World)(hl:l.length<=1000)(hs:l.Pairwise fun x y=>Qd (Zd x) (Zd y)=ag)(hr:Ql Ze w p l):
 af Tryz.prog 137 #[.slice p l.length c,.agg #[.int .i64 t.1,.int .i64 t.2],.func (.func 138) #[] #[]] w fun e w'=>e=.returned (.tuple #[.int .i64 ((Jq l t:Nat):Int),.bool (J5 l t)])/\ac w.heap.size w w':=by
 have e3:Tryz.prog.follows .mixedOrders=true:=by kernel_rfl
 have Z:Hid (∀(v:Yb) (W:World),af Tryz.prog 138 #[.agg #[.int .i64 v.n,.int .i64 v.who,.int .i64 v.size,.int .i64 v.at_,.string v.text],.agg #[.int .i64 t.1,.int .i64 t.2]] W fun e w'=>e=.returned (.int .i64 (JZ (Zd v) t))/\∃q os,w'=grow (W.drewN q) os):=fun v W=>Jre v t W
 have a4:Hid (∀v:Yb,decide (JZ (Zd v) t<0)=Qd (Zd v) t):=fun v=>CG
 have a5:Hid (∀v:Yb,JZ (Zd v) t=0↔Zd v=t):=fun v=>LX
 have c8:Hid (∀i j,i<j->j<l.length->Qd (Zd (Xd l i)) (Zd (Xd l j))=ag):=fun i j O K=>uP hs O K
 have HP:Hid (∀k,k<=l.length->(∀j,j<k->Qd (Zd (Xd l j)) t=ag)->(∀j,k<=j->j<l.length->Qd (Zd (Xd l j)) t=F)->Jq l t=k/\J5 l t=(decide (k<l.length)&&decide (Zd (Xd l k)=t))):=fun k O K U=>⟨A6 O K U,U9 hs K U⟩
 generalize Jq l t=H at *;generalize J5 l t=R2 at *;obtain⟨B,D⟩:=t;obtain⟨w1,a0⟩:=Xb (w.alloc (.cells #[.int .i64 B,.int .i64 D] 39));have d0:Hid _:=a0;have a6:Hid (ac w.heap.size w w1):=by rw[a0];exact(an _ _).alloc nR _
 have d1:=fQ a0;obtain⟨k1,k2⟩:=lO (JH a0);have a7:Hid (∀W,ac w1.heap.size w1 W->W.cell? ⟨w.heap.size,0,ab⟩=aa (.int .i64 B)/\W.cell? ⟨w.heap.size,1,ab⟩=aa (.int .i64 D)/\Ql Ze W p l/\ac w.heap.size w W):=fun W hW=>⟨(hW.cell (p:=⟨w.heap.size,0,ab⟩) d1).trans k1,(hW.cell (p:=⟨w.heap.size,1,ab⟩) d1).trans k2,(hr.below a6.out).below hW,a6.out.trans (hW.mono a6.out.size)⟩
 clear a0 k1 k2 hr hs a6;have a2:Hid (∀i j,i<=j->j<l.length->Qd (Zd (Xd l j)) (B,D)=ag->Qd (Zd (Xd l i)) (B,D)=ag):=fun i j O K U=>by
  rcases az i j with h4|h4
  ·exact vC (c8.out i j h4 K) U
  ·obtain rfl:i=j:=by omega
   exact U
 clear c8;go_enter Tryz.func137,Tryz.ntmps137;go_wp2;rw[<-d0.out];clear d0;go_loopw [9,10] (fun a b wq=>∃J I:Nat,J<=I/\I<=l.length/\a=.int .i64 J/\b=.int .i64 I/\(∀j,j<J->Qd (Zd (Xd l j)) (B,D)=ag)/\(∀j,I<=j->j<l.length->Qd (Zd (Xd l j)) (B,D)=F)/\ac w1.heap.size w1 wq) (fun a b _=>(intOf b).toNat-(intOf a).toNat)
 case atStart=>exact⟨0,l.length,aF _,al _,rfl,rfl,fun j hj=>absurd hj (ba _),fun j O K=>by omega,an _ _⟩
 case round =>
  obtain⟨J,I,e4,d2,rfl,rfl,d3,d4,b2⟩:=hrel;obtain⟨w2,rfl⟩:=Xb wr;have a8:Hid _:=d3;have a9:Hid _:=d4;have b0:Hid _:=b2;obtain⟨q1,q2,d5,d6⟩:=a7.out w2 b2;have a3:Hid _:=d5;have b3:Hid _:=d6;clear d3 d4 b2 d5 d6;by_cases e5:J<I
  ·obtain⟨M,hM⟩:∃M:Nat,M=(J+I)/2:=⟨_,rfl⟩;have e6:J<=M:=by omega
   have e7:M<I:=by omega
   have d7:M<l.length:=by omega
   have e8:((J:Int)+(I:Int))/2=(M:Int):=by omega
   have d9:(0:Int)<=(M:Int):=by omega
   have e0:(M:Int)<(l.length:Int):=by omega
   obtain⟨b,o,b4,e1,c0,c1,c2,c3,c4⟩:=QU a3.out d7;have e9:=a4.out (Xd l M);have HC:Hid (∀W,af Tryz.prog 138 #[.agg #[.int .i64 (Xd l M).n,.int .i64 (Xd l M).who,.int .i64 (Xd l M).size,.int .i64 (Xd l M).at_,.string (Xd l M).text],.agg #[.int .i64 B,.int .i64 D]] W fun e w'=>e=.returned (.int .i64 (JZ (Zd (Xd l M)) (B,D)))/\∃q os,w'=grow (W.drewN q) os):=fun W=>Z.out (Xd l M) W
   subst b4;have b5:Hid (Qd (Zd (Xd l M)) (B,D)=ag->∀j,j<M+1->Qd (Zd (Xd l j)) (B,D)=ag):=fun h j hj=>a2.out j M (by omega) d7 h
   have b6:Hid (Qd (Zd (Xd l M)) (B,D)=F->∀j,M<=j->j<l.length->Qd (Zd (Xd l j)) (B,D)=F):=fun h j O K=>by
    cases U:Qd (Zd (Xd l j)) (B,D)
    ·rfl
    ·rw[a2.out M j O K U]at h;cases h
   generalize Qd (Zd (Xd l M)) (B,D)=r at *;generalize JZ (Zd (Xd l M)) (B,D)=cc at *;generalize Xd l M=y at *;have j1:=ai (Zn q1) q1;have j2:=ai (Zn q2) q2;have i0:=ai (Zn c0) c0;have i1:=ai (Zn c1) c1;have i2:=ai (Zn c2) c2;have i3:=ai (Zn c3) c3;have i4:=ai (Zn c4) c4;clear hM Z a4 a5 HP a7 a2 a3;cases r with
   |true =>
    have HN:=b5.out rfl;have b7:Hid _:=HN;clear HN b5 b6 a8;go_wp2
    go_quiet_grown ((go_at_call 138;exact Calls.grown_of (HC.out _)))
    go_wp2;go_roundw
    case rel=>exact⟨M+1,I,by omega,d2,by go_num,rfl,b7.out,a9.out,b0.out.trans ((xH w2 _ _).mono b0.out.size)⟩
    case measure=>simp[intOf];omega
   |false =>
    have HN:=b6.out rfl;have b7:Hid _:=HN;clear HN b5 b6 a9;go_wp2
    go_quiet_grown ((go_at_call 138;exact Calls.grown_of (HC.out _)))
    go_wp2;go_roundw
    case rel=>exact⟨J,M,by omega,by omega,rfl,by go_num,a8.out,b7.out,b0.out.trans ((xH w2 _ _).mono b0.out.size)⟩
    case measure=>simp[intOf];omega
  ·obtain rfl:I=J:=by omega
   obtain⟨e2,d8⟩:=HP.out I d2 a8.out a9.out;subst e2;have b1:Hid _:=d8;clear d8 a8 a9;by_cases b8:H<l.length
   ·have d9:(0:Int)<=(H:Int):=by omega
    have e0:(H:Int)<(l.length:Int):=by omega
    obtain⟨b,o,b4,e1,c0,c1,c2,c3,c4⟩:=QU a3.out b8;have HC:Hid (∀W,af Tryz.prog 138 #[.agg #[.int .i64 (Xd l H).n,.int .i64 (Xd l H).who,.int .i64 (Xd l H).size,.int .i64 (Xd l H).at_,.string (Xd l H).text],.agg #[.int .i64 B,.int .i64 D]] W fun e w'=>e=.returned (.int .i64 (JZ (Zd (Xd l H)) (B,D)))/\∃q os,w'=grow (W.drewN q) os):=fun W=>Z.out (Xd l H) W
    have HZ:Hid (R2=decide (JZ (Zd (Xd l H)) (B,D)=0)):=by
     show _=_;rw[b1.out,decide_eq_true b8,Bool.true_and];exact decide_eq_decide.2 (a5.out (Xd l H)).symm
    subst b4;clear b1;generalize JZ (Zd (Xd l H)) (B,D)=cc at *;generalize Xd l H=y at *;have j1:=ai (Zn q1) q1;have j2:=ai (Zn q2) q2;have i0:=ai (Zn c0) c0;have i1:=ai (Zn c1) c1;have i2:=ai (Zn c2) c2;have i3:=ai (Zn c3) c3;have i4:=ai (Zn c4) c4;clear Z a4 a5 HP a7 a2 a3;go_wp2
    go_quiet_grown ((go_at_call 138;exact Calls.grown_of (HC.out _)))
    go_wp2
    go_ret2
    exact⟨by rw[HZ.out];rfl,b3.out.trans ((xH w2 _ _).mono b3.out.size)⟩
   ·have HZ:Hid (R2=F):=by show _=_;rw[b1.out,decide_eq_false b8];rfl
    clear b1 Z a4 a5 HP a7 a2 a3;go_wp2;go_quiet (fail)
    go_wp2
    go_ret2
    exact⟨by rw[HZ.out];rfl,b3.out.trans ⟨rfl,rfl,rfl,al _,fun _ _=>rfl⟩⟩
theorem MR (p:Option bA)(l:List Yb)(c:Nat)(t:Int×Int)(w:World)(hl:l.length<=1000)(J:l.Pairwise fun x y=>Qd (Zd x) (Zd y)=ag)(K:Ql Ze w p l):
 af Tryz.prog 114 #[.slice p l.length c,.agg #[.int .i64 t.1,.int .i64 t.2]] w fun e w'=>e=.returned (.tuple #[.int .i64 ((Jq l t:Nat):Int),.bool (J5 l t)])/\ac w.heap.size w w':=by
 obtain⟨B,D⟩:=t;have H:Hid (ac w.heap.size w (w.alloc (.cells #[.int .i64 B,.int .i64 D] 39))):=(an _ _).alloc nR _;have O:Hid (∀W,ac w.heap.size w W->af Tryz.prog 137 #[.slice p l.length c,.agg #[.int .i64 B,.int .i64 D],.func (.func 138) #[] #[]] W fun e w'=>e=.returned (.tuple #[.int .i64 ((Jq l (B,D):Nat):Int),.bool (J5 l (B,D))])/\ac W.heap.size W w'):=fun W U=>V5 p l c (B,D) W hl J (K.below U)
 clear J K;generalize Jq l (B,D)=R1 at *;generalize J5 l (B,D)=R2 at *;go_enter Tryz.func114,Tryz.ntmps114;go_wp2_with fail
 refine(O.out _ H.out).mono ?_;rintro e w2 ⟨rfl,I⟩;have Z:Hid _:=H.out.trans (I.mono H.out.size);clear I;go_wp2
 go_ret2
 exact⟨rfl,Z.out⟩
end
section
variable {h:Nat} {S:Nat->Prop} {L:List Yh} {s:Bool} {m:Option Nat} {D:zb aj} {row:BA->aj} {blk:BA->Nat}
theorem oW (ad:Nat->bA)(i:Nat)(B:i<12):oJ ad (.iface 287 (.pointer (aa (ad i)))) ((i+1:Nat):Int):=aM ⟨i,B,rfl,rfl⟩
def lQ (w:World)(ad:Nat->bA)(c:Int)(e:Ending)(w':World):Prop:=(∃B,e=.returned B/\oJ ad B c)/\ac w.heap.size w w'
theorem F9 {L:List Yh}(hs:Yw L){x v:Yb}(hx:x∈Xc L key)(J:Zd x=Zd v):Jq (Xc L key) (Zd v)<(Xc L key).length/\Xd (Xc L key) (Jq (Xc L key) (Zd v))=x:=by
 obtain⟨j,B,rfl⟩:=ap hx;have e:∀k (H:k<(Xc L key).length),(Xc L key)[k]=Xd (Xc L key) k:=fun k H=>by
  have:=Xx H;rw[ae H]at this;exact ah this
 have K:=xY hs key;have Z:Jq (Xc L key) (Zd v)=j:=by
  refine A6 (by omega) (fun i hi=>?_) (fun i a2 a0=>?_)
  ·have:=uP K hi B;rw[<-e j B,J]at this;exact this
  ·cases I:Qd (Zd (Xd (Xc L key) i)) (Zd v)
   ·rfl
   ·rcases az j i with O|O
    ·have:=uP K O a0;rw[<-e j B,J]at this;have U:=vC this I;rw[YX]at U;cases U
    ·obtain rfl:i=j:=by omega
     rw[<-e i B,J,YX]at I;cases I
 rw[Z];exact⟨B,(e j B).symm⟩
theorem JlA {x:Yb}(B:x∈l)(H:Zd x=t):J5 l t=true:=zk.2 ⟨x,B,decide_eq_true H⟩
theorem WA (H:∀x∈l,Zd x≠t):J5 l t=false:=by
 unfold J5;rw[List.any_eq_false];intro x B;simpa using H x B
theorem VT {U H:World}(B:QC w h S L F m D row blk)(key:BA)(v:Yb)(hk:Jo key=ag)(hG:kF (XK L key v))(Z:ac w.heap.size w U)(hO:Zc Ze 142 H 0 v' (fN (Xc L key) (Jq (Xc L key) (Zd v)) v))(hg:U.grownBy H (row key).ownBlock)(a5:(v'.ownBlock=(row key).ownBlock/\(row key).ownBlock≠ab)∨∃k,v'.ownBlock=aa k/\U.heap.size<=k):
 af Tryz.prog 116 #[.pointer (aa ⟨h,0,ab⟩),.string key,v'] H fun e w'=>e=.returned (.tuple #[])/\QB w' h (JI S w w') (XK L key v) F/\Yd S (JI S w w') w w':=by
 have I:=B.below Z;have b2:h<w.heap.size:=B.dH h B.self;have b3:=Z.size;have a6:aa h≠(row key).ownBlock:=fun e=>by
  obtain⟨_,h2,h3⟩:=B.eD e.symm;exact(B.aO key h2).2.2.1 h3.symm
 have K:H.heap[h]?=U.heap[h]?:=hg.block h (by omega) a6;have O:=(Qx K 0).1.trans I.ptr;have q1:=(Qx K 1).1.trans I.shut;have f0:=(Qx K 0).2.trans I.fP;have f1:=(Qx K 1).2.trans I.fD;have b4:=QF hk;obtain⟨p',c',a3,_,_,_,_⟩:=hO.form;have a7:Jq (Xc L key) (Zd v)<=(Xc L key).length:=aN;have b5:=yB a7 v;have b6:=oF L key;have b7:=B.bO;cases hm:m with
 |some b =>
  subst hm;obtain⟨a8,a9,⟨n,a4⟩,h4,h5⟩:=I.eY b rfl;have b0:aa b≠(row key).ownBlock:=fun e=>by
   obtain⟨_,h2,h3⟩:=B.eD e.symm;exact(B.aO key h2).2.2.2 b rfl h3.symm
  have b8:b<w.heap.size:=B.dH b a8;have b1:QX H b (bn D) D:=(QX.tight a4).same (hg.block b (by omega) b0);have c8:=B.size rfl;have J:=KX h b (bn D) D key p' (fN (Xc L key) (Jq (Xc L key) (Zd v)) v).length c' H (by omega) (by omega) (by omega) O b1 (by unfold am;omega);rw[<-a3]at J;refine J.mono fun e w' a0=>?_
  obtain⟨he,a2⟩:=a0;exact⟨he,B.put key v hG Z hO hg a5 (T0 a9 O q1 f0 f1 a2) (ar rfl) (World.ownsMap.isMap a4) h4 h5⟩
 |none =>
  subst hm;have hL:=B.nothing rfl;have J:=SP h key p' (fN (Xc L key) (Jq (Xc L key) (Zd v)) v).length c' H (by omega) (by omega) (by omega) O f0;rw[<-a3]at J;refine J.mono fun e w' a0=>?_
  obtain⟨he,a2⟩:=a0;refine⟨he,B.put key v hG Z hO hg a5 (X6 O q1 f0 f1 a2) (aM ⟨rfl,al _⟩) Maps.isMap_empty (fun x _=>?_) (fun x hx=>?_)⟩
  ·rw[hL];rfl
  ·rw[hL]at hx;exact absurd rfl hx
theorem rL {s:Bool}{L:List Yh}{v:Yb}{c:Int}(H:0<c)(B:Ju L s key v=c):Qt L s key v=(c,L):=by unfold Qt;rw[B,if_neg (by omega),if_neg (by omega)]
theorem SM {s:Bool}(H:QC w h S L s m D row blk)(key:BA)(v:Yb)(hk:key.size<=am)(ht:v.text.size<=am)(hE:jV w ad){Q:Ending->World->Prop}(HN:∀c,Qt L s key v=(c,L)->∀e w',lQ w ad c e w'->Q e w')(H1:Qt L s key v=(0,XK L key v)->∀e w',e=.returned .nilIface/\QB w' h (JI S w w') (XK L key v) s/\Yd S (JI S w w') w w'->Q e w'):
 af Tryz.prog 87 #[.pointer (aa ⟨h,0,ab⟩),.string key,DN v] w Q:=by
 obtain⟨I,b8⟩:=Xb (w.alloc (.cells #[.int .i64 v.n,.int .i64 v.who,.int .i64 v.size,.int .i64 v.at_,.string v.text] 142));have g6:Hid (I=w.alloc (.cells #[.int .i64 v.n,.int .i64 v.who,.int .i64 v.size,.int .i64 v.at_,.string v.text] 142)):=b8;have a7:=Zk b8;have c8:=fQ b8;obtain⟨b0,b1,b2,b3,b4⟩:=zB (JH b8);have g7:Hid (af Tryz.prog 85 #[.pointer (aa (pA h 0))] I fun e w'=>e=.returned (.bool s)/\w'=I):=FD (H.below a7);have a0:Hid (∀W,ac I.heap.size I W->(W.cell? (pA w.heap.size 0)=aa (.int .i64 v.n)/\W.cell? (pA w.heap.size 1)=aa (.int .i64 v.who)/\W.cell? (pA w.heap.size 2)=aa (.int .i64 v.size)/\W.cell? (pA w.heap.size 3)=aa (.int .i64 v.at_)/\W.cell? (pA w.heap.size 4)=aa (.string v.text))/\jV W ad/\QC W h S L s m D row blk/\ac w.heap.size w W):=fun W J=>⟨⟨(J.cell (p:=(pA w.heap.size 0)) c8).trans b0,(J.cell (p:=(pA w.heap.size 1)) c8).trans b1,(J.cell (p:=(pA w.heap.size 2)) c8).trans b2,(J.cell (p:=(pA w.heap.size 3)) c8).trans b3,(J.cell (p:=(pA w.heap.size 4)) c8).trans b4⟩,(hE.below a7).below J,(H.below a7).below J,a7.trans (J.mono a7.size)⟩
 have e1:Hid (∀W,af Tryz.prog 50 #[.string key] W fun e w'=>e=.returned (.bool (Jo key))/\ac W.heap.size W w'):=fun W=>qF key W
 have e2:Hid (∀W,af Tryz.prog 113 #[.agg #[.int .i64 v.n,.int .i64 v.who,.int .i64 v.size,.int .i64 v.at_,.string v.text]] W fun e w'=>e=.returned (.bool (Y7 v))/\ac W.heap.size W w'):=fun W=>TS v W ht
 have j2:Hid (ac w.heap.size w I):=a7;have U:Hid (∀c,Qt L s key v=(c,L)->∀e w',lQ w ad c e w'->Q e w'):=HN;have a4:Hid (Qt L s key v=(0,XK L key v)->∀e w',e=.returned .nilIface/\QB w' h (JI S w w') (XK L key v) s/\Yd S (JI S w w') w w'->Q e w'):=H1;clear b8 a7 b0 b1 b2 b3 b4 HN H1;show af Tryz.prog 87 #[.pointer (aa (pA h 0)),.string key,.agg #[.int .i64 v.n,.int .i64 v.who,.int .i64 v.size,.int .i64 v.at_,.string v.text]] w _;go_enter Tryz.func87,Tryz.ntmps87;go_wp2_with fail
 rw[<-g6.out];refine g7.out.mono ?_;rintro e w0 ⟨rfl,d5⟩;rw[d5];clear d5 w0 g7 g6;cases s with
 |true =>
  have q9:=(a0.out I bR).2.1.c9;have O:Hid (∀e w',lQ w ad 10 e w'->Q e w'):=U.out 10 (rL (by decide) (if_pos rfl));clear e2 e1 U a4 a0;go_wp2;exact O.out _ _ ⟨⟨_,rfl,oW ad 9 (by decide)⟩,j2.out⟩
 |false =>
  go_wp2_with fail
  refine(e1.out _).mono ?_;rintro e w3 ⟨rfl,g8⟩;have d6:ac I.heap.size I w3:=g8;obtain⟨⟨c0,c1,c2,c3,c4⟩,e6,g9,e7⟩:=a0.out w3 d6;clear g8;cases hN:Jo key with
  |false =>
   have q3:=e6.c3;have k5:Hid (ac w.heap.size w w3):=e7;have O:Hid (∀e w',lQ w ad 4 e w'->Q e w'):=U.out 4 (rL (by decide) (by unfold Ju;rw[if_neg (by decide),if_neg (by rw[hN];decide)]));clear d6 e6 g9 e7 c0 c1 c2 c3 c4 e2 e1 U a4 a0;go_wp2;exact O.out _ _ ⟨⟨_,rfl,oW ad 3 (by decide)⟩,k5.out⟩
  |true =>
   go_wp2_with fail
   refine(e2.out _).mono ?_;rintro e w4 ⟨rfl,h6⟩;have d7:ac I.heap.size I w4:=d6.trans (h6.mono d6.size);obtain⟨⟨d0,d1,d2,d3,d4⟩,e8,e3,e9⟩:=a0.out w4 d7;clear h6 d6 c0 c1 c2 c3 c4 e6 g9 e7 e2;cases hV:Y7 v with
   |false =>
    have q1:=e8.c1;have k6:Hid (ac w.heap.size w w4):=e9;have O:Hid (∀e w',lQ w ad 2 e w'->Q e w'):=U.out 2 (rL (by decide) (by unfold Ju;rw[if_neg (by decide),if_pos hN,if_neg (by rw[hV];decide)]));clear d7 d0 d1 d2 d3 d4 e8 e3 e9 e1 U a4 a0;go_wp2;exact O.out _ _ ⟨⟨_,rfl,oW ad 1 (by decide)⟩,k6.out⟩
   |true =>
    have a5:Ju L F key v=Jx L key v 0 L.length:=by unfold Ju;rw[if_neg (by decide),if_pos hN,if_pos hV]
    have f5:Hid (af Tryz.prog 111 #[.pointer (aa (pA h 0)),.string key] w4 fun e w'=>e=.returned (row key)/\w'=w4):=I8 e3 key hk;obtain⟨p,c,f6,f7,k7,l0,l7⟩:=e3.form key;have h7:Hid (af Tryz.prog 114 #[.slice p (Xc L key).length c,.agg #[.int .i64 v.n,.int .i64 v.who]] w4 fun e w'=>e=.returned (.tuple #[.int .i64 ((Jq (Xc L key) (Zd v):Nat):Int),.bool (J5 (Xc L key) (Zd v))])/\ac w4.heap.size w4 w'):=MR p (Xc L key) c (Zd v) w4 (by have:=oF L key;have:=H.bO;omega) (xY H.sorted key) f7;have a6:Hid (row key=.slice p (Xc L key).length c):=f6;rw[f6]at f5;go_wp2_with fail
    refine f5.out.mono ?_;rintro e w0 ⟨rfl,d5⟩;rw[d5];clear d5 w0 f5;go_wp2_with fail
    refine h7.out.mono ?_;rintro e B ⟨rfl,f8⟩;have f9:ac I.heap.size I B:=d7.trans (f8.mono d7.size);have d8:Hid (Ql Ze B p (Xc L key)):=f7.below f8;obtain⟨⟨f0,f1,f2,f3,f4⟩,b6,h8,h9⟩:=a0.out B f9;have a2:Hid (QC B h S L F m D row blk):=h8;have b7:Hid (ac I.heap.size I B):=f9;have a8:Hid (ac w.heap.size w B):=h9;clear f8 d7 f9 d0 d1 d2 d3 d4 e8 e3 e9 h7 f6 f7 l0 l7 h8 h9 k7;have n3:(Xc L key).length<=60:=zh (oF _ _) H.bO;by_cases hx:∃x∈Xc L key,Zd x=Zd v
    ·obtain⟨x,hx,a9⟩:=hx;have a3:=KG H.sorted hx a9;have l9:Jq (Xc L key) (Zd v)<(Xc L key).length:=(F9 H.sorted hx a9).1;obtain⟨bb,oo,m0,n4,g0,g1,g2,g3,g4⟩:=QU d8.out l9;rw[(F9 H.sorted hx a9).2]at g0 g1 g2 g3 g4;rw[JlA hx a9];subst m0;by_cases d9:x=v
     ·have O:Hid (∀e w',lQ w ad 0 e w'->Q e w'):=U.out 0 (by unfold Qt;rw[a5,a3,if_pos d9,if_neg (by decide),if_pos (by decide)]);clear U a4 a3 a5;generalize Jq (Xc L key) (Zd v)=K at *;generalize (Xc L key).length=n at *;have m4:(0:Int)<=(K:Int):=by omega
      have m5:(K:Int)<(n:Int):=by omega
      clear b6 d8 a6 a2 H a0 b7;subst d9;clear hx a9;obtain⟨xn,xw,xs,xa,xt⟩:=x;go_wp2;go_quiet (fail)
      go_wp2;exact O.out _ _ ⟨⟨_,rfl,ar ⟨rfl,rfl⟩⟩,a8.out.trans ⟨rfl,rfl,rfl,al _,fun _ _=>rfl⟩⟩
     ·have O:Hid (∀e w',lQ w ad 6 e w'->Q e w'):=U.out 6 (rL (by decide) (by rw[a5,a3,if_neg d9]));clear U a4 a3 a5;generalize Jq (Xc L key) (Zd v)=K at *;generalize (Xc L key).length=n at *;have m4:(0:Int)<=(K:Int):=by omega
      have m5:(K:Int)<(n:Int):=by omega
      have q5:=b6.c5;clear b6 d8 a6 a2 H a0 b7;obtain⟨xn,xw,xs,xa,xt⟩:=x;obtain⟨yn,yw,ys,ya,yt⟩:=v;have m6:xn=yn/\xw=yw:=by simpa[Zd]using a9
      obtain⟨rfl,rfl⟩:=m6;have m7:((xs==ys)=F)∨xs=ys/\(((xa==ya)=F)∨xa=ya/\xt≠yt):=by
       by_cases h3:xs=ys
       ·refine aM ⟨h3,?_⟩;by_cases h4:xa=ya
        ·refine aM ⟨h4,fun h5=>d9 (by rw[h3,h4,h5])⟩
        ·exact ar (beq_eq_false_iff_ne.2 h4)
       ·exact ar (beq_eq_false_iff_ne.2 h3)
      clear d9 hx a9;rcases m7 with g|⟨rfl,g|⟨rfl,g⟩⟩
      rotate_right
      ·have d1:=XT g;have d2:=YT g;have d3:=Y8 g;clear g;go_wp2;go_quiet (fail)
       go_wp2;exact O.out _ _ ⟨⟨_,rfl,oW ad 5 (by decide)⟩,a8.out.trans ⟨rfl,rfl,rfl,al _,fun _ _=>rfl⟩⟩
      all_goals
       go_wp2;go_quiet (fail)
       go_wp2;exact O.out _ _ ⟨⟨_,rfl,oW ad 5 (by decide)⟩,a8.out.trans ⟨rfl,rfl,rfl,al _,fun _ _=>rfl⟩⟩
    ·have hn:∀x∈Xc L key,Zd x≠Zd v:=fun x h1 h2=>hx ⟨x,h1,h2⟩
     have a3:=zQ hn L.length 0 (by omega);clear hx;rw[WA hn];by_cases hF:60<=L.length
     ·have O:Hid (∀e w',lQ w ad 7 e w'->Q e w'):=U.out 7 (rL (by decide) (by rw[a5,a3,if_pos hF]));clear U a4 a3 a5;have e4:Hid (∀W,ac B.heap.size B W->af Tryz.prog 115 #[.pointer (aa (pA h 0))] W fun e w'=>e=.returned (.int .i64 (L.length:Int))/\ac W.heap.size W w'):=fun W J=>KL (a2.out.below J)
      have m8:Hid (jV B ad):=b6;generalize Jq (Xc L key) (Zd v)=K at *;generalize (Xc L key).length=n at *;have n5:(60:Int)<=(L.length:Int):=by omega
      clear b6 d8 a6 a2 H a0 b7 hF hn;generalize L.length=N at *;go_wp2;go_quiet (fail)
      go_wp2_with fail
      refine(e4.out (B.drewN nq) ⟨rfl,rfl,rfl,al _,fun _ _=>rfl⟩).mono ?_;rintro e w6 ⟨rfl,Z⟩;have b5:ac B.heap.size B w6:=⟨Z.os,Z.tape,Z.output,Z.size,Z.block⟩;have q6:=(m8.out.below b5).c6;have m9:Hid (ac w.heap.size w w6):=a8.out.trans (b5.mono a8.out.size);clear Z b5;go_wp2;exact O.out _ _ ⟨⟨_,rfl,oW ad 6 (by decide)⟩,m9.out⟩
     ·have h0:Ju L F key v=0:=by rw[a5,a3,if_neg hF]
      have O:Hid (∀e w',e=.returned .nilIface/\QB w' h (JI S w w') (XK L key v) F/\Yd S (JI S w w') w w'->Q e w'):=a4.out (by unfold Qt;rw[if_pos h0]);have hG:kF (XK L key v):=(kF.put (⟨H.sorted,H.bO,H.fits⟩:kF L) h0).1
      replace hF:L.length<60:=by omega
      clear U a4 a3 a5 h0;have e4:Hid (∀W,ac B.heap.size B W->af Tryz.prog 115 #[.pointer (aa (pA h 0))] W fun e w'=>e=.returned (.int .i64 (L.length:Int))/\ac W.heap.size W w'):=fun W J=>KL (a2.out.below J)
      have n6:¬(60:Int)<=(L.length:Int):=by omega
      have i0:Jq (Xc L key) (Zd v)<=(Xc L key).length:=aN;have i1:Hid (∀w7,ac B.heap.size B w7->af Tryz.prog 117 #[.slice p (Xc L key).length c,.int .i64 ((Jq (Xc L key) (Zd v):Nat):Int),.slice (aa (pA w7.heap.size 0)) 1 1] (w7.alloc (.cells #[.int .i64 v.n,.int .i64 v.who,.int .i64 v.size,.int .i64 v.at_,.string v.text] 142)) fun e w'=>lB (w7.alloc (.cells #[.int .i64 v.n,.int .i64 v.who,.int .i64 v.size,.int .i64 v.at_,.string v.text] 142)) w' (.slice p (Xc L key).length c) (Xc L key) (Jq (Xc L key) (Zd v)) v e):=fun w7 e0=>by
       have n0:=(a2.out.below e0).below (bR.alloc nR (.cells #[.int .i64 v.n,.int .i64 v.who,.int .i64 v.size,.int .i64 v.at_,.string v.text] 142));have hO:=n0.own key;rw[a6.out]at hO;refine KV _ (Xc L key) _ v w7.heap.size 1 #[.int .i64 v.n,.int .i64 v.who,.int .i64 v.size,.int .i64 v.at_,.string v.text] 142 _ (by omega) i0 hO (fun j u hj=>?_) (fun k hk e=>?_) (heap_alloc_new _ _)
       ·rw[zf _ _ _ _ rfl]
        match j,hj with
        |0,hj=>exact hj
        |1,hj=>exact hj
        |2,hj=>exact hj
        |3,hj=>exact hj
        |4,hj=>exact hj
       ·rw[<-a6.out]at hk;have h1:=a2.out.dH k (a2.out.eD hk).1;have h2:=e0.size;omega
      have i2:Hid (∀w8 w9 v',ac B.heap.size B w8->Zc Ze 142 w9 0 v' (fN (Xc L key) (Jq (Xc L key) (Zd v)) v)->w8.grownBy w9 (Value.slice p (Xc L key).length c).ownBlock->((v'.ownBlock=(Value.slice p (Xc L key).length c).ownBlock/\(Value.slice p (Xc L key).length c).ownBlock≠ab)∨∃k,v'.ownBlock=aa k/\w8.heap.size<=k)->af Tryz.prog 116 #[.pointer (aa (pA h 0)),.string key,v'] w9 fun e w'=>e=.returned (.tuple #[])/\QB w' h (JI S w w') (XK L key v) F/\Yd S (JI S w w') w w'):=fun w8 w9 v' h1 h2 h3 h4=>VT H key v hN hG (a8.out.trans (h1.mono a8.out.size)) h2 (by rw[a6.out];exact h3) (by rw[a6.out];exact h4)
      have i3:Hid (∀W,af Tryz.prog 112 #[.agg #[.int .i64 v.n,.int .i64 v.who,.int .i64 v.size,.int .i64 v.at_,.string v.text]] W fun e w'=>e=.returned (.agg #[.int .i64 v.n,.int .i64 v.who,.int .i64 v.size,.int .i64 v.at_,.string v.text])/\ac W.heap.size W w'):=fun W=>F5 v W (by have:=BV hV;omega)
      have n1:Hid (∀W,ac B.heap.size B W->W.cell? (pA w.heap.size 0)=aa (.int .i64 v.n)/\W.cell? (pA w.heap.size 1)=aa (.int .i64 v.who)/\W.cell? (pA w.heap.size 2)=aa (.int .i64 v.size)/\W.cell? (pA w.heap.size 3)=aa (.int .i64 v.at_)/\W.cell? (pA w.heap.size 4)=aa (.string v.text)):=fun W J=>(a0.out W (b7.out.trans (J.mono b7.out.size))).1
      generalize Jq (Xc L key) (Zd v)=K at *;clear hG b6 d8 a6 a2 H a0 b7 hn i0 hF;generalize L.length=N at *;go_wp2;go_quiet (fail)
      go_wp2_with fail
      refine(e4.out (B.drewN nq) ⟨rfl,rfl,rfl,al _,fun _ _=>rfl⟩).mono ?_;rintro e w6 ⟨rfl,Z⟩;have b5:ac B.heap.size B w6:=⟨Z.os,Z.tape,Z.output,Z.size,Z.block⟩;obtain⟨k0,k1,k2,k3,k4⟩:=n1.out w6 b5;have i4:Hid (ac B.heap.size B w6):=b5;clear Z b5 f0 f1 f2 f3 f4 e4;go_wp2_with fail
      refine(i3.out _).mono ?_;rintro e w7 ⟨rfl,e0⟩;have g5:Hid (ac B.heap.size B w7):=i4.out.trans (e0.mono i4.out.size);clear e0 k0 k1 k2 k3 k4 i3;go_wp2_with fail
      refine(i1.out w7 g5.out).mono ?_;rintro e w9 ⟨v',rfl,i5,i8,i9⟩;have j1:=i2.out (w7.alloc (.cells #[.int .i64 v.n,.int .i64 v.who,.int .i64 v.size,.int .i64 v.at_,.string v.text] 142)) w9 v' (g5.out.alloc g5.out.size _) i5 i8 i9;have n2:Hid (af Tryz.prog 116 #[.pointer (aa (pA h 0)),.string key,v'] w9 fun e w'=>e=.returned (.tuple #[])/\QB w' h (JI S w w') (XK L key v) F/\Yd S (JI S w w') w w'):=j1;clear j1 i5 i8 i9 i2 i1;go_wp2_with fail
      refine n2.out.mono ?_;rintro e e5 ⟨rfl,hH⟩;have HH:Hid (QB e5 h (JI S w e5) (XK L key v) F/\Yd S (JI S w e5) w e5):=hH;clear hH;go_wp2;exact O.out _ _ ⟨rfl,HH.out⟩
theorem WH (K:QB w h S L s)(key:BA)(v:Yb)(U:key.size<=am)(Z:v.text.size<=am)(hE:jV w ad):
 af Tryz.prog 87 #[.pointer (aa ⟨h,0,ab⟩),.string key,DN v] w fun e w'=>(∃I,e=.returned I/\oJ ad I (Qt L s key v).1)/\∃J,QB w' h J (Qt L s key v).2 s/\Yd S J w w':=by
 obtain⟨m,D,row,blk,O⟩:=id K;exact SM O key v U Z hE (fun c H e w' B=>by rw[H];exact⟨B.1,S,K.below B.2,Yd.aJ B.2⟩) (fun H e w' B=>by rw[H];exact⟨⟨_,B.1,ar ⟨rfl,rfl⟩⟩,_,B.2⟩)
end
end Go.Proofs.YtgapmoniajcliaaGreatDoor

/- Texts laid together. -/
import Derived.Lib.SliceRun
import Derived.Test.YtfgapcknnoeplaaGreatDoorX16
import Derived.Test.YtfgapcknnoeplaaGreatDoorX14
set_option maxRecDepth 10000
set_option maxHeartbeats 4000000
open Option renaming some->aa,none->N
open List renaming length_take->ac,length_append->ae,length_drop->af,take_append_drop->ag,size_toArray->am,getElem?_append_right->ay,length_eq_zero_iff->zc,getD_eq_getElem?_getD->zd,append_assoc->ze,take_left'->ba,length_map->bq,range->zq
open Go.Value renaming ownBlock->ah,agg->bm
open Array renaming length_toList->ai,getElem?_eq_some_iff->aE,getElem?_eq_none->zi
open Nat renaming lt_of_lt_of_le->aj,zero_add->aq,le_trans->au,min_def->ax,add_sub_cancel_left->zb,zero_le->bb,le_refl->bc,lt_or_ge->bh
open Go.IntKind renaming wrap_i64->ak,i64->az
open Go.World renaming cell?_of_block->al,frozen?_of_block->av,setRow->bi,cell?->bo,setCell->bx
open Go.Addr renaming add_lit->an,block->zu
open Go.Builtin renaming append_->ap,zeroCells->zf,copy_->zg,clear_->bd
open Go renaming Value->ar,setRow_other->aF,Calls->aM,setRow_heap->aP,info_parts->bf,Addr->bj,run_append_room->br,growslice_fits->bt,TypeId->bA,maxLen->zr
open Or renaming inl->aw,inr->za
open Bool renaming false->aD
open Go.World.ownsRow renaming cells->aI
open Go.Value.slice renaming inj->aJ
open Go.RowKit renaming Below->aN
open Go.Act renaming eval->be,put->bk
namespace Go.Proofs.YtfgapcknnoeplaaGreatDoor
open Go.Proofs.Tryz
open Go.RowKit
variable {i b B h B' n k:Nat}{o:Option Za}{a:Za}{w w':World}{α:Type}{T:bA}{I S:Nat->Prop}{m':Ya}
theorem oR:(prog.info? 118).map (fun i=>(i.zero,i.size,i.bytes))=aa (aa (.agg #[.string ⟨#[]⟩,.string ⟨#[]⟩,.string ⟨#[]⟩,.string ⟨#[]⟩,.int .i64 0,.int .i64 0,.bool aD,.slice N 0 0]),mE.k,112):=KE _ (by kernel_rfl)
theorem uK:(prog.info? 118).map (·.size)=aa 8:=by
 obtain⟨H,B,I,D,J⟩:=bf oR;rw[B];simp[D];rfl
def gL (l:List (Zb×Lv))(i:Nat)(x:(Zb×Lv)):List (Zb×Lv):=l.take i++ [x]++l.drop i
theorem AV {l:List (Zb×Lv)}(B:i<=l.length)(x:(Zb×Lv)):(gL l i x).length=l.length+1:=by
 unfold gL;simp;omega
theorem EA (l:List (Zb×Lv))(i:Nat)(x:(Zb×Lv)):Qb mE (gL l i x)=Qb mE (l.take i)++(Jw x++Qb mE (l.drop i)):=by
 unfold gL;rw[Qj,Qj,qK,ze];rfl
theorem kC (l:List (Zb×Lv)):(Qb mE l).length=l.length*8:=Qr mE l
def JaB (w w':World)(v:ar)(l:List (Zb×Lv))(i:Nat)(x:(Zb×Lv))(e:Ending):Prop :=
 ∃B,e=.returned B/\Zc mE 118 w' 0 B (gL l i x)/\w.grownBy w' v.ownBlock/\((B.ownBlock=v.ownBlock/\v.ownBlock≠N)∨∃k,B.ownBlock=aa k/\w.heap.size<=k)
theorem JoK (w:World)(v:ar)(l:List (Zb×Lv))(x:(Zb×Lv))(hl:l.length<=1000)(hO:Zc mE 118 w 0 v l)(B H:Nat)(hx:∀j u,(Jw x)[j]?=aa u->w.cell? ⟨B,j,N⟩=aa u):
 ∃I w',(∀O,(ap #[52,52] O #[v,.slice (aa ⟨B,0,N⟩) 1 H]).run prog w=.ok I w')/\Zc mE 118 w' 0 I (l++ [x])/\w.grownBy w' v.ownBlock/\((I.ownBlock=v.ownBlock/\v.ownBlock≠N)∨∃k,I.ownBlock=aa k/\w.heap.size<=k):=by
 obtain⟨U,Z,a2,J,a3⟩:=bf oR;have a4:(Jw x).length=1*8:=rfl;have a0:∀j u,(Jw x)[j]?=aa u->w.cell? (((pA B 0):bj).add j)=aa u:=fun j u hj=>by rw[an,aq];exact hx j u hj
 have h1:=mE.one x;obtain⟨I,w',hr,ho,hg,b0⟩:=run_append_own (P:=prog) w 0 52 0 118 U _ 8 112 underlying52 Z a2 J a3 rfl (by decide) v l.length (Qb mE l) hO (pA B 0) 1 H (Jw x) a4 a0 h1 (by unfold zr;omega) (by omega) (bb _);refine⟨I,w',fun O=>?_,?_,hg,?_⟩
 ·have:∀O,(ap #[52,52] O #[v,.slice (aa (pA B 0)) 1 H]).run prog w=(ap #[52,52] 0 #[v,.slice (aa (pA B 0)) 1 H]).run prog w:=fun _=>rfl
  rw[this,hr]
 ·show World.ownsRow _ _ _ _ _ _ _;rw[Qj,qK,ae];exact ho
 ·rcases hO.2 with⟨rfl,hz⟩|⟨g,cap,a5,rfl,b1,a6,b2,b3,a7,b4⟩
  ·refine za ?_;have a8:l=[]:=zc.1 hz;subst a8;have D:=run_append_nil (P:=prog) w 52 0 118 U _ underlying52 Z a2 (pA B 0) 1 H (Jw x) (by rw[J];rfl) a0 (by omega) (by omega) (by rw[a3];omega);rw[hr]at D;injection D with K _
   rw[K];exact⟨_,rfl,bc _⟩
  ·by_cases a9:l.length+1<=cap
   ·have D:=br (P:=prog) w 52 0 118 U underlying52 Z g l.length cap a5 a6 (pA B 0) 1 H (Jw x) (by rw[J];rfl) a0 h1 a9 (by rw[J,a7];show l.length*8+8<=cap*mE.k;have:mE.k=8:=rfl;rw[this];omega);rw[hr]at D;injection D with K _
    rw[K];exact aw ⟨rfl,by simp[ah]⟩
   ·refine za ?_;have D:=run_append_grow (P:=prog) w 52 0 118 U _ underlying52 Z a2 (pA g 0) l.length cap (Qb mE l) (by rw[J];exact Qr mE l) (aI hO rfl) (pA B 0) 1 H (Jw x) (by rw[J];rfl) a0 (by omega) (by omega) (by rw[a3];exact bt (by omega) (by omega));rw[hr]at D;injection D with K _
    rw[K];exact⟨_,rfl,bc _⟩
theorem Jmk (v:ar)(l:List (Zb×Lv))(x:(Zb×Lv))(D vc:Nat)(w:World)(hl:l.length<=1000)(H:Zc mE 118 w 0 v l)(hx:∀j u,(Jw x)[j]?=aa u->w.cell? ⟨D,j,N⟩=aa u):
 aM prog 91 #[v,.int .i64 (l.length:Int),.slice (aa ⟨D,0,N⟩) 1 vc] w fun e w'=>JaB w w' v l l.length x e:=by
 obtain⟨I,w',J,K,O,U⟩:=JoK w v l x hl H D vc hx;have Z:Hid (JaB w w' v l l.length x (.returned I)):=⟨I,rfl,by unfold gL;rw[List.take_length,List.drop_length,List.append_nil];exact K,O,U⟩;obtain⟨p,c,hv,_,a2,B,_⟩:=H.form;clear K O U hx H;generalize l.length=n at *;subst hv;have a0:Hid (p=N->n=0/\c=0):=fun h=>⟨by have:=(B h).2;omega,(B h).2⟩
 clear B;have a3:(0:Int)<=(n:Int):=by omega
 cases p with
 |none =>
  obtain⟨h1,h2⟩:=a0.out rfl;subst h1 h2;go_enter func91,ntmps91;go_wp2_with (at_builtin;refine QG rfl _ _ _ _ rfl _ _ rfl rfl J ?_)
  go_ret;exact Z.out
 |some a =>
  obtain⟨ab,ao,a4⟩:=a;go_enter func91,ntmps91;go_wp2_with (at_builtin;refine QG rfl _ _ _ _ rfl _ _ rfl rfl J ?_)
  all_goals (go_ret;exact Z.out)
theorem L6 (g c i:Nat)(l:List (Zb×Lv))(x:(Zb×Lv))(B vc:Nat)(e5:Array ar)(vt:bA)(w:World)(hl:l.length<=1000)(hi:i<l.length)(d3:l.length+1<=c)(hO:Zc mE 118 w 0 (.slice (aa ⟨g,0,N⟩) l.length c) l)(hx:∀j u,(Jw x)[j]?=aa u->w.cell? ⟨B,j,N⟩=aa u)
 (d4:B≠g) (d5:w.heap[B]?=aa (.cells e5 vt (0,0))):
 aM prog 91 #[.slice (aa ⟨g,0,N⟩) l.length c,.int .i64 (i:Int),.slice (aa ⟨B,0,N⟩) 1 vc] w fun e w'=>JaB w w' (.slice (aa ⟨g,0,N⟩) l.length c) l i x e:=by
 obtain⟨n,O⟩:=Xb l.length;rcases hO.2 with⟨h0,_⟩|⟨g',cap,D,hv,d6,a2,b2,d7,U,a3⟩
 ·cases h0
 obtain⟨h1,_,h3⟩:=aJ hv;obtain rfl:g=g':=congrArg zu (Option.some.inj h1);subst h3;have a4:mE.k=8:=rfl;rw[a4]at U a3;rw[<-O]at hi d3 hl b2 a3;have hA:(Qb mE (l.take i)).length=i*8:=by rw[kC,ac];congr 1;omega
 have hB:(Qb mE (l.drop i)).length=(n-i)*8:=by rw[kC,af,<-O]
 have b3:D.toList=Qb mE (l.take i)++(Qb mE (l.drop i)++D.toList.drop (n*8)):=by
  conv=>lhs;rw[<-ag (n*8) D.toList,a3,<-ag i l,Qj,ze]
 have a9:D.toList.length=c*8:=by rw[ai];exact U
 have hR:8<=(D.toList.drop (n*8)).length:=by rw[af,a9];omega
 have Z:(Jw x).length=8:=rfl;obtain⟨I,a5⟩:=Xb ((D.toList.take ((i+1)*8)++Qb mE (l.drop i)++D.toList.drop ((i+1)*8+(Qb mE (l.drop i)).length)).toArray);have b0:I.size=c*8:=by
  rw[a5];simp only[am,ae,ac,af,a9,hB];omega
 obtain⟨a0,a6⟩:=Xb ((I.toList.take (i*8)++Jw x++I.toList.drop (i*8+(Jw x).length)).toArray);have b4:a0.size=c*8:=by
  rw[a6];simp only[am,ae,ac,af,ai,b0,Z];omega
 have b5:a0.toList.take ((n+1)*8)=Qb mE (gL l i x):=by
  have:=E4 (Qb mE (l.take i)) (Qb mE (l.drop i)) (D.toList.drop (n*8)) (Jw x) 8 Z hR D.toList b3;rw[hA,hB]at this;rw[EA,<-this,a6,a5,hB];have e1:(i+1)*8=i*8+8:=by omega
  have e2:(n+1)*8=i*8+8+(n-i)*8:=by omega
  rw[e1,e2]
 have b6:∀j u,(Qb mE l)[j]?=aa u->w.cell? (pA g j)=aa u:=fun j u hj=>by
  have:=aI (g:=g) hO rfl j u hj;rw[an,aq]at this;exact this
 have b7:∀j u,(Qb mE (l.drop i))[j]?=aa u->w.drew.cell? (((pA g (i*8)):bj).add j)=aa u:=fun j u hj=>by
  rw[an];refine b6 (i*8+j) u ?_;rw[<-ag i l,Qj,ay (by rw[hA];omega),hA,zb];exact hj
 have b8:∀H J sc,(zg #[52,52] H #[.slice (aa ⟨g,(i+1)*8,N⟩) (n-i) J,.slice (aa (pA g (i*8))) (n+1-i) sc]).run prog w.drew=.ok (goInt (n-i)) (w.drew.setRow g I):=fun H J sc=>by
  have:=YU (P:=prog) w.drew 52 52 H 118 g ((i+1)*8) (n-i) J (pA g (i*8)) (n+1-i) sc D 118 (Qb mE (l.drop i)) 8 underlying52 uK a2 (by rw[hB];congr 1;simp only[ax];split<;>omega) b7 (by rw[hB,U];omega) (Zz mE _);rw[this,a5]
  congr 2
  simp only[ax];split<;>omega
 have a7:(w.drew.setRow g I).heap[g]?=aa (.cells I 118 (0,0)):=aP w.drew g D _ 118 _ a2;obtain⟨K,a8⟩:=Xb (w.drew.setRow g I);rw[<-a8]at b8 a7;have d0:∀j u,(Jw x)[j]?=aa u->K.cell? (((pA B 0):bj).add j)=aa u:=fun j u hj=>by
  rw[an,aq,<-hx j u hj];have:K.heap[B]?=w.heap[B]?:=by rw[a8];exact aF w.drew g B _ d4
  exact al (a:=(pA B j)) this
 have d8:∀H J,(zg #[52,52] H #[.slice (aa (pA g (i*8))) (n+1-i) J,.slice (aa (pA B 0)) 1 vc]).run prog K=.ok (goInt 1) (K.setRow g a0):=fun H J=>by
  have:=YU (P:=prog) K 52 52 H 118 g (i*8) (n+1-i) J (pA B 0) 1 vc I 118 (Jw x) 8 underlying52 uK a7 (by rw[Z];simp only[ax];split<;>omega) d0 (by rw[Z,b0];omega) (mE.one x);rw[this,a6]
  congr 2
  simp only[ax];split<;>omega
 have HI:Hid (JaB w (K.setRow g a0) (.slice (aa (pA g 0)) n c) l i x (.returned (.slice (aa (pA g 0)) (n+1) c))):=by
  have b1:(gL l i x).length=n+1:=by rw[AV (by omega),O]
  refine⟨_,rfl,⟨by rw[kC];rfl,za ⟨g,c,a0,by rw[b1],bb _,aP K g I _ 118 _ a7,by rw[b1];exact d3,d7,by rw[a4];exact b4,by rw[b1,a4];exact b5⟩⟩,?_,aw ⟨rfl,by simp[ah]⟩⟩;rw[a8];refine⟨rfl,rfl,rfl,by simp[bi],fun k hk d9=>?_⟩;have d1:k≠g:=fun e=>d9 (by rw[e];rfl)
  rw[aF _ g k _ d1,aF _ g k _ d1];rfl
 have e0:∀lb cb,(callFunc 120 #[.slice (aa (pA B 0)) 1 vc,.slice (aa ⟨g,(i+1)*8,N⟩) lb cb]).run prog w=.ok (.value (.bool aD)) w:=fun lb cb=>by
  obtain⟨e3,d2⟩:=Jau d5;obtain⟨e4,_⟩:=Jau a2;rw[run_callFunc_extern func120 (by kernel_rfl) (by kernel_rfl) (by kernel_rfl) (e:=Extern.SlicesOverlaps.overlaps #[52,52] #[4]) (by kernel_rfl),
   Lib.run_overlaps_apart w 52 4 118 underlying52 8 (fun w=>by kernel_rfl) (pA B 0) ⟨g,(i+1)*8,N⟩ 1 vc lb cb d4 _ _ _ _ e3 e4 (by rw[U];omega) (d2 0) (d2 _)]
  rfl
 rw[<-O];clear a8 O b5 b4 a6 b0 a5 Z hR a9 b3 hB hA a3 U a2 a7 b7 d0 b6 hv h1 hO hx d5 b2 a4 d6;have e6:¬((i:Int)=(n:Int)):=by omega
 have e7:az.wrap ((i:Int)+1)=(i:Int)+1:=by rw[ak];omega
 have e8:(0:Int)<=(i:Int):=by omega
 have e9:(0:Int)<=(i:Int)+1:=by omega
 have f3:i<=n:=by omega
 have f4:((i:Int)+1).toNat=i+1:=by omega
 have f5:¬(c=i+1):=by omega
 have f6:(i:Int)<=(n:Int)+1:=by omega
 have f7:¬(c=i):=by omega
 have f8:(i:Int)+1<=(n:Int)+1:=by omega
 have f9:((n:Int)+1).toNat=n+1:=by omega
 have g0:(0:Int)<=(n:Int)+1:=by omega
 have g1:(n:Int)+1<=(c:Int):=by omega
 have g2:¬((c:Int)<(n:Int)+1):=by omega
 have g3:az.wrap ((n:Int)+1)=(n:Int)+1:=by rw[ak];omega
 have g4:(i:Int)<=(n:Int):=by omega
 go_enter func91,ntmps91;go_wp2_with (simp only[e0])
 go_region_law (refine uC rfl _ _ 52 52 rfl _ _ (by simp[be,bk];rfl) (by simp[be,bk];rfl) (fun H=>b8 H _ _) ?_)
 go_wp2_with (at_builtin;refine sV rfl _ _ 52 52 rfl _ _ rfl rfl (fun H=>d8 H _) ?_)
 go_ret;exact HI.out
theorem SF (g c i:Nat)(l:List (Zb×Lv))(x:(Zb×Lv))(U vc:Nat)(w:World)(hl:l.length<=1000)(hi:i<l.length)(f5:¬l.length+1<=c)(hO:Zc mE 118 w 0 (.slice (aa ⟨g,0,N⟩) l.length c) l)(hx:∀j u,(Jw x)[j]?=aa u->w.cell? ⟨U,j,N⟩=aa u)(e4:U<w.heap.size):
 aM prog 91 #[.slice (aa ⟨g,0,N⟩) l.length c,.int .i64 (i:Int),.slice (aa ⟨U,0,N⟩) 1 vc] w fun e w'=>JaB w w' (.slice (aa ⟨g,0,N⟩) l.length c) l i x e:=by
 obtain⟨n,hn⟩:=Xb l.length;have d2:=(hO.block (k:=g) rfl).2;obtain⟨i0,d3,d4,a7,a8⟩:=bf oR;have a9:n<=c:=by
  obtain⟨_,_,e5,_,a9,_,_⟩:=hO.form;obtain⟨_,_,e6⟩:=aJ e5;rw[<-e6,<-hn]at a9;exact a9
 have b0:mE.k=8:=rfl;have b1:∀j u,(Qb mE l)[j]?=aa u->w.cell? (pA g j)=aa u:=fun j u J=>by
  have:=aI (g:=g) hO rfl j u J;rw[an,aq]at this;exact this
 rw[<-hn]at hi f5 hl;have hA:(Qb mE (l.take i)).length=i*8:=by rw[kC,ac];congr 1;omega
 have hB:(Qb mE (l.drop i)).length=(n-i)*8:=by rw[kC,af,<-hn]
 have hX:(Jw x).length=8:=rfl;have d5:∀j u,(Qb mE (l.take i))[j]?=aa u->w.drew.cell? (((pA g 0):bj).add j)=aa u:=fun j u J=>by
  rw[an,aq];refine b1 j u ?_;rw[<-ag i l,Qj,List.getElem?_append_left (List.getElem?_eq_some_iff.1 J).1];exact J
 have hold:(Builtin.firstCells i0.size i (.slice (aa (pA g 0)) i c)).run prog w.drew=.ok (Qb mE (l.take i)).toArray w.drew:=by
  rw[a7];exact run_firstCells_some w.drew 8 i (pA g 0) i c _ hA d5
 have e7:i+(n+1-i)=n+1:=by omega
 have b2:∀B,(ap #[52,3] B #[.slice (aa (pA g 0)) i c,.int .i64 (((n+1-i:Nat)):Int)]).run prog w=_:=fun B =>
  Lib.run_append_grow_zeros w 52 3 B 118 i0 _ .i64 .i64 underlying52 underlying3 d3 d4 (aa (pA g 0)) i c (Qb mE (l.take i)) hold (n+1-i) (by omega) (by rw[a7];decide) (by omega) (by omega) (by rw[a8];omega) (by rw[a8];exact bt (by omega) (by omega))
 rw[e7]at b2;have e9:n+1<=grownCap w (n+1) c 118:=grownCap_ge w _ _ _;have b3:=grownCap_le_maxLen w (n+1) c 118 (by unfold zr;omega);generalize hG:grownCap w (n+1) c 118=G at *;clear hG;have f6:G<=9223372036854775807:=by unfold zr at b3;omega
 obtain⟨Z,hZ⟩:∃Z:List ar,Z=(zf (bm #[.string ⟨#[]⟩,.string ⟨#[]⟩,.string ⟨#[]⟩,.string ⟨#[]⟩,.int .i64 0,.int .i64 0,.bool aD,.slice N 0 0]).cells (n+1-i)++zf (bm #[.string ⟨#[]⟩,.string ⟨#[]⟩,.string ⟨#[]⟩,.string ⟨#[]⟩,.int .i64 0,.int .i64 0,.bool aD,.slice N 0 0]).cells (G-(n+1))).toList:=⟨_,rfl⟩;have d6:Z.length=(G-i)*8:=by
  have e8:(bm #[.string ⟨#[]⟩,.string ⟨#[]⟩,.string ⟨#[]⟩,.string ⟨#[]⟩,.int .i64 0,.int .i64 0,.bool aD,.slice N 0 0]).cells.size=8:=rfl;rw[hZ];simp[size_zeroCells,e8];omega
 obtain⟨D,a3⟩:∃D:Array ar,D=(Qb mE (l.take i)++Z).toArray:=⟨_,rfl⟩;have b4:D.size=G*8:=by rw[a3];simp only[am,ae,hA,d6];omega
 have b5:∀B,(ap #[52,3] B #[.slice (aa (pA g 0)) i c,.int .i64 (((n+1-i:Nat)):Int)]).run prog w=.ok (.slice (aa (pA w.heap.size 0)) (n+1) G) (w.drew.alloc (.cells D 118)):=fun B=>by
  rw[b2 B,a3,hZ]
  congr 3
  simp
 clear b2 hold hZ;obtain⟨H,K⟩:=Xb (w.drew.alloc (.cells D 118));rw[<-K]at b5;have b6:H.heap[w.heap.size]?=aa (.cells D 118 (0,0)):=by rw[K];exact heap_alloc_new w.drew _
 have b7:∀k,k<w.heap.size->H.heap[k]?=w.heap[k]?:=fun k hk=>by rw[K];exact heap_alloc_old w.drew _ hk
 have f3:H.heap.size=w.heap.size+1:=by rw[K];simp
 obtain⟨I,a4⟩:=Xb ((D.toList.take (i*8)++Jw x++D.toList.drop (i*8+(Jw x).length)).toArray);have b8:I.size=G*8:=by
  rw[a4];simp only[am,ae,ac,af,ai,b4,hX];omega
 have d7:∀j u,(Jw x)[j]?=aa u->H.cell? (((pA U 0):bj).add j)=aa u:=fun j u J=>by
  rw[an,aq,<-hx j u J];exact al (a:=(pA U j)) (b7 U e4)
 have d8:∀B dc,(zg #[52,52] B #[.slice (aa (pA w.heap.size (i*8))) (n+1-i) dc,.slice (aa (pA U 0)) 1 vc]).run prog H=.ok (goInt 1) (H.setRow w.heap.size I):=fun B dc=>by
  have:=YU (P:=prog) H 52 52 B 118 w.heap.size (i*8) (n+1-i) dc (pA U 0) 1 vc D 118 (Jw x) 8 underlying52 uK b6 (by rw[hX];simp only[ax];split<;>omega) d7 (by rw[hX,b4];omega) (mE.one x);rw[this,a4]
  congr 2
  simp only[ax];split<;>omega
 have a5:(H.setRow w.heap.size I).heap[w.heap.size]?=aa (.cells I 118 (0,0)):=aP H w.heap.size D _ 118 _ b6;obtain⟨O,a0⟩:=Xb (H.setRow w.heap.size I);rw[<-a0]at d8 a5;have d0:∀k,k<w.heap.size->O.heap[k]?=w.heap[k]?:=fun k hk=>by rw[a0,aF _ _ _ _ (by omega)];exact b7 k hk
 obtain⟨a2,a6⟩:=Xb ((I.toList.take ((i+1)*8)++Qb mE (l.drop i)++I.toList.drop ((i+1)*8+(Qb mE (l.drop i)).length)).toArray);have d9:a2.size=G*8:=by
  rw[a6];simp only[am,ae,ac,af,ai,b8,hB];omega
 have e0:∀j u,(Qb mE (l.drop i))[j]?=aa u->O.drew.cell? (((pA g (i*8)):bj).add j)=aa u:=fun j u J=>by
  rw[an];have h1:=b1 (i*8+j) u (by
   rw[<-ag i l,Qj,ay (by rw[hA];omega),hA,zb];exact J)
  rw[<-h1];exact al (a:=(pA g (i*8+j))) (w':=O.drew) (d0 g d2)
 have f4:∀B dc sc,(zg #[52,52] B #[.slice (aa ⟨w.heap.size,(i+1)*8,N⟩) (n-i) dc,.slice (aa (pA g (i*8))) (n-i) sc]).run prog O.drew=.ok (goInt ((n-i:Nat):Int)) (O.drew.setRow w.heap.size a2):=fun B dc sc=>by
  have:=YU (P:=prog) O.drew 52 52 B 118 w.heap.size ((i+1)*8) (n-i) dc (pA g (i*8)) (n-i) sc I 118 (Qb mE (l.drop i)) 8 underlying52 uK a5 (by rw[hB];congr 1;simp only[ax];split<;>omega) e0 (by rw[hB,b8];omega) (Zz mE _);rw[this,a6]
  congr 3
  simp only[ax];split<;>omega
 have e3:a2.toList.take ((n+1)*8)=Qb mE (gL l i x):=by
  have:=GV (Qb mE (l.take i)) (Qb mE (l.drop i)) Z (Jw x) 8 hX;rw[hA,hB]at this;rw[EA,<-this,a6,a4,a3,hB];have e1:(i+1)*8=i*8+8:=by omega
  have e2:(n+1)*8=i*8+8+(n-i)*8:=by omega
  rw[e1,e2]
 have HI:Hid (JaB w (O.drew.setRow w.heap.size a2) (.slice (aa (pA g 0)) n c) l i x (.returned (.slice (aa (pA w.heap.size 0)) (n+1) G))):=by
  have d1:(gL l i x).length=n+1:=by rw[AV (by omega),hn]
  refine⟨_,rfl,⟨by rw[kC];rfl,za ⟨w.heap.size,G,a2,by rw[d1],bb _,aP O.drew w.heap.size I _ 118 _ a5,by rw[d1];exact e9,b3,by rw[b0];exact d9,by rw[d1,b0];exact e3⟩⟩,?_,za ⟨_,rfl,bc _⟩⟩;refine⟨by rw[a0,K];rfl,by rw[a0,K];rfl,by rw[a0,K];rfl,?_,fun k hk f7=>?_⟩
  ·rw[a0];show w.heap.size<=_;simp[bi];omega
  ·rw[aF _ _ k _ (by omega)];exact d0 k hk
 rw[<-hn];clear b7 d0 K f3 b6 b4 d6 a3 d5 d2 d3 d4 a7 a8 e4 a0 hn e3 d9 a6 b8 a4 hX hB hA a5 d7 e0 b1 hO hx b0 b3;have f8:¬((i:Int)=(n:Int)):=by omega
 have f9:az.wrap ((i:Int)+1)=(i:Int)+1:=by rw[ak];omega
 have g0:(0:Int)<=(i:Int):=by omega
 have g1:(0:Int)<=(i:Int)+1:=by omega
 have g2:i<=n:=by omega
 have g3:((i:Int)+1).toNat=i+1:=by omega
 have g4:¬(G=i+1):=by omega
 have g5:(i:Int)<=(n:Int)+1:=by omega
 have g6:¬(c=i):=by omega
 have g7:¬(G=i):=by omega
 have g8:(i:Int)+1<=(n:Int)+1:=by omega
 have g9:=decide_eq_true (by omega);have h0:az.wrap ((n:Int)+1)=(n:Int)+1:=by rw[ak];omega
 have h2:(i:Int)<=(n:Int):=by omega
 have h3:(i:Int)<=(c:Int):=by omega
 have eK:(((n+1-i:Nat)):Int)=(n:Int)+1-(i:Int):=by omega
 rw[eK]at b5;clear eK;go_enter func91,ntmps91;go_wp2_with (first|(at_builtin;refine QG rfl _ _ _ _ rfl _ _ rfl rfl b5 ?_)|(at_builtin;refine sV rfl _ _ 52 52 rfl _ _ rfl rfl (fun B=>d8 B _) ?_))
 go_region_law (refine uC rfl _ _ 52 52 rfl _ _ (by simp[be,bk];rfl) (by simp[be,bk];rfl) (fun B=>f4 B _ _) ?_)
 go_wp2;go_ret;exact HI.out
theorem L3 (v:ar)(l:List (Zb×Lv))(i:Nat)(x:(Zb×Lv))(B D:Nat)(U:Array ar)(Z:bA)(w:World)(I:l.length<=1000)(hi:i<=l.length)(H:Zc mE 118 w 0 v l)(J:∀j u,(Jw x)[j]?=aa u->w.cell? ⟨B,j,N⟩=aa u)
 (a2:∀k,v.ownBlock=aa k->B≠k) (a0:w.heap[B]?=aa (.cells U Z (0,0))):
 aM prog 91 #[v,.int .i64 (i:Int),.slice (aa ⟨B,0,N⟩) 1 D] w fun e w'=>JaB w w' v l i x e:=by
 by_cases he:i=l.length
 ·subst he;exact Jmk v l x B D w I H J
 ·have K:i<l.length:=by omega
  rcases H.2 with⟨_,h0⟩|⟨g,cap,a3,rfl,_⟩
  ·omega
  ·by_cases O:l.length+1<=cap
   ·exact L6 g cap i l x B D U Z w I K O H J (a2 g rfl) a0
   ·exact SF g cap i l x B D w I K O H J (aE.1 a0).1
theorem XU {P:Program}{ops:Array Oper}{o:Oper}{a:Act}{K:Act->World->Prop}{Q:Exit->Act->World->Prop}{E:Prop}(J:o.guard=N)(d s:Operand)(B D:bA)
 (O:o.op=.call {callee:=.builtin .append,args:=#[d,s],argTypes:=#[B,D]}) (v u:ar) (U:a.eval d=v) (Z:a.eval s=u) {H:ar} (hr:∀I,(ap #[B,D] I #[v,u]).run P w=.ok H w') (hK:K (a.put o.dst H) w'):
 if Region.wanted o (yielded ops a.tmps)=true then Oper.wp P o a w K Q else E:=by
 rw[if_pos (by simp[Region.wanted,J])];unfold Oper.wp;simp[execOp,O,resolve,invoke,builtin,U,Z,hr,Result.andThen];exact hK
def JaV:List Value:=[.string ⟨#[]⟩,.string ⟨#[]⟩,.string ⟨#[]⟩,.string ⟨#[]⟩,.int .i64 0,.int .i64 0,.bool aD,.slice N 0 0]
theorem NA (w:World)(J:bA)(g o c:Nat)(B:Array ar)(K:w.heap[g]?=aa (.cells B 118 (0,0)))(O:o+8<=B.size):
 (bd #[52] J #[.slice (aa ⟨g,o,N⟩) 1 c]).run prog w=.ok (.tuple #[]) (w.setRow g (B.toList.take o++JaV++B.toList.drop (o+8)).toArray):=by
 have H:∀w,(zeroValue 118).run prog w=.ok (.agg JaV.toArray) w:=fun w=>zeroValue118 w
 have I:(zf (bm JaV.toArray).cells 1).toList=JaV:=by kernel_rfl
 have D:=run_storeCells_at prog g o 118 JaV 0 B w K (by show o+0+8<=_;omega) (by decide +kernel);simp only[Nat.add_zero]at D;simp[bd,run_underlying underlying52,H,I,D];rfl
theorem UH (B g c i j:Nat)(l:List (Zb×Lv))(w:World)(hl:l.length<=1000)(hi:i<l.length)(hj:j=i+1)(hO:Zc mE 118 w B (.slice (aa ⟨g,0,N⟩) l.length c) l):
 aM prog 80 #[.slice (aa ⟨g,0,N⟩) l.length c,.int .i64 (i:Int),.int .i64 (j:Int)] w fun e w'=>e=.returned (.slice (aa ⟨g,0,N⟩) (l.length-1) c)/\Zc mE 118 w' B (.slice (aa ⟨g,0,N⟩) (l.length-1) c) (l.eraseIdx i)/\w.grownBy w' (aa g):=by
 obtain⟨n,Z⟩:=Xb l.length;rcases hO.2 with⟨h0,_⟩|⟨g',cap,I,hv,b5,b0,b6,b7,a2,a3⟩
 ·cases h0
 obtain⟨h1,_,h3⟩:=aJ hv;obtain rfl:g=g':=congrArg zu (Option.some.inj h1);subst h3;have a4:mE.k=8:=rfl;rw[a4]at a2 a3;rw[<-Z]at hi hl b6 a3;have hA:(Qb mE (l.take i)).length=i*8:=by rw[kC,ac];congr 1;omega
 obtain⟨J,a0⟩:=Xb (Qb mE (l.drop j));have hB:J.length=(n-j)*8:=by rw[a0,kC,af,<-Z]
 have b8:I.toList.length=c*8:=by rw[ai];exact a2
 have d0:∀j u,(Qb mE l)[j]?=aa u->w.cell? ⟨g,j,N⟩=aa u:=fun j u hj=>by
  have:=aI (g:=g) hO rfl j u hj;rw[an,aq]at this;exact this
 obtain⟨A,e3,d1⟩:∃A:bj,(if c=j then aa (⟨g,0,N⟩:bj)else aa ⟨g,j*8,N⟩)=aa A/\Hid (∀t u,J[t]?=aa u->w.drew.cell? (A.add t)=aa u):=by
  by_cases h:c=j
  ·refine⟨⟨g,0,N⟩,by simp[h],fun t u K=>?_⟩;have h0:J.length=0:=by rw[hB];omega
   rw[zc.1 h0]at K;simp at K
  ·refine⟨⟨g,j*8,N⟩,by simp[h],fun t u K=>?_⟩;rw[an];refine d0 (j*8+t) u ?_;have d2:(Qb mE (l.take j)).length=j*8:=by rw[kC,ac];congr 1;omega
   rw[<-ag j l,Qj,ay (by rw[d2];omega),d2,zb,<-a0];exact K
 obtain⟨i0,d3,d7,a5,d8⟩:=bf oR;obtain⟨D,a6⟩:=Xb ((I.toList.take (i*8)++J++I.toList.drop (i*8+J.length)).toArray);have a7:D.size=c*8:=by
  rw[a6];simp only[am,ae,ac,af,b8,hB];omega
 have b1:∀H,(ap #[52,52] H #[.slice (aa ⟨g,0,N⟩) i c,.slice (aa A) (n-j) (c-j)]).run prog w.drew=.ok (.slice (aa ⟨g,0,N⟩) (i+(n-j)) c) (w.drew.setRow g D):=fun H=>by
  have:=br (P:=prog) w.drew 52 H 118 i0 underlying52 d3 g i c I b0 A (n-j) (c-j) J (by rw[a5,hB];rfl) d1.out (by rw[a0];intro u K;exact Zz mE _ u K) (by omega) (by rw[a5,a2,hB];show i*8+_<=_;omega);rw[this,a6,a5];rfl
 have a8:(w.drew.setRow g D).heap[g]?=aa (.cells D 118 (0,0)):=aP w.drew g I _ 118 _ b0;obtain⟨O,b2⟩:=Xb (w.drew.setRow g D);rw[<-b2]at b1 a8;obtain⟨m,hm⟩:=Xb (i+(n-j));have d9:m+1=n:=by omega
 obtain⟨U,a9⟩:=Xb ((D.toList.take (m*8)++JaV++D.toList.drop (m*8+8)).toArray);have d4:U.size=c*8:=by
  rw[a9];simp only[am,ae,ac,af,ai,a7,show JaV.length=8 from rfl];omega
 have e4:∀H d,(bd #[52] H #[.slice (aa ⟨g,m*8,N⟩) 1 d]).run prog O=.ok (.tuple #[]) (O.setRow g U):=fun H d=>by
  rw[NA O H g (m*8) d D a8 (by rw[a7];omega),a9]
 have d5:U.toList.take (m*8)=Qb mE (l.eraseIdx i):=by
  have e1:I.toList.take (i*8)=Qb mE (l.take i):=by
   have:(I.toList.take (n*8)).take (i*8)=I.toList.take (i*8):=by rw[List.take_take];congr 1;omega
   rw[<-this,a3]
   conv=>lhs;rw[<-ag i l,Qj]
   exact ba hA
  have e2:Qb mE (l.eraseIdx i)=Qb mE (l.take i)++J:=by
   rw[List.eraseIdx_eq_take_drop_succ,Qj,a0,hj]
  rw[a9,e2];simp only;rw[ze,ba (by rw[ac,ai,a7];omega),a6,e1];simp only;exact ba (by rw[ae,hA,hB];omega)
 have HI:Hid (Zc mE 118 (O.setRow g U) B (.slice (aa ⟨g,0,N⟩) (n-1) c) (l.eraseIdx i)/\w.grownBy (O.setRow g U) (aa g)):=by
  have b3:(l.eraseIdx i).length=m:=by rw[List.length_eraseIdx,if_pos (by omega),<-Z];omega
  refine⟨⟨by rw[kC];rfl,za ⟨g,c,U,by rw[b3,show n-1=m by omega],b5,aP O g D _ 118 _ a8,by rw[b3];omega,b7,by rw[a4];exact d4,by rw[b3,a4];exact d5⟩⟩,?_⟩;rw[b2];refine⟨rfl,rfl,rfl,by simp[bi],fun k hk e0=>?_⟩;have d6:k≠g:=fun e=>e0 (by rw[e])
  rw[aF _ g k _ d6,aF _ g k _ d6];rfl
 have b4:Hid (n-1=m):=by show _=_;omega
 have HM:Hid _:=hm;rw[<-Z,b4.out];rw[b4.out]at HI;rw[<-hm]at b1;have e5:n-m=1:=by omega
 have e6:n<=c:=b6;have e7:¬c=m:=by omega
 have z1:¬((i:Int)=(j:Int)):=by omega
 have z2:(j:Int)<=(n:Int):=by omega
 have z3:(i:Int)<=(j:Int):=by omega
 have z4:(n:Int)<=(c:Int):=by omega
 have z5:(i:Int)<=(c:Int):=by omega
 have z6:(m:Int)<=(n:Int):=by omega
 have z7:(0:Int)<=(i:Int):=by omega
 have z8:i<=j:=by omega
 have z9:j<=n:=by omega
 have e8:i<=c:=by omega
 have e9:m<=n:=by omega
 have f3:j<=c:=by omega
 clear b2 Z d5 d4 a9 a7 a6 b8 hB hA a3 a2 b0 a8 d0 hv h1 hO hj a4 b5 a0 d3 d7 a5 d8 hm d9 hl hi d1 b7 b4 HM;go_enter func80,ntmps80;go_wp2_with fail
 go_region_law (refine XU rfl _ _ 52 52 rfl _ _ (by simp[be,bk]) (by simp[be,bk]) (fun H=>b1 H) ?_)
 go_wp2;go_ret;exact⟨rfl,HI.out⟩
theorem uU {o:Nat}{v:ar}(h:w.cell? ⟨b,o,N⟩=aa v):b<w.heap.size:=by
 rcases bh b w.heap.size with B|B
 ·exact B
 ·simp[bo,zi B]at h
theorem JaN (h n c:Nat)(p:Option bj)(i:Int)(w:World)(I:w.cell? ⟨h,0,N⟩=aa (.slice p n c)):
 aM prog 54 #[.pointer (aa ⟨h,0,N⟩),.int .i64 i] w fun e w'=>e=.returned (.bool (decide (0<=i/\i<n)))/\w'=w:=by
 by_cases B:0<=i
 ·have H:decide (0<=i)=true:=decide_eq_true B;have D:Hid (decide (0<=i/\i<(n:Int))=decide (i<(n:Int))):=by show _=_;simp[B]
  rw[D.out];clear B D;go_enter func54,ntmps54;go_wp2;go_ret;exact⟨rfl,rfl⟩
 ·have H:decide (0<=i)=false:=decide_eq_false B;have D:Hid (decide (0<=i/\i<(n:Int))=aD):=decide_eq_false (fun h=>B h.1);rw[D.out];clear B D;go_enter func54,ntmps54;go_wp2;go_ret;exact⟨rfl,rfl⟩
theorem KM (h n c:Nat)(p:Option bj)(w:World)(B:n<=120)(H:w.cell? ⟨h,0,N⟩=aa (.slice p n c)):
 aM prog 60 #[.pointer (aa ⟨h,0,N⟩)] w fun e w'=>e=.returned (.int .i64 (120-(n:Int)))/\w'=w:=by
 have D:az.wrap (120-(n:Int))=120-(n:Int):=by rw[ak];omega
 clear B;go_enter func60,ntmps60;go_wp2;go_ret;exact⟨rfl,rfl⟩
structure nN (h B:Nat) (v v':ar) (ml':List (Zb×Lv)) (w w':World):Prop where
 own:Zc mE 118 w' B v' ml'
 loc:v'.ownBlock=v.ownBlock∨∃k,v'.ownBlock=aa k/\w.heap.size<=k
 self:∀cs T,w.heap[h]?=aa (.cells cs T (0,0))->w'.heap[h]?=aa (.cells (cs.setIfInBounds 0 v') T (0,0))
 os:w'.os=w.os
 tape:w'.tape=w.tape
 output:w'.output=w.output
 size:w.heap.size<=w'.heap.size
 cW:∀k,k<w.heap.size->k≠h->v.ownBlock≠aa k->w'.heap[k]?=w.heap[k]?
def kB (h B:Nat)(v:ar)(H:List (Zb×Lv))(w w':World):Prop:=∃D,nN h B v D H w w'
theorem Zc.dC {E:eW α}{v:ar}{l:List α}(h:Zc E T w B v l)(O:∀k,v.ownBlock=aa k->w'.heap[k]?=w.heap[k]?):Zc E T w' B v l:=by
 rcases h with⟨H,D⟩
 refine⟨H,?_⟩;rcases D with D|⟨g,cap,I,rfl,J,K,r⟩
 ·exact aw D
 ·exact za ⟨g,cap,I,rfl,J,(O g rfl).trans K,r⟩
theorem zV {v D:ar}{O:List (Zb×Lv)}{K:World}(hh:h<w.heap.size)(U:v.ownBlock≠aa h)(h1:Zc mE 118 K B D O)(I:w.grownBy K v.ownBlock)(H:D.ownBlock=v.ownBlock∨∃k,D.ownBlock=aa k/\w.heap.size<=k):nN h B v D O w (K.setCell ⟨h,0,N⟩ D):=by
 have Z:=I.block h hh (fun e=>U e.symm);have a0:D.ownBlock≠aa h:=fun e=>by
  rcases H with H|⟨k,H,h4⟩
  ·exact U (H.symm.trans e)
  ·rw[H]at e;injection e with e;omega
 refine⟨h1.dC (fun k J=>Deep.blk_setCell_other _ _ _ _ (fun e=>a0 (by rw[J,e]))),H,fun cs T hc=>Qc (Z.trans hc) 0 D,I.os,I.tape,I.output,by have:=I.size;simpa[bx]using this,fun k J a2 a3=>(Deep.blk_setCell_other _ _ _ _ a2).trans (I.block k J (fun e=>a3 e.symm))⟩
theorem PV (h B:Nat)(v:ar)(D H:List (Zb×Lv))(q:Option bj)(c2:Nat)(w:World)(hn:D.length<=120)(a9:H.length<=1000)(K:w.cell? ⟨h,0,N⟩=aa v)(hf:w.frozen? ⟨h,0,N⟩=aD)(a0:v.ownBlock≠aa h)(hB:B<=w.heap.size)(hO:Zc mE 118 w B v D)(hq:Ql mE w q H)(hr:H.length<=c2)(a2:q=N->H=[]/\c2=0):
 aM prog 82 #[.pointer (aa ⟨h,0,N⟩),.slice q H.length c2] w fun e w'=>e=.returned (.tuple #[])/\kB h B v (D++H.take (120-D.length)) w w':=by
 obtain⟨k,O⟩:=Xb (min H.length (120-D.length));have J:(H.take (120-D.length)).length=k:=by rw[ac,O,Nat.min_comm]
 obtain⟨p,c,hv,_,_,_,_⟩:=hO.form;obtain⟨v',U,ha,Z,I,h3⟩:=vX (w:=w.drew) (E:=mE) 52 118 _ 112 underlying52 oR rfl B v D hO q (H.take (120-D.length)) c2 (hq.take _) (fun e=>⟨by rw[(a2 e).1,List.take_nil],(a2 e).2⟩) (by rw[J];unfold zr;omega) (by rw[J];omega) hB;rw[J]at ha;have a6:U.cell? ⟨h,0,N⟩=aa v/\U.frozen? ⟨h,0,N⟩=false:=by
  have a7:h<w.heap.size:=by
   rcases bh h w.heap.size with h'|h'
   ·exact h'
   ·simp[bo,zi h']at K
  have hb:=I.block h a7 (fun e=>a0 e.symm);exact⟨(al (a:=⟨h,0,N⟩) hb).trans K,(av (a:=⟨h,0,N⟩) hb).trans hf⟩
 have HI:Hid (kB h B v (D++H.take (120-D.length)) w (U.setCell ⟨h,0,N⟩ v')):=⟨v',zV (uU K) a0 Z ⟨I.os,I.tape,I.output,I.size,I.block⟩ h3⟩;obtain⟨r,a3⟩:=Xb (120-D.length);have a8:Hid (∀W:World,W.cell? ⟨h,0,N⟩=aa (.slice p D.length c)->aM prog 60 #[.pointer (aa ⟨h,0,N⟩)] W fun e w'=>e=.returned (.int .i64 (r:Int))/\w'=W):=fun W hW=>by
  have:=KM h D.length c p W hn hW;rw[show(120:Int)-(D.length:Int)=(r:Int) by omega]at this;exact this
 obtain⟨h4,h5⟩:=a6;subst hv;obtain⟨p',c',a4,_,_,_,_⟩:=Z.form;obtain⟨n',a5⟩:=Xb ((D++H.take (120-D.length)).length);rw[<-a5]at a4;subst a4;clear a5;rw[<-a3]at O;clear hO hq a2 Z I h3 a0 hB J;have b0:=K;generalize kB h B (.slice p D.length c) (D++H.take (120-D.length)) w=G at *;clear a3;generalize D.length=n at *;generalize H.length=n2 at *;have b1:min (n2:Int) (r:Int)=(k:Int):=by omega
 have z1:k<=c2:=by omega
 have z2:(0:Int)<=(k:Int):=by omega
 have z3:(k:Int)<=(c2:Int):=by omega
 clear O hn a9 hr;go_enter func82,ntmps82;go_wp2_with fail
 go_region_law (first|(go_simp;go_at_call 60;refine(a8.out _ (by assumption)).mono ?_;rintro e wn ⟨rfl,rfl⟩;go_simp)|(refine XU rfl (.tmp 8) (.tmp 15) 52 52 rfl _ _ (by first|(simp[Act.eval];done)|(simp[Act.eval,Act.put];done)) (by first|(simp[Act.eval];done)|(simp[Act.eval,Act.put];done)) (fun ty=>ha ty) ?_))
 all_goals (go_wp2;go_end0;exact⟨rfl,HI.out⟩)
theorem Xa {B:Array ar}(D:w.heap[h]?=aa (.cells B T (0,0)))(i:Nat):w.cell? ⟨h,i,N⟩=B[i]?/\w.frozen? ⟨h,i,N⟩=false:=⟨by simp[bo,D],by simp[World.frozen?,D]⟩
theorem xE (w:World)(b B:Nat)(hB:B<=b)(D H I J K O U Z:ar):aN B w ((((((((w.setCell ⟨b,0,N⟩ D).setCell ⟨b,1,N⟩ H).setCell ⟨b,2,N⟩ I).setCell ⟨b,3,N⟩ J).setCell ⟨b,4,N⟩ K).setCell ⟨b,5,N⟩ O).setCell ⟨b,6,N⟩ U).setCell ⟨b,7,N⟩ Z):=by
 have h0:aN B w (w.setCell ⟨b,0,N⟩ D):=(Below.refl B w).setCell hB D;generalize w.setCell ⟨b,0,N⟩ D=w0 at *;have h1:aN B w (w0.setCell ⟨b,1,N⟩ H):=h0.setCell hB H;generalize w0.setCell ⟨b,1,N⟩ H=w1 at *;have h2:aN B w (w1.setCell ⟨b,2,N⟩ I):=h1.setCell hB I;generalize w1.setCell ⟨b,2,N⟩ I=w2 at *;have h3:aN B w (w2.setCell ⟨b,3,N⟩ J):=h2.setCell hB J;generalize w2.setCell ⟨b,3,N⟩ J=w3 at *;have h4:aN B w (w3.setCell ⟨b,4,N⟩ K):=h3.setCell hB K;generalize w3.setCell ⟨b,4,N⟩ K=w4 at *;have h5:aN B w (w4.setCell ⟨b,5,N⟩ O):=h4.setCell hB O;generalize w4.setCell ⟨b,5,N⟩ O=w5 at *;have h6:aN B w (w5.setCell ⟨b,6,N⟩ U):=h5.setCell hB U;generalize w5.setCell ⟨b,6,N⟩ U=w6 at *;have h7:aN B w (w6.setCell ⟨b,7,N⟩ Z):=h6.setCell hB Z;exact h7
theorem nN.later {v J:ar}{K:List (Zb×Lv)}{W O:World}(D:nN h B v J K w W)(hh:h<w.heap.size)(H:aN w.heap.size W O)(hv:∀k,J.ownBlock=aa k->k<w.heap.size):nN h B v J K w O where
 own:=D.own.dC (fun k I=>H.block k (hv k I))
 loc:=D.loc
 self:=fun U T Z=>(H.block h hh).trans (D.self U T Z)
 os:=H.os.trans D.os
 tape:=H.tape.trans D.tape
 output:=H.output.trans D.output
 size:=au D.size H.size
 cW:=fun k I h1 h2=>(H.block k I).trans (D.cW k I h1 h2)
theorem F6 (h B:Nat)(v:ar)(D:List (Zb×Lv))(i:Nat)(w:World)(hn:D.length<=120)(hi:i<D.length)(h0:w.cell? ⟨h,0,N⟩=aa v)(hf:w.frozen? ⟨h,0,N⟩=aD)(a4:v.ownBlock≠aa h)(hO:Zc mE 118 w B v D):
 aM prog 55 #[.pointer (aa ⟨h,0,N⟩),.int .i64 (i:Int)] w fun e w'=>e=.returned (Z1 (JN D i).1 (fI (JN D i).2))/\kB h B v (D.eraseIdx i) w w':=by
 obtain⟨g,c,hv,O⟩:∃g c,v=.slice (aa ⟨g,0,N⟩) D.length c/\g<w.heap.size:=by
  rcases hO.2 with⟨_,hz⟩|⟨g,c,d7,hv,d8,b6,_⟩
  ·omega
  ·exact⟨g,c,hv,(aE.1 b6).1⟩
 have b7:g≠h:=fun e=>a4 (by rw[hv,e];rfl)
 have a0:=uU h0;subst hv;obtain⟨p',c',b0,b1,_,_,_⟩:=hO.form;obtain⟨e1,_,e3⟩:=aJ b0;subst e1 e3;obtain⟨b',o',hp,b8,m0,m1,m2,m3,m4,m5,m6,m7⟩:=Jbc b1 hi;injection hp with hp
 injection hp with e1 e2
 subst e1 e2;simp only[aq]at m0 m1 m2 m3 m4 m5 m6 m7;rw[rR hi]at m0 m1 m2 m3 m4 m5 m6 m7;obtain⟨x,hx⟩:=Xb (JN D i);rw[<-hx]at m0 m1 m2 m3 m4 m5 m6 m7 ⊢;obtain⟨⟨x0,x1,x2,x3,x4,x5,x6,xL⟩,lp,ln,lc⟩:=x;dsimp only at m0 m1 m2 m3 m4 m5 m6 m7;obtain⟨w1,a2⟩:=Xb (w.alloc (.cells #[.string ⟨#[]⟩,.string ⟨#[]⟩,.string ⟨#[]⟩,.string ⟨#[]⟩,.int .i64 0,.int .i64 0,.bool aD,.slice N 0 0] 118));obtain⟨w2,a3⟩:=Xb (w1.alloc (.cells #[.string x0,.string x1,.string x2,.string x3,.int .i64 x4,.int .i64 x5,.bool x6,.slice lp ln lc] 118));have H:=Zk a2;have a7:=QT a2;have a5:=Zk a3;have I:=H.trans (a5.mono H.size);have b2:=JH a2;have d0:w2.heap[w.heap.size+1]?=aa (.cells #[.string x0,.string x1,.string x2,.string x3,.int .i64 x4,.int .i64 x5,.bool x6,.slice lp ln lc] 118 (0,0)):=by
  rw[a3,<-a7];show(w1.heap.push _)[w1.heap.size]?=_;simp
 obtain⟨j,hj⟩:=Xb (i+1);have d1:=(I.cell (p:=⟨h,0,N⟩) a0).trans h0;have d9:=(H.cell (p:=⟨h,0,N⟩) a0).trans h0;have HD:Hid (aM prog 80 #[.slice (aa ⟨g,0,N⟩) D.length c,.int .i64 (i:Int),.int .i64 (j:Int)] w2 fun e w'=>∃n',e=.returned (.slice (aa ⟨g,0,N⟩) n' c)/\(∃v0,w'.cell? ⟨h,0,N⟩=aa v0)/\w'.frozen? ⟨h,0,N⟩=aD/\(w'.setCell ⟨h,0,N⟩ (.slice (aa ⟨g,0,N⟩) n' c)).heap[w.heap.size+1]?=aa (.cells #[.string x0,.string x1,.string x2,.string x3,.int .i64 x4,.int .i64 x5,.bool x6,.slice lp ln lc] 118 (0,0))/\(w'.setCell ⟨h,0,N⟩ (.slice (aa ⟨g,0,N⟩) n' c)).heap[w.heap.size]?=aa (.cells #[.string ⟨#[]⟩,.string ⟨#[]⟩,.string ⟨#[]⟩,.string ⟨#[]⟩,.int .i64 0,.int .i64 0,.bool aD,.slice N 0 0] 118 (0,0))/\Hid (∀W',aN w.heap.size (w'.setCell ⟨h,0,N⟩ (.slice (aa ⟨g,0,N⟩) n' c)) W'->kB h B (.slice (aa ⟨g,0,N⟩) D.length c) (D.eraseIdx i) w W')):=(UH B g c i j D w2 (by omega) hi hj (hO.dC (fun k hk=>I.block k (by have e:g=k:=(by simpa[ah]using hk);omega)))).mono fun e w' hq=>by
  obtain⟨q1,q2,Z⟩:=hq;have b3:=Z.block h (aj a0 I.size) (fun e=>b7 (by injection e with e;exact e.symm));refine⟨_,q1,⟨_,(al (a:=⟨h,0,N⟩) b3).trans d1⟩,?_,?_,?_,fun W' d2=>?_⟩
  ·exact(av (a:=⟨h,0,N⟩) b3).trans ((av (a:=⟨h,0,N⟩) (I.block h a0)).trans hf)
  ·exact(Below.heap_setCell _ _ _ _ (by show w.heap.size+1≠h;omega)).trans ((Z.block _ (by rw[show w2.heap.size=w1.heap.size+1 by rw[a3];simp];omega) (fun e=>by injection e with e;omega)).trans d0)
  ·exact(Below.heap_setCell _ _ _ _ (by show w.heap.size≠h;omega)).trans ((Z.block _ (by have:=a5.size;omega) (fun e=>by injection e with e;omega)).trans ((a5.block _ (by omega)).trans b2))
  ·have d3:w.grownBy w' (ah (.slice (aa ⟨g,0,N⟩) D.length c)):=⟨Z.os.trans I.os,Z.tape.trans I.tape,Z.output.trans I.output,au I.size Z.size,fun k hk a4=>(Z.block k (aj hk I.size) a4).trans (I.block k hk)⟩;exact⟨_,(zV a0 a4 q2 d3 (aw rfl)).later a0 d2 (fun k hk=>by
    have:g=k:=by simpa[ah]using hk
    omega)⟩
 have e0:az.wrap ((i:Int)+1)=(j:Int):=by rw[ak];omega
 have b4:Hid _:=a2;have a8:Hid _:=a3;have b5:Hid _:=a7;have z1:(0:Int)<=(i:Int):=by omega
 have z2:(i:Int)<(D.length:Int):=by omega
 have k0:=(H.cell (p:=⟨g,i*8,N⟩) O).trans m0;have k1:=(H.cell (p:=⟨g,i*8+1,N⟩) O).trans m1;have k2:=(H.cell (p:=⟨g,i*8+2,N⟩) O).trans m2;have k3:=(H.cell (p:=⟨g,i*8+3,N⟩) O).trans m3;have k4:=(H.cell (p:=⟨g,i*8+4,N⟩) O).trans m4;have k5:=(H.cell (p:=⟨g,i*8+5,N⟩) O).trans m5;have k6:=(H.cell (p:=⟨g,i*8+6,N⟩) O).trans m6;have k7:=(H.cell (p:=⟨g,i*8+7,N⟩) O).trans m7;generalize kB h B (.slice (aa ⟨g,0,N⟩) D.length c) (D.eraseIdx i) w=G at *;clear m0 m1 m2 m3 m4 m5 m6 m7 a2 a3 H a5 I b2 b1 hO a4 h0 hf hx b0 hj hn a0 b8 O a7;generalize D.length=n at *;go_enter func55,ntmps55;go_wp2_with (first|rw[<-b4.out]|rw[<-a8.out,b5.out]|rw[<-a8.out]|fail)
 refine HD.out.mono ?_;rintro e w3 ⟨n',rfl,⟨v0,u0⟩,u1,K,J,HG⟩;obtain⟨w4,a9⟩:=Xb (w3.setCell ⟨h,0,N⟩ (.slice (aa ⟨g,0,N⟩) n' c));rw[<-a9]at K J HG;have d4:Hid _:=a9;obtain⟨w5,a6⟩:=Xb (((((((((w4.setCell ⟨w.heap.size,0,N⟩ (.string x0)).setCell ⟨w.heap.size,1,N⟩ (.string x1)).setCell ⟨w.heap.size,2,N⟩ (.string x2)).setCell ⟨w.heap.size,3,N⟩ (.string x3)).setCell ⟨w.heap.size,4,N⟩ (.int .i64 x4)).setCell ⟨w.heap.size,5,N⟩ (.int .i64 x5)).setCell ⟨w.heap.size,6,N⟩ (.bool x6)).setCell ⟨w.heap.size,7,N⟩ (.slice lp ln lc)));have U:w5.heap[w.heap.size]?=aa (.cells #[.string x0,.string x1,.string x2,.string x3,.int .i64 x4,.int .i64 x5,.bool x6,.slice lp ln lc] 118 (0,0)):=by
  rw[a6];have:=(Qc (Qc (Qc (Qc (Qc (Qc (Qc (Qc J 0 (.string x0)) 1 (.string x1)) 2 (.string x2)) 3 (.string x3)) 4 (.int .i64 x4)) 5 (.int .i64 x5)) 6 (.bool x6)) 7 (.slice lp ln lc));simp only[List.setIfInBounds_toArray,List.set_cons_zero,List.set_cons_succ]at this;exact this
 have d5:Hid (G w5):=HG.out _ (by rw[a6];exact xE w4 w.heap.size w.heap.size nR _ _ _ _ _ _ _ _);have d6:Hid _:=a6;have y0:=(Xa K 0).1;have y1:=(Xa K 1).1;have y2:=(Xa K 2).1;have y3:=(Xa K 3).1;have y4:=(Xa K 4).1;have y5:=(Xa K 5).1;have y6:=(Xa K 6).1;have y7:=(Xa K 7).1;have s0:=Xa J 0;have s1:=Xa J 1;have s2:=Xa J 2;have s3:=Xa J 3;have s4:=Xa J 4;have s5:=Xa J 5;have s6:=Xa J 6;have s7:=Xa J 7;have t0:=(Xa U 0).1;have t1:=(Xa U 1).1;have t2:=(Xa U 2).1;have t3:=(Xa U 3).1;have t4:=(Xa U 4).1;have t5:=(Xa U 5).1;have t6:=(Xa U 6).1;have t7:=(Xa U 7).1;clear a9 K J HD b4 a8 b5 a6 U HG;go_wp2_with (rw[<-d4.out])
 go_wp2;rw[<-d6.out];refine bodyPost_ret (v:=.agg #[.string x0,.string x1,.string x2,.string x3,.int .i64 x4,.int .i64 x5,.bool x6,.slice lp ln lc]) (by simp[results,results55,go_sem,t0,t1,t2,t3,t4,t5,t6,t7]) rfl ⟨rfl,d5.out⟩
theorem Zc.jE {E:eW α}{v:ar}{l:List α}(h:Zc E T w B v l)(J:∀k,v.ownBlock=aa k->B'<=k):Zc E T w B' v l:=by
 rcases h with⟨H,D⟩
 refine⟨H,?_⟩;rcases D with D|⟨g,cap,I,rfl,K,r⟩
 ·exact aw D
 ·exact za ⟨g,cap,I,rfl,J g rfl,r⟩
theorem KT (h B:Nat)(v:ar)(D:List (Zb×Lv))(i:Nat)(w:World)(hn:D.length<=120)(hi:i<D.length)(h0:w.cell? ⟨h,0,N⟩=aa v)(hf:w.frozen? ⟨h,0,N⟩=aD)(a2:v.ownBlock≠aa h)(hO:Zc mE 118 w B v D):
 aM prog 61 #[.pointer (aa ⟨h,0,N⟩),.int .i64 (i:Int)] w fun e w'=>e=.returned (.tuple #[])/\kB h B v (gL D (i+1) (JN D i)) w w':=by
 obtain⟨g,c,hv,b1,d2⟩:∃g c,v=.slice (aa ⟨g,0,N⟩) D.length c/\g<w.heap.size/\B<=g:=by
  rcases hO.2 with⟨_,hz⟩|⟨g,c,d3,hv,b2,b3,_⟩
  ·omega
  ·exact⟨g,c,hv,(aE.1 b3).1,b2⟩
 have b4:g≠h:=fun e=>a2 (by rw[hv,e];rfl)
 have a3:=uU h0;subst hv;obtain⟨p',c',a4,a5,_,_,_⟩:=hO.form;obtain⟨e1,_,e3⟩:=aJ a4;subst e1 e3;obtain⟨b',o',hp,b5,m0,m1,m2,m3,m4,m5,m6,m7⟩:=Jbc a5 hi;injection hp with hp
 injection hp with e1 e2
 subst e1 e2;simp only[aq]at m0 m1 m2 m3 m4 m5 m6 m7;rw[rR hi]at m0 m1 m2 m3 m4 m5 m6 m7;obtain⟨x,hx⟩:=Xb (JN D i);rw[<-hx]at m0 m1 m2 m3 m4 m5 m6 m7 ⊢;obtain⟨⟨H,I,J,K,O,U,Z,xL⟩,lp,ln,lc⟩:=x;dsimp only at m0 m1 m2 m3 m4 m5 m6 m7;obtain⟨j,hj⟩:=Xb (i+1);have d4:az.wrap ((i:Int)+1)=(j:Int):=by rw[ak];omega
 rw[<-hj];have HD:Hid (∀W,aN w.heap.size w W->W.heap.size=w.heap.size->aM prog 91 #[.slice (aa ⟨g,0,N⟩) D.length c,.int .i64 (j:Int),.slice (aa ⟨w.heap.size,0,N⟩) 1 1] (W.alloc (.cells #[.string H,.string I,.string J,.string K,.int .i64 O,.int .i64 U,.bool Z,.slice lp ln lc] 118)) fun e w'=>∃p' n' c',e=.returned (.slice p' n' c')/\(∃v0,w'.cell? ⟨h,0,N⟩=aa v0)/\w'.frozen? ⟨h,0,N⟩=aD/\Hid (kB h B (.slice (aa ⟨g,0,N⟩) D.length c) (gL D j (⟨H,I,J,K,O,U,Z,xL⟩,lp,ln,lc)) w (w'.setCell ⟨h,0,N⟩ (.slice p' n' c')))):=fun W hW b6=>by
  have b7:aN W.heap.size W (W.alloc (.cells #[.string H,.string I,.string J,.string K,.int .i64 O,.int .i64 U,.bool Z,.slice lp ln lc] 118)):=bR.alloc nR _;have a6:(W.alloc (.cells #[.string H,.string I,.string J,.string K,.int .i64 O,.int .i64 U,.bool Z,.slice lp ln lc] 118)).heap[w.heap.size]?=aa (.cells #[.string H,.string I,.string J,.string K,.int .i64 O,.int .i64 U,.bool Z,.slice lp ln lc] 118 (0,0)):=by
   rw[<-b6];show(W.heap.push _)[W.heap.size]?=_;simp
  generalize W.alloc (.cells #[.string H,.string I,.string J,.string K,.int .i64 O,.int .i64 U,.bool Z,.slice lp ln lc] 118)=w2 at *;have a0:=hW.trans (b7.mono hW.size);have b8:=(hO.dC (fun k hk=>a0.block k (by have e:g=k:=(by simpa[ah]using hk);omega))).jE (fun _ _=>bb _);refine(L3 (.slice (aa ⟨g,0,N⟩) D.length c) D j (⟨H,I,J,K,O,U,Z,xL⟩,lp,ln,lc) w.heap.size 1 _ _ w2 (by omega) (by omega) b8 (fun t u hu=>?_) (fun k hk=>by have e:g=k:=(by simpa[ah]using hk);omega) a6).mono fun e w' hq=>?_
  ·rw[(Xa a6 t).1];simpa[Jw]using hu
  ·obtain⟨v',q1,q2,q3,q4⟩:=hq;have a7:w.grownBy w' (ah (.slice (aa ⟨g,0,N⟩) D.length c)):=⟨q3.os.trans a0.os,q3.tape.trans a0.tape,q3.output.trans a0.output,au a0.size q3.size,fun k hk a2=>(q3.block k (aj hk a0.size) a2).trans (a0.block k hk)⟩;have a8:v'.ownBlock=ah (.slice (aa ⟨g,0,N⟩) D.length c)∨∃k,v'.ownBlock=aa k/\w.heap.size<=k:=by
    rcases q4 with⟨q4,_⟩|⟨k,q4,q5⟩
    ·exact aw q4
    ·exact za ⟨k,q4,au a0.size q5⟩
   have hF:=zV a3 a2 (q2.jE (B':=B) (fun k hk=>by
    rcases a8 with e|⟨k',e,d5⟩
    ·rw[hk]at e;have e:k=g:=by simpa[ah]using e
     omega
    ·rw[hk]at e;injection e with e
     omega)) a7 a8
   have a9:=a7.block h a3 (fun e=>b4 (by have e:h=g:=(by simpa[ah]using e);exact e.symm));obtain⟨p',c',a4,_,_,_,_⟩:=q2.form;subst a4;exact⟨_,_,_,q1,⟨_,(al (a:=⟨h,0,N⟩) a9).trans h0⟩,(av (a:=⟨h,0,N⟩) a9).trans hf,_,hF⟩
 have z1:(0:Int)<=(i:Int):=by omega
 have z2:(i:Int)<(D.length:Int):=by omega
 have b0:=HD.out w.drew bR.drew rfl;generalize kB h B (.slice (aa ⟨g,0,N⟩) D.length c) (gL D j (⟨H,I,J,K,O,U,Z,xL⟩,lp,ln,lc)) w=G at *;have d0:Hid (aM prog 91 #[.slice (aa ⟨g,0,N⟩) D.length c,.int .i64 (j:Int),.slice (aa ⟨w.heap.size,0,N⟩) 1 1] ((w.alloc (.cells #[.string H,.string I,.string J,.string K,.int .i64 O,.int .i64 U,.bool Z,.slice lp ln lc] 118)).drew) fun e w'=>∃p' n' c',e=.returned (.slice p' n' c')/\(∃v0,w'.cell? ⟨h,0,N⟩=aa v0)/\w'.frozen? ⟨h,0,N⟩=aD/\Hid (G (w'.setCell ⟨h,0,N⟩ (.slice p' n' c')))):=b0;have d6:(w.alloc (.cells #[.string H,.string I,.string J,.string K,.int .i64 O,.int .i64 U,.bool Z,.slice lp ln lc] 118)).cell? ⟨h,0,N⟩=aa (.slice (aa ⟨g,0,N⟩) D.length c):=((bR.alloc nR _).cell (p:=⟨h,0,N⟩) a3).trans h0;clear a5 hO a2 hx a4 hj hn a3 b5 b1 HD b0;generalize D.length=n at *;go_enter func61,ntmps61;go_wp2_with fail
 go_region_law (go_simp;go_at_call 91;refine d0.out.mono ?_;rintro e wn ⟨p9,n9,c9,rfl,⟨v9,u9⟩,u8,d1⟩;go_simp)
 all_goals (go_wp2;go_end0;exact⟨rfl,d1.out⟩)
section
inductive Whose where
 |self|msgs|cD|bV|node (i:Nat)|mem (i:Nat)|ask (i:Nat)|bI|bD
structure fS where
 p:Option Nat
 put:Bool
 text:BA
 cfg:Int
 fr:Int
structure fB where
 c:Xg
 p:Option bj
 cap:Nat
structure WB where
 vm:ar
 cl:Nat->fS
 vn:ar
 mp:Option Nat
 nx:fB
 cf:fB
 act:Int
 aY:Int
 del:Int
 ve:ar
def J3 (p:Option Nat):Value:=.pointer (p.map fun b=>⟨b,0,N⟩)
def fB.v (c:fB):Value:=.slice c.p c.c.L.length c.cap
def Zi (X:WB):Array Value:=#[X.vm,
 J3 (X.cl 0).p,.bool (X.cl 0).put,.string (X.cl 0).text,.int .i64 (X.cl 0).cfg,.int .i64 (X.cl 0).fr,
 J3 (X.cl 1).p,.bool (X.cl 1).put,.string (X.cl 1).text,.int .i64 (X.cl 1).cfg,.int .i64 (X.cl 1).fr,
 J3 (X.cl 2).p,.bool (X.cl 2).put,.string (X.cl 2).text,.int .i64 (X.cl 2).cfg,.int .i64 (X.cl 2).fr,
 J3 (X.cl 3).p,.bool (X.cl 3).put,.string (X.cl 3).text,.int .i64 (X.cl 3).cfg,.int .i64 (X.cl 3).fr,
 J3 (X.cl 4).p,.bool (X.cl 4).put,.string (X.cl 4).text,.int .i64 (X.cl 4).cfg,.int .i64 (X.cl 4).fr,
 J3 (X.cl 5).p,.bool (X.cl 5).put,.string (X.cl 5).text,.int .i64 (X.cl 5).cfg,.int .i64 (X.cl 5).fr,
 X.vn,J3 X.mp,.int .i64 X.nx.c.n,.int .i64 X.nx.c.k,X.nx.v,.int .i64 X.cf.c.n,.int .i64 X.cf.c.k,X.cf.v,
 .int .i64 X.act,.int .i64 X.aY,.int .i64 X.del,X.ve]
def j5:eW Nat:=⟨1,by decide,fun b=>[.pointer (aa ⟨b,0,N⟩)],fun _=>rfl,fun x u D=>by simp at D;rw[D];rfl⟩
def iR (w:World)(O:Nat->Option Whose)(c:fB):Prop:=Yn w c.c c.p c.cap/\∀b o,c.p=aa ⟨b,o,N⟩->O b=aa .bD
def kA (w:World)(B:Nat)(O:Nat->Option Whose)(i:Nat)(o:Option Za)(c:fS)(t:BA)(s:Int):Prop :=
 match o with
 |none=>c.p=N
 |some a=>∃b,c.p=aa b/\Qw w B b (fun k=>O k=aa (.ask i)) a/\c.put=a.put/\c.text=t/\c.cfg=a.config/\c.fr=s
def rM (w:World)(B:Nat)(O:Nat->Option Whose)(o:Option Za)(p:Option Nat)(nx:fB):Prop :=
 match o with
 |none=>p=N
 |some a=>∃b,p=aa b/\XM w B b (fun k=>O k=aa .bI) a/\iR w O nx
structure XJ (w:World) (B:Nat) (O:Nat->Option Whose) (m:Ya) (X:WB) (ml:List (Zb×Lv)) (nb hn:Nat->Nat):Prop where
 aO:∀k o,O k=aa o->B<=k/\k<w.heap.size
 row:Zc mE 118 w B X.vm ml
 cX:∀k,X.vm.ownBlock=aa k->O k=aa .msgs
 dK:ml.map Prod.fst=m.L
 bD:∀x∈ml,Jn w x/\∀b o,x.2.1=aa ⟨b,o,N⟩->O b=aa .bD
 bV:Zc XI 42 w B X.ve m.events
 cS:∀k,X.ve.ownBlock=aa k->O k=aa .bV
 cD:Zc j5 93 w B X.vn ((zq m.nodes.length).map nb)
 bU:∀k,X.vn.ownBlock=aa k->O k=aa .cD
 node:∀i,i<m.nodes.length->w.heap[nb i]?=aa (.cells #[.pointer (aa ⟨hn i,0,N⟩),.string (Jc m.nodes i).1.name,.bool (!(Jc m.nodes i).2)] 95 (0,0))/\O (nb i)=aa (.node i)
 mem:∀i,i<m.nodes.length->XE w B (hn i) (fun k=>O k=aa (.mem i)) (Jc m.nodes i).1
 ask:∀i,i<6->kA w B O i (Xf m.asks i) (X.cl i) (Yc m.texts i) (m.since.getD i 0)
 bI:rM w B O m.mover X.mp X.nx
 cf:iR w O X.cf
structure Ye (w:World) (B h:Nat) (O:Nat->Option Whose) (m:Ya) (X:WB) (ml:List (Zb×Lv)) (nb hn:Nat->Nat):Prop extends XJ w B O m X ml nb hn where
 blk:w.heap[h]?=aa (.cells (Zi X) 66 (0,0))
 self:O h=aa .self
 cV:X.cf.c=aG m.aB m.aC
 dF:m.mover.isSome->X.nx.c=aG m.aB (m.aC+1)
 aW:X.act=(m.aC:Int)/\X.aY=m.ops/\X.del=m.aA
section
variable {w w':World} {B h:Nat} {O O':Nat->Option Whose} {m:Ya} {X:WB} {ml:List (Zb×Lv)} {nb hn:Nat->Nat}
theorem yG {t:Whose}(D:∀k,O' k=aa t↔O k=aa t):(fun k=>O' k=aa t)=(fun k=>O k=aa t):=funext fun k=>propext (D k)
theorem Qw.kept (h:Qw w B b (fun k=>O k=aa (.ask i)) a)(I:∀k,O' k=aa (.ask i)↔O k=aa (.ask i))(J:w.heap.size<=w'.heap.size)(K:∀k,O k=aa (.ask i)->w'.heap[k]?=w.heap[k]?):Qw w' B b (fun k=>O' k=aa (.ask i)) a:=by
 rw[yG I];obtain⟨⟨_,_,_,_,_,_,_,_,_,_,D⟩,H⟩:=h;exact⟨⟨_,_,_,_,_,_,_,_,_,_,D.aS J K⟩,H⟩
theorem XM.kept (h:XM w B b (fun k=>O k=aa .bI) a)(I:∀k,O' k=aa .bI↔O k=aa .bI)(J:w.heap.size<=w'.heap.size)(K:∀k,O k=aa .bI->w'.heap[k]?=w.heap[k]?):XM w' B b (fun k=>O' k=aa .bI) a:=by
 rw[yG I];obtain⟨⟨_,_,_,_,_,_,_,_,_,_,D⟩,H⟩:=h;exact⟨⟨_,_,_,_,_,_,_,_,_,_,D.aS J K⟩,H⟩
theorem XE.kept {x:Je}(h:XE w B b (fun k=>O k=aa (.mem i)) x)(H:∀k,O' k=aa (.mem i)↔O k=aa (.mem i))(I:w.heap.size<=w'.heap.size)(J:∀k,O k=aa (.mem i)->w'.heap[k]?=w.heap[k]?):XE w' B b (fun k=>O' k=aa (.mem i)) x:=by
 rw[yG H];obtain⟨_,_,_,_,D⟩:=h;exact⟨_,_,_,_,D.aS I J⟩
theorem iR.kept {c:fB}(h:iR w O c)(I:∀k,O k=aa .bD->O' k=aa .bD)(J:w.heap.size<=w'.heap.size)(K:∀k,O k=aa .bD->w'.heap[k]?=w.heap[k]?):iR w' O' c:=by
 obtain⟨D,H⟩:=h;exact⟨⟨D.strs.same J (fun b o e=>K b (H b o e)),D.room,D.empty,D.len,D.size,D.ints⟩,fun b o e=>I b (H b o e)⟩
theorem Jn.kept {x:Zb×Lv}(h:Jn w x)(D:w.heap.size<=w'.heap.size)(H:∀b o,x.2.1=aa ⟨b,o,N⟩->w'.heap[b]?=w.heap[b]?):Jn w' x:=⟨h.len,h.eC.sameAt D H,h.room,h.empty⟩
structure Qv (t:Whose) (O O':Nat->Option Whose) (B:Nat) (w w':World):Prop where
 same:∀o k,o≠t->o≠.bD->(O' k=aa o↔O k=aa o)
 bD:∀k,O k=aa .bD->O' k=aa .bD
 aO:∀k o,O' k=aa o->B<=k/\k<w'.heap.size
 size:w.heap.size<=w'.heap.size
 kept:∀k o,O k=aa o->o≠t->o≠.self->w'.heap[k]?=w.heap[k]?
open Classical in
noncomputable def turnO (O:Nat->Option Whose) (t:Whose) (S':Nat->Prop) (n n':Nat):Nat->Option Whose:=fun k=>if S' k then aa t else if O k=aa t then N else if n<=k/\k<n' then aa .bD else O k
theorem ZU {t:Whose}{K:Nat}(U:t≠.bD)(k:Nat):turnO O t I n K k=aa t↔I k:=by
 unfold turnO;by_cases D:I k
 ·rw[if_pos D];exact⟨fun _=>D,fun _=>rfl⟩
 ·rw[if_neg D];refine⟨fun e=>?_,fun h=>absurd h D⟩;by_cases H:O k=aa t
  ·rw[if_pos H]at e;cases e
  ·rw[if_neg H]at e;by_cases J:n<=k/\k<K
   ·rw[if_pos J]at e;injection e with e;exact absurd e.symm U
   ·rw[if_neg J]at e;exact absurd e H
theorem oK {t:Whose}{D:Nat->Prop}{H:Nat}(I:∀k o,O k=aa o->k<n)(J:¬D k)(K:n<=k)(U:k<H):turnO O t D n H k=aa .bD:=by
 unfold turnO;rw[if_neg J,if_neg (fun e=>by have:=I k _ e;omega),if_pos ⟨K,U⟩]
theorem Qv.of {t:Whose}(ht:t≠.bD)(K:∀k o,O k=aa o->B<=k/\k<w.heap.size)(hB:B<=w.heap.size)(Z:Yd (fun k=>O k=aa t∨O k=aa .self) I w w')(a0:∀k,I k->O k=aa t∨w.heap.size<=k)(hS:∀k,I k->k<w'.heap.size):Qv t O (turnO O t I w.heap.size w'.heap.size) B w w' where
 same:=fun o k U hi=>by
  unfold turnO;by_cases D:I k
  ·rw[if_pos D];refine⟨fun e=>(by injection e with e;exact absurd e.symm U),fun e=>?_⟩;rcases a0 k D with h|h
   ·have h:O k=aa t:=h;rw[h]at e;exact e
   ·have:=(K k o e).2;omega
  ·rw[if_neg D];by_cases J:O k=aa t
   ·rw[if_pos J,J];exact⟨fun e=>(by cases e),fun e=>(by injection e with e;exact absurd e.symm U)⟩
   ·rw[if_neg J];by_cases H:w.heap.size<=k/\k<w'.heap.size
    ·rw[if_pos H];exact⟨fun e=>(by injection e with e;exact absurd e.symm hi),fun e=>(by have:=(K k o e).2;omega)⟩
    ·rw[if_neg H]
 bD:=fun k e=>by
  unfold turnO;by_cases D:I k
  ·rcases a0 k D with h|h
   ·have h:O k=aa t:=h;rw[h]at e;injection e with e;exact absurd e ht
   ·have:=(K k _ e).2;omega
  ·rw[if_neg D,if_neg (fun h=>by rw[h]at e;injection e with e;exact ht e)];by_cases H:w.heap.size<=k/\k<w'.heap.size
   ·rw[if_pos H]
   ·rw[if_neg H];exact e
 aO:=fun k o e=>by
  unfold turnO at e;by_cases D:I k
  ·refine⟨?_,hS k D⟩;rcases a0 k D with h|h
   ·exact(K k _ h).1
   ·omega
  ·rw[if_neg D]at e;by_cases J:O k=aa t
   ·rw[if_pos J]at e;cases e
   ·rw[if_neg J]at e;by_cases H:w.heap.size<=k/\k<w'.heap.size
    ·omega
    ·rw[if_neg H]at e;have:=K k o e;have:=Z.size;omega
 size:=Z.size
 kept:=fun k o e U hs=>Z.block k (K k o e).2 (fun h=>by rcases h with h|h<;>rw[h]at e<;>injection e with e<;>first|exact U e.symm|exact hs e.symm)
theorem QM {t:Whose}(H:Yd (fun k=>O k=aa t∨O k=aa .self) I w w')(U:∀k,I k->O k=aa t∨w.heap.size<=k):Yd (fun k=>O k≠N) (fun k=>turnO O t I w.heap.size w'.heap.size k≠N) w w':=by
 refine⟨H.os,H.tape,H.output,H.size,fun k J hn=>H.block k J (fun h=>hn (by rcases h with h|h<;>rw[h]<;>exact fun e=>(by cases e))),fun k e=>?_⟩;by_cases D:O k=N
 ·refine za ?_;rcases bh k w.heap.size with Z|K
  ·exfalso;refine e ?_;unfold turnO;rw[if_neg (fun h=>by rcases U k h with h|h;(have h:O k=aa t:=h;rw[h]at D;cases D);omega),if_neg (fun h=>by rw[h]at D;cases D),if_neg (by omega)];exact D
  ·exact K
 ·exact aw D
theorem Qv.call {t:Whose}(J:t≠.bD)(K:∀k o,O k=aa o->B<=k/\k<w.heap.size)(hB:B<=w.heap.size)(D:Yd (fun k=>O k=aa t) I w w')(U:∀k,I k->k<w'.heap.size):Qv t O (turnO O t I w.heap.size w'.heap.size) B w w' :=
 Qv.of J K hB ⟨D.os,D.tape,D.output,D.size,fun k H h=>D.block k H (fun e=>h (aw e)),fun k H=>(D.new k H).imp (fun h=>aw h) id⟩ D.new U
variable {t:Whose}
theorem XJ.cO (H:XJ w B O m X ml nb hn)(I:Qv t O O' B w w')(J:.msgs≠t):Zc mE 118 w' B X.vm ml/\∀k,X.vm.ownBlock=aa k->O' k=aa .msgs :=
 ⟨H.row.dC (fun k D=>I.kept k _ (H.cX k D) J (fun e=>by cases e)),fun k D=>(I.same _ k J (fun e=>by cases e)).2 (H.cX k D)⟩
theorem XJ.eR (H:XJ w B O m X ml nb hn)(I:Qv t O O' B w w')(J:.bD≠t):∀x∈ml,Jn w' x/\∀b o,x.2.1=aa ⟨b,o,N⟩->O' b=aa .bD:=fun x D =>
 ⟨(H.bD x D).1.kept I.size (fun b o e=>I.kept b _ ((H.bD x D).2 b o e) J (fun e=>by cases e)),fun b o e=>I.bD b ((H.bD x D).2 b o e)⟩
theorem XJ.cP (H:XJ w B O m X ml nb hn)(I:Qv t O O' B w w')(J:.bV≠t):Zc XI 42 w' B X.ve m.events/\∀k,X.ve.ownBlock=aa k->O' k=aa .bV :=
 ⟨H.bV.dC (fun k D=>I.kept k _ (H.cS k D) J (fun e=>by cases e)),fun k D=>(I.same _ k J (fun e=>by cases e)).2 (H.cS k D)⟩
theorem XJ.bY (H:XJ w B O m X ml nb hn)(I:Qv t O O' B w w')(J:.cD≠t):Zc j5 93 w' B X.vn ((zq m.nodes.length).map nb)/\∀k,X.vn.ownBlock=aa k->O' k=aa .cD :=
 ⟨H.cD.dC (fun k D=>I.kept k _ (H.bU k D) J (fun e=>by cases e)),fun k D=>(I.same _ k J (fun e=>by cases e)).2 (H.bU k D)⟩
theorem XJ.dB (D:XJ w B O m X ml nb hn)(I:Qv t O O' B w w')(H:i<m.nodes.length)(J:.node i≠t):w'.heap[nb i]?=aa (.cells #[.pointer (aa ⟨hn i,0,N⟩),.string (Jc m.nodes i).1.name,.bool (!(Jc m.nodes i).2)] 95 (0,0))/\O' (nb i)=aa (.node i) :=
 ⟨(I.kept _ _ (D.node i H).2 J (fun e=>by cases e)).trans (D.node i H).1,(I.same _ _ J (fun e=>by cases e)).2 (D.node i H).2⟩
theorem XJ.dZ (J:XJ w B O m X ml nb hn)(D:Qv t O O' B w w')(K:i<m.nodes.length)(H:.mem i≠t):XE w' B (hn i) (fun k=>O' k=aa (.mem i)) (Jc m.nodes i).1 :=
 (J.mem i K).kept (fun k=>D.same _ k H (fun e=>by cases e)) D.size (fun k I=>D.kept k _ I H (fun e=>by cases e))
theorem kA.kept {c:fS}{tx:BA}{s:Int}(h:kA w B O i o c tx s)(D:Qv t O O' B w w')(H:.ask i≠t):kA w' B O' i o c tx s:=by
 cases o with
 |none=>exact h
 |some a =>
  obtain⟨b,I,J,K⟩:=h;exact⟨b,I,J.kept (fun k=>D.same _ k H (fun e=>by cases e)) D.size (fun k U=>D.kept k _ U H (fun e=>by cases e)),K⟩
theorem rM.kept {p:Option Nat}{nx:fB}(h:rM w B O o p nx)(D:Qv t O O' B w w')(I:.bI≠t)(Z:.bD≠t):rM w' B O' o p nx:=by
 cases o with
 |none=>exact h
 |some a =>
  obtain⟨b,J,K,U⟩:=h;exact⟨b,J,K.kept (fun k=>D.same _ k I (fun e=>by cases e)) D.size (fun k H=>D.kept k _ H I (fun e=>by cases e)),U.kept D.bD D.size (fun k H=>D.kept k _ H Z (fun e=>by cases e))⟩
theorem XJ.gH (H:XJ w B O m X ml nb hn)(D:Qv (.ask i) O O' B w w'){X':WB}(e1:m'.L=m.L)(J:m'.nodes=m.nodes)(e3:m'.events=m.events)(e4:m'.mover=m.mover)(e5:∀j,j<6->j≠i->Xf m'.asks j=Xf m.asks j/\Yc m'.texts j=Yc m.texts j/\m'.since.getD j 0=m.since.getD j 0)
 (K:X'.vm=X.vm) (U:X'.vn=X.vn) (Z:X'.ve=X.ve) (x4:X'.mp=X.mp) (x5:X'.nx=X.nx) (x6:X'.cf=X.cf) (x7:∀j,j≠i->X'.cl j=X.cl j) (hc:i<6->kA w' B O' i (Xf m'.asks i) (X'.cl i) (Yc m'.texts i) (m'.since.getD i 0)):XJ w' B O' m' X' ml nb hn where
 aO:=D.aO
 row:=by rw[K];exact(H.cO D (fun e=>by cases e)).1
 cX:=by rw[K];exact(H.cO D (fun e=>by cases e)).2
 dK:=by rw[e1];exact H.dK
 bD:=H.eR D (fun e=>by cases e)
 bV:=by rw[Z,e3];exact(H.cP D (fun e=>by cases e)).1
 cS:=by rw[Z];exact(H.cP D (fun e=>by cases e)).2
 cD:=by rw[U,J];exact(H.bY D (fun e=>by cases e)).1
 bU:=by rw[U];exact(H.bY D (fun e=>by cases e)).2
 node:=fun j I=>by rw[J]at I ⊢;exact H.dB D I (fun e=>by cases e)
 mem:=fun j I=>by rw[J]at I ⊢;exact H.dZ D I (fun e=>by cases e)
 ask:=fun j I=>by
  by_cases h:j=i
  ·subst h;exact hc I
  ·obtain⟨g1,g2,g3⟩:=e5 j I h;rw[g1,g2,g3,x7 j h];exact(H.ask j I).kept D (fun e=>h (by injection e))
 bI:=by rw[e4,x4,x5];exact H.bI.kept D (fun e=>by cases e) (fun e=>by cases e)
 cf:=by rw[x6];exact H.cf.kept D.bD D.size (fun k hk=>D.kept k _ hk (fun e=>by cases e) (fun e=>by cases e))
theorem XJ.mJ (D:XJ w B O m X ml nb hn)(H:Qv .bI O O' B w w'){X':WB}(e1:m'.L=m.L)(J:m'.nodes=m.nodes)(e3:m'.events=m.events)(K:m'.asks=m.asks/\m'.texts=m.texts/\m'.since=m.since)
 (U:X'.vm=X.vm) (Z:X'.vn=X.vn) (x3:X'.ve=X.ve) (x7:X'.cl=X.cl) (hm:rM w' B O' m'.mover X'.mp X'.nx) (hc:iR w' O' X'.cf):XJ w' B O' m' X' ml nb hn where
 aO:=H.aO
 row:=by rw[U];exact(D.cO H (fun e=>by cases e)).1
 cX:=by rw[U];exact(D.cO H (fun e=>by cases e)).2
 dK:=by rw[e1];exact D.dK
 bD:=D.eR H (fun e=>by cases e)
 bV:=by rw[x3,e3];exact(D.cP H (fun e=>by cases e)).1
 cS:=by rw[x3];exact(D.cP H (fun e=>by cases e)).2
 cD:=by rw[Z,J];exact(D.bY H (fun e=>by cases e)).1
 bU:=by rw[Z];exact(D.bY H (fun e=>by cases e)).2
 node:=fun j I=>by rw[J]at I ⊢;exact D.dB H I (fun e=>by cases e)
 mem:=fun j I=>by rw[J]at I ⊢;exact D.dZ H I (fun e=>by cases e)
 ask:=fun j I=>by rw[K.1,K.2.1,K.2.2,x7];exact(D.ask j I).kept H (fun e=>by cases e)
 bI:=hm
 cf:=hc
theorem XJ.zZ (H:XJ w B O m X ml nb hn)(D:Qv (.mem i) O O' B w w')(hi:i<m.nodes.length)(e1:m'.L=m.L)(e3:m'.events=m.events)(e4:m'.mover=m.mover)(J:m'.asks=m.asks/\m'.texts=m.texts/\m'.since=m.since)(K:m'.nodes.length=m.nodes.length)(U:∀j,j≠i->Jc m'.nodes j=Jc m.nodes j)(Z:(Jc m'.nodes i).1.name=(Jc m.nodes i).1.name/\(Jc m'.nodes i).2=(Jc m.nodes i).2)
 (hm:XE w' B (hn i) (fun k=>O' k=aa (.mem i)) (Jc m'.nodes i).1):XJ w' B O' m' X ml nb hn where
 aO:=D.aO
 row:=(H.cO D (fun e=>by cases e)).1
 cX:=(H.cO D (fun e=>by cases e)).2
 dK:=by rw[e1];exact H.dK
 bD:=H.eR D (fun e=>by cases e)
 bV:=by rw[e3];exact(H.cP D (fun e=>by cases e)).1
 cS:=(H.cP D (fun e=>by cases e)).2
 cD:=by rw[K];exact(H.bY D (fun e=>by cases e)).1
 bU:=(H.bY D (fun e=>by cases e)).2
 node:=fun j I=>by
  rw[K]at I;have:=H.dB D I (fun e=>by cases e);by_cases h:j=i
  ·subst h;rw[Z.1,Z.2];exact this
  ·rw[U j h];exact this
 mem:=fun j I=>by
  rw[K]at I;by_cases h:j=i
  ·subst h;exact hm
  ·rw[U j h];exact H.dZ D I (fun e=>h (by injection e))
 ask:=fun j I=>by rw[J.1,J.2.1,J.2.2];exact(H.ask j I).kept D (fun e=>by cases e)
 bI:=by rw[e4];exact H.bI.kept D (fun e=>by cases e) (fun e=>by cases e)
 cf:=H.cf.kept D.bD D.size (fun k hk=>D.kept k _ hk (fun e=>by cases e) (fun e=>by cases e))
theorem XJ.vL (H:XJ w B O m X ml nb hn)(D:Qv .msgs O O' B w w'){X':WB}{J:List (Zb×Lv)}(K:m'.nodes=m.nodes)(e3:m'.events=m.events)(e4:m'.mover=m.mover)(U:m'.asks=m.asks/\m'.texts=m.texts/\m'.since=m.since)
 (Z:X'.vn=X.vn) (x3:X'.ve=X.ve) (x4:X'.mp=X.mp) (x5:X'.nx=X.nx) (x6:X'.cf=X.cf) (x7:X'.cl=X.cl) (hr:Zc mE 118 w' B X'.vm J) (a0:∀k,X'.vm.ownBlock=aa k->O' k=aa .msgs) (a2:J.map Prod.fst=m'.L) (hi:∀x∈J,Jn w' x/\∀b o,x.2.1=aa ⟨b,o,N⟩->O' b=aa .bD):XJ w' B O' m' X' J nb hn where
 aO:=D.aO
 row:=hr
 cX:=a0
 dK:=a2
 bD:=hi
 bV:=by rw[x3,e3];exact(H.cP D (fun e=>by cases e)).1
 cS:=by rw[x3];exact(H.cP D (fun e=>by cases e)).2
 cD:=by rw[Z,K];exact(H.bY D (fun e=>by cases e)).1
 bU:=by rw[Z];exact(H.bY D (fun e=>by cases e)).2
 node:=fun j I=>by rw[K]at I ⊢;exact H.dB D I (fun e=>by cases e)
 mem:=fun j I=>by rw[K]at I ⊢;exact H.dZ D I (fun e=>by cases e)
 ask:=fun j I=>by rw[U.1,U.2.1,U.2.2,x7];exact(H.ask j I).kept D (fun e=>by cases e)
 bI:=by rw[e4,x4,x5];exact H.bI.kept D (fun e=>by cases e) (fun e=>by cases e)
 cf:=by rw[x6];exact H.cf.kept D.bD D.size (fun k hk=>D.kept k _ hk (fun e=>by cases e) (fun e=>by cases e))
end
end
theorem Yx {X:WB}(B:w.heap[h]?=aa (.cells (Zi X) 66 (0,0)))(D:k<6):w.cell? ⟨h,1+k*5,N⟩=aa (J3 (X.cl k).p)/\w.cell? ⟨h,1+k*5+1,N⟩=aa (.bool (X.cl k).put)/\w.cell? ⟨h,1+k*5+2,N⟩=aa (.string (X.cl k).text)/\w.cell? ⟨h,1+k*5+3,N⟩=aa (.int .i64 (X.cl k).cfg)/\w.cell? ⟨h,1+k*5+4,N⟩=aa (.int .i64 (X.cl k).fr):=by
 have c:=fun i=>(Xa B i).1
 match k,D with
 |0,_=>exact⟨c 1,c 2,c 3,c 4,c 5⟩
 |1,_=>exact⟨c 6,c 7,c 8,c 9,c 10⟩
 |2,_=>exact⟨c 11,c 12,c 13,c 14,c 15⟩
 |3,_=>exact⟨c 16,c 17,c 18,c 19,c 20⟩
 |4,_=>exact⟨c 21,c 22,c 23,c 24,c 25⟩
 |5,_=>exact⟨c 26,c 27,c 28,c 29,c 30⟩
theorem uM (who:Int)(w:World):aM prog 92 #[.int .i64 who] w fun e w'=>e=.returned (.bool (decide (0<=who/\who<6)))/\w'=w:=by
 by_cases B:0<=who
 ·have H:decide (0<=who)=true:=decide_eq_true B;have D:Hid (decide (0<=who/\who<6)=decide (who<6)):=by show _=_;simp[B]
  rw[D.out];clear B D;go_enter func92,ntmps92;go_wp2;go_ret;exact⟨rfl,rfl⟩
 ·have H:decide (0<=who)=false:=decide_eq_false B;have D:Hid (decide (0<=who/\who<6)=aD):=decide_eq_false (fun h=>B h.1);rw[D.out];clear B D;go_enter func92,ntmps92;go_wp2;go_ret;exact⟨rfl,rfl⟩
def kV (o:Option Za):BA:=match o with|none=>pQ|some a=>a.st.word
theorem XV {O:Nat->Option Whose}{m:Ya}{X:WB}{ml:List (Zb×Lv)}{nb hn:Nat->Nat}(J:Ye w B h O m X ml nb hn)(hk:k<6):
 aM prog 85 #[.pointer (aa ⟨h,1+k*5,N⟩)] w fun e w'=>e=.returned (.string (kV (Xf m.asks k)))/\aN w.heap.size w w':=by
 have H:=(Yx J.blk hk).1;have D:=J.ask k hk;cases I:Xf m.asks k with
 |none =>
  rw[I]at D;have D:=D;rw[D]at H;change w.cell? ⟨h,1+k*5,N⟩=aa (.pointer N)at H;show aM _ _ _ _ fun e w'=>e=.returned (.string ⟨#[105,100,108,101]⟩)/\_
  clear D I J;go_enter func85,ntmps85;go_wp2;go_ret;exact⟨rfl,Below.refl _ _⟩
 |some a =>
  rw[I]at D;obtain⟨b,K,U,_⟩:=D;rw[K]at H;change w.cell? ⟨h,1+k*5,N⟩=aa (.pointer (aa ⟨b,0,N⟩))at H;have HS:=CL U;show aM _ _ _ _ fun e w'=>e=.returned (.string a.st.word)/\_
  clear K U I J;generalize a.st.word=sw at *;go_enter func85,ntmps85;go_wp2_with fail
  refine HS.mono ?_;rintro e w1 ⟨rfl,Z⟩;have HB:Hid _:=Z;clear Z;go_wp2;go_ret;exact⟨rfl,HB.out⟩
theorem DI {X:WB}(B:w.heap[h]?=aa (.cells (Zi X) 66 (0,0)))(D:0<=X.aY)(I:X.aY<=1152921504606846976):
 aM prog 110 #[.pointer (aa ⟨h,0,N⟩)] w fun e w'=>e=.returned (.int .i64 X.aY)/\w'=w.setCell ⟨h,40,N⟩ (.int .i64 (X.aY+1)):=by
 have J:w.cell? ⟨h,40,N⟩=aa (.int .i64 X.aY):=(Xa B 40).1;have K:=(Xa B 40).2;have a1:az.wrap (X.aY+1)=X.aY+1:=by rw[ak];omega
 have H:wrap64 X.aY=X.aY:=by
  have:=Jj6 X.aY.toNat (by omega)
  rwa[Int.toNat_of_nonneg D]at this
 clear B D I;generalize X.aY=n at *;go_enter func110,ntmps110;go_wp2;go_ret;exact⟨by show Ending.returned (Value.int .i64 (wrap64 n))=_;rw[H],rfl⟩
section
section
variable {w w':World} {B h:Nat} {O:Nat->Option Whose} {m:Ya} {X:WB} {ml:List (Zb×Lv)} {nb hn:Nat->Nat}
theorem Ye.lt (D:Ye w B h O m X ml nb hn):h<w.heap.size:=(D.aO h _ D.self).2
theorem Ye.gV (D:Ye w B h O m X ml nb hn):X.vm.ownBlock≠aa h:=fun e=>by
 have:=D.cX h e;rw[D.self]at this;cases this
theorem Ye.cell (D:Ye w B h O m X ml nb hn)(i:Nat):w.cell? ⟨h,i,N⟩=(Zi X)[i]?/\w.frozen? ⟨h,i,N⟩=false:=Xa D.blk i
theorem Ye.base (D:Ye w B h O m X ml nb hn):B<=w.heap.size:=by have:=D.aO h _ D.self;omega
theorem XJ.aS (D:XJ w B O m X ml nb hn)(H:w.heap.size<=w'.heap.size)(J:∀k o,O k=aa o->o≠.self->w'.heap[k]?=w.heap[k]?):XJ w' B O m X ml nb hn :=
 D.gH (i:=6) ⟨fun _ _ _ _=>Iff.rfl,fun _ h=>h,fun k o e=>⟨(D.aO k o e).1,aj (D.aO k o e).2 H⟩,H,fun k o e _ h=>J k o e h⟩ rfl rfl rfl rfl (fun j _ _=>⟨rfl,rfl,rfl⟩) rfl rfl rfl rfl rfl rfl (fun _ _=>rfl) (fun I=>absurd I (by omega))
theorem Ye.aS (D:Ye w B h O m X ml nb hn)(I:w.heap.size<=w'.heap.size)(H:∀k o,O k=aa o->w'.heap[k]?=w.heap[k]?):Ye w' B h O m X ml nb hn :=
 {D.toXJ.aS I (fun k o e _=>H k o e)with blk:=(H h _ D.self).trans D.blk,self:=D.self,cV:=D.cV,dF:=D.dF,aW:=D.aW}
theorem Ye.below (D:Ye w B h O m X ml nb hn)(H:aN w.heap.size w w'):Ye w' B h O m X ml nb hn:=D.aS H.size (fun k o e=>H.block k (D.aO k o e).2)
theorem Ye.oV (D:Ye w B h O m X ml nb hn){K:ar}{U:List (Zb×Lv)}(I:nN h B X.vm K U w w')(hi:∀x∈U,Jn w x/\∀b o,x.2.1=aa ⟨b,o,N⟩->O b=aa .bD):∃O',Ye w' B h O' {m with L:=U.map Prod.fst} {X with vm:=K} U nb hn/\Qv .msgs O O' B w w'/\Yd (fun k=>O k≠N) (fun k=>O' k≠N) w w':=by
 have Z:∀k,K.ownBlock=aa k->O k=aa .msgs∨w.heap.size<=k:=fun k H=>by
  rcases I.loc with e|⟨k',e,a2⟩
  ·exact aw (D.cX k (e.symm.trans H))
  ·rw[H]at e;injection e with e;exact za (by omega)
 have hU:Yd (fun k=>O k=aa .msgs∨O k=aa .self) (fun k=>K.ownBlock=aa k) w w':=⟨I.os,I.tape,I.output,I.size,fun k H a0=>I.cW k H (fun e=>a0 (za (e▸D.self))) (fun e=>a0 (aw (D.cX k e))),fun k H=>(Z k H).imp aw id⟩;have J:=Qv.of (t:=.msgs) (fun e=>by cases e) D.aO D.base hU Z (fun k H=>(I.own.block H).2);refine⟨_,{D.toXJ.vL (m':={m with L:=U.map Prod.fst}) (X':={X with vm:=K}) J rfl rfl rfl ⟨rfl,rfl,rfl⟩ rfl rfl rfl rfl rfl rfl I.own (fun k H=>(ZU (fun e=>by cases e) k).2 H) rfl (fun x hx=>⟨(hi x hx).1.kept I.size (fun b o e=>J.kept b _ ((hi x hx).2 b o e) (fun e=>by cases e) (fun e=>by cases e)),fun b o e=>J.bD b ((hi x hx).2 b o e)⟩)with blk:=?_,self:=?_,cV:=D.cV,dF:=D.dF,aW:=D.aW},J,QM hU Z⟩
 ·have:=I.self _ _ D.blk;exact this
 ·exact(J.same .self h (fun e=>by cases e) (fun e=>by cases e)).2 D.self
end
end
section
section
variable {w w':World} {B h:Nat} {O:Nat->Option Whose} {m:Ya} {X:WB} {ml:List (Zb×Lv)} {nb hn:Nat->Nat}
def LG (w:World)(B h:Nat)(O:Nat->Option Whose)(m':Ya)(X:WB)(nb hn:Nat->Nat)(w':World):Prop:=∃O' D H,Ye w' B h O' m' {X with vm:=D} H nb hn/\Qv .msgs O O' B w w'/\Yd (fun k=>O k≠N) (fun k=>O' k≠N) w w'
theorem oS (D:Ye w B h O m X ml nb hn)(hf:m.L.length<=120){q:Option bj}{c2:Nat}{L:List Zb}(hL:L.length<=1000)(hm:Qp c2 (fun b=>O b=aa .bD) w q L):
 aM prog 82 #[.pointer (aa ⟨h,0,N⟩),.slice q L.length c2] w fun e w'=>e=.returned (.tuple #[])/\LG w B h O (m.send L) X nb hn w':=by
 obtain⟨⟨I,J,Z,h3,h4⟩,h5,K⟩:=hm;have a0:L.length=I.length:=by rw[<-J,bq]
 have a2:ml.length=m.L.length:=by rw[<-D.dK,bq]
 rw[a0];refine(PV h B X.vm ml I q c2 w (by omega) (by omega) (D.cell 0).1 (D.cell 0).2 D.gV D.base D.row Z (by omega) (fun e=>⟨zc.1 (by have:=(K e).1;omega),(K e).2⟩)).mono fun e w' U=>⟨U.1,?_⟩
 obtain⟨v',hF⟩:=U.2;obtain⟨O',g1,g2,g3⟩:=D.oV hF (fun x H=>by
  rcases List.mem_append.1 H with H|H
  ·exact D.bD x H
  ·exact h3 x (List.mem_of_mem_take H))
 refine⟨O',v',ml++I.take (120-ml.length),?_,g2,g3⟩;have e:({m with L:=(ml++I.take (120-ml.length)).map Prod.fst}:Ya)=m.send L:=by
  unfold Ya.send;rw[List.map_append,List.map_take,D.dK,J,a2]
 rw[<-e];exact g1
theorem Ye.asked (D:Ye w B h O m X ml nb hn)(hi:i<6)(hX:(X.cl i).p=aa b)(Z:Qw w' B b I a)(H:Yd (fun k=>O k=aa (.ask i)) I w w')(a2:(X.cl i).put=a.put)(a3:(X.cl i).text=Yc m.texts i)(a4:(X.cl i).cfg=a.config)(a5:(X.cl i).fr=m.since.getD i 0)(a6:m.asks.length=6):
 ∃O',Ye w' B h O' {m with asks:=m.asks.set i (aa a)} X ml nb hn/\Qv (.ask i) O O' B w w'/\(∀k,w.heap.size<=k->k<w'.heap.size->¬I k->O' k=aa .bD)/\Yd (fun k=>O k≠N) (fun k=>O' k≠N) w w':=by
 have a0:∀k,I k->k<w'.heap.size:=fun k J=>by
  obtain⟨_,_,_,_,_,_,_,_,_,_,hq⟩:=Z.1;exact(hq.aO k J).2
 have K:=Qv.call (t:=.ask i) (fun e=>by cases e) D.aO D.base H a0;have U:∀j,Xf (m.asks.set i (aa a)) j=if j=i then aa a else Xf m.asks j:=fun j=>by
  unfold Xf;rw[zd,List.getElem?_set];by_cases e:i=j
  ·subst e;rw[if_pos rfl,if_pos (by omega),if_pos rfl];rfl
  ·rw[if_neg e,if_neg (fun h=>e h.symm),zd]
 refine⟨_,{D.toXJ.gH (m':={m with asks:=m.asks.set i (aa a)}) (X':=X) K rfl rfl rfl rfl (fun j _ hj=>⟨by show Xf (m.asks.set i (aa a)) j=_;rw[U,if_neg hj],rfl,rfl⟩) rfl rfl rfl rfl rfl rfl (fun _ _=>rfl) (fun _=>?_)with blk:=?_,self:=?_,cV:=D.cV,dF:=D.dF,aW:=D.aW},K,fun k h1 h2 h3=>oK (fun k o e=>(D.aO k o e).2) h3 h1 h2,QM ⟨H.os,H.tape,H.output,H.size,fun k J h=>H.block k J (fun e=>h (aw e)),fun k J=>(H.new k J).imp (fun h=>aw h) id⟩ H.new⟩
 ·show kA _ _ _ _ (Xf (m.asks.set i (aa a)) i) _ _ _;rw[U,if_pos rfl];refine⟨b,hX,?_,a2,a3,a4,a5⟩;have e:(fun k=>turnO O (.ask i) I w.heap.size w'.heap.size k=aa (.ask i))=I:=funext fun k=>propext (ZU (fun e=>by cases e) k)
  rw[e];exact Z
 ·exact(H.block h D.lt (fun e=>by have e:O h=aa (.ask i):=e;rw[D.self]at e;cases e)).trans D.blk
 ·exact(K.same .self h (fun e=>by cases e) (fun e=>by cases e)).2 D.self
end
end
section
def JA (f:Nat->fS)(i:Nat)(c:fS):Nat->fS:=fun j=>if j=i then c else f j
theorem YZ (f:Nat->fS)(i:Nat)(c:fS):JA f i c i=c:=if_pos rfl
theorem yF (f:Nat->fS){j:Nat}(c:fS)(h:j≠i):JA f i c j=f j:=if_neg h
theorem UR (X:WB)(D:i<6)(p:Option Nat):(Zi X).setIfInBounds (1+i*5) (J3 p)=Zi {X with cl:=JA X.cl i {X.cl i with p:=p}}:=by
 match i,D with
 |0,_=>rfl
 |1,_=>rfl
 |2,_=>rfl
 |3,_=>rfl
 |4,_=>rfl
 |5,_=>rfl
theorem Jt0 (X:WB)(D:i<6)(c:Int):(Zi X).setIfInBounds (1+i*5+3) (.int .i64 c)=Zi {X with cl:=JA X.cl i {X.cl i with cfg:=c}}:=by
 match i,D with
 |0,_=>rfl
 |1,_=>rfl
 |2,_=>rfl
 |3,_=>rfl
 |4,_=>rfl
 |5,_=>rfl
section
variable {w w':World} {B h:Nat} {O:Nat->Option Whose} {m:Ya} {X:WB} {ml:List (Zb×Lv)} {nb hn:Nat->Nat}
structure Yp (h:Nat) (w w':World):Prop where
 os:w'.os=w.os
 tape:w'.tape=w.tape
 output:w'.output=w.output
 size:w.heap.size<=w'.heap.size
 cW:∀k,k<w.heap.size->k≠h->w'.heap[k]?=w.heap[k]?
theorem Yp.refl (h:Nat)(w:World):Yp h w w:=⟨rfl,rfl,rfl,bc _,fun _ _ _=>rfl⟩
theorem Yp.set {h:Nat}{w w':World}(D:Yp h w w')(i:Nat)(v:ar):Yp h w (w'.setCell ⟨h,i,N⟩ v):=⟨D.os,D.tape,D.output,by have:=D.size;simpa[bx]using this,fun k I H=>(Below.heap_setCell _ _ _ _ H).trans (D.cW k I H)⟩
theorem Yp.below {h:Nat}{w I K:World}(D:Yp h w I)(H:aN I.heap.size I K):Yp h w K:=⟨H.os.trans D.os,H.tape.trans D.tape,H.output.trans D.output,au D.size H.size,fun k J U=>(H.block k (aj J D.size)).trans (D.cW k J U)⟩
theorem Ye.started (D:Ye w B h O m X ml nb hn)(I:Yp h w w'){Z:Nat}{c:fS}{J:Int}(hi:i<6)(a4:m.asks.length=6)(a3:w'.heap[h]?=aa (.cells (Zi {X with aY:=J,cl:=JA X.cl i c}) 66 (0,0)))(ha:Qw w' B Z S a)(hS:∀k,S k->w.heap.size<=k)(hc:c=⟨aa Z,a.put,Yc m.texts i,a.config,m.since.getD i 0⟩):
 ∃O',Ye w' B h O' {m with asks:=m.asks.set i (aa a),ops:=J} {X with aY:=J,cl:=JA X.cl i c} ml nb hn/\Qv (.ask i) O O' B w w'/\(∀k,w.heap.size<=k->k<w'.heap.size->¬S k->O' k=aa .bD)/\Yd (fun k=>O k≠N) (fun k=>O' k≠N) w w':=by
 have a0:∀k,S k->k<w'.heap.size:=fun k H=>by
  obtain⟨_,_,_,_,_,_,_,_,_,_,hq⟩:=ha.1;exact(hq.aO k H).2
 have hU:Yd (fun k=>O k=aa (.ask i)∨O k=aa .self) S w w':=⟨I.os,I.tape,I.output,I.size,fun k H a2=>I.cW k H (fun e=>a2 (za (e▸D.self))),fun k H=>za (hS k H)⟩;have K:=Qv.of (t:=.ask i) (fun e=>by cases e) D.aO D.base hU (fun k H=>za (hS k H)) a0;refine⟨_,{D.toXJ.gH (m':={m with asks:=m.asks.set i (aa a),ops:=J}) (X':={X with aY:=J,cl:=JA X.cl i c}) K rfl rfl rfl rfl (fun j _ U=>⟨by show Xf (m.asks.set i (aa a)) j=_;rw[ZZ (by omega),if_neg U],rfl,rfl⟩) rfl rfl rfl rfl rfl rfl (fun j U=>yF _ _ U) (fun _=>?_)with blk:=a3,self:=?_,cV:=D.cV,dF:=D.dF,aW:=⟨D.aW.1,rfl,D.aW.2.2⟩},K,fun k h1 h2 h3=>oK (fun k o e=>(D.aO k o e).2) h3 h1 h2,QM hU (fun k H=>za (hS k H))⟩
 ·show kA _ _ _ _ (Xf (m.asks.set i (aa a)) i) (JA X.cl i c i) _ _;rw[ZZ (by omega),if_pos rfl,YZ,hc];refine⟨Z,rfl,?_,rfl,rfl,rfl,rfl⟩;have e:(fun k=>turnO O (.ask i) S w.heap.size w'.heap.size k=aa (.ask i))=S:=funext fun k=>propext (ZU (fun e=>by cases e) k)
  rw[e];exact ha
 ·exact(K.same .self h (fun e=>by cases e) (fun e=>by cases e)).2 D.self
end
end
section
section
variable {w w':World} {B h:Nat} {O:Nat->Option Whose} {m:Ya} {X:WB} {ml:List (Zb×Lv)} {nb hn:Nat->Nat} {n k:Nat}
theorem CB (D:i<6):JY (i:Int)=QW i:=by
 match i,D with
 |0,_=>decide +kernel
 |1,_=>decide +kernel
 |2,_=>decide +kernel
 |3,_=>decide +kernel
 |4,_=>decide +kernel
 |5,_=>decide +kernel
def Yj (w:World)(B h:Nat)(O:Nat->Option Whose)(m':Ya)(nb hn:Nat->Nat)(w':World):Prop:=∃O' X' D,Ye w' B h O' m' X' D nb hn/\Yd (fun k=>O k≠N) (fun k=>O' k≠N) w w'
def yT (ad:Nat->bj)(w:World)(O:Nat->Option Whose):Prop:=∀W:World,w.heap.size<=W.heap.size->(∀k,k<w.heap.size->O k=N->W.heap[k]?=w.heap[k]?)->Zp W ad/\qO W
def lU (m:Ya)(i:Nat)(put:Bool):eT:=⟨put,i,m.ops,m.aC,aG m.aB m.aC,wX,Yc m.texts i⟩
theorem ME (D:i<6)(put:Bool):(lU m i put).ask=YA i m.ops m.aC (aG m.aB m.aC) put (Yc m.texts i):=by
 unfold eT.ask lU YA;rw[CB D]
theorem TZ (D:WZ n k m)(K:i<6)(put:Bool)(J:0<=m.ops):JX (lU m i put)=(0,-1):=by
 unfold JX;have H:¬0<(Jg (lU m i put).c).1:=(D.cU m.aC D.act).1;have I:¬Jo (lU m i put).key=false:=by show ¬Jo wX=aD;decide +kernel
 rw[if_neg H,if_neg I,if_pos];have:=D.gD i;exact⟨by show(0:Int)<=(i:Int);omega,by show(i:Int)<6;omega,J,by show(0:Int)<=(m.aC:Int);omega,fun _=>this⟩
theorem BI {ad:Nat->bj}(J:Ye w B h O m X ml nb hn)(U:WZ n k m)(hi:i<6)(h0:0<=m.ops)(h1:m.ops<=1152921504606846976)(hE:yT ad w O)(Z:Yp h w w')(put:Bool):
 aM prog (if put then 111 else 112) (if put then #[.int .i64 (i:Int),.int .i64 m.ops,iE X.cf.c (.slice X.cf.p X.cf.c.L.length X.cf.cap),.int .i64 X.act,.string ⟨#[120]⟩,.string (Yc m.texts i)]else #[.int .i64 (i:Int),.int .i64 m.ops,iE X.cf.c (.slice X.cf.p X.cf.c.L.length X.cf.cap),.int .i64 X.act,.string ⟨#[120]⟩]) w' fun e H=>∃K,e=.returned (.tuple #[.pointer (aa ⟨K,0,N⟩),.nilIface])/\Hid (∃S,Qw H w'.heap.size K S (YA i m.ops m.aC (aG m.aB m.aC) put (Yc m.texts i)))/\Hid (aN w'.heap.size w' H):=by
 have a0:X.cf.c=aG m.aB m.aC:=J.cV;have a2:Yn w' (aG m.aB m.aC) X.cf.p X.cf.cap:=by
  rw[<-a0];obtain⟨D,I⟩:=J.cf;exact⟨D.strs.same Z.size (fun b o e=>Z.cW b (J.aO b _ (I b o e)).2 (fun e'=>by have:=I b o e;rw[e',J.self]at this;cases this)),D.room,D.empty,D.len,D.size,D.ints⟩
 obtain⟨a3,a4⟩:=hE w' Z.size (fun k hk hn=>Z.cW k hk (fun e=>by rw[e,J.self]at hn;cases hn));have hf:=TZ U hi put h0;have hm:=U.many;have ha:=U.act;have a5:∀e H,pP Qw ad (lU m i put) w'.heap.size e H/\aN w'.heap.size w' H->∃K,e=.returned (.tuple #[.pointer (aa ⟨K,0,N⟩),.nilIface])/\Hid (∃S,Qw H w'.heap.size K S (YA i m.ops m.aC (aG m.aB m.aC) put (Yc m.texts i)))/\Hid (aN w'.heap.size w' H):=fun e H hq=>by
  obtain⟨⟨ev,D,I⟩,g3⟩:=hq;rw[hf]at D I;rcases I with⟨I,_⟩|⟨_,hb,S,g4,g5⟩
  ·exact absurd I (by decide)
  ·rw[ME hi]at g5;have:ev=.nilIface:=by
    rcases D with⟨D,_⟩|⟨j,_,_,D,_⟩|⟨j,_,_,_,D,_⟩
    ·exact D
    ·have D:(0:Int)=((j+1:Nat):Int):=D;omega
    ·have D:(0:Int)=((j+1:Nat):Int):=D;omega
   subst this;exact⟨hb,g4,⟨S,g5⟩,g3⟩
 rw[a0,J.aW.1];cases put with
 |true=>exact((eL ad).put (lU m i true) X.cf.p X.cf.cap w' a2 rfl (by show wX.size<=1000;decide) (by have:=U.gD i;show(Yc m.texts i).size<=3000;omega) ⟨by show _<=(i:Int);omega,by show(i:Int)<=_;omega⟩ ⟨by show _<=m.ops;omega,by show m.ops<=_;omega⟩ ⟨by show _<=(m.aC:Int);omega,by show(m.aC:Int)<=_;omega⟩ a3 a4).mono a5
 |false=>exact((eL ad).get (lU m i aD) X.cf.p X.cf.cap w' a2 rfl (by show wX.size<=1000;decide) ⟨by show _<=(i:Int);omega,by show(i:Int)<=_;omega⟩ ⟨by show _<=m.ops;omega,by show m.ops<=_;omega⟩ ⟨by show _<=(m.aC:Int);omega,by show(m.aC:Int)<=_;omega⟩ a3 a4).mono a5
theorem Qw.base (h:Qw w B' b S a)(hB:B<=B'):Qw w B b S a:=by
 obtain⟨⟨J,P,F,T,asks,K,U,mm,D,row,H⟩,Z⟩:=h;exact⟨⟨J,P,F,T,asks,K,U,mm,D,row,{H with aO:=fun k I=>⟨au hB (H.aO k I).1,(H.aO k I).2⟩}⟩,Z⟩
theorem Qw.dA (h:Qw w B b S a)(Z:w.heap.size<=w'.heap.size)(hk:∀k,S k->w'.heap[k]?=w.heap[k]?):Qw w' B b S a:=by
 obtain⟨⟨H,P,F,T,asks,I,J,mm,D,row,K⟩,U⟩:=h;exact⟨⟨H,P,F,T,asks,I,J,mm,D,row,K.aS Z hk⟩,U⟩
theorem Qw.dH (h:Qw w B b S a):∀k,S k->B<=k/\k<w.heap.size:=by
 obtain⟨⟨I,P,F,T,asks,J,K,mm,D,row,H⟩,U⟩:=h;exact H.aO
theorem Ye.grow (H:Ye w B h O m X ml nb hn)(I:aN w.heap.size w w'):∃O',Ye w' B h O' m X ml nb hn/\(∀k,w.heap.size<=k->k<w'.heap.size->O' k=aa .bD)/\Yd (fun k=>O k≠N) (fun k=>O' k≠N) w w'/\∀k,O' k=N->O k=none:=by
 have K:Yd (fun k=>O k=aa (.ask 6)∨O k=aa .self) (fun k=>O k=aa (.ask 6)) w w':=⟨I.os,I.tape,I.output,I.size,fun k D _=>I.block k D,fun k D=>aw (aw D)⟩;have U:=Qv.of (t:=.ask 6) (fun e=>by cases e) H.aO H.base K (fun k D=>aw D) (fun k D=>aj (H.aO k _ D).2 I.size);refine⟨_,{H.toXJ.gH (i:=6) U rfl rfl rfl rfl (fun j _ _=>⟨rfl,rfl,rfl⟩) rfl rfl rfl rfl rfl rfl (fun _ _=>rfl) (fun Z=>absurd Z (by omega))with blk:=(I.block h H.lt).trans H.blk,self:=(U.same .self h (fun e=>by cases e) (fun e=>by cases e)).2 H.self,cV:=H.cV,dF:=H.dF,aW:=H.aW},fun k J h2=>oK (fun k o e=>(H.aO k o e).2) (fun e=>by have:=(H.aO k _ e).2;omega) J h2,QM K (fun k D=>aw D),fun k D=>?_⟩;unfold turnO at D;by_cases J:O k=aa (.ask 6)
 ·rw[if_pos J]at D;cases D
 ·rw[if_neg J,if_neg J]at D;split at D
  ·cases D
  ·exact D
theorem Yd.trans' {J K:Nat->Prop}{w U Z:World}(D:Yd S J w U)(H:Yd J K U Z):Yd S K w Z:=⟨H.os.trans D.os,H.tape.trans D.tape,H.output.trans D.output,au D.size H.size,fun k I hn=>(H.block k (aj I D.size) (fun h=>by rcases D.new k h with h|h;exact hn h;omega)).trans (D.block k I hn),fun k h=>by
 rcases H.new k h with h|h
 ·exact D.new k h
 ·exact za (au D.size h)⟩
end
end
end Go.Proofs.YtfgapcknnoeplaaGreatDoor

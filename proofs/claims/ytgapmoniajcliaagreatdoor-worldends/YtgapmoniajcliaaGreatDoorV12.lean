/- Texts laid together. -/
import Derived.Test.YtgapmoniajcliaaGreatDoorV10
import Derived.Deep.MidRow
set_option maxRecDepth 10000
set_option maxHeartbeats 8000000
open Option renaming some->aa,none->N
open Go.RowKit renaming Below->ab
open Bool renaming false->ac,true->ai
open Go.World renaming cell?->ae,cell?_alloc_at->aj,frozen?->aq,cell?_of_block->ar,setRow->aC,setCell->zh
open Go renaming wp_region_still_tail->af,Value->al,Calls->am,wpStill_nil->ap,TypeId->ax,Addr->zc,madeCells->a1
open List renaming take_succ_cons->ag,drop_succ_cons->ah,take_zero->an,drop_zero->ao,getElem_mem->aE
open Nat renaming le_trans->ak,lt_of_lt_of_le->av,le_refl->zb,zero_add->ba,lt_or_ge->bb
open Or renaming inl->au,inr->aA
namespace Go.Proofs.YtgapmoniajcliaaGreatDoor
open Go.Proofs.Tryz
open Go.RowKit
variable {w W:World}{a:Act}{P:Program}{T:ax}{asks:BA}{D:Array al}{p:Option zc}{b:Nat}{I K:al}{ops:Array Oper}{o:Oper}{Q:Exit->Act->World->Prop}
theorem TN (B D g n i:Nat)(H I:Int)(tx J:BA)(c:Nat)(w:World)(K:i<n)(s0:w.cell? ⟨D,0,N⟩=aa (.slice (aa ⟨g,0,N⟩) n c))
 (O:w.cell? ⟨B,0,N⟩=aa (.int .i64 H)) (U:w.cell? ⟨B,1,N⟩=aa (.int .i64 I)) (Z:w.cell? ⟨B,2,N⟩=aa (.string tx)) (g0:w.cell? ⟨g,i*2,N⟩=aa (.int .i64 (i:Int))) (g1:w.cell? ⟨g,i*2+1,N⟩=aa (.string J)):
 am prog 164 (#[.int .i64 (i:Int)]++#[.pointer (aa ⟨B,0,N⟩),.pointer (aa ⟨D,0,N⟩)]) w fun e w'=>e=.returned (.slice (aa ⟨w.heap.size,0,N⟩) 1 1)/\∃m,w'=(w.drewN m).alloc (.cells #[.int .i64 H,.int .i64 I,.int .i64 (tx.size:Int),.int .i64 (i:Int),.string J] 142):=by
 show am prog 164 #[.int .i64 (i:Int),.pointer (aa ⟨B,0,N⟩),.pointer (aa ⟨D,0,N⟩)] w _;go_enter func164,ntmps164;go_wp2;refine af 10 (by kernel_rfl) (by kernel_rfl) ?_;simp only[ag,an,ah,ao]
 still_step
 still_step
 still_step
 still_step
 still_step
 still_step
 still_step
 still_step
 still_step
 still_step
 refine ap ?_;go_wp2;go_ret;exact⟨rfl,1,rfl⟩
theorem MO {X:ax}{B h:Nat}{S S0:Nat->Prop}{a:Za}{P F T:J0}{cv:al}{aw:BA}{m:Option Nat}{D:DataW al}{row:BA->al}(K:JF X w B h S S0 a P F T asks cv aw m D row)(d3:a.st=.keeping)(z:zc)(hZ:w.cell? ⟨9,0,N⟩=aa (.iface 287 (.pointer (aa z)))):am prog 134 #[.pointer (aa ⟨h,0,N⟩)] w fun e w'=>(∃p c,e=.returned (.slice p (a.send JJ ai).length c)/\QE c w.heap.size w' p (a.send JJ ai))/\ab w.heap.size w w':=by
 obtain⟨_,a7,d4⟩:=K.fF.yR d3;obtain⟨n,k,d5,b4,d6,d7,d8,hL,d9⟩:=GQ K.aN.cfg;obtain⟨p,cp,a8,b5,_,_,_⟩:=K.stat.aP.mem;rw[a7]at a8 b5;rw[hL]at a8;have a4:a.obj=(a.tag.1,a.tag.2,a.text,ai):=if_pos ⟨au d3,K.aN.aS d3⟩;have e5:a.c.k.toNat=k:=by rw[b4];rfl
 have b6:a.send JJ ai=(List.range n).map fun i=>(⟨a.name,Yc a.c.L i,JJ,a.key,a.op,a.config,ac,[⟨a.tag.1,a.tag.2,(a.text.size:Int),(i:Int),JW k a.text i⟩]⟩:Zb):=by
  unfold Za.send Za.sQ;rw[hL,e5];rfl
 have e6:(a.send JJ ai).length=n:=by rw[b6];simp
 obtain⟨H,a5⟩:=Xb (w.alloc (.cells #[.int .i64 a.tag.1,.int .i64 a.tag.2,.string a.text,.bool ai] 127));have Z:=Zk a5;have g2:=QT a5;have a9:=K.below Z;have b0:=JH a5;have e7:=K.aN.text;obtain⟨tx,b1⟩:=Xb a.text;rw[<-b1]at e7;have HS:Hid (∀W:World,ab H.heap.size H W->(W.cell? ⟨h,14,N⟩=aa (.int .i64 (n:Int))/\W.cell? ⟨h,15,N⟩=aa (.int .i64 (k:Int))/\W.cell? ⟨w.heap.size,2,N⟩=aa (.string tx)/\ab H.heap.size H W)):=fun W I=>by
  have J:=a9.below I;have a6:=(I.block w.heap.size (by omega)).trans b0;refine⟨?_,?_,?_,I⟩
  ·rw[J.cell 14,<-d5,<-a7];rfl
  ·rw[J.cell 15,<-b4,<-a7];rfl
  ·rw[b1];simp[ae,a6]
 have b7:Hid (∀W:World,(W.cell? ⟨h,14,N⟩=aa (.int .i64 (n:Int))/\W.cell? ⟨h,15,N⟩=aa (.int .i64 (k:Int))/\W.cell? ⟨w.heap.size,2,N⟩=aa (.string tx)/\ab H.heap.size H W)->am prog 163 #[.int .i64 (n:Int),.int .i64 (k:Int),.string tx] W fun e w'=>∃g,e=.returned (.tuple #[.slice (aa ⟨g,0,N⟩) n n,.nilIface])/\Hid (W.heap.size<=g/\ZE w' g n (fR k tx))/\Hid (ab W.heap.size W w')/\(w'.cell? ⟨h,14,N⟩=aa (.int .i64 (n:Int))/\w'.cell? ⟨h,15,N⟩=aa (.int .i64 (k:Int))/\w'.cell? ⟨w.heap.size,2,N⟩=aa (.string tx)/\ab H.heap.size H w')):=fun W I=>(RO n k tx z W d6 d7 d8 e7 ((Z.trans (I.2.2.2.mono Z.size)).cell (p:=⟨9,0,N⟩) (YC hZ) |>.trans hZ)).mono fun e w' J=>by
  obtain⟨⟨g,h1,h2,h3⟩,h4⟩:=J;exact⟨g,h2,⟨h1,h3⟩,h4,HS.out w' (I.2.2.2.trans (h4.mono I.2.2.2.size))⟩
 have b8:=HS.out H.drew bR.drew;have g3:Hid _:=a5;have c8:=HS.out (H.alloc (.cells #[.slice N 0 0] 197)).drew ((bR.alloc nR _).drew);have e8:Hid (am prog 163 #[.int .i64 (n:Int),.int .i64 (k:Int),.string tx] H.drew fun e w'=>∃g,e=.returned (.tuple #[.slice (aa ⟨g,0,N⟩) n n,.nilIface])/\Hid (ZE w' g n (fR k tx))/\(w'.cell? ⟨h,14,N⟩=aa (.int .i64 (n:Int))/\w'.cell? ⟨h,15,N⟩=aa (.int .i64 (k:Int))/\w'.cell? ⟨w.heap.size,2,N⟩=aa (.string tx)/\ab H.heap.size H w')):=(b7.out H.drew b8).mono fun e w' J=>by
  obtain⟨g,h1,h2,h3,h4⟩:=J;exact⟨g,h1,h2.out.2,h4⟩
 have e9:Hid (am prog 163 #[.int .i64 (n:Int),.int .i64 (k:Int),.string tx] (H.alloc (.cells #[.slice N 0 0] 197)).drew fun e w'=>∃g,e=.returned (.tuple #[.slice (aa ⟨g,0,N⟩) n n,.nilIface])/\Hid (ZE w' g n (fR k tx)/\g≠H.heap.size)/\(w'.cell? ⟨h,14,N⟩=aa (.int .i64 (n:Int))/\w'.cell? ⟨h,15,N⟩=aa (.int .i64 (k:Int))/\w'.cell? ⟨w.heap.size,2,N⟩=aa (.string tx)/\ab H.heap.size H w')/\w'.cell? ⟨H.heap.size,0,N⟩=aa (.slice N 0 0)/\w'.frozen? ⟨H.heap.size,0,N⟩=ac):=(b7.out _ c8).mono fun e w' J=>by
  obtain⟨g,h1,h2,h3,h4⟩:=J;have f3:H.heap.size<(H.alloc (.cells #[.slice N 0 0] 197)).drew.heap.size:=by show H.heap.size<(H.alloc _).heap.size;simp
  refine⟨g,h1,⟨h2.out.2,by have:=h2.out.1;omega⟩,h4,(h3.out.cell (p:=⟨H.heap.size,0,N⟩) f3).trans ?_,(h3.out.frozen (p:=⟨H.heap.size,0,N⟩) f3).trans ?_⟩
  ·show(H.alloc _).cell? _=_;rw[aj _ _ _ _ rfl];rfl
  ·show(H.alloc _).frozen? _=_;exact World.frozen?_alloc_at _ _ _ _ rfl
 have f4:Hid (∀W:World,ab H.heap.size H W->∀O g,W.cell? ⟨O,0,N⟩=aa (.slice (aa ⟨g,0,N⟩) n n)->ZE W g n (fR k tx)->am prog 92 #[.pointer (aa ⟨h,0,N⟩),.agg #[.int .i64 T.c.n,.int .i64 T.c.k,.slice p n cp,.int .i64 T.num],.string ⟨#[107,101,101,112]⟩,.func (.func 164) #[] #[.pointer (aa ⟨w.heap.size,0,N⟩),.pointer (aa ⟨O,0,N⟩)]] W fun e w'=>(∃p c,e=.returned (.slice p n c)/\QE c w.heap.size w' p (a.send JJ ai))/\ab w.heap.size w w'/\ab H.heap.size H w'):=fun W I O g a2 b2=>by
  have J:=a9.below I;refine(A4 h n a.name a.key JJ a.op T.c.n T.c.k T.num a.c.L p cp 164 _ (fun i=>(⟨a.name,Yc a.c.L i,JJ,a.key,a.op,a.config,ac,[⟨a.tag.1,a.tag.2,(a.text.size:Int),(i:Int),JW k a.text i⟩]⟩:Zb)) W (J.cell 0) (J.cell 1) (J.cell 2) hL ((b5.below Z).below I) (by omega) (by have:=K.aN.name;omega) (by have:=K.aN.key;omega) (fun x hx=>by have:=d9 x hx;omega) (fun i _=>⟨rfl,rfl,rfl,rfl,rfl,d4.symm,rfl⟩) (fun args W=>by kernel_rfl) (fun i hi U d0=>?_)).mono fun e w' d1=>⟨by rw[b6];obtain⟨⟨p,c,e1,e2⟩,_⟩:=d1;exact⟨p,c,e1,e2.mono (ak Z.size I.size)⟩,Z.trans ((I.trans (d1.2.mono I.size)).mono Z.size),I.trans (d1.2.mono I.size)⟩
  have f5:=b2.below d0;have a6:=((I.trans (d0.mono I.size)).block w.heap.size (by omega)).trans b0;have g4:U.cell? ⟨w.heap.size,0,N⟩=aa (.int .i64 a.tag.1):=by simp[ae,a6]
  have g5:U.cell? ⟨w.heap.size,1,N⟩=aa (.int .i64 a.tag.2):=by simp[ae,a6]
  have g6:U.cell? ⟨w.heap.size,2,N⟩=aa (.string a.text):=by simp[ae,a6]
  have r0:=f5.at_ hi;have r1:U.cell? ⟨g,i*2+1,N⟩=aa (.string (JW k a.text i)):=by rw[<-b1];exact f5.text hi
  refine(TN w.heap.size O g n i a.tag.1 a.tag.2 a.text (JW k a.text i) n U hi ((d0.cell (p:=⟨O,0,N⟩) (YC a2)).trans a2) g4 g5 g6 r0 r1).mono fun e w' g7=>?_
  obtain⟨he,mm,b3⟩:=g7;have a3:ab U.heap.size U w':=by rw[b3];exact(below_drewN bR mm).alloc nR _
  refine⟨⟨(aa ⟨U.heap.size,0,N⟩,1,1),he,⟨rfl,aA ⟨U.heap.size,0,rfl,by rw[b3];simp,fun j x hx jj u hu=>?_⟩,zb _,(fun e=>by cases e)⟩,fun b o e=>?_⟩,a3⟩
  ·match j,hx with
   |0,hx =>
    obtain rfl:(⟨a.tag.1,a.tag.2,(a.text.size:Int),(i:Int),JW k a.text i⟩:Yb)=x:=by simpa using hx
    have e0:0+0*Ze.k+jj=jj:=by simp
    rw[e0,b3,aj (w:=U.drewN mm) _ _ U.heap.size _ rfl];simpa[Ze,JL]using hu
  ·obtain rfl:U.heap.size=b:=by injection e with e1;injection e1
   exact⟨zb _,by rw[b3];simp⟩
 have f6:Hid _:=Z;have d2:Hid (∀W:World,ab H.heap.size H W->(W.cell? ⟨h,14,N⟩=aa (.int .i64 T.c.n)/\W.cell? ⟨h,15,N⟩=aa (.int .i64 T.c.k)/\W.cell? ⟨h,16,N⟩=aa (.slice p n cp)/\W.cell? ⟨h,17,N⟩=aa (.int .i64 T.num)/\ab H.heap.size H W)):=fun W I=>by
  have J:=a9.below I;exact⟨J.cell 14,J.cell 15,by rw[<-a8];exact J.cell 16,J.cell 17,I⟩
 have f7:Hid (w.cell? ⟨h,21,N⟩=aa (.int .i64 a.tag.1)/\w.cell? ⟨h,22,N⟩=aa (.int .i64 a.tag.2)/\w.cell? ⟨h,23,N⟩=aa (.string a.text)/\w.cell? ⟨h,24,N⟩=aa (.bool ai)):=by
  refine⟨?_,?_,?_,?_⟩
  ·rw[K.cell 21];unfold JG;rw[a4];rfl
  ·rw[K.cell 22];unfold JG;rw[a4];rfl
  ·rw[K.cell 23];unfold JG;rw[a4];rfl
  ·rw[K.cell 24];unfold JG;rw[a4];rfl
 obtain⟨o0,o1,o2,o3⟩:=f7.out;rw[e6];clear K a9 b6 e6 b5 d9 a5 Z b0 a4 hZ b1 g2 f7 a8 d4 a7 d5 b4 e5 d6 d7 d8 hL;go_enter func134,ntmps134;go_wp2_with (rw[<-g3.out])
 go_cut [4]from 10 to 27 (fun v W=>∃O g,v=.pointer (aa ⟨O,0,N⟩)/\W.cell? ⟨O,0,N⟩=aa (.slice (aa ⟨g,0,N⟩) n n)/\ZE W g n (fR k tx)/\ab H.heap.size H W)
 case first =>
  go_region_held3 (fun W=>(W.cell? ⟨h,14,N⟩=aa (.int .i64 (n:Int))/\W.cell? ⟨h,15,N⟩=aa (.int .i64 (k:Int))/\W.cell? ⟨w.heap.size,2,N⟩=aa (.string tx)/\ab H.heap.size H W)) (first|with_reducible assumption|with_reducible exact b8|with_reducible exact c8|(with_reducible exact HS.out _ (a0.2.2.2.alloc a0.2.2.2.size _))|(with_reducible exact HS.out _ (a0.2.2.2.setCell nR _))) (first|(go_at_call 163;with_reducible refine e8.out.mono ?_;rintro e w2 ⟨g,rfl,g8,a0⟩)|(go_at_call 163;with_reducible refine e9.out.mono ?_;rintro e w2 ⟨g,rfl,f8,a0,x1,x2⟩))
  all_goals (go_wp2_with fail;go_meet)
  ·exact⟨w2.heap.size,g,rfl,by rw[aj _ _ _ _ rfl];rfl,g8.out.below (bR.alloc nR _),a0.2.2.2.alloc a0.2.2.2.size _⟩
  ·exact⟨H.heap.size,g,rfl,World.cell?_setCell_same _ _ _ x1,World.rowIs.of_block f8.out.1 (Below.heap_setCell _ _ _ _ f8.out.2),a0.2.2.2.setCell nR _⟩
 case rest =>
  obtain⟨O,g,rfl,a2,b2,a3⟩:=hcut;have f9:Hid (∀W,ab wc.heap.size wc W->am prog 92 #[.pointer (aa ⟨h,0,N⟩),.agg #[.int .i64 T.c.n,.int .i64 T.c.k,.slice p n cp,.int .i64 T.num],.string ⟨#[107,101,101,112]⟩,.func (.func 164) #[] #[.pointer (aa ⟨w.heap.size,0,N⟩),.pointer (aa ⟨O,0,N⟩)]] W fun e w'=>(∃p c,e=.returned (.slice p n c)/\Hid (QE c w.heap.size w' p (a.send JJ ai)))/\(w'.cell? ⟨h,14,N⟩=aa (.int .i64 T.c.n)/\w'.cell? ⟨h,15,N⟩=aa (.int .i64 T.c.k)/\w'.cell? ⟨h,16,N⟩=aa (.slice p n cp)/\w'.cell? ⟨h,17,N⟩=aa (.int .i64 T.num)/\ab H.heap.size H w')):=fun W I=>by
   have g9:=a3.trans (I.mono a3.size);refine(f4.out W g9 O g ((I.cell (p:=⟨O,0,N⟩) (YC a2)).trans a2) (b2.below I)).mono fun e w' J=>?_
   obtain⟨⟨p2,c2,e1,e2⟩,e3,e4⟩:=J;exact⟨⟨p2,c2,e1,e2⟩,d2.out w' e4⟩
  obtain⟨h6,h7,h8,h9,_⟩:=d2.out wc a3;have g0:=f9.out wc.drew bR.drew;clear a2 b2 a3 f4 HS b7 e8 e9 b8 c8 f9 d2;go_wp2;refine af 8 (by kernel_rfl) (by kernel_rfl) ?_;simp only[ag,an,ah,ao]
  still_step
  still_step
  still_step
  still_step
  still_step
  still_step
  still_step
  still_step
  refine ap ?_;go_wp2_with fail
  refine g0.mono ?_;rintro e w9 ⟨⟨p9,c9,rfl,h0⟩,g1⟩;have h5:Hid _:=f6.out.trans (g1.2.2.2.2.mono f6.out.size);clear g0 g1;go_wp2;go_ret;exact⟨⟨p9,c9,rfl,h0.out⟩,h5.out⟩
section
variable {X:ax} {w w':World} {B h:Nat} {S S0:Nat->Prop} {a:Za} {P F T:J0} {asks:BA} {cv:al} {aw:BA} {m:Option Nat} {D:DataW al} {row:BA->al}
theorem jC.aG {c:Nat}(h:jC w S0 P)(hv:P.v=.slice p P.c.L.length c):Yn w P.c p c:=by
 obtain⟨p',c',H,I,J,K,_⟩:=h.mem;rw[hv]at H;injection H with O _ U
 subst O U;obtain⟨⟨_,_,a0⟩,a2,_,Z,_⟩:=Xm h.aN;exact⟨I,J,K,by omega,fun x hx=>by have:=QF (Z x hx);omega,⟨by omega,by omega⟩,by omega,by omega⟩
theorem NZ (ad:Nat->zc)(z:zc)(H:JF X w B h S S0 a P F T asks cv aw m D row)(a5:a.first)(b6:a.L.flatten.length<=1000)(hE:Zp w ad)(hZ:w.cell? ⟨9,0,N⟩=aa (.iface 287 (.pointer (aa z)))):
 ∃I O mp J,cv=.func (.func I) #[] O/\F.v=.slice mp a.c.L.length J/\(∀args W,Sem.run prog (callFunc I args) W=.ok (.enter I args) W)/\∀W,ab w.heap.size w W->∀p c,eU W p (Yt a a.c.L)->am prog I (#[.agg #[.int .i64 a.c.n,.int .i64 a.c.k,.slice mp a.c.L.length J],.slice p (Yt a a.c.L).length c]++O) W fun e w'=>e=.returned (.agg #[.int .i64 a.aF.tag.1,.int .i64 a.aF.tag.2,.string a.aF.text,.bool a.aF.found])/\ab W.heap.size W w':=by
 obtain⟨⟨_,_,b7⟩,b8,_,c8,a6⟩:=Xm H.aN.cfg;have a7:(Yt a a.c.L).length=a.c.L.length:=by unfold Yt;simp
 have a0:=J4 H.aN.both H.aN.nodup H.aN.sub;have a8:=B7 a a.c.L;have a9:∀l∈Yt a a.c.L,l.length<=1000:=fun l U=>by
  unfold Yt at U;obtain⟨x,_,rfl⟩:=List.mem_map.1 U;by_cases hi:Xu a.from_ x=ai
  ·rw[if_pos hi];have a2:ZJ a.from_ x<a.L.length:=by rw[<-H.aN.both];exact lM (Zl.1 hi)
   have hm:QK a x∈a.L:=by
    unfold QK;rw[List.getD_eq_getElem?_getD,List.getElem?_eq_getElem a2];exact aE a2
   have:=KH hm;omega
  ·rw[if_neg hi];decide
 obtain⟨_,a3,_⟩:=H.fF.rC a5;obtain⟨mp,J,a4,_⟩:=H.stat.fr.mem;have b0:=ak (PH H.aN.both H.aN.nodup a6) b6;obtain⟨I,O,h1,h2,h3⟩:=H.stat.ch a5;refine⟨I,O,mp,J,h1,by rw[a4,a3],h2,fun W K p c hv=>?_⟩;have b1:qE a.put a.who a.text a.c (Yt a a.c.L)=.agg #[.int .i64 a.aF.tag.1,.int .i64 a.aF.tag.2,.string a.aF.text,.bool a.aF.found]:=by
  unfold qE Za.aF;by_cases Z:a.put=ai
  ·rw[if_pos Z,if_pos Z,Jqx a0]
  ·rw[if_neg Z,if_neg Z,a8]
 rw[<-b1];have b2:=H.stat.fr.aS K.size (fun k hk=>K.block k (H.stat.lt k hk));have b3:Yn W a.c mp J:=by
  have:=b2.aG a4;rw[a3]at this;exact this
 exact h3 W (fun k hk=>K.block k (H.stat.lt k hk)) ad z a.c mp J p (Yt a a.c.L) c ⟨b3,H.aN.cfg,hv,by rw[a7];omega,by omega,b0,a9,fun v b4=>by
  obtain⟨l,U,b5⟩:=List.mem_flatten.1 ((a0 v).1 b4);exact H.aN.cM l U v b5,hE.below K,(K.cell (p:=⟨9,0,N⟩) (YC hZ)).trans hZ⟩
end
section
variable {X:ax} {w w':World} {B h:Nat} {S S0:Nat->Prop} {a:Za} {P F T:J0} {asks:BA} {cv:al} {aw:BA} {m:Option Nat} {D:DataW al} {row:BA->al}
theorem CO {w:World}{H J O U Z u3:al}(k0:w.cell? ⟨b,0,N⟩=aa O)(k1:w.cell? ⟨b,1,N⟩=aa U)(k2:w.cell? ⟨b,2,N⟩=aa Z)(k3:w.cell? ⟨b,3,N⟩=aa u3):
 ((((w.setCell ⟨b,0,N⟩ H).setCell ⟨b,1,N⟩ I).setCell ⟨b,2,N⟩ J).setCell ⟨b,3,N⟩ K).cell? ⟨b,0,N⟩=aa H/\((((w.setCell ⟨b,0,N⟩ H).setCell ⟨b,1,N⟩ I).setCell ⟨b,2,N⟩ J).setCell ⟨b,3,N⟩ K).cell? ⟨b,1,N⟩=aa I/\((((w.setCell ⟨b,0,N⟩ H).setCell ⟨b,1,N⟩ I).setCell ⟨b,2,N⟩ J).setCell ⟨b,3,N⟩ K).cell? ⟨b,2,N⟩=aa J/\((((w.setCell ⟨b,0,N⟩ H).setCell ⟨b,1,N⟩ I).setCell ⟨b,2,N⟩ J).setCell ⟨b,3,N⟩ K).cell? ⟨b,3,N⟩=aa K:=by
 refine⟨?_,?_,?_,?_⟩<;>simp[go_sem,k0,k1,k2,k3]
theorem T5 {a a':Za}(P:J0)(aw:BA)(H:Nat)(I:al)(F T:J0)(asks:BA)(cv:al)(mb:Nat)(J:a'.name=a.name)(K:a'.key=a.key)(O:a'.op=a.op):nT ((((((JG a P aw H I F T asks cv).setIfInBounds 20 (.string a'.st.word)).setIfInBounds 21 (.int .i64 a'.obj.1)).setIfInBounds 22 (.int .i64 a'.obj.2.1)).setIfInBounds 23 (.string a'.obj.2.2.1)).setIfInBounds 24 (.bool a'.obj.2.2.2)) T iS mb=JG a' T iS (Jh T.c) (.map (aa mb)) F T asks cv:=by
 unfold nT JG;rw[J,K,O];generalize a.obj=U;generalize a'.obj=Z;simp only[List.setIfInBounds_toArray,List.set_cons_zero,List.set_cons_succ]
theorem WC (ad:Nat->zc)(hp:JF X w B h S S0 a P F T asks cv aw m D row)(x:Zb×Lv)(ht:a.aM x.1=ai)(d2:a.first)(hL:Jn w x)(hv:∀v∈x.1.L,Jt v)(q3:a.small x.1)(hG:∀W:World,w.heap.size<=W.heap.size->(∀k,k<w.heap.size->¬S k->W.heap[k]?=w.heap[k]?)->Zp W ad/\∃z,W.cell? ⟨9,0,N⟩=aa (.iface 287 (.pointer (aa z)))):
 am prog 108 #[.pointer (aa ⟨h,0,N⟩),.string x.1.from_,.slice x.2.1 x.2.2.1 x.2.2.2] w fun e w'=>∃S':Nat->Prop,(∃p c,e=.returned (.slice p (fU (a.heard x.1)).2.length c)/\Qp c (fun b=>w.heap.size<=b/\b<w'.heap.size/\¬S' b) w' p (fU (a.heard x.1)).2)/\ZR X w' B h S' (fU (a.heard x.1)).1/\Yd S S' w w':=by
 obtain⟨b,q4,u4,u5,hH⟩:=hp.open_ (au d2);subst q4;obtain⟨n0,i5⟩:=hH.own;have i8:=i5.tight;have q5:Maps.size D<=12:=by
  rw[hH.size];obtain⟨⟨_,_,h3⟩,h4,_⟩:=Xm hp.aN.cfg;have:=YS hp.aN.nodup hp.aN.sub;omega
 have d3:=hp.lt;obtain⟨b1,b2,b3,b4,b5⟩:=EM q3;have i9:=GH x.1.from_ x.2.1 x.1.L x.2.2.2 d3 (hp.cell 9) i8 (by unfold maxLen;omega) (by omega) hL.eC hL.empty (by omega) (fun v hv=>by have:=b3 v hv;omega);rw[hL.len];have f5:Hid (am prog 131 #[.pointer (aa (pA h 0)),.string x.1.from_,.slice x.2.1 x.1.L.length x.2.2.2] w fun e w'=>e=.returned (.tuple #[])/\∃S1 a6 D' a0,JF X w' B h S1 a6 (a.heard x.1) P F T asks cv aw (aa b) D' a0/\Yd S S1 w w'):=i9.mono fun e w' O=>by
  obtain⟨h1,v',w1,Z,h3,h4⟩:=O;exact⟨h1,hp.heard ht hv (fun _=>rfl) (by unfold maxLen;omega) Z h3 h4⟩
 have a9:Hid ((a.heard x.1).first):=d2;have j1:Hid (Jh P.c=Jh (a.heard x.1).c):=by show _=_;rw[(hp.here (au d2)).2.1];rfl
 have q6:Hid ((a.heard x.1).L.flatten.length<=1000):=by show _<=_;omega
 have g2:Hid (∀W:World,w.heap.size<=W.heap.size->(∀k,k<w.heap.size->¬S k->W.heap[k]?=w.heap[k]?)->Zp W ad/\∃z,W.cell? ⟨9,0,N⟩=aa (.iface 287 (.pointer (aa z)))):=hG;clear i8 i5 hH i9 q5 hp hv d2 ht hL q3 b1 b2 b3 b4 b5 hG;generalize a.heard x.1=a' at *;generalize x.1.from_=mf at *;generalize x.1.L.length=ln at *;generalize x.2.1=lp at *;generalize x.2.2.2=lc at *;by_cases g3:a'.from_.length<Jh a'.c
 ·have HR:Hid (fU a'=(a',[])):=if_pos g3;rw[HR.out];go_enter func108,ntmps108;go_wp2_with fail
  refine f5.out.mono ?_;rintro e w2 ⟨rfl,S1,a6,D',a0,hP,hU⟩;obtain⟨b2,g4,_,_,d4⟩:=hP.open_ (au a9.out);have b0:=uF (h:=h) (Jh P.c) d4 (by rw[hP.cell 9,g4];rfl) (hP.cell 8);have d5:decide (Jh P.c<=a'.from_.length)=false:=decide_eq_false (by rw[j1.out];omega);rw[d5]at b0;have g5:Hid (JF X w2 B h S1 a6 a' P F T asks cv aw (aa b) D' a0):=hP;have g6:Hid (Yd S S1 w w2):=hU;clear hP hU d4 d5 f5;go_wp2_with fail
  refine b0.mono ?_;rintro e H ⟨rfl,b7⟩;have j2:Hid (ab w2.heap.size w2 H):=b7;clear b7 b0;go_wp2;go_ret;exact⟨S1,⟨N,0,rfl,Qp.nil _ _⟩,⟨_,_,_,_,_,_,_,_,_,_,g5.out.below j2.out⟩,g6.out.trans (Yd.aJ j2.out)⟩
 ·go_enter func108,ntmps108;go_wp2_with fail
  refine f5.out.mono ?_;rintro e w2 ⟨rfl,S1,a6,D',a0,hP,hU⟩;obtain⟨b2,g4,_,_,d4⟩:=hP.open_ (au a9.out);have b0:=uF (h:=h) (Jh P.c) d4 (by rw[hP.cell 9,g4];rfl) (hP.cell 8);have d5:decide (Jh P.c<=a'.from_.length)=true:=decide_eq_true (by rw[j1.out];omega);rw[d5]at b0;have g5:Hid (JF X w2 B h S1 a6 a' P F T asks cv aw (aa b) D' a0):=hP;have g6:Hid (Yd S S1 w w2):=hU;clear hP hU d4 d5 f5;go_wp2_with fail
  refine b0.mono ?_;rintro e H ⟨rfl,b7⟩;have f6:=g5.out.below b7;have f7:=g6.out.trans (Yd.aJ b7);obtain⟨k4,z,k5⟩:=g2.out H f7.size (fun k hk hs=>f7.block k hk hs);obtain⟨J,K,mp,mc,q7,k6,u6,b8⟩:=NZ ad z f6 a9.out q6.out k4 k5;subst q7;obtain⟨k7,f8,l0,g7,g8⟩:=f6.fF.rC a9.out;have a3:Hid (JF X H B h S1 a6 a' P F T asks (.func (.func J) #[] K) aw (aa b) D' a0):=f6;have g9:Hid (Yd S S1 w H):=f7;obtain⟨LL,h0⟩:=Xb (Yt a' a'.c.L);obtain⟨cn,ck,cl,b6⟩:∃cn ck cl,cn=a'.c.n/\ck=a'.c.k/\cl=a'.c.L.length:=⟨_,_,_,rfl,rfl,rfl⟩;rw[<-h0,<-b6.1,<-b6.2.1,<-b6.2.2]at b8;obtain⟨f1,f2,f3,f4,c8⟩:∃f1 f2 f3 f4,f1=a'.aF.tag.1/\f2=a'.aF.tag.2/\f3=a'.aF.text/\f4=a'.aF.found:=⟨_,_,_,_,rfl,rfl,rfl,rfl⟩;rw[<-c8.1,<-c8.2.1,<-c8.2.2.1,<-c8.2.2.2]at b8;have d6:Hid (f1=a'.aF.tag.1/\f2=a'.aF.tag.2/\f3=a'.aF.text/\f4=a'.aF.found):=c8;have HS:Hid (∀W:World,ab H.heap.size H W->(W.cell? (pA h 19)=aa (.func (.func J) #[] K)/\W.cell? (pA h 10)=aa (.int .i64 cn)/\W.cell? (pA h 11)=aa (.int .i64 ck)/\W.cell? (pA h 12)=aa (.slice mp cl mc)/\ab H.heap.size H W)):=fun W hW=>⟨(a3.out.below hW).cell 19,by rw[b6.1,<-f8];exact(a3.out.below hW).cell 10,by rw[b6.2.1,<-f8];exact(a3.out.below hW).cell 11,by rw[b6.2.2,<-k6];exact(a3.out.below hW).cell 12,hW⟩
  have l7:=HS.out H.drew bR.drew;have l9:=HS.out (H.alloc (.cells #[.int .i64 0,.int .i64 0,.string ⟨#[]⟩,.bool ac] 127)).drew ((bR.alloc nR _).drew);have h6:∀W,ab H.heap.size H W->am prog 133 #[.pointer (aa (pA h 0))] W fun e w'=>(∃p c,e=.returned (.slice p LL.length c)/\eU w' p LL)/\ab W.heap.size W w':=fun W hW=>by rw[h0];exact M1 (a3.out.below hW) a9.out
  have m0:Hid (am prog 133 #[.pointer (aa (pA h 0))] H.drew fun e w'=>∃p c,e=.returned (.slice p LL.length c)/\Hid (eU w' p LL)/\(w'.cell? (pA h 19)=aa (.func (.func J) #[] K)/\w'.cell? (pA h 10)=aa (.int .i64 cn)/\w'.cell? (pA h 11)=aa (.int .i64 ck)/\w'.cell? (pA h 12)=aa (.slice mp cl mc)/\ab H.heap.size H w')):=(h6 _ bR.drew).mono fun e w' O=>by
   obtain⟨⟨p,c,h1,Z⟩,h3⟩:=O;exact⟨p,c,h1,Z,HS.out w' ((Below.refl _ H).drew.trans h3)⟩
  have h7:H.heap.size<(H.alloc (.cells #[.int .i64 0,.int .i64 0,.string ⟨#[]⟩,.bool ac] 127)).drew.heap.size:=by show H.heap.size<(H.alloc _).heap.size;simp
  have m4:(H.alloc (.cells #[.int .i64 0,.int .i64 0,.string ⟨#[]⟩,.bool ac] 127)).drew.heap[H.heap.size]?=aa (.cells #[.int .i64 0,.int .i64 0,.string ⟨#[]⟩,.bool ac] 127 (0,0)):=by
   show(H.heap.push _)[H.heap.size]?=_;simp
  have m5:Hid (am prog 133 #[.pointer (aa (pA h 0))] (H.alloc (.cells #[.int .i64 0,.int .i64 0,.string ⟨#[]⟩,.bool ac] 127)).drew fun e w'=>∃p c,e=.returned (.slice p LL.length c)/\Hid (eU w' p LL/\w'.heap[H.heap.size]?=aa (.cells #[.int .i64 0,.int .i64 0,.string ⟨#[]⟩,.bool ac] 127 (0,0)))/\(w'.cell? (pA h 19)=aa (.func (.func J) #[] K)/\w'.cell? (pA h 10)=aa (.int .i64 cn)/\w'.cell? (pA h 11)=aa (.int .i64 ck)/\w'.cell? (pA h 12)=aa (.slice mp cl mc)/\ab H.heap.size H w')):=(h6 _ ((bR.alloc nR _).drew)).mono fun e w' O=>by
   obtain⟨⟨p,c,h1,Z⟩,h3⟩:=O;exact⟨p,c,h1,⟨Z,(h3.block _ h7).trans m4⟩,HS.out w' ((((Below.refl _ H).alloc nR _).drew).trans (h3.mono (Nat.le_of_lt h7)))⟩
  have m6:Hid (∀W p c,Hid (eU W p LL)->(W.cell? (pA h 19)=aa (.func (.func J) #[] K)/\W.cell? (pA h 10)=aa (.int .i64 cn)/\W.cell? (pA h 11)=aa (.int .i64 ck)/\W.cell? (pA h 12)=aa (.slice mp cl mc)/\ab H.heap.size H W)->am prog J (#[.agg #[.int .i64 cn,.int .i64 ck,.slice mp cl mc],.slice p LL.length c]++K) W fun e w'=>e=.returned (.agg #[.int .i64 f1,.int .i64 f2,.string f3,.bool f4])/\(w'.cell? (pA h 19)=aa (.func (.func J) #[] K)/\w'.cell? (pA h 10)=aa (.int .i64 cn)/\w'.cell? (pA h 11)=aa (.int .i64 ck)/\w'.cell? (pA h 12)=aa (.slice mp cl mc)/\ab H.heap.size H w')):=fun W p c hV hS=>(b8 W hS.2.2.2.2 p c hV.out).mono fun e w' O=>⟨O.1,HS.out w' (hS.2.2.2.2.trans (O.2.mono hS.2.2.2.2.size))⟩
  have m7:Hid (∀W p c,Hid (eU W p LL)->(W.cell? (pA h 19)=aa (.func (.func J) #[] K)/\W.cell? (pA h 10)=aa (.int .i64 cn)/\W.cell? (pA h 11)=aa (.int .i64 ck)/\W.cell? (pA h 12)=aa (.slice mp cl mc)/\ab H.heap.size H W)->am prog J (#[.agg #[.int .i64 cn,.int .i64 ck,.slice mp cl mc],.slice p LL.length c]++K) (W.alloc (.cells #[.int .i64 0,.int .i64 0,.string ⟨#[]⟩,.bool ac] 127)) fun e w'=>e=.returned (.agg #[.int .i64 f1,.int .i64 f2,.string f3,.bool f4])/\(w'.cell? (pA h 19)=aa (.func (.func J) #[] K)/\w'.cell? (pA h 10)=aa (.int .i64 cn)/\w'.cell? (pA h 11)=aa (.int .i64 ck)/\w'.cell? (pA h 12)=aa (.slice mp cl mc)/\ab H.heap.size H w')/\(w'.cell? (pA W.heap.size 0)=aa (.int .i64 0)/\w'.cell? (pA W.heap.size 1)=aa (.int .i64 0)/\w'.cell? (pA W.heap.size 2)=aa (.string ⟨#[]⟩)/\w'.cell? (pA W.heap.size 3)=aa (.bool ac))/\(w'.frozen? (pA W.heap.size 0)=ac/\w'.frozen? (pA W.heap.size 1)=ac/\w'.frozen? (pA W.heap.size 2)=ac/\w'.frozen? (pA W.heap.size 3)=ac)/\Hid (H.heap.size<=W.heap.size)):=fun W p c hV hS=>by
   have m8:ab W.heap.size W (W.alloc (.cells #[.int .i64 0,.int .i64 0,.string ⟨#[]⟩,.bool ac] 127)):=bR.alloc nR _;have h8:=hS.2.2.2.2.trans (m8.mono hS.2.2.2.2.size);refine(b8 _ h8 p c (hV.out.below m8)).mono fun e w' O=>?_
   have U:w'.heap[W.heap.size]?=aa (.cells #[.int .i64 0,.int .i64 0,.string ⟨#[]⟩,.bool ac] 127 (0,0)):=(O.2.block _ (by simp)).trans (by show(W.heap.push _)[W.heap.size]?=_;simp);exact⟨O.1,HS.out w' (h8.trans (O.2.mono h8.size)),⟨(Jb U 0).1,(Jb U 1).1,(Jb U 2).1,(Jb U 3).1⟩,⟨(Jb U 0).2,(Jb U 1).2,(Jb U 2).2,(Jb U 3).2⟩,hS.2.2.2.2.size⟩
  have m9:Hid (∀W p c,Hid (eU W p LL/\W.heap[H.heap.size]?=aa (.cells #[.int .i64 0,.int .i64 0,.string ⟨#[]⟩,.bool ac] 127 (0,0)))->(W.cell? (pA h 19)=aa (.func (.func J) #[] K)/\W.cell? (pA h 10)=aa (.int .i64 cn)/\W.cell? (pA h 11)=aa (.int .i64 ck)/\W.cell? (pA h 12)=aa (.slice mp cl mc)/\ab H.heap.size H W)->am prog J (#[.agg #[.int .i64 cn,.int .i64 ck,.slice mp cl mc],.slice p LL.length c]++K) W fun e w'=>e=.returned (.agg #[.int .i64 f1,.int .i64 f2,.string f3,.bool f4])/\(w'.cell? (pA h 19)=aa (.func (.func J) #[] K)/\w'.cell? (pA h 10)=aa (.int .i64 cn)/\w'.cell? (pA h 11)=aa (.int .i64 ck)/\w'.cell? (pA h 12)=aa (.slice mp cl mc)/\ab H.heap.size H w')/\(w'.cell? (pA H.heap.size 0)=aa (.int .i64 0)/\w'.cell? (pA H.heap.size 1)=aa (.int .i64 0)/\w'.cell? (pA H.heap.size 2)=aa (.string ⟨#[]⟩)/\w'.cell? (pA H.heap.size 3)=aa (.bool ac))/\(w'.frozen? (pA H.heap.size 0)=ac/\w'.frozen? (pA H.heap.size 1)=ac/\w'.frozen? (pA H.heap.size 2)=ac/\w'.frozen? (pA H.heap.size 3)=ac)):=fun W p c hV hS=>by
   refine(b8 W hS.2.2.2.2 p c hV.out.1).mono fun e w' O=>?_
   have d3:H.heap.size<W.heap.size:=by
    rcases bb H.heap.size W.heap.size with h'|h'
    ·exact h'
    ·have:=hV.out.2;rw[Array.getElem?_eq_none h']at this;cases this
   have U:=(O.2.block _ d3).trans hV.out.2;exact⟨O.1,HS.out w' (hS.2.2.2.2.trans (O.2.mono hS.2.2.2.2.size)),⟨(Jb U 0).1,(Jb U 1).1,(Jb U 2).1,(Jb U 3).1⟩,(Jb U 0).2,(Jb U 1).2,(Jb U 2).2,(Jb U 3).2⟩
  clear b7 b0 f6 f7 k4 k5 b8 h0 c8 h6 h7 m4 b6 k6;go_wp2;go_cut [7]from 19 to 32 (fun v W=>∃ob,v=.pointer (aa (pA ob 0))/\(W.cell? (pA ob 0)=aa (.int .i64 f1)/\W.cell? (pA ob 1)=aa (.int .i64 f2)/\W.cell? (pA ob 2)=aa (.string f3)/\W.cell? (pA ob 3)=aa (.bool f4))/\ab H.heap.size H W/\H.heap.size<=ob)
  case first =>
   go_region_held3 (fun W=>(W.cell? (pA h 19)=aa (.func (.func J) #[] K)/\W.cell? (pA h 10)=aa (.int .i64 cn)/\W.cell? (pA h 11)=aa (.int .i64 ck)/\W.cell? (pA h 12)=aa (.slice mp cl mc)/\ab H.heap.size H W)) (first|with_reducible assumption|with_reducible exact l7|with_reducible exact l9|(with_reducible exact HS.out _ (h9.2.2.2.2.alloc h9.2.2.2.2.size _))|(with_reducible exact HS.out _ (a2.2.2.2.2.alloc a2.2.2.2.2.size _))|exact HS.out _ ((((a2.2.2.2.2.setCell (by first|exact Nat.le_refl _|exact a4.out) _).setCell (by first|exact Nat.le_refl _|exact a4.out) _).setCell (by first|exact Nat.le_refl _|exact a4.out) _).setCell (by first|exact Nat.le_refl _|exact a4.out) _)) (first|(go_at_call 133;with_reducible refine m0.out.mono ?_;rintro e w4 ⟨p4,c4,rfl,q9,h9⟩)|(go_at_call 133;with_reducible refine m5.out.mono ?_;rintro e w4 ⟨p4,c4,rfl,q9,h9⟩)|(with_reducible refine(m9.out w4 p4 c4 (by with_reducible assumption) (by with_reducible assumption)).mono ?_;rintro e w5 ⟨rfl,a2,⟨k0,k1,k2,k3⟩,y0,y1,y2,y3⟩)|(with_reducible refine(m6.out w4 p4 c4 (by with_reducible assumption) (by with_reducible assumption)).mono ?_;rintro e w5 ⟨rfl,a2⟩)|(with_reducible refine(m7.out w4 p4 c4 (by with_reducible assumption) (by with_reducible assumption)).mono ?_;rintro e w5 ⟨rfl,a2,⟨k0,k1,k2,k3⟩,⟨y0,y1,y2,y3⟩,a4⟩))
   all_goals (go_wp2_with fail;go_meet)
   all_goals first
    |exact⟨_,rfl,⟨by rw[World.cell?_alloc_at _ _ _ _ rfl];rfl,by rw[aj _ _ _ _ rfl];rfl,by rw[aj _ _ _ _ rfl];rfl,by rw[aj _ _ _ _ rfl];rfl⟩,a2.2.2.2.2.alloc a2.2.2.2.2.size _,a2.2.2.2.2.size⟩
    |exact⟨_,rfl,CO k0 k1 k2 k3,(((a2.2.2.2.2.setCell nR _).setCell nR _).setCell nR _).setCell nR _,zb _⟩
    |exact⟨_,rfl,CO k0 k1 k2 k3,(((a2.2.2.2.2.setCell a4.out _).setCell a4.out _).setCell a4.out _).setCell a4.out _,a4.out⟩
  case rest =>
   obtain⟨ob,rfl,⟨o0,o1,o2,o3⟩,f9,n1⟩:=hcut;have I:=a3.out.below f9;have a7:=g9.out.trans (Yd.aJ f9);obtain⟨e1,e2,e3,e4,e5,e6,e7,e8,e9,n2,_⟩:=YE a';clear m0 m5 m6 m7 m9 l7 l9;cases f4 with
   |false =>
    have a8:a'.aF.found=false:=d6.out.2.2.2.symm;have HR:Hid (fU a'=({a'.aF with st:=.done},[])):=by show _=_;unfold fU;rw[if_neg g3,if_pos a8]
    have d7:({a'.aF with st:=.done}:Za).obj=(0,0,⟨#[]⟩,ac):=if_neg (fun e=>by have:=e.2;rw[show({a'.aF with st:=.done}:Za).found=a'.aF.found from rfl,a8]at this;cases this);have n3:=wK ⟨#[100,111,110,101]⟩ 0 0 ⟨#[]⟩ ac I.blk rfl;have n4:Hid (am prog 106 #[.pointer (aa (pA h 0)),.string ⟨#[100,111,110,101]⟩,.agg #[.int .i64 0,.int .i64 0,.string ⟨#[]⟩,.bool ac]] wc fun e w'=>e=.returned (.tuple #[])/\ZR X w' B h S1 {a'.aF with st:=.done}/\Yd S S1 w w'):=n3.mono fun e w' O=>by
     obtain⟨h1,Z⟩:=O;have d8:=yI (a:=a') (a':={a'.aF with st:=.done}) P aw (Jh P.c) (.map (aa b)) F T asks (.func (.func J) #[] K) e3 e2 e6;rw[d7]at d8;exact⟨h1,I.ended (cv':=.nilFunc) (a':={a'.aF with st:=.done}) (d8▸Z) e1 e7 e4 ((I.aN.found a9.out).ended (au rfl)) (au rfl),a7.trans (Z.nJ I.self (fun k hk=>au hk))⟩
    clear I a7 f9 n1 n3 d7 a8 e1 e2 e3 e4 e5 e6 e7 e8 e9 n2 a3 g9 k7 f8 l0 g7 g8;go_wp2_with fail
    refine n4.out.mono ?_;rintro e w7 ⟨rfl,n5,n6⟩;have r0:Hid (ZR X w7 B h S1 {a'.aF with st:=.done}):=n5;have r1:Hid (Yd S S1 w w7):=n6;clear n5 n6 n4;go_wp2;go_ret;rw[HR.out];exact⟨S1,⟨N,0,rfl,Qp.nil _ _⟩,r0.out,r1.out⟩
   |true =>
    have a8:a'.aF.found=true:=d6.out.2.2.2.symm;have HR:Hid (fU a'=(a'.aF.keeps,a'.aF.keeps.send JJ ai)):=by show _=_;unfold fU;rw[if_neg g3,if_neg (by rw[a8];decide)]
    obtain⟨s1,s2,s3,s4,s5,d9,s7,s8,s9,n7⟩:=Q2 a'.aF;obtain⟨t1,t2⟩:=JlY a';have n8:a'.aF.keeps.found=true:=s9.trans a8;have d7:a'.aF.keeps.obj=(f1,f2,f3,ai):=by
     have:a'.aF.keeps.obj=(a'.aF.keeps.tag.1,a'.aF.keeps.tag.2,a'.aF.keeps.text,ai):=if_pos ⟨au d9,n8⟩;rw[this,d6.out.1,d6.out.2.1,d6.out.2.2.1,n7,s4]
    have n9:YB X h _ wc wc:=YB.refl I.blk;have d0:∀i,i<25->∃v,wc.cell? (pA h i)=aa v:=fun i hi=>⟨(JG a' P aw (Jh P.c) (.map (aa b)) F T asks (.func (.func J) #[] K))[i]'hi,by rw[(Jb I.blk i).1];exact Array.getElem?_eq_getElem hi⟩
    obtain⟨u7,g0⟩:=d0 20 (by decide);obtain⟨u8,r2⟩:=d0 21 (by decide);obtain⟨u9,r3⟩:=d0 22 (by decide);obtain⟨v0,r4⟩:=d0 23 (by decide);obtain⟨v1,r5⟩:=d0 24 (by decide);have r6:=(Jb I.blk 20).2;have r7:=(Jb I.blk 21).2;have r8:=(Jb I.blk 22).2;have r9:=(Jb I.blk 23).2;have s6:=(Jb I.blk 24).2;have t0:h≠ob:=by have:=a3.out.lt;omega
    have v2:ob≠h:=fun e=>t0 e.symm
    obtain⟨tp,tc,e0,_⟩:=I.stat.aP.mem;obtain⟨w8,i0⟩:=Xb ((((((wc.setCell (pA h 20) (.string ⟨#[107,101,101,112,105,110,103]⟩)).setCell (pA h 21) (.int .i64 f1)).setCell (pA h 22) (.int .i64 f2)).setCell (pA h 23) (.string f3)).setCell (pA h 24) (.bool ai)).drew);have d1:YB X h ((((((JG a' P aw (Jh P.c) (.map (aa b)) F T asks (.func (.func J) #[] K)).setIfInBounds 20 (.string ⟨#[107,101,101,112,105,110,103]⟩)).setIfInBounds 21 (.int .i64 f1)).setIfInBounds 22 (.int .i64 f2)).setIfInBounds 23 (.string f3)).setIfInBounds 24 (.bool ai)) wc w8:=by rw[i0];exact(((((n9.set 20 _).set 21 _).set 22 _).set 23 _).set 24 _).below bR.drew
    have t3:w8.cell? (pA h 14)=aa (.int .i64 T.c.n):=by rw[(Jb d1.blk 14).1];rfl
    have t4:w8.cell? (pA h 15)=aa (.int .i64 T.c.k):=by rw[(Jb d1.blk 15).1];rfl
    have t5:w8.cell? (pA h 16)=aa (.slice tp T.c.L.length tc):=by rw[(Jb d1.blk 16).1,<-e0];rfl
    have t6:w8.cell? (pA h 17)=aa (.int .i64 T.num):=by rw[(Jb d1.blk 17).1];rfl
    have o4:ab w8.heap.size w8 w8.drew:=bR.drew;have a5:=d1.below o4;have o5:∀W:World,w8.drew.heap.size<=W.heap.size->(∀k,k<w8.drew.heap.size->k≠h->W.heap[k]?=w8.drew.heap[k]?)->Yn W T.c tp tc/\Zp W ad:=fun W hs hk=>by
     have o6:∀k,k<wc.heap.size->k≠h->W.heap[k]?=wc.heap[k]?:=fun k h1 Z=>(hk k (av h1 a5.size) Z).trans (a5.cW k h1 Z)
     have d2:=I.stat.aP.aS (w':=W) (ak a5.size hs) (fun k o7=>o6 k (I.stat.lt k o7) (I.s0 k o7).2.1);refine⟨d2.aG e0,(g2.out W (ak a7.size (ak a5.size hs)) (fun k h1 Z=>?_)).1⟩;have t7:W.heap[k]?=wc.heap[k]?:=by
      by_cases e:k=h
      ·have t8:S1 h:=I.self;subst e;rcases a7.new k t8 with e|e
       ·exact absurd e Z
       ·omega
      ·exact o6 k (av h1 a7.size) e
     exact t7.trans (a7.block k h1 Z)
    have i1:=ED ad T tp tc iS a5.blk rfl I.stat.aP.aN e0 o5;rw[e0]at i1;have p0:Hid (am prog 90 #[.pointer (aa (pA h 0)),.agg #[.int .i64 T.c.n,.int .i64 T.c.k,.slice tp T.c.L.length tc,.int .i64 T.num],.string ⟨#[107,101,112,116]⟩] w8.drew fun e w'=>e=.returned (.tuple #[])/\∃S2 mb a0 D',JF X w' B h S2 a6 a'.aF.keeps T F T asks (.func (.func J) #[] K) iS (aa mb) D' a0/\Yd S S2 w w'):=i1.mono fun e w' O=>by
     obtain⟨h1,mb,h5,Z,h3⟩:=O;have h4:=a5.trans Z;have d8:=T5 (a:=a') (a':=a'.aF.keeps) P aw (Jh P.c) (.map (aa b)) F T asks (.func (.func J) #[] K) mb (s1.trans e3) (s2.trans e2) (s3.trans e6);rw[d7,d9]at d8;have p1:T.c=a'.aF.keeps.c/\T.num=a'.aF.keeps.config:=⟨g7.trans t1.symm,g8.trans t2.symm⟩;have p2:a'.aF.keeps.aI=a'.aI:=s5.trans e4;obtain⟨a0,D',hK⟩:=I.kept (a':=a'.aF.keeps) (cv':=.func (.func J) #[] K) (mb:=mb) (d8▸h4) p1 (fun i2=>by
      rw[p2]at i2;have k1:=(Zw a').1;have k2:=(Zw a').2;rw[i2,if_neg (by decide)]at k1 k2;rw[t1,t2,k1,k2];exact I.fF.sJ i2) p2 ((I.aN.found a9.out).keeps a8 (by rw[<-p1.1];exact I.stat.aP.aN)) d9 s7 (ak a5.size h5) h3
     exact⟨h1,_,mb,a0,D',hK,a7.trans (h4.nJ I.self (fun k hk=>by rcases hk with hk|rfl;exact au hk;exact aA (ak a5.size h5)))⟩
    have t9:Hid (w8=(((((wc.setCell (pA h 20) (.string ⟨#[107,101,101,112,105,110,103]⟩)).setCell (pA h 21) (.int .i64 f1)).setCell (pA h 22) (.int .i64 f2)).setCell (pA h 23) (.string f3)).setCell (pA h 24) (.bool ai)).drew):=i0;have u0:Hid (a'.aF.keeps.st=.keeping):=d9;clear I a7 f9 n1 i1 d7 a8 e1 e2 e3 e4 e5 e6 e7 e8 e9 n2 a3 g9 n8 d9 n9 d0 i0 d1 a5 o4 o5 e0 k7 f8 l0 g7 g8 s1 s2 s3 s4 s5 s7 s8 s9 n7 t1 t2;go_wp2;go_region
    rw[<-t9.out];clear g0 r2 r3 r4 r5 r6 r7 r8 r9 s6 o0 o1 o2 o3;go_wp2;refine af 7 (by kernel_rfl) (by kernel_rfl) ?_;simp only[ag,an,ah,ao]
    still_step
    still_step
    still_step
    still_step
    still_step
    still_step
    still_step
    refine ap ?_;go_wp2_with fail
    refine p0.out.mono ?_;rintro e w9 ⟨rfl,S2,mb,u1,D9,i3,g1⟩;obtain⟨u2,z9,p3⟩:=g2.out w9 g1.size (fun k hk hs=>g1.block k hk hs);have p5:=MO i3 u0.out z9 p3;have p6:Hid (JF X w9 B h S2 a6 a'.aF.keeps T F T asks (.func (.func J) #[] K) iS (aa mb) D9 u1):=i3;have p7:Hid (Yd S S2 w w9):=g1;clear i3 g1 u2 p3 p0 t3 t4 t5 t6;go_wp2_with fail
    refine p5.mono ?_;rintro e i4 ⟨⟨p9,g0,rfl,q0⟩,q1⟩;have u3:Hid (Qp g0 (fun b=>w.heap.size<=b/\b<i4.heap.size/\¬S2 b) i4 p9 (a'.aF.keeps.send JJ ai)):=q0.out (fun b hb d3=>⟨ak p7.out.size hb,d3,fun hs=>by have:=(p6.out.aO b hs).2;omega⟩);have q2:Hid (ab w9.heap.size w9 i4):=q1;clear q0 q1 p5;go_wp2;go_ret;rw[HR.out];exact⟨S2,⟨p9,g0,rfl,u3.out⟩,⟨_,_,_,_,_,_,_,_,_,_,p6.out.below q2.out⟩,p7.out.trans (Yd.aJ q2.out)⟩
end
section
variable {X:ax} {w w':World} {B h:Nat} {S S0:Nat->Prop} {a:Za} {P F T:J0} {asks:BA} {cv:al} {aw:BA} {m:Option Nat} {D:DataW al} {row:BA->al}
theorem Yd.since {S H:Nat->Prop}{w I w':World}(J:ab w.heap.size w I)(h:Yd S H I w'):Yd S H w w':=(Yd.aJ (S:=S) J).trans h
theorem E2 {a:Za}{m:Zb}(h:a.aM m=ai)(I:m.shut=ac)(H:a.first):a.aD m=fU (a.heard m):=by
 rcases H with H|H
 ·exact H8 h I H
 ·exact uQ h H
theorem E6 (ad:Nat->zc)(hp:JF X w B h S S0 a P F T asks cv aw m D row)(x:Zb×Lv)(f9:a.aM x.1=ai->a.st=.sealing->x.1.shut=ac)(hL:Jn w x)(e0:a.small x.1)(hv:∀v∈x.1.L,Jt v)(hG:∀W:World,w.heap.size<=W.heap.size->(∀k,k<w.heap.size->¬S k->W.heap[k]?=w.heap[k]?)->Zp W ad/\∃z,W.cell? ⟨9,0,N⟩=aa (.iface 287 (.pointer (aa z)))):
 am prog 80 #[.pointer (aa ⟨h,0,N⟩),.agg #[.string x.1.from_,.string x.1.aP,.string x.1.kind,.string x.1.key,.int .i64 x.1.op,.int .i64 x.1.config,.bool x.1.shut,.slice x.2.1 x.2.2.1 x.2.2.2]] w fun e w'=>∃I:Nat->Prop,(∃p c,e=.returned (.slice p (a.aD x.1).2.length c)/\Qp c (fun b=>w.heap.size<=b/\b<w'.heap.size/\¬I b) w' p (a.aD x.1).2)/\ZR X w' B h I (a.aD x.1).1/\Yd S I w w':=by
 obtain⟨b1,_,_,_,_⟩:=EM e0;have e3:=fun W (H:ab w.heap.size w W)=>N0 (hp.below H) x (by unfold maxLen;omega)
 have a9:∀W,ab w.heap.size w W->a.aM x.1=ai->x.1.shut=ac->a.first->am prog 108 #[.pointer (aa ⟨h,0,N⟩),.string x.1.from_,.slice x.2.1 x.2.2.1 x.2.2.2] W fun e w'=>∃I:Nat->Prop,(∃p c,e=.returned (.slice p (a.aD x.1).2.length c)/\Qp c (fun b=>w.heap.size<=b/\b<w'.heap.size/\¬I b) w' p (a.aD x.1).2)/\ZR X w' B h I (a.aD x.1).1/\Yd S I w w':=fun W H J K h3=>by
  rw[E2 J K h3];exact(WC ad (hp.below H) x J h3 (hL.below H) hv e0 (fun W2 hs hk=>hG W2 (ak H.size hs) (fun k e4 g8=>(hk k (av e4 H.size) g8).trans (H.block k e4)))).mono fun e w' hq=>by
   obtain⟨I,⟨p,c,e1,e2⟩,K,h3⟩:=hq;exact⟨I,⟨p,c,e1,e2.mono (fun b hb=>⟨ak H.size hb.1,hb.2⟩)⟩,K,h3.since H⟩
 have b0:∀W,ab w.heap.size w W->a.aM x.1=ai->x.1.shut=ac->a.st=.keeping->am prog 107 #[.pointer (aa ⟨h,0,N⟩),.string x.1.from_] W fun e w'=>e=.returned (.tuple #[])/\∃I,ZR X w' B h I (a.aD x.1).1/\Yd S I w w':=fun W H J K h3=>by
  rw[uB J K h3];exact(JnB (hp.below H) x.1 J h3 hv b1).mono fun e w' hq=>by
   obtain⟨J,I,K,h3⟩:=hq;exact⟨J,I,K,h3.since H⟩
 have d7:a.aM x.1=ai->x.1.shut=ai->a.st≠.sealing:=fun J K e=>by rw[f9 J e]at K;cases K
 have b2:∀W,ab w.heap.size w W->a.aM x.1=ai->x.1.shut=ai->am prog 106 #[.pointer (aa ⟨h,0,N⟩),.string ⟨#[114,101,102,117,115,101,100]⟩,.agg #[.int .i64 0,.int .i64 0,.string ⟨#[]⟩,.bool ac]] W fun e w'=>e=.returned (.tuple #[])/\ZR X w' B h S (a.aD x.1).1/\Yd S S w w':=fun W H J K=>by
  rw[qQ J K (d7 J K)];have d1:=hp.below H;refine(wK ⟨#[114,101,102,117,115,101,100]⟩ 0 0 ⟨#[]⟩ ac d1.blk rfl).mono fun e w' hq=>?_
  obtain⟨g1,g2⟩:=hq;have g9:({a with st:=.refused}:Za).obj=(0,0,⟨#[]⟩,ac):=if_neg (fun e=>by rcases e.1 with e|e<;>cases e);have e5:=yI (a:=a) (a':={a with st:=.refused}) P aw (Jh P.c) (.map m) F T asks cv rfl rfl rfl;rw[g9]at e5;exact⟨g1,d1.ended (cv':=.nilFunc) (a':={a with st:=.refused}) (e5▸g2) rfl rfl rfl (d1.aN.ended (aA rfl)) (aA rfl),(g2.nJ d1.self (fun k hk=>au hk)).since H⟩
 have e6:∀W,ab w.heap.size w W->ZR X W B h S a:=fun W H=>⟨_,_,_,_,_,_,_,_,_,_,hp.below H⟩
 have a7:∀W,ab w.heap.size w W->W.cell? ⟨h,20,N⟩=aa (.string a.st.word):=fun W H=>(hp.below H).cell 20
 have e7:a.aM x.1=ac->a.aD x.1=(a,[]):=pW;have b3:a.aM x.1=ai->x.1.shut=ai->(a.aD x.1).2=[]:=fun J K=>by rw[qQ J K (d7 J K)]
 have b4:a.aM x.1=ai->x.1.shut=ac->a.st=.keeping->(a.aD x.1).2=[]:=fun J K h3=>by rw[uB J K h3]
 have b5:a.aM x.1=ai->a.first∨a.st=.keeping:=fun J=>(Z9 J).1
 clear hp hL e0 hv hG b1 d7 f9;obtain⟨⟨m1,m2,m3,O,U,Z,m7,mL⟩,lp,ln,lc⟩:=x;dsimp only at *;obtain⟨w1,b6⟩:=Xb (w.alloc (.cells #[.string m1,.string m2,.string m3,.string O,.int .i64 U,.int .i64 Z,.bool m7,.slice lp ln lc] 90));have d2:=Zk b6;have e8:=fQ b6;have a2:=JH b6;have g0:=(Jb a2 0).1;have g1:=(Jb a2 1).1;have g2:=(Jb a2 2).1;have g3:=(Jb a2 3).1;have g4:=(Jb a2 4).1;have g5:=(Jb a2 5).1;have g6:=(Jb a2 6).1;have g7:=(Jb a2 7).1;have d3:Hid _:=b6;have a3:am prog 105 #[.pointer (aa ⟨h,0,N⟩),.agg #[.string m1,.string m2,.string m3,.string O,.int .i64 U,.int .i64 Z,.bool m7,.slice lp ln lc]] w1.drew fun e w'=>e=.returned (.bool (a.aM ⟨m1,m2,m3,O,U,Z,m7,mL⟩))/\(w'.cell? ⟨w.heap.size,0,N⟩=aa (.string m1)/\w'.cell? ⟨w.heap.size,6,N⟩=aa (.bool m7)/\w'.cell? ⟨w.heap.size,7,N⟩=aa (.slice lp ln lc))/\Hid (ab w.heap.size w w'):=(e3 w1.drew d2.drew).mono fun e w' hq=>by
  have H:=(Below.refl _ w1).drew.trans hq.2;have hb:=(H.block _ e8).trans a2;exact⟨hq.1,⟨(Jb hb 0).1,(Jb hb 6).1,(Jb hb 7).1⟩,d2.trans (H.mono d2.size)⟩
 have b7:Hid _:=e7;have d4:Hid _:=e6;clear b6 d2 e8 a2 e3 e7 e6;by_cases a0:a.aM ⟨m1,m2,m3,O,U,Z,m7,mL⟩=ai
 ·rw[a0]at a3;have d5:=b5 a0;cases m7 with
  |true =>
   have e9:Hid (∀W,ab w.heap.size w W->am prog 106 #[.pointer (aa ⟨h,0,N⟩),.string ⟨#[114,101,102,117,115,101,100]⟩,.agg #[.int .i64 0,.int .i64 0,.string ⟨#[]⟩,.bool ac]] W fun e w'=>e=.returned (.tuple #[])/\ZR X w' B h S (a.aD ⟨m1,m2,m3,O,U,Z,ai,mL⟩).1/\Yd S S w w'):=fun W H=>b2 W H a0 rfl
   have d8:Hid _:=b3 a0 rfl;clear a9 b0 b2 b3 b4 b5 a0 d5 b7 d4 a7;generalize a.aD ⟨m1,m2,m3,O,U,Z,ai,mL⟩=R at *;go_enter func80,ntmps80;go_wp2;rw[<-d3.out];refine af 4 (by kernel_rfl) (by kernel_rfl) ?_;simp only[ag,an,ah,ao]
   still_step
   still_step
   still_step
   still_step
   refine ap ?_;go_wp2_with fail
   refine a3.mono ?_;rintro e w2 ⟨rfl,⟨k0,k6,k7⟩,a4⟩;have f3:=e9.out w2 a4.out;clear a3 e9 g0 g1 g2 g3 g4 g5 g6 g7;go_wp2_with fail
   refine f3.mono ?_;rintro e w3 ⟨rfl,a5,a6⟩;have b8:Hid _:=a5;have c8:Hid _:=a6;clear a5 a6 f3;go_wp2;go_ret;rw[d8.out];exact⟨S,⟨N,0,rfl,Qp.nil _ _⟩,b8.out,c8.out⟩
  |false =>
   by_cases a8:a.st=.keeping
   ·have f4:Hid (∀W,ab w.heap.size w W->am prog 107 #[.pointer (aa ⟨h,0,N⟩),.string m1] W fun e w'=>e=.returned (.tuple #[])/\∃I,ZR X w' B h I (a.aD ⟨m1,m2,m3,O,U,Z,ac,mL⟩).1/\Yd S I w w'):=fun W H=>b0 W H a0 rfl a8
    have d8:Hid _:=b4 a0 rfl a8;have d0:Hid (∀W,ab w.heap.size w W->W.cell? ⟨h,20,N⟩=aa (.string ⟨#[107,101,101,112,105,110,103]⟩)):=fun W H=>by rw[a7 W H,a8];rfl
    clear a9 b0 b2 b3 b4 b5 a0 d5 b7 d4 a7 a8;generalize a.aD ⟨m1,m2,m3,O,U,Z,ac,mL⟩=R at *;go_enter func80,ntmps80;go_wp2;rw[<-d3.out];refine af 4 (by kernel_rfl) (by kernel_rfl) ?_;simp only[ag,an,ah,ao]
    still_step
    still_step
    still_step
    still_step
    refine ap ?_;go_wp2_with fail
    refine a3.mono ?_;rintro e w2 ⟨rfl,⟨k0,k6,k7⟩,a4⟩;have f5:=f4.out w2 a4.out;have h0:=d0.out w2 a4.out;clear a3 f4 d0 g0 g1 g2 g3 g4 g5 g6 g7;go_wp2_with fail
    refine f5.mono ?_;rintro e w3 ⟨rfl,S3,a5,a6⟩;have b8:Hid _:=a5;have c8:Hid _:=a6;clear a5 a6 f5;go_wp2;go_ret;rw[d8.out];exact⟨S3,⟨N,0,rfl,Qp.nil _ _⟩,b8.out,c8.out⟩
   ·have d6:a.first:=by rcases d5 with e|e;exact e;exact absurd e a8
    have f6:Hid (∀W,ab w.heap.size w W->am prog 108 #[.pointer (aa ⟨h,0,N⟩),.string m1,.slice lp ln lc] W fun e w'=>∃I:Nat->Prop,(∃p c,e=.returned (.slice p (a.aD ⟨m1,m2,m3,O,U,Z,ac,mL⟩).2.length c)/\Qp c (fun b=>w.heap.size<=b/\b<w'.heap.size/\¬I b) w' p (a.aD ⟨m1,m2,m3,O,U,Z,ac,mL⟩).2)/\ZR X w' B h I (a.aD ⟨m1,m2,m3,O,U,Z,ac,mL⟩).1/\Yd S I w w'):=fun W H=>a9 W H a0 rfl d6
    have h5:¬a.st.word.toList=[107,101,101,112,105,110,103]:=by
     rcases d6 with e|e<;>rw[e]<;>decide +kernel
    have h6:(a.st.word.toList==[107,101,101,112,105,110,103])=false:=by
     rcases d6 with e|e<;>rw[e]<;>decide +kernel
    clear a9 b0 b2 b3 b4 b5 a0 d5 b7 d4 d6 a8;generalize a.aD ⟨m1,m2,m3,O,U,Z,ac,mL⟩=R at *;generalize a.st.word=sw at *;have d0:Hid _:=a7;clear a7;go_enter func80,ntmps80;go_wp2;rw[<-d3.out];refine af 4 (by kernel_rfl) (by kernel_rfl) ?_;simp only[ag,an,ah,ao]
    still_step
    still_step
    still_step
    still_step
    refine ap ?_;go_wp2_with fail
    refine a3.mono ?_;rintro e w2 ⟨rfl,⟨k0,k6,k7⟩,a4⟩;have f7:=f6.out w2 a4.out;have h0:=d0.out w2 a4.out;clear a3 f6 d0 g0 g1 g2 g3 g4 g5 g6 g7;go_wp2_with fail
    refine f7.mono ?_;rintro e w3 ⟨S3,⟨p3,c3,rfl,f8⟩,a5,a6⟩;have h4:Hid _:=f8;have b8:Hid _:=a5;have c8:Hid _:=a6;clear f8 a5 a6 f7;go_wp2;go_ret;exact⟨S3,⟨p3,c3,rfl,h4.out⟩,b8.out,c8.out⟩
 ·have d9:a.aM ⟨m1,m2,m3,O,U,Z,m7,mL⟩=false:=Bool.eq_false_iff.2 a0;rw[d9]at a3;have HR:=b7.out d9;rw[HR];clear a9 b0 b2 b3 b4 b5 a0 d9 b7 a7 HR;go_enter func80,ntmps80;go_wp2;rw[<-d3.out];refine af 4 (by kernel_rfl) (by kernel_rfl) ?_;simp only[ag,an,ah,ao]
  still_step
  still_step
  still_step
  still_step
  refine ap ?_;go_wp2_with fail
  refine a3.mono ?_;rintro e w2 ⟨rfl,⟨k0,k6,k7⟩,a4⟩;clear a3 g0 g1 g2 g3 g4 g5 g6 g7;go_wp2;go_ret;exact⟨S,⟨N,0,rfl,Qp.nil _ _⟩,d4.out w2 a4.out,Yd.aJ a4.out⟩
end
theorem DJ (num:Int)(c:Xg)(p:Option zc)(cap:Nat)(w:World)(hc:Yn w c p cap)(hn:1<=c.L.length):am prog 89 #[.agg #[.int .i64 c.n,.int .i64 c.k,.slice p c.L.length cap,.int .i64 num]] w fun e w'=>(∃g,e=.returned (.agg #[.int .i64 c.n,.int .i64 c.k,.slice (aa ⟨g,0,N⟩) c.L.length c.L.length,.int .i64 num])/\Strs w' (aa ⟨g,0,N⟩) c.L/\w.heap.size<=g/\g<w'.heap.size)/\ab w.heap.size w w':=by
 obtain⟨B,I⟩:=Xb ((w.alloc (.cells #[.int .i64 c.n,.int .i64 c.k,.slice p c.L.length cap,.int .i64 num] 121)).alloc (.cells #[.int .i64 0,.int .i64 0,.slice N 0 0,.int .i64 0] 121));have a2:ab w.heap.size w B:=by rw[I];exact(bR.alloc nR _).alloc (by simp) _
 have b0:B.heap.size=w.heap.size+1+1:=by rw[I];simp
 have a3:B.heap[w.heap.size]?=aa (.cells #[.int .i64 c.n,.int .i64 c.k,.slice p c.L.length cap,.int .i64 num] 121 (0,0)):=by
  rw[I,Below.heap_alloc _ _ _ (by simp)];show(w.heap.push _)[w.heap.size]?=_;simp
 have b1:B.heap[w.heap.size+1]?=aa (.cells #[.int .i64 0,.int .i64 0,.slice N 0 0,.int .i64 0] 121 (0,0)):=by
  rw[I];show((w.alloc _).heap.push _)[w.heap.size+1]?=_;have e:w.heap.size+1=(w.alloc (.cells #[.int .i64 c.n,.int .i64 c.k,.slice p c.L.length cap,.int .i64 num] 121)).heap.size:=by simp
  rw[Array.getElem?_push,if_pos e]
 obtain⟨i1,b2,b3,b4,b5⟩:=info_parts CR;have f8:=hc.len;have b6:∀W:World,Sem.run prog (Instr.makeSlice 22 (.int .i64 (c.L.length:Int)) (.int .i64 (c.L.length:Int))) W=.ok (.slice (aa ⟨W.heap.size,0,N⟩) c.L.length c.L.length) (W.alloc (.cells (a1 #[.string ⟨#[]⟩] c.L.length) 9)):=fun W=>run_make_row (P:=prog) 22 9 i1 (.string ⟨#[]⟩) underlying22 b2 b3 b4 rfl .i64 .i64 c.L.length (by rw[b5];omega) (by omega) W
 have d8:Hid (Strs B p c.L):=hc.strs.below a2;have d9:Hid _:=hc.size;have e2:Hid (∀s:BA,s.size<=1000000->∀W,am prog 19 #[.string s] W fun e w'=>e=.returned (.string s)/\ab W.heap.size W w'):=fun s hs W=>Xs s W (by omega)
 have a4:Hid (∀W,ab B.heap.size B W->W.heap[w.heap.size]?=aa (.cells #[.int .i64 c.n,.int .i64 c.k,.slice p c.L.length cap,.int .i64 num] 121 (0,0))/\W.heap[w.heap.size+1]?=aa (.cells #[.int .i64 0,.int .i64 0,.slice N 0 0,.int .i64 0] 121 (0,0))):=fun W hW=>⟨(hW.block _ (by omega)).trans a3,(hW.block _ (by omega)).trans b1⟩
 have k2:B.cell? ⟨w.heap.size,2,N⟩=aa (.slice p c.L.length cap):=by simp[ae,a3]
 obtain⟨J,U⟩:=Xb (B.alloc (.cells (a1 #[.string ⟨#[]⟩] c.L.length) 9));have b7:J.rowIs B.heap.size 9 c.L.length (fun _=>.string ⟨#[]⟩):=by rw[U];exact World.rowIs_made B _ c.L.length _
 have a5:=Zk U;have k3:J.cell? ⟨w.heap.size,2,N⟩=aa (.slice p c.L.length cap):=by simp[ae,(a4.out J a5).1]
 have e3:Hid _:=I;have e4:Hid (J=B.alloc (.cells (a1 #[.string ⟨#[]⟩] c.L.length) 9)):=U;have e5:Hid (J.rowIs B.heap.size 9 c.L.length (fun _=>.string ⟨#[]⟩)):=b7;have e6:Hid (ab B.heap.size B J):=a5;have a6:Hid (ab w.heap.size w B):=a2;have b8:Hid (B.heap.size=w.heap.size+1+1):=b0;have f9:w.heap.size+1<B.heap.size:=by omega
 clear hc I U a3 b1 b7 a5 a2 b0 b2 b3 b4 b5;go_enter func89,ntmps89;go_wp2_with (first|rw[<-e3.out]|rw[<-e4.out])
 go_loopw [15] (fun x wr=>∃i:Nat,i<=c.L.length/\x=.int .i64 i/\wr.rowIs B.heap.size 9 c.L.length (fun q=>if q<i then .string (Yc c.L q)else .string ⟨#[]⟩)/\ab B.heap.size B wr) (fun x _=>c.L.length-(intOf x).toNat)
 case atStart=>exact⟨0,Nat.zero_le _,rfl,e5.out.congr (fun q _=>by simp),e6.out⟩
 case round =>
  obtain⟨i,hi,rfl,Z,hB⟩:=hrel;obtain⟨D,rfl⟩:=Xb wr;have HS:Hid (D.rowIs B.heap.size 9 c.L.length (fun q=>if q<i then .string (Yc c.L q)else .string ⟨#[]⟩)):=Z;have HB:Hid (ab B.heap.size B D):=hB;by_cases K:i<c.L.length
  ·rcases d8.out.below hB with h0|⟨b,o,e7,g4,c8⟩
   ·rw[h0]at K;exact absurd K (Nat.not_lt_zero _)
   have q1:=c8 i K;have d4:(Yc c.L i).size<=1000000:=by
    rw[Xk c.L i K];have:=d9.out _ (aE K);omega
   have a7:=e2.out _ d4 D;have e8:Hid (Yc c.L i=Yc c.L i):=by show _=_;rfl
   generalize d5:Yc c.L i=t at a7 q1;have e9:Hid (Yc c.L i=t):=d5;subst e7;clear c8 d4 e8 d5 Z hB;go_wp2_with fail
   refine a7.mono ?_;rintro e w5 ⟨rfl,a8⟩;have a0:=yN HS.out a8;have qs:w5.cell? ⟨B.heap.size,i,N⟩=aa (.string ⟨#[]⟩):=by rw[a0.cell K,if_neg (Nat.lt_irrefl _)]
   have qf:w5.frozen? ⟨B.heap.size,i,N⟩=false:=a0.frozen i;have f3:Hid (w5.rowIs B.heap.size 9 c.L.length (fun q=>if q<i then .string (Yc c.L q)else .string ⟨#[]⟩)):=a0;have f4:Hid (ab B.heap.size B w5):=HB.out.trans (a8.mono HB.out.size);clear a0 a8 a7 q1 b6;go_wp2;go_roundw
   case rel =>
    refine⟨i+1,by omega,by go_num,(f3.out.set i _).congr (fun q _=>?_),f4.out.setCell nR _⟩;by_cases e:q=i
    ·rw[if_pos e,if_pos (by omega),e,e9.out]
    ·rw[if_neg e];by_cases e':q<i
     ·rw[if_pos e',if_pos (by omega)]
     ·rw[if_neg e',if_neg (by omega)]
   case measure=>simp[intOf];omega
  ·have g5:i=c.L.length:=by omega
   obtain⟨O,H⟩:=a4.out D hB;have c0:D.cell? ⟨w.heap.size,0,N⟩=aa (.int .i64 c.n):=by simp[ae,O]
   have c1:D.cell? ⟨w.heap.size,1,N⟩=aa (.int .i64 c.k):=by simp[ae,O]
   have c2:D.cell? ⟨w.heap.size,2,N⟩=aa (.slice p c.L.length cap):=by simp[ae,O]
   have f2:D.frozen? ⟨w.heap.size,2,N⟩=false:=by simp[aq,O]
   have c3:D.cell? ⟨w.heap.size,3,N⟩=aa (.int .i64 num):=by simp[ae,O]
   have d3:D.cell? ⟨w.heap.size+1,3,N⟩=aa (.int .i64 0):=by simp[ae,H]
   have g3:D.frozen? ⟨w.heap.size+1,3,N⟩=false:=by simp[aq,H]
   have d0:D.cell? ⟨w.heap.size+1,0,N⟩=aa (.int .i64 0):=by simp[ae,H]
   have d1:D.cell? ⟨w.heap.size+1,1,N⟩=aa (.int .i64 0):=by simp[ae,H]
   have d2:D.cell? ⟨w.heap.size+1,2,N⟩=aa (.slice N 0 0):=by simp[ae,H]
   have g0:D.frozen? ⟨w.heap.size+1,0,N⟩=false:=by simp[aq,H]
   have g1:D.frozen? ⟨w.heap.size+1,1,N⟩=false:=by simp[aq,H]
   have g2:D.frozen? ⟨w.heap.size+1,2,N⟩=false:=by simp[aq,H]
   have a9:D.rowIs B.heap.size 9 c.L.length (fun q=>.string (Yc c.L q)):=Z.congr (fun q hq=>by rw[if_pos (by omega)]);have f5:B.heap.size<D.heap.size:=a9.lt;have d6:ab w.heap.size w D:=a6.out.trans (hB.mono a6.out.size);have f6:Hid (∀W:World,W.heap.size=D.heap.size->(∀k,k≠w.heap.size->k≠w.heap.size+1->W.heap[k]?=D.heap[k]?)->Strs W (aa ⟨B.heap.size,0,N⟩) c.L):=fun W g6 hk=>by
    refine aA ⟨B.heap.size,0,rfl,by omega,fun j hj=>?_⟩;rw[ba,ar (a:=⟨B.heap.size,j,N⟩) (hk B.heap.size (by have:=b8.out;omega) (by have:=b8.out;omega))];exact a9.cell hj
   have f7:Hid (ab w.heap.size w D):=d6;have d7:Hid (w.heap.size<=B.heap.size/\B.heap.size<D.heap.size):=⟨a6.out.size,f5⟩;have g7:w.heap.size≠w.heap.size+1:=by omega
   clear Z hB a9 O H d6 HS b6 a4;go_wp2;refine bodyPost_ret (v:=.agg #[.int .i64 c.n,.int .i64 c.k,.slice (aa ⟨B.heap.size,0,N⟩) c.L.length c.L.length,.int .i64 num]) (by simp[results,results89,go_sem,d0,d1,d2,d3]) rfl ⟨⟨B.heap.size,rfl,?_,d7.out.1,?_⟩,?_⟩
   ·refine f6.out _ (by simp[zh]) fun k h1 h2=>?_
    simp[Below.heap_setCell,h1,h2]
   ·simpa[zh]using d7.out.2
   ·exact((((f7.out.setCell nR _).setCell (by show w.heap.size<=w.heap.size+1;omega) _).setCell (by show w.heap.size<=w.heap.size+1;omega) _).setCell (by show w.heap.size<=w.heap.size+1;omega) _).setCell (by show w.heap.size<=w.heap.size+1;omega) _
def Xz (f t:Xg)(key:BA)(op B D:Int):Int×Int:=if 0<(Jg f).1 then Jg f else if 0<(Jg t).1 then Jg t else if Jo key=ac then(4,-1)else if 0<=op/\0<=B/\0<=D then(0,-1)else(2,-1)
def Jj:Array Value:=#[.string ⟨#[]⟩,.string ⟨#[]⟩,.int .i64 0,.int .i64 0,.int .i64 0,.slice N 0 0,.int .i64 0,.string ⟨#[]⟩,.int .i64 0,.map N,.int .i64 0,.int .i64 0,.slice N 0 0,.int .i64 0,.int .i64 0,.int .i64 0,.slice N 0 0,.int .i64 0,.string ⟨#[]⟩,.nilFunc,.string ⟨#[]⟩,.int .i64 0,.int .i64 0,.string ⟨#[]⟩,.bool ac]
def lD (nm key:BA)(op:Int)(f:Xg)(B:al)(D:Int)(t:Xg)(H:al)(I:Int)(asks told st:BA)(J:al):Array Value:=#[.string nm,.string key,.int .i64 op,.int .i64 f.n,.int .i64 f.k,B,.int .i64 D,.int .i64 t.n,.int .i64 t.k,H,.int .i64 I,.string asks,.string told,.string st,J]
theorem XZ (cells:Array al)(H:W.heap[b]?=aa (.cells D T (0,0))):(W.setRow b cells).heap[b]?=aa (.cells cells T (0,0))/\(W.setRow b cells).heap.size=W.heap.size/\(∀k,k≠b->(W.setRow b cells).heap[k]?=W.heap[k]?)/\(W.setRow b cells).os=W.os/\(W.setRow b cells).tape=W.tape/\(W.setRow b cells).output=W.output:=by
 refine⟨?_,by simp[aC],fun k B=>?_,rfl,rfl,rfl⟩
 ·simp[aC,Array.getElem?_modify,H]
 ·have:b≠k:=fun e=>B e.symm
  simp[aC,Array.getElem?_modify,this]
theorem nQ:Jj.all (·.oneCell')=true:=by unfold Jj;simp[Value.oneCell']
theorem YI:(prog.info? 129).map (·.size)=aa Jj.size:=by kernel_rfl
theorem XR {rest:List Oper}(I:o.guard=N)(B:ax)(x y:Operand)(J:o.op=.store B x y)(g:Nat)(cells:Array al)(K:a.eval x=.pointer (aa ⟨g,0,N⟩))(O:a.eval y=.agg cells)(t:ax)(D:Array al)(U:w.heap[g]?=aa (.cells D t (0,0)))(Z:(P.info? B).map (·.size)=aa cells.size)(hold:D.size=cells.size)(h1:cells.all (·.oneCell')=ai)(h:wpList P ops Q rest (a.put o.dst undef) (w.setRow g cells)):wpList P ops Q (o::rest) a w :=
 wpList_plain I fun _ H=>wp_store_row B x y J g cells K O t D U Z hold h1 (H _ _ h)
theorem ZB {K:Act->World->Prop}{H:Prop}(I:o.guard=N)(B:ax)(x y:Operand)(J:o.op=.store B x y)(g:Nat)(cells:Array al)(O:a.eval x=.pointer (aa ⟨g,0,N⟩))(U:a.eval y=.agg cells)(t:ax)(D:Array al)(Z:w.heap[g]?=aa (.cells D t (0,0)))(hi:(P.info? B).map (·.size)=aa cells.size)(hold:D.size=cells.size)(h1:cells.all (·.oneCell')=ai)(h:K (a.put o.dst undef) (w.setRow g cells)):if Region.wanted o (yielded ops a.tmps)=ai then Oper.wp P o a w K Q else H:=by
 rw[if_pos (by simp[Region.wanted,I])];exact wp_store_row B x y J g cells O U t D Z hi hold h1 h
theorem qV {O:ax}{cells:Array al}{H:Func}{v:al}{d:TypeDesc}(U:H.results=#[.cell 2 T,.tmp 3])(I:D.getD 2 undef=.pointer (aa ⟨b,0,N⟩))(J:D.getD 3 undef=v)(Z:W.heap[b]?=aa (.cells cells O (0,0)))(B:P.underlying T=aa d)(hd:d.isRow=ai)(hi:(P.info? T).map (·.size)=aa cells.size):(results H D).run P W=.ok (.tuple #[.agg cells,v]) W:=by
 have K:=run_loadVar_mid (P:=P) W b 0 T cells.toList d (fun j u B=>by rw[ba];simp[ae,Z];simpa using B) B hd (by simpa using hi);unfold results;rw[U];simp only[Array.getD_eq_getD_getElem?]at I J;simp[I,J,asAddr,K,Result.andThen]
theorem Jd.off {w':World}{ad:Nat->zc}{c at_:Int}{s:BA}(h:Jd w ad I c at_)(hs:w.cell? ⟨b,0,N⟩=aa (Value.string s))(J:∀k,k≠b->w'.heap[k]?=w.heap[k]?):Jd w' ad I c at_:=by
 rcases h with h|h|⟨i,B,K,O,U,D,Z⟩
 ·exact au h
 ·exact aA (au h)
 ·have H:B≠b:=fun e=>by
   subst e;rw[hs]at D;cases D
  exact aA (aA ⟨i,B,K,O,U,(ar (a:=⟨B,0,N⟩) (J B H)).trans D,(ar (a:=⟨B,1,N⟩) (J B H)).trans Z⟩)
theorem YG {o:Obj}(h:W.heap[b]?=aa o):b<W.heap.size:=by
 rcases bb b W.heap.size with B|B
 ·exact B
 ·rw[Array.getElem?_eq_none B]at h;cases h
structure iH (w W:World) (nm key:BA) (op:Int) (f:Xg) (p:Option zc) (cap:Nat) (fn:Int) (t:Xg) (q:Option zc) (cap2:Nat) (tn:Int) (asks told st:BA) (cv:al):Prop where
 pl:W.heap[w.heap.size]?=aa (.cells (lD nm key op f (.slice p f.L.length cap) fn t (.slice q t.L.length cap2) tn asks told st cv) 133 (0,0))
 rs:W.heap[w.heap.size+1]?=aa (.cells Jj 129 (0,0))
 be:ab w.heap.size w W
theorem iH.below {D:World}{nm key:BA}{op:Int}{f:Xg}{cap:Nat}{H:Int}{t:Xg}{q:Option zc}{I:Nat}{J:Int}{told st:BA}(h:iH w W nm key op f p cap H t q I J asks told st K)(B:ab W.heap.size W D):iH w D nm key op f p cap H t q I J asks told st K:=⟨(B.block _ (YG h.pl)).trans h.pl,(B.block _ (YG h.rs)).trans h.rs,h.be.trans (B.mono h.be.size)⟩
theorem iH.start (w:World)(nm key:BA)(op:Int)(f:Xg)(p:Option zc)(cap:Nat)(B:Int)(t:Xg)(q:Option zc)(D:Nat)(H:Int)(asks told st:BA)(I:al):iH w ((w.alloc (.cells (lD nm key op f (.slice p f.L.length cap) B t (.slice q t.L.length D) H asks told st I) 133)).alloc (.cells Jj 129)) nm key op f p cap B t q D H asks told st I:=by
 have K:(w.alloc (.cells (lD nm key op f (.slice p f.L.length cap) B t (.slice q t.L.length D) H asks told st I) 133)).heap.size=w.heap.size+1:=by simp
 refine⟨?_,?_,(bR.alloc nR _).alloc (by simp) _⟩
 ·rw[Below.heap_alloc _ _ _ (by omega)];show(w.heap.push _)[w.heap.size]?=_;simp
 ·rw[<-K];generalize w.alloc _=J;show(J.heap.push _)[J.heap.size]?=_;simp
end Go.Proofs.YtgapmoniajcliaaGreatDoor

/- Texts laid together. -/
import Derived.Test.YtflpelnbjekjbaaGreatDoorZ9
set_option maxRecDepth 100000
set_option maxHeartbeats 8000000
open Option renaming some->aa,none->N
open Go.World renaming cell?_alloc_at->ab,cell?_of_block->ae,cell?_setCell_other->af,frozen?_alloc_at->ai,setCell->aA,cell?_setCell_same->aB,frozen?_of_block->aF
open Go.RowKit renaming Below->ac
open Go.World.ranges renaming left_eq->ag,owns->bf,lt->bv
open Go.RowKit.Below renaming heap_setCell->ah,refl->bc
open Bool renaming false->F,true->aj
open Go.Value renaming slice->ak,string->ze,int->zf
open Go renaming bodyPost_ret->al,Value->an,Calls->ap,Addr->aD,results->aE,maxLen->bb
open Go.World.ownsRow renaming kept->am,lt->ar
open Go.Instr renaming lookup->ao,mapUpdate->za,field->zj
open List renaming take_length->aq,length_append->zb
open Int renaming natCast_mul->au,eq_ofNat_of_zero_le->aC,toNat_natCast->zc
open Nat renaming le_trans->av,lt_irrefl->aP,zero_le->aW
open Or renaming inr->aw,inl->az
open Go.Maps renaming has->ax,size->bq
open Go.Addr renaming block->ay,add_lit->zh
namespace Go.Proofs.YtflpelnbjekjbaaGreatDoor
open Go.Proofs.Tryz
open Go.RowKit
variable {n k b B c r a:Nat}{t u:Int×Int}{S:List (Int×BA)}{v:Yb}{w w' W:World}{x y lv:an}{row:Int×Int->an}{xs J:Int}{D:DataW an}{p:Option aD}{L:List Yb}{blk:Int×Int->Nat}{left:Lit->Bool}{found:Bool}
theorem W8 (pw ps B j c:Nat)(s:BA)(w:World)(U:j<=1000)(hc:c<=100000)(Z:B<=100000)(hw:w.cell? ⟨pw,0,N⟩=aa (.int .i64 (B:Int)))(hs:w.cell? ⟨ps,0,N⟩=aa (.string s)):
 ap prog 203 (#[.int .i64 (j:Int),.int .i64 (c:Int)]++#[.pointer (aa ⟨pw,0,N⟩),.pointer (aa ⟨ps,0,N⟩)]) w fun e J=>e=.returned (.int .u8 ((gN s B j c:Nat):Int))/\J=w:=by
 have H:=Nat.mul_le_mul U Z;have a0:(0:Int)<=(j:Int)*(B:Int):=by rw[<-au];omega
 have a2:(j:Int)*(B:Int)<=100000000:=by rw[<-au];omega
 have a3:IntKind.i64.wrap ((j:Int)*(B:Int))=(j:Int)*(B:Int):=by rw[IntKind.wrap_i64];omega
 have a4:IntKind.i64.wrap ((j:Int)*(B:Int)+(c:Int))=(j:Int)*(B:Int)+(c:Int):=by rw[IntKind.wrap_i64];omega
 by_cases D:j*B+c<s.size
 ·have I:(j:Int)*(B:Int)+(c:Int)<(s.size:Int):=by rw[<-au];omega
  have K:(0:Int)<=(j:Int)*(B:Int)+(c:Int):=by omega
  have O:∀W,Sem.run prog (Instr.index 9 (.string s) (.int .i64 ((j:Int)*(B:Int)+(c:Int)))) W=.ok (.int .u8 ((gN s B j c:Nat):Int)) W:=fun W=>by
   rw[run_index_string W 9 s .i64 _ underlying9,dif_pos ⟨K,I⟩];unfold gN;rw[uD s (j*B+c) D]
   congr 3
  clear D H;generalize gN s B j c=y at O ⊢;go_enter func203,ntmps203;go_wp2;go_ret;exact⟨rfl,rfl⟩
 ·have I:¬(j:Int)*(B:Int)+(c:Int)<(s.size:Int):=by rw[<-au];omega
  rw[VE D];clear D H;go_enter func203,ntmps203;go_wp2;go_ret;exact⟨rfl,rfl⟩
theorem RO (n k:Nat)(s:BA)(z:aD)(w:World)(a2:1<=k)(e4:k<=n)(hn:n<=12)(hs:s.size<=1000)(hz:w.cell? ⟨9,0,N⟩=aa (.iface 301 (.pointer (aa z)))):
 ap prog 170 #[.int .i64 (n:Int),.int .i64 (k:Int),.string s] w fun e w'=>(∃g,w.heap.size<=g/\e=.returned (.tuple #[.slice (aa ⟨g,0,N⟩) n n,.nilIface])/\ZE w' g n (fR k s))/\ac w.heap.size w w':=by
 have e5:=xR (size:=s.size) a2;obtain⟨w1,O⟩:=Xb (w.alloc (.cells #[.string s] 9));have a3:=Zk O;have d6:=QT O;have b0:w1.cell? ⟨w.heap.size,0,N⟩=aa (.string s):=XX O rfl;have HS:=BZ n k s.size z w1 a2 e4 hn hs ((a3.cell (p:=⟨9,0,N⟩) (Qf hz)).trans hz);have b1:Hid _:=O;have b2:Hid _:=a3;have d7:=Jhx n (by omega);clear O a3 hz;go_enter func170,ntmps170;go_wp2_with fail
 rw[<-b1.out];refine HS.mono ?_;rintro e D ⟨⟨gm,rfl,b3⟩,Z⟩;have e6:=Z.size;have b4:D.cell? ⟨w.heap.size,0,N⟩=aa (.string s):=(Z.cell (p:=⟨w.heap.size,0,N⟩) (by show w.heap.size<_;omega)).trans b0;have b5:Hid (QJ D (aa ⟨gm,0,N⟩) (kK k n)):=b3;have b6:Hid (ac w.heap.size w D):=b2.out.trans (Z.mono (by omega));clear HS b3 Z b2 b1 b0;have b7:=fun W=>zM s.size k W a2 (by omega) (by omega)
 have d8:Hid (∀i,fR k s i=((i:Int),Jp (J7 (fun i j=>Gf.aQ (JB k) j i) (gN s (Jk k s.size)) k (Jk k s.size) i))):=fun i=>rfl
 generalize Jk k s.size=H at *;go_wp2_with fail
 refine(b7 _).mono ?_;rintro e d9 ⟨rfl,b8⟩;rw[b8];clear b8 d9 b7;obtain⟨I,U⟩:=Xb (D.alloc (.cells #[.int .i64 (H:Int)] 3));have a0:=Zk U;have e0:=QT U;have c8:I.cell? ⟨w.heap.size,0,N⟩=aa (.string s):=(a0.cell (p:=⟨w.heap.size,0,N⟩) (by show w.heap.size<_;omega)).trans b4;have d0:I.cell? ⟨D.heap.size,0,N⟩=aa (.int .i64 (H:Int)):=XX U rfl;have d1:Hid (ac w.heap.size w I):=b6.out.trans (a0.mono (by omega));have HT:uI I 203 #[.pointer (aa ⟨D.heap.size,0,N⟩),.pointer (aa ⟨w.heap.size,0,N⟩)] (gN s H) k H:=fun j c hj hc B h4 =>
  W8 D.heap.size w.heap.size H j c s B (by omega) (by omega) (by omega) ((h4.cell (p:=⟨D.heap.size,0,N⟩) (by show D.heap.size<_;omega)).trans d0) ((h4.cell (p:=⟨w.heap.size,0,N⟩) (by show w.heap.size<_;omega)).trans c8)
 have HR:=F3 (aa ⟨gm,0,N⟩) n k H n (fun i j=>Gf.aQ (JB k) j i) (gN s H) 203 #[.pointer (aa ⟨D.heap.size,0,N⟩),.pointer (aa ⟨w.heap.size,0,N⟩)] I (by omega) (by omega) a2 (by omega) (by omega) (fun i j=>Gf.bL _ _ _) (fun j c=>DM s H j c) (b5.out.below a0) (enters_of func203 (by kernel_rfl) rfl) HT;have d2:Hid (I=D.alloc (.cells #[.int .i64 (H:Int)] 3)):=U;have e7:D.heap.size<I.heap.size:=by omega
 have e8:w.heap.size<w1.heap.size:=by omega
 clear U a0 HT b5 b6 b4 e0 d6;go_wp2_with fail
 rw[<-d2.out];refine HR.mono ?_;rintro e B ⟨rfl,a4,d3⟩;have e1:Hid (B.rowIs I.heap.size 9 n (fun i=>.string (Jp (J7 (fun i j=>Gf.aQ (JB k) j i) (gN s H) k H i)))):=a4;have a5:Hid (ac w.heap.size w B):=d1.out.trans (d3.mono (by omega));have e2:I.heap.size<B.heap.size:=a4.lt;clear HR a4 d3 d1 d2 c8 d0;go_wp2;have a6:=ZE.made B n;have a7:ac B.heap.size B (B.alloc (.cells (madeCells #[.int .i64 0,.string ⟨#[]⟩] (n*2)) 167)):=bR.alloc nR _;generalize B.alloc (.cells (madeCells #[.int .i64 0,.string ⟨#[]⟩] (n*2)) 167)=w5 at a6 a7 ⊢;have d4:Hid (ZE w5 B.heap.size n (fun _=>(0,⟨#[]⟩))):=a6;have d5:Hid (ac B.heap.size B w5):=a7;clear a6 a7 d7;go_loopw [38] (fun x wr=>∃i:Nat,i<=n/\x=.int .i64 i/\ZE wr B.heap.size n (fun q=>if q<i then fR k s q else(0,⟨#[]⟩))/\ac B.heap.size B wr) (fun x _=>n-(intOf x).toNat)
 case atStart=>exact⟨0,by omega,rfl,d4.out.congr (fun q _=>by simp),d5.out⟩
 case round =>
  obtain⟨i,hi,rfl,hS,hB⟩:=hrel;obtain⟨J,rfl⟩:=Xb wr;have K:Hid (ZE J B.heap.size n (fun q=>if q<i then fR k s q else(0,⟨#[]⟩))):=hS;have HB:Hid (ac B.heap.size B J):=hB;have e9:B.heap.size<J.heap.size:=World.rowIs.lt hS;clear hS hB d4 d5;by_cases a9:i<n
  ·have q0:J.cell? ⟨I.heap.size,i,N⟩=aa (.string (JW k s i)):=by
    rw[HB.out.cell (p:=⟨I.heap.size,i,N⟩) e2,e1.out.cell a9];exact congrArg (fun x:Int×BA=>aa (ze x.2)) (d8.out i).symm
   have q1:J.cell? ⟨B.heap.size,i*2,N⟩=aa (.int .i64 0):=by rw[K.out.at_ a9,if_neg (aP _)]
   have q2:J.cell? ⟨B.heap.size,i*2+1,N⟩=aa (.string ⟨#[]⟩):=by rw[K.out.text a9,if_neg (aP _)]
   have f1:J.frozen? ⟨B.heap.size,i*2,N⟩=false:=World.rowIs.frozen K.out _;have f2:J.frozen? ⟨B.heap.size,i*2+1,N⟩=false:=World.rowIs.frozen K.out _;go_wp2;go_roundw
   case rel =>
    refine⟨i+1,by omega,by go_num,?_,?_⟩
    ·refine(K.out.set i (i:Int) (JW k s i)).congr (fun q _=>?_);by_cases e:q=i
     ·rw[if_pos e,if_pos (by omega),e];rfl
     ·rw[if_neg e];by_cases e':q<i
      ·rw[if_pos e',if_pos (by omega)]
      ·rw[if_neg e',if_neg (by omega)]
    ·exact(HB.out.setCell nR _).setCell nR _
   case measure=>simp[intOf];omega
  ·have e3:i=n:=by omega
   subst e3;go_wp2
   go_ret2
   exact⟨⟨B.heap.size,by have:=a5.out.size;omega,rfl,K.out.congr (fun q hq=>by rw[if_pos hq])⟩,a5.out.trans (HB.out.mono (a5.out.size))⟩
theorem Jql (g:Nat)(x y:Int)(t:BA)(w:World)(D:w.cell? ⟨g,3,N⟩=aa (.int .i64 x)):
 ap prog 188 (#[.agg #[.int .i64 y,.string t]]++#[.pointer (aa ⟨g,0,N⟩)]) w fun e B=>e=.returned (.bool (y==x))/\ac w.heap.size w B:=by
 have H:=Qf D;go_enter func188,ntmps188;go_wp2;go_ret;exact⟨rfl,bR.alloc nR _⟩
def iP (z:Int)(S:List (Int×BA))(v:Yb):Int:=if S=[]then v.size else z
def XN (z:Int)(S:List (Int×BA))(v:Yb):List (Int×BA):=if v.size=iP z S v/\S.any (fun y=>y.1==v.at_)=F then S++ [(v.at_,v.text)]else S
theorem Jqm {S:Int×List (Int×BA)}(H:S.1<0↔S.2=[])(I:v.n=t.1/\v.who=t.2/\YO n k v=aj):ZT n k t S v=(iP (kH S) S.2 v,XN (kH S) S.2 v):=by
 by_cases B:S.1<0
 ·have e:S.2=[]:=H.1 B;rw[ZO (z:=v.size) I (by rw[if_pos B])];unfold XN iP;rw[e];simp
 ·have D:S.2≠[]:=fun e=>B (H.2 e)
  rw[ZO (z:=S.1) I (by rw[if_neg B])];unfold XN iP kH;rw[if_neg D,if_neg D]
structure YK (w:World) (b:Nat) (x y:an):Prop where
 c0:w.cell? ⟨b,0,N⟩=aa x
 c1:w.cell? ⟨b,1,N⟩=aa y
 f0:w.frozen? ⟨b,0,N⟩=F
 f1:w.frozen? ⟨b,1,N⟩=F
theorem YK.below (h:YK w b x y)(D:ac w.heap.size w w'):YK w' b x y :=
 have B:=Qf h.c0
 ⟨(D.cell (p:=(pA b 0)) B).trans h.c0,(D.cell (p:=(pA b 1)) B).trans h.c1,(D.frozen (p:=(pA b 0)) B).trans h.f0,(D.frozen (p:=(pA b 1)) B).trans h.f1⟩
theorem YK.grown {row:Option Nat}(h:YK w b x y)(B:w.grownBy w' row)(D:aa b≠row):YK w' b x y :=
 have e:=B.block b (Qf h.c0) D
 ⟨(ae (a:=(pA b 0)) e).trans h.c0,(ae (a:=(pA b 1)) e).trans h.c1,(aF (a:=(pA b 0)) e).trans h.f0,(aF (a:=(pA b 1)) e).trans h.f1⟩
theorem YK.eJ (h:YK w b x y)(v:an):YK (w.setCell ⟨b,0,N⟩ v) b v y :=
 ⟨aB _ _ _ h.c0,(af _ _ _ _ (fun e=>by have B:(0:Nat)=1:=congrArg Addr.off e;omega)).trans h.c1,by simp[h.f0],by simp[h.f1]⟩
theorem YK.eM (h:YK w b x y)(v:an):YK (w.setCell ⟨b,1,N⟩ v) b x v :=
 ⟨(af _ _ _ _ (fun e=>by have B:(1:Nat)=0:=congrArg Addr.off e;omega)).trans h.c0,aB _ _ _ h.c1,by simp[h.f0],by simp[h.f1]⟩
theorem YK.other (h:YK w b x y)(a:aD)(v:an)(B:b≠a.block):YK (w.setCell a v) b x y :=
 ⟨(af _ _ _ _ (fun e=>B (congrArg ay e).symm)).trans h.c0,(af _ _ _ _ (fun e=>B (congrArg ay e).symm)).trans h.c1,by simp[h.f0],by simp[h.f1]⟩
theorem pT {row:Option Nat}(h:w.grownBy W row)(a:aD)(v:an)(H:w.heap.size<=a.block):w.grownBy (W.setCell a v) row :=
 ⟨h.os,h.tape,h.output,by simp[aA];exact h.size,fun k B D=>(ah W a v k (by omega)).trans (h.block k B D)⟩
theorem oM {T:TypeId}{row:an}{xs:List an}(h:w.ownsRow B T 2 row n xs)(a:aD)(v:an)(H:row.ownBlock≠aa a.block):(w.setCell a v).ownsRow B T 2 row n xs :=
 am (row:=aa a.block) h ⟨rfl,rfl,rfl,by simp[aA],fun k _ D=>ah w a v k (fun e=>D (by rw[e]))⟩ (aw H)
theorem SJ (l:List (Int×BA))(x:Int×BA):Js (l++ [x])=Js l++ [.int .i64 x.1,.string x.2]:=by simp[Js]
structure V3 (w:World) (b:Nat) (xs xa:Int) (xt:BA):Prop where
 c2:w.cell? ⟨b,2,N⟩=aa (.int .i64 xs)
 c3:w.cell? ⟨b,3,N⟩=aa (.int .i64 xa)
 c4:w.cell? ⟨b,4,N⟩=aa (.string xt)
theorem V3.block {B:Int}{D:BA}(h:V3 w b xs B D)(e:w'.heap[b]?=w.heap[b]?):V3 w' b xs B D :=
 ⟨(ae (a:=(pA b 2)) e).trans h.c2,(ae (a:=(pA b 3)) e).trans h.c3,(ae (a:=(pA b 4)) e).trans h.c4⟩
theorem V3.below {B:Int}{D:BA}(h:V3 w b xs B D)(H:ac w.heap.size w w'):V3 w' b xs B D:=h.block (H.block b (Qf h.c2))
structure iB (w W:World) (B:Nat) (p:Option aD) (S:List (Int×BA)) (c:Nat) (zv xs xa:Int) (xt:BA):Prop where
 A:YK W w.heap.size (.int .i64 zv) (.slice p S.length c)
 V:V3 W (w.heap.size+1) xs xa xt
 R:YK W (w.heap.size+1+1) (.int .i64 0) (.slice N 0 0)
 own:W.ownsRow B 167 2 (.slice p S.length c) S.length (Js S)
 g:ac w.heap.size w W
 sz:w.heap.size+1+1+1<=W.heap.size
theorem iB.below {H:World}{I:Int}{K:BA}(h:iB w W B p S c I xs J K)(D:ac W.heap.size W H):iB w H B p S c I xs J K :=
 ⟨h.A.below D,h.V.below D,h.R.below D,am (row:=N) h.own (QD D N) (by cases (ak p S.length c).ownBlock<;>simp),h.g.trans (D.mono h.g.size),av h.sz D.size⟩
theorem iB.vO {D:Int}{H:BA}(h:iB w W B p S c J xs D H)(K:∀g,(ak p S.length c).ownBlock=aa g->g<w.heap.size)(I:Int):iB w (W.setCell ⟨w.heap.size,0,N⟩ (.int .i64 I)) B p S c I xs D H :=
 ⟨h.A.eJ _,h.V.block (ah W _ _ _ (by show w.z+1≠w.z;omega)),h.R.other _ _ (by show w.z+1+1≠w.z;omega),oM h.own _ _ (fun e=>by have:=K _ e;simp at this),h.g.setCell nR _,by simpa[aA]using h.sz⟩
def q8 (B:Nat)(z:Int)(S:List (Int×BA))(v:Yb)(row:an)(w:World)(e:Ending)(w':World):Prop :=
 ∃D,e=.returned (.agg #[.int .i64 (iP z S v),D])/\w'.ownsRow B 167 2 D (XN z S v).length (Js (XN z S v))/\w.grownBy w' row.ownBlock/\(D.ownBlock=row.ownBlock∨∃g,D.ownBlock=aa g/\w.heap.size<=g)/\∃p c,D=.slice p (XN z S v).length c
theorem Jr1 (z:Int)(S:List (Int×BA))(row:an)(v:Yb)(B:Nat)(w:World)(hl:S.length<=1000)(e7:w.ownsRow B 167 2 row S.length (Js S))(hB:B<=w.heap.size):
 ap prog 160 #[.agg #[.int .i64 z,row],.agg #[.int .i64 v.n,.int .i64 v.who,.int .i64 v.size,.int .i64 v.at_,.string v.text]] w (q8 B z S v row w):=by
 obtain⟨i1,g0,g1,g2,g3⟩:=info_parts vH;obtain⟨p,c,rfl,h9⟩:=nL e7;have g4:∀g,(ak p S.length c).ownBlock=aa g->g<w.heap.size:=fun g hg=>(ar e7 g hg).2
 obtain⟨J,K,xs,D,H⟩:=v;have i0:∃w3,w3=((w.alloc (.cells #[.int .i64 z,.slice p S.length c] 212)).alloc (.cells #[.int .i64 J,.int .i64 K,.int .i64 xs,.int .i64 D,.string H] 169)).alloc (.cells #[.int .i64 0,.slice N 0 0] 212)/\iB w w3 B p S c z xs D H:=by
  obtain⟨w1,d8⟩:=Xb (w.alloc (.cells #[.int .i64 z,.slice p S.length c] 212));obtain⟨w2,d9⟩:=Xb (w1.alloc (.cells #[.int .i64 J,.int .i64 K,.int .i64 xs,.int .i64 D,.string H] 169));obtain⟨w3,b4⟩:=Xb (w2.alloc (.cells #[.int .i64 0,.slice N 0 0] 212));have e1:=QT d8;have e2:w2.heap.size=w.heap.size+1+1:=by rw[d9,<-e1];simp
  have e3:w3.heap.size=w.heap.size+1+1+1:=by rw[b4,<-e2];simp
  have g5:=Zk d8;have g6:=Zk d9;have g7:=Zk b4;have g8:=g6.trans (g7.mono g6.size);have g9:=g5.trans (g8.mono g5.size);have i2:YK w1 w.heap.size (.int .i64 z) (.slice p S.length c):=by
   rw[d8];exact⟨by rw[ab _ _ _ _ rfl];rfl,by rw[ab _ _ _ _ rfl];rfl,ai _ _ _ _ rfl,ai _ _ _ _ rfl⟩
  have hR:YK w3 (w.heap.size+1+1) (.int .i64 0) (.slice N 0 0):=by
   rw[b4];exact⟨by rw[ab _ _ _ _ e2.symm];rfl,by rw[ab _ _ _ _ e2.symm];rfl,ai _ _ _ _ e2.symm,ai _ _ _ _ e2.symm⟩
  have i3:V3 w2 (w.heap.size+1) xs D H:=by
   rw[d9];exact⟨by rw[ab _ _ _ _ e1.symm];rfl,by rw[ab _ _ _ _ e1.symm];rfl,by rw[ab _ _ _ _ e1.symm];rfl⟩
  exact⟨w3,by rw[b4,d9,d8],i2.below g8,i3.below g7,hR,am (row:=N) e7 (QD g9 N) (by cases (ak p S.length c).ownBlock<;>simp),g9,by omega⟩
 obtain⟨w3,b4,h0⟩:=i0;have b3:Hid _:=b4;have a3:Hid _:=h0;have b7:Hid _:=g4;have d0:Hid (∀W U,iB w W B p S c U xs D H->ap prog 162 #[.slice p S.length c,.func (.func 188) #[] #[.pointer (aa (pA (w.heap.size+1) 0))]] W fun e w'=>e=.returned (.bool (S.any fun y=>y.1==D))/\ac W.heap.size W w'):=fun W U Z=>by
  obtain⟨p',c',h2,i4⟩:=nL Z.own;simp at h2;obtain⟨rfl,rfl⟩:=h2;exact vE p S c 188 #[.pointer (aa (pA (w.heap.size+1) 0))] (fun y=>y.1==D) W (by omega) i4 (enters_of func188 (by kernel_rfl) rfl) (fun i hi w1 h1=>Jql (w.heap.size+1) D (Ji S i).1 (Ji S i).2 w1 (Z.V.below h1).c3)
 have b8:Hid (∀W U,iB w W B p S c U xs D H->iP z S ⟨J,K,xs,D,H⟩=U->XN z S ⟨J,K,xs,D,H⟩=S->q8 B z S ⟨J,K,xs,D,H⟩ (.slice p S.length c) w (.returned (.agg #[.int .i64 U,.slice p S.length c])) ((W.setCell (pA (w.heap.size+1+1) 0) (.int .i64 U)).setCell (pA (w.heap.size+1+1) 1) (.slice p S.length c))):=fun W U Z hz hs=>by
  refine⟨.slice p S.length c,by rw[hz],?_,?_,az rfl,p,c,by rw[hs]⟩
  ·rw[hs];exact oM (oM Z.own _ _ (fun e=>by have:w.heap.size+1+1<w.heap.size:=b7.out _ e;omega)) _ _ (fun e=>by have:w.heap.size+1+1<w.heap.size:=b7.out _ e;omega)
  ·exact pT (pT (QD Z.g _) _ _ (by show w.heap.size<=w.heap.size+1+1;omega)) _ _ (by show w.heap.size<=w.heap.size+1+1;omega)
 have e0:Hid (∀W U v6 O,iB w W B p S c U xs D H->iP z S ⟨J,K,xs,D,H⟩=U->XN z S ⟨J,K,xs,D,H⟩=S++ [(D,H)]->O.ownsRow B 167 2 v6 (S.length+1) (Js S++ [.int .i64 D,.string H])->W.grownBy O (ak p S.length c).ownBlock->(v6.ownBlock=(ak p S.length c).ownBlock∨v6.ownBlock=aa W.heap.size) ->
  (∃p6 c6,v6=.slice p6 (S.length+1) c6)/\YK O w.heap.size (.int .i64 U) (.slice p S.length c)/\YK O (w.heap.size+1+1) (.int .i64 0) (.slice N 0 0)/\q8 B z S ⟨J,K,xs,D,H⟩ (.slice p S.length c) w (.returned (.agg #[.int .i64 U,v6])) (((O.setCell (pA w.heap.size 1) v6).setCell (pA (w.heap.size+1+1) 0) (.int .i64 U)).setCell (pA (w.heap.size+1+1) 1) v6)):=fun W U v6 O Z hz hs hO hg h3=>by
  have h4:(S++ [(D,H)]).length=S.length+1:=by simp
  have h5:O.ownsRow B 167 2 v6 (S++ [(D,H)]).length (Js (S++ [(D,H)])):=by rw[SJ,h4];exact hO
  obtain⟨p6,c6,h6,_⟩:=nL h5;have i5:aa w.heap.size≠(ak p S.length c).ownBlock:=fun e=>by have:=b7.out _ e.symm;omega
  have i8:aa (w.heap.size+1+1)≠(ak p S.length c).ownBlock:=fun e=>by have:=b7.out _ e.symm;omega
  have k2:=Z.sz;have hv:∀q,q=w.heap.size∨q=w.heap.size+1+1->v6.ownBlock≠aa q:=fun q hq e=>by
   rcases h3 with h|h
   ·rw[h]at e;have:=b7.out _ e;omega
   ·rw[h]at e;injection e with e
    omega
  refine⟨⟨p6,c6,by rw[h6,h4]⟩,Z.A.grown hg i5,Z.R.grown hg i8,v6,by rw[hz],?_,?_,?_,p6,c6,by rw[hs];exact h6⟩
  ·rw[hs];exact oM (oM (oM h5 _ _ (hv _ (az rfl))) _ _ (hv _ (aw rfl))) _ _ (hv _ (aw rfl))
  ·have i9:w.grownBy O (ak p S.length c).ownBlock:=⟨hg.os.trans Z.g.os,hg.tape.trans Z.g.tape,hg.output.trans Z.g.output,av Z.g.size hg.size,fun k hk j1=>(hg.block k (Nat.lt_of_lt_of_le hk Z.g.size) j1).trans (Z.g.block k hk)⟩;exact pT (pT (pT i9 _ _ nR) _ _ (by show w.heap.size<=w.heap.size+1+1;omega)) _ _ (by show w.heap.size<=w.heap.size+1+1;omega)
  ·rcases h3 with h|h
   ·exact az h
   ·exact aw ⟨_,h,by omega⟩
 have h7:=hB;clear b4 h0 h9 e7 g4 hB;have a0:=a3.out.A.c0;have a1:=a3.out.A.c1;have e4:=a3.out.A.f0;have v2:=a3.out.V.c2;by_cases hS:S=[]
 ·have HZ:Hid (iP z S ⟨J,K,xs,D,H⟩=xs):=by show iP _ _ _=_;unfold iP;rw[if_pos hS]
  have HY:Hid (XN z S ⟨J,K,xs,D,H⟩=S++ [(D,H)]):=by
   show XN _ _ _=_;unfold XN;rw[HZ.out,if_pos ⟨rfl,by rw[hS];rfl⟩]
  have HN:Hid (S.any (fun y=>y.1==D)=F):=by show _=_;rw[hS];rfl
  rw[HN.out]at d0;have e5:(S.length:Int)=0:=by rw[hS];rfl
  have b0:((S.length:Int)==0)=true:=by rw[e5];rfl
  have d2:Hid _:=a3.out.vO b7.out xs;have a7:=d0.out _ _ d2.out;obtain⟨w4,e8⟩:=Xb (w3.setCell (pA w.heap.size 0) (.int .i64 xs));rw[<-e8]at a7 d2;have h8:Hid _:=e8;have d1:=d2.out.A.c1;clear e8 hS e5 HN;go_enter func160,ntmps160;go_wp2_with (first|rw[<-b3.out]|rw[<-h8.out])
  refine a7.mono ?_;rintro e w5 ⟨rfl,a5⟩;have I:=d2.out.below a5;clear a0 a1 e4 v2 d1 a5 a7 d0 a3 d2 b3 h8 b8;have a0:=I.A.c0;have a1:=I.A.c1;have v2:=I.V.c2;have v3:=I.V.c3;have v4:=I.V.c4;obtain⟨O,a9⟩:=Xb (w5.alloc (.cells #[.int .i64 D,.string H] 167));have b5:Hid (iB w O B p S c xs xs D H):=by show iB _ _ _ _ _ _ _ _ _ _;rw[a9];exact I.below (bR.alloc nR _)
  have e9:Hid (∀(j:Nat) (u:an),[zf .i64 D,ze H][j]?=aa u->O.cell? (((pA w5.heap.size 0):aD).add j)=aa u):=fun j u hj=>by
   rw[a9,zh]
   match j,hj with
   |0,hj=>(simp at hj;subst hj;rw[ab _ _ _ _ rfl];rfl)
   |1,hj=>(simp at hj;subst hj;rw[ab _ _ _ _ rfl];rfl)
  have f3:Hid _:=av h7 b5.out.g.size;have f4:Hid _:=a9;have f5:Hid _:=b5.out.own;clear a9 I;go_wp2_with (first|rw[<-f4.out]|(at_builtin;refine EW rfl (.tmp 27) (.tmp 30) 210 rfl B 167 i1 (.agg #[.int .i64 0,.string ⟨#[]⟩]) 2 24 underlying210 g0 g1 g2 g3 rfl (by decide) (.slice p S.length c) S.length (Js S) rfl f5.out (pA w5.heap.size 0) 1 1 [.int .i64 D,.string H] rfl rfl e9.out (fun u hu=>by simp at hu;rcases hu with rfl|rfl<;>rfl) (by unfold bb;omega) (by omega) f3.out (by decide) ?_;intro v7 w7 d3 d4 d5;obtain⟨⟨p7,c7,f6⟩,a6,d6,d7⟩:=e0.out O xs v7 w7 b5.out HZ.out HY.out d3 d4 d5;subst f6;have b2:Hid (q8 B z S ⟨J,K,xs,D,H⟩ (.slice p S.length c) w (.returned (.agg #[.int .i64 xs,.slice p7 (S.length+1) c7])) (((w7.setCell (pA w.heap.size 1) (.slice p7 (S.length+1) c7)).setCell (pA (w.heap.size+1+1) 0) (.int .i64 xs)).setCell (pA (w.heap.size+1+1) 1) (.slice p7 (S.length+1) c7))):=d7;have b6:=a6.eM (.slice p7 (S.length+1) c7);have a4:=d6.other (pA w.heap.size 1) (.slice p7 (S.length+1) c7) (by show w.heap.size+1+1≠w.heap.size;omega);have a2:=(a4.eJ (.int .i64 xs)).eM (.slice p7 (S.length+1) c7);have a0:=a6.c0;have a1:=a6.c1;have j2:=a6.f1;have m0:=b6.c0;have m1:=b6.c1;have r0:=a4.c0;have r1:=a4.c1;have f7:=a4.f0;have f8:=a4.f1;have k0:=a2.c0;have k1:=a2.c1;clear d3 d4 d5 a6 d6 d7 b6 a4 a2))
  exact al (v:=.agg #[.int .i64 xs,.slice p7 (S.length+1) c7]) (by simp[aE,results160,go_sem,k0,k1]) rfl b2.out
 ·have HZ:Hid (iP z S ⟨J,K,xs,D,H⟩=z):=by show iP _ _ _=_;unfold iP;rw[if_neg hS]
  have e5:¬(S.length:Int)=0:=fun h=>hS (List.length_eq_zero_iff.1 (by omega))
  have b0:((S.length:Int)==0)=false:=by rw[beq_eq_false_iff_ne];exact e5
  have a7:=d0.out _ _ a3.out;have c8:Hid (XN z S ⟨J,K,xs,D,H⟩=if xs=z/\S.any (fun y=>y.1==D)=F then S++ [(D,H)]else S):=by show XN _ _ _=_;unfold XN;rw[HZ.out]
  clear hS d0;generalize (S.any fun y=>y.1==D)=th at *;cases th with
  |true =>
   have HY:Hid (XN z S ⟨J,K,xs,D,H⟩=S):=by show XN _ _ _=_;rw[c8.out,if_neg (fun h=>by cases h.2)]
   clear c8 e0;go_enter func160,ntmps160;go_wp2_with (rw[<-b3.out])
   refine a7.mono ?_;rintro e w5 ⟨rfl,a5⟩;have I:=a3.out.below a5;clear a0 a1 e4 v2 a5 a7 a3 b3;have b2:=b8.out w5 z I HZ.out HY.out;have a2:=(I.R.eJ (.int .i64 z)).eM (.slice p S.length c);have a0:=I.A.c0;have a1:=I.A.c1;have r0:=I.R.c0;have r1:=I.R.c1;have f7:=I.R.f0;have f8:=I.R.f1;have k0:=a2.c0;have k1:=a2.c1;have f9:Hid _:=b2;clear I a2 b2 b8;go_wp2;exact al (v:=.agg #[.int .i64 z,.slice p S.length c]) (by simp[aE,results160,go_sem,k0,k1]) rfl f9.out
  |false =>
   by_cases e6:xs=z
   ·have HY:Hid (XN z S ⟨J,K,xs,D,H⟩=S++ [(D,H)]):=by show XN _ _ _=_;rw[c8.out,if_pos ⟨e6,rfl⟩]
    clear c8 b8;subst e6;have b1:=beq_self_eq_true xs;go_enter func160,ntmps160;go_wp2_with (rw[<-b3.out])
    refine a7.mono ?_;rintro e w5 ⟨rfl,a5⟩;have I:=a3.out.below a5;clear a0 a1 e4 v2 a5 a7 a3 b3;have a0:=I.A.c0;have a1:=I.A.c1;have v2:=I.V.c2;have v3:=I.V.c3;have v4:=I.V.c4;obtain⟨O,a9⟩:=Xb (w5.alloc (.cells #[.int .i64 D,.string H] 167));have b5:Hid (iB w O B p S c xs xs D H):=by show iB _ _ _ _ _ _ _ _ _ _;rw[a9];exact I.below (bR.alloc nR _)
    have e9:Hid (∀(j:Nat) (u:an),[zf .i64 D,ze H][j]?=aa u->O.cell? (((pA w5.heap.size 0):aD).add j)=aa u):=fun j u hj=>by
     rw[a9,zh]
     match j,hj with
     |0,hj=>(simp at hj;subst hj;rw[ab _ _ _ _ rfl];rfl)
     |1,hj=>(simp at hj;subst hj;rw[ab _ _ _ _ rfl];rfl)
    have f3:Hid _:=av h7 b5.out.g.size;have f4:Hid _:=a9;have f5:Hid _:=b5.out.own;clear a9 I;go_wp2_with (first|rw[<-f4.out]|(at_builtin;refine EW rfl (.tmp 27) (.tmp 30) 210 rfl B 167 i1 (.agg #[.int .i64 0,.string ⟨#[]⟩]) 2 24 underlying210 g0 g1 g2 g3 rfl (by decide) (.slice p S.length c) S.length (Js S) rfl f5.out (pA w5.heap.size 0) 1 1 [.int .i64 D,.string H] rfl rfl e9.out (fun u hu=>by simp at hu;rcases hu with rfl|rfl<;>rfl) (by unfold bb;omega) (by omega) f3.out (by decide) ?_;intro v7 w7 d3 d4 d5;obtain⟨⟨p7,c7,f6⟩,a6,d6,d7⟩:=e0.out O xs v7 w7 b5.out HZ.out HY.out d3 d4 d5;subst f6;have b2:Hid (q8 B xs S ⟨J,K,xs,D,H⟩ (.slice p S.length c) w (.returned (.agg #[.int .i64 xs,.slice p7 (S.length+1) c7])) (((w7.setCell (pA w.heap.size 1) (.slice p7 (S.length+1) c7)).setCell (pA (w.heap.size+1+1) 0) (.int .i64 xs)).setCell (pA (w.heap.size+1+1) 1) (.slice p7 (S.length+1) c7))):=d7;have b6:=a6.eM (.slice p7 (S.length+1) c7);have a4:=d6.other (pA w.heap.size 1) (.slice p7 (S.length+1) c7) (by show w.heap.size+1+1≠w.heap.size;omega);have a2:=(a4.eJ (.int .i64 xs)).eM (.slice p7 (S.length+1) c7);have a0:=a6.c0;have a1:=a6.c1;have j2:=a6.f1;have m0:=b6.c0;have m1:=b6.c1;have r0:=a4.c0;have r1:=a4.c1;have f7:=a4.f0;have f8:=a4.f1;have k0:=a2.c0;have k1:=a2.c1;clear d3 d4 d5 a6 d6 d7 b6 a4 a2))
    exact al (v:=.agg #[.int .i64 xs,.slice p7 (S.length+1) c7]) (by simp[aE,results160,go_sem,k0,k1]) rfl b2.out
   ·have HY:Hid (XN z S ⟨J,K,xs,D,H⟩=S):=by show XN _ _ _=_;rw[c8.out,if_neg (fun h=>e6 h.1)]
    have b1:(xs==z)=false:=by rw[beq_eq_false_iff_ne];exact e6
    clear c8 e0;go_enter func160,ntmps160;go_wp2_with (rw[<-b3.out])
    refine a7.mono ?_;rintro e w5 ⟨rfl,a5⟩;have I:=a3.out.below a5;clear a0 a1 e4 v2 a5 a7 a3 b3;have b2:=b8.out w5 z I HZ.out HY.out;have a2:=(I.R.eJ (.int .i64 z)).eM (.slice p S.length c);have a0:=I.A.c0;have a1:=I.A.c1;have v2:=I.V.c2;have r0:=I.R.c0;have r1:=I.R.c1;have f7:=I.R.f0;have f8:=I.R.f1;have k0:=a2.c0;have k1:=a2.c1;have f9:Hid _:=b2;clear I a2 b2 b8;go_wp2;exact al (v:=.agg #[.int .i64 z,.slice p S.length c]) (by simp[aE,results160,go_sem,k0,k1]) rfl f9.out
theorem JqV (a b:Int):YM a b=k9 a b:=by
 unfold YM k9;by_cases B:0<=a<;>by_cases D:a<=1099511627776<;>by_cases H:0<=b<;>by_cases I:b<=1099511627776<;>simp[B,D,H,I]
theorem T8 (n k:Nat)(v:Yb):YO n k v=(YM v.n v.who&&gS n k v.size v.at_ v.text):=by
 rw[JqV];rfl
theorem JhR {j:Nat}(h:j<L.length):L.take (j+1)=L.take j++ [Xd L j]:=by rw[List.take_add_one,Xx h];rfl
def ZN (w:World)(B b n k:Nat)(L:List Yb):Prop:=∃D row blk,Y1 w B b n k L D row blk
theorem ZN.below (h:ZN w B b n k L)(H:ac w.heap.size w w'):ZN w' B b n k L:=by
 obtain⟨D,row,blk,h⟩:=h;exact⟨D,row,blk,h.below H⟩
theorem ZN.pass (h:ZN w B b n k L)(H:YO n k v=F):ZN w B b n k (L++ [v]):=by
 obtain⟨D,row,blk,h⟩:=h;exact⟨D,row,blk,h.pass H⟩
theorem ZN.step (h:ZN w B b n k L)(hc:YO n k v=aj)(K:Jr (v.n,v.who))(hl:L.length<=1000):
 ∃(I:an) (sz:Int),(∀W,ac w.heap.size w W->(ao 208 (.map (aa b)) (.agg #[.int .i64 v.n,.int .i64 v.who]) F).run prog W=.ok (.agg #[.int .i64 sz,I]) W)/\(∀g,I.ownBlock=aa g->g<w.heap.size) /\
  ∀W,ac w.heap.size w W->ap prog 160 #[.agg #[.int .i64 sz,I],.agg #[.int .i64 v.n,.int .i64 v.who,.int .i64 v.size,.int .i64 v.at_,.string v.text]] W fun e O=>∃rv H,e=.returned rv/\W.grownBy O I.ownBlock/\(za 208 (.map (aa b)) (.agg #[.int .i64 v.n,.int .i64 v.who]) rv).run prog O=.ok () H/\ac B W H/\ZN H B b n k (L++ [v]):=by
 obtain⟨D,row,blk,h⟩:=h;have a0:=xU (n:=n) (k:=k) (t:=(v.n,v.who)) L L.length;rw[aq]at a0;have a2:=Jqm (BR (n:=n) (k:=k) (t:=(v.n,v.who)) L) (v:=v) (⟨rfl,rfl,hc⟩:v.n=((v.n,v.who):Int×Int).1/\v.who=((v.n,v.who):Int×Int).2/\YO n k v=aj);refine⟨row (v.n,v.who),kH (Zf n k (v.n,v.who) L),fun W U=>(h.below U).look K,fun g J=>(ar (h.own _ K) g J).2,fun W U=>?_⟩;have Z:=h.below U;have hB:=av h.aO (Nat.le_of_lt Z.lt);refine(Jr1 (kH (Zf n k (v.n,v.who) L)) (Zf n k (v.n,v.who) L).2 (row (v.n,v.who)) v B W (by omega) (Z.own _ K) hB).mono ?_;rintro e O ⟨a6,rfl,hO,J,a3,hf⟩;obtain⟨H,a4,a5,D',r',b',hT⟩:=Z.put hc K hB a2.symm J hO a3 hf (by omega);exact⟨_,H,rfl,J,a4,a5,D',r',b',hT⟩
theorem Jo9 (n k:Nat)(p0:Option aD)(l0 c0:Nat)(p:Option aD)(LL:List (List Yb))(cap:Nat)(w:World)(n5:1<=k)(n6:k<=n)(hn:n<=12)(hl:LL.length<=1000)(o3:LL.flatten.length<=1000)(hL:eU w p LL)(i5:∀v∈LL.flatten,Jr (v.n,v.who)):
 ap prog 136 #[.agg #[.int .i64 (n:Int),.int .i64 (k:Int),.slice p0 l0 c0],.slice p LL.length cap] w fun e w'=>(∃b,e=.returned (.map (aa b))/\ZN w' (w.heap.size+1) b n k LL.flatten)/\ac w.heap.size w w':=by
 obtain⟨B,a7⟩:=Xb (w.alloc (.cells #[.int .i64 (n:Int),.int .i64 (k:Int),.slice p0 l0 c0] 58));have e0:B.z=w.z+1:=by rw[a7];simp
 have b5:=Zk a7;have f0:B.cell? (pA w.z 0)=aa (.int .i64 (n:Int)):=XX a7 rfl;have f1:B.cell? (pA w.z 1)=aa (.int .i64 (k:Int)):=XX a7 rfl;obtain⟨w1,b6⟩:=Xb (B.alloc (.map #[] 0));have e2:Hid (ZN w1 B.z B.z n k []):=by show ZN _ _ _ _ _ _;rw[b6];exact⟨_,_,_,W5 B n k⟩
 have e9:=Zk b6;have f3:Hid (ac B.z B w1):=e9;have i8:Hid (B=w.alloc (.cells #[.int .i64 (n:Int),.int .i64 (k:Int),.slice p0 l0 c0] 58)):=a7;have b7:Hid (∀W,ac B.z B W->W.cell? (pA w.z 0)=aa (.int .i64 (n:Int))/\W.cell? (pA w.z 1)=aa (.int .i64 (k:Int))/\eU W p LL/\ac w.z w W):=fun W J=>by
  have a3:w.z<B.z:=by omega
  exact⟨(J.cell (p:=(pA w.z 0)) a3).trans f0,(J.cell (p:=(pA w.z 1)) a3).trans f1,(hL.below b5).below J,b5.trans (J.mono b5.size)⟩
 have n7:Hid (B.z=w.z+1):=e0;have f4:Hid (∀v∈LL.flatten,Jr (v.n,v.who)):=i5;have f5:Hid (∀i,i<LL.length->(LL.take (i+1)).flatten=(LL.take i).flatten++LL.getD i []):=fun i hi=>JfJ hi
 have f6:Hid (∀i,(LL.take i).flatten.length<=LL.flatten.length):=fun i=>OG LL i
 have f7:Hid (LL.take LL.length=LL):=aq;rw[<-e0];obtain⟨b,hb⟩:=Xb B.z;have f8:Hid (b=B.z):=hb;have i9:(Instr.makeMap 208 N).run prog B=.ok (.map (aa b)) w1:=by rw[hb,b6];kernel_rfl
 rw[<-hb]at e2;have n8:Hid (w.z+1=b):=by show _=_;rw[hb,e0]
 clear a7 b6 b5 e9 f0 f1 e0 hL i5 hb;go_enter func136,ntmps136;go_wp2_with (rw[<-i8.out])
 clear i9;go_loopw [13] (fun x wr=>∃i:Nat,i<=LL.length/\x=.int .i64 i/\ZN wr b b n k (LL.take i).flatten/\ac B.z B wr) (fun x _=>LL.length-(intOf x).toNat)
 case atStart=>exact⟨0,aW _,rfl,e2.out,f3.out⟩
 case round =>
  obtain⟨i,hi,rfl,hT,hB⟩:=hrel;obtain⟨w2,rfl⟩:=Xb wr;have b8:Hid (ZN w2 b b n k (LL.take i).flatten):=hT;have e3:Hid (ac B.z B w2):=hB;clear hT hB e2 f3;by_cases a9:i<LL.length
  ·have f9:Hid ((LL.take (i+1)).flatten=(LL.take i).flatten++LL.getD i []):=f5.out i a9;have n9:(LL.take i).flatten.length+(LL.getD i []).length<=1000:=by
    have h1:=f6.out (i+1);rw[f9.out,zb]at h1;omega
   have j1:Hid (∀v∈LL.getD i [],Jr (v.n,v.who)):=fun v hv=>f4.out v (by
    rw[<-f7.out];rw[List.getD_eq_getElem?_getD,List.getElem?_eq_getElem a9]at hv;rw[aq];exact List.mem_flatten.2 ⟨_,List.getElem_mem a9,hv⟩)
   rcases(b7.out B bR).2.2.1 with h0|⟨bl,ol,e4,j2,g2⟩
   ·rw[h0]at a9;simp at a9
   obtain⟨q,cq,g3,g4,o1,k5⟩:=g2 i a9;have k6:Hid (∀W,ac B.z B W->Ql Ze W q (LL.getD i [])):=fun W J=>g4.below J
   have k7:w2.cell? (pA bl (ol+i))=aa (.slice q (LL.getD i []).length cq):=(e3.out.cell (p:=(pA bl (ol+i))) j2).trans g3;subst e4;clear g2 g4 k5 g3 f5 f6 f4;generalize LL.getD i []=D at *;generalize (LL.take i).flatten=a0 at *;go_wp2;go_loopw [19] (fun x wr=>∃j:Nat,j<=D.length/\x=.int .i64 j/\ZN wr b b n k (a0++D.take j)/\ac B.z B wr) (fun x _=>D.length-(intOf x).toNat)
   case atStart=>exact⟨0,aW _,rfl,by rw[List.take_zero,List.append_nil];exact b8.out,e3.out⟩
   case round =>
    obtain⟨j,hj,rfl,hT,hB⟩:=hrel;have hR:=k6.out wr hB;obtain⟨H,rfl⟩:=Xb wr;have c8:Hid (ZN H b b n k (a0++D.take j)):=hT;have d5:Hid (ac B.z B H):=hB;have g5:Hid (Ql Ze H q D):=hR;clear hT hB hR b8 k7;by_cases e5:j<D.length
    ·have g6:Hid (D.take (j+1)=D.take j++ [Xd D j]):=JhR e5;have g7:Jr ((Xd D j).n,(Xd D j).who):=j1.out _ (by have:=Xx e5;exact List.mem_of_getElem? this);obtain⟨b',o',e4,o2,d0,d1,d2,d3,d4⟩:=QU g5.out e5;subst e4;have l7:(a0++D.take j).length<=1000:=by rw[zb,List.length_take];omega
     have a4:Hid (YO n k (Xd D j)=(YM (Xd D j).n (Xd D j).who&&gS n k (Xd D j).size (Xd D j).at_ (Xd D j).text)):=T8 n k _;have e6:Hid (Jr ((Xd D j).n,(Xd D j).who)):=g7;have e7:Hid (∀W,ZN W b b n k ((a0++D.take j)++ [Xd D j])->ZN W b b n k (a0++D.take (j+1))):=fun W h=>by rw[g6.out,<-List.append_assoc];exact h
     clear g7 g6;generalize Xd D j=x at *;generalize a0++D.take j=done at *;obtain⟨K,O,xs,U,Z⟩:=x;dsimp only at d0 d1 d2 d3 d4 a4 e6;obtain⟨I,d6⟩:=Xb (H.alloc (.cells #[.int .i64 K,.int .i64 O,.int .i64 xs,.int .i64 U,.string Z] 169));have a5:=Zk d6;have a6:Hid (I.cell? (pA H.z 0)=aa (.int .i64 K)/\I.cell? (pA H.z 1)=aa (.int .i64 O)/\I.cell? (pA H.z 2)=aa (.int .i64 xs)/\I.cell? (pA H.z 3)=aa (.int .i64 U)/\I.cell? (pA H.z 4)=aa (.string Z)):=by
      rw[d6];exact⟨by rw[ab _ _ _ _ rfl];rfl,by rw[ab _ _ _ _ rfl];rfl,by rw[ab _ _ _ _ rfl];rfl,by rw[ab _ _ _ _ rfl];rfl,by rw[ab _ _ _ _ rfl];rfl⟩
     have g8:Hid (I=H.alloc (.cells #[.int .i64 K,.int .i64 O,.int .i64 xs,.int .i64 U,.string Z] 169)):=d6;have g9:Hid (ac B.z B I):=d5.out.trans (a5.mono d5.out.size);have h5:Hid (ZN I b b n k done):=c8.out.below a5;have d7:Hid (YO n k ⟨K,O,xs,U,Z⟩=aj->∃(rt:an) (sz:Int),(∀W,ac I.z I W->(ao 208 (.map (aa b)) (.agg #[.int .i64 K,.int .i64 O]) F).run prog W=.ok (.agg #[.int .i64 sz,rt]) W)/\(∀g,rt.ownBlock=aa g->g<H.z)/\∀W,ac I.z I W->ap prog 160 #[.agg #[.int .i64 sz,rt],.agg #[.int .i64 K,.int .i64 O,.int .i64 xs,.int .i64 U,.string Z]] W fun e w7=>∃rv w8,e=.returned rv/\W.grownBy w7 rt.ownBlock/\(za 208 (.map (aa b)) (.agg #[.int .i64 K,.int .i64 O]) rv).run prog w7=.ok () w8/\ac b W w8/\ZN w8 b b n k (done++ [⟨K,O,xs,U,Z⟩])):=fun hc=>by
      obtain⟨rt,sz,h1,h2,h3⟩:=c8.out.step hc e6.out l7;exact⟨rt,sz,fun W J=>h1 W (a5.trans (J.mono a5.size)),h2,fun W J=>h3 W (a5.trans (J.mono a5.size))⟩
     have d8:Hid (∀W,ap prog 107 #[.agg #[.int .i64 K,.int .i64 O]] W fun e w'=>e=.returned (.bool (YM K O))/\ac W.z W w'):=fun W=>wI K O W
     have b2:Hid (∀W,ap prog 159 #[.int .i64 (n:Int),.int .i64 (k:Int),.int .i64 xs,.agg #[.int .i64 U,.string Z]] W fun e w'=>e=.returned (.bool (gS n k xs U Z))/\ac W.z W w'):=fun W=>I1 n k xs U Z W n5 n6 hn
     have a2:Hid (∀W,ac I.z I W->((W.cell? (pA w.z 0)=aa (.int .i64 (n:Int))/\W.cell? (pA w.z 1)=aa (.int .i64 (k:Int)))/\(W.cell? (pA H.z 0)=aa (.int .i64 K)/\W.cell? (pA H.z 1)=aa (.int .i64 O)/\W.cell? (pA H.z 2)=aa (.int .i64 xs)/\W.cell? (pA H.z 3)=aa (.int .i64 U)/\W.cell? (pA H.z 4)=aa (.string Z)))/\ZN W b b n k done/\ac B.z B W):=fun W J=>by
      have a3:=Qf a6.out.1;have h0:ac B.z B W:=g9.out.trans (J.mono g9.out.size);exact⟨⟨⟨(b7.out W h0).1,(b7.out W h0).2.1⟩,(J.cell (p:=(pA H.z 0)) a3).trans a6.out.1,(J.cell (p:=(pA H.z 1)) a3).trans a6.out.2.1,(J.cell (p:=(pA H.z 2)) a3).trans a6.out.2.2.1,(J.cell (p:=(pA H.z 3)) a3).trans a6.out.2.2.2.1,(J.cell (p:=(pA H.z 4)) a3).trans a6.out.2.2.2.2⟩,h5.out.below J,h0⟩
     obtain⟨⟨⟨g0,g1⟩,k0,k1,k2,k3,k4⟩,_⟩:=a2.out I bR;clear d6 a5 d5 c8 g5 a6 h5 e6;generalize YM K O=tg at *;generalize gS n k xs U Z=ft at *;cases tg with
     |false =>
      have HC:Hid (YO n k ⟨K,O,xs,U,Z⟩=F):=a4.out;clear a4 b2 d7;go_wp2_with (rw[<-g8.out])
      refine(d8.out _).mono ?_;rintro e w5 ⟨rfl,b0⟩;obtain⟨_,h6,h7⟩:=a2.out w5 b0;have l9:Hid (ZN w5 b b n k (a0++D.take (j+1))):=e7.out w5 (h6.pass HC.out);have m0:Hid (ac B.z B w5):=h7;clear h6 h7 b0 d8 a2;go_wp2;go_roundw
      case rel=>exact⟨j+1,by omega,by go_num,l9.out,m0.out⟩
      case measure=>simp[intOf];omega
     |true =>
      go_wp2_with (rw[<-g8.out])
      refine(d8.out _).mono ?_;rintro e w5 ⟨rfl,b0⟩;have b3:Hid (ac I.z I w5):=b0;clear g0 g1 k0 k1 k2 k3 k4;obtain⟨⟨⟨g0,g1⟩,k0,k1,k2,k3,k4⟩,_⟩:=a2.out w5 b0;clear b0 d8 d0 d1 d2 d3 d4;cases ft with
      |false =>
       have HC:Hid (YO n k ⟨K,O,xs,U,Z⟩=F):=a4.out;clear a4 d7;go_wp2_with fail
       refine(b2.out _).mono ?_;rintro e w6 ⟨rfl,b4⟩;obtain⟨_,d9,e1⟩:=a2.out w6 (b3.out.trans (b4.mono b3.out.size));have m4:Hid (ZN w6 b b n k (a0++D.take (j+1))):=e7.out w6 (d9.pass HC.out);have m5:Hid (ac B.z B w6):=e1;clear d9 e1 b4 b2 a2;go_wp2;go_roundw
       case rel=>exact⟨j+1,by omega,by go_num,m4.out,m5.out⟩
       case measure=>simp[intOf];omega
      |true =>
       have HC:Hid (YO n k ⟨K,O,xs,U,Z⟩=aj):=a4.out;clear a4;go_wp2_with fail
       refine(b2.out _).mono ?_;rintro e w6 ⟨rfl,b4⟩;have b1:ac I.z I w6:=b3.out.trans (b4.mono b3.out.size);clear g0 g1 k0 k1 k2 k3 k4;obtain⟨⟨⟨g0,g1⟩,k0,k1,k2,k3,k4⟩,d9,e1⟩:=a2.out w6 b1;obtain⟨rt,sz,e8,h8,h9⟩:=d7.out HC.out;have m6:Hid (∀W,ac w6.z w6 W->ap prog 160 #[.agg #[.int .i64 sz,rt],.agg #[.int .i64 K,.int .i64 O,.int .i64 xs,.int .i64 U,.string Z]] W fun e w7=>∃rv w8,e=.returned rv/\(w7.cell? (pA H.z 0)=aa (.int .i64 K)/\w7.cell? (pA H.z 1)=aa (.int .i64 O))/\(za 208 (.map (aa b)) (.agg #[.int .i64 K,.int .i64 O]) rv).run prog w7=.ok () w8/\ac B.z B w8/\ZN w8 b b n k (a0++D.take (j+1))):=fun W J=>by
        have h4:ac I.z I W:=b1.trans (J.mono b1.size);refine(h9 W h4).mono ?_;rintro e w7 ⟨rv,w8,rfl,hg,i0,i1,m7⟩;obtain⟨⟨_,q0,q1,_⟩,_,m8⟩:=a2.out W h4;have m9:aa H.z≠rt.ownBlock:=fun e=>by have:=h8 _ e.symm;omega
        have i2:=hg.block H.z (Qf q0) m9;refine⟨rv,w8,rfl,⟨(ae (a:=(pA H.z 0)) i2).trans q0,(ae (a:=(pA H.z 1)) i2).trans q1⟩,i0,?_,e7.out w8 m7⟩;rw[f8.out]at i1;exact m8.trans i1
       have l1:=e8 w6 b1;have l2:=e8 w6.drew b1.drew;clear d9 e1 b4 b1 b2 a2 e8 h9 h8 d7 b3;go_wp2;go_region_with (go_at_call 160;refine(m6.out _ (by first|exact bR.drew|exact Below.refl _ _)).mono ?_;rintro e w7 ⟨rv,w8,rfl,⟨n0,n1⟩,i0,n2,n3⟩)
       all_goals (go_wp2;go_roundw)
       all_goals (first|exact⟨j+1,by omega,by go_num,n3,n2⟩|(simp[intOf];omega))
    ·have i3:D.take j=D:=List.take_of_length_le (by omega);have n4:Hid ((LL.take (i+1)).flatten=a0++D.take j):=by show _=_;rw[f9.out,i3]
     clear i3;go_wp2;go_roundw
     case rel=>exact⟨i+1,by omega,by go_num,by rw[n4.out];exact c8.out,d5.out⟩
     case measure=>simp[intOf];omega
  ·have i4:i=LL.length:=by omega
   have HF:Hid ((LL.take i).flatten=LL.flatten):=by show _=_;rw[i4,f7.out]
   rw[HF.out]at b8;clear i4;go_wp2;go_ret;exact⟨⟨_,rfl,by rw[<-f8.out];exact b8.out⟩,(b7.out w2 e3.out).2.2.2⟩
theorem Jd.setInt {ad:Nat->aD}{I:an}{c at_:Int}{z:Int}(h:Jd w ad I c at_)(Z:w.cell? ⟨b,1,N⟩=aa (zf .i64 z))(i:Nat)(v:an):Jd (w.setCell ⟨b,i,N⟩ v) ad I c at_:=by
 rcases h with h|h|⟨k,D,J,K,O,U,B⟩
 ·exact az h
 ·exact aw (az h)
 ·have H:D≠b:=fun e=>by
   subst e;rw[Z]at B;cases B
  exact aw (aw ⟨k,D,J,K,O,(af _ _ _ _ (fun e=>H (congrArg ay e).symm)).trans U,(af _ _ _ _ (fun e=>H (congrArg ay e).symm)).trans B⟩)
structure IK (w:World) (l:List BA) (p:Option aD) (cap:Nat):Prop where
 strs:Strs w p l
 room:l.length<=cap
 empty:p=N->l=[]/\cap=0
 len:l.length<=bb
 size:∀x∈l,x.size<=bb
section
open Go.Sort
theorem OA (w:World)(n:Nat)(os:Array Obj):ac w.heap.size w (grow (w.drewN n) os):=⟨rfl,rfl,rfl,by show w.heap.size<=(w.heap++os).size;rw[Array.size_append];omega,fun _ B=>heap_grow_old (w.drewN n) os B⟩
theorem N1 (a b:Int×Int)(w:World):ap prog 137 #[.agg #[.int .i64 a.1,.int .i64 a.2],.agg #[.int .i64 b.1,.int .i64 b.2]] w fun e w'=>e=.returned (.bool (Qd a b))/\ac w.heap.size w w':=(PG a b w).mono fun e w' ⟨B,q,os,D⟩=>⟨B,by rw[D];exact OA w q os⟩
structure JV (n k:Nat) (L:List Yb) (left:Lit->Bool) (t:Int×Int) (found:Bool):Prop where
 no:found=F->t=(0,0)/\∀u,Jr u->left (YD u)=F->¬Xp n k L u
 yes:found=aj->Jr t/\Xp n k L t/\∀u,Jr u->left (YD u)=F->Xp n k L u->Qd t u=F
theorem N2 (D:1<=k)(H:∀v∈L,Jr (v.n,v.who))(h:Xp n k L u):Jr u:=by
 obtain⟨v,B,e⟩:=nZ D h;rw[<-e];exact H v B
theorem BN (B:1<=k)(h:Xp n k L u):(Zf n k u L).2≠[]:=fun e=>by
 unfold Xp at h;rw[e]at h;simp at h;omega
theorem OQ (K:1<=k)(h:Y1 w B b n k L D row blk):JV n k L (ax D) (0,0) false :=
 ⟨fun _=>⟨rfl,fun u I H J=>by
  rw[h.has u I]at H;exact of_decide_eq_false H (BN K J)⟩,fun e=>by cases e⟩
theorem wF (H:Jr t)(I:Jr u)(h:(left (YD u)&&!(YD u).sameKey (YD t))=F):left (YD u)=F∨u=t:=by
 cases D:left (YD u)with
 |false=>exact az rfl
 |true =>
  rw[D]at h;right;have B:(YD u).sameKey (YD t)=true:=by
   cases B:(YD u).sameKey (YD t)with
   |true=>rfl
   |false=>rw[B]at h;cases h
  exact xX I H (WideAt.sameKey_eq B)
theorem UO (h:JV n k L left t found)(K:Jr u)(O:¬Xp n k L u∨found=aj/\Qd t u=F):JV n k L (fun z=>left z&&!z.sameKey (YD u)) t found:=by
 refine⟨fun e=>⟨(h.no e).1,fun x H J I=>?_⟩,fun e=>⟨(h.yes e).1,(h.yes e).2.1,fun x H J I=>?_⟩⟩
 ·rcases wF K H J with D|D
  ·exact(h.no e).2 x H D I
  ·subst D;rcases O with B|B
   ·exact B I
   ·rw[e]at B;cases B.1
 ·rcases wF K H J with D|D
  ·exact(h.yes e).2.2 x H D I
  ·subst D;rcases O with B|B
   ·exact absurd I B
   ·exact B.2
theorem RH (h:JV n k L left t found)(K:Jr u)(Z:Xp n k L u)(hp:found=aj->Qd t u=aj):JV n k L (fun z=>left z&&!z.sameKey (YD u)) u true:=by
 refine⟨fun e=>(by cases e),fun _=>⟨K,Z,fun x D O I=>?_⟩⟩;rcases wF K D O with B|B
 ·cases H:found with
  |false=>exact absurd I ((h.no H).2 x D B)
  |true =>
   have J:=(h.yes H).2.2 x D B I;cases U:Qd u x with
   |false=>rfl
   |true=>rw[yQ (hp H) U]at J;cases J
 ·subst B;simp[Qd]
theorem P8 (H:1<=k)(I:∀v∈L,Jr (v.n,v.who))(h:JV n k L left t found)(J:∀z,left z=F):Ys n k L L=(t,if found then mP n k L t else⟨#[]⟩,found):=by
 cases found with
 |false =>
  obtain⟨rfl,B⟩:=h.no rfl;rw[GP (fun v K=>B _ (I v K) (J _))];rfl
 |true =>
  obtain⟨_,O,B⟩:=h.yes rfl;rw[IS H O (fun u D=>B u (N2 H I D) (J _) D)];rfl
theorem Y1.entry (h:Y1 w B b n k L D row blk)(a2:∀z,left z=aj->ax D z=aj){x:Int×Int}{c:Int×Option aD×Nat×Nat}{kl:Lit}{y:DataW an×List MemPlace}(a3:keyOf prog 43 (iO x)=aa kl)(a4:left kl=aj)(U:YR (X7 c)=aa y)(a5:∀zd,D.atKey kl zd=y.1):
 Jr x/\kl=YD x/\c.2.2.1=(Zf n k x L).2.length:=by
 obtain⟨t,H,rfl,I⟩:=CC a3;have Z:x=t:=by
  unfold iO at H;simp at H;exact Prod.ext H.1 H.2
 subst Z;have O:=a2 _ a4;rw[h.has x I]at O;have a0:=of_decide_eq_true O;have K:=h.at_ x I a0 (.held (X7 c));rw[a5]at K;have e2:y=(.held (X7 c),[]):=by rw[zY]at U;exact(Option.some.inj U).symm
 rw[e2]at K;have J:X7 c=.agg #[.int .i64 (Zf n k x L).1,row x]:=by injection K
 obtain⟨p,cp,hr,_⟩:=nL (h.own x I);rw[hr]at J;unfold X7 at J;simp at J;exact⟨I,rfl,J.2.2.1⟩
theorem ZL (h:w.ranges prog 43 YR b r n D left B):r<w.heap.size/\b<w.heap.size:=⟨bv h,World.ownsMap.lt (bf h)⟩
structure fL (W:World) (a:Nat) (n k:Nat) (lv:an) (t:Int×Int) (B b:Nat) (L:List Yb) (D:DataW an) (row:Int×Int->an) (blk:Int×Int->Nat):Prop where
 c0:W.cell? ⟨a,0,N⟩=aa (.int .i64 (n:Int))
 c1:W.cell? ⟨a,1,N⟩=aa (.int .i64 (k:Int))
 T:YK W (a+1) (.int .i64 t.1) (.int .i64 t.2)
 dX:Y1 W B b n k L D row blk
 hB:a+1+1<=B
theorem fL.below {I:World}(h:fL W a n k lv t B b L D row blk)(H:ac W.heap.size W I):fL I a n k lv t B b L D row blk :=
 ⟨(H.cell (p:=(pA a 0)) (Qf h.c0)).trans h.c0,(H.cell (p:=(pA a 1)) (Qf h.c0)).trans h.c1,h.T.below H,h.dX.below H,h.hB⟩
theorem fL.set (h:fL W a n k lv t B b L D row blk)(u:Int×Int):fL ((W.setCell ⟨a+1,0,N⟩ (.int .i64 u.1)).setCell ⟨a+1,1,N⟩ (.int .i64 u.2)) a n k lv u B b L D row blk:=by
 have H:W.grownBy ((W.setCell (pA (a+1) 0) (.int .i64 u.1)).setCell (pA (a+1) 1) (.int .i64 u.2)) (aa (a+1)):=⟨rfl,rfl,rfl,by simp[aA],fun j _ O=>by
  have I:j≠a+1:=fun e=>O (by rw[e])
  rw[ah _ _ _ _ I,ah _ _ _ _ I]⟩
 have J:=H.block a (Qf h.c0) (by simp);have a0:=h.hB;refine⟨(ae (a:=(pA a 0)) J).trans h.c0,(ae (a:=(pA a 1)) J).trans h.c1,(h.T.eJ _).eM _,?_,h.hB⟩;obtain⟨m,U,Z⟩:=h.dX.map;have a2:=h.dX.aO;refine⟨⟨m,U,World.ownsMap.kept Z H (by simp;omega)⟩,h.dX.aO,h.dX.has,h.dX.at_,fun t K=>am (h.dX.own t K) H ?_,h.dX.eB,h.dX.eA,h.dX.apart⟩;cases hv:(row t).ownBlock with
 |none=>exact az rfl
 |some g =>
  refine aw fun e=>?_
  injection e with e
  have:=(ar (h.dX.own t K) g hv).1;omega
theorem fL.grown {K:World}(h:fL W a n k lv t B b L D row blk)(H:W.grownBy K (aa r))(h1:a+1<r)(h2:b<r)(h3:∀t,Jr t->∀g,(row t).ownBlock=aa g->g<r):fL K a n k lv t B b L D row blk:=by
 have I:=H.block a (Qf h.c0) (by simp;omega);obtain⟨m,O,U⟩:=h.dX.map;refine⟨(ae (a:=(pA a 0)) I).trans h.c0,(ae (a:=(pA a 1)) I).trans h.c1,h.T.grown H (by simp;omega),⟨⟨m,O,World.ownsMap.kept U H (by simp;omega)⟩,h.dX.aO,h.dX.has,h.dX.at_,fun t J=>am (h.dX.own t J) H ?_,h.dX.eB,h.dX.eA,h.dX.apart⟩,h.hB⟩;cases Z:(row t).ownBlock with
 |none=>exact az rfl
 |some g =>
  refine aw fun e=>?_
  injection e with e
  have:=h3 t J g Z;omega
theorem L7 (h:Jt v):Jr (v.n,v.who):=⟨h.1,h.2.1⟩
theorem U4 (ad:Nat->aD)(c:Xg)(p:Option aD)(cap:Nat)(LL:List (List Yb))(pl:Option aD)(cl:Nat)(w:World)(hc:Yn w c p cap)(hL:eU w pl LL)(u1:LL.length<=1000)(u2:LL.flatten.length<=1000)(r9:∀v∈LL.flatten,Jt v)(hE:Zp w ad)(z:aD)(hZ:w.cell? ⟨9,0,N⟩=aa (.iface 301 (.pointer (aa z)))):
 ap prog 108 #[iE c (.slice p c.L.length cap),.slice pl LL.length cl] w fun e w'=>(∃ev,e=.returned (.tuple #[.agg #[.int .i64 (jB c LL).1.1,.int .i64 (jB c LL).1.2],.string (jB c LL).2.1,.bool (jB c LL).2.2,ev])/\Jd w' ad ev (jH c LL).1 (jH c LL).2)/\ac w.heap.size w w':=by
 obtain⟨w0,e7⟩:=Xb (w.alloc (.cells #[.int .i64 c.n,.int .i64 c.k,.slice p c.L.length cap] 58));obtain⟨w1,e8⟩:=Xb (w0.alloc (.cells #[.int .i64 0,.int .i64 0] 43));have e0:=QT e7;have e1:w1.heap.size=w.heap.size+1+1:=by rw[e8,<-e0];simp
 have i4:=Zk e7;have i5:=Zk e8;have b6:ac w.heap.size w w1:=i4.trans (i5.mono i4.size);have m9:k8 w0 w.heap.size c (.slice p c.L.length cap):=by rw[e7];exact AA w c _ _
 have e9:=m9.below i5;have n0:YK w1 (w.heap.size+1) (.int .i64 0) (.int .i64 0):=by
  rw[e8];exact⟨by rw[ab _ _ _ _ e0.symm];rfl,by rw[ab _ _ _ _ e0.symm];rfl,ai _ _ _ _ e0.symm,ai _ _ _ _ e0.symm⟩
 have b1:=qU ad c p cap w1 (hc.below b6) (hE.below b6);have g9:Hid (w1=(w.alloc (.cells #[.int .i64 c.n,.int .i64 c.k,.slice p c.L.length cap] 58)).alloc (.cells #[.int .i64 0,.int .i64 0] 43)):=by show _=_;rw[e8,e7]
 have b7:Hid (ac w.heap.size w w1):=b6;have n1:Hid (w1.heap.size=w.heap.size+1+1):=e1;have i8:Hid (k8 w1 w.heap.size c (.slice p c.L.length cap)):=e9;have h4:Hid (YK w1 (w.heap.size+1) (.int .i64 0) (.int .i64 0)):=n0;have n2:Hid (Zp w1 ad):=hE.below b6;have n3:Hid (eU w1 pl LL):=hL.below b6;have i9:Hid (w1.cell? ⟨9,0,N⟩=aa (.iface 301 (.pointer (aa z)))):=(b6.cell (p:=⟨9,0,N⟩) (Qf hZ)).trans hZ;have f3:Hid (∀v∈LL.flatten,Jr (v.n,v.who)):=fun v hv=>L7 (r9 v hv)
 have n4:Hid (7 <w.heap.size):=Yl hE.c2;have n5:Hid (w.cell? ⟨9,0,N⟩=aa (.iface 301 (.pointer (aa z)))):=hZ;have f0:=e9.f0;have f1:=e9.f1;have f2:=e9.f2;unfold iE at b1 ⊢;clear e7 e8 i4 i5 b6 m9 e9 n0 hc hL r9 hE hZ e0 e1;by_cases hp:0<(Jg c).1
 ·obtain⟨b2,a9⟩:=P0 (LL:=LL) hp;rw[b2,a9];have HP:Hid (0<(Jg c).1):=hp;clear hp b2 a9 f3;generalize Jg c=R at *;obtain⟨n,k,L⟩:=c;dsimp only at *;go_enter func108,ntmps108;go_wp2_with (rw[<-g9.out])
  refine b1.mono ?_;rintro e J ⟨⟨ev,rfl,b0⟩,a0⟩;have a4:=h4.out.below a0;have t0:=a4.c0;have t1:=a4.c1;have c8:=a4.f0;have d0:=a4.f1;have a5:=(a4.eJ (.int .i64 0)).eM (.int .i64 0);have k0:=a5.c0;have k1:=a5.c1;have s1:Hid (Jd ((J.setCell (pA (w.heap.size+1) 0) (.int .i64 0)).setCell (pA (w.heap.size+1) 1) (.int .i64 0)) ad ev R.1 R.2):=(b0.setInt a4.c1 0 _).setInt (a4.eJ (.int .i64 0)).c1 1 _;have h5:Hid (ac w.heap.size w ((J.setCell (pA (w.heap.size+1) 0) (.int .i64 0)).setCell (pA (w.heap.size+1) 1) (.int .i64 0))):=((b7.out.trans (a0.mono b7.out.size)).setCell (by show w.heap.size<=w.heap.size+1;omega) _).setCell (by show w.heap.size<=w.heap.size+1;omega) _;obtain⟨et,eu,rfl⟩:=b0.some HP.out;clear b0 a0 b1 f0 f1 f2 a4 a5;go_wp2;exact al (v:=.tuple #[.agg #[.int .i64 0,.int .i64 0],.string ⟨#[]⟩,.bool F,.iface et eu]) (by simp[aE,results108,go_sem,k0,k1]) rfl ⟨⟨_,rfl,s1.out⟩,h5.out⟩
 ·obtain⟨hf,hn,h0,_,_⟩:=Xm hp;rw[h0]at b1;by_cases h6:c.n<(LL.length:Int)
  ·obtain⟨b2,a9⟩:=LD (LL:=LL) hp h6;rw[b2,a9];clear hp hn h0 hf b2 a9 f3;obtain⟨n,k,L⟩:=c;dsimp only at *;go_enter func108,ntmps108;go_wp2_with (rw[<-g9.out])
   refine b1.mono ?_;rintro e J ⟨⟨ev,rfl,b0⟩,a0⟩;obtain rfl:=Jd.isNil b0;have a4:=h4.out.below a0;have t0:=a4.c0;have t1:=a4.c1;have c8:=a4.f0;have d0:=a4.f1;have a5:=(a4.eJ (.int .i64 0)).eM (.int .i64 0);have k0:=a5.c0;have k1:=a5.c1;have q2:=(n2.out.below a0).c2;have s2:((pA (w.heap.size+1) 0):aD)≠⟨7,0,N⟩:=fun e=>by have h1:w.heap.size+1=7:=congrArg ay e;have:=n4.out;omega
   have s3:((pA (w.heap.size+1) 1):aD)≠⟨7,0,N⟩:=fun e=>by have h1:w.heap.size+1=7:=congrArg ay e;have:=n4.out;omega
   have q3:(J.setCell (pA (w.heap.size+1) 0) (.int .i64 0)).cell? ⟨7,0,N⟩=aa (.iface 301 (.pointer (aa (ad 2)))):=(af _ _ _ _ s2).trans q2;have q4:((J.setCell (pA (w.heap.size+1) 0) (.int .i64 0)).setCell (pA (w.heap.size+1) 1) (.int .i64 0)).cell? ⟨7,0,N⟩=aa (.iface 301 (.pointer (aa (ad 2)))):=(af _ _ _ _ s3).trans q3;have h5:Hid (ac w.heap.size w ((J.setCell (pA (w.heap.size+1) 0) (.int .i64 0)).setCell (pA (w.heap.size+1) 1) (.int .i64 0))):=((b7.out.trans (a0.mono b7.out.size)).setCell (by show w.heap.size<=w.heap.size+1;omega) _).setCell (by show w.heap.size<=w.heap.size+1;omega) _;have n6:=i8.out.below a0;have g0:=n6.f0;dsimp only at g0;clear b0 a0 b1 f0 f1 f2 a4 a5 n6;go_wp2;go_region
   go_wp2;exact al (v:=.tuple #[.agg #[.int .i64 0,.int .i64 0],.string ⟨#[]⟩,.bool F,.iface 301 (.pointer (aa (ad 2)))]) (by simp[aE,results108,go_sem,k0,k1]) rfl ⟨⟨_,rfl,Jd.b8 2 (by decide)⟩,by first|exact h5.out|exact h5.out.drew⟩
  ·obtain⟨b2,a9⟩:=CM (LL:=LL) hp h6;obtain⟨cn,ck,L⟩:=c;dsimp only at *;obtain⟨n,rfl⟩:=aC (show 0<=cn by omega);obtain⟨k,rfl⟩:=aC (show 0<=ck by omega);rw[zc,zc]at a9;rw[b2];have d7:1<=k:=by omega
   have n7:k<=n:=by omega
   have n8:n<=12:=by omega
   obtain⟨RR,j1⟩:=Xb (jB ⟨n,k,L⟩ LL);rw[<-j1];have n9:Hid (RR=Ys n k LL.flatten LL.flatten):=j1.trans a9;have t7:¬(n:Int)<(LL.length:Int):=h6;have o1:Hid (∀W,eU W pl LL->ap prog 136 #[.agg #[.int .i64 (n:Int),.int .i64 (k:Int),.slice p L.length cap],.slice pl LL.length cl] W fun e w'=>(∃b,e=.returned (.map (aa b))/\ZN w' (W.heap.size+1) b n k LL.flatten)/\ac W.heap.size W w'):=fun W K=>Jo9 n k p L.length cap pl LL cl W d7 n7 n8 (by omega) (by omega) K f3.out
   have o2:Hid (∀left t found,JV n k LL.flatten left t found->(∀z,left z=F)->RR=(t,if found then mP n k LL.flatten t else⟨#[]⟩,found)):=fun left t found h hl=>n9.out.trans (P8 d7 f3.out h hl)
   have j2:Hid (∀t,Xp n k LL.flatten t->(((Zf n k t LL.flatten).1.toNat:Nat):Int)=(Zf n k t LL.flatten).1/\(Zf n k t LL.flatten).1.toNat<=1000/\l5 n k (Zf n k t LL.flatten).1.toNat (Zf n k t LL.flatten).2/\(Zf n k t LL.flatten).2.length<=1000):=fun t hg=>by
    obtain⟨a1,a2,a3,_⟩:=FF (n:=n) (k:=k) (t:=t) (L:=LL.flatten) d7 (by unfold Xp at hg;omega);have:=xU (n:=n) (k:=k) (t:=t) LL.flatten LL.flatten.length;rw[aq]at this;exact⟨a1,a2,a3,by omega⟩
   clear hp hn h0 hf b2 a9 j1 h6 f3 n9;generalize LL.flatten=B at *;go_enter func108,ntmps108;go_wp2_with (rw[<-g9.out])
   refine b1.mono ?_;rintro e w2 ⟨⟨ev,rfl,b0⟩,d2⟩;obtain rfl:=Jd.isNil b0;have f4:=i8.out.below d2;have g0:=f4.f0;have g1:=f4.f1;have g2:=f4.f2;dsimp only at g0 g1 g2;have k2:Hid (k8 w2 w.heap.size ⟨(n:Int),(k:Int),L⟩ (.slice p L.length cap)):=f4;have o3:Hid (YK w2 (w.heap.size+1) (.int .i64 0) (.int .i64 0)):=h4.out.below d2;have k3:Hid (ac w.heap.size w w2):=b7.out.trans (d2.mono b7.out.size);have d3:Hid (w.heap.size+1+1<=w2.heap.size):=by show _<=_;rw[<-n1.out];exact d2.size
   have k4:Hid (w2.cell? ⟨9,0,N⟩=aa (.iface 301 (.pointer (aa z)))):=(d2.cell (p:=⟨9,0,N⟩) (Qf i9.out)).trans i9.out;have o4:=o1.out w2 (n3.out.below d2);clear b0 d2 b1 f0 f1 f2 f4 i8 h4 b7 n1 i9 n2 n3 o1 g9;go_wp2_with fail
   refine o4.mono ?_;rintro e J ⟨⟨b,rfl,D,row,blk,f5⟩,a0⟩;have f6:Hid (fL J w.heap.size n k (.slice p L.length cap) (0,0) (w2.heap.size+1) b B D row blk):=⟨(k2.out.below a0).f0,(k2.out.below a0).f1,o3.out.below a0,f5,by have:=d3.out;omega⟩;have o5:Hid (ac w.heap.size w J):=k3.out.trans (a0.mono k3.out.size);have t8:Hid (J.cell? ⟨9,0,N⟩=aa (.iface 301 (.pointer (aa z)))):=(a0.cell (p:=⟨9,0,N⟩) (Qf k4.out)).trans k4.out;have H0:Hid (JV n k B (ax D) (0,0) F):=OQ d7 f5;obtain⟨m,hm,o6⟩:=f5.map;have s4:b<J.heap.size:=f5.lt;clear a0 o4 g0 g1 g2 k2 o3 k3 k4 f5 hm;go_wp2_with (first
    |(at_range;refine wpList_range_own _ rfl _ 208 rfl 43 212 qN underlying208 YR b m D rfl o6 ?_;intro w4 o7 d8 s5)
    |go_in)
   go_frame
   have p0:Hid (ac J.heap.size J w4):=⟨d8.os,d8.tape,d8.output,d8.size,fun k hk=>d8.block k hk (by simp)⟩;have p1:Hid (w4.ranges prog 43 YR b J.heap.size m D (ax D) (bq D)):=o7;have p2:Hid (fL w4 w.heap.size n k (.slice p L.length cap) (0,0) (w2.heap.size+1) b B D row blk):=f6.out.below p0.out;have f7:Hid (∀W,ac (w.heap.size+1) w4 W->ac w.heap.size w W/\W.cell? ⟨9,0,N⟩=aa (.iface 301 (.pointer (aa z)))):=fun W K=>by
    have h0:ac w.heap.size w W:=(o5.out.trans (p0.out.mono o5.out.size)).trans (K.mono (by omega));exact⟨h0,(h0.cell (p:=⟨9,0,N⟩) (Qf n5.out)).trans n5.out⟩
   have p3:Hid (∀t,Jr t->∀g,(row t).ownBlock=aa g->g<J.heap.size):=fun t ht g hg=>(ar (f6.out.dX.own t ht) g hg).2
   have p4:Hid (w.heap.size+1<J.heap.size):=by
    show _<_;have h1:=f6.out.dX.lt;have h2:=f6.out.dX.aO;have h3:=d3.out;omega
   clear o7 d8 s5 o6;go_loopw [6] (fun fo wr=>∃(left:Lit->Bool) (f8:Nat) (t:Int×Int) (found:Bool),fo=.bool found/\wr.ranges prog 43 YR b J.heap.size m D left f8/\JV n k B left t found/\(∀z,left z=aj->ax D z=aj)/\fL wr w.heap.size n k (.slice p L.length cap) t (w2.heap.size+1) b B D row blk/\ac (w.heap.size+1) w4 wr) (fun _ wr=>wr.rangeLeft b J.heap.size)
   case atStart=>exact⟨ax D,bq D,(0,0),F,rfl,p1.out,H0.out,fun z hz=>hz,p2.out,bc _ _⟩
   case round =>
    obtain⟨left,f8,t,found,rfl,f9,p5,p7,b3,hB⟩:=hrel;obtain⟨U,rfl⟩:=Xb wr;have d4:Hid (JV n k B left t found):=p5;have h7:Hid (∀z,left z=aj->ax D z=aj):=p7;have a6:Hid (fL U w.heap.size n k (.slice p L.length cap) t (w2.heap.size+1) b B D row blk):=b3;have HB:Hid (ac (w.heap.size+1) w4 U):=hB;clear p5 p7 b3 hB p1 p2 H0 f6;go_wp2_with (first
     |(at_next;refine wpList_next_ranges (α:=Int×Int) (β:=Int×Option aD×Nat×Nat) _ rfl _ rfl 43 qN YR iO X7 (fun key kl hk=>by obtain⟨x,hx,_⟩:=CC hk;exact⟨x,hx⟩) (fun v y hv=>by obtain⟨x,hx,_⟩:=FP hv;exact⟨x,hx⟩) b J.heap.size m D left f8 rfl f9 ?_ ?_)
     |go_in)
    ·intro _ p9;have k5:Hid (RR=(t,if found then mP n k B t else⟨#[]⟩,found)):=o2.out left t found d4.out p9;have hT:=a6.out.T;clear p9 f9 o2 h7 p3;cases found with
     |false =>
      have t0:=hT.c0;have t1:=hT.c1;have c8:=hT.f0;have d0:=hT.f1;have a5:=(hT.eJ (.int .i64 t.1)).eM (.int .i64 t.2);have k0:=a5.c0;have k1:=a5.c1;have k6:Hid (ac w.heap.size w ((U.setCell (pA (w.heap.size+1) 0) (.int .i64 t.1)).setCell (pA (w.heap.size+1) 1) (.int .i64 t.2))):=((f7.out U HB.out).1.setCell (by show w.heap.size<=w.heap.size+1;omega) _).setCell (by show w.heap.size<=w.heap.size+1;omega) _;clear hT a5 d4 a6 j2 f7;go_wp2;exact al (v:=.tuple #[.agg #[.int .i64 t.1,.int .i64 t.2],.string ⟨#[]⟩,.bool F,.nilIface]) (by simp[aE,results108,go_sem,k0,k1]) rfl ⟨⟨_,by rw[k5.out];rfl,Jd.nil _ _⟩,k6.out⟩
     |true =>
      obtain⟨h8,k7,_⟩:=d4.out.yes rfl;obtain⟨q1,q2,q3,q4⟩:=j2.out t k7;have l0:=BN d7 k7;have d9:=(a6.out.dX.below bR.drew).look h8;obtain⟨p6,c6,l7,q0⟩:=nL (a6.out.dX.own t h8);unfold kH at d9;rw[if_neg l0,l7,<-q1]at d9;have s6:Hid (RR=(t,gB k (Zf n k t B).1.toNat (Qg k (Zf n k t B).2 (Zf n k t B).2.length),aj)):=k5.out;have q5:Hid (∀W,ac U.heap.size U W->ap prog 138 #[.int .i64 (n:Int),.int .i64 (k:Int),.int .i64 (((Zf n k t B).1.toNat:Nat):Int),.slice p6 (Zf n k t B).2.length c6] W fun e w'=>e=.returned (.tuple #[.string (gB k (Zf n k t B).1.toNat (Qg k (Zf n k t B).2 (Zf n k t B).2.length)),.nilIface])/\ac W.heap.size W w'):=fun W K=>LJ n k (Zf n k t B).1.toNat p6 (Zf n k t B).2 c6 z W d7 n7 n8 q2 q4 q3 (q0.below K) ((K.cell (p:=⟨9,0,N⟩) (Qf (f7.out U HB.out).2)).trans (f7.out U HB.out).2)
      have t0:=hT.c0;have t1:=hT.c1;have g0:=a6.out.c0;have g1:=a6.out.c1;have h9:Hid (∀W,ac U.heap.size U W->(W.cell? (pA w.heap.size 0)=aa (.int .i64 (n:Int))/\W.cell? (pA w.heap.size 1)=aa (.int .i64 (k:Int))/\W.cell? (pA (w.heap.size+1) 0)=aa (.int .i64 t.1)/\W.cell? (pA (w.heap.size+1) 1)=aa (.int .i64 t.2)/\(ao 208 (.map (aa b)) (.agg #[.int .i64 t.1,.int .i64 t.2]) F).run prog W=.ok (.agg #[.int .i64 (((Zf n k t B).1.toNat:Nat):Int),.slice p6 (Zf n k t B).2.length c6]) W/\ac U.heap.size U W)):=fun W K=>by
       have b3:=a6.out.below K;have hl:=b3.dX.look h8;unfold kH at hl;rw[if_neg l0,l7,<-q1]at hl;exact⟨b3.c0,b3.c1,b3.T.c0,b3.T.c1,hl,K⟩
      have s7:∀W,(zj 212 (.agg #[.int .i64 (((Zf n k t B).1.toNat:Nat):Int),.slice p6 (Zf n k t B).2.length c6]) 0).run prog W=.ok (.int .i64 (((Zf n k t B).1.toNat:Nat):Int)) W:=fun W=>by kernel_rfl
      have s8:∀W,(zj 212 (.agg #[.int .i64 (((Zf n k t B).1.toNat:Nat):Int),.slice p6 (Zf n k t B).2.length c6]) 1).run prog W=.ok (.slice p6 (Zf n k t B).2.length c6) W:=fun W=>by kernel_rfl
      clear d9 l7 q0 l0 q1 q2 q3 q4 k7 h8 hT d4 k5 j2 t0 t1 g0 g1;generalize gB k (Zf n k t B).1.toNat (Qg k (Zf n k t B).2 (Zf n k t B).2.length)=dt at *;generalize (Zf n k t B).1.toNat=sz at *;generalize (Zf n k t B).2.length=ln at *;have q6:Hid (∀W,(W.cell? (pA w.heap.size 0)=aa (.int .i64 (n:Int))/\W.cell? (pA w.heap.size 1)=aa (.int .i64 (k:Int))/\W.cell? (pA (w.heap.size+1) 0)=aa (.int .i64 t.1)/\W.cell? (pA (w.heap.size+1) 1)=aa (.int .i64 t.2)/\(ao 208 (.map (aa b)) (.agg #[.int .i64 t.1,.int .i64 t.2]) F).run prog W=.ok (.agg #[.int .i64 (sz:Int),.slice p6 ln c6]) W/\ac U.heap.size U W)->ap prog 138 #[.int .i64 (n:Int),.int .i64 (k:Int),.int .i64 (sz:Int),.slice p6 ln c6] W fun e w'=>e=.returned (.tuple #[.string dt,.nilIface])/\(w'.cell? (pA w.heap.size 0)=aa (.int .i64 (n:Int))/\w'.cell? (pA w.heap.size 1)=aa (.int .i64 (k:Int))/\w'.cell? (pA (w.heap.size+1) 0)=aa (.int .i64 t.1)/\w'.cell? (pA (w.heap.size+1) 1)=aa (.int .i64 t.2)/\(ao 208 (.map (aa b)) (.agg #[.int .i64 t.1,.int .i64 t.2]) F).run prog w'=.ok (.agg #[.int .i64 (sz:Int),.slice p6 ln c6]) w'/\ac U.heap.size U w')):=fun W K=>(q5.out W K.2.2.2.2.2).mono fun e w' ⟨he,hb⟩=>⟨he,h9.out w' (K.2.2.2.2.2.trans (hb.mono K.2.2.2.2.2.size))⟩
      have s9:=h9.out U bR;clear q5;go_wp2;go_region_held3 (fun W=>(W.cell? (pA w.heap.size 0)=aa (.int .i64 (n:Int))/\W.cell? (pA w.heap.size 1)=aa (.int .i64 (k:Int))/\W.cell? (pA (w.heap.size+1) 0)=aa (.int .i64 t.1)/\W.cell? (pA (w.heap.size+1) 1)=aa (.int .i64 t.2)/\(ao 208 (.map (aa b)) (.agg #[.int .i64 t.1,.int .i64 t.2]) F).run prog W=.ok (.agg #[.int .i64 (sz:Int),.slice p6 ln c6]) W/\ac U.heap.size U W)) (first|assumption|exact h9.out _ bR.drew) (first|(go_at_call 138;refine(q6.out _ (by assumption)).mono ?_;rintro e w6 ⟨rfl,q7⟩))
      all_goals
       have l9:ac U.heap.size U w6:=q7.2.2.2.2.2;have e2:=a6.out.T.below l9;have t0:=e2.c0;have t1:=e2.c1;have c8:=e2.f0;have d0:=e2.f1;have a5:=(e2.eJ (.int .i64 t.1)).eM (.int .i64 t.2);have k0:=a5.c0;have k1:=a5.c1;have k6:Hid (ac w.heap.size w ((w6.setCell (pA (w.heap.size+1) 0) (.int .i64 t.1)).setCell (pA (w.heap.size+1) 1) (.int .i64 t.2))):=((f7.out w6 (HB.out.trans (l9.mono (by have:=Qf a6.out.T.c0;omega)))).1.setCell (by show w.heap.size<=w.heap.size+1;omega) _).setCell (by show w.heap.size<=w.heap.size+1;omega) _;clear l9 e2 a5 q7 h9 q6 s9 s7 s8;go_wp2;exact al (v:=.tuple #[.agg #[.int .i64 t.1,.int .i64 t.2],.string dt,.bool aj,.nilIface]) (by simp[aE,results108,go_sem,k0,k1]) rfl ⟨⟨_,by rw[s6.out],Jd.nil _ _⟩,k6.out⟩
    ·intro H I cz cp cn m0 kl yd yp w6 a7 q9 d9 hv r0 g3 r1 d5 t2 t3;obtain⟨r2,rfl,m4⟩:=a6.out.dX.entry h7.out q9 d9 hv r0;dsimp only at m4;have t4:w.heap.size+1<J.heap.size:=p4.out;have r3:=a6.out.grown d5 t4 s4 p3.out;have m5:ac (w.heap.size+1) w4 w6:=HB.out.trans ⟨d5.os,d5.tape,d5.output,d5.size,fun j hj=>d5.block j (by have:=(ZL f9).1;omega) (fun e=>by injection e with e;omega)⟩;obtain⟨Z,e3⟩:=Xb ((w6.alloc (.cells #[.int .i64 H,.int .i64 I] 43)).alloc (.cells #[.int .i64 cz,.slice cp cn m0] 212));have g4:ac w6.heap.size w6 Z:=by rw[e3];exact(bR.alloc nR _).alloc (by simp) _
     have x0:Z.cell? (pA w6.heap.size 0)=aa (.int .i64 H):=by rw[e3];simp
     have r4:Z.cell? (pA w6.heap.size 1)=aa (.int .i64 I):=by rw[e3];simp
     have y1:Z.cell? (pA (w6.heap.size+1) 1)=aa (.slice cp cn m0):=by rw[e3];simp
     have i0:Hid (Z=(w6.alloc (.cells #[.int .i64 H,.int .i64 I] 43)).alloc (.cells #[.int .i64 cz,.slice cp cn m0] 212)):=e3;have d6:=r3.below g4;have m6:Hid (fL Z w.heap.size n k (.slice p L.length cap) t (w2.heap.size+1) b B D row blk):=d6;have i1:Hid (ac (w.heap.size+1) w4 Z):=m5.trans (g4.mono (by have:=m5.size;have:=(ZL g3).1;omega));have r5:=rZ g3 (g4.block b (ZL g3).2) (g4.block J.heap.size (ZL g3).1);have b4:Hid (Z.ranges prog 43 YR b J.heap.size m D (fun z=>left z&&!z.sameKey (YD (H,I))) a7):=r5;have i2:Hid (a7<f8):=r1;have i3:Hid (U.ranges prog 43 YR b J.heap.size m D left f8):=f9;have d3:Hid (∀z,(left z&&!z.sameKey (YD (H,I)))=aj->ax D z=aj):=fun z hz=>h7.out z (by simp only[Bool.and_eq_true]at hz;exact hz.1)
     have r6:Hid (Jr (H,I)):=r2;have m7:Hid (Xp n k B (H,I)↔k<=cn):=by show _↔_;unfold Xp;rw[m4]
     have b5:Hid (∀W,ap prog 137 #[.agg #[.int .i64 t.1,.int .i64 t.2],.agg #[.int .i64 H,.int .i64 I]] W fun e w'=>e=.returned (.bool (Qd t (H,I)))/\ac W.heap.size W w'):=fun W=>N1 t (H,I) W
     have g1:=d6.c1;have t0:=d6.T.c0;have t1:=d6.T.c1;have c8:=d6.T.f0;have d0:=d6.T.f1;have e4:Hid (∀W,ac Z.heap.size Z W->(¬k<=cn∨found=aj/\Qd t (H,I)=F)->W.ranges prog 43 YR b J.heap.size m D (fun z=>left z&&!z.sameKey (YD (H,I))) a7/\JV n k B (fun z=>left z&&!z.sameKey (YD (H,I))) t found/\fL W w.heap.size n k (.slice p L.length cap) t (w2.heap.size+1) b B D row blk/\ac (w.heap.size+1) w4 W):=fun W K t5 =>
      ⟨rZ b4.out (K.block b (ZL b4.out).2) (K.block J.heap.size (ZL b4.out).1),UO d4.out r6.out (by rcases t5 with h|h;exact az fun hg=>h (m7.out.1 hg);exact aw h),m6.out.below K,i1.out.trans (K.mono (by have:=i1.out.size;have:=(ZL b4.out).1;omega))⟩
     have e5:Hid (∀W,ac Z.heap.size Z W->k<=cn->(found=aj->Qd t (H,I)=aj)->((W.setCell (pA (w.heap.size+1) 0) (.int .i64 H)).setCell (pA (w.heap.size+1) 1) (.int .i64 I)).ranges prog 43 YR b J.heap.size m D (fun z=>left z&&!z.sameKey (YD (H,I))) a7/\JV n k B (fun z=>left z&&!z.sameKey (YD (H,I))) (H,I) aj/\fL ((W.setCell (pA (w.heap.size+1) 0) (.int .i64 H)).setCell (pA (w.heap.size+1) 1) (.int .i64 I)) w.heap.size n k (.slice p L.length cap) (H,I) (w2.heap.size+1) b B D row blk/\ac (w.heap.size+1) w4 ((W.setCell (pA (w.heap.size+1) 0) (.int .i64 H)).setCell (pA (w.heap.size+1) 1) (.int .i64 I))):=fun W K hk hp=>by
      have t6:=rZ b4.out (K.block b (ZL b4.out).2) (K.block J.heap.size (ZL b4.out).1);have m8:=m6.out.below K;have t9:=m8.dX.aO;have u0:=m8.hB;have r7:b≠w.heap.size+1:=by omega
      have r8:J.heap.size≠w.heap.size+1:=by have:=p4.out;omega
      refine⟨rZ t6 ?_ ?_,RH d4.out r6.out (m7.out.2 hk) hp,m8.set (H,I),?_⟩
      ·rw[ah _ _ _ _ r7,ah _ _ _ _ r7]
      ·rw[ah _ _ _ _ r8,ah _ _ _ _ r8]
      ·exact((i1.out.trans (K.mono (by have:=i1.out.size;have:=(ZL b4.out).1;omega))).setCell nR _).setCell nR _
     clear q9 d9 hv r0 g3 r1 d5 t2 m4 r2 r3 m5 e3 g4 d6 r5 f9 h7 d4 a6 HB m6 m7;unfold iO X7 at t3 ⊢;by_cases g5:k<=cn
     ·have d1:decide (k<=cn)=true:=decide_eq_true g5;cases found with
      |false =>
       have O:=e5.out Z bR g5 (fun h=>by cases h);clear e4 e5 b5;go_wp2_with (rw[<-i0.out])
       exact⟨⟨_,a7,(H,I),aj,rfl,O.1,O.2.1,d3.out,O.2.2.1,O.2.2.2⟩,by rw[ag O.1,ag i3.out];exact i2.out⟩
      |true =>
       cases e6:Qd t (H,I)with
       |false =>
        rw[e6]at b5;have g6:Hid (∀W,ac Z.heap.size Z W->W.ranges prog 43 YR b J.heap.size m D (fun z=>left z&&!z.sameKey (YD (H,I))) a7/\JV n k B (fun z=>left z&&!z.sameKey (YD (H,I))) t aj/\fL W w.heap.size n k (.slice p L.length cap) t (w2.heap.size+1) b B D row blk/\ac (w.heap.size+1) w4 W):=fun W K=>e4.out W K (aw ⟨rfl,e6⟩)
        clear e4 e5 e6;go_wp2_with (rw[<-i0.out])
        refine(b5.out _).mono ?_;rintro e w8 ⟨rfl,g7⟩;have O:=g6.out w8 g7;clear g6 b5 g7;go_wp2;exact⟨⟨_,a7,t,aj,rfl,O.1,O.2.1,d3.out,O.2.2.1,O.2.2.2⟩,by rw[ag O.1,ag i3.out];exact i2.out⟩
       |true =>
        rw[e6]at b5;have g6:Hid (∀W,ac Z.heap.size Z W->((W.cell? (pA w6.heap.size 0)=aa (.int .i64 H)/\W.cell? (pA w6.heap.size 1)=aa (.int .i64 I))/\YK W (w.heap.size+1) (.int .i64 t.1) (.int .i64 t.2))/\((W.setCell (pA (w.heap.size+1) 0) (.int .i64 H)).setCell (pA (w.heap.size+1) 1) (.int .i64 I)).ranges prog 43 YR b J.heap.size m D (fun z=>left z&&!z.sameKey (YD (H,I))) a7/\JV n k B (fun z=>left z&&!z.sameKey (YD (H,I))) (H,I) aj/\fL ((W.setCell (pA (w.heap.size+1) 0) (.int .i64 H)).setCell (pA (w.heap.size+1) 1) (.int .i64 I)) w.heap.size n k (.slice p L.length cap) (H,I) (w2.heap.size+1) b B D row blk/\ac (w.heap.size+1) w4 ((W.setCell (pA (w.heap.size+1) 0) (.int .i64 H)).setCell (pA (w.heap.size+1) 1) (.int .i64 I))):=fun W K=>⟨⟨⟨(K.cell (p:=(pA w6.heap.size 0)) (Qf x0)).trans x0,(K.cell (p:=(pA w6.heap.size 1)) (Qf x0)).trans r4⟩,YK.below ⟨t0,t1,c8,d0⟩ K⟩,e5.out W K g5 (fun _=>e6)⟩
        clear e4 e5 e6;go_wp2_with (rw[<-i0.out])
        refine(b5.out _).mono ?_;rintro e w8 ⟨rfl,g7⟩;obtain⟨⟨⟨z0,z1⟩,g8⟩,O⟩:=g6.out w8 g7;clear t0 t1 c8 d0;have t0:=g8.c0;have t1:=g8.c1;have c8:=g8.f0;have d0:=g8.f1;clear g6 b5 g7 g8 x0 r4 y1;go_wp2;exact⟨⟨_,a7,(H,I),aj,rfl,O.1,O.2.1,d3.out,O.2.2.1,O.2.2.2⟩,by rw[ag O.1,ag i3.out];exact i2.out⟩
     ·have d1:decide (k<=cn)=false:=decide_eq_false g5;have O:=e4.out Z bR (az g5);clear e4 e5 b5;go_wp2_with (rw[<-i0.out])
      exact⟨⟨_,a7,t,found,rfl,O.1,O.2.1,d3.out,O.2.2.1,O.2.2.2⟩,by rw[ag O.1,ag i3.out];exact i2.out⟩
end
namespace Crc
def SS:Nat:=3988292384
def KU (c:Nat):Nat:=if c%2=1 then SS else 0
def step (c b:Nat):Nat:=c/2^^^KU (c^^^b)
def num (f:Nat->Nat):Nat->Nat
 |0=>0
 |m+1=>num f m^^^2^m*f m
end Crc
def Jt9 (w:World)(H:FuncId)(I:Array an)(l:List BA)(P:BA->Bool):Prop :=
 ∀i,i<l.length->∀B,ac w.heap.size w B->ap prog H (#[.string (Yc l i)]++I) B fun e D=>e=.returned (.bool (P (Yc l i)))/\ac B.heap.size B D
theorem JoZ (p:Option aD)(l:List BA)(cap:Nat)(K:FuncId)(a3:Array an)(P:BA->Bool)(w:World)(hl:l.length<=100000)(hs:Strs w p l)
 (a6:∀args W,Sem.run prog (callFunc K args) W=.ok (.enter K args) W) (hc:Jt9 w K a3 l P):
 ap prog 51 #[.slice p l.length cap,.func (.func K) #[] a3] w fun e w'=>(∃r:Int,e=.returned (.int .i64 r)/\((∃i:Nat,i<l.length/\r=(i:Int)/\P (Yc l i)=aj/\∀j,j<i->P (Yc l j)=F)∨r=-1/\∀j,j<l.length->P (Yc l j)=F))/\ac w.heap.size w w':=by
 have HS:Hid (Strs w p l):=hs;have HC:Hid _:=hc;clear hs hc;go_enter func51,ntmps51;go_wp2;go_loopw [8] (fun x wr=>∃i:Nat,i<=l.length/\x=.int .i64 i/\(∀j,j<i->P (Yc l j)=F)/\ac w.heap.size w wr) (fun x _=>l.length-(intOf x).toNat)
 case atStart=>exact⟨0,by omega,rfl,fun j O=>absurd O (Nat.not_lt_zero _),bc _ _⟩
 case round =>
  obtain⟨i,hi,rfl,a0,hB⟩:=hrel;have U:Hid _:=a0;have D:Hid _:=hB;clear a0 hB;by_cases I:i<l.length
  ·rcases(HS.out.below D.out)with h0|⟨b1,o1,rfl,_,a2⟩
   ·rw[h0]at I;simp at I
   have Z:=a2 i I;have B:=HC.out i I wr D.out;clear a2;cases H:P (Yc l i)with
   |true =>
    have HA:Hid _:=H;rw[H]at B;clear H;generalize Yc l i=t at Z B;go_wp2_with fail
    refine B.mono ?_;rintro e w2 ⟨rfl,J⟩;clear B;go_wp2;go_ret;exact⟨⟨(i:Int),rfl,az ⟨i,I,rfl,HA.out,U.out⟩⟩,D.out.trans (J.mono D.out.size)⟩
   |false =>
    have a4:Hid _:=H;rw[H]at B;clear H;generalize Yc l i=t at Z B;go_wp2_with fail
    refine B.mono ?_;rintro e w2 ⟨rfl,J⟩;have a5:Hid _:=D.out.trans (J.mono D.out.size);clear B J Z;go_wp2;go_roundw
    case rel =>
     refine⟨i+1,by omega,by go_num,fun j O=>?_,a5.out⟩;by_cases e:j=i
     ·rw[e];exact a4.out
     ·exact U.out j (by omega)
    case measure=>simp[intOf];omega
  ·have HN:Hid (∀j,j<l.length->P (Yc l j)=F):=fun j O=>U.out j (by omega)
   go_wp2;go_ret;exact⟨⟨-1,rfl,aw ⟨rfl,HN.out⟩⟩,D.out⟩
end Go.Proofs.YtflpelnbjekjbaaGreatDoor

/- Texts laid together. -/
import Derived.Test.YtgapmoniajcliaaGreatDoorV2
import Derived.RegionTactic
import Derived.BigRegion
set_option maxRecDepth 10000
set_option maxHeartbeats 4000000
open Option renaming some->aa,none->N
open Option.some renaming inj->ab
open Go.RowKit renaming Below->ac
open Go renaming madeCells->ae,Calls->ai,Value->ap,toList_madeCells_one->ar,below_drewN->au,info_parts->aw,run_make_row->aB,callFunc->aC,FuncId->aE
open Go.World renaming cell?_alloc_past->af,cell?_alloc_at->ag
open Nat renaming lt_irrefl->ah,not_lt_zero->aj,lt_of_lt_of_le->al,zero_add->ay,le_trans->az
open Go.Calls renaming quiet_of_same->ak
open Go.World.ownsRow renaming kept->an,frozenAt->aF,stored->aI,cellAt->aJ,lt->aY
open Go.Sem renaming run->ao
namespace Go.Proofs.YtgapmoniajcliaaGreatDoor
open Go.Proofs.Tryz
open Go.RowKit
variable {a b c w w':World}{row:Option Nat}{B n D r I k d p i j:Nat}{E:TypeId}{g f:Nat->Nat->Nat}{l:List Nat}{H:Nat->ap}{S:Nat->Prop}
theorem QL (h:a.grownBy b row)(k:b.grownBy c row):a.grownBy c row :=
 ⟨k.os.trans h.os,k.tape.trans h.tape,k.output.trans h.output,az h.size k.size,fun i B D=>(k.block i (al B h.size) D).trans (h.block i B D)⟩
theorem QD (h:ac w.heap.size w w')(row:Option Nat):w.grownBy w' row:=⟨h.os,h.tape,h.output,h.size,fun i B _=>h.block i B⟩
theorem Z8 (w:World)(g j:Nat)(v:ap):w.grownBy (w.setCell ⟨g,j,N⟩ v) (aa g) :=
 ⟨rfl,rfl,rfl,by simp[World.setCell],fun i _ B=>Below.heap_setCell w _ v i (fun e=>B (by rw[e]))⟩
theorem Zo.below {g:Nat}(h:Zo w B E g n l)(D:ac w.heap.size w w'):Zo w' B E g n l:=an h (QD D N) (Or.inr (by simp[Value.ownBlock]))
theorem zL (g n B:Nat)(D val:Nat->Nat)(O:aE)(a3:Array ap)(w:World)(hn:n<=1000)(a7:∀args W,ao prog (aC O args) W=.ok (.enter O args) W)(hO:Zo w B 5 g n (Qi n D))
 (hc:∀j,j<n->∀H,w.grownBy H (aa g)->Zo H B 5 g n (Qi n (fun i=>if i<j then val i else D i)) ->
  ai prog O (#[.int .i64 (j:Int)]++a3) H fun e U=>e=.returned (.int .u8 ((val j:Nat):Int))/\ac H.heap.size H U):
 ai prog 200 #[.slice (aa ⟨g,0,N⟩) n n,.func (.func O) #[] a3] w fun e w'=>e=.returned (.tuple #[])/\Zo w' B 5 g n (Qi n val)/\w.grownBy w' (aa g):=by
 go_enter func200,ntmps200;go_wp2;go_loopw [7] (fun x wr=>∃k:Nat,k<=n/\x=.int .i64 k/\Zo wr B 5 g n (Qi n (fun i=>if i<k then val i else D i))/\w.grownBy wr (aa g)) (fun x _=>n-(intOf x).toNat)
 case atStart=>exact⟨0,by omega,rfl,by simpa using hO,QD bR _⟩
 case round =>
  obtain⟨k,hk,rfl,I,J⟩:=hrel;by_cases a2:k<n
  ·have HC:=hc k a2 wr J I;have HO:Hid (Zo wr B 5 g n (Qi n (fun i=>if i<k then val i else D i))):=I;have HG:Hid _:=J;clear I J hc hO;go_wp2_with fail
   refine HC.mono ?_;rintro e U ⟨rfl,Z⟩;have K:=HO.out.below Z;have hf:=K.free k;have a8:=K.cell k a2 (Jf _ _);have a0:=K.set k (val k);rw[YL n _ (fun i=>if i<k+1 then val i else D i) (fun i _=>by by_cases e:i=k<;>by_cases e':i<k<;>simp[e,e']<;>omega)]at a0;have a4:Hid _:=a0;have a5:Hid (w.grownBy (U.setCell ⟨g,k,N⟩ (.int .u8 ((val k:Nat):Int))) (aa g)):=QL (QL HG.out (QD Z _)) (Z8 _ _ _ _);clear K a0 Z HC HO HG a7;go_wp2;go_roundw
   case rel=>exact⟨k+1,by omega,by go_num,a4.out,a5.out⟩
   case measure=>simp[intOf];omega
  ·have a6:k=n:=by omega
   subst a6;go_wp2
   go_end0
   refine⟨rfl,?_,J⟩;rw[YL k val (fun i=>if i<k then val i else D i) (fun i hi=>by simp[hi])];exact I
theorem JsH (n:Nat)(val:Nat->Nat)(I:aE)(a2:Array ap)(w:World)(hn:n<=1000)(a3:∀l,val l<256)(b0:∀args W,ao prog (aC I args) W=.ok (.enter I args) W)
 (B:Nat->Nat) (a4:B 0=0) (a5:∀l,B (l+1)=B l^^^val l) (a6:∀l,B l<256)
 (hc:∀l,l<n->∀H,ac w.heap.size w H->ai prog I (#[.int .i64 (l:Int)]++a2) H fun e O=>e=.returned (.int .u8 ((val l:Nat):Int))/\ac H.heap.size H O):
 ai prog 213 #[.int .i64 (n:Int),.func (.func I) #[] a2] w fun e w'=>e=.returned (.int .u8 ((B n:Nat):Int))/\ac w.heap.size w w':=by
 have U:Hid _:=a4;have Z:Hid _:=a5;clear a4 a5;go_enter func213,ntmps213;go_wp2;go_loopw [5,8] (fun s x wr=>∃k:Nat,k<=n/\x=.int .i64 k/\s=.int .u8 ((B k:Nat):Int)/\ac w.heap.size w wr) (fun _ x _=>n-(intOf x).toNat)
 case atStart=>exact⟨0,by omega,rfl,by rw[U.out];rfl,Below.refl _ _⟩
 case round =>
  obtain⟨k,hk,rfl,rfl,D⟩:=hrel;by_cases a7:k<n
  ·have J:=hc k a7 wr D;have HB:Hid _:=D;have hz:=D.size;have lt:=a6 k;have lv:=a3 k;have K:Hid _:=Z.out k;clear D hc Z U a3 a6;generalize B k=t at K lt ⊢;generalize val k=v at K lv J;go_wp2_with fail
   refine J.mono ?_;rintro e O ⟨rfl,a0⟩;have a8:Hid _:=HB.out.trans (a0.mono hz);clear a0 J HB b0;go_wp2_with (go_at_call 181;refine(oC t v _ lt lv).mono ?_;rintro e w' ⟨rfl,rfl⟩)
   go_roundw
   case rel=>exact⟨k+1,by omega,by go_num,by rw[K.out],a8.out⟩
   case measure=>simp[intOf];omega
  ·have a9:k=n:=by omega
   subst a9;go_wp2;go_ret;exact⟨rfl,D⟩
theorem Y4 {g:Nat}{row:Nat}(h:Zo w B E g n l)(D:w.grownBy w' (aa row))(H:g≠row):Zo w' B E g n l :=
 an h D (Or.inr (fun e=>H (ab e)))
def Zy (w:World)(B D r:Nat)(H:Nat->ap):Prop:=w.ownsRow B 116 1 (.slice (aa ⟨D,0,N⟩) r r) r ((List.range r).map H)
theorem Zy.made (w:World)(B r:Nat)(hB:B<=w.heap.size)(D:r<=1000000):Zy (w.alloc (.cells (ae #[.slice N 0 0] r) 116)) B w.heap.size r (fun _=>.slice N 0 0):=by
 have h:=World.ownsRow_lit (base:=B) (e:=116) (size:=1) w (ae #[.slice N 0 0] r) r hB (by unfold maxLen;omega) (by have:=congrArg List.length (ar (.slice N 0 0) r);simpa using this);rw[ar]at h;unfold Zy;rw[List.map_const',List.length_range];exact h
theorem Zy.cell (h:Zy w B D r H)(j:Nat)(I:j<r):w.cell? ⟨D,j,N⟩=aa (H j):=by
 rw[aJ (w:=w) h j (by omega),List.getElem?_map,List.getElem?_range I];rfl
theorem Zy.free (h:Zy w B D r H)(j:Nat):w.frozen? ⟨D,j,N⟩=false:=aF (w:=w) h j
theorem Zy.set (h:Zy w B D r H)(j:Nat)(v:ap):Zy (w.setCell ⟨D,j,N⟩ v) B D r (fun i=>if i=j then v else H i):=by
 have:=(aI (w:=w) h j v).1;rw[W9]at this;exact this
theorem Zy.kept (h:Zy w B D r H)(I:w.grownBy w' row)(J:row≠aa D):Zy w' B D r H :=
 an h I (Or.inr (fun e=>J e.symm))
theorem Zy.below (h:Zy w B D r H)(I:ac w.heap.size w w'):Zy w' B D r H:=h.kept (QD I N) (by simp)
theorem Zy.congr {H:Nat}{D I:Nat->ap}(h:Zy w B H r D)(K:∀i,i<r->D i=I i):Zy w B H r I:=by
 unfold Zy;rw[List.map_congr_left (g:=D) (fun i J=>(K i (List.mem_range.1 J)).symm)];exact h
theorem Zy.lt (h:Zy w B D r H):B<=D/\D<w.heap.size:=aY h D rfl
def gG (n g:Nat):Value:=.slice (aa ⟨g,0,N⟩) n n
structure iT (w:World) (B gm:Nat) (gs:Nat->Nat) (k n:Nat) (f:Nat->Nat->Nat):Prop where
 row:∀i,i<k->Zo w B 5 (gs i) n (Qi n (f i))
 ne:∀i,i<k->gs i≠gm
 inj:∀i j,i<k->j<k->gs i=gs j->i=j
structure Zv (w:World) (B gm:Nat) (gs:Nat->Nat) (r n:Nat) (f:Nat->Nat->Nat):Prop where
 rows:Zy w B gm r (fun i=>gG n (gs i))
 all:iT w B gm gs r n f
theorem iT.below {H:Nat->Nat}(h:iT w B D H k n f)(J:ac w.heap.size w w'):iT w' B D H k n f:=⟨fun i I=>(h.row i I).below J,h.ne,h.inj⟩
theorem Zv.below {H:Nat->Nat}(h:Zv w B D H r n f)(I:ac w.heap.size w w'):Zv w' B D H r n f:=⟨h.rows.below I,h.all.below I⟩
def XB (r n:Nat)(f:Nat->Nat->Nat):List (List Nat):=(List.range r).map fun i=>Qi n (f i)
theorem Zs (r n:Nat)(f:Nat->Nat->Nat):(XB r n f).length=r:=by simp[XB]
theorem XD (r n:Nat)(f:Nat->Nat->Nat)(i:Nat)(B:i<r):Qh (XB r n f) i=Qi n (f i):=by
 unfold Qh XB;rw[List.getD_eq_getElem?_getD,List.getElem?_map,List.getElem?_range B];rfl
theorem Zv.tU {K:Nat->Nat}(h:Zv w B D K r n f)(U:∀i j,f i j<256)(k:Nat)(Z:k<=r):QJ w (aa ⟨D,0,N⟩) (XB k n f):=by
 refine Or.inr ⟨D,0,rfl,h.rows.lt.2,fun i H=>?_⟩;rw[Zs]at H;have O:=h.rows.cell i (by omega);have I:=h.all.row i (by omega);rw[XD _ _ _ i H,Jf,ay];refine⟨_,_,O,⟨XL _ _ (U i),?_⟩,fun e=>by cases e⟩;refine Or.inr ⟨K i,0,rfl,I.lt.2,fun j J=>?_⟩;rw[Jf]at J;rw[ay];exact I.cell j J (Jf _ _)
theorem iT.snoc {D:Nat->Nat}{g:Nat}(h:iT w B I D k n f)(K:∀i,i<k->D i≠g)(U:g≠I)(hold:∀i,i<k->Zo w' B 5 (D i) n (Qi n (f i)))(Z:Zo w' B 5 g n (Qi n (f k))):iT w' B I (fun i=>if i=k then g else D i) (k+1) n f where
 row:=fun i J=>by
  by_cases e:i=k
  ·simp only[e,if_true];exact Z
  ·simp only[e,if_false];exact hold i (by omega)
 ne:=fun i J=>by
  by_cases e:i=k
  ·simp only[e,if_true];exact U
  ·simp only[e,if_false];exact h.ne i (by omega)
 inj:=fun i j J hj=>by
  by_cases e:i=k<;>by_cases O:j=k<;>simp only[e,O,if_true,if_false]
  ·intro _;trivial
  ·intro H;exact absurd H.symm (K j (by omega))
  ·intro H;exact absurd H (K i (by omega))
  ·exact h.inj i j (by omega) (by omega)
theorem OY (H I k j v:Nat)(D:aE)(J:Array ap)(w:World)(U:∀args W,ao prog (aC D args) W=.ok (.enter D args) W)
 (Z:w.cell? ⟨H,0,N⟩=aa (.func (.func D) #[] J)) (hI:w.cell? ⟨I,0,N⟩=aa (.int .i64 (k:Int)))
 (K:ai prog D (#[.int .i64 (k:Int),.int .i64 (j:Int)]++J) w fun e B=>e=.returned (.int .u8 (v:Int))/\ac w.heap.size w B):
 ai prog 201 #[.int .i64 (j:Int),.pointer (aa ⟨H,0,N⟩),.pointer (aa ⟨I,0,N⟩)] w fun e B=>e=.returned (.int .u8 (v:Int))/\ac w.heap.size w B:=by
 go_enter func201,ntmps201;go_wp2_with fail
 refine K.mono ?_;rintro e B ⟨rfl,O⟩;clear U K Z hI;go_wp2;go_ret;exact⟨rfl,O⟩
theorem tP (r n:Nat)(val:Nat->Nat->Nat)(O:aE)(U:Array ap)(w:World)(hr:r<=1000)(hn:n<=1000)(e9:∀args W,ao prog (aC O args) W=.ok (.enter O args) W)
 (hc:∀i j,i<r->j<n->∀K,ac w.heap.size w K->ai prog O (#[.int .i64 (i:Int),.int .i64 (j:Int)]++U) K fun e Z=>e=.returned (.int .u8 ((val i j:Nat):Int))/\ac K.heap.size K Z):
 ai prog 176 #[.int .i64 (r:Int),.int .i64 (n:Int),.func (.func O) #[] U] w fun e w'=>(∃gm D,e=.returned (.slice (aa ⟨gm,0,N⟩) r r)/\Zv w' w.heap.size gm D r n val)/\ac w.heap.size w w':=by
 obtain⟨i1,b3,b4,b5,b6⟩:=aw Jti;obtain⟨i0,b7,b8,c8,d0⟩:=aw KF;have HC:Hid _:=hc;have f3:Hid _:=e9;clear hc e9;go_enter func176,ntmps176;go_wp2_with (first|(at_make;refine wpList_make_row _ rfl (.tmp 9) (.tmp 9) 222 rfl 116 i1 (.slice N 0 0) underlying222 b3 b4 b5 rfl .i64 .i64 r rfl rfl (by rw[b6];omega) (by omega) ?_))
 obtain⟨Z,a2⟩:=Xb ((w.alloc (.cells #[.func (.func O) #[] U] 230)).alloc (.cells (ae #[.slice N 0 0] r) 116));rw[<-a2];have d1:Hid (Zy Z w.heap.size (w.heap.size+1) r (fun _=>.slice N 0 0)):=by
  show Zy _ _ _ _ _;have:=Zy.made (w.alloc (.cells #[.func (.func O) #[] U] 230)) w.heap.size r (by simp) (by omega);rw[a2];simpa using this
 have d2:Hid (ac w.heap.size w Z):=by
  show ac _ _ _;rw[a2];exact(bR.alloc nR _).alloc (by simp) _
 have d3:Hid (Z.cell? (pA w.heap.size 0)=aa (.func (.func O) #[] U)):=by
  show _=_;rw[a2,af _ _ _ (by simp),ag _ _ _ _ rfl];rfl
 clear a2;have f4:∀W:World,ao prog (Instr.makeSlice 116 (.int .i64 (n:Int)) (.int .i64 (n:Int))) W=.ok (.slice (aa (pA W.heap.size 0)) n n) (W.alloc (.cells (ae #[ZM 0] n) 5)):=fun W=>aB (P:=prog) 116 5 i0 (ZM 0) underlying116 b7 b8 c8 rfl .i64 .i64 n (by rw[d0];omega) (by omega) W
 clear b3 b4 b5 b6 b7 b8 c8 d0;go_loopw [13] (fun x wr=>∃(k:Nat) (D:Nat->Nat),k<=r/\x=.int .i64 k/\Zy wr w.heap.size (w.heap.size+1) r (fun i=>if i<k then gG n (D i)else .slice N 0 0)/\iT wr w.heap.size (w.heap.size+1) D k n val/\ac w.heap.size w wr/\wr.cell? (pA w.heap.size 0)=aa (.func (.func O) #[] U)) (fun x _=>r-(intOf x).toNat)
 case atStart=>exact⟨0,fun _=>0,by omega,rfl,by simpa using d1.out,⟨fun i H=>absurd H (aj _),fun i H=>absurd H (aj _),fun i j H=>absurd H (aj _)⟩,d2.out,d3.out⟩
 case round =>
  obtain⟨k,D,hk,rfl,hS,hK,hB,hA⟩:=hrel;obtain⟨B,rfl⟩:=Xb wr;have HS:Hid (Zy B w.heap.size (w.heap.size+1) r (fun i=>if i<k then gG n (D i)else .slice N 0 0)):=hS;have HK:Hid _:=hK;have HB:Hid _:=hB;have HA:Hid (B.cell? (pA w.heap.size 0)=aa (.func (.func O) #[] U)):=hA;have g8:w.heap.size+1<B.heap.size:=hS.lt.2;clear d1 d2 d3 hS hK hB hA;by_cases b0:k<r
  ·go_wp2;obtain⟨I,a3⟩:=Xb (B.alloc (.cells #[.int .i64 (k:Int)] 3));rw[<-a3];have a4:=Zk a3;have f5:=QT a3;have d4:I.cell? (pA B.heap.size 0)=aa (.int .i64 (k:Int)):=XX a3 rfl;have d5:=HS.out.below a4;have d6:=HK.out.below a4;have d7:Hid (ac w.heap.size w I):=HB.out.trans (a4.mono (by omega));have d8:Hid (I.cell? (pA w.heap.size 0)=aa (.func (.func O) #[] U)):=(a4.cell (p:=(pA w.heap.size 0)) (by show w.heap.size<_;omega)).trans HA.out;have d9:Hid (Zy I w.heap.size (w.heap.size+1) r (fun i=>if i<k then gG n (D i)else .slice N 0 0)):=d5;have a7:Hid (iT I w.heap.size (w.heap.size+1) D k n val):=d6;clear a3 a4 d5 d6 HS HK HB HA;have a8:=d9.out.below ((Below.refl _ I).alloc nR (.cells (ae #[ZM 0] n) 5));have hf:(I.alloc (.cells (ae #[ZM 0] n) 5)).frozen? (pA (w.heap.size+1) k)=false:=a8.free k;have f6:(I.alloc (.cells (ae #[ZM 0] n) 5)).cell? (pA (w.heap.size+1) k)=aa (.slice N 0 0):=by rw[a8.cell k b0,if_neg (ah _)]
   have e0:Hid (Zy (I.alloc (.cells (ae #[ZM 0] n) 5)) w.heap.size (w.heap.size+1) r (fun i=>if i<k then gG n (D i)else .slice N 0 0)):=a8;clear a8;go_region
   obtain⟨J,a5⟩:=Xb (((I.alloc (.cells (ae #[ZM 0] n) 5)).setCell (pA (w.heap.size+1) k) (.slice (aa (pA (B.heap.size+1) 0)) n n)).drew);rw[<-a5];have a0:I.grownBy J (aa (w.heap.size+1)):=by
    rw[a5];exact QL (World.grownBy_alloc I _ _) (QL (Z8 _ _ _ _) (JO _ 1 _))
   have b1:Zy J w.heap.size (w.heap.size+1) r (fun i=>if i<k+1 then gG n (if i=k then B.heap.size+1 else D i)else .slice N 0 0):=by
    have h1:=e0.out.set k (.slice (aa (pA (B.heap.size+1) 0)) n n);rw[a5];refine Zy.congr (Zy.kept h1 (JO _ 1 N) (by simp)) (fun i _=>?_);by_cases e:i=k
    ·simp[e,gG]
    ·by_cases e':i<k
     ·simp[e,e',show i<k+1 by omega]
     ·simp[e,e',show ¬i<k+1 by omega]
   have e1:Zo J w.heap.size 5 (B.heap.size+1) n (Qi n fun _=>0):=by
    have h1:=Zo.made I w.heap.size 5 n (by omega) (by omega);rw[f5]at h1;rw[a5];exact Y4 (row:=w.heap.size+1) h1 (QL (Z8 _ _ _ _) (JO _ 1 _)) (by omega)
   have e2:J.cell? (pA w.heap.size 0)=aa (.func (.func O) #[] U):=a0.cell d8.out (by show aa w.heap.size≠_;intro e;have:=ab e;omega);have f7:J.cell? (pA B.heap.size 0)=aa (.int .i64 (k:Int)):=a0.cell d4 (by show aa B.heap.size≠_;intro e;have:=ab e;omega);have e3:Hid (ac w.heap.size w J):=d7.out.grown a0 (by omega) (fun k' a6=>by have:=ab a6;omega);have e4:∀i,i<k->Zo J w.heap.size 5 (D i) n (Qi n (val i)):=fun i H=>Y4 (a7.out.row i H) a0 (a7.out.ne i H)
   have g9:J.cell? (pA (w.heap.size+1) k)=aa (.slice (aa (pA (B.heap.size+1) 0)) n n):=by rw[b1.cell k b0];simp[gG]
   have e5:∀i,i<k->D i<I.heap.size:=fun i H=>(a7.out.row i H).lt.2
   have e6:∀i,i<k->D i≠B.heap.size+1:=fun i H e=>by have:=e5 i H;omega
   have h0:I.heap.size<=J.heap.size:=a0.size;have f8:Hid (Zy J w.heap.size (w.heap.size+1) r (fun i=>if i<k+1 then gG n (if i=k then B.heap.size+1 else D i)else .slice N 0 0)):=b1;have f9:Hid (Zo J w.heap.size 5 (B.heap.size+1) n (Qi n fun _=>0)):=e1;have g0:Hid (∀i,i<k->Zo J w.heap.size 5 (D i) n (Qi n (val i))):=e4;have e7:Hid (∀i,i<k->D i≠B.heap.size+1):=e6;have e8:Hid (J.cell? (pA w.heap.size 0)=aa (.func (.func O) #[] U)):=e2;clear a5 a0 b1 e1 e4 e5 e6 e0 d9 d7 d8 hf f6 d4 f4 e2;have g1:Hid (∀j,j<n->∀K,J.grownBy K (aa (B.heap.size+1))->Zo K w.heap.size 5 (B.heap.size+1) n (Qi n (fun i=>if i<j then val k i else 0)) ->
    ai prog 201 (#[.int .i64 (j:Int)]++#[.pointer (aa (pA w.heap.size 0)),.pointer (aa (pA B.heap.size 0))]) K fun e Z=>e=.returned (.int .u8 ((val k j:Nat):Int))/\ac K.heap.size K Z):=by
    intro j hj K b2 _;exact OY w.heap.size B.heap.size k j (val k j) O U K f3.out (b2.cell e8.out (by show aa w.heap.size≠_;intro e;have:=ab e;omega)) (b2.cell f7 (by show aa B.heap.size≠_;intro e;have:=ab e;omega)) (HC.out k j b0 hj K (e3.out.grown b2 (by omega) (fun k' a6=>by have:=ab a6;omega)))
   go_wp2_with (go_at_call 200;refine(zL (B.heap.size+1) n w.heap.size (fun _=>0) (val k) 201 #[.pointer (aa (pA w.heap.size 0)),.pointer (aa (pA B.heap.size 0))] J hn (enters_of func201 (by kernel_rfl) rfl) f9.out g1.out).mono ?_;rintro e w6 ⟨rfl,g2,a9⟩)
   have g3:=f8.out.kept a9 (by intro e;have:=ab e;omega);have g4:=a7.out.snoc (w':=w6) e7.out (by omega) (fun i H=>Y4 (g0.out i H) a9 (e7.out i H)) g2;have g5:ac w.heap.size w w6:=e3.out.grown a9 (by omega) (fun k' a6=>by have:=ab a6;omega);have g6:=a9.cell e8.out (by show aa w.heap.size≠_;intro e;have:=ab e;omega);go_roundw
   case rel=>exact⟨k+1,fun i=>if i=k then B.heap.size+1 else D i,by omega,by go_num,g3,g4,g5,g6⟩
   case measure=>simp[intOf];omega
  ·have g7:k=r:=by omega
   subst g7;go_wp2;go_ret;exact⟨⟨_,D,rfl,⟨HS.out.congr (fun i H=>by simp[H]),HK.out⟩⟩,HB.out⟩
structure ZI (S:Nat->Prop) (w w':World):Prop where
 os:w'.os=w.os
 tape:w'.tape=w.tape
 output:w'.output=w.output
 size:w.heap.size<=w'.heap.size
 block:∀k,k<w.heap.size->¬S k->w'.heap[k]?=w.heap[k]?
theorem ZI.trans (h:ZI S a b)(k:ZI S b c):ZI S a c :=
 ⟨k.os.trans h.os,k.tape.trans h.tape,k.output.trans h.output,az h.size k.size,fun i B D=>(k.block i (al B h.size) D).trans (h.block i B D)⟩
theorem ZP (h:ac w.heap.size w w'):ZI S w w':=⟨h.os,h.tape,h.output,h.size,fun i B _=>h.block i B⟩
theorem zO {row:Nat}(h:w.grownBy w' (aa row))(H:S row):ZI S w w':=⟨h.os,h.tape,h.output,h.size,fun i B D=>h.block i B (fun e=>D (by rw[ab e];exact H))⟩
theorem ZI.cell (h:ZI S w w'){b o:Nat}{v:ap}(B:w.cell? ⟨b,o,N⟩=aa v)(D:¬S b):w'.cell? ⟨b,o,N⟩=aa v :=
 (World.cell?_of_block (a:=⟨b,o,N⟩) (h.block b (Qf B) D)).trans B
theorem ZI.below (h:ZI S w w')(hB:∀k,S k->B<=k)(I:B<=w.heap.size):ac B w w':=⟨h.os,h.tape,h.output,h.size,fun k H=>h.block k (by omega) (fun D=>by have:=hB k D;omega)⟩
def j7 (g:Nat->Nat->Nat)(d p k:Nat):Nat->Nat->Nat:=fun i j=>if i=d then Gf.mul (Gf.inv (g p k)) (g p j)else if i=p then g d j else g i j
def QH (h:Nat->Nat->Nat)(d k:Nat):Nat->Nat->Nat:=fun i j=>if i=d then h i j else h i j^^^Gf.mul (h i k) (h d j)
theorem yD (h:∀i j,g i j<256)(d p k i j:Nat):j7 g d p k i j<256:=by
 unfold j7;split
 ·exact Gf.aV (Gf.cQ _) _
 ·split<;>exact h _ _
theorem WL (h:∀i j,g i j<256)(d k i j:Nat):QH g d k i j<256:=by
 unfold QH;split
 ·exact h _ _
 ·exact Gf.iK (h _ _) (Gf.aV (h _ _) _)
def YW {α:Type}(g:Nat->α)(d p:Nat):Nat->α:=fun i=>if i=d then g p else if i=p then g d else g i
theorem oI {α:Type}(g:Nat->α)(d p i:Nat):YW g d p i=g (if i=d then p else if i=p then d else i):=by
 unfold YW;by_cases a:i=d
 ·rw[if_pos a,if_pos a]
 ·by_cases b:i=p
  ·rw[if_neg a,if_neg a,if_pos b,if_pos b]
  ·rw[if_neg a,if_neg a,if_neg b,if_neg b]
theorem pN (B:d<r)(D:p<r)(H:i<r):(if i=d then p else if i=p then d else i)<r:=by
 by_cases a:i=d
 ·rw[if_pos a];exact D
 ·by_cases b:i=p
  ·rw[if_neg a,if_pos b];exact B
  ·rw[if_neg a,if_neg b];exact H
theorem Jq3 (h:(if i=d then p else if i=p then d else i)=(if j=d then p else if j=p then d else j)):i=j:=by
 split at h<;>split at h<;>(try split at h)<;>(try split at h)<;>omega
theorem iT.swap {K:Nat}{J:Nat->Nat}(h:iT w B K J r n f)(H:d<r)(I:p<r)(U:∀i,i<r->Zo w' B 5 (J i) n (Qi n (f i))):iT w' B K (YW J d p) r n (YW f d p) where
 row:=fun i D=>by rw[oI,oI];exact U _ (pN H I D)
 ne:=fun i D=>by rw[oI];exact h.ne _ (pN H I D)
 inj:=fun i j D O e=>by rw[oI,oI]at e;exact Jq3 (h.inj _ _ (pN H I D) (pN H I O) e)
theorem Zv.swap {H:Nat->Nat}(h:Zv w B I H r n f)(O:d<r)(U:p<r):Zv ((w.setCell ⟨I,d,N⟩ (gG n (H p))).setCell ⟨I,p,N⟩ (gG n (H d))).drew B I (YW H d p) r n (YW f d p):=by
 have K:w.grownBy ((w.setCell ⟨I,d,N⟩ (gG n (H p))).setCell ⟨I,p,N⟩ (gG n (H d))).drew (aa I):=QL (Z8 _ _ _ _) (QL (Z8 _ _ _ _) (JO _ 1 _));refine⟨?_,h.all.swap O U (fun i J=>Y4 (h.all.row i J) K (h.all.ne i J))⟩;refine Zy.congr (Zy.kept ((h.rows.set d (gG n (H p))).set p (gG n (H d))) (JO _ 1 N) (by simp)) (fun i _=>?_);unfold YW;by_cases e:i=p
 ·by_cases D:i=d
  ·rw[if_pos e,if_pos D,<-e,<-D]
  ·rw[if_pos e,if_neg D,if_pos e]
 ·by_cases D:i=d
  ·rw[if_neg e,if_pos D,if_pos D]
  ·rw[if_neg e,if_neg D,if_neg D,if_neg e]
theorem Zv.change {D:Nat->Nat}{v:Nat->Nat}(h:Zv w B I D r n f)(J:d<r)(K:w.grownBy w' (aa (D d)))(U:Zo w' B 5 (D d) n (Qi n v)):Zv w' B I D r n (fun i=>if i=d then v else f i) where
 rows:=h.rows.kept K (fun e=>h.all.ne d J (ab e))
 all:=⟨fun i H=>by
  by_cases e:i=d
  ·simp only[e,if_true];exact U
  ·simp only[e,if_false];exact Y4 (h.all.row i H) K (fun O=>e (h.all.inj i d H J O)),h.all.ne,h.all.inj⟩
theorem Zv.congr {H:Nat}{I:Nat->Nat}{D:Nat->Nat->Nat}(h:Zv w B H I r n f)(J:∀i j,f i j=D i j):Zv w B H I r n D:=by
 have:f=D:=funext fun i=>funext fun j=>J i j
 rw[<-this];exact h
theorem K6 (ps B g n j s x:Nat)(w:World)(I:w.cell? ⟨ps,0,N⟩=aa (.int .u8 (s:Int)))(J:w.cell? ⟨B,0,N⟩=aa (.slice (aa ⟨g,0,N⟩) n n))(K:w.cell? ⟨g,j,N⟩=aa (.int .u8 (x:Int)))(O:j<n)(ls:s<256)(H:x<256):
 ai prog 216 #[.int .i64 (j:Int),.pointer (aa ⟨ps,0,N⟩),.pointer (aa ⟨B,0,N⟩)] w fun e D=>e=.returned (.int .u8 ((Gf.mul s x:Nat):Int))/\ac w.heap.size w D:=by
 go_enter func216,ntmps216;go_wp2;go_quiet ((go_at_call 182;exact ak (mI s x _ ls H)))
 go_wp2;go_ret;exact⟨rfl,au bR _⟩
theorem Jq4 (S:Nat->Prop)(B H:Nat)(D:Nat->Nat)(r n d c:Nat)(f:Nat->Nat->Nat)(z:Addr)(w:World)(hr:r<=1000)(hn:n<=1000)(hd:d<=r)(hc:c<n)(hf:∀i j,f i j<256)(hG:Zv w B H D r n f)(e6:S H)(d4:∀i,i<r->S (D i))(f6:9 <B)
 (hz:w.cell? ⟨9,0,N⟩=aa (.iface 287 (.pointer (aa z)))):
 ai prog 202 #[.slice (aa ⟨H,0,N⟩) r r,.int .i64 (d:Int),.int .i64 (c:Int)] w fun e w'=>ZI S w w' /\
  ((e=.returned (.bool false)/\(∀i,d<=i->i<r->f i c=0)/\Zv w' B H D r n f) ∨
   (e=.returned (.bool true)/\∃p b1,d<=p/\p<r/\f p c≠0/\(∀i,i<r->S (b1 i))/\Zv w' B H b1 r n (j7 f d p c))):=by
 have HG:Hid _:=hG;have HZ:Hid _:=hz;clear hG hz;go_enter func202,ntmps202;go_wp2;go_loopw [7] (fun x wr=>∃i:Nat,d<=i/\i<=r/\x=.int .i64 i/\(∀K,d<=K->K<i->f K c=0)/\ac w.heap.size w wr) (fun x _=>r-(intOf x).toNat)
 case atStart=>exact⟨d,Nat.le_refl _,hd,rfl,fun K h1 h2=>by omega,Below.refl _ _⟩
 case round =>
  obtain⟨i,d5,e7,rfl,h0,hB⟩:=hrel;obtain⟨w3,rfl⟩:=Xb wr;have H0:Hid _:=h0;have HB:Hid _:=hB;have a0:Hid _:=HG.out.below hB;clear h0 hB;by_cases U:i<r
  ·have c1:w3.cell? ⟨H,i,N⟩=aa (.slice (aa ⟨D i,0,N⟩) n n):=a0.out.rows.cell i U;have c2:w3.cell? ⟨D i,c,N⟩=aa (.int .u8 ((f i c:Nat):Int)):=by rw[(a0.out.all.row i U).cell c hc (Jf _ _),Yq _ _ c hc]
   have lx:=hf i c;by_cases hx:f i c=0
   ·have d6:w3.cell? ⟨9,0,N⟩=aa (.iface 287 (.pointer (aa z))):=(HB.out.cell (p:=⟨9,0,N⟩) (by have:=HG.out.rows.lt;show 9 <_;omega)).trans HZ.out;have HX:Hid _:=hx;rw[hx]at c2;clear hx lx;go_wp2_with (go_at_call 215;refine(NL z _ d6).mono ?_;rintro e I ⟨rfl,b2⟩)
    go_roundw
    case rel =>
     refine⟨i+1,by omega,by omega,by go_num,fun K h1 h2=>?_,?_⟩
     ·by_cases e:K=i
      ·rw[e];exact HX.out
      ·exact H0.out K h1 (by omega)
     ·exact(HB.out.trans (b2.mono HB.out.size)).alloc (by have:=b2.size;have:=HB.out.size;omega) _
    case measure=>simp[intOf];omega
   ·have HX:Hid (f i c≠0):=hx;have HI:=TG (f i c) w3 lx hx;clear hx;go_wp2_with (first|(go_at_call 215;refine HI.mono ?_;rintro e I ⟨rfl,rfl⟩))
    clear HI c1 c2;have a2:d<r:=by omega
    have lv:=Gf.cQ (f i c);obtain⟨O,a4⟩:=Xb (I.alloc (.cells #[.int .u8 ((Gf.inv (f i c):Nat):Int)] 5));rw[<-a4];have a9:=Zk a4;have e8:=QT a4;have b3:O.cell? ⟨I.heap.size,0,N⟩=aa (.int .u8 ((Gf.inv (f i c):Nat):Int)):=XX a4 rfl;have a3:Hid _:=a0.out.below a9;have b4:Hid (ZI S w O):=ZP (HB.out.trans (a9.mono HB.out.size));have e9:=a0.out.rows.lt.2;have f3:D i<I.heap.size:=(a0.out.all.row i U).lt.2;clear a4 a9;have d1:O.cell? ⟨H,i,N⟩=aa (.slice (aa ⟨D i,0,N⟩) n n):=a3.out.rows.cell i U;have d2:O.cell? ⟨H,d,N⟩=aa (.slice (aa ⟨D d,0,N⟩) n n):=a3.out.rows.cell d a2;have f1:O.frozen? ⟨H,i,N⟩=false:=a3.out.rows.free i;have f2:O.frozen? ⟨H,d,N⟩=false:=a3.out.rows.free d;obtain⟨v',d7⟩:=cell?_setCell_some (w:=O) (p:=⟨H,d,N⟩) (x:=.slice (aa ⟨D i,0,N⟩) n n) (q:=⟨H,i,N⟩) (v:=.slice (aa ⟨D i,0,N⟩) n n) d1;go_region
    obtain⟨J,a6⟩:=Xb (((O.setCell ⟨H,d,N⟩ (.slice (aa ⟨D i,0,N⟩) n n)).setCell ⟨H,i,N⟩ (.slice (aa ⟨D d,0,N⟩) n n)).drew);rw[<-a6];have b0:Hid (Zv J B H (YW D d i) r n (YW f d i)):=by
     show Zv _ _ _ _ _ _ _;rw[a6];exact a3.out.swap a2 U
    have a7:O.grownBy J (aa H):=by
     rw[a6];exact QL (Z8 _ _ _ _) (QL (Z8 _ _ _ _) (JO _ 1 _))
    have b5:J.cell? ⟨I.heap.size,0,N⟩=aa (.int .u8 ((Gf.inv (f i c):Nat):Int)):=a7.cell b3 (by show aa I.heap.size≠_;intro e;have:=ab e;omega);have b6:Hid (ZI S w J):=b4.out.trans (zO a7 e6);have f4:O.heap.size<=J.heap.size:=a7.size;clear a6 a7 d1 d2 f1 f2 d7 b3 a3 b4;have sd:YW D d i d=D i:=if_pos rfl;have sf:YW f d i d=f i:=if_pos rfl;have c6:J.cell? ⟨H,d,N⟩=aa (.slice (aa ⟨D i,0,N⟩) n n):=by have:=b0.out.rows.cell d a2;rw[sd]at this;exact this
    obtain⟨Z,a5⟩:=Xb (J.alloc (.cells #[.slice (aa ⟨D i,0,N⟩) n n] 116));have a8:=Zk a5;have f5:=QT a5;have b7:Z.cell? ⟨J.heap.size,0,N⟩=aa (.slice (aa ⟨D i,0,N⟩) n n):=XX a5 rfl;have b8:Z.cell? ⟨I.heap.size,0,N⟩=aa (.int .u8 ((Gf.inv (f i c):Nat):Int)):=(a8.cell (p:=⟨I.heap.size,0,N⟩) (by show I.heap.size<_;omega)).trans b5;have c8:Hid (Zv Z B H (YW D d i) r n (YW f d i)):=b0.out.below a8;have d8:Hid (ZI S w Z):=b6.out.trans (ZP a8);have d9:Hid (Zo Z B 5 (D i) n (Qi n (f i))):=by have:=c8.out.all.row d a2;rw[sd,sf]at this;exact this
    have e0:Hid (∀j,j<n->∀w1,Z.grownBy w1 (aa (D i))->Zo w1 B 5 (D i) n (Qi n (fun l=>if l<j then Gf.mul (Gf.inv (f i c)) (f i l)else f i l)) ->
     ai prog 216 (#[.int .i64 (j:Int)]++#[.pointer (aa ⟨I.heap.size,0,N⟩),.pointer (aa ⟨J.heap.size,0,N⟩)]) w1 fun e w2=>e=.returned (.int .u8 ((Gf.mul (Gf.inv (f i c)) (f i j):Nat):Int))/\ac w1.heap.size w1 w2):=by
     intro j hj w1 d0 e1;refine K6 I.heap.size J.heap.size (D i) n j (Gf.inv (f i c)) (f i j) w1 (d0.cell b8 (by show aa I.heap.size≠_;intro e;have:=ab e;omega)) (d0.cell b7 (by show aa J.heap.size≠_;intro e;have:=ab e;omega)) ?_ hj lv (hf i j);rw[e1.cell j hj (Jf _ _),Yq _ _ j hj,if_neg (ah _)]
    have e2:Hid (Z=J.alloc (.cells #[.slice (aa ⟨D i,0,N⟩) n n] 116)):=a5;clear a5 a8 b5 b7 b8 b0 b6 sd sf hf;go_wp2_with (go_at_call 200;rw[<-e2.out];refine(zL (D i) n B (f i) (fun l=>Gf.mul (Gf.inv (f i c)) (f i l)) 216 #[.pointer (aa ⟨I.heap.size,0,N⟩),.pointer (aa ⟨J.heap.size,0,N⟩)] Z hn (enters_of func216 (by kernel_rfl) rfl) d9.out e0.out).mono ?_;rintro e w8 ⟨rfl,e3,d3⟩)
    go_ret;have sd:YW D d i d=D i:=if_pos rfl;refine⟨d8.out.trans (zO d3 (d4 i U)),Or.inr ⟨rfl,i,YW D d i,d5,U,HX.out,fun K e4=>by rw[oI];exact d4 _ (pN a2 U e4),?_⟩⟩;refine Zv.congr (c8.out.change (v:=fun l=>Gf.mul (Gf.inv (f i c)) (f i l)) a2 (by rw[sd];exact d3) (by rw[sd];exact e3)) (fun K j=>?_);unfold j7 YW;by_cases e:K=d
    ·rw[if_pos e,if_pos e]
    ·by_cases e':K=i
     ·rw[if_neg e,if_neg e,if_neg e,if_pos e',if_pos e']
     ·rw[if_neg e,if_neg e,if_neg e,if_neg e',if_neg e']
  ·have e5:i=r:=by omega
   subst e5;go_wp2;go_ret;exact⟨ZP HB.out,Or.inl ⟨rfl,H0.out,a0.out⟩⟩
theorem RU (B D H I g J K n r j fr t x y:Nat)(w:World)(hr:w.cell? ⟨B,0,N⟩=aa (.slice (aa ⟨g,0,N⟩) n n))(ht:w.cell? ⟨D,0,N⟩=aa (.int .u8 (t:Int)))(hm:w.cell? ⟨H,0,N⟩=aa (.slice (aa ⟨J,0,N⟩) r r))(hf:w.cell? ⟨I,0,N⟩=aa (.int .i64 (fr:Int)))
 (hg:w.cell? ⟨J,fr,N⟩=aa (.slice (aa ⟨K,0,N⟩) n n)) (hx:w.cell? ⟨g,j,N⟩=aa (.int .u8 (x:Int))) (hy:w.cell? ⟨K,j,N⟩=aa (.int .u8 (y:Int))) (hj:j<n) (a0:fr<r) (lt:t<256) (Z:x<256) (ly:y<256):
 ai prog 217 #[.int .i64 (j:Int),.pointer (aa ⟨B,0,N⟩),.pointer (aa ⟨D,0,N⟩),.pointer (aa ⟨H,0,N⟩),.pointer (aa ⟨I,0,N⟩)] w fun e O=>e=.returned (.int .u8 ((x^^^Gf.mul t y:Nat):Int))/\ac w.heap.size w O:=by
 have U:=Gf.aV lt y;go_enter func217,ntmps217;go_wp2;go_quiet ((first|(go_at_call 182;exact ak (mI t y _ lt ly))|(go_at_call 181;exact ak (oC x (Gf.mul t y) _ Z U))))
 go_wp2;go_ret;exact⟨rfl,au bR _⟩
theorem JpO (S:Nat->Prop)(B I:Nat)(D:Nat->Nat)(r n d c:Nat)(f:Nat->Nat->Nat)(w:World)(hr:r<=1000)(hn:n<=1000)(hd:d<r)(hc:c<n)(hf:∀i j,f i j<256)(hG:Zv w B I D r n f)(d1:∀i,i<r->S (D i))(d2:∀k,S k->k<w.heap.size)(e5:S I):
 ai prog 203 #[.slice (aa ⟨I,0,N⟩) r r,.int .i64 (d:Int),.int .i64 (c:Int)] w fun e w'=>e=.returned (.tuple #[])/\ZI S w w'/\Zv w' B I D r n (QH f d c):=by
 have HG:Hid _:=hG;have b2:Hid _:=d2;clear hG d2;go_enter func203,ntmps203;go_wp2;obtain⟨Z,a0⟩:=Xb ((w.alloc (.cells #[.slice (aa (pA I 0)) r r] 222)).alloc (.cells #[.int .i64 (d:Int)] 3));rw[<-a0];have a7:Hid (ac w.heap.size w Z):=by
  show ac _ _ _;rw[a0];exact(bR.alloc nR _).alloc (by simp) _
 have e6:Z.heap.size=w.heap.size+2:=by rw[a0];simp
 have b3:Hid (Z.cell? (pA w.heap.size 0)=aa (.slice (aa (pA I 0)) r r)):=by
  show _=_;rw[a0,af _ _ _ (by simp),ag _ _ _ _ rfl];rfl
 have b4:Hid (Z.cell? (pA (w.heap.size+1) 0)=aa (.int .i64 (d:Int))):=by
  show _=_;rw[a0,ag _ _ _ _ (by simp)];rfl
 clear a0;go_loopw [11] (fun x wr=>∃k:Nat,k<=r/\x=.int .i64 k/\Zv wr B I D r n (fun i j=>if i<k then QH f d c i j else f i j)/\ZI S w wr/\w.heap.size+2<=wr.heap.size/\wr.cell? (pA w.heap.size 0)=aa (.slice (aa (pA I 0)) r r)/\wr.cell? (pA (w.heap.size+1) 0)=aa (.int .i64 (d:Int))) (fun x _=>r-(intOf x).toNat)
 case atStart=>exact⟨0,by omega,rfl,by simpa using HG.out.below a7.out,ZP a7.out,by omega,b3.out,b4.out⟩
 case round =>
  obtain⟨k,hk,rfl,b5,b6,e7,b7,a8⟩:=hrel;obtain⟨H,rfl⟩:=Xb wr;have J:Hid _:=b5;have a9:Hid _:=b6;have b8:Hid _:=b7;clear b5 b6 a7 b3 b4 b7;by_cases K:k<r
  ·have c1:H.cell? (pA I k)=aa (.slice (aa ⟨D k,0,N⟩) n n):=J.out.rows.cell k K;have e8:(H.alloc (.cells #[.slice (aa ⟨D k,0,N⟩) n n] 116)).cell? (pA (w.heap.size+1) 0)=aa (.int .i64 (d:Int)):=(af _ _ _ (by show w.heap.size+1<_;omega)).trans a8;by_cases a6:k=d
   ·have ht:((k:Int) !=(d:Int))=false:=by simp;omega
    have HE:Hid (∀i j,(if i<k then QH f d c i j else f i j)=if i<k+1 then QH f d c i j else f i j):=fun i j=>by
     by_cases e:i<k
     ·rw[if_pos e,if_pos (by omega)]
     ·by_cases e':i=k
      ·rw[if_neg e,if_pos (by omega)];unfold QH;rw[if_pos (by omega)]
      ·rw[if_neg e,if_neg (by omega)]
    clear a6;go_wp2;have hb:ac H.heap.size H (H.alloc (.cells #[.slice (aa ⟨D k,0,N⟩) n n] 116)):=bR.alloc nR _;go_roundw
    case rel=>exact⟨k+1,by omega,by go_num,Zv.congr (J.out.below hb) HE.out,a9.out.trans (ZP hb),by simp;omega,(hb.cell (p:=(pA w.heap.size 0)) (by show w.heap.size<_;omega)).trans b8.out,(hb.cell (p:=(pA (w.heap.size+1) 0)) (by show w.heap.size+1<_;omega)).trans a8⟩
    case measure=>simp[intOf];omega
   ·have ht:((k:Int) !=(d:Int))=true:=by simp;omega
    have e9:Hid _:=a6;have fk:(fun j=>if k<k then QH f d c k j else f k j)=f k:=funext fun j=>if_neg (ah _)
    have fd:∀j,(if d<k then QH f d c d j else f d j)=f d j:=fun j=>by
     by_cases e:d<k
     ·rw[if_pos e];unfold QH;rw[if_pos rfl]
     ·rw[if_neg e]
    have c2:H.cell? ⟨D k,c,N⟩=aa (.int .u8 ((f k c:Nat):Int)):=by
     have:=J.out.all.row k K;rw[fk]at this;rw[this.cell c hc (Jf _ _),Yq _ _ c hc]
    have c3:(H.alloc (.cells #[.slice (aa ⟨D k,0,N⟩) n n] 116)).cell? ⟨D k,c,N⟩=aa (.int .u8 ((f k c:Nat):Int)):=(af _ _ _ (Qf c2)).trans c2;have lt:=hf k c;have f3:=b2.out _ (d1 k K);have f4:=b2.out _ e5;obtain⟨O,a2⟩:=Xb ((H.alloc (.cells #[.slice (aa ⟨D k,0,N⟩) n n] 116)).alloc (.cells #[.int .u8 ((f k c:Nat):Int)] 5));have a4:ac H.heap.size H O:=by rw[a2];exact(bR.alloc nR _).alloc (by simp) _
    have f5:O.heap.size=H.heap.size+2:=by rw[a2];simp
    have c8:O.cell? (pA H.heap.size 0)=aa (.slice (aa ⟨D k,0,N⟩) n n):=by rw[a2,af _ _ _ (by simp),ag _ _ _ _ rfl];rfl
    have d0:O.cell? (pA (H.heap.size+1) 0)=aa (.int .u8 ((f k c:Nat):Int)):=by rw[a2,ag _ _ _ _ (by simp)];rfl
    have b0:=(a4.cell (p:=(pA w.heap.size 0)) (by show w.heap.size<_;omega)).trans b8.out;have b1:=(a4.cell (p:=(pA (w.heap.size+1) 0)) (by show w.heap.size+1<_;omega)).trans a8;have a3:Hid _:=J.out.below a4;have d3:Hid _:=a9.out.trans (ZP a4);have d4:Hid (Zo O B 5 (D k) n (Qi n (f k))):=by have:=a3.out.all.row k K;rw[fk]at this;exact this
    have d5:=a3.out.all.ne k K;have d6:D d≠D k:=fun e=>a6 (a3.out.all.inj d k hd K e).symm
    have d7:Hid (∀j,j<n->∀U,O.grownBy U (aa (D k))->Zo U B 5 (D k) n (Qi n (fun l=>if l<j then f k l^^^Gf.mul (f k c) (f d l)else f k l)) ->
     ai prog 217 (#[.int .i64 (j:Int)]++#[.pointer (aa (pA H.heap.size 0)),.pointer (aa (pA (H.heap.size+1) 0)),.pointer (aa (pA w.heap.size 0)),.pointer (aa (pA (w.heap.size+1) 0))]) U fun e Z=>e=.returned (.int .u8 ((f k j^^^Gf.mul (f k c) (f d j):Nat):Int))/\ac U.heap.size U Z):=by
     intro j hj U d8 d9;have aS:∀{b o:Nat} {v:ap},O.cell? (pA b o)=aa v->b≠D k->U.cell? (pA b o)=aa v:=fun {b o v} h hb=>d8.cell h (by show aa b≠_;intro e;exact hb (ab e))
     refine RU H.heap.size (H.heap.size+1) w.heap.size (w.heap.size+1) (D k) I (D d) n r j d (f k c) (f k j) (f d j) U (aS c8 (by omega)) (aS d0 (by omega)) (aS b0 (by omega)) (aS b1 (by omega)) (aS (a3.out.rows.cell d hd) (fun e=>d5 e.symm)) ?_ (aS ?_ d6) hj hd lt (hf k j) (hf d j)
     ·rw[d9.cell j hj (Jf _ _),Yq _ _ j hj,if_neg (ah _)]
     ·rw[(a3.out.all.row d hd).cell j hj (Jf _ _),Yq _ _ j hj,fd j]
    have e0:Hid _:=a2;have HE:Hid (∀i j,(if i=k then fun l=>f k l^^^Gf.mul (f k c) (f d l)else fun j=>if i<k then QH f d c i j else f i j) j=if i<k+1 then QH f d c i j else f i j):=fun i j=>by
     by_cases e:i=k
     ·rw[if_pos e,if_pos (by omega)];unfold QH;rw[if_neg (by omega),e]
     ·rw[if_neg e];by_cases e':i<k
      ·rw[if_pos (by omega:i<k+1)];exact if_pos e'
      ·rw[if_neg (by omega:¬i<k+1)];exact if_neg e'
    have e1:Hid _:=b0;have e2:Hid _:=b1;clear a2 a4 c8 d0 b0 b1 fk fd a6 hf;go_wp2_with (go_at_call 200;rw[<-e0.out];refine(zL (D k) n B (f k) (fun l=>f k l^^^Gf.mul (f k c) (f d l)) 217 #[.pointer (aa (pA H.heap.size 0)),.pointer (aa (pA (H.heap.size+1) 0)),.pointer (aa (pA w.heap.size 0)),.pointer (aa (pA (w.heap.size+1) 0))] O hn (enters_of func217 (by kernel_rfl) rfl) d4.out d7.out).mono ?_;rintro e w8 ⟨rfl,e3,a5⟩)
    go_roundw
    case rel =>
     refine⟨k+1,by omega,by go_num,Zv.congr (a3.out.change K a5 e3) HE.out,d3.out.trans (zO a5 (d1 k K)),by have:=a5.size;omega,a5.cell e1.out (by show aa w.heap.size≠_;intro e;have:=ab e;omega),a5.cell e2.out (by show aa (w.heap.size+1)≠_;intro e;have:=ab e;omega)⟩
    case measure=>simp[intOf];omega
  ·have e4:k=r:=by omega
   subst e4;go_wp2
   go_end0
   refine⟨rfl,a9.out,⟨J.out.rows,fun i hi=>?_,J.out.all.ne,J.out.all.inj⟩⟩;have:=J.out.all.row i hi;rw[show(fun j=>if i<k then QH f d c i j else f i j)=QH f d c i from funext fun j=>if_pos hi]at this;exact this
theorem VN (h:∀i j,g i j<256)(d p k i j:Nat):Qm (j7 g d p k i j)=Lin.aZ (fun i j=>Qm (g i j)) d p k i j:=by
 have D:Qm (Gf.inv (g p k))=Lin.iv (Qm (g p k)):=Fin.ext (by
  show(Qm (Gf.inv (g p k))).1=Gf.inv (Qm (g p k)).1;rw[YY (Gf.cQ _),YY (h p k)])
 unfold j7 Lin.aZ;by_cases e:i=d
 ·rw[if_pos e,if_pos e,oU (Gf.cQ _) (h _ _),D]
 ·by_cases B:i=p
  ·rw[if_neg e,if_neg e,if_pos B,if_pos B]
  ·rw[if_neg e,if_neg e,if_neg B,if_neg B]
theorem JpP (h:∀i j,g i j<256)(d k i j:Nat):Qm (QH g d k i j)=Lin.bE (fun i j=>Qm (g i j)) d k i j:=by
 unfold QH Lin.bE;by_cases e:i=d
 ·rw[if_pos e,if_pos e]
 ·rw[if_neg e,if_neg e,qW (h _ _) (Gf.aV (h _ _) _),oU (h _ _) (h _ _)]
def Ym (f:Nat->Nat->Nat):Nat->Nat->Lin.F:=fun i j=>Qm (f i j)
theorem TJ (h:∀i j,g i j<256)(d p k:Nat):Ym (QH (j7 g d p k) d k)=Lin.bE (Lin.aZ (Ym g) d p k) d k:=by
 have B:Ym (j7 g d p k)=Lin.aZ (Ym g) d p k:=funext fun i=>funext fun j=>VN h d p k i j
 rw[<-B];exact funext fun i=>funext fun j=>JpP (fun i j=>yD h d p k i j) d k i j
theorem JnT (S:Nat->Prop)(B I:Nat)(gs:Nat->Nat)(r n c:Nat)(f:Nat->Nat->Nat)(z:Addr)(w:World)(hr:r<=1000)(hn:n<=1000)(hc:c<=n)(hf:∀i j,f i j<256)(hG:Zv w B I gs r n f)(b4:S I)(d4:∀i,i<r->S (gs i))(b5:∀k,S k->B<=k/\k<w.heap.size)(d5:9 <B)
 (hz:w.cell? ⟨9,0,N⟩=aa (.iface 287 (.pointer (aa z)))):
 ai prog 179 #[.slice (aa ⟨I,0,N⟩) r r,.int .i64 (c:Int)] w fun e w'=>ZI S w w'/\∃(d:Nat) (D:Nat->Nat) (g:Nat->Nat->Nat),e=.returned (.int .i64 (d:Int))/\Zv w' B I D r n g/\(∀i j,g i j<256)/\Lin.eO r n c (Ym f) (Ym g) d:=by
 have HG:Hid _:=hG;have a0:Hid _:=b5;have HZ:Hid _:=hz;clear hG b5 hz;go_enter func179,ntmps179;go_wp2;go_loopw [5,8] (fun y x wr=>∃(k d:Nat) (D:Nat->Nat) (g:Nat->Nat->Nat),k<=c/\x=.int .i64 k/\y=.int .i64 d/\Zv wr B I D r n g/\(∀i,i<r->S (D i))/\(∀i j,g i j<256)/\Lin.eO r n k (Ym f) (Ym g) d/\ZI S w wr) (fun _ x _=>c-(intOf x).toNat)
 case atStart=>exact⟨0,0,gs,f,by omega,rfl,rfl,HG.out,d4,hf,Lin.eO.start _ _ _,ZP bR⟩
 case round =>
  obtain⟨k,d,D,g,hk,rfl,rfl,a2,a3,a4,O,a5⟩:=hrel;obtain⟨w3,rfl⟩:=Xb wr;have a6:Hid _:=a2;have a7:Hid _:=a3;have H:Hid _:=a4;have U:Hid _:=O;have J:Hid _:=a5;have b6:d<=r:=O.le;clear a2 a3 a4 O a5;by_cases d6:k<c
  ·have a8:Hid (w3.cell? ⟨9,0,N⟩=aa (.iface 287 (.pointer (aa z)))):=J.out.cell HZ.out (fun hs=>by have:=(a0.out _ hs).1;omega);go_wp2_with (go_at_call 202;refine(Jq4 S B I D r n d k g z _ hr hn b6 (by omega) H.out a6.out b4 a7.out d5 a8.out).mono ?_;rintro e w4 ⟨Z,⟨rfl,h0,K⟩|⟨rfl,p,a9,b7,b8,b0,b1,K⟩⟩)
   ·go_roundw
    case rel=>exact⟨k+1,d,D,g,by omega,by go_num,rfl,K,a7.out,H.out,U.out.skip (fun i h1 h2=>by show Qm (g i k)=0;rw[h0 i h1 h2];rfl),J.out.trans Z⟩
    case measure=>simp[intOf];omega
   ·have b2:Hid (ZI S w3 w4):=Z;have b3:Hid _:=b1;have c8:Hid _:=K;have d0:Hid _:=b0;clear Z b1 K b0 a8 HZ;go_wp2_with (go_at_call 203;refine(JpO S B I a9 r n d k (j7 g d p k) _ hr hn (by omega) (by omega) (fun i j=>yD H.out d p k i j) c8.out b3.out (fun q hq=>al (a0.out q hq).2 (az J.out.size b2.out.size)) b4).mono ?_;rintro e w5 ⟨rfl,d1,d2⟩)
    go_roundw
    case rel =>
     refine⟨k+1,d+1,a9,QH (j7 g d p k) d k,by omega,by go_num,by go_num,d2,b3.out,fun i j=>WL (fun i j=>yD H.out d p k i j) d k i j,?_,J.out.trans (b2.out.trans d1)⟩;rw[TJ H.out];exact U.out.step b7 b8 (fun h=>d0.out ((AP (H.out p k)).1 h))
    case measure=>simp[intOf];omega
  ·have d3:k=c:=by omega
   subst d3;go_wp2;go_ret;exact⟨J.out,d,D,g,rfl,a6.out,H.out,U.out⟩
theorem AF {A B:List (List Nat)}(D:QR A)(hB:QR B)(i j:Nat):∀k,Qm (jM A B i j k)=Lin.aL k (fun t=>Lin.mu (vec A i t) (vec B t j))
 |0=>rfl
 |k+1=>by
  show Qm (jM A B i j k^^^Gf.mul (Gf.nth (Qh A i) k) (Gf.nth (Qh B k) j))=Lin.ad _ _;rw[qW (o8 A B D i j k) (Gf.aV (D i k) _),oU (D i k) (hB k j),AF D hB i j k];rfl
theorem zA {x y:Nat}(B:x<256)(D:y<256)(h:Qm x=Qm y):x=y:=by
 have:=congrArg Fin.val h;rw[YY B,YY D]at this;exact this
theorem J6 (h:∀i j,f i j<256):QR (XB r n f):=fun i=>by
 by_cases B:i<r
 ·rw[XD r n f i B];exact XL _ _ (h i)
 ·intro j;have:Qh (XB r n f) i=[]:=by unfold Qh;rw[List.getD_eq_getElem?_getD,List.getElem?_eq_none (by rw[Zs];omega)];rfl
  rw[this];show([]:List Nat).getD j 0<256;simp
theorem uN (B:i<r)(D:j<n):vec (XB r n f) i j=Ym f i j:=by
 unfold vec Ym;rw[XD r n f i B,Yq _ _ j D]
theorem zH (D:1<=r)(H:r<=16)(I:1<=n)(J:n<=16):jQ (XB r n f):=by
 refine⟨by rw[Zs];exact D,by rw[Zs];exact H,fun i B=>?_⟩;rw[Zs]at B;rw[XD r n f i B,XD r n f 0 (by omega),Jf,Jf];exact⟨I,J,rfl⟩
theorem K1 (A B:List (List Nat))(m:Nat):xW A B m=XB m (Qh B 0).length (fun i j=>jM A B i j B.length):=rfl
theorem NT {p:Option Addr}(h:QJ w p (XB r n f))(hr:1<=r)(hn:1<=n):∃b o,p=aa ⟨b,o,N⟩/\∀i,i<r->∃D H c,w.cell? ⟨b,o+i,N⟩=aa (.slice (aa ⟨D,H,N⟩) n c)/\∀j,j<n->w.cell? ⟨D,H+j,N⟩=aa (.int .u8 ((f i j:Nat):Int)):=by
 have I:∀i,i<r->(Qh (XB r n f) i).length=n:=fun i B=>by rw[XD r n f i B,Jf]
 obtain⟨b,o,_,_,_,K,_,_,_,_⟩:=h.row (i:=0) (by rw[Zs];omega) (by rw[I 0 (by omega)];omega);refine⟨b,o,K,fun i B=>?_⟩;obtain⟨b',o',D,H,c,J,_,_,O,Z⟩:=h.row (i:=i) (by rw[Zs];omega) (by rw[I i B];omega);rw[K]at J;injection J with J
 injection J with e1 e2 _
 subst e1 e2;rw[I i B]at O;refine⟨D,H,c,O,fun j U=>?_⟩;rw[Z j (by rw[I i B];exact U),XD r n f i B,Yq _ _ j U]
def Jl (f val:Nat->Nat->Nat)(i c:Nat):Nat->Nat
 |0=>0
 |j+1=>Jl f val i c j^^^Gf.mul (f i j) (val j c)
def J7 (f val:Nat->Nat->Nat)(k B i:Nat):List Nat:=Qi B fun c=>Jl f val i c k
theorem nD {f val:Nat->Nat->Nat}(B:∀i j,f i j<256)(i c:Nat):∀j,Jl f val i c j<256
 |0=>by show 0<256;decide
 |j+1=>Gf.iK (nD B i c j) (Gf.aV (B _ _) _)
theorem CR:(prog.info? 9).map (fun i=>(i.zero,i.size,i.bytes))=aa (aa (.string ⟨#[]⟩),1,16):=by kernel_rfl
theorem yN {b:Nat}{t:TypeId}{f:Nat->ap}(h:w.rowIs b t n f)(B:ac w.heap.size w w'):w'.rowIs b t n f:=h.of_block (B.block _ h.lt)
def uI (w:World)(H:aE)(I:Array ap)(val:Nat->Nat->Nat)(k J:Nat):Prop :=
 ∀j c,j<k->c<J->∀B,ac w.heap.size w B->ai prog H (#[.int .i64 (j:Int),.int .i64 (c:Int)]++I) B fun e D=>e=.returned (.int .u8 ((val j c:Nat):Int))/\D=B
theorem F3 (p:Option Addr)(r k B cap:Nat)(f val:Nat->Nat->Nat)(U:aE)(a6:Array ap)(w:World)(g9:1<=r)(hr:r<=1000)(h0:1<=k)(hk:k<=1000)(h5:B<=100000)
 (hf:∀i j,f i j<256) (hv:∀j c,val j c<256) (hm:QJ w p (XB r k f)) (h6:∀args W,ao prog (aC U args) W=.ok (.enter U args) W) (hc:uI w U a6 val k B):
 ai prog 149 #[.slice p r cap,.int .i64 (B:Int),.func (.func U) #[] a6] w fun e w'=>e=.returned (.slice (aa ⟨w.heap.size,0,N⟩) r r)/\w'.rowIs w.heap.size 9 r (fun i=>.string (Jp (J7 f val k B i)))/\ac w.heap.size w w':=by
 obtain⟨b,o,rfl,b6⟩:=NT hm g9 h0;have b7:∀i,i<r->∃H J c,b<w.heap.size/\H<w.heap.size/\w.cell? ⟨b,o+i,N⟩=aa (.slice (aa ⟨H,J,N⟩) k c)/\∀j,j<k->w.cell? ⟨H,J+j,N⟩=aa (.int .u8 ((f i j:Nat):Int)):=fun i hi=>by
  obtain⟨H,J,c,h1,h2⟩:=b6 i hi;exact⟨H,J,c,Qf h1,Qf (h2 0 (by omega)),h1,h2⟩
 have HR:Hid _:=b7;have HC:Hid (uI w U a6 val k B):=hc;have HF:Hid _:=hf;have HV:Hid (∀j c,val j c<256):=hv;obtain⟨i0,b8,c8,d0,d1⟩:=aw KF;obtain⟨i1,d2,d3,d4,d5⟩:=aw CR;have f5:∀W:World,ao prog (Instr.makeSlice 22 (.int .i64 (r:Int)) (.int .i64 (r:Int))) W=.ok (.slice (aa ⟨W.heap.size,0,N⟩) r r) (W.alloc (.cells (ae #[.string ⟨#[]⟩] r) 9)):=fun W=>aB (P:=prog) 22 9 i1 (.string ⟨#[]⟩) underlying22 d2 d3 d4 rfl .i64 .i64 r (by rw[d5];omega) (by omega) W
 have f6:∀W:World,ao prog (Instr.makeSlice 116 (.int .i64 (B:Int)) (.int .i64 (B:Int))) W=.ok (.slice (aa ⟨W.heap.size,0,N⟩) B B) (W.alloc (.cells (ae #[ZM 0] B) 5)):=fun W=>aB (P:=prog) 116 5 i0 (ZM 0) underlying116 b8 c8 d0 rfl .i64 .i64 B (by rw[d1];omega) (by omega) W
 clear hm b6 b7 hc hf hv b8 c8 d0 d1 d2 d3 d4 d5;go_enter func149,ntmps149;go_wp2;have a7:(w.alloc (.cells (ae #[.string ⟨#[]⟩] r) 9)).rowIs w.heap.size 9 r (fun _=>.string ⟨#[]⟩):=World.rowIs_made w _ r _;have a8:ac w.heap.size w (w.alloc (.cells (ae #[.string ⟨#[]⟩] r) 9)):=bR.alloc nR _;generalize w.alloc (.cells (ae #[.string ⟨#[]⟩] r) 9)=w0 at a7 a8 ⊢;have d6:Hid (w0.rowIs w.heap.size 9 r (fun _=>.string ⟨#[]⟩)):=a7;have d7:Hid _:=a8;clear a7 a8;go_loopw [19] (fun x wr=>∃i:Nat,i<=r/\x=.int .i64 i/\wr.rowIs w.heap.size 9 r (fun q=>if q<i then .string (Jp (J7 f val k B q))else .string ⟨#[]⟩)/\ac w.heap.size w wr) (fun x _=>r-(intOf x).toNat)
 case atStart=>exact⟨0,by omega,rfl,d6.out.congr (fun q _=>by simp),d7.out⟩
 case round =>
  obtain⟨i,hi,rfl,hS,hB⟩:=hrel;obtain⟨D,rfl⟩:=Xb wr;have HS:Hid (D.rowIs w.heap.size 9 r (fun q=>if q<i then .string (Jp (J7 f val k B q))else .string ⟨#[]⟩)):=hS;have Z:Hid _:=hB;have h3:=hS.lt;clear hS hB d6 d7;by_cases d8:i<r
  ·obtain⟨H,J,c1,hb,f7,d9,e0⟩:=HR.out i d8;have HD:Hid (∀j,j<k->w.cell? ⟨H,J+j,N⟩=aa (.int .u8 ((f i j:Nat):Int))):=e0;have q0:=(Z.out.cell (p:=⟨b,o+i,N⟩) hb).trans d9;clear e0 d9;go_wp2;have a9:Zo (D.alloc (.cells (ae #[ZM 0] B) 5)) D.heap.size 5 D.heap.size B (Qi B (fun c=>if c<0 then Jl f val i c k else 0)):=by
    have:=Zo.made D D.heap.size 5 B nR (by omega);rw[YL B _ (fun c=>if c<0 then Jl f val i c k else 0) (fun c _=>by rw[if_neg (aj _)])]at this;exact this
   have b0:ac D.heap.size D (D.alloc (.cells (ae #[ZM 0] B) 5)):=bR.alloc nR _;generalize D.alloc (.cells (ae #[ZM 0] B) 5)=w4 at a9 b0 ⊢;have e1:Hid (Zo w4 D.heap.size 5 D.heap.size B (Qi B (fun c=>if c<0 then Jl f val i c k else 0))):=a9;have e2:Hid (ac D.heap.size D w4):=b0;clear a9 b0 q0;go_loopw [28] (fun x wq=>∃c:Nat,c<=B/\x=.int .i64 c/\Zo wq D.heap.size 5 D.heap.size B (Qi B (fun d=>if d<c then Jl f val i d k else 0))/\ac D.heap.size D wq) (fun x _=>B-(intOf x).toNat)
   case atStart=>exact⟨0,by omega,rfl,e1.out,e2.out⟩
   case round =>
    obtain⟨c,hc,rfl,e3,e4⟩:=hrel;obtain⟨K,rfl⟩:=Xb wr;have a3:Hid _:=e3;have a4:Hid _:=e4;clear e3 e4 e1 e2;by_cases b2:c<B
    ·go_wp2;go_loopw [33] (fun x wq=>∃j:Nat,j<=k/\x=.int .i64 j/\Zo wq D.heap.size 5 D.heap.size B (Qi B (fun d=>if d<c then Jl f val i d k else if d=c then Jl f val i c j else 0))/\ac D.heap.size D wq) (fun x _=>k-(intOf x).toNat)
     case atStart =>
      refine⟨0,by omega,rfl,?_,a4.out⟩;rw[YL B _ (fun d=>if d<c then Jl f val i d k else 0) (fun d _=>by by_cases e:d=c<;>simp[e,Jl])];exact a3.out
     case round =>
      obtain⟨j,h4,rfl,e5,e6⟩:=hrel;obtain⟨I,rfl⟩:=Xb wr;have a0:Hid (Zo I D.heap.size 5 D.heap.size B (Qi B (fun d=>if d<c then Jl f val i d k else if d=c then Jl f val i c j else 0))):=e5;have a2:Hid _:=e6;clear e5 e6 a3 a4;by_cases e7:j<k
      ·have q2:I.cell? ⟨H,J+j,N⟩=aa (.int .u8 ((f i j:Nat):Int)):=(a2.out.cell (p:=⟨H,J+j,N⟩) (by show H<_;omega)).trans ((Z.out.cell (p:=⟨H,J+j,N⟩) f7).trans (HD.out j e7));have q5:I.cell? ⟨D.heap.size,c,N⟩=aa (.int .u8 ((Jl f val i c j:Nat):Int)):=by rw[a0.out.cell c b2 (Jf _ _),Yq _ _ c b2,if_neg (ah _),if_pos rfl]
       have lx:=HF.out i j;have ly:=HV.out j c;have ls:Jl f val i c j<256:=nD HF.out i c j;have lm:=Gf.aV lx (val j c);have HX:Hid (Jl f val i c (j+1)=Jl f val i c j^^^Gf.mul (f i j) (val j c)):=by show _=_;rfl
       have b3:=HC.out j c e7 b2 (I.drewN 1) (au (Z.out.trans (a2.out.mono (by omega))) 1);have n2:D.heap.size≠H:=by omega
       have b4:Hid (Zo I D.heap.size 5 D.heap.size B (Qi B (fun d=>if d<c then Jl f val i d k else if d=c then Jl f val i c j else 0))):=a0.out;generalize Jl f val i c j=O at q5 ls HX b4;generalize f i j=x at q2 lx lm HX;generalize val j c=y at ly lm HX b3;have e8:Hid (ai prog U (#[.int .i64 (j:Int),.int .i64 (c:Int)]++a6) (I.drewN 1) fun e w2=>e=.returned (.int .u8 ((y:Nat):Int))/\w2=I.drewN 1):=b3;clear b3;go_wp2;refine wp_region_still_tail 14 (by kernel_rfl) (by kernel_rfl) ?_;simp only[List.take_succ_cons,List.take_zero,List.drop_succ_cons,List.drop_zero]
       repeat still_step
       still_call (e8.out)
       still_call (mI x y _ lx ly)
       still_call (oC O (Gf.mul x y) _ ls lm)
       repeat still_step
       refine wpStill_nil ?_;have e9:Hid (Zo (I.drewN 1) D.heap.size 5 D.heap.size B (Qi B (fun d=>if d<c then Jl f val i d k else if d=c then O else 0))):=b4.out.drewN 1;have f3:Hid _:=au a2.out 1;have f8:(I.drewN 1).cell? ⟨D.heap.size,c,N⟩=aa (.int .u8 (O:Int)):=q5;have f9:(I.drewN 1).frozen? ⟨D.heap.size,c,N⟩=false:=a0.out.free c;change wpList _ _ _ _ _ (I.drewN 1);generalize I.drewN 1=w7 at e9 f3 f8 f9 ⊢;clear q2 q5 a0 b4 a2 e8;go_wp2;go_roundw
       case rel =>
        refine⟨j+1,by omega,by go_num,?_,f3.out.setCell nR _⟩;have:=e9.out.set c (O^^^Gf.mul x y);rw[YL B (fun d=>if d<c then Jl f val i d k else if d=c then Jl f val i c (j+1)else 0) (fun d=>if d=c then O^^^Gf.mul x y else if d<c then Jl f val i d k else if d=c then O else 0) (fun d _=>by
         by_cases e:d=c
         ·subst e;rw[if_neg (ah _),if_pos rfl,if_pos rfl,HX.out]
         ·rw[if_neg e,if_neg e,if_neg e])]
        exact this
       case measure=>simp[intOf];omega
      ·have g0:j=k:=by omega
       subst g0;go_wp2;go_roundw
       case rel =>
        refine⟨c+1,by omega,by go_num,?_,a2.out⟩;rw[YL B _ (fun d=>if d<c then Jl f val i d j else if d=c then Jl f val i c j else 0) (fun d _=>by
         by_cases e:d<c
         ·rw[if_pos (by omega),if_pos e]
         ·by_cases e':d=c
          ·subst e';rw[if_pos (by omega),if_neg e,if_pos rfl]
          ·rw[if_neg (by omega),if_neg e,if_neg e'])]
        exact a0.out
       case measure=>simp[intOf];omega
    ·have g1:c=B:=by omega
     subst g1;have b5:Zo K D.heap.size 5 D.heap.size c (J7 f val k c i):=by
      unfold J7;rw[YL c _ (fun d=>if d<c then Jl f val i d k else 0) (fun d hd=>by rw[if_pos hd])];exact a3.out
     have g2:ao prog (convert 116 9 (.slice (aa ⟨D.heap.size,0,N⟩) c c)) K=.ok (.string (Jp (J7 f val k c i))) K:=by
      have g3:jU K (aa ⟨D.heap.size,0,N⟩) (J7 f val k c i):=⟨XL _ _ (fun d=>nD HF.out _ _ _),Or.inr ⟨D.heap.size,0,rfl,b5.lt.2,fun d hd=>by
       rw[ay];exact b5.cell d (by unfold J7 at hd;rw[Jf]at hd;exact hd) (Jf _ _)⟩⟩
      have:=WU g3 c;rw[show(J7 f val k c i).length=c from Jf _ _]at this;exact this
     have a5:=yN HS.out a4.out;have qs:K.cell? ⟨w.heap.size,i,N⟩=aa (.string ⟨#[]⟩):=by rw[a5.cell d8,if_neg (ah _)]
     have qf:=a5.frozen i;have g4:Hid (K.rowIs w.heap.size 9 r (fun q=>if q<i then .string (Jp (J7 f val k c q))else .string ⟨#[]⟩)):=a5;have g5:Hid (ac w.heap.size w K):=Z.out.trans (a4.out.mono (by omega));clear b5 a3 a5 f5 f6;have g6:Hid (Jp (J7 f val k c i)=Jp (J7 f val k c i)):=by show _=_;rfl
     generalize f4:Jp (J7 f val k c i)=st at g2;have g7:Hid (Jp (J7 f val k c i)=st):=f4;clear f4 g6;go_wp2;go_roundw
     case rel =>
      refine⟨i+1,by omega,by go_num,(g4.out.set i _).congr (fun q _=>?_),g5.out.setCell nR _⟩;by_cases e:q=i
      ·rw[if_pos e,if_pos (by omega),e,g7.out]
      ·rw[if_neg e];by_cases e':q<i
       ·rw[if_pos e',if_pos (by omega)]
       ·rw[if_neg e',if_neg (by omega)]
     case measure=>simp[intOf];omega
  ·have g8:i=r:=by omega
   subst g8;go_wp2;go_ret;exact⟨rfl,HS.out.congr (fun q hq=>by rw[if_pos hq]),Z.out⟩
theorem ND:∀j,0<j->Gf.bZ 0 j=0
 |0,h=>absurd h (ah _)
 |j+1,_=>by
  show Gf.mul _ _=0;first|exact Gf.mul_zero _|exact Gf.zero_mul _
theorem WV (j:Nat)(h:j<255):red (j:Int)=j:=by unfold red;omega
theorem TB (i j:Nat)(w:World)(B:i<256)(J:j<255):
 ai prog 211 #[.int .u8 (i:Int),.int .i64 (j:Int)] w fun e w'=>e=.returned (.tuple #[.int .u8 ((Gf.bZ i j:Nat):Int),.nilIface])/\w'=w:=by
 by_cases h:i=0/\0<j
 ·obtain⟨rfl,D⟩:=h;rw[ND j D];exact LQ (j:Int) w (by omega)
 ·have:=Jtk i (j:Int) w B (fun H=>by
   by_cases I:0<j
   ·exact absurd ⟨H,I⟩ h
   ·omega)
  rw[WV j J,Gf.iG i j B (by omega)]at this;exact this
theorem JlI (i j:Nat)(w:World)(D:i<256)(H:j<255):
 ai prog 210 #[.int .i64 (i:Int),.int .i64 (j:Int)] w fun e w'=>e=.returned (.int .u8 ((Gf.bZ i j:Nat):Int))/\ac w.heap.size w w':=by
 have B:=TB i j w D H;go_enter func210,ntmps210;go_wp2_with (go_at_call 211;refine B.mono ?_;rintro e w' ⟨rfl,rfl⟩)
 go_ret;exact⟨rfl,Below.refl _ _⟩
theorem K0 (n k:Nat)(w:World)(a0:1<=k)(a2:k<=n)(hn:n<=12):
 ai prog 197 #[.int .i64 (n:Int),.int .i64 (k:Int)] w fun e w'=>(∃B D,e=.returned (.tuple #[.slice (aa ⟨B,0,N⟩) n n,.nilIface])/\Zv w' w.heap.size B D n k Gf.bZ)/\ac w.heap.size w w':=by
 have K:=tP n k Gf.bZ 210 #[] w (by omega) (by omega) (enters_of func210 (by kernel_rfl) rfl) (fun i j hi hj H _=>JlI i j H (by omega) (by omega));have I:Hid (ai prog 53 #[.int .i64 (n:Int),.int .i64 (k:Int)] w fun e w'=>e=.returned (.bool true)/\w'=w):=by
  have h:=xC (n:Int) (k:Int) w;rw[decide_eq_true (show(1:Int)<=(k:Int)/\(k:Int)<=(n:Int)/\(n:Int)<=12 by omega)]at h;exact h
 go_enter func197,ntmps197;go_wp2_with fail
 refine I.out.mono ?_;rintro e O ⟨rfl,J⟩;rw[J];clear J O I;go_wp2_with (go_at_call 176;refine K.mono ?_;rintro e H ⟨⟨B,D,rfl,U⟩,Z⟩)
 go_ret2
 exact⟨⟨B,D,rfl,U⟩,Z⟩
end Go.Proofs.YtgapmoniajcliaaGreatDoor

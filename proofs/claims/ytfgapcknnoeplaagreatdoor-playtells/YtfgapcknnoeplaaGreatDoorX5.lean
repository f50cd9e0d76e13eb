/- Texts laid together. -/
import Derived.Test.YtfgapcknnoeplaaGreatDoorX4
import Derived.Lib.Join
set_option maxRecDepth 10000
set_option maxHeartbeats 4000000
open List renaming getD_eq_getElem?_getD->aa,getElem?_eq_getElem->ac,getElem?_eq_none->ag,length_map->ai,length_append->al,getElem?_map->an,length_singleton->ar,map_map->az,range->ze
open Go.Calls renaming quiet_of_same->ab
open Option renaming none->N,some->S
open Int renaming toNat_natCast->ae
open Bool renaming eq_false_iff->af,false->ax,true->T
open Go renaming madeCells->ah,Calls->ao,size_madeCells->au,below_drewN->av
open Go.RowKit renaming Below->aj
open Go.World.ownsRow renaming kept->am,alloc->aw,cells->zc,lt->bn
open Classical renaming choose->ap
namespace Go.Proofs.YtfgapcknnoeplaaGreatDoor
open Go.Proofs.Tryz
open Go.RowKit
variable {w:World}{B g n i k p size:Nat}{l:List (Int×BA)}{f:Nat->Int×BA}{X r:List Nat}
theorem vH:(prog.info? 214).map (fun i=>(i.zero,i.size,i.bytes))=S (S (.agg #[.int .i64 0,.string ⟨#[]⟩]),2,24):=by kernel_rfl
def Js (l:List (Int×BA)):List Value:=l.flatMap fun x=>[.int .i64 x.1,.string x.2]
theorem DP:∀(l:List (Int×BA)) (i:Nat),i<l.length->(Js l)[i*2]?=S (.int .i64 (Ji l i).1)/\(Js l)[i*2+1]?=S (.string (Ji l i).2)
 | [],i,h=>absurd h (Nat.not_lt_zero _)
 |x::t,0,_=>⟨rfl,rfl⟩
 |x::t,i+1,h=>by
  have B:=DP t i (by simpa using h);have e:Js (x::t)=.int .i64 x.1:: .string x.2::Js t:=rfl;have D:Ji (x::t) (i+1)=Ji t i:=rfl;rw[e,D,show(i+1)*2=i*2+1+1 by omega,show i*2+1+1+1=i*2+1+1+1 from rfl];exact⟨by simpa using B.1,by simpa using B.2⟩
theorem nL {v:Value}{E:TypeId}(h:w.ownsRow B E 2 v l.length (Js l)):∃p c,v=.slice p l.length c/\fE w p l:=by
 rcases h.2 with⟨rfl,K⟩|⟨g,cap,Z,rfl,hb,O,a0,a2,a3,a4⟩
 ·have:l=[]:=List.length_eq_zero_iff.1 K;subst this;exact⟨N,0,rfl,Or.inl rfl⟩
 ·refine⟨S ⟨g,0,N⟩,cap,rfl,Or.inr ⟨g,0,rfl,(Array.getElem?_eq_some_iff.1 O).1,fun i U=>?_⟩⟩;have D:=zc (g:=g) h rfl;have H:=DP l i U;have I:=D (i*2) _ H.1;have J:=D (i*2+1) _ H.2;rw[Addr.add_lit]at I J;exact⟨I,by rw[Nat.add_assoc];exact J⟩
theorem zM (size k:Nat)(w:World)(H:1<=k)(I:k<=1000)(J:size<=100000):
 ao prog 200 #[.int .i64 (size:Int),.int .i64 (k:Int)] w fun e w'=>e=.returned (.int .i64 ((Jk k size:Nat):Int))/\w'=w:=by
 have D:(1:Int)<=(k:Int):=by omega
 have B:Hid (((size:Int)+(k:Int)-1)/(k:Int)=((Jk k size:Nat):Int)):=by
  show _=_;unfold Jk;rw[Int.natCast_ediv]
  congr 1
  omega
 go_enter func200,ntmps200;go_wp2;go_ret;exact⟨l4 B.out,rfl⟩
theorem KJ (size:Int)(w:World):ao prog 212 #[.int .i64 size] w fun e w'=>e=.returned (.bool (decide (0<=size/\size<=1000)))/\w'=w:=by
 by_cases D:0<=size
 ·by_cases H:size<=1000
  ·have B:Hid (decide (0<=size/\size<=1000)=T):=decide_eq_true ⟨D,H⟩;rw[B.out];go_enter func212,ntmps212;go_wp2;go_ret;exact⟨rfl,rfl⟩
  ·have B:Hid (decide (0<=size/\size<=1000)=ax):=decide_eq_false fun h=>H h.2
   rw[B.out];go_enter func212,ntmps212;go_wp2;go_ret;exact⟨rfl,rfl⟩
 ·have B:Hid (decide (0<=size/\size<=1000)=ax):=decide_eq_false fun h=>D h.1
  rw[B.out];go_enter func212,ntmps212;go_wp2;go_ret;exact⟨rfl,rfl⟩
theorem GN (size:Int)(w:World)(h:0<=size/\size<=1000):ao prog 212 #[.int .i64 size] w fun e w'=>e=.returned (.bool T)/\w'=w:=by
 have B:=KJ size w;rw[decide_eq_true h]at B;exact B
theorem Jqt (size:Int)(w:World)(h:¬(0<=size/\size<=1000)):ao prog 212 #[.int .i64 size] w fun e w'=>e=.returned (.bool ax)/\w'=w:=by
 have B:=KJ size w;rw[decide_eq_false h]at B;exact B
theorem BZ (n k size:Nat)(z:Addr)(w:World)(Z:1<=k)(a0:k<=n)(hn:n<=12)(hs:size<=1000)(J:w.cell? ⟨11,0,N⟩=S (.iface 335 (.pointer (S z)))):
 ao prog 199 #[.int .i64 (n:Int),.int .i64 (k:Int),.int .i64 (size:Int)] w fun e w'=>(∃B,e=.returned (.tuple #[.slice (S ⟨B,0,N⟩) n n,.nilIface])/\QJ w' (S ⟨B,0,N⟩) (kK k n))/\aj w.heap.size w w':=by
 have D:=Jo4 n k z w Z a0 hn J;have H:Hid (ao prog 212 #[.int .i64 (size:Int)] w fun e w'=>e=.returned (.bool T)/\w'=w):=GN _ w (by omega);clear J;go_enter func199,ntmps199;go_wp2_with fail
 refine H.out.mono ?_;rintro e K ⟨rfl,I⟩;rw[I];clear I K H;go_wp2_with fail
 refine D.mono ?_;rintro e w1 ⟨⟨B,rfl,O⟩,U⟩;clear D;go_wp2
 go_ret2
 exact⟨⟨B,rfl,O⟩,U⟩
def gN (s:BA)(B:Nat):Nat->Nat->Nat:=fun j c=>Gf.nth (Zj s) (j*B+c)
theorem DM (s:BA)(B j c:Nat):gN s B j c<256:=xK s _
theorem VE {s:BA}{j c:Nat}(h:¬j*B+c<s.size):gN s B j c=0:=by
 show(Zj s).getD _ 0=0;rw[aa,ag (by simp[Zj];omega)];rfl
def JW (k:Nat)(s:BA)(i:Nat):BA:=Jp (J7 (fun i j=>Gf.aQ (JB k) j i) (gN s (Jk k s.size)) k (Jk k s.size) i)
def fR (k:Nat)(s:BA)(i:Nat):Int×BA:=((i:Int),JW k s i)
def i6 (f:Nat->Int×BA):Nat->Value:=fun q=>if q%2=0 then .int .i64 (f (q/2)).1 else .string (f (q/2)).2
def ZE (w:World)(g n:Nat)(f:Nat->Int×BA):Prop:=w.rowIs g 214 (n*2) (i6 f)
theorem PO (f:Nat->Int×BA)(i:Nat):i6 f (i*2)=.int .i64 (f i).1:=by unfold i6;rw[if_pos (by omega),Nat.mul_div_cancel _ (by decide)]
theorem PK (f:Nat->Int×BA)(i:Nat):i6 f (i*2+1)=.string (f i).2:=by unfold i6;rw[if_neg (by omega),show(i*2+1)/2=i by omega]
theorem ZE.at_ (h:ZE w g n f)(B:i<n):w.cell? ⟨g,i*2,N⟩=S (.int .i64 (f i).1):=by rw[World.rowIs.cell h (by omega),PO]
theorem ZE.text (h:ZE w g n f)(B:i<n):w.cell? ⟨g,i*2+1,N⟩=S (.string (f i).2):=by rw[World.rowIs.cell h (by omega),PK]
theorem ZE.below {w':World}(h:ZE w g n f)(B:aj w.heap.size w w'):ZE w' g n f:=yN h B
theorem ZE.congr {B:Nat->Int×BA}(h:ZE w g n f)(D:∀i,i<n->f i=B i):ZE w g n B:=World.rowIs.congr h (fun q H=>by unfold i6;rw[D (q/2) (by omega)])
theorem ZE.set (h:ZE w g n f)(i:Nat)(x:Int)(t:BA):ZE ((w.setCell ⟨g,i*2,N⟩ (.int .i64 x)).setCell ⟨g,i*2+1,N⟩ (.string t)) g n (fun j=>if j=i then(x,t)else f j):=by
 refine World.rowIs.congr ((World.rowIs.set h (i*2) (.int .i64 x)).set (i*2+1) (.string t)) (fun q _=>?_);rcases Nat.mod_two_eq_zero_or_one q with e|e
 ·rw[if_neg (by omega)];by_cases B:q=i*2
  ·rw[if_pos B];unfold i6;dsimp only;rw[if_pos e,if_pos (show q/2=i by omega)]
  ·rw[if_neg B];unfold i6;dsimp only;rw[if_pos e,if_pos e,if_neg (show ¬q/2=i by omega)]
 ·by_cases B:q=i*2+1
  ·rw[if_pos B];unfold i6;dsimp only;rw[if_neg (show ¬q%2=0 by omega),if_pos (show q/2=i by omega)]
  ·rw[if_neg B,if_neg (by omega)];unfold i6;dsimp only;rw[if_neg (show ¬q%2=0 by omega),if_neg (show ¬q%2=0 by omega),if_neg (show ¬q/2=i by omega)]
theorem ZE.made (w:World)(n:Nat):ZE (w.alloc (.cells (ah #[.int .i64 0,.string ⟨#[]⟩] (n*2)) 214)) w.heap.size n (fun _=>(0,⟨#[]⟩)):=by
 have:=World.rowIs_alloc w (ah #[.int .i64 0,.string ⟨#[]⟩] (n*2)) 214 (i6 fun _=>(0,⟨#[]⟩)) (fun i B=>by
  rw[au]at B;simp only[ah];rw[Array.getElem?_map,Array.getElem?_eq_getElem (by simpa using B)];simp only[Array.getElem_range,Option.map_some];unfold i6;rcases Nat.mod_two_eq_zero_or_one i with e|e
  ·rw[if_pos e];simp[e]
  ·rw[if_neg (by omega)];simp[e])
 rw[au]at this;exact this
theorem Jhx (n:Nat)(O:n<=1000000)(W:World):Sem.run prog (Instr.makeSlice 285 (.int .i64 (n:Int)) (.int .i64 (n:Int))) W=.ok (.slice (S ⟨W.heap.size,0,N⟩) n n) (W.alloc (.cells (ah #[.int .i64 0,.string ⟨#[]⟩] (n*2)) 214)):=by
 obtain⟨D,H,I,J,K⟩:=info_parts vH;have B:=run_make (P:=prog) W 285 214 D _ underlying285 H I .i64 .i64 n n (by omega) (Int.le_refl _) (by rw[K];omega) (by omega);simp only[ae,J]at B;exact B
def rQ (k:Nat):Nat->Nat->Nat:=fun i j=>Gf.aQ (JB k) j i
theorem TF (k i j:Nat):rQ k i j<256:=Gf.bL _ _ _
theorem I4 (k:Nat)(s:BA)(i:Nat):Zj (JW k s i)=J7 (rQ k) (gN s (Jk k s.size)) k (Jk k s.size) i :=
 FK (XL _ _ fun _=>nD (fun _ _=>Gf.bL _ _ _) _ _ _)
theorem BM (k:Nat)(s:BA)(i:Nat):(JW k s i).size=Jk k s.size:=by
 rw[<-tZ,I4];exact Jf _ _
theorem T9 (k:Nat)(s:BA)(i c:Nat)(B:c<Jk k s.size):Gf.nth (Zj (JW k s i)) c=Jl (rQ k) (gN s (Jk k s.size)) i c k:=by
 rw[I4];exact Yq _ _ c B
def Qg (k:Nat)(l:List (Int×BA)):Nat->List (Int×BA)
 |0=>[]
 |i+1=>if decide ((Qg k l i).length<k)&&!(Qg k l i).any (fun y=>y.1==(Ji l i).1)then Qg k l i++ [Ji l i]else Qg k l i
theorem rJ (B:(Qg k l i).length<k)(D:(Qg k l i).any (fun y=>y.1==(Ji l i).1)=ax):Qg k l (i+1)=Qg k l i++ [Ji l i]:=by
 show(if _ then _ else _)=_;rw[if_pos (by rw[decide_eq_true B,D];rfl)]
theorem qH (B:¬(Qg k l i).length<k):Qg k l (i+1)=Qg k l i:=by
 show(if _ then _ else _)=_;rw[if_neg (by rw[decide_eq_false B];simp)]
theorem tS (B:(Qg k l i).any (fun y=>y.1==(Ji l i).1)=T):Qg k l (i+1)=Qg k l i:=by
 show(if _ then _ else _)=_;rw[if_neg (by rw[B];simp)]
theorem A7 (k:Nat)(l:List (Int×BA)):∀i,(Qg k l i).length<=k
 |0=>Nat.zero_le _
 |i+1=>by
  by_cases B:(Qg k l i).length<k
  ·by_cases D:(Qg k l i).any (fun y=>y.1==(Ji l i).1)=T
   ·rw[tS D];omega
   ·rw[rJ B (af.2 D),al,ar];omega
  ·rw[qH B];exact A7 k l i
theorem X9 (k:Nat)(l:List (Int×BA)):∀i,i<=l.length->∀x∈Qg k l i,x∈l
 |0,_,x,h=>by cases h
 |i+1,hi,x,h=>by
  by_cases B:(Qg k l i).length<k
  ·by_cases D:(Qg k l i).any (fun y=>y.1==(Ji l i).1)=T
   ·rw[tS D]at h;exact X9 k l i (by omega) x h
   ·rw[rJ B (af.2 D)]at h;rcases List.mem_append.1 h with h|h
    ·exact X9 k l i (by omega) x h
    ·rw[List.mem_singleton.1 h];exact sE (by omega)
  ·rw[qH B]at h;exact X9 k l i (by omega) x h
theorem sX (k:Nat)(l:List (Int×BA)):∀i,((Qg k l i).map Prod.fst).Nodup
 |0=>List.nodup_nil
 |i+1=>by
  by_cases B:(Qg k l i).length<k
  ·by_cases D:(Qg k l i).any (fun y=>y.1==(Ji l i).1)=T
   ·rw[tS D];exact sX k l i
   ·have H:(Qg k l i).any (fun y=>y.1==(Ji l i).1)=false:=af.2 D;rw[rJ B H,List.map_append,List.nodup_append];refine⟨sX k l i,by simp,fun a I b J e=>?_⟩;obtain⟨y,K,rfl⟩:=List.mem_map.1 I;have O:b=(Ji l i).1:=by simpa using J
    have:=List.any_eq_false.1 H y K;exact this (by simp[e,O])
  ·rw[qH B];exact sX k l i
theorem RY (l:List (Int×BA))(x:Int×BA):Js (l++ [x])=Js l++ [.int .i64 x.1,.string x.2]:=by simp[Js]
theorem JlM (B:Nat)(x y:Int)(t:BA)(w:World)(H:w.cell? ⟨B,0,N⟩=S (.int .i64 x)):
 ao prog 218 (#[.agg #[.int .i64 y,.string t]]++#[.pointer (S ⟨B,0,N⟩)]) w fun e D=>e=.returned (.bool (y==x))/\aj w.heap.size w D:=by
 have I:=Qf H;go_enter func218,ntmps218;go_wp2;go_ret;exact⟨rfl,bR.alloc nR _⟩
def j4 (n:Int)(B:Nat)(x:Int×BA):Bool:=decide (x.1<0)||decide (n<=x.1)||!decide (x.2.size=B)
theorem LA (k:Nat)(p:Option Addr)(l:List (Int×BA))(cap:Nat)(w:World)(hk:k<=1000)(hl:l.length<=1000)(hs:fE w p l):
 ao prog 207 #[.int .i64 (k:Int),.slice p l.length cap] w fun e w'=>(∃p' c',e=.returned (.slice p' (Qg k l l.length).length c')/\fE w' p' (Qg k l l.length))/\aj w.heap.size w w':=by
 have HS:Hid (fE w p l):=hs;obtain⟨i1,b6,b7,b8,d0⟩:=info_parts vH;have e0:∀W:World,Sem.run prog (Instr.makeSlice 285 (.int .i64 0) (.int .i64 (k:Int))) W=.ok (.slice (S ⟨W.heap.size,0,N⟩) 0 k) (W.alloc (.cells (ah #[.int .i64 0,.string ⟨#[]⟩] (k*2)) 214)):=fun W=>by
  have hr:=run_make (P:=prog) W 285 214 i1 _ underlying285 b6 b7 .i64 .i64 0 k (by omega) (by omega) (by rw[d0];omega) (by omega);simp only[ae,b8]at hr;exact hr
 clear hs;go_enter func207,ntmps207;go_wp2;have a8:(w.alloc (.cells (ah #[.int .i64 0,.string ⟨#[]⟩] (k*2)) 214)).ownsRow w.heap.size 214 2 (.slice (S ⟨w.heap.size,0,N⟩) 0 k) 0 []:=World.ownsRow_made w _ k nR (by unfold maxLen;omega) (au _ _);have a9:aj w.heap.size w (w.alloc (.cells (ah #[.int .i64 0,.string ⟨#[]⟩] (k*2)) 214)):=bR.alloc nR _;generalize w.alloc (.cells (ah #[.int .i64 0,.string ⟨#[]⟩] (k*2)) 214)=w0 at a8 a9 ⊢;have d1:Hid (w0.ownsRow w.heap.size 214 2 (.slice (S ⟨w.heap.size,0,N⟩) 0 k) 0 []):=a8;have d2:Hid (aj w.heap.size w w0):=a9;clear a8 a9 e0;go_loopw [5,12] (fun v x wr=>∃i:Nat,i<=l.length/\x=.int .i64 i/\wr.ownsRow w.heap.size 214 2 v (Qg k l i).length (Js (Qg k l i))/\aj w.heap.size w wr) (fun _ x _=>l.length-(intOf x).toNat)
 case atStart=>exact⟨0,by omega,rfl,d1.out,d2.out⟩
 case round =>
  obtain⟨i,hi,rfl,hO,hB⟩:=hrel;obtain⟨B,rfl⟩:=Xb wr;obtain⟨H,I,rfl,d3⟩:=nL hO;have HO:Hid (B.ownsRow w.heap.size 214 2 (.slice H (Qg k l i).length I) (Qg k l i).length (Js (Qg k l i))):=hO;have HB:Hid (aj w.heap.size w B):=hB;have d4:Hid (fE B H (Qg k l i)):=d3;have d5:w.heap.size<=B.heap.size:=hB.size;clear hO hB d3 d1 d2;by_cases b0:i<l.length
  ·rcases(HS.out.below HB.out)with h0|⟨b1,o1,rfl,e5,d6⟩
   ·rw[h0]at b0;simp at b0
   obtain⟨q1,q2⟩:=d6 i b0;clear d6;have HF:Hid (Qg k l (i+1)=Qg k l (i+1)):=by show _=_;rfl
   have e6:=A7 k l i;by_cases d7:(Qg k l i).length<k
   ·obtain⟨J,a0⟩:=Xb (B.alloc (.cells #[.int .i64 (Ji l i).1,.string (Ji l i).2] 214));have a2:=Zk a0;have d8:=QT a0;obtain⟨a5,b2⟩:=lO (JH a0);have b3:tK J 218 #[.pointer (S ⟨B.heap.size,0,N⟩)] (Qg k l i) (fun y=>y.1==(Ji l i).1):=fun j K w5 h5 =>
     JlM B.heap.size (Ji l i).1 (Ji (Qg k l i) j).1 (Ji (Qg k l i) j).2 w5 ((h5.cell (p:=⟨B.heap.size,0,N⟩) (by show B.heap.size<_;omega)).trans a5)
    have HC:=JaA H (Qg k l i) I 218 #[.pointer (S ⟨B.heap.size,0,N⟩)] (fun y=>y.1==(Ji l i).1) J (by omega) (d4.out.below a2) (enters_of func218 (by kernel_rfl) rfl) b3;have b4:Hid (J=B.alloc (.cells #[.int .i64 (Ji l i).1,.string (Ji l i).2] 214)):=a0;have Z:Hid (aj w.heap.size w J):=HB.out.trans (a2.mono d5);have a3:Hid (J.ownsRow w.heap.size 214 2 (.slice H (Qg k l i).length I) (Qg k l i).length (Js (Qg k l i))):=am HO.out (QD a2 N) (by cases hv:(Value.slice H (Qg k l i).length I).ownBlock<;>simp);have e7:B.heap.size<J.heap.size:=by omega
    by_cases a4:(Qg k l i).any (fun y=>y.1==(Ji l i).1)=T
    ·have HP:Hid (Qg k l (i+1)=Qg k l i):=tS a4;rw[a4]at HC;clear a4 a0 a2 d8 a5 b2 b3 HF;generalize Qg k l i=D at *;go_wp2_with fail
     rw[<-b4.out];refine HC.mono ?_;rintro e O ⟨rfl,U⟩;have a6:Hid (aj w.heap.size w O):=Z.out.trans (U.mono Z.out.size);have a7:Hid (O.ownsRow w.heap.size 214 2 (.slice H D.length I) D.length (Js D)):=am a3.out (QD U N) (by cases hv:(Value.slice H D.length I).ownBlock<;>simp);clear HC U;go_wp2;go_roundw
     case rel=>exact⟨i+1,by omega,by go_num,by rw[HP.out];exact a7.out,a6.out⟩
     case measure=>simp[intOf];omega
    ·have b5:(Qg k l i).any (fun y=>y.1==(Ji l i).1)=false:=af.2 a4;have HP:Hid (Qg k l (i+1)=Qg k l i++ [Ji l i]):=rJ d7 b5;rw[b5]at HC;have d9:Hid (∀W,aj J.heap.size J W->W.cell? ⟨B.heap.size,0,N⟩=S (.int .i64 (Ji l i).1)/\W.cell? ⟨B.heap.size,1,N⟩=S (.string (Ji l i).2)):=fun W hW=>⟨(hW.cell (p:=⟨B.heap.size,0,N⟩) (by show B.heap.size<_;omega)).trans a5,(hW.cell (p:=⟨B.heap.size,1,N⟩) (by show B.heap.size<_;omega)).trans b2⟩
     clear a4 b5 a0 a2 d8 a5 b2 b3 HF;generalize Qg k l i=D at *;go_wp2_with fail
     rw[<-b4.out];refine HC.mono ?_;rintro e O ⟨rfl,U⟩;have a6:Hid (aj w.heap.size w O):=Z.out.trans (U.mono Z.out.size);have a7:Hid (O.ownsRow w.heap.size 214 2 (.slice H D.length I) D.length (Js D)):=am a3.out (QD U N) (by cases hv:(Value.slice H D.length I).ownBlock<;>simp);obtain⟨r1,r2⟩:=d9.out O U;have e8:w.heap.size<=O.heap.size:=a6.out.size;clear HC U q1 q2 d9 b4 a3 Z;generalize Ji l i=xs at *;obtain⟨x,t⟩:=xs;go_wp2_with (first|(at_builtin;refine wpList_append_own _ rfl (.tmp 26) (.tmp 28) 285 rfl w.heap.size 214 i1 (.agg #[.int .i64 0,.string ⟨#[]⟩]) 2 24 underlying285 b6 b7 b8 d0 rfl (by decide) (.slice H D.length I) D.length (Js D) rfl (aw a7.out _) ⟨O.heap.size,0,N⟩ 1 1 [.int .i64 x,.string t] rfl rfl (fun j u K=>by match j,K with|0,K=>(simp at K;subst K;simp[Addr.add])|1,K=>(simp at K;subst K;simp[Addr.add])) (fun u hu=>by simp at hu;rcases hu with rfl|rfl<;>rfl) (by unfold maxLen;omega) (by omega) (by simp;omega) ?_;intro v' w8 e1 e2 _))
     have e3:aj w.heap.size w w8:=(a6.out.alloc (by omega) _).grown e2 (by simp;omega) (fun g hg=>(bn a7.out g hg).1);go_roundw
     case rel=>exact⟨i+1,by omega,by go_num,by rw[HP.out,RY,al,ar];exact e1,e3⟩
     case measure=>simp[intOf];omega
   ·have HP:Hid (Qg k l (i+1)=Qg k l i):=qH d7;have Z:Hid (aj w.heap.size w (B.alloc (.cells #[.int .i64 (Ji l i).1,.string (Ji l i).2] 214))):=HB.out.alloc d5 _;have a3:Hid ((B.alloc (.cells #[.int .i64 (Ji l i).1,.string (Ji l i).2] 214)).ownsRow w.heap.size 214 2 (.slice H (Qg k l i).length I) (Qg k l i).length (Js (Qg k l i))):=aw HO.out _;clear HF;generalize Qg k l i=D at *;go_wp2;go_roundw
    case rel=>exact⟨i+1,by omega,by go_num,by rw[HP.out];exact a3.out,Z.out⟩
    case measure=>simp[intOf];omega
  ·have e4:i=l.length:=by omega
   subst e4;go_wp2;go_ret;exact⟨⟨H,I,rfl,d4.out⟩,HB.out⟩
def Xn (k x:Nat):List Nat:=Qi k fun j=>Gf.aQ (JB k) j x
theorem Jmq {K:Nat}(h:QJ w (S ⟨K,0,N⟩) (kK k n))(hn:1<=n)(hk:1<=k):∃U Z rc:Nat->Nat,K<w.heap.size/\∀i,i<n->w.cell? ⟨K,i,N⟩=S (.slice (S ⟨U i,Z i,N⟩) k (rc i))/\jU w (S ⟨U i,Z i,N⟩) (Xn k i):=by
 have hf:kK k n=XB n k (fun i j=>Gf.aQ (JB k) j i):=rfl;have h1:∀i,i<n->∃D H c,w.cell? ⟨K,i,N⟩=S (.slice (S ⟨D,H,N⟩) k c)/\jU w (S ⟨D,H,N⟩) (Xn k i):=fun i I=>by
  rw[hf]at h;have hr:Qh (XB n k fun i j=>Gf.aQ (JB k) j i) i=Xn k i:=XD n k _ i I;obtain⟨b,o,D,H,c,O,_,a0,B,J⟩:=h.row (i:=i) (by rw[Zs];exact I) (by rw[hr];unfold Xn;rw[Jf];omega);injection O with O
  injection O with e1 e2 _
  subst e1 e2;rw[hr]at B J;have hl:(Xn k i).length=k:=Jf _ _;rw[hl,Nat.zero_add]at B;exact⟨D,H,c,B,⟨XL _ _ (fun j=>Gf.bL _ _ _),Or.inr ⟨D,H,rfl,a0,J⟩⟩⟩
 have B:∀i,∃t:Nat×Nat×Nat,i<n->w.cell? ⟨K,i,N⟩=S (.slice (S ⟨t.1,t.2.1,N⟩) k t.2.2)/\jU w (S ⟨t.1,t.2.1,N⟩) (Xn k i):=fun i=>by
  by_cases I:i<n
  ·obtain⟨D,H,c,J⟩:=h1 i I;exact⟨(D,H,c),fun _=>J⟩
  ·exact⟨(0,0,0),fun h=>absurd h I⟩
 refine⟨fun i=>(ap (B i)).1,fun i=>(ap (B i)).2.1,fun i=>(ap (B i)).2.2,?_,fun i I=>Classical.choose_spec (B i) I⟩;obtain⟨_,_,_,J,_⟩:=h1 0 (by omega);exact Qf J
theorem NN (H:1<=k)(I:k<=12)(J:X.length=k):jQ (X.map (Xn k)):=by
 have D:∀i,i<X.length->(Qh (X.map (Xn k)) i).length=k:=fun i B=>by
  unfold Qh;rw[aa,an,ac B];exact Jf _ _
 refine⟨by rw[ai];omega,by rw[ai];omega,fun i B=>?_⟩;rw[ai]at B;rw[D i B,D 0 (by omega)];exact⟨H,by omega,rfl⟩
theorem LB (k:Nat)(X:List Nat):QR (X.map (Xn k)):=fun i=>by
 by_cases B:i<X.length
 ·have:Qh (X.map (Xn k)) i=Xn k X[i]:=by unfold Qh;rw[aa,an,ac B];rfl
  rw[this];exact XL _ _ (fun j=>Gf.bL _ _ _)
 ·intro j;have:Qh (X.map (Xn k)) i=[]:=by unfold Qh;rw[aa,ag (by rw[ai];omega)];rfl
  rw[this];show([]:List Nat).getD j 0<256;simp
theorem OX (hn:n<=12)(I:X.length=k)(U:X.Nodup)(Z:∀x∈X,x<n)(hk:k<=n):Lin.cL k k (vec (X.map (Xn k))) k:=by
 have J:Gf.Bytes X:=fun i=>by
  by_cases B:i<X.length
  ·rw[Gf.aK X i B];have:=Z _ (List.getElem_mem B);omega
  ·show X.getD i 0<256;rw[aa,ag (by omega)];decide
 have h:=PZ (JB k) X (tA k (by omega)) (sI k) J U (by rw[JE];exact I);rw[JE,I]at h;refine BD ?_;intro c K;refine h c (fun j D=>?_);rw[<-K j D];refine Lin.aH fun r hr=>?_
 have H:r<X.length:=by omega
 have O:Qh (X.map (Xn k)) r=Xn k X[r]:=by unfold Qh;rw[aa,an,ac H];rfl
 show Lin.mu (c r) (Qm (Gf.aQ (JB k) j (Gf.nth X r)))=Lin.mu (c r) (Qm (Gf.nth (Qh (X.map (Xn k)) r) j));rw[O,Gf.aK X r H];unfold Xn;rw[Yq _ _ j D]
def QY (X:List Nat):Nat->Nat->Nat:=fun i j=>Gf.aQ X j i
theorem tW (X:List Nat)(i j:Nat):QY X i j<256:=Gf.bL _ _ _
def iY (k:Nat)(X:List Nat):Nat->Nat->Lin.F:=fun i j=>Qm (rQ k (Gf.nth X i) j)
theorem CQ (K:Gf.Bytes X)(hn:X.Nodup)(O:X.length=k)(U:k<=256):∀i j,i<k->j<k->Lin.mm k (Ym (QY X)) (iY k X) i j=Lin.one i j:=by
 obtain⟨y,Z⟩:=Lin.dR (IC k U);have I:=Lin.cK Z;have e1:∀i m,i<k->m<k->Lin.mm k (Lin.mm k (Ym (QY X)) (iY k X)) (Ym Gf.bZ) i m=Ym Gf.bZ i m:=fun i m D B=>by
  rw[Lin.cN];have e2:Lin.mm k (Ym (QY X)) (Lin.mm k (iY k X) (Ym Gf.bZ)) i m=Lin.mm k (Ym (QY X)) (fun r m=>Qm (Gf.bZ (Gf.nth X r) m)) i m:=Lin.bQ k (fun _ _=>rfl) (fun r _=>by
   have:=Y6 (JB k) (tA k U) (sI k) (Gf.nth X r) m (K r) (by rw[JE];exact B);rw[JE]at this;rw[<-this];exact Lin.aH fun t ht=>by rw[JaR k t ht];rfl)
  rw[e2];have:=Y6 X K hn i m (by omega) (by rw[O];exact B);rw[O]at this;exact this
 intro i j D H;have J:Lin.mm k (Lin.mm k (Ym (QY X)) (iY k X)) Lin.one i j=Lin.mm k (Lin.mm k (Ym (QY X)) (iY k X)) (Lin.mm k (Ym Gf.bZ) y) i j:=Lin.bQ k (fun _ _=>rfl) (fun m B=>(I m j B H).symm);rw[Lin.fK k _ i j H]at J;rw[J,<-Lin.cN];have e4:Lin.mm k (Lin.mm k (Lin.mm k (Ym (QY X)) (iY k X)) (Ym Gf.bZ)) y i j=Lin.mm k (Ym Gf.bZ) y i j:=Lin.bQ k (fun m B=>e1 i m D B) (fun _ _=>rfl);rw[e4];exact I i j D H
theorem eN (O:Gf.Bytes X)(U:X.Nodup)(Z:X.length=k)(hk:k<=256){x:Nat->Nat->Nat}(hx:∀i j,x i j<256)(h:∀i j,i<k->j<k->Lin.mm k (Ym x) (iY k X) i j=Lin.one i j):∀i j,i<k->j<k->x i j=QY X i j:=by
 have J:=Lin.cK (CQ O U Z hk);intro i j H I;refine zA (hx i j) (tW X i j) ?_;have B:Lin.mm k (Ym x) Lin.one i j=Lin.mm k (Ym x) (Lin.mm k (iY k X) (Ym (QY X))) i j:=Lin.bQ k (fun _ _=>rfl) (fun m D=>(J m j D I).symm);rw[Lin.fK k _ i j I,<-Lin.cN]at B;have K:Lin.mm k (Lin.mm k (Ym x) (iY k X)) (Ym (QY X)) i j=Lin.mm k Lin.one (Ym (QY X)) i j:=Lin.bQ k (fun m D=>h i m H D) (fun _ _=>rfl);rw[K,Lin.fJ k _ i j H]at B;exact B
theorem vB {f val:Nat->Nat->Nat}(B:∀i j,f i j<256)(D:∀j c,val j c<256)(i c:Nat):∀m,Qm (Jl f val i c m)=Lin.aL m (fun j=>Lin.mu (Qm (f i j)) (Qm (val j c)))
 |0=>rfl
 |m+1=>by
  show Qm (Jl f val i c m^^^Gf.mul (f i m) (val m c))=Lin.ad (Lin.aL m _) _;rw[qW (nD B i c m) (Gf.aV (B i m) _),vB B D i c m,oU (B i m) (D m c)]
theorem told (O:Gf.Bytes X)(U:X.Nodup)(Z:X.length=k)(hk:k<=256){u v:Nat->Nat->Nat}(B:∀j c,u j c<256)(a0:∀j c,v j c<256)(c:Nat)(hv:∀i,i<k->v i c=Jl (rQ k) u (Gf.nth X i) c k)(m:Nat)(D:m<k):
 Jl (QY X) v m c k=u m c:=by
 refine zA (nD (tW X) _ _ _) (B m c) ?_;rw[vB (tW X) a0];have H:Lin.aL k (fun j=>Lin.mu (Qm (QY X m j)) (Qm (v j c)))=Lin.mm k (Ym (QY X)) (Lin.mm k (iY k X) (fun j _=>Qm (u j c))) m 0:=Lin.aH fun j I=>by
  rw[hv j I,vB (TF k) B];rfl
 rw[H,<-Lin.cN];have J:Lin.mm k (Lin.mm k (Ym (QY X)) (iY k X)) (fun j _=>Qm (u j c)) m 0=Lin.mm k Lin.one (fun j _=>Qm (u j c)) m 0:=Lin.bQ k (fun t K=>CQ O U Z hk m t D K) (fun _ _=>rfl);rw[J,Lin.fJ k _ m 0 D]
theorem A0 {f g val:Nat->Nat->Nat}{i c:Nat}:∀k,(∀j,j<k->f i j=g i j)->Jl f val i c k=Jl g val i c k
 |0,_=>rfl
 |k+1,h=>by
  show Jl f val i c k^^^_=Jl g val i c k^^^_;rw[A0 k (fun j B=>h j (by omega)),h k (by omega)]
def gF (g:Nat->Nat->Nat)(B m:Nat):List Nat:=(ze m).flatMap fun i=>Qi B (g i)
theorem BG (g:Nat->Nat->Nat)(B m:Nat):gF g B (m+1)=gF g B m++Qi B (g m):=by simp[gF,List.range_succ]
theorem YV (g:Nat->Nat->Nat)(B:Nat):∀m,(gF g B m).length=m*B
 |0=>by rw[Nat.zero_mul];rfl
 |m+1=>by rw[BG,al,YV g B m,Jf,Nat.succ_mul]
theorem OR {l:List Nat}(h:p<l.length):Gf.nth (l++r) p=Gf.nth l p:=by
 show(l++r).getD p 0=l.getD p 0;rw[aa,aa,List.getElem?_append_left h]
theorem Jjl {l:List Nat}(h:l.length<=p):Gf.nth (l++r) p=Gf.nth r (p-l.length):=by
 show(l++r).getD p 0=r.getD (p-l.length) 0;rw[aa,aa,List.getElem?_append_right h]
theorem G4 (g:Nat->Nat->Nat)(B:Nat):∀m p,p<m*B->Gf.nth (gF g B m) p=g (p/B) (p%B)
 |0,p,h=>by rw[Nat.zero_mul]at h;exact absurd h (Nat.not_lt_zero _)
 |m+1,p,h=>by
  rw[BG];by_cases D:p<m*B
  ·rw[OR (by rw[YV];exact D)];exact G4 g B m p D
  ·have K:0<B:=by
    rcases Nat.eq_zero_or_pos B with e|e
    ·rw[e,Nat.mul_zero]at h;exact absurd h (Nat.not_lt_zero _)
    ·exact e
   have H:p-m*B<B:=by rw[Nat.succ_mul]at h;omega
   have O:p=B*m+(p-m*B):=by rw[Nat.mul_comm B m];omega
   have I:p/B=m:=by
    have J:(B*m+(p-m*B))/B=m:=by rw[Nat.mul_add_div K,Nat.div_eq_of_lt H,Nat.add_zero]
    rw[<-O]at J;exact J
   have U:p%B=p-m*B:=by
    have:=Nat.mod_add_div p B;rw[I,Nat.mul_comm B m]at this;omega
   rw[Jjl (by rw[YV];omega),YV,Yq _ _ _ H,I,U]
theorem OE (g:Nat->Nat->Nat)(B m size:Nat)(h:size<=m*B):(gF g B m).take size=Qi size fun p=>g (p/B) (p%B):=by
 have H:((gF g B m).take size).length=size:=by rw[List.length_take,YV];omega
 refine BO (by rw[H,Jf]) fun p D=>?_
 rw[H]at D;rw[Yq _ _ p D,<-G4 g B m p (by omega)];show((gF g B m).take size).getD p 0=(gF g B m).getD p 0;rw[aa,aa,List.getElem?_take_of_lt D]
def Y2 (l:List Nat):List UInt8:=l.map fun n=>UInt8.ofNat n
theorem NP (l:List Nat):(Jp l).data.toList=Y2 l:=by
 unfold Jp Y2;rw[strOfNums_data,az];rfl
theorem RL (l:List Nat):Jp l=⟨(Y2 l).toArray⟩:=by
 unfold Jp strOfNums Y2;rw[az];rfl
theorem M7 (xs:List (List UInt8)):Lib.join xs []=xs.flatten:=by
 cases xs with
 |nil=>rfl
 |cons x r =>
  rw[Lib.join_cons];unfold Lib.joinTail;simp
theorem NV (g:Nat->Nat->Nat)(B m:Nat):Lib.join (((ze m).map fun i=>Jp (Qi B (g i))).map (·.data.toList)) []=Y2 (gF g B m):=by
 rw[M7,az];unfold gF Y2;rw[List.map_flatMap,List.flatMap_def]
 congr 1
 exact List.map_congr_left fun i _=>NP _
theorem SZ (l:List Nat)(size:Nat):(⟨(Y2 l).toArray⟩:BA).extract 0 size=Jp (l.take size):=by
 rw[ByteArray.extract_mk,RL]
 congr 2
 unfold Y2;rw[List.drop_zero,Nat.sub_zero,List.map_take]
theorem FX (B:1<=k):size<=k*Jk k size:=by
 rcases Nat.lt_or_ge (Jk k size*k) size with h|h
 ·exact absurd (RS B h) (Nat.lt_irrefl _)
 ·rw[Nat.mul_comm];exact h
def Xo (B:List (Int×BA)):List Nat:=B.map fun x=>x.1.toNat
def Z2 (B:List (Int×BA)):Nat->Nat->Nat:=fun j c=>Gf.nth (Zj (Ji B j).2) c
theorem EN (B:List (Int×BA))(j c:Nat):Z2 B j c<256:=xK _ _
def gB (k size:Nat)(B:List (Int×BA)):BA:=Jp (Qi size fun p=>Jl (QY (Xo B)) (Z2 B) (p/Jk k size) (p%Jk k size) k)
theorem JpW (k size:Nat)(B:List (Int×BA)):(gB k size B).size=size:=by
 unfold gB;rw[xG,Jf]
theorem Jn2 (k size:Nat)(B:List (Int×BA)):Zj (gB k size B)=Qi size fun p=>Jl (QY (Xo B)) (Z2 B) (p/Jk k size) (p%Jk k size) k:=FK (XL _ _ fun _=>nD (tW _) _ _ _)
def gS (n k:Nat)(size y:Int)(t:BA):Bool:=decide (0<=size/\size<=1000/\0<=y/\y<n/\t.size=Jk k size.toNat)
theorem I1 (n k:Nat)(size y:Int)(t:BA)(w:World)(a0:1<=k)(a2:k<=n)(hn:n<=12):
 ao prog 203 #[.int .i64 (n:Int),.int .i64 (k:Int),.int .i64 size,.agg #[.int .i64 y,.string t]] w fun e w'=>e=.returned (.bool (gS n k size y t))/\aj w.heap.size w w':=by
 obtain⟨w1,K⟩:=Xb (w.alloc (.cells #[.int .i64 y,.string t] 214));have O:Hid (aj w.heap.size w w1):=by rw[K];exact bR.alloc nR _
 obtain⟨f0,f1⟩:=lO (JH K);have U:Hid _:=K;have Z:Hid (∀W,ao prog 53 #[.int .i64 (n:Int),.int .i64 (k:Int)] W fun e w'=>e=.returned (.bool T)/\w'=W):=fun W=>by
  have h:=xC (n:Int) (k:Int) W;rw[decide_eq_true (show(1:Int)<=(k:Int)/\(k:Int)<=(n:Int)/\(n:Int)<=12 by omega)]at h;exact h
 clear K;by_cases B:0<=size/\size<=1000
 ·have H:Hid (∀W,ao prog 212 #[.int .i64 size] W fun e w'=>e=.returned (.bool T)/\w'=W):=fun W=>GN _ W B
  by_cases I:0<=y
  ·have d1:decide (0<=y)=true:=decide_eq_true I;by_cases J:y<(n:Int)
   ·have d2:decide (y<(n:Int))=true:=decide_eq_true J;obtain⟨s,rfl⟩:=Int.eq_ofNat_of_zero_le B.1;have HV:Hid (∀W,ao prog 200 #[.int .i64 (s:Int),.int .i64 (k:Int)] W fun e w'=>e=.returned (.int .i64 ((Jk k s:Nat):Int))/\w'=W):=fun W=>zM s k W a0 (by omega) (by omega)
    have D:Hid (gS n k (s:Int) y t=((t.size:Int)==((Jk k s:Nat):Int))):=by
     show _=_;unfold gS;rw[ae];by_cases h3:t.size=Jk k s
     ·rw[decide_eq_true ⟨B.1,B.2,I,J,h3⟩,h3];simp
     ·rw[decide_eq_false (fun h=>h3 h.2.2.2.2)]
      symm
      rw[beq_eq_false_iff_ne];omega
    rw[D.out];clear B;generalize Jk k s=wd at *;go_enter func203,ntmps203;go_wp2_with (rw[<-U.out])
    go_quiet (first|(go_at_call 53;exact ab (Z.out _))|(go_at_call 212;exact ab (H.out _))|(go_at_call 200;exact ab (HV.out _)))
    go_wp2;go_ret;exact⟨rfl,av O.out _⟩
   ·have d2:decide (y<(n:Int))=false:=decide_eq_false J;have D:Hid (gS n k size y t=ax):=decide_eq_false fun h=>J h.2.2.2.1
    rw[D.out];clear B J;go_enter func203,ntmps203;go_wp2_with (rw[<-U.out])
    go_quiet (first|(go_at_call 53;exact ab (Z.out _))|(go_at_call 212;exact ab (H.out _)))
    go_wp2;go_ret;exact⟨rfl,av O.out _⟩
  ·have d1:decide (0<=y)=false:=decide_eq_false I;have D:Hid (gS n k size y t=ax):=decide_eq_false fun h=>I h.2.2.1
   rw[D.out];clear B I;go_enter func203,ntmps203;go_wp2_with (rw[<-U.out])
   go_quiet (first|(go_at_call 53;exact ab (Z.out _))|(go_at_call 212;exact ab (H.out _)))
   go_wp2;go_ret;exact⟨rfl,av O.out _⟩
 ·have H:Hid (∀W,ao prog 212 #[.int .i64 size] W fun e w'=>e=.returned (.bool ax)/\w'=W):=fun W=>Jqt _ W B
  have D:Hid (gS n k size y t=ax):=decide_eq_false fun h=>B ⟨h.1,h.2.1⟩
  rw[D.out];clear B;go_enter func203,ntmps203;go_wp2_with (rw[<-U.out])
  go_quiet (first|(go_at_call 53;exact ab (Z.out _))|(go_at_call 212;exact ab (H.out _)))
  go_wp2;go_ret;exact⟨rfl,av O.out _⟩
theorem N5 {y:Int}{t:BA}(I:size<=1000):(!gS n k (size:Int) y t)=j4 (n:Int) (Jk k size) (y,t):=by
 unfold gS j4;rw[ae];by_cases D:y<0
 ·rw[decide_eq_false (fun h=>by omega),decide_eq_true D];rfl
 ·by_cases H:(n:Int)<=y
  ·rw[decide_eq_false (fun h=>by omega),decide_eq_true H];simp
  ·by_cases B:t.size=Jk k size
   ·rw[decide_eq_true ⟨by omega,by omega,by omega,by omega,B⟩,decide_eq_false D,decide_eq_false H,decide_eq_true B];rfl
   ·rw[decide_eq_false (fun h=>B h.2.2.2.2),decide_eq_false D,decide_eq_false H,decide_eq_false B];rfl
theorem WJ (H I ps n k size:Nat)(y:Int)(t:BA)(w:World)(a8:1<=k)(a9:k<=n)(hn:n<=12)(hs:size<=1000)(J:w.cell? ⟨H,0,N⟩=S (.int .i64 (n:Int)))(K:w.cell? ⟨I,0,N⟩=S (.int .i64 (k:Int)))(O:w.cell? ⟨ps,0,N⟩=S (.int .i64 (size:Int))):
 ao prog 206 (#[.agg #[.int .i64 y,.string t]]++#[.pointer (S ⟨H,0,N⟩),.pointer (S ⟨I,0,N⟩),.pointer (S ⟨ps,0,N⟩)]) w fun e U=>e=.returned (.bool (j4 (n:Int) (Jk k size) (y,t)))/\aj w.heap.size w U:=by
 have a3:=Qf J;have a4:=Qf K;have a5:=Qf O;have Z:Hid ((!gS n k (size:Int) y t)=j4 (n:Int) (Jk k size) (y,t)):=N5 hs;rw[<-Z.out];obtain⟨w1,D⟩:=Xb (w.alloc (.cells #[.int .i64 y,.string t] 214));have B:=Zk D;have a0:Hid _:=B;obtain⟨f0,f1⟩:=lO (JH D);have g1:=(B.cell (p:=⟨H,0,N⟩) a3).trans J;have g2:=(B.cell (p:=⟨I,0,N⟩) a4).trans K;have g3:=(B.cell (p:=⟨ps,0,N⟩) a5).trans O;have a6:Hid _:=D;have HC:=I1 n k (size:Int) y t w1 a8 a9 hn;clear D B J K O Z;generalize gS n k (size:Int) y t=fb at *;go_enter func206,ntmps206;go_wp2_with (rw[<-a6.out])
 refine HC.mono ?_;rintro e U ⟨rfl,a2⟩;have a7:Hid _:=a0.out.trans (a2.mono a0.out.size);clear HC a2;go_wp2;go_ret;exact⟨rfl,a7.out⟩
end Go.Proofs.YtfgapcknnoeplaaGreatDoor

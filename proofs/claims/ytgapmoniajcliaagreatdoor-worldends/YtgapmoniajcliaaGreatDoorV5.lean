/- Texts laid together. -/
import Derived.Test.YtgapmoniajcliaaGreatDoorV4
import Derived.Lib.Join
import Derived.Shelf.Strings.OnBuilder
set_option maxRecDepth 10000
set_option maxHeartbeats 8000000
open List renaming getD_eq_getElem?_getD->aa,getElem?_eq_getElem->ac,getElem?_map->ag,length_map->ah,length_append->al,length_singleton->an,getElem?_eq_none->ao,getElem_mem->av,take_of_length_le->ax,range->ay,mem_map->az,map_map->aA,any_eq_false->aN
open Option renaming some->ab,none->N
open Go.Calls renaming quiet_of_same->ae
open Go.RowKit renaming Below->af
open Go renaming madeCells->ai,Calls->ak,size_madeCells->aD,below_drewN->aE,info_parts->zb
open Int renaming toNat_natCast->aj
open Bool renaming eq_false_iff->am,false->au,true->T
open Go.World renaming cell?_alloc_at->ap
open Go.World.ownsRow renaming kept->ar,alloc->za,cells->bo,lt->zm
open Classical renaming choose->aw
open Go.Lib renaming join->aF
namespace Go.Proofs
open Go.Shelf
def Tryz.lays156_ren : Go.Shelf.Ren := ⟨fun | 156 => 152 | 165 => 183 | 166 => 184 | 169 => 185 | 240 => 205 | 241 => 206 | 276 => 218 | 277 => 219 | n => n, fun | 31 => 22 | 9 => 9 | 3 => 3 | 4 => 4 | 0 => 0 | 20 => 20 | 72 => 256 | 76 => 193 | 70 => 254 | 37 => 116 | 75 => 28 | 127 => 117 | 164 => 281 | 5 => 5 | 80 => 72 | n => n, fun | n => n⟩
theorem Tryz.lays156 : Go.Proofs.Lays.n156 Tryz.prog Tryz.lays156_ren := {
 mixed:=by kernel_rfl
 f156:=Tryz.func152.trans (congrArg ab (by kernel_rfl))
 f165:=Tryz.func183.trans (congrArg ab (by kernel_rfl))
 f166:=Tryz.func184.trans (congrArg ab (by kernel_rfl))
 f169:=Tryz.func185.trans (congrArg ab (by kernel_rfl))
 f240:=Tryz.func205.trans (congrArg ab (by kernel_rfl))
 f241:=Tryz.func206.trans (congrArg ab (by kernel_rfl))
 f276:=Tryz.func218.trans (congrArg ab (by kernel_rfl))
 f277:=Tryz.func219.trans (congrArg ab (by kernel_rfl))
 t0:=Tryz.underlying0
 a0:=Tryz.isAgg0
 z0:=Tryz.sizeOf0
 v0:=Tryz.zeroValue0
 t3:=Tryz.underlying3
 a3:=Tryz.isAgg3
 z3:=Tryz.sizeOf3
 v3:=Tryz.zeroValue3
 t4:=Tryz.underlying4
 a4:=Tryz.isAgg4
 z4:=Tryz.sizeOf4
 v4:=Tryz.zeroValue4
 t9:=Tryz.underlying9
 a9:=Tryz.isAgg9
 z9:=Tryz.sizeOf9
 v9:=Tryz.zeroValue9
 t20:=Tryz.underlying20
 a20:=Tryz.isAgg20
 z20:=Tryz.sizeOf20
 v20:=Tryz.zeroValue20
 t31:=Tryz.underlying22
 a31:=Tryz.isAgg22
 z31:=Tryz.sizeOf22
 v31:=Tryz.zeroValue22
 t37:=Tryz.underlying116
 a37:=Tryz.isAgg116
 z37:=Tryz.sizeOf116
 v37:=Tryz.zeroValue116
 t70:=Tryz.underlying254
 a70:=Tryz.isAgg254
 z70:=Tryz.sizeOf254
 v70:=Tryz.zeroValue254
 t72:=Tryz.underlying256
 a72:=Tryz.isAgg256
 z72:=Tryz.sizeOf256
 v72:=Tryz.zeroValue256
 t75:=Tryz.underlying28
 a75:=Tryz.isAgg28
 z75:=Tryz.sizeOf28
 v75:=Tryz.zeroValue28
 t76:=Tryz.underlying193
 a76:=Tryz.isAgg193
 z76:=Tryz.sizeOf193
 v76:=Tryz.zeroValue193
 t127:=Tryz.underlying117
 a127:=Tryz.isAgg117
 z127:=Tryz.sizeOf117
 v127:=Tryz.zeroValue117
 t164:=Tryz.underlying281
 a164:=Tryz.isAgg281
 z164:=Tryz.sizeOf281
 v164:=Tryz.zeroValue281 }
theorem Tryz.Builder_Extra_156 : Builder.Extra Tryz.prog Tryz.lays156_ren := {
 sizeBuilder:=by kernel_rfl
 liesBuilder:=by kernel_rfl
 t5:=Tryz.underlying5
 a5:=Tryz.isAgg5
 z5:=Tryz.sizeOf5
 v5:=Tryz.zeroValue5
 infoByte:=by kernel_rfl
 cellsByte:=by kernel_rfl
 sizeByte:=by kernel_rfl
 neB5:=by decide }
open Go.RowKit in
/-- strings.Join, however many elements. -/
theorem Tryz.strings_Join (bk o c : Nat) (xs : List ByteArray) (sep : ByteArray) (w : World) (hcells : ∀ (j : Nat) x, xs[j]? = ab x → w.cell? ⟨bk, o + j, N⟩ = ab (.string x)) (hbk : bk < w.heap.size) (hN : xs.length ≤ 140737488355328) (hcap : xs.length ≤ c) (hlen : (aF (xs.map (·.data.toList)) sep.data.toList).length ≤ 140737488355328) :
 ak Tryz.prog 152 #[.slice (ab ⟨bk, o, N⟩) xs.length c, .string sep] w fun e w' => e = .returned (.string ⟨(aF (xs.map (·.data.toList)) sep.data.toList).toArray⟩) ∧ af w.heap.size w w':=Any.strings_Join Tryz.lays156 Tryz.Builder_Extra_156 bk o c xs sep w hcells hbk hN hcap hlen
end Go.Proofs
namespace Go.Proofs.YtgapmoniajcliaaGreatDoor
open Go.RowKit
variable {w w':World}{B j g n i k p size:Nat}{v:Yb}{l:List (Int×BA)}{f:Nat->Int×BA}{t:Int×Int}{S:Int×List (Int×BA)}{X r:List Nat}
theorem vH:(Tryz.prog.info? 140).map (fun i=>(i.zero,i.size,i.bytes))=ab (ab (.agg #[.int .i64 0,.string ⟨#[]⟩]),2,24):=by kernel_rfl
def Js (l:List (Int×BA)):List Value:=l.flatMap fun x=>[.int .i64 x.1,.string x.2]
theorem DP:∀(l:List (Int×BA)) (i:Nat),i<l.length->(Js l)[i*2]?=ab (.int .i64 (Ji l i).1)/\(Js l)[i*2+1]?=ab (.string (Ji l i).2)
 | [],i,h=>absurd h (Nat.not_lt_zero _)
 |x::t,0,_=>⟨rfl,rfl⟩
 |x::t,i+1,h=>by
  have B:=DP t i (by simpa using h);have e:Js (x::t)=.int .i64 x.1:: .string x.2::Js t:=rfl;have D:Ji (x::t) (i+1)=Ji t i:=rfl;rw[e,D,show(i+1)*2=i*2+1+1 by omega,show i*2+1+1+1=i*2+1+1+1 from rfl];exact⟨by simpa using B.1,by simpa using B.2⟩
theorem nL {v:Value}{E:TypeId}(h:w.ownsRow B E 2 v l.length (Js l)):∃p c,v=.slice p l.length c/\fE w p l:=by
 rcases h.2 with⟨rfl,K⟩|⟨g,cap,Z,rfl,hb,O,a0,a2,a3,a4⟩
 ·have:l=[]:=List.length_eq_zero_iff.1 K;subst this;exact⟨N,0,rfl,Or.inl rfl⟩
 ·refine⟨ab ⟨g,0,N⟩,cap,rfl,Or.inr ⟨g,0,rfl,(Array.getElem?_eq_some_iff.1 O).1,fun i U=>?_⟩⟩;have D:=bo (g:=g) h rfl;have H:=DP l i U;have I:=D (i*2) _ H.1;have J:=D (i*2+1) _ H.2;rw[Addr.add_lit]at I J;exact⟨I,by rw[Nat.add_assoc];exact J⟩
theorem zM (size k:Nat)(w:World)(H:1<=k)(I:k<=1000)(J:size<=100000):
 ak Tryz.prog 150 #[.int .i64 (size:Int),.int .i64 (k:Int)] w fun e w'=>e=.returned (.int .i64 ((Jk k size:Nat):Int))/\w'=w:=by
 have D:(1:Int)<=(k:Int):=by omega
 have B:Hid (((size:Int)+(k:Int)-1)/(k:Int)=((Jk k size:Nat):Int)):=by
  show _=_;unfold Jk;rw[Int.natCast_ediv]
  congr 1
  omega
 go_enter Tryz.func150,Tryz.ntmps150;go_wp2;go_ret;exact⟨l4 B.out,rfl⟩
theorem KJ (size:Int)(w:World):ak Tryz.prog 170 #[.int .i64 size] w fun e w'=>e=.returned (.bool (decide (0<=size/\size<=1000)))/\w'=w:=by
 by_cases D:0<=size
 ·by_cases H:size<=1000
  ·have B:Hid (decide (0<=size/\size<=1000)=T):=decide_eq_true ⟨D,H⟩;rw[B.out];go_enter Tryz.func170,Tryz.ntmps170;go_wp2;go_ret;exact⟨rfl,rfl⟩
  ·have B:Hid (decide (0<=size/\size<=1000)=au):=decide_eq_false fun h=>H h.2
   rw[B.out];go_enter Tryz.func170,Tryz.ntmps170;go_wp2;go_ret;exact⟨rfl,rfl⟩
 ·have B:Hid (decide (0<=size/\size<=1000)=au):=decide_eq_false fun h=>D h.1
  rw[B.out];go_enter Tryz.func170,Tryz.ntmps170;go_wp2;go_ret;exact⟨rfl,rfl⟩
theorem GN (size:Int)(w:World)(h:0<=size/\size<=1000):ak Tryz.prog 170 #[.int .i64 size] w fun e w'=>e=.returned (.bool T)/\w'=w:=by
 have B:=KJ size w;rw[decide_eq_true h]at B;exact B
theorem Jqt (size:Int)(w:World)(h:¬(0<=size/\size<=1000)):ak Tryz.prog 170 #[.int .i64 size] w fun e w'=>e=.returned (.bool au)/\w'=w:=by
 have B:=KJ size w;rw[decide_eq_false h]at B;exact B
theorem BZ (n k size:Nat)(z:Addr)(w:World)(Z:1<=k)(a0:k<=n)(hn:n<=12)(hs:size<=1000)(J:w.cell? ⟨9,0,N⟩=ab (.iface 287 (.pointer (ab z)))):
 ak Tryz.prog 144 #[.int .i64 (n:Int),.int .i64 (k:Int),.int .i64 (size:Int)] w fun e w'=>(∃B,e=.returned (.tuple #[.slice (ab ⟨B,0,N⟩) n n,.nilIface])/\QJ w' (ab ⟨B,0,N⟩) (kK k n))/\af w.heap.size w w':=by
 have D:=Jo4 n k z w Z a0 hn J;have H:Hid (ak Tryz.prog 170 #[.int .i64 (size:Int)] w fun e w'=>e=.returned (.bool T)/\w'=w):=GN _ w (by omega);clear J;go_enter Tryz.func144,Tryz.ntmps144;go_wp2_with fail
 refine H.out.mono ?_;rintro e K ⟨rfl,I⟩;rw[I];clear I K H;go_wp2_with fail
 refine D.mono ?_;rintro e w1 ⟨⟨B,rfl,O⟩,U⟩;clear D;go_wp2
 go_ret2
 exact⟨⟨B,rfl,O⟩,U⟩
def gN (s:BA)(B:Nat):Nat->Nat->Nat:=fun j c=>Gf.nth (Zj s) (j*B+c)
theorem DM (s:BA)(B j c:Nat):gN s B j c<256:=xK s _
theorem VE {s:BA}{c:Nat}(h:¬j*B+c<s.size):gN s B j c=0:=by
 show(Zj s).getD _ 0=0;rw[aa,ao (by simp[Zj];omega)];rfl
def JW (k:Nat)(s:BA)(i:Nat):BA:=Jp (J7 (fun i j=>Gf.aQ (JB k) j i) (gN s (Jk k s.size)) k (Jk k s.size) i)
def fR (k:Nat)(s:BA)(i:Nat):Int×BA:=((i:Int),JW k s i)
def i6 (f:Nat->Int×BA):Nat->Value:=fun q=>if q%2=0 then .int .i64 (f (q/2)).1 else .string (f (q/2)).2
def ZE (w:World)(g n:Nat)(f:Nat->Int×BA):Prop:=w.rowIs g 140 (n*2) (i6 f)
theorem PO (f:Nat->Int×BA)(i:Nat):i6 f (i*2)=.int .i64 (f i).1:=by unfold i6;rw[if_pos (by omega),Nat.mul_div_cancel _ (by decide)]
theorem PK (f:Nat->Int×BA)(i:Nat):i6 f (i*2+1)=.string (f i).2:=by unfold i6;rw[if_neg (by omega),show(i*2+1)/2=i by omega]
theorem ZE.at_ (h:ZE w g n f)(B:i<n):w.cell? ⟨g,i*2,N⟩=ab (.int .i64 (f i).1):=by rw[World.rowIs.cell h (by omega),PO]
theorem ZE.text (h:ZE w g n f)(B:i<n):w.cell? ⟨g,i*2+1,N⟩=ab (.string (f i).2):=by rw[World.rowIs.cell h (by omega),PK]
theorem ZE.below (h:ZE w g n f)(B:af w.heap.size w w'):ZE w' g n f:=yN h B
theorem ZE.congr {B:Nat->Int×BA}(h:ZE w g n f)(D:∀i,i<n->f i=B i):ZE w g n B:=World.rowIs.congr h (fun q H=>by unfold i6;rw[D (q/2) (by omega)])
theorem ZE.set (h:ZE w g n f)(i:Nat)(x:Int)(t:BA):ZE ((w.setCell ⟨g,i*2,N⟩ (.int .i64 x)).setCell ⟨g,i*2+1,N⟩ (.string t)) g n (fun j=>if j=i then(x,t)else f j):=by
 refine World.rowIs.congr ((World.rowIs.set h (i*2) (.int .i64 x)).set (i*2+1) (.string t)) (fun q _=>?_);rcases Nat.mod_two_eq_zero_or_one q with e|e
 ·rw[if_neg (by omega)];by_cases B:q=i*2
  ·rw[if_pos B];unfold i6;dsimp only;rw[if_pos e,if_pos (show q/2=i by omega)]
  ·rw[if_neg B];unfold i6;dsimp only;rw[if_pos e,if_pos e,if_neg (show ¬q/2=i by omega)]
 ·by_cases B:q=i*2+1
  ·rw[if_pos B];unfold i6;dsimp only;rw[if_neg (show ¬q%2=0 by omega),if_pos (show q/2=i by omega)]
  ·rw[if_neg B,if_neg (by omega)];unfold i6;dsimp only;rw[if_neg (show ¬q%2=0 by omega),if_neg (show ¬q%2=0 by omega),if_neg (show ¬q/2=i by omega)]
theorem ZE.made (w:World)(n:Nat):ZE (w.alloc (.cells (ai #[.int .i64 0,.string ⟨#[]⟩] (n*2)) 140)) w.heap.size n (fun _=>(0,⟨#[]⟩)):=by
 have:=World.rowIs_alloc w (ai #[.int .i64 0,.string ⟨#[]⟩] (n*2)) 140 (i6 fun _=>(0,⟨#[]⟩)) (fun i B=>by
  rw[aD]at B;simp only[ai];rw[Array.getElem?_map,Array.getElem?_eq_getElem (by simpa using B)];simp only[Array.getElem_range,Option.map_some];unfold i6;rcases Nat.mod_two_eq_zero_or_one i with e|e
  ·rw[if_pos e];simp[e]
  ·rw[if_neg (by omega)];simp[e])
 rw[aD]at this;exact this
theorem Jhx (n:Nat)(O:n<=1000000)(W:World):Sem.run Tryz.prog (Instr.makeSlice 197 (.int .i64 (n:Int)) (.int .i64 (n:Int))) W=.ok (.slice (ab ⟨W.heap.size,0,N⟩) n n) (W.alloc (.cells (ai #[.int .i64 0,.string ⟨#[]⟩] (n*2)) 140)):=by
 obtain⟨D,H,I,J,K⟩:=zb vH;have B:=run_make (P:=Tryz.prog) W 197 140 D _ Tryz.underlying197 H I .i64 .i64 n n (by omega) (Int.le_refl _) (by rw[K];omega) (by omega);simp only[aj,J]at B;exact B
def rQ (k:Nat):Nat->Nat->Nat:=fun i j=>Gf.aQ (JB k) j i
theorem TF (k i j:Nat):rQ k i j<256:=Gf.bL _ _ _
theorem I4 (k:Nat)(s:BA)(i:Nat):Zj (JW k s i)=J7 (rQ k) (gN s (Jk k s.size)) k (Jk k s.size) i :=
 FK (XL _ _ fun _=>nD (fun _ _=>Gf.bL _ _ _) _ _ _)
theorem BM (k:Nat)(s:BA)(i:Nat):(JW k s i).size=Jk k s.size:=by
 rw[<-tZ,I4];exact Jf _ _
theorem T9 (k:Nat)(s:BA)(i c:Nat)(B:c<Jk k s.size):Gf.nth (Zj (JW k s i)) c=Jl (rQ k) (gN s (Jk k s.size)) i c k:=by
 rw[I4];exact Yq _ _ c B
def Qg (k:Nat)(l:List (Int×BA)):Nat->List (Int×BA)
 |0=>[]
 |i+1=>if decide ((Qg k l i).length<k)&&!(Qg k l i).any (fun y=>y.1==(Ji l i).1)then Qg k l i++ [Ji l i]else Qg k l i
theorem rJ (B:(Qg k l i).length<k)(D:(Qg k l i).any (fun y=>y.1==(Ji l i).1)=au):Qg k l (i+1)=Qg k l i++ [Ji l i]:=by
 show(if _ then _ else _)=_;rw[if_pos (by rw[decide_eq_true B,D];rfl)]
theorem qH (B:¬(Qg k l i).length<k):Qg k l (i+1)=Qg k l i:=by
 show(if _ then _ else _)=_;rw[if_neg (by rw[decide_eq_false B];simp)]
theorem tS (B:(Qg k l i).any (fun y=>y.1==(Ji l i).1)=T):Qg k l (i+1)=Qg k l i:=by
 show(if _ then _ else _)=_;rw[if_neg (by rw[B];simp)]
theorem A7 (k:Nat)(l:List (Int×BA)):∀i,(Qg k l i).length<=k
 |0=>Nat.zero_le _
 |i+1=>by
  by_cases B:(Qg k l i).length<k
  ·by_cases D:(Qg k l i).any (fun y=>y.1==(Ji l i).1)=T
   ·rw[tS D];omega
   ·rw[rJ B (am.2 D),al,an];omega
  ·rw[qH B];exact A7 k l i
theorem X9 (k:Nat)(l:List (Int×BA)):∀i,i<=l.length->∀x∈Qg k l i,x∈l
 |0,_,x,h=>by cases h
 |i+1,hi,x,h=>by
  by_cases B:(Qg k l i).length<k
  ·by_cases D:(Qg k l i).any (fun y=>y.1==(Ji l i).1)=T
   ·rw[tS D]at h;exact X9 k l i (by omega) x h
   ·rw[rJ B (am.2 D)]at h;rcases List.mem_append.1 h with h|h
    ·exact X9 k l i (by omega) x h
    ·rw[List.mem_singleton.1 h];exact sE (by omega)
  ·rw[qH B]at h;exact X9 k l i (by omega) x h
theorem sX (k:Nat)(l:List (Int×BA)):∀i,((Qg k l i).map Prod.fst).Nodup
 |0=>List.nodup_nil
 |i+1=>by
  by_cases B:(Qg k l i).length<k
  ·by_cases D:(Qg k l i).any (fun y=>y.1==(Ji l i).1)=T
   ·rw[tS D];exact sX k l i
   ·have H:(Qg k l i).any (fun y=>y.1==(Ji l i).1)=false:=am.2 D;rw[rJ B H,List.map_append,List.nodup_append];refine⟨sX k l i,by simp,fun a I b J e=>?_⟩;obtain⟨y,K,rfl⟩:=az.1 I;have O:b=(Ji l i).1:=by simpa using J
    have:=aN.1 H y K;exact this (by simp[e,O])
  ·rw[qH B];exact sX k l i
theorem RY (l:List (Int×BA))(x:Int×BA):Js (l++ [x])=Js l++ [.int .i64 x.1,.string x.2]:=by simp[Js]
theorem JlM (B:Nat)(x y:Int)(t:BA)(w:World)(H:w.cell? ⟨B,0,N⟩=ab (.int .i64 x)):
 ak Tryz.prog 174 (#[.agg #[.int .i64 y,.string t]]++#[.pointer (ab ⟨B,0,N⟩)]) w fun e D=>e=.returned (.bool (y==x))/\af w.heap.size w D:=by
 have I:=Qf H;go_enter Tryz.func174,Tryz.ntmps174;go_wp2;go_ret;exact⟨rfl,bR.alloc nR _⟩
def j4 (n:Int)(B:Nat)(x:Int×BA):Bool:=decide (x.1<0)||decide (n<=x.1)||!decide (x.2.size=B)
theorem LA (k:Nat)(p:Option Addr)(l:List (Int×BA))(cap:Nat)(w:World)(hk:k<=1000)(hl:l.length<=1000)(hs:fE w p l):
 ak Tryz.prog 147 #[.int .i64 (k:Int),.slice p l.length cap] w fun e w'=>(∃p' c',e=.returned (.slice p' (Qg k l l.length).length c')/\fE w' p' (Qg k l l.length))/\af w.heap.size w w':=by
 have HS:Hid (fE w p l):=hs;obtain⟨i1,b6,b7,b8,c8⟩:=zb vH;have d9:∀W:World,Sem.run Tryz.prog (Instr.makeSlice 197 (.int .i64 0) (.int .i64 (k:Int))) W=.ok (.slice (ab ⟨W.heap.size,0,N⟩) 0 k) (W.alloc (.cells (ai #[.int .i64 0,.string ⟨#[]⟩] (k*2)) 140)):=fun W=>by
  have hr:=run_make (P:=Tryz.prog) W 197 140 i1 _ Tryz.underlying197 b6 b7 .i64 .i64 0 k (by omega) (by omega) (by rw[c8];omega) (by omega);simp only[aj,b8]at hr;exact hr
 clear hs;go_enter Tryz.func147,Tryz.ntmps147;go_wp2;have a8:(w.alloc (.cells (ai #[.int .i64 0,.string ⟨#[]⟩] (k*2)) 140)).ownsRow w.heap.size 140 2 (.slice (ab ⟨w.heap.size,0,N⟩) 0 k) 0 []:=World.ownsRow_made w _ k nR (by unfold maxLen;omega) (aD _ _);have a9:af w.heap.size w (w.alloc (.cells (ai #[.int .i64 0,.string ⟨#[]⟩] (k*2)) 140)):=bR.alloc nR _;generalize w.alloc (.cells (ai #[.int .i64 0,.string ⟨#[]⟩] (k*2)) 140)=w0 at a8 a9 ⊢;have d0:Hid (w0.ownsRow w.heap.size 140 2 (.slice (ab ⟨w.heap.size,0,N⟩) 0 k) 0 []):=a8;have d1:Hid (af w.heap.size w w0):=a9;clear a8 a9 d9;go_loopw [5,12] (fun v x wr=>∃i:Nat,i<=l.length/\x=.int .i64 i/\wr.ownsRow w.heap.size 140 2 v (Qg k l i).length (Js (Qg k l i))/\af w.heap.size w wr) (fun _ x _=>l.length-(intOf x).toNat)
 case atStart=>exact⟨0,by omega,rfl,d0.out,d1.out⟩
 case round =>
  obtain⟨i,hi,rfl,hO,hB⟩:=hrel;obtain⟨B,rfl⟩:=Xb wr;obtain⟨H,I,rfl,d2⟩:=nL hO;have HO:Hid (B.ownsRow w.heap.size 140 2 (.slice H (Qg k l i).length I) (Qg k l i).length (Js (Qg k l i))):=hO;have HB:Hid (af w.heap.size w B):=hB;have d3:Hid (fE B H (Qg k l i)):=d2;have d4:w.heap.size<=B.heap.size:=hB.size;clear hO hB d2 d0 d1;by_cases b0:i<l.length
  ·rcases(HS.out.below HB.out)with h0|⟨b1,o1,rfl,e4,d5⟩
   ·rw[h0]at b0;simp at b0
   obtain⟨q1,q2⟩:=d5 i b0;clear d5;have HF:Hid (Qg k l (i+1)=Qg k l (i+1)):=by show _=_;rfl
   have e5:=A7 k l i;by_cases d6:(Qg k l i).length<k
   ·obtain⟨J,a0⟩:=Xb (B.alloc (.cells #[.int .i64 (Ji l i).1,.string (Ji l i).2] 140));have a2:=Zk a0;have d7:=QT a0;obtain⟨a5,b2⟩:=lO (JH a0);have b3:tK J 174 #[.pointer (ab ⟨B.heap.size,0,N⟩)] (Qg k l i) (fun y=>y.1==(Ji l i).1):=fun j K w5 h5 =>
     JlM B.heap.size (Ji l i).1 (Ji (Qg k l i) j).1 (Ji (Qg k l i) j).2 w5 ((h5.cell (p:=⟨B.heap.size,0,N⟩) (by show B.heap.size<_;omega)).trans a5)
    have HC:=vE H (Qg k l i) I 174 #[.pointer (ab ⟨B.heap.size,0,N⟩)] (fun y=>y.1==(Ji l i).1) J (by omega) (d3.out.below a2) (enters_of Tryz.func174 (by kernel_rfl) rfl) b3;have b4:Hid (J=B.alloc (.cells #[.int .i64 (Ji l i).1,.string (Ji l i).2] 140)):=a0;have Z:Hid (af w.heap.size w J):=HB.out.trans (a2.mono d4);have a3:Hid (J.ownsRow w.heap.size 140 2 (.slice H (Qg k l i).length I) (Qg k l i).length (Js (Qg k l i))):=ar HO.out (QD a2 N) (by cases hv:(Value.slice H (Qg k l i).length I).ownBlock<;>simp);have e6:B.heap.size<J.heap.size:=by omega
    by_cases a4:(Qg k l i).any (fun y=>y.1==(Ji l i).1)=T
    ·have HP:Hid (Qg k l (i+1)=Qg k l i):=tS a4;rw[a4]at HC;clear a4 a0 a2 d7 a5 b2 b3 HF;generalize Qg k l i=D at *;go_wp2_with fail
     rw[<-b4.out];refine HC.mono ?_;rintro e O ⟨rfl,U⟩;have a6:Hid (af w.heap.size w O):=Z.out.trans (U.mono Z.out.size);have a7:Hid (O.ownsRow w.heap.size 140 2 (.slice H D.length I) D.length (Js D)):=ar a3.out (QD U N) (by cases hv:(Value.slice H D.length I).ownBlock<;>simp);clear HC U;go_wp2;go_roundw
     case rel=>exact⟨i+1,by omega,by go_num,by rw[HP.out];exact a7.out,a6.out⟩
     case measure=>simp[intOf];omega
    ·have b5:(Qg k l i).any (fun y=>y.1==(Ji l i).1)=false:=am.2 a4;have HP:Hid (Qg k l (i+1)=Qg k l i++ [Ji l i]):=rJ d6 b5;rw[b5]at HC;have d8:Hid (∀W,af J.heap.size J W->W.cell? ⟨B.heap.size,0,N⟩=ab (.int .i64 (Ji l i).1)/\W.cell? ⟨B.heap.size,1,N⟩=ab (.string (Ji l i).2)):=fun W hW=>⟨(hW.cell (p:=⟨B.heap.size,0,N⟩) (by show B.heap.size<_;omega)).trans a5,(hW.cell (p:=⟨B.heap.size,1,N⟩) (by show B.heap.size<_;omega)).trans b2⟩
     clear a4 b5 a0 a2 d7 a5 b2 b3 HF;generalize Qg k l i=D at *;go_wp2_with fail
     rw[<-b4.out];refine HC.mono ?_;rintro e O ⟨rfl,U⟩;have a6:Hid (af w.heap.size w O):=Z.out.trans (U.mono Z.out.size);have a7:Hid (O.ownsRow w.heap.size 140 2 (.slice H D.length I) D.length (Js D)):=ar a3.out (QD U N) (by cases hv:(Value.slice H D.length I).ownBlock<;>simp);obtain⟨r1,r2⟩:=d8.out O U;have e7:w.heap.size<=O.heap.size:=a6.out.size;clear HC U q1 q2 d8 b4 a3 Z;generalize Ji l i=xs at *;obtain⟨x,t⟩:=xs;go_wp2_with (first|(at_builtin;refine wpList_append_own _ rfl (.tmp 26) (.tmp 28) 197 rfl w.heap.size 140 i1 (.agg #[.int .i64 0,.string ⟨#[]⟩]) 2 24 Tryz.underlying197 b6 b7 b8 c8 rfl (by decide) (.slice H D.length I) D.length (Js D) rfl (za a7.out _) ⟨O.heap.size,0,N⟩ 1 1 [.int .i64 x,.string t] rfl rfl (fun j u K=>by match j,K with|0,K=>(simp at K;subst K;simp[Addr.add])|1,K=>(simp at K;subst K;simp[Addr.add])) (fun u hu=>by simp at hu;rcases hu with rfl|rfl<;>rfl) (by unfold maxLen;omega) (by omega) (by simp;omega) ?_;intro v' w8 e0 e1 _))
     have e2:af w.heap.size w w8:=(a6.out.alloc (by omega) _).grown e1 (by simp;omega) (fun g hg=>(zm a7.out g hg).1);go_roundw
     case rel=>exact⟨i+1,by omega,by go_num,by rw[HP.out,RY,al,an];exact e0,e2⟩
     case measure=>simp[intOf];omega
   ·have HP:Hid (Qg k l (i+1)=Qg k l i):=qH d6;have Z:Hid (af w.heap.size w (B.alloc (.cells #[.int .i64 (Ji l i).1,.string (Ji l i).2] 140))):=HB.out.alloc d4 _;have a3:Hid ((B.alloc (.cells #[.int .i64 (Ji l i).1,.string (Ji l i).2] 140)).ownsRow w.heap.size 140 2 (.slice H (Qg k l i).length I) (Qg k l i).length (Js (Qg k l i))):=za HO.out _;clear HF;generalize Qg k l i=D at *;go_wp2;go_roundw
    case rel=>exact⟨i+1,by omega,by go_num,by rw[HP.out];exact a3.out,Z.out⟩
    case measure=>simp[intOf];omega
  ·have e3:i=l.length:=by omega
   subst e3;go_wp2;go_ret;exact⟨⟨H,I,rfl,d3.out⟩,HB.out⟩
def ZT (n k:Nat)(t:Int×Int)(S:Int×List (Int×BA))(v:Yb):Int×List (Int×BA) :=
 if v.n=t.1/\v.who=t.2/\YO n k v=T then
  (if S.1<0 then v.size else S.1,if v.size=(if S.1<0 then v.size else S.1)/\S.2.any (fun y=>y.1==v.at_)=au then S.2++ [(v.at_,v.text)]else S.2)
 else S
def Zf (n k:Nat)(t:Int×Int)(L:List Yb):Int×List (Int×BA):=L.foldl (ZT n k t) (-1,[])
theorem MM {L:List Yb}(B:i<L.length):Zf n k t (L.take (i+1))=ZT n k t (Zf n k t (L.take i)) (Xd L i):=by
 unfold Zf;rw[List.take_add_one,Xx B,List.foldl_append];rfl
theorem oL (h:¬(v.n=t.1/\v.who=t.2/\YO n k v=T)):ZT n k t S v=S:=if_neg h
theorem ZO {z:Int}(h:v.n=t.1/\v.who=t.2/\YO n k v=T)(B:z=if S.1<0 then v.size else S.1):ZT n k t S v=(z,if v.size=z/\S.2.any (fun y=>y.1==v.at_)=au then S.2++ [(v.at_,v.text)]else S.2):=by
 subst B;exact if_pos h
theorem xU {n k:Nat}{t:Int×Int}(L:List Yb):∀i,(Zf n k t (L.take i)).2.length<=i
 |0=>Nat.le_refl _
 |i+1=>by
  have ih:=xU (n:=n) (k:=k) (t:=t) L i;by_cases B:i<L.length
  ·rw[MM B];unfold ZT;split
   ·show(ite _ _ _:List (Int×BA)).length<=i+1;generalize (if(Zf n k t (L.take i)).1<0 then(Xd L i).size else(Zf n k t (L.take i)).1)=z;split
    ·rw[al,an];omega
    ·omega
   ·omega
  ·rw[ax (by omega)];rw[ax (by omega)]at ih;omega
def Xn (k x:Nat):List Nat:=Qi k fun j=>Gf.aQ (JB k) j x
theorem Jmq {K:Nat}(h:QJ w (ab ⟨K,0,N⟩) (kK k n))(hn:1<=n)(hk:1<=k):∃U Z rc:Nat->Nat,K<w.heap.size/\∀i,i<n->w.cell? ⟨K,i,N⟩=ab (.slice (ab ⟨U i,Z i,N⟩) k (rc i))/\jU w (ab ⟨U i,Z i,N⟩) (Xn k i):=by
 have hf:kK k n=XB n k (fun i j=>Gf.aQ (JB k) j i):=rfl;have h1:∀i,i<n->∃D H c,w.cell? ⟨K,i,N⟩=ab (.slice (ab ⟨D,H,N⟩) k c)/\jU w (ab ⟨D,H,N⟩) (Xn k i):=fun i I=>by
  rw[hf]at h;have hr:Qh (XB n k fun i j=>Gf.aQ (JB k) j i) i=Xn k i:=XD n k _ i I;obtain⟨b,o,D,H,c,O,_,a0,B,J⟩:=h.row (i:=i) (by rw[Zs];exact I) (by rw[hr];unfold Xn;rw[Jf];omega);injection O with O
  injection O with e1 e2 _
  subst e1 e2;rw[hr]at B J;have hl:(Xn k i).length=k:=Jf _ _;rw[hl,Nat.zero_add]at B;exact⟨D,H,c,B,⟨XL _ _ (fun j=>Gf.bL _ _ _),Or.inr ⟨D,H,rfl,a0,J⟩⟩⟩
 have B:∀i,∃t:Nat×Nat×Nat,i<n->w.cell? ⟨K,i,N⟩=ab (.slice (ab ⟨t.1,t.2.1,N⟩) k t.2.2)/\jU w (ab ⟨t.1,t.2.1,N⟩) (Xn k i):=fun i=>by
  by_cases I:i<n
  ·obtain⟨D,H,c,J⟩:=h1 i I;exact⟨(D,H,c),fun _=>J⟩
  ·exact⟨(0,0,0),fun h=>absurd h I⟩
 refine⟨fun i=>(aw (B i)).1,fun i=>(aw (B i)).2.1,fun i=>(aw (B i)).2.2,?_,fun i I=>Classical.choose_spec (B i) I⟩;obtain⟨_,_,_,J,_⟩:=h1 0 (by omega);exact Qf J
theorem NN (H:1<=k)(I:k<=12)(J:X.length=k):jQ (X.map (Xn k)):=by
 have D:∀i,i<X.length->(Qh (X.map (Xn k)) i).length=k:=fun i B=>by
  unfold Qh;rw[aa,ag,ac B];exact Jf _ _
 refine⟨by rw[ah];omega,by rw[ah];omega,fun i B=>?_⟩;rw[ah]at B;rw[D i B,D 0 (by omega)];exact⟨H,by omega,rfl⟩
theorem LB (k:Nat)(X:List Nat):QR (X.map (Xn k)):=fun i=>by
 by_cases B:i<X.length
 ·have:Qh (X.map (Xn k)) i=Xn k X[i]:=by unfold Qh;rw[aa,ag,ac B];rfl
  rw[this];exact XL _ _ (fun j=>Gf.bL _ _ _)
 ·intro j;have:Qh (X.map (Xn k)) i=[]:=by unfold Qh;rw[aa,ao (by rw[ah];omega)];rfl
  rw[this];show([]:List Nat).getD j 0<256;simp
theorem OX (hn:n<=12)(I:X.length=k)(U:X.Nodup)(Z:∀x∈X,x<n)(hk:k<=n):Lin.cL k k (vec (X.map (Xn k))) k:=by
 have J:Gf.Bytes X:=fun i=>by
  by_cases B:i<X.length
  ·rw[Gf.aK X i B];have:=Z _ (av B);omega
  ·show X.getD i 0<256;rw[aa,ao (by omega)];decide
 have h:=PZ (JB k) X (tA k (by omega)) (sI k) J U (by rw[JE];exact I);rw[JE,I]at h;refine BD ?_;intro c K;refine h c (fun j D=>?_);rw[<-K j D];refine Lin.aH fun r hr=>?_
 have H:r<X.length:=by omega
 have O:Qh (X.map (Xn k)) r=Xn k X[r]:=by unfold Qh;rw[aa,ag,ac H];rfl
 show Lin.mu (c r) (Qm (Gf.aQ (JB k) j (Gf.nth X r)))=Lin.mu (c r) (Qm (Gf.nth (Qh (X.map (Xn k)) r) j));rw[O,Gf.aK X r H];unfold Xn;rw[Yq _ _ j D]
def QY (X:List Nat):Nat->Nat->Nat:=fun i j=>Gf.aQ X j i
theorem tW (X:List Nat)(i j:Nat):QY X i j<256:=Gf.bL _ _ _
def iY (k:Nat)(X:List Nat):Nat->Nat->Lin.F:=fun i j=>Qm (rQ k (Gf.nth X i) j)
theorem CQ (K:Gf.Bytes X)(hn:X.Nodup)(O:X.length=k)(U:k<=256):∀i j,i<k->j<k->Lin.mm k (Ym (QY X)) (iY k X) i j=Lin.one i j:=by
 obtain⟨y,Z⟩:=Lin.dR (IC k U);have I:=Lin.cK Z;have e1:∀i m,i<k->m<k->Lin.mm k (Lin.mm k (Ym (QY X)) (iY k X)) (Ym Gf.bZ) i m=Ym Gf.bZ i m:=fun i m D B=>by
  rw[Lin.cN];have e2:Lin.mm k (Ym (QY X)) (Lin.mm k (iY k X) (Ym Gf.bZ)) i m=Lin.mm k (Ym (QY X)) (fun r m=>Qm (Gf.bZ (Gf.nth X r) m)) i m:=Lin.bQ k (fun _ _=>rfl) (fun r _=>by
   have:=Y6 (JB k) (tA k U) (sI k) (Gf.nth X r) m (K r) (by rw[JE];exact B);rw[JE]at this;rw[<-this];exact Lin.aH fun t ht=>by rw[xT k t ht];rfl)
  rw[e2];have:=Y6 X K hn i m (by omega) (by rw[O];exact B);rw[O]at this;exact this
 intro i j D H;have J:Lin.mm k (Lin.mm k (Ym (QY X)) (iY k X)) Lin.one i j=Lin.mm k (Lin.mm k (Ym (QY X)) (iY k X)) (Lin.mm k (Ym Gf.bZ) y) i j:=Lin.bQ k (fun _ _=>rfl) (fun m B=>(I m j B H).symm);rw[Lin.fK k _ i j H]at J;rw[J,<-Lin.cN];have e4:Lin.mm k (Lin.mm k (Lin.mm k (Ym (QY X)) (iY k X)) (Ym Gf.bZ)) y i j=Lin.mm k (Ym Gf.bZ) y i j:=Lin.bQ k (fun m B=>e1 i m D B) (fun _ _=>rfl);rw[e4];exact I i j D H
theorem eN (O:Gf.Bytes X)(U:X.Nodup)(Z:X.length=k)(hk:k<=256){x:Nat->Nat->Nat}(hx:∀i j,x i j<256)(h:∀i j,i<k->j<k->Lin.mm k (Ym x) (iY k X) i j=Lin.one i j):∀i j,i<k->j<k->x i j=QY X i j:=by
 have J:=Lin.cK (CQ O U Z hk);intro i j H I;refine zA (hx i j) (tW X i j) ?_;have B:Lin.mm k (Ym x) Lin.one i j=Lin.mm k (Ym x) (Lin.mm k (iY k X) (Ym (QY X))) i j:=Lin.bQ k (fun _ _=>rfl) (fun m D=>(J m j D I).symm);rw[Lin.fK k _ i j I,<-Lin.cN]at B;have K:Lin.mm k (Lin.mm k (Ym x) (iY k X)) (Ym (QY X)) i j=Lin.mm k Lin.one (Ym (QY X)) i j:=Lin.bQ k (fun m D=>h i m H D) (fun _ _=>rfl);rw[K,Lin.fJ k _ i j H]at B;exact B
theorem vB {f val:Nat->Nat->Nat}(B:∀i j,f i j<256)(D:∀j c,val j c<256)(i c:Nat):∀m,Qm (Jl f val i c m)=Lin.aL m (fun j=>Lin.mu (Qm (f i j)) (Qm (val j c)))
 |0=>rfl
 |m+1=>by
  show Qm (Jl f val i c m^^^Gf.mul (f i m) (val m c))=Lin.ad (Lin.aL m _) _;rw[qW (nD B i c m) (Gf.aV (B i m) _),vB B D i c m,oU (B i m) (D m c)]
theorem told (O:Gf.Bytes X)(U:X.Nodup)(Z:X.length=k)(hk:k<=256){u v:Nat->Nat->Nat}(B:∀j c,u j c<256)(a0:∀j c,v j c<256)(c:Nat)(hv:∀i,i<k->v i c=Jl (rQ k) u (Gf.nth X i) c k)(m:Nat)(D:m<k):
 Jl (QY X) v m c k=u m c:=by
 refine zA (nD (tW X) _ _ _) (B m c) ?_;rw[vB (tW X) a0];have H:Lin.aL k (fun j=>Lin.mu (Qm (QY X m j)) (Qm (v j c)))=Lin.mm k (Ym (QY X)) (Lin.mm k (iY k X) (fun j _=>Qm (u j c))) m 0:=Lin.aH fun j I=>by
  rw[hv j I,vB (TF k) B];rfl
 rw[H,<-Lin.cN];have J:Lin.mm k (Lin.mm k (Ym (QY X)) (iY k X)) (fun j _=>Qm (u j c)) m 0=Lin.mm k Lin.one (fun j _=>Qm (u j c)) m 0:=Lin.bQ k (fun t K=>CQ O U Z hk m t D K) (fun _ _=>rfl);rw[J,Lin.fJ k _ m 0 D]
theorem A0 {f g val:Nat->Nat->Nat}{i c:Nat}:∀k,(∀j,j<k->f i j=g i j)->Jl f val i c k=Jl g val i c k
 |0,_=>rfl
 |k+1,h=>by
  show Jl f val i c k^^^_=Jl g val i c k^^^_;rw[A0 k (fun j B=>h j (by omega)),h k (by omega)]
def gF (g:Nat->Nat->Nat)(B m:Nat):List Nat:=(ay m).flatMap fun i=>Qi B (g i)
theorem BG (g:Nat->Nat->Nat)(B m:Nat):gF g B (m+1)=gF g B m++Qi B (g m):=by simp[gF,List.range_succ]
theorem YV (g:Nat->Nat->Nat)(B:Nat):∀m,(gF g B m).length=m*B
 |0=>by rw[Nat.zero_mul];rfl
 |m+1=>by rw[BG,al,YV g B m,Jf,Nat.succ_mul]
theorem OR {l:List Nat}(h:p<l.length):Gf.nth (l++r) p=Gf.nth l p:=by
 show(l++r).getD p 0=l.getD p 0;rw[aa,aa,List.getElem?_append_left h]
theorem Jjl {l:List Nat}(h:l.length<=p):Gf.nth (l++r) p=Gf.nth r (p-l.length):=by
 show(l++r).getD p 0=r.getD (p-l.length) 0;rw[aa,aa,List.getElem?_append_right h]
theorem G4 (g:Nat->Nat->Nat)(B:Nat):∀m p,p<m*B->Gf.nth (gF g B m) p=g (p/B) (p%B)
 |0,p,h=>by rw[Nat.zero_mul]at h;exact absurd h (Nat.not_lt_zero _)
 |m+1,p,h=>by
  rw[BG];by_cases D:p<m*B
  ·rw[OR (by rw[YV];exact D)];exact G4 g B m p D
  ·have K:0<B:=by
    rcases Nat.eq_zero_or_pos B with e|e
    ·rw[e,Nat.mul_zero]at h;exact absurd h (Nat.not_lt_zero _)
    ·exact e
   have H:p-m*B<B:=by rw[Nat.succ_mul]at h;omega
   have O:p=B*m+(p-m*B):=by rw[Nat.mul_comm B m];omega
   have I:p/B=m:=by
    have J:(B*m+(p-m*B))/B=m:=by rw[Nat.mul_add_div K,Nat.div_eq_of_lt H,Nat.add_zero]
    rw[<-O]at J;exact J
   have U:p%B=p-m*B:=by
    have:=Nat.mod_add_div p B;rw[I,Nat.mul_comm B m]at this;omega
   rw[Jjl (by rw[YV];omega),YV,Yq _ _ _ H,I,U]
theorem OE (g:Nat->Nat->Nat)(B m size:Nat)(h:size<=m*B):(gF g B m).take size=Qi size fun p=>g (p/B) (p%B):=by
 have H:((gF g B m).take size).length=size:=by rw[List.length_take,YV];omega
 refine BO (by rw[H,Jf]) fun p D=>?_
 rw[H]at D;rw[Yq _ _ p D,<-G4 g B m p (by omega)];show((gF g B m).take size).getD p 0=(gF g B m).getD p 0;rw[aa,aa,List.getElem?_take_of_lt D]
def Y2 (l:List Nat):List UInt8:=l.map fun n=>UInt8.ofNat n
theorem NP (l:List Nat):(Jp l).data.toList=Y2 l:=by
 unfold Jp Y2;rw[strOfNums_data,aA];rfl
theorem RL (l:List Nat):Jp l=⟨(Y2 l).toArray⟩:=by
 unfold Jp strOfNums Y2;rw[aA];rfl
theorem M7 (xs:List (List UInt8)):aF xs []=xs.flatten:=by
 cases xs with
 |nil=>rfl
 |cons x r =>
  rw[Lib.join_cons];unfold Lib.joinTail;simp
theorem NV (g:Nat->Nat->Nat)(B m:Nat):aF (((ay m).map fun i=>Jp (Qi B (g i))).map (·.data.toList)) []=Y2 (gF g B m):=by
 rw[M7,aA];unfold gF Y2;rw[List.map_flatMap,List.flatMap_def]
 congr 1
 exact List.map_congr_left fun i _=>NP _
theorem SZ (l:List Nat)(size:Nat):(⟨(Y2 l).toArray⟩:BA).extract 0 size=Jp (l.take size):=by
 rw[ByteArray.extract_mk,RL]
 congr 2
 unfold Y2;rw[List.drop_zero,Nat.sub_zero,List.map_take]
theorem FX (B:1<=k):size<=k*Jk k size:=by
 rcases Nat.lt_or_ge (Jk k size*k) size with h|h
 ·exact absurd (RS B h) (Nat.lt_irrefl _)
 ·rw[Nat.mul_comm];exact h
def Xo (B:List (Int×BA)):List Nat:=B.map fun x=>x.1.toNat
def Z2 (B:List (Int×BA)):Nat->Nat->Nat:=fun j c=>Gf.nth (Zj (Ji B j).2) c
theorem EN (B:List (Int×BA))(j c:Nat):Z2 B j c<256:=xK _ _
def gB (k size:Nat)(B:List (Int×BA)):BA:=Jp (Qi size fun p=>Jl (QY (Xo B)) (Z2 B) (p/Jk k size) (p%Jk k size) k)
theorem JpW (k size:Nat)(B:List (Int×BA)):(gB k size B).size=size:=by
 unfold gB;rw[xG,Jf]
theorem Jn2 (k size:Nat)(B:List (Int×BA)):Zj (gB k size B)=Qi size fun p=>Jl (QY (Xo B)) (Z2 B) (p/Jk k size) (p%Jk k size) k:=FK (XL _ _ fun _=>nD (tW _) _ _ _)
def gS (n k:Nat)(size y:Int)(t:BA):Bool:=decide (0<=size/\size<=1000/\0<=y/\y<n/\t.size=Jk k size.toNat)
theorem Ja5 (n k:Nat)(size y:Int)(t:BA)(w:World)(a0:1<=k)(a2:k<=n)(hn:n<=12):
 ak Tryz.prog 142 #[.int .i64 (n:Int),.int .i64 (k:Int),.int .i64 size,.agg #[.int .i64 y,.string t]] w fun e w'=>e=.returned (.bool (gS n k size y t))/\af w.heap.size w w':=by
 obtain⟨w1,K⟩:=Xb (w.alloc (.cells #[.int .i64 y,.string t] 140));have O:Hid (af w.heap.size w w1):=by rw[K];exact bR.alloc nR _
 obtain⟨f0,f1⟩:=lO (JH K);have U:Hid _:=K;have Z:Hid (∀W,ak Tryz.prog 53 #[.int .i64 (n:Int),.int .i64 (k:Int)] W fun e w'=>e=.returned (.bool T)/\w'=W):=fun W=>by
  have h:=xC (n:Int) (k:Int) W;rw[decide_eq_true (show(1:Int)<=(k:Int)/\(k:Int)<=(n:Int)/\(n:Int)<=12 by omega)]at h;exact h
 clear K;by_cases B:0<=size/\size<=1000
 ·have H:Hid (∀W,ak Tryz.prog 170 #[.int .i64 size] W fun e w'=>e=.returned (.bool T)/\w'=W):=fun W=>GN _ W B
  by_cases I:0<=y
  ·have d1:decide (0<=y)=true:=decide_eq_true I;by_cases J:y<(n:Int)
   ·have d2:decide (y<(n:Int))=true:=decide_eq_true J;obtain⟨s,rfl⟩:=Int.eq_ofNat_of_zero_le B.1;have HV:Hid (∀W,ak Tryz.prog 150 #[.int .i64 (s:Int),.int .i64 (k:Int)] W fun e w'=>e=.returned (.int .i64 ((Jk k s:Nat):Int))/\w'=W):=fun W=>zM s k W a0 (by omega) (by omega)
    have D:Hid (gS n k (s:Int) y t=((t.size:Int)==((Jk k s:Nat):Int))):=by
     show _=_;unfold gS;rw[aj];by_cases h3:t.size=Jk k s
     ·rw[decide_eq_true ⟨B.1,B.2,I,J,h3⟩,h3];simp
     ·rw[decide_eq_false (fun h=>h3 h.2.2.2.2)]
      symm
      rw[beq_eq_false_iff_ne];omega
    rw[D.out];clear B;generalize Jk k s=wd at *;go_enter Tryz.func142,Tryz.ntmps142;go_wp2_with (rw[<-U.out])
    go_quiet (first|(go_at_call 53;exact ae (Z.out _))|(go_at_call 170;exact ae (H.out _))|(go_at_call 150;exact ae (HV.out _)))
    go_wp2;go_ret;exact⟨rfl,aE O.out _⟩
   ·have d2:decide (y<(n:Int))=false:=decide_eq_false J;have D:Hid (gS n k size y t=au):=decide_eq_false fun h=>J h.2.2.2.1
    rw[D.out];clear B J;go_enter Tryz.func142,Tryz.ntmps142;go_wp2_with (rw[<-U.out])
    go_quiet (first|(go_at_call 53;exact ae (Z.out _))|(go_at_call 170;exact ae (H.out _)))
    go_wp2;go_ret;exact⟨rfl,aE O.out _⟩
  ·have d1:decide (0<=y)=false:=decide_eq_false I;have D:Hid (gS n k size y t=au):=decide_eq_false fun h=>I h.2.2.1
   rw[D.out];clear B I;go_enter Tryz.func142,Tryz.ntmps142;go_wp2_with (rw[<-U.out])
   go_quiet (first|(go_at_call 53;exact ae (Z.out _))|(go_at_call 170;exact ae (H.out _)))
   go_wp2;go_ret;exact⟨rfl,aE O.out _⟩
 ·have H:Hid (∀W,ak Tryz.prog 170 #[.int .i64 size] W fun e w'=>e=.returned (.bool au)/\w'=W):=fun W=>Jqt _ W B
  have D:Hid (gS n k size y t=au):=decide_eq_false fun h=>B ⟨h.1,h.2.1⟩
  rw[D.out];clear B;go_enter Tryz.func142,Tryz.ntmps142;go_wp2_with (rw[<-U.out])
  go_quiet (first|(go_at_call 53;exact ae (Z.out _))|(go_at_call 170;exact ae (H.out _)))
  go_wp2;go_ret;exact⟨rfl,aE O.out _⟩
theorem N5 {y:Int}{t:BA}(I:size<=1000):(!gS n k (size:Int) y t)=j4 (n:Int) (Jk k size) (y,t):=by
 unfold gS j4;rw[aj];by_cases D:y<0
 ·rw[decide_eq_false (fun h=>by omega),decide_eq_true D];rfl
 ·by_cases H:(n:Int)<=y
  ·rw[decide_eq_false (fun h=>by omega),decide_eq_true H];simp
  ·by_cases B:t.size=Jk k size
   ·rw[decide_eq_true ⟨by omega,by omega,by omega,by omega,B⟩,decide_eq_false D,decide_eq_false H,decide_eq_true B];rfl
   ·rw[decide_eq_false (fun h=>B h.2.2.2.2),decide_eq_false D,decide_eq_false H,decide_eq_false B];rfl
theorem WJ (H I ps n k size:Nat)(y:Int)(t:BA)(w:World)(a8:1<=k)(a9:k<=n)(hn:n<=12)(hs:size<=1000)(J:w.cell? ⟨H,0,N⟩=ab (.int .i64 (n:Int)))(K:w.cell? ⟨I,0,N⟩=ab (.int .i64 (k:Int)))(O:w.cell? ⟨ps,0,N⟩=ab (.int .i64 (size:Int))):
 ak Tryz.prog 146 (#[.agg #[.int .i64 y,.string t]]++#[.pointer (ab ⟨H,0,N⟩),.pointer (ab ⟨I,0,N⟩),.pointer (ab ⟨ps,0,N⟩)]) w fun e U=>e=.returned (.bool (j4 (n:Int) (Jk k size) (y,t)))/\af w.heap.size w U:=by
 have a3:=Qf J;have a4:=Qf K;have a5:=Qf O;have Z:Hid ((!gS n k (size:Int) y t)=j4 (n:Int) (Jk k size) (y,t)):=N5 hs;rw[<-Z.out];obtain⟨w1,D⟩:=Xb (w.alloc (.cells #[.int .i64 y,.string t] 140));have B:=Zk D;have a0:Hid _:=B;obtain⟨f0,f1⟩:=lO (JH D);have g1:=(B.cell (p:=⟨H,0,N⟩) a3).trans J;have g2:=(B.cell (p:=⟨I,0,N⟩) a4).trans K;have g3:=(B.cell (p:=⟨ps,0,N⟩) a5).trans O;have a6:Hid _:=D;have HC:=Ja5 n k (size:Int) y t w1 a8 a9 hn;clear D B J K O Z;generalize gS n k (size:Int) y t=fb at *;go_enter Tryz.func146,Tryz.ntmps146;go_wp2_with (rw[<-a6.out])
 refine HC.mono ?_;rintro e U ⟨rfl,a2⟩;have a7:Hid _:=a0.out.trans (a2.mono a0.out.size);clear HC a2;go_wp2;go_ret;exact⟨rfl,a7.out⟩
theorem Jlu (ps j c:Nat)(q:Option Addr)(cq:Nat)(B:List (Int×BA))(w:World)(D:j<B.length)(K:c<(Ji B j).2.size)(hp:w.cell? ⟨ps,0,N⟩=ab (.slice q B.length cq))(hs:fE w q B):
 ak Tryz.prog 151 (#[.int .i64 (j:Int),.int .i64 (c:Int)]++#[.pointer (ab ⟨ps,0,N⟩)]) w fun e O=>e=.returned (.int .u8 ((Z2 B j c:Nat):Int))/\O=w:=by
 rcases hs with U|⟨b,o,rfl,_,H⟩
 ·rw[U]at D;simp at D
 obtain⟨_,Z⟩:=H j D;have I:=EP (Ji B j).2 c K;have J:Hid (Z2 B j c=Gf.nth (Zj (Ji B j).2) c):=by show _=_;rfl
 rw[J.out];clear H J;generalize (Ji B j).2=t at Z I K ⊢;generalize Gf.nth (Zj t) c=y at I ⊢;go_enter Tryz.func151,Tryz.ntmps151;go_wp2;go_ret;exact⟨rfl,rfl⟩
theorem xP {B:List (Int×BA)}(D:i<B.length):Gf.nth (Xo B) i=(Ji B i).1.toNat:=by
 show(B.map _).getD i 0=(B.getD i _).1.toNat;rw[aa,aa,ag,ac D];rfl
theorem RM (H:X.length=k)(I:i<k)(D:j<k):vec (X.map (Xn k)) i j=iY k X i j:=by
 have B:Qh (X.map (Xn k)) i=Xn k (Gf.nth X i):=by
  show(X.map _).getD i []=_;rw[aa,ag,ac (by omega),Gf.aK X i (by omega)];rfl
 show Qm (Gf.nth (Qh (X.map (Xn k)) i) j)=_;rw[B];unfold Xn;rw[Yq _ _ j D];rfl
theorem RN {D H I:Nat->Nat}(hX:X.length=k)(U:∀x∈X,x<n)(h:w.rowIs g 116 k (fun i=>.slice (ab ⟨D (Gf.nth X i),H (Gf.nth X i),N⟩) k (I (Gf.nth X i))))(Z:∀x,x<n->jU w (ab ⟨D x,H x,N⟩) (Xn k x)):QJ w (ab ⟨g,0,N⟩) (X.map (Xn k)):=by
 refine Or.inr ⟨g,0,rfl,h.lt,fun i J=>?_⟩;have B:i<X.length:=by simpa using J
 have K:Qh (X.map (Xn k)) i=Xn k (Gf.nth X i):=by
  show(X.map _).getD i []=_;rw[aa,ag,ac B,Gf.aK X i B];rfl
 have O:Gf.nth X i∈X:=by rw[Gf.aK X i B];exact av _
 rw[K,Nat.zero_add];refine⟨ab ⟨D (Gf.nth X i),H (Gf.nth X i),N⟩,I (Gf.nth X i),?_,Z _ (U _ O),fun e=>by cases e⟩;rw[h.cell (by omega)];unfold Xn;rw[Jf]
structure l5 (n k size:Nat) (l:List (Int×BA)):Prop where
 pK:l.any (j4 (n:Int) (Jk k size))=au
 jS:(Qg k l l.length).length=k
theorem l5.at_ (h:l5 n k size l){x:Int×BA}(B:x∈l):0<=x.1/\x.1<n/\x.2.size=Jk k size:=by
 have:=aN.1 h.pK x B;unfold j4 at this;simp only[Bool.or_eq_true,decide_eq_true_eq,Bool.not_eq_true',decide_eq_false_iff_not]at this;omega
theorem l5.WE (h:l5 n k size l):(∀x∈Xo (Qg k l l.length),x<n)/\(Xo (Qg k l l.length)).Nodup/\(Xo (Qg k l l.length)).length=k:=by
 refine⟨fun x H=>?_,?_,by unfold Xo;rw[ah];exact h.jS⟩
 ·obtain⟨y,D,rfl⟩:=az.1 H;have:=h.at_ (X9 k l l.length nR y D);omega
 ·have I:=sX k l l.length;have e:Xo (Qg k l l.length)=((Qg k l l.length).map Prod.fst).map Int.toNat:=by
   unfold Xo;rw[aA];rfl
  rw[e];refine List.Pairwise.map (R:=fun a b:Int=>a≠b/\0<=a/\0<=b) _ (fun a b B e=>B.1 (by have:=B.2;omega)) (List.Pairwise.imp_of_mem (fun J K B=>?_) I)
  ·obtain⟨y,D,rfl⟩:=az.1 J;obtain⟨O,U,rfl⟩:=az.1 K;exact⟨B,(h.at_ (X9 k l l.length nR y D)).1,(h.at_ (X9 k l l.length nR O U)).1⟩
structure jF (w:World) (b n k size:Nat):Prop where
 c0:w.cell? ⟨b,0,N⟩=ab (.int .i64 (n:Int))
 c1:w.cell? ⟨b+1,0,N⟩=ab (.int .i64 (k:Int))
 c2:w.cell? ⟨b+1+1,0,N⟩=ab (.int .i64 (size:Int))
theorem jF.below {b:Nat}(h:jF w b n k size)(B:af w.heap.size w w'):jF w' b n k size :=
 ⟨(B.cell (Qf h.c0)).trans h.c0,(B.cell (Qf h.c1)).trans h.c1,(B.cell (Qf h.c2)).trans h.c2⟩
theorem UN (w:World)(n k size:Nat)(t:TypeId):jF (((w.alloc (.cells #[.int .i64 (n:Int)] t)).alloc (.cells #[.int .i64 (k:Int)] t)).alloc (.cells #[.int .i64 (size:Int)] t)) w.heap.size n k size:=by
 have D:(w.alloc (.cells #[.int .i64 (n:Int)] t)).z=w.z+1:=by simp
 have H:((w.alloc (.cells #[.int .i64 (n:Int)] t)).alloc (.cells #[.int .i64 (k:Int)] t)).z=w.z+1+1:=by simp
 have I:af (w.alloc (.cells #[.int .i64 (n:Int)] t)).z (w.alloc (.cells #[.int .i64 (n:Int)] t)) ((w.alloc (.cells #[.int .i64 (n:Int)] t)).alloc (.cells #[.int .i64 (k:Int)] t)):=bR.alloc nR _;have B:af ((w.alloc (.cells #[.int .i64 (n:Int)] t)).alloc (.cells #[.int .i64 (k:Int)] t)).z ((w.alloc (.cells #[.int .i64 (n:Int)] t)).alloc (.cells #[.int .i64 (k:Int)] t)) (((w.alloc (.cells #[.int .i64 (n:Int)] t)).alloc (.cells #[.int .i64 (k:Int)] t)).alloc (.cells #[.int .i64 (size:Int)] t)):=bR.alloc nR _;refine⟨?_,?_,?_⟩
 ·rw[B.cell (p:=(pA w.z 0)) (by show w.z<_;omega),I.cell (p:=(pA w.z 0)) (by show w.z<_;omega),ap _ _ _ _ rfl];rfl
 ·rw[B.cell (p:=(pA (w.z+1) 0)) (by show w.z+1<_;omega),ap _ _ _ _ D.symm];rfl
 ·rw[ap _ _ _ _ H.symm];rfl
theorem PX:(Tryz.prog.info? 116).map (fun i=>(i.zero,i.size,i.bytes))=ab (ab (.slice N 0 0),1,24):=by kernel_rfl
theorem LJ (n k size:Nat)(p:Option Addr)(l:List (Int×BA))(cap:Nat)(z:Addr)(w:World)(a0:1<=k)(g0:k<=n)(hn:n<=12)(o6:size<=1000)(hl:l.length<=1000)(hf:l5 n k size l)(hs:fE w p l)
 (hz:w.cell? ⟨9,0,N⟩=ab (.iface 287 (.pointer (ab z)))):
 ak Tryz.prog 121 #[.int .i64 (n:Int),.int .i64 (k:Int),.int .i64 (size:Int),.slice p l.length cap] w fun e w'=>e=.returned (.tuple #[.string (gB k size (Qg k l l.length)),.nilIface])/\af w.heap.size w w':=by
 have r9:=xR (size:=size) a0;have g1:Hid (∀x∈Qg k l l.length,0<=x.1/\x.1<n/\x.2.size=Jk k size):=fun x Z=>hf.at_ (X9 k l l.length nR x Z)
 have g3:Hid _:=hf.pK;have b2:Hid (size<=k*Jk k size):=FX a0;have J:Hid _:=hf.WE;have a2:Hid _:=hf.jS;have g4:Hid (∀W,fE W p l->ak Tryz.prog 147 #[.int .i64 (k:Int),.slice p l.length cap] W fun e w'=>(∃p' c',e=.returned (.slice p' k c')/\fE w' p' (Qg k l l.length))/\af W.heap.size W w'):=fun W hW=>by
  have h:=LA k p l cap W (by omega) hl hW;rw[a2.out]at h;exact h
 have g5:Hid (∀W,ak Tryz.prog 150 #[.int .i64 (size:Int),.int .i64 (k:Int)] W fun e w'=>e=.returned (.int .i64 ((Jk k size:Nat):Int))/\w'=W):=fun W=>zM size k W a0 (by omega) (by omega)
 have b7:Hid (gB k size (Qg k l l.length)=Jp (Qi size fun p=>Jl (QY (Xo (Qg k l l.length))) (Z2 (Qg k l l.length)) (p/Jk k size) (p%Jk k size) k)):=by show _=_;rfl
 have g6:Hid (∀y t W,W.cell? (pA w.heap.size 0)=ab (.int .i64 (n:Int))->W.cell? (pA (w.heap.size+1) 0)=ab (.int .i64 (k:Int))->W.cell? (pA (w.heap.size+1+1) 0)=ab (.int .i64 (size:Int))->ak Tryz.prog 146 (#[.agg #[.int .i64 y,.string t]]++#[.pointer (ab (pA w.heap.size 0)),.pointer (ab (pA (w.heap.size+1) 0)),.pointer (ab (pA (w.heap.size+1+1) 0))]) W fun e w2=>e=.returned (.bool (j4 (n:Int) (Jk k size) (y,t)))/\af W.heap.size W w2):=fun y t W h0 h1 h2=>WJ w.heap.size (w.heap.size+1) (w.heap.size+1+1) n k size y t W a0 g0 hn o6 h0 h1 h2
 clear hf;generalize gB k size (Qg k l l.length)=dt at b7 ⊢;generalize Jk k size=I at *;generalize Qg k l l.length=B at *;obtain⟨w1,b3⟩:=Xb ((((w.alloc (.cells #[.int .i64 (n:Int)] 3)).alloc (.cells #[.int .i64 (k:Int)] 3)).alloc (.cells #[.int .i64 (size:Int)] 3)));have b4:af w.heap.size w w1:=by rw[b3];exact((bR.alloc nR _).alloc (by simp) _).alloc (by simp;omega) _
 have a8:jF w1 w.heap.size n k size:=by rw[b3];exact UN w n k size _
 have p0:=a8.c0;have p1:=a8.c1;have p2:=a8.c2;have g7:Hid _:=a8;have b8:=(b4.cell (p:=⟨9,0,N⟩) (Qf hz)).trans hz;have HS:=BZ n k size z w1 a0 g0 hn o6 b8;have g8:Hid _:=b3;have c8:Hid _:=b4;have g9:Hid (fE w1 p l):=hs.below b4;have d0:Hid (w1.cell? ⟨9,0,N⟩=ab (.iface 287 (.pointer (ab z)))):=b8;obtain⟨i1,h5,h6,h7,h8⟩:=zb PX;have o7:∀W:World,Sem.run Tryz.prog (Instr.makeSlice 222 (.int .i64 (k:Int)) (.int .i64 (k:Int))) W=.ok (.slice (ab (pA W.heap.size 0)) k k) (W.alloc (.cells (ai #[.slice N 0 0] k) 116)):=fun W=>run_make_row (P:=Tryz.prog) 222 116 i1 (.slice N 0 0) Tryz.underlying222 h5 h6 h7 rfl .i64 .i64 k (by rw[h8];omega) (by omega) W
 clear b3 b4 hz b8 hs h5 h6 h7 h8 a8;go_enter Tryz.func121,Tryz.ntmps121;go_wp2_with (rw[<-g8.out])
 refine HS.mono ?_;rintro e w2 ⟨⟨gm,rfl,h9⟩,a6⟩;have s4:w1.heap.size<=w2.heap.size:=a6.size;have a3:=g7.out.below a6;have i0:Hid (jF w2 w.heap.size n k size):=a3;have q0:=a3.c0;have q1:=a3.c1;have q2:=a3.c2;have i2:Hid (QJ w2 (ab (pA gm 0)) (kK k n)):=h9;have d1:Hid (af w.heap.size w w2):=c8.out.trans (a6.mono c8.out.size);have d2:Hid (fE w2 p l):=g9.out.below a6;have d3:Hid (w2.cell? ⟨9,0,N⟩=ab (.iface 287 (.pointer (ab z)))):=(a6.cell (p:=⟨9,0,N⟩) (Qf d0.out)).trans d0.out;have HA:tK w2 146 #[.pointer (ab (pA w.heap.size 0)),.pointer (ab (pA (w.heap.size+1) 0)),.pointer (ab (pA (w.heap.size+1+1) 0))] l (j4 (n:Int) I):=fun i hi w4 h4=>by
  have Z:=g6.out (Ji l i).1 (Ji l i).2 w4 ((a3.below h4).c0) ((a3.below h4).c1) ((a3.below h4).c2);exact Z
 have HC:=vE p l cap 146 #[.pointer (ab (pA w.heap.size 0)),.pointer (ab (pA (w.heap.size+1) 0)),.pointer (ab (pA (w.heap.size+1+1) 0))] (j4 (n:Int) I) w2 (by omega) d2.out (enters_of Tryz.func146 (by kernel_rfl) rfl) HA;rw[g3.out]at HC;clear HS h9 a6 c8 g8 g7 p0 p1 p2 g9 d0 a3 HA g3 g6;go_wp2_with fail
 refine HC.mono ?_;rintro e w4 ⟨rfl,a5⟩;have s5:w2.heap.size<=w4.heap.size:=a5.size;have d4:Hid (af w.heap.size w w4):=d1.out.trans (a5.mono d1.out.size);have i3:Hid (QJ w4 (ab (pA gm 0)) (kK k n)):=i2.out.below a5;have d5:Hid (w4.cell? ⟨9,0,N⟩=ab (.iface 287 (.pointer (ab z)))):=(a5.cell (p:=⟨9,0,N⟩) (Qf d3.out)).trans d3.out;have d6:=i0.out.below a5;have i4:Hid (jF w4 w.heap.size n k size):=d6;have i5:=g4.out w4 (d2.out.below a5);clear q0 q1 q2;have q1:=d6.c1;clear HC a5 d1 d2 i2 d3 i0 g4 d6;go_wp2_with fail
 refine i5.mono ?_;rintro e K ⟨⟨p5,c5,rfl,i8⟩,d7⟩;have p3:w4.heap.size<=K.heap.size:=d7.size;obtain⟨D,a9⟩:=Xb (K.alloc (.cells #[.slice p5 k c5] 197));have d8:=Zk a9;have p4:=fQ a9;have b0:af w4.heap.size w4 D:=d7.trans (d8.mono p3);have d9:Hid (af w.heap.size w D):=d4.out.trans (b0.mono d4.out.size);have e0:Hid (fE D p5 B):=i8.below d8;have i9:D.cell? (pA K.heap.size 0)=ab (.slice p5 k c5):=XX a9 rfl;have e1:=i4.out.below b0;have r1:=e1.c1;have e2:Hid (D.cell? ⟨9,0,N⟩=ab (.iface 287 (.pointer (ab z)))):=(b0.cell (p:=⟨9,0,N⟩) (Qf d5.out)).trans d5.out;obtain⟨rb,ro,rc,p6,j1⟩:=Jmq (i3.out.below b0) (by omega) a0;have e3:Hid (∀i,i<n->D.cell? (pA gm i)=ab (.slice (ab ⟨rb i,ro i,N⟩) k (rc i))/\jU D (ab ⟨rb i,ro i,N⟩) (Xn k i)):=j1;have j2:Hid (D=K.alloc (.cells #[.slice p5 k c5] 197)):=a9;have k0:Hid (jF D w.heap.size n k size):=e1;have k2:Hid (D.cell? (pA K.heap.size 0)=ab (.slice p5 k c5)):=i9;clear i5 d7 d8 b0 i8 a9 j1 i3 d5 d4 i4 e1 q1;rcases e0.out with h0|⟨b5,o5,p7,k3,k4⟩
 ·exact absurd a2.out (by rw[h0];simp;omega)
 subst p7;have e4:(D.alloc (.cells (ai #[.slice N 0 0] k) 116)).rowIs D.heap.size 116 k (fun _=>.slice N 0 0):=World.rowIs_made D _ k _;have e5:af D.heap.size D (D.alloc (.cells (ai #[.slice N 0 0] k) 116)):=bR.alloc nR _;have e6:Hid (∀i,i<B.length->D.cell? (pA b5 (o5+i*2))=ab (.int .i64 (Ji B i).1)/\D.cell? (pA b5 (o5+i*2+1))=ab (.string (Ji B i).2)):=k4;clear k4;go_wp2_with (rw[<-j2.out])
 generalize D.alloc (.cells (ai #[.slice N 0 0] k) 116)=w7 at e4 e5 ⊢;have k5:Hid (w7.rowIs (D.heap.size) 116 k (fun _=>.slice N 0 0)):=e4;have k6:Hid (af D.heap.size D w7):=e5;clear e4 e5 o7 r1 i9;go_loopw [44] (fun x wr=>∃i:Nat,i<=k/\x=.int .i64 i/\wr.rowIs (D.heap.size) 116 k (fun q=>if q<i then .slice (ab ⟨rb (Gf.nth (Xo B) q),ro (Gf.nth (Xo B) q),N⟩) k (rc (Gf.nth (Xo B) q))else .slice N 0 0)/\af D.heap.size D wr) (fun x _=>k-(intOf x).toNat)
 case atStart=>exact⟨0,by omega,rfl,k5.out.congr (fun q _=>by simp),k6.out⟩
 case round =>
  obtain⟨i,hi,rfl,hR,hB⟩:=hrel;obtain⟨H,rfl⟩:=Xb wr;have HR:Hid (H.rowIs (D.heap.size) 116 k (fun q=>if q<i then .slice (ab ⟨rb (Gf.nth (Xo B) q),ro (Gf.nth (Xo B) q),N⟩) k (rc (Gf.nth (Xo B) q))else .slice N 0 0)):=hR;have O:Hid (af D.heap.size D H):=hB;have s6:D.heap.size<H.heap.size:=hR.lt;clear hR hB k5 k6;by_cases b1:i<k
  ·have hm:Ji B i∈B:=sE (by rw[a2.out];exact b1);have Z:=g1.out _ hm;have e7:Gf.nth (Xo B) i=(Ji B i).1.toNat:=xP (by rw[a2.out];exact b1);have k7:(Ji B i).1=((Gf.nth (Xo B) i:Nat):Int):=by rw[e7];omega
   have l0:Gf.nth (Xo B) i<n:=by rw[e7];omega
   have q1:H.cell? (pA b5 (o5+i*2))=ab (.int .i64 ((Gf.nth (Xo B) i:Nat):Int)):=by
    rw[O.out.cell (p:=(pA b5 (o5+i*2))) k3,(e6.out i (by rw[a2.out];exact b1)).1,k7]
   have q2:H.cell? (pA b5 (o5+i*2+1))=ab (.string (Ji B i).2):=by
    rw[O.out.cell (p:=(pA b5 (o5+i*2+1))) k3,(e6.out i (by rw[a2.out];exact b1)).2]
   have q3:H.cell? ⟨gm,Gf.nth (Xo B) i,N⟩=ab (.slice (ab ⟨rb (Gf.nth (Xo B) i),ro (Gf.nth (Xo B) i),N⟩) k (rc (Gf.nth (Xo B) i))):=by
    rw[O.out.cell (p:=⟨gm,Gf.nth (Xo B) i,N⟩) p6,(e3.out _ l0).1]
   have q4:H.cell? (pA D.heap.size i)=ab (.slice N 0 0):=by rw[HR.out.cell b1,if_neg (Nat.lt_irrefl _)]
   have q5:H.frozen? (pA D.heap.size i)=false:=HR.out.frozen i;have p9:Hid (Gf.nth (Xo B) i=Gf.nth (Xo B) i):=by show _=_;rfl
   have s7:gm<H.heap.size:=by have:=O.out.size;omega
   clear e7 k7 Z hm;generalize l7:Gf.nth (Xo B) i=x at q1 q3 l0;have q6:Hid (Gf.nth (Xo B) i=x):=l7;clear l7 p9;go_wp2;go_roundw
   case rel =>
    refine⟨i+1,by omega,by go_num,?_,?_⟩
    ·refine((HR.out.set i _).alloc _).congr (fun q _=>?_);by_cases e:q=i
     ·rw[if_pos e,if_pos (by omega),e,q6.out]
     ·rw[if_neg e];by_cases e':q<i
      ·rw[if_pos e',if_pos (by omega)]
      ·rw[if_neg e',if_neg (by omega)]
    ·exact(O.out.setCell nR _).alloc (by simp[World.setCell];exact O.out.size) _
   case measure=>simp[intOf];omega
  ·have q7:i=k:=by omega
   subst q7;have l9:H.rowIs (D.heap.size) 116 i (fun q=>.slice (ab ⟨rb (Gf.nth (Xo B) q),ro (Gf.nth (Xo B) q),N⟩) i (rc (Gf.nth (Xo B) q))):=HR.out.congr (fun q hq=>by rw[if_pos hq]);have m0:QJ H (ab (pA D.heap.size 0)) ((Xo B).map (Xn i)):=RN J.out.2.2 J.out.1 l9 (fun x Z=>(e3.out x Z).2.below O.out);have m4:H.cell? ⟨9,0,N⟩=ab (.iface 287 (.pointer (ab z))):=(O.out.cell (p:=⟨9,0,N⟩) (Qf e2.out)).trans e2.out;have e8:((Xo B).map (Xn i)).length=i:=by rw[ah];exact J.out.2.2
   have hM:jQ ((Xo B).map (Xn i)):=NN a0 (by omega) J.out.2.2;have m5:(Qh ((Xo B).map (Xn i)) 0).length=i:=by
    have h0:Qh ((Xo B).map (Xn i)) 0=Xn i (Gf.nth (Xo B) 0):=by
     show((Xo B).map _).getD 0 []=_;rw[aa,ag,ac (by rw[J.out.2.2];omega),Gf.aK _ 0 (by rw[J.out.2.2];omega)];rfl
    rw[h0];exact Jf _ _
   have HI:=FJ (ab (pA D.heap.size 0)) ((Xo B).map (Xn i)) i z H hM (by rw[m5,e8]) (LB i (Xo B)) m0 m4;have m6:=OX hn J.out.2.2 J.out.2.1 J.out.1 g0;unfold xQ at HI;rw[e8]at HI;have m7:Hid (Lin.cL i i (vec ((Xo B).map (Xn i))) i):=m6;have e9:Hid (af w.heap.size w H):=d9.out.trans (O.out.mono d9.out.size);have m8:Hid (jF H w.heap.size n i size):=k0.out.below O.out;have f3:Hid (H.cell? (pA K.heap.size 0)=ab (.slice (ab (pA b5 o5)) i c5)):=(O.out.cell (p:=(pA K.heap.size 0)) p4).trans k2.out;have m9:Hid (fE H (ab (pA b5 o5)) B):=e0.out.below O.out;clear l9 m0 m4 e8 hM m5 m6 HR O e6 e3 d9 e0 e2 k0 k2 j2;go_wp2_with fail
   refine HI.mono ?_;rintro e w9 ⟨⟨d,hd,q9⟩,a7⟩;have r0:d=i:=Lin.dY hd m7.out;rcases q9 with⟨s8,_⟩|⟨_,g2,x,rfl,n0,Z,n1⟩
   ·omega
   have n2:Hid (∀a b,a<i->b<i->x a b=QY (Xo B) a b):=eN (fun j=>by
    by_cases hj:j<(Xo B).length
    ·have:=J.out.1 (Gf.nth (Xo B) j) (by rw[Gf.aK _ j hj];exact av _);omega
    ·rw[F0 (by omega)];decide) J.out.2.1 J.out.2.2 (by omega) Z (fun a b ha hb=>by
     rw[<-n1 a b ha hb];exact Lin.bQ i (fun _ _=>rfl) (fun t ht=>(RM J.out.2.2 ht hb).symm))
   have s9:H.heap.size<=w9.heap.size:=a7.size;have b6:=m8.out.below a7;have n3:Hid (jF w9 w.heap.size n i size):=b6;have s1:=b6.c1;have s2:=b6.c2;have f4:w9.cell? (pA K.heap.size 0)=ab (.slice (ab (pA b5 o5)) B.length c5):=by rw[a2.out];exact(a7.cell (p:=(pA K.heap.size 0)) (Qf f3.out)).trans f3.out
   have n4:fE w9 (ab (pA b5 o5)) B:=m9.out.below a7;have n5:uI w9 151 #[.pointer (ab (pA K.heap.size 0))] (Z2 B) i I:=fun j c hj hc U n6=>by
    have a4:j<B.length:=by rw[a2.out];exact hj
    exact Jlu K.heap.size j c _ c5 B U a4 (by rw[(g1.out _ (sE a4)).2.2];exact hc) ((n6.cell (p:=(pA K.heap.size 0)) (Qf f4)).trans f4) (n4.below n6)
   have n7:=F3 (ab (pA g2 0)) i i I i x (Z2 B) 151 #[.pointer (ab (pA K.heap.size 0))] w9 a0 (by omega) a0 (by omega) (by omega) Z (fun j c=>EN B j c) n0 (enters_of Tryz.func151 (by kernel_rfl) rfl) n5;have f5:Hid (af w.heap.size w w9):=e9.out.trans (a7.mono e9.out.size);have r2:Hid (∀a b,x a b<256):=Z;clear HI hd r0 a7 n0 Z n1 f4 n4 n5 e9 m8 f3 m9 m7 b6;go_wp2_with fail
   refine(g5.out _).mono ?_;rintro e r3 ⟨rfl,n8⟩;rw[n8];clear n8 r3 g5;go_wp2_with fail
   refine n7.mono ?_;rintro e U ⟨rfl,f6,f7⟩;have a4:(((ay i).map fun q=>Jp (Qi I fun c=>Jl x (Z2 B) q c i))).length=i:=by simp
   have f8:aF (((ay i).map fun q=>Jp (Qi I fun c=>Jl x (Z2 B) q c i)).map (·.data.toList)) []=Y2 (gF (fun q c=>Jl x (Z2 B) q c i) I i):=NV (fun q c=>Jl x (Z2 B) q c i) I i;have t0:i*I<=12*1000:=Nat.mul_le_mul (by omega) (by omega);have n9:w9.heap.size<U.heap.size:=f6.lt;have o1:=fun(W:World) (hW:af U.heap.size U W)=>Tryz.strings_Join w9.heap.size 0 i ((ay i).map fun q=>Jp (Qi I fun c=>Jl x (Z2 B) q c i)) ⟨#[]⟩ W (fun j y hy=>by
    have o2:j<i:=by
     have:=(List.getElem?_eq_some_iff.1 hy).1;rw[a4]at this;exact this
    rw[ag,List.getElem?_range o2]at hy;have r4:Jp (Qi I fun c=>Jl x (Z2 B) j c i)=y:=Option.some.inj hy;rw[Nat.zero_add,hW.cell (p:=(pA w9.heap.size j)) n9,f6.cell o2,<-r4];rfl) (Nat.lt_of_lt_of_le n9 hW.size) (by rw[a4];omega) (by rw[a4];exact Nat.le_refl _) (by
    show(aF _ []).length<=_;rw[f8];unfold Y2;rw[ah,YV];omega)
   have HJ:∀W,af U.heap.size U W->ak Tryz.prog 152 #[.slice (ab (pA w9.heap.size 0)) i i,.string ⟨#[]⟩] W fun e w'=>e=.returned (.string ⟨(Y2 (gF (fun q c=>Jl x (Z2 B) q c i) I i)).toArray⟩)/\af W.heap.size W w':=fun W hW=>by
    have h:=o1 W hW;rw[a4,show(⟨#[]⟩:BA).data.toList=[]from rfl,f8]at h;exact h
   clear o1;have r5:∀W,Sem.run Tryz.prog (Instr.slice 9 (.string ⟨(Y2 (gF (fun q c=>Jl x (Z2 B) q c i) I i)).toArray⟩) N (ab (.int .i64 (size:Int))) N) W=.ok (.string dt) W:=fun W=>by
    rw[run_slice_string_h W 9 _ Tryz.underlying9 .i64 (size:Int) (by omega) (by
     show(size:Int)<=(((Y2 (gF (fun q c=>Jl x (Z2 B) q c i) I i)).toArray.size:Nat):Int);unfold Y2;rw[List.size_toArray,ah,YV];have:=b2.out;omega),aj,SZ,OE _ _ _ _ b2.out,b7.out]
    congr 3
    refine YL size _ _ (fun q hq=>?_);refine A0 i (fun j hj=>n2.out _ j ?_ hj);have hm:=b2.out;have r6:0<I:=by
     rcases Nat.eq_zero_or_pos I with e|e
     ·rw[e,Nat.mul_zero]at hm;omega
     ·exact e
    rw[Nat.div_lt_iff_lt_mul r6];omega
   have o3:Hid (af w.heap.size w U):=f5.out.trans (f7.mono f5.out.size);have f9:=n3.out.below f7;have o4:Hid (jF U w.heap.size n i size):=f9;clear s1 s2;have s2:=f9.c2;clear f9 n3;clear n7 f6 f7 f5 a4 f8 n2 r2 b7 b2;generalize (⟨(Y2 (gF (fun q c=>Jl x (Z2 B) q c i) I i)).toArray⟩:BA)=st at HJ r5;have r7:Hid (∀W,af U.heap.size U W->ak Tryz.prog 152 #[.slice (ab (pA w9.heap.size 0)) i i,.string ⟨#[]⟩] W fun e w'=>e=.returned (.string st)/\w'.cell? (pA (w.heap.size+1+1) 0)=ab (.int .i64 (size:Int))/\af w.heap.size w w'):=fun W hW=>(HJ W hW).mono fun e w' ⟨he,hb⟩=>by
    have h3:af U.heap.size U w':=hW.trans (hb.mono hW.size);exact⟨he,(o4.out.below h3).c2,o3.out.trans (h3.mono o3.out.size)⟩
   clear HJ o4;go_wp2;go_region_with (go_at_call 152;refine(r7.out _ (by first|exact bR.drew|exact Below.refl _ _)).mono ?_;rintro e t1 ⟨rfl,s3,r8⟩)
   all_goals (go_wp2;go_ret2;exact⟨rfl,r8⟩)
end Go.Proofs.YtgapmoniajcliaaGreatDoor

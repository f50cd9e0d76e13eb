/- Texts laid together. -/
import Derived.Test.YtfgapcknnoeplaaGreatDoorX5
import Derived.Shelf.Strings.OnBuilder
set_option maxRecDepth 10000
set_option maxHeartbeats 8000000
open List renaming getD_eq_getElem?_getD->aa,getElem?_eq_getElem->ae,length_map->af,take_succ_eq_append_getElem->ah,getElem?_map->ai,getElem_mem->aj,length_append->al,mem_map->am,findIdx_lt_length_of_exists->an,any_eq_false->ao,map_append->au,flatten_append->av,range->ax,flatten_cons->aA,map_cons->aB,length_take->aC,take_of_length_le->aF,findIdx_append->zb,take_add_one->aO,foldl_append->zd,getElem_map->aS,nodup_cons->aW,nodup_nil->zi,sum_cons->bi,mem_cons->bj
open Option renaming some->ac,none->N
open Go.RowKit renaming Below->ag
open Nat renaming lt_of_lt_of_le->ak,le_refl->az,le_trans->aE,zero_add->aN
open Bool renaming false->ap,true->ar,not_eq_true'->aR,or_eq_true->zh
open Go.World renaming cell?_alloc_at->aq,setCell->aJ
open Prod renaming fst->aw
open Go renaming Value->ay,madeCells->ze,Addr->zf,Calls->zg,TypeId->zk
open Or renaming inr->zc,inl->bn
namespace Go.Proofs
open Go.Shelf
def Tryz.lays156_ren : Go.Shelf.Ren := ⟨fun | 156 => 210 | 165 => 225 | 166 => 226 | 169 => 227 | 240 => 236 | 241 => 237 | 276 => 246 | 277 => 247 | n => n, fun | 31 => 22 | 9 => 9 | 3 => 3 | 4 => 4 | 0 => 0 | 20 => 20 | 72 => 320 | 76 => 283 | 70 => 318 | 37 => 127 | 75 => 28 | 127 => 128 | 164 => 129 | 5 => 5 | 80 => 155 | n => n, fun | n => n⟩
theorem Tryz.lays156 : Go.Proofs.Lays.n156 Tryz.prog Tryz.lays156_ren := {
 mixed:=by kernel_rfl
 f156:=Tryz.func210.trans (congrArg ac (by kernel_rfl))
 f165:=Tryz.func225.trans (congrArg ac (by kernel_rfl))
 f166:=Tryz.func226.trans (congrArg ac (by kernel_rfl))
 f169:=Tryz.func227.trans (congrArg ac (by kernel_rfl))
 f240:=Tryz.func236.trans (congrArg ac (by kernel_rfl))
 f241:=Tryz.func237.trans (congrArg ac (by kernel_rfl))
 f276:=Tryz.func246.trans (congrArg ac (by kernel_rfl))
 f277:=Tryz.func247.trans (congrArg ac (by kernel_rfl))
 t0:=Tryz.underlying0
 a0:=Tryz.isAgg0
 z0:=Tryz.sizeOf0
 v0:=Tryz.zeroValue0
 t3:=Tryz.underlying3
 a3:=Tryz.isAgg3
 z3:=Tryz.sizeOf3
 v3:=Tryz.zeroValue3
 t4:=Tryz.underlying4
 a4:=Tryz.isAgg4
 z4:=Tryz.sizeOf4
 v4:=Tryz.zeroValue4
 t9:=Tryz.underlying9
 a9:=Tryz.isAgg9
 z9:=Tryz.sizeOf9
 v9:=Tryz.zeroValue9
 t20:=Tryz.underlying20
 a20:=Tryz.isAgg20
 z20:=Tryz.sizeOf20
 v20:=Tryz.zeroValue20
 t31:=Tryz.underlying22
 a31:=Tryz.isAgg22
 z31:=Tryz.sizeOf22
 v31:=Tryz.zeroValue22
 t37:=Tryz.underlying127
 a37:=Tryz.isAgg127
 z37:=Tryz.sizeOf127
 v37:=Tryz.zeroValue127
 t70:=Tryz.underlying318
 a70:=Tryz.isAgg318
 z70:=Tryz.sizeOf318
 v70:=Tryz.zeroValue318
 t72:=Tryz.underlying320
 a72:=Tryz.isAgg320
 z72:=Tryz.sizeOf320
 v72:=Tryz.zeroValue320
 t75:=Tryz.underlying28
 a75:=Tryz.isAgg28
 z75:=Tryz.sizeOf28
 v75:=Tryz.zeroValue28
 t76:=Tryz.underlying283
 a76:=Tryz.isAgg283
 z76:=Tryz.sizeOf283
 v76:=Tryz.zeroValue283
 t127:=Tryz.underlying128
 a127:=Tryz.isAgg128
 z127:=Tryz.sizeOf128
 v127:=Tryz.zeroValue128
 t164:=Tryz.underlying129
 a164:=Tryz.isAgg129
 z164:=Tryz.sizeOf129
 v164:=Tryz.zeroValue129 }
theorem Tryz.Builder_Extra_156 : Builder.Extra Tryz.prog Tryz.lays156_ren := {
 sizeBuilder:=by kernel_rfl
 liesBuilder:=by kernel_rfl
 t5:=Tryz.underlying5
 a5:=Tryz.isAgg5
 z5:=Tryz.sizeOf5
 v5:=Tryz.zeroValue5
 infoByte:=by kernel_rfl
 cellsByte:=by kernel_rfl
 sizeByte:=by kernel_rfl
 neB5:=by decide }
open Go.RowKit in
/-- strings.Join, however many elements. -/
theorem Tryz.strings_Join (bk o c : Nat) (xs : List ByteArray) (sep : ByteArray) (w : World) (hcells : ∀ (j : Nat) x, xs[j]? = ac x → w.cell? ⟨bk, o + j, N⟩ = ac (.string x)) (hbk : bk < w.heap.size) (hN : xs.length ≤ 140737488355328) (hcap : xs.length ≤ c) (hlen : (Lib.join (xs.map (·.data.toList)) sep.data.toList).length ≤ 140737488355328) :
 zg Tryz.prog 210 #[.slice (ac ⟨bk, o, N⟩) xs.length c, .string sep] w fun e w' => e = .returned (.string ⟨(Lib.join (xs.map (·.data.toList)) sep.data.toList).toArray⟩) ∧ ag w.heap.size w w':=Any.strings_Join Tryz.lays156 Tryz.Builder_Extra_156 bk o c xs sep w hcells hbk hN hcap hlen
end Go.Proofs
namespace Go.Proofs.YtfgapcknnoeplaaGreatDoor
open Go.RowKit
variable {L all:List Yb}{k i B size b B' c:Nat}{t:Int×Int}{S:Int×List (Int×BA)}{v:Yb}{X:List Nat}{w w':World}{l F:List BA}{x y:BA}{p:Option zf}{LL:List (List Yb)}{ad:Nat->zf}{O O':Nat->Prop}{m:Zb}
structure Xg where
 n:Int
 k:Int
 L:List BA
def Jg (c:Xg):Int×Int:=if 1<=c.k/\c.k<=c.n/\c.n<=12 then(if(c.L.length:Int)=c.n then Xj c.L else(3,-1))else(2,-1)
theorem vZ {c:Xg}(h:¬(1<=c.k/\c.k<=c.n/\c.n<=12)):Jg c=(2,-1):=if_neg h
theorem FM {c:Xg}(h:1<=c.k/\c.k<=c.n/\c.n<=12)(B:¬(c.L.length:Int)=c.n):Jg c=(3,-1):=by unfold Jg;rw[if_pos h,if_neg B]
theorem wU {c:Xg}(h:1<=c.k/\c.k<=c.n/\c.n<=12)(B:(c.L.length:Int)=c.n):Jg c=Xj c.L:=by unfold Jg;rw[if_pos h,if_pos B]
theorem Xm {c:Xg}(h:¬0<(Jg c).1):(1<=c.k/\c.k<=c.n/\c.n<=12)/\(c.L.length:Int)=c.n/\Jg c=(0,-1)/\(∀x∈c.L,Jo x=ar)/\c.L.Nodup:=by
 by_cases B:1<=c.k/\c.k<=c.n/\c.n<=12
 ·by_cases D:(c.L.length:Int)=c.n
  ·rw[wU B D]at h ⊢;have H:(Xj c.L).1<=0:=by omega
   exact⟨B,D,(QV H).1,(YP H).1,(YP H).2⟩
  ·rw[FM B D]at h;exact absurd (by decide) h
 ·rw[vZ B]at h;exact absurd (by decide) h
def Jh (c:Xg):Nat:=(c.n.toNat+c.k.toNat+1)/2
def wC (L a b:List BA):List BA:=L.filter fun x=>Xu a x&&Xu b x
theorem JkZ {L:List BA}{P Q:BA->Bool}:(L.filter P).length+(L.filter Q).length<=(L.filter fun x=>P x&&Q x).length+L.length:=by
 induction L with
 |nil=>simp
 |cons x L ih =>
  simp only[List.filter_cons,List.length_cons];cases P x<;>cases Q x<;>simp<;>omega
theorem FG {L a:List BA}(D:L.Nodup)(H:a.Nodup)(I:∀x∈a,x∈L):(L.filter fun x=>Xu a x).length=a.length:=by
 have B:(L.filter fun x=>Xu a x).Perm a:=by
  rw[List.perm_ext_iff_of_nodup (D.filter _) H];intro x;rw[List.mem_filter,Zl];exact⟨fun h=>h.2,fun h=>⟨I x h,h⟩⟩
 exact B.length_eq
def ZT (n k:Nat)(t:Int×Int)(S:Int×List (Int×BA))(v:Yb):Int×List (Int×BA) :=
 if v.n=t.1/\v.who=t.2/\YO n k v=ar then
  (if S.1<0 then v.size else S.1,if v.size=(if S.1<0 then v.size else S.1)/\S.2.any (fun y=>y.1==v.at_)=ap then S.2++ [(v.at_,v.text)]else S.2)
 else S
def Zf (n k:Nat)(t:Int×Int)(L:List Yb):Int×List (Int×BA):=L.foldl (ZT n k t) (-1,[])
theorem MM {n:Nat}(B:i<L.length):Zf n k t (L.take (i+1))=ZT n k t (Zf n k t (L.take i)) (Xd L i):=by
 unfold Zf;rw[aO,Xx B,zd];rfl
theorem oL {n:Nat}(h:¬(v.n=t.1/\v.who=t.2/\YO n k v=ar)):ZT n k t S v=S:=if_neg h
theorem ZO {n:Nat}{z:Int}(h:v.n=t.1/\v.who=t.2/\YO n k v=ar)(B:z=if S.1<0 then v.size else S.1):ZT n k t S v=(z,if v.size=z/\S.2.any (fun y=>y.1==v.at_)=ap then S.2++ [(v.at_,v.text)]else S.2):=by
 subst B;exact if_pos h
theorem Ja7 {n k:Nat}{t:Int×Int}(L:List Yb):∀i,(Zf n k t (L.take i)).2.length<=i
 |0=>az _
 |i+1=>by
  have ih:=Ja7 (n:=n) (k:=k) (t:=t) L i;by_cases B:i<L.length
  ·rw[MM B];unfold ZT;split
   ·show(ite _ _ _:List (Int×BA)).length<=i+1;generalize (if(Zf n k t (L.take i)).1<0 then(Xd L i).size else(Zf n k t (L.take i)).1)=z;split
    ·rw[al,List.length_singleton];omega
    ·omega
   ·omega
  ·rw[aF (by omega)];rw[aF (by omega)]at ih;omega
theorem JpF (a b:Int×Int)(w:World):
 zg Tryz.prog 26 #[.agg #[.int .i64 a.1,.int .i64 a.2],.agg #[.int .i64 b.1,.int .i64 b.2]] w fun e w'=>e=.returned (.bool (Qd a b))/\ag w.heap.size w w':=by
 obtain⟨a1,D⟩:=a;obtain⟨B,H⟩:=b;have J:Hid (ag w.heap.size w ((w.alloc (.cells #[.int .i64 a1,.int .i64 D] 39)).alloc (.cells #[.int .i64 B,.int .i64 H] 39))):=(bR.alloc nR _).alloc (by simp) _;by_cases K:a1<B
 ·have I:Hid (Qd (a1,D) (B,H)=ar):=by show _=_;unfold Qd;simp[K]
  rw[I.out];go_enter Tryz.func26,Tryz.ntmps26;go_wp2;go_ret;exact⟨rfl,J.out⟩
 have U:=decide_eq_false K;by_cases O:a1=B
 ·subst O;have I:Hid (Qd (a1,D) (a1,H)=decide (D<H)):=by show _=_;unfold Qd;simp
  rw[I.out];go_enter Tryz.func26,Tryz.ntmps26;go_wp2;go_ret;exact⟨rfl,J.out⟩
 ·have I:Hid (Qd (a1,D) (B,H)=ap):=by show _=_;unfold Qd;simp[K,O]
  rw[I.out];have Z:(a1==B)=false:=by
   rw[beq_eq_false_iff_ne];exact O
  go_enter Tryz.func26,Tryz.ntmps26;go_wp2;go_ret;exact⟨rfl,J.out⟩
theorem Jlu (ps j c:Nat)(q:Option zf)(cq:Nat)(B:List (Int×BA))(w:World)(D:j<B.length)(K:c<(Ji B j).2.size)(hp:w.cell? ⟨ps,0,N⟩=ac (.slice q B.length cq))(hs:fE w q B):
 zg Tryz.prog 209 (#[.int .i64 (j:Int),.int .i64 (c:Int)]++#[.pointer (ac ⟨ps,0,N⟩)]) w fun e O=>e=.returned (.int .u8 ((Z2 B j c:Nat):Int))/\O=w:=by
 rcases hs with U|⟨b,o,rfl,_,H⟩
 ·rw[U]at D;simp at D
 obtain⟨_,Z⟩:=H j D;have I:=EP (Ji B j).2 c K;have J:Hid (Z2 B j c=Gf.nth (Zj (Ji B j).2) c):=by show _=_;rfl
 rw[J.out];clear H J;generalize (Ji B j).2=t at Z I K ⊢;generalize Gf.nth (Zj t) c=y at I ⊢;go_enter Tryz.func209,Tryz.ntmps209;go_wp2;go_ret;exact⟨rfl,rfl⟩
theorem xP {B:List (Int×BA)}(D:i<B.length):Gf.nth (Xo B) i=(Ji B i).1.toNat:=by
 show(B.map _).getD i 0=(B.getD i _).1.toNat;rw[aa,aa,ai,ae D];rfl
theorem RM (H:X.length=k){j:Nat}(I:i<k)(D:j<k):vec (X.map (Xn k)) i j=iY k X i j:=by
 have B:Qh (X.map (Xn k)) i=Xn k (Gf.nth X i):=by
  show(X.map _).getD i []=_;rw[aa,ai,ae (by omega),Gf.aK X i (by omega)];rfl
 show Qm (Gf.nth (Qh (X.map (Xn k)) i) j)=_;rw[B];unfold Xn;rw[Yq _ _ j D];rfl
theorem RN {g n:Nat}{D H I:Nat->Nat}(hX:X.length=k)(U:∀x∈X,x<n)(h:w.rowIs g 127 k (fun i=>.slice (ac ⟨D (Gf.nth X i),H (Gf.nth X i),N⟩) k (I (Gf.nth X i))))(Z:∀x,x<n->jU w (ac ⟨D x,H x,N⟩) (Xn k x)):QJ w (ac ⟨g,0,N⟩) (X.map (Xn k)):=by
 refine zc ⟨g,0,rfl,h.lt,fun i J=>?_⟩;have B:i<X.length:=by simpa using J
 have K:Qh (X.map (Xn k)) i=Xn k (Gf.nth X i):=by
  show(X.map _).getD i []=_;rw[aa,ai,ae B,Gf.aK X i B];rfl
 have O:Gf.nth X i∈X:=by rw[Gf.aK X i B];exact aj _
 rw[K,aN];refine⟨ac ⟨D (Gf.nth X i),H (Gf.nth X i),N⟩,I (Gf.nth X i),?_,Z _ (U _ O),fun e=>by cases e⟩;rw[h.cell (by omega)];unfold Xn;rw[Jf]
structure l5 (n k size:Nat) (l:List (Int×BA)):Prop where
 pK:l.any (j4 (n:Int) (Jk k size))=ap
 jS:(Qg k l l.length).length=k
theorem l5.at_ {n:Nat}{l:List (Int×BA)}(h:l5 n k size l){x:Int×BA}(B:x∈l):0<=x.1/\x.1<n/\x.2.size=Jk k size:=by
 have:=ao.1 h.pK x B;unfold j4 at this;simp only[zh,decide_eq_true_eq,aR,decide_eq_false_iff_not]at this;omega
theorem l5.WE {n:Nat}{l:List (Int×BA)}(h:l5 n k size l):(∀x∈Xo (Qg k l l.length),x<n)/\(Xo (Qg k l l.length)).Nodup/\(Xo (Qg k l l.length)).length=k:=by
 refine⟨fun x H=>?_,?_,by unfold Xo;rw[af];exact h.jS⟩
 ·obtain⟨y,D,rfl⟩:=am.1 H;have:=h.at_ (X9 k l l.length nR y D);omega
 ·have I:=sX k l l.length;have e:Xo (Qg k l l.length)=((Qg k l l.length).map aw).map Int.toNat:=by
   unfold Xo;rw[List.map_map];rfl
  rw[e];refine List.Pairwise.map (R:=fun a b:Int=>a≠b/\0<=a/\0<=b) _ (fun a b B e=>B.1 (by have:=B.2;omega)) (List.Pairwise.imp_of_mem (fun J K B=>?_) I)
  ·obtain⟨y,D,rfl⟩:=am.1 J;obtain⟨O,U,rfl⟩:=am.1 K;exact⟨B,(h.at_ (X9 k l l.length nR y D)).1,(h.at_ (X9 k l l.length nR O U)).1⟩
structure jF (w:World) (b n k size:Nat):Prop where
 c0:w.cell? ⟨b,0,N⟩=ac (.int .i64 (n:Int))
 c1:w.cell? ⟨b+1,0,N⟩=ac (.int .i64 (k:Int))
 c2:w.cell? ⟨b+1+1,0,N⟩=ac (.int .i64 (size:Int))
theorem jF.below {n:Nat}(h:jF w b n k size)(B:ag w.heap.size w w'):jF w' b n k size :=
 ⟨(B.cell (Qf h.c0)).trans h.c0,(B.cell (Qf h.c1)).trans h.c1,(B.cell (Qf h.c2)).trans h.c2⟩
theorem UN (w:World)(n k size:Nat)(t:zk):jF (((w.alloc (.cells #[.int .i64 (n:Int)] t)).alloc (.cells #[.int .i64 (k:Int)] t)).alloc (.cells #[.int .i64 (size:Int)] t)) w.heap.size n k size:=by
 have D:(w.alloc (.cells #[.int .i64 (n:Int)] t)).z=w.z+1:=by simp
 have H:((w.alloc (.cells #[.int .i64 (n:Int)] t)).alloc (.cells #[.int .i64 (k:Int)] t)).z=w.z+1+1:=by simp
 have I:ag (w.alloc (.cells #[.int .i64 (n:Int)] t)).z (w.alloc (.cells #[.int .i64 (n:Int)] t)) ((w.alloc (.cells #[.int .i64 (n:Int)] t)).alloc (.cells #[.int .i64 (k:Int)] t)):=bR.alloc nR _;have B:ag ((w.alloc (.cells #[.int .i64 (n:Int)] t)).alloc (.cells #[.int .i64 (k:Int)] t)).z ((w.alloc (.cells #[.int .i64 (n:Int)] t)).alloc (.cells #[.int .i64 (k:Int)] t)) (((w.alloc (.cells #[.int .i64 (n:Int)] t)).alloc (.cells #[.int .i64 (k:Int)] t)).alloc (.cells #[.int .i64 (size:Int)] t)):=bR.alloc nR _;refine⟨?_,?_,?_⟩
 ·rw[B.cell (p:=(pA w.z 0)) (by show w.z<_;omega),I.cell (p:=(pA w.z 0)) (by show w.z<_;omega),aq _ _ _ _ rfl];rfl
 ·rw[B.cell (p:=(pA (w.z+1) 0)) (by show w.z+1<_;omega),aq _ _ _ _ D.symm];rfl
 ·rw[aq _ _ _ _ H.symm];rfl
theorem PX:(Tryz.prog.info? 127).map (fun i=>(i.zero,i.size,i.bytes))=ac (ac (.slice N 0 0),1,24):=by kernel_rfl
theorem LJ (n k size:Nat)(p:Option zf)(l:List (Int×BA))(cap:Nat)(z:zf)(w:World)(a0:1<=k)(g1:k<=n)(hn:n<=12)(o6:size<=1000)(hl:l.length<=1000)(hf:l5 n k size l)(hs:fE w p l)
 (hz:w.cell? ⟨11,0,N⟩=ac (.iface 335 (.pointer (ac z)))):
 zg Tryz.prog 196 #[.int .i64 (n:Int),.int .i64 (k:Int),.int .i64 (size:Int),.slice p l.length cap] w fun e w'=>e=.returned (.tuple #[.string (gB k size (Qg k l l.length)),.nilIface])/\ag w.heap.size w w':=by
 have s6:=xR (size:=size) a0;have g3:Hid (∀x∈Qg k l l.length,0<=x.1/\x.1<n/\x.2.size=Jk k size):=fun x Z=>hf.at_ (X9 k l l.length nR x Z)
 have g4:Hid _:=hf.pK;have b2:Hid (size<=k*Jk k size):=FX a0;have J:Hid _:=hf.WE;have a2:Hid _:=hf.jS;have g5:Hid (∀W,fE W p l->zg Tryz.prog 207 #[.int .i64 (k:Int),.slice p l.length cap] W fun e w'=>(∃p' c',e=.returned (.slice p' k c')/\fE w' p' (Qg k l l.length))/\ag W.heap.size W w'):=fun W hW=>by
  have h:=LA k p l cap W (by omega) hl hW;rw[a2.out]at h;exact h
 have g6:Hid (∀W,zg Tryz.prog 200 #[.int .i64 (size:Int),.int .i64 (k:Int)] W fun e w'=>e=.returned (.int .i64 ((Jk k size:Nat):Int))/\w'=W):=fun W=>zM size k W a0 (by omega) (by omega)
 have b7:Hid (gB k size (Qg k l l.length)=Jp (Qi size fun p=>Jl (QY (Xo (Qg k l l.length))) (Z2 (Qg k l l.length)) (p/Jk k size) (p%Jk k size) k)):=by show _=_;rfl
 have g7:Hid (∀y t W,W.cell? (pA w.heap.size 0)=ac (.int .i64 (n:Int))->W.cell? (pA (w.heap.size+1) 0)=ac (.int .i64 (k:Int))->W.cell? (pA (w.heap.size+1+1) 0)=ac (.int .i64 (size:Int))->zg Tryz.prog 206 (#[.agg #[.int .i64 y,.string t]]++#[.pointer (ac (pA w.heap.size 0)),.pointer (ac (pA (w.heap.size+1) 0)),.pointer (ac (pA (w.heap.size+1+1) 0))]) W fun e w2=>e=.returned (.bool (j4 (n:Int) (Jk k size) (y,t)))/\ag W.heap.size W w2):=fun y t W h0 h1 h2=>WJ w.heap.size (w.heap.size+1) (w.heap.size+1+1) n k size y t W a0 g1 hn o6 h0 h1 h2
 clear hf;generalize gB k size (Qg k l l.length)=dt at b7 ⊢;generalize Jk k size=I at *;generalize Qg k l l.length=B at *;obtain⟨w1,b3⟩:=Xb ((((w.alloc (.cells #[.int .i64 (n:Int)] 3)).alloc (.cells #[.int .i64 (k:Int)] 3)).alloc (.cells #[.int .i64 (size:Int)] 3)));have b4:ag w.heap.size w w1:=by rw[b3];exact((bR.alloc nR _).alloc (by simp) _).alloc (by simp;omega) _
 have a8:jF w1 w.heap.size n k size:=by rw[b3];exact UN w n k size _
 have p0:=a8.c0;have p1:=a8.c1;have p2:=a8.c2;have g8:Hid _:=a8;have b8:=(b4.cell (p:=⟨11,0,N⟩) (Qf hz)).trans hz;have HS:=BZ n k size z w1 a0 g1 hn o6 b8;have g9:Hid _:=b3;have d0:Hid _:=b4;have h5:Hid (fE w1 p l):=hs.below b4;have d1:Hid (w1.cell? ⟨11,0,N⟩=ac (.iface 335 (.pointer (ac z)))):=b8;obtain⟨i1,h6,h7,h8,h9⟩:=info_parts PX;have o7:∀W:World,Sem.run Tryz.prog (Instr.makeSlice 299 (.int .i64 (k:Int)) (.int .i64 (k:Int))) W=.ok (.slice (ac (pA W.heap.size 0)) k k) (W.alloc (.cells (ze #[.slice N 0 0] k) 127)):=fun W=>run_make_row (P:=Tryz.prog) 299 127 i1 (.slice N 0 0) Tryz.underlying299 h6 h7 h8 rfl .i64 .i64 k (by rw[h9];omega) (by omega) W
 clear b3 b4 hz b8 hs h6 h7 h8 h9 a8;go_enter Tryz.func196,Tryz.ntmps196;go_wp2_with (rw[<-g9.out])
 refine HS.mono ?_;rintro e w2 ⟨⟨gm,rfl,i0⟩,a6⟩;have s7:w1.heap.size<=w2.heap.size:=a6.size;have a3:=g8.out.below a6;have i2:Hid (jF w2 w.heap.size n k size):=a3;have q0:=a3.c0;have q1:=a3.c1;have q2:=a3.c2;have i3:Hid (QJ w2 (ac (pA gm 0)) (kK k n)):=i0;have d2:Hid (ag w.heap.size w w2):=d0.out.trans (a6.mono d0.out.size);have d3:Hid (fE w2 p l):=h5.out.below a6;have d4:Hid (w2.cell? ⟨11,0,N⟩=ac (.iface 335 (.pointer (ac z)))):=(a6.cell (p:=⟨11,0,N⟩) (Qf d1.out)).trans d1.out;have HA:tK w2 206 #[.pointer (ac (pA w.heap.size 0)),.pointer (ac (pA (w.heap.size+1) 0)),.pointer (ac (pA (w.heap.size+1+1) 0))] l (j4 (n:Int) I):=fun i hi w4 h4=>by
  have Z:=g7.out (Ji l i).1 (Ji l i).2 w4 ((a3.below h4).c0) ((a3.below h4).c1) ((a3.below h4).c2);exact Z
 have HC:=JaA p l cap 206 #[.pointer (ac (pA w.heap.size 0)),.pointer (ac (pA (w.heap.size+1) 0)),.pointer (ac (pA (w.heap.size+1+1) 0))] (j4 (n:Int) I) w2 (by omega) d3.out (enters_of Tryz.func206 (by kernel_rfl) rfl) HA;rw[g4.out]at HC;clear HS i0 a6 d0 g9 g8 p0 p1 p2 h5 d1 a3 HA g4 g7;go_wp2_with fail
 refine HC.mono ?_;rintro e w4 ⟨rfl,a5⟩;have s8:w2.heap.size<=w4.heap.size:=a5.size;have d5:Hid (ag w.heap.size w w4):=d2.out.trans (a5.mono d2.out.size);have i4:Hid (QJ w4 (ac (pA gm 0)) (kK k n)):=i3.out.below a5;have d6:Hid (w4.cell? ⟨11,0,N⟩=ac (.iface 335 (.pointer (ac z)))):=(a5.cell (p:=⟨11,0,N⟩) (Qf d4.out)).trans d4.out;have d7:=i2.out.below a5;have i5:Hid (jF w4 w.heap.size n k size):=d7;have i8:=g5.out w4 (d3.out.below a5);clear q0 q1 q2;have q1:=d7.c1;clear HC a5 d2 d3 i3 d4 i2 g5 d7;go_wp2_with fail
 refine i8.mono ?_;rintro e K ⟨⟨p5,c5,rfl,i9⟩,d8⟩;have p3:w4.heap.size<=K.heap.size:=d8.size;obtain⟨D,a9⟩:=Xb (K.alloc (.cells #[.slice p5 k c5] 285));have d9:=Zk a9;have p4:=fQ a9;have b0:ag w4.heap.size w4 D:=d8.trans (d9.mono p3);have e0:Hid (ag w.heap.size w D):=d5.out.trans (b0.mono d5.out.size);have e1:Hid (fE D p5 B):=i9.below d9;have j0:D.cell? (pA K.heap.size 0)=ac (.slice p5 k c5):=XX a9 rfl;have e2:=i5.out.below b0;have r1:=e2.c1;have e3:Hid (D.cell? ⟨11,0,N⟩=ac (.iface 335 (.pointer (ac z)))):=(b0.cell (p:=⟨11,0,N⟩) (Qf d6.out)).trans d6.out;obtain⟨rb,ro,rc,p6,j1⟩:=Jmq (i4.out.below b0) (by omega) a0;have e4:Hid (∀i,i<n->D.cell? (pA gm i)=ac (.slice (ac ⟨rb i,ro i,N⟩) k (rc i))/\jU D (ac ⟨rb i,ro i,N⟩) (Xn k i)):=j1;have j2:Hid (D=K.alloc (.cells #[.slice p5 k c5] 285)):=a9;have k0:Hid (jF D w.heap.size n k size):=e2;have k2:Hid (D.cell? (pA K.heap.size 0)=ac (.slice p5 k c5)):=j0;clear i8 d8 d9 b0 i9 a9 j1 i4 d6 d5 i5 e2 q1;rcases e1.out with h0|⟨b5,o5,p7,k3,k4⟩
 ·exact absurd a2.out (by rw[h0];simp;omega)
 subst p7;have e5:(D.alloc (.cells (ze #[.slice N 0 0] k) 127)).rowIs D.heap.size 127 k (fun _=>.slice N 0 0):=World.rowIs_made D _ k _;have e6:ag D.heap.size D (D.alloc (.cells (ze #[.slice N 0 0] k) 127)):=bR.alloc nR _;have e7:Hid (∀i,i<B.length->D.cell? (pA b5 (o5+i*2))=ac (.int .i64 (Ji B i).1)/\D.cell? (pA b5 (o5+i*2+1))=ac (.string (Ji B i).2)):=k4;clear k4;go_wp2_with (rw[<-j2.out])
 generalize D.alloc (.cells (ze #[.slice N 0 0] k) 127)=w7 at e5 e6 ⊢;have k5:Hid (w7.rowIs (D.heap.size) 127 k (fun _=>.slice N 0 0)):=e5;have k6:Hid (ag D.heap.size D w7):=e6;clear e5 e6 o7 r1 j0;go_loopw [44] (fun x wr=>∃i:Nat,i<=k/\x=.int .i64 i/\wr.rowIs (D.heap.size) 127 k (fun q=>if q<i then .slice (ac ⟨rb (Gf.nth (Xo B) q),ro (Gf.nth (Xo B) q),N⟩) k (rc (Gf.nth (Xo B) q))else .slice N 0 0)/\ag D.heap.size D wr) (fun x _=>k-(intOf x).toNat)
 case atStart=>exact⟨0,by omega,rfl,k5.out.congr (fun q _=>by simp),k6.out⟩
 case round =>
  obtain⟨i,hi,rfl,hR,hB⟩:=hrel;obtain⟨H,rfl⟩:=Xb wr;have HR:Hid (H.rowIs (D.heap.size) 127 k (fun q=>if q<i then .slice (ac ⟨rb (Gf.nth (Xo B) q),ro (Gf.nth (Xo B) q),N⟩) k (rc (Gf.nth (Xo B) q))else .slice N 0 0)):=hR;have O:Hid (ag D.heap.size D H):=hB;have s9:D.heap.size<H.heap.size:=hR.lt;clear hR hB k5 k6;by_cases b1:i<k
  ·have hm:Ji B i∈B:=sE (by rw[a2.out];exact b1);have Z:=g3.out _ hm;have e8:Gf.nth (Xo B) i=(Ji B i).1.toNat:=xP (by rw[a2.out];exact b1);have k7:(Ji B i).1=((Gf.nth (Xo B) i:Nat):Int):=by rw[e8];omega
   have l0:Gf.nth (Xo B) i<n:=by rw[e8];omega
   have q1:H.cell? (pA b5 (o5+i*2))=ac (.int .i64 ((Gf.nth (Xo B) i:Nat):Int)):=by
    rw[O.out.cell (p:=(pA b5 (o5+i*2))) k3,(e7.out i (by rw[a2.out];exact b1)).1,k7]
   have q2:H.cell? (pA b5 (o5+i*2+1))=ac (.string (Ji B i).2):=by
    rw[O.out.cell (p:=(pA b5 (o5+i*2+1))) k3,(e7.out i (by rw[a2.out];exact b1)).2]
   have q3:H.cell? ⟨gm,Gf.nth (Xo B) i,N⟩=ac (.slice (ac ⟨rb (Gf.nth (Xo B) i),ro (Gf.nth (Xo B) i),N⟩) k (rc (Gf.nth (Xo B) i))):=by
    rw[O.out.cell (p:=⟨gm,Gf.nth (Xo B) i,N⟩) p6,(e4.out _ l0).1]
   have q4:H.cell? (pA D.heap.size i)=ac (.slice N 0 0):=by rw[HR.out.cell b1,if_neg (Nat.lt_irrefl _)]
   have q5:H.frozen? (pA D.heap.size i)=false:=HR.out.frozen i;have p9:Hid (Gf.nth (Xo B) i=Gf.nth (Xo B) i):=by show _=_;rfl
   have t0:gm<H.heap.size:=by have:=O.out.size;omega
   clear e8 k7 Z hm;generalize l7:Gf.nth (Xo B) i=x at q1 q3 l0;have q6:Hid (Gf.nth (Xo B) i=x):=l7;clear l7 p9;go_wp2;go_roundw
   case rel =>
    refine⟨i+1,by omega,by go_num,?_,?_⟩
    ·refine((HR.out.set i _).alloc _).congr (fun q _=>?_);by_cases e:q=i
     ·rw[if_pos e,if_pos (by omega),e,q6.out]
     ·rw[if_neg e];by_cases e':q<i
      ·rw[if_pos e',if_pos (by omega)]
      ·rw[if_neg e',if_neg (by omega)]
    ·exact(O.out.setCell nR _).alloc (by simp[aJ];exact O.out.size) _
   case measure=>simp[intOf];omega
  ·have q7:i=k:=by omega
   subst q7;have l9:H.rowIs (D.heap.size) 127 i (fun q=>.slice (ac ⟨rb (Gf.nth (Xo B) q),ro (Gf.nth (Xo B) q),N⟩) i (rc (Gf.nth (Xo B) q))):=HR.out.congr (fun q hq=>by rw[if_pos hq]);have m0:QJ H (ac (pA D.heap.size 0)) ((Xo B).map (Xn i)):=RN J.out.2.2 J.out.1 l9 (fun x Z=>(e4.out x Z).2.below O.out);have m4:H.cell? ⟨11,0,N⟩=ac (.iface 335 (.pointer (ac z))):=(O.out.cell (p:=⟨11,0,N⟩) (Qf e3.out)).trans e3.out;have e9:((Xo B).map (Xn i)).length=i:=by rw[af];exact J.out.2.2
   have hM:jQ ((Xo B).map (Xn i)):=NN a0 (by omega) J.out.2.2;have m5:(Qh ((Xo B).map (Xn i)) 0).length=i:=by
    have h0:Qh ((Xo B).map (Xn i)) 0=Xn i (Gf.nth (Xo B) 0):=by
     show((Xo B).map _).getD 0 []=_;rw[aa,ai,ae (by rw[J.out.2.2];omega),Gf.aK _ 0 (by rw[J.out.2.2];omega)];rfl
    rw[h0];exact Jf _ _
   have HI:=FJ (ac (pA D.heap.size 0)) ((Xo B).map (Xn i)) i z H hM (by rw[m5,e9]) (LB i (Xo B)) m0 m4;have m6:=OX hn J.out.2.2 J.out.2.1 J.out.1 g1;unfold xQ at HI;rw[e9]at HI;have m7:Hid (Lin.cL i i (vec ((Xo B).map (Xn i))) i):=m6;have f3:Hid (ag w.heap.size w H):=e0.out.trans (O.out.mono e0.out.size);have m8:Hid (jF H w.heap.size n i size):=k0.out.below O.out;have f4:Hid (H.cell? (pA K.heap.size 0)=ac (.slice (ac (pA b5 o5)) i c5)):=(O.out.cell (p:=(pA K.heap.size 0)) p4).trans k2.out;have m9:Hid (fE H (ac (pA b5 o5)) B):=e1.out.below O.out;clear l9 m0 m4 e9 hM m5 m6 HR O e7 e4 e0 e1 e3 k0 k2 j2;go_wp2_with fail
   refine HI.mono ?_;rintro e w9 ⟨⟨d,hd,q9⟩,a7⟩;have r0:d=i:=Lin.dY hd m7.out;rcases q9 with⟨t1,_⟩|⟨_,g2,x,rfl,n0,Z,n1⟩
   ·omega
   have n2:Hid (∀a b,a<i->b<i->x a b=QY (Xo B) a b):=eN (fun j=>by
    by_cases hj:j<(Xo B).length
    ·have:=J.out.1 (Gf.nth (Xo B) j) (by rw[Gf.aK _ j hj];exact aj _);omega
    ·rw[F0 (by omega)];decide) J.out.2.1 J.out.2.2 (by omega) Z (fun a b ha hb=>by
     rw[<-n1 a b ha hb];exact Lin.bQ i (fun _ _=>rfl) (fun t ht=>(RM J.out.2.2 ht hb).symm))
   have t2:H.heap.size<=w9.heap.size:=a7.size;have b6:=m8.out.below a7;have n3:Hid (jF w9 w.heap.size n i size):=b6;have s1:=b6.c1;have s2:=b6.c2;have f5:w9.cell? (pA K.heap.size 0)=ac (.slice (ac (pA b5 o5)) B.length c5):=by rw[a2.out];exact(a7.cell (p:=(pA K.heap.size 0)) (Qf f4.out)).trans f4.out
   have n4:fE w9 (ac (pA b5 o5)) B:=m9.out.below a7;have n5:uI w9 209 #[.pointer (ac (pA K.heap.size 0))] (Z2 B) i I:=fun j c hj hc U n6=>by
    have a4:j<B.length:=by rw[a2.out];exact hj
    exact Jlu K.heap.size j c _ c5 B U a4 (by rw[(g3.out _ (sE a4)).2.2];exact hc) ((n6.cell (p:=(pA K.heap.size 0)) (Qf f5)).trans f5) (n4.below n6)
   have n7:=F3 (ac (pA g2 0)) i i I i x (Z2 B) 209 #[.pointer (ac (pA K.heap.size 0))] w9 a0 (by omega) a0 (by omega) (by omega) Z (fun j c=>EN B j c) n0 (enters_of Tryz.func209 (by kernel_rfl) rfl) n5;have f6:Hid (ag w.heap.size w w9):=f3.out.trans (a7.mono f3.out.size);have r2:Hid (∀a b,x a b<256):=Z;clear HI hd r0 a7 n0 Z n1 f5 n4 n5 f3 m8 f4 m9 m7 b6;go_wp2_with fail
   refine(g6.out _).mono ?_;rintro e r3 ⟨rfl,n8⟩;rw[n8];clear n8 r3 g6;go_wp2_with fail
   refine n7.mono ?_;rintro e U ⟨rfl,f7,f8⟩;have a4:(((ax i).map fun q=>Jp (Qi I fun c=>Jl x (Z2 B) q c i))).length=i:=by simp
   have f9:Lib.join (((ax i).map fun q=>Jp (Qi I fun c=>Jl x (Z2 B) q c i)).map (·.data.toList)) []=Y2 (gF (fun q c=>Jl x (Z2 B) q c i) I i):=NV (fun q c=>Jl x (Z2 B) q c i) I i;have t3:i*I<=12*1000:=Nat.mul_le_mul (by omega) (by omega);have n9:w9.heap.size<U.heap.size:=f7.lt;have o1:=fun(W:World) (hW:ag U.heap.size U W)=>Tryz.strings_Join w9.heap.size 0 i ((ax i).map fun q=>Jp (Qi I fun c=>Jl x (Z2 B) q c i)) ⟨#[]⟩ W (fun j y hy=>by
    have o2:j<i:=by
     have:=(List.getElem?_eq_some_iff.1 hy).1;rw[a4]at this;exact this
    rw[ai,List.getElem?_range o2]at hy;have r4:Jp (Qi I fun c=>Jl x (Z2 B) j c i)=y:=Option.some.inj hy;rw[aN,hW.cell (p:=(pA w9.heap.size j)) n9,f7.cell o2,<-r4];rfl) (ak n9 hW.size) (by rw[a4];omega) (by rw[a4];exact az _) (by
    show(Lib.join _ []).length<=_;rw[f9];unfold Y2;rw[af,YV];omega)
   have HJ:∀W,ag U.heap.size U W->zg Tryz.prog 210 #[.slice (ac (pA w9.heap.size 0)) i i,.string ⟨#[]⟩] W fun e w'=>e=.returned (.string ⟨(Y2 (gF (fun q c=>Jl x (Z2 B) q c i) I i)).toArray⟩)/\ag W.heap.size W w':=fun W hW=>by
    have h:=o1 W hW;rw[a4,show(⟨#[]⟩:BA).data.toList=[]from rfl,f9]at h;exact h
   clear o1;have r5:∀W,Sem.run Tryz.prog (Instr.slice 9 (.string ⟨(Y2 (gF (fun q c=>Jl x (Z2 B) q c i) I i)).toArray⟩) N (ac (.int .i64 (size:Int))) N) W=.ok (.string dt) W:=fun W=>by
    rw[run_slice_string_h W 9 _ Tryz.underlying9 .i64 (size:Int) (by omega) (by
     show(size:Int)<=(((Y2 (gF (fun q c=>Jl x (Z2 B) q c i) I i)).toArray.size:Nat):Int);unfold Y2;rw[List.size_toArray,af,YV];have:=b2.out;omega),Int.toNat_natCast,SZ,OE _ _ _ _ b2.out,b7.out]
    congr 3
    refine YL size _ _ (fun q hq=>?_);refine A0 i (fun j hj=>n2.out _ j ?_ hj);have hm:=b2.out;have r6:0<I:=by
     rcases Nat.eq_zero_or_pos I with e|e
     ·rw[e,Nat.mul_zero]at hm;omega
     ·exact e
    rw[Nat.div_lt_iff_lt_mul r6];omega
   have o3:Hid (ag w.heap.size w U):=f6.out.trans (f8.mono f6.out.size);have g0:=n3.out.below f8;have o4:Hid (jF U w.heap.size n i size):=g0;clear s1 s2;have s2:=g0.c2;clear g0 n3;clear n7 f7 f8 f6 a4 f9 n2 r2 b7 b2;generalize (⟨(Y2 (gF (fun q c=>Jl x (Z2 B) q c i) I i)).toArray⟩:BA)=st at HJ r5;have s4:Hid (∀W,ag U.heap.size U W->zg Tryz.prog 210 #[.slice (ac (pA w9.heap.size 0)) i i,.string ⟨#[]⟩] W fun e w'=>e=.returned (.string st)/\w'.cell? (pA (w.heap.size+1+1) 0)=ac (.int .i64 (size:Int))/\ag w.heap.size w w'):=fun W hW=>(HJ W hW).mono fun e w' ⟨he,hb⟩=>by
    have h3:ag U.heap.size U w':=hW.trans (hb.mono hW.size);exact⟨he,(o4.out.below h3).c2,o3.out.trans (h3.mono o3.out.size)⟩
   clear HJ o4;go_wp2;go_region_with (go_at_call 210;refine(s4.out _ (by first|exact bR.drew|exact Below.refl _ _)).mono ?_;rintro e t4 ⟨rfl,s3,s5⟩)
   all_goals (go_wp2;go_ret2;exact⟨rfl,s5⟩)
structure pG (n k:Nat) (S:Int×List (Int×BA)):Prop where
 some_:S.2=[]∨0<=S.1
 le:S.1<=1000
 each:∀x∈S.2,0<=x.1/\x.1<n/\x.2.size=Jk k S.1.toNat
 one:(S.2.map aw).Nodup
theorem RV {n:Nat}(v:Yb)(h:pG n k S):pG n k (ZT n k t S v):=by
 by_cases B:v.n=t.1/\v.who=t.2/\YO n k v=ar
 ·have I:=B.2.2;unfold YO at I;rw[Bool.and_eq_true]at I;obtain⟨c1,c2,c3,c4,c5⟩:=of_decide_eq_true I.2;by_cases J:S.1<0
  ·have O:S.2= []:=by
    rcases h.some_ with e|e
    ·exact e
    ·omega
   rw[ZO (z:=v.size) B (by rw[if_pos J]),O];refine⟨zc c1,c2,fun x D=>?_,?_⟩
   ·simp at D;subst D;exact⟨c3,c4,c5⟩
   ·simp
  ·rw[ZO (z:=S.1) B (by rw[if_neg J])];by_cases H:v.size=S.1/\S.2.any (fun y=>y.1==v.at_)=ap
   ·rw[if_pos H];refine⟨zc (by show 0<=S.1;omega),h.le,fun x D=>?_,?_⟩
    ·rcases List.mem_append.1 D with e|e
     ·exact h.each x e
     ·simp at e;subst e;exact⟨c3,c4,by show v.text.size=Jk k S.1.toNat;rw[<-H.1];exact c5⟩
    ·show((S.2++ [(v.at_,v.text)]).map aw).Nodup;rw[au];refine List.nodup_append.2 ⟨h.one,by simp,fun a U b K e=>?_⟩;simp at K;subst K e;obtain⟨y,Z,a0⟩:=am.1 U;have:=ao.1 H.2 y Z;exact this (by simp[a0])
   ·rw[if_neg H];exact⟨h.some_,h.le,h.each,h.one⟩
 ·rw[oL B];exact h
theorem Jpv (n k:Nat)(t:Int×Int)(L:List Yb):pG n k (Zf n k t L):=by
 have B:∀(L:List Yb) (S:Int×List (Int×BA)),pG n k S->pG n k (L.foldl (ZT n k t) S):=by
  intro L
  induction L with
  |nil=>intro S h;exact h
  |cons v L ih=>intro S h;exact ih _ (RV v h)
 exact B L _ ⟨bn rfl,by show(-1:Int)<=1000;decide,fun x D=>(by cases D),zi⟩
theorem vD (k:Nat)(l:List (Int×BA))(I:(l.map aw).Nodup):∀i,i<=l.length->Qg k l i=l.take (min k i)
 |0,_=>by simp[Qg]
 |i+1,hi=>by
  have ih:=vD k l I i (by omega);have H:Ji l i=l[i]:=by
   unfold Ji;rw[aa,ae (by omega)];rfl
  by_cases U:i<k
  ·have B:min k i=i:=by omega
   have D:min k (i+1)=i+1:=by omega
   rw[B]at ih;rw[D,rJ (by rw[ih,aC];omega) (by
    rw[ih,ao];intro y J K;obtain⟨j,Z,O⟩:=List.mem_take_iff_getElem.1 J;have a0:j<i:=by omega
    have e:l[j].1=l[i].1:=by rw[O,<-H];simpa using K
    have:=(List.getElem_inj (h₀:=by rw[af];omega) (h₁:=by rw[af];omega) I).1 (show(l.map aw)[j]'(by rw[af];omega)=(l.map aw)[i]'(by rw[af];omega) by rw[aS,aS];exact e);omega),ih,H]
   exact(ah (by omega)).symm
  ·have B:min k i=k:=by omega
   have D:min k (i+1)=k:=by omega
   rw[B]at ih;rw[D,qH (by rw[ih,aC];omega),ih]
theorem FF {n:Nat}(J:1<=k)(h:¬(Zf n k t L).2.length<k):(((Zf n k t L).1.toNat:Nat):Int)=(Zf n k t L).1/\(Zf n k t L).1.toNat<=1000/\l5 n k (Zf n k t L).1.toNat (Zf n k t L).2/\∀i,(Ji (Zf n k t L).2 i).2.size<=100000:=by
 have B:=Jpv n k t L;generalize Zf n k t L=S at *;have K:0<=S.1:=by
  rcases B.some_ with e|e
  ·rw[e]at h;simp at h;omega
  ·exact e
 have O:=B.le;have U:=xR (size:=S.1.toNat) J;refine⟨by omega,by omega,⟨?_,?_⟩,fun i=>?_⟩
 ·rw[ao];intro x I D;obtain⟨a1,Z,a3⟩:=B.each x I;unfold j4 at D;simp only[zh,decide_eq_true_eq,aR,decide_eq_false_iff_not]at D;omega
 ·rw[vD k S.2 B.one _ nR,aC];omega
 ·by_cases H:i<S.2.length
  ·have e:Ji S.2 i=S.2[i]:=by
    unfold Ji;rw[aa,ae H];rfl
   have:=(B.each _ (aj H)).2.2;rw[e,this];omega
  ·unfold Ji;rw[aa,List.getElem?_eq_none (by omega)];show(0:Nat)<=_;omega
def XH (n k:Nat)(all:List Yb)(S:(Int×Int)×BA×Bool)(v:Yb):(Int×Int)×BA×Bool :=
 if S.2.2=ar/\Qd S.1 (v.n,v.who)=ap then S
 else if(Zf n k (v.n,v.who) all).2.length<k then S
 else((v.n,v.who),gB k (Zf n k (v.n,v.who) all).1.toNat (Qg k (Zf n k (v.n,v.who) all).2 (Zf n k (v.n,v.who) all).2.length),ar)
def Ys (n k:Nat)(all L:List Yb):(Int×Int)×BA×Bool:=L.foldl (XH n k all) ((0,0),⟨#[]⟩,ap)
theorem OP {n:Nat}(B:i<L.length):Ys n k all (L.take (i+1))=XH n k all (Ys n k all (L.take i)) (Xd L i):=by
 unfold Ys;rw[aO,Xx B,zd];rfl
theorem Jkh {n:Nat}{S:(Int×Int)×BA×Bool}(h:S.2.2=ar/\Qd S.1 (v.n,v.who)=ap):XH n k all S v=S:=if_pos h
theorem Jki {n:Nat}{S:(Int×Int)×BA×Bool}(h:¬(S.2.2=ar/\Qd S.1 (v.n,v.who)=ap))(B:(Zf n k (v.n,v.who) all).2.length<k):XH n k all S v=S:=by unfold XH;rw[if_neg h,if_pos B]
theorem S6 {n:Nat}{S:(Int×Int)×BA×Bool}(h:¬(S.2.2=ar/\Qd S.1 (v.n,v.who)=ap))(B:¬(Zf n k (v.n,v.who) all).2.length<k):XH n k all S v=((v.n,v.who),gB k (Zf n k (v.n,v.who) all).1.toNat (Qg k (Zf n k (v.n,v.who) all).2 (Zf n k (v.n,v.who) all).2.length),ar):=by unfold XH;rw[if_neg h,if_neg B]
def rO:BA:=⟨#[108,111,111,107]⟩
def sW:BA:=⟨#[116,111,108,100]⟩
def JJ:BA:=⟨#[107,101,101,112]⟩
def iS:BA:=⟨#[107,101,112,116]⟩
def pX:BA:=⟨#[115,101,97,108]⟩
def Q7:BA:=⟨#[115,101,97,108,101,100]⟩
def Jrl:BA:=⟨#[108,111,111,107,105,110,103]⟩
def OZ:BA:=⟨#[115,101,97,108,105,110,103]⟩
def K2:BA:=⟨#[107,101,101,112,105,110,103]⟩
def R0:BA:=⟨#[100,111,110,101]⟩
def WT:BA:=⟨#[114,101,102,117,115,101,100]⟩
inductive St where
 |looking|sealing|keeping|done|refused
 deriving DecidableEq
def St.word:St->BA
 | .looking=>Jrl
 | .sealing=>OZ
 | .keeping=>K2
 | .done=>R0
 | .refused=>WT
def St.waits:St->BA
 | .looking=>sW
 | .sealing=>Q7
 | .keeping=>iS
 |_=>⟨#[]⟩
structure Za where
 name:BA
 key:BA
 who:Int
 op:Int
 config:Int
 c:Xg
 next:Xg
 put:Bool
 aI:Bool
 st:St
 from_:List BA
 L:List (List Yb)
 tag:Int×Int
 text:BA
 found:Bool
def Za.sQ (a:Za)(i:Nat):Yb:=⟨a.tag.1,a.tag.2,(a.text.size:Int),(i:Int),JW a.c.k.toNat a.text i⟩
def Za.send (a:Za)(kind:BA)(B:Bool):List Zb:=(ax a.c.L.length).map fun i=>⟨a.name,Yc a.c.L i,kind,a.key,a.op,a.config,ap,if B then [a.sQ i]else []⟩
def Za.begin (a:Za):List Zb:=if a.aI then(if a.st=.sealing then a.send pX ap else [])else a.send rO ap
def Xq (from_:List BA)(L:List (List Yb)):List BA->List (List Yb)
 | []=>[]
 |m::r=>if Xu from_ m then L.getD (ZJ from_ m) []::Xq from_ L r else Xq from_ L r
def Yk (n:Int)(v:Yb):Int:=if n<v.n/\v.n<=1099511627776 then v.n else n
def XF (L:List (List Yb)):Int:=L.flatten.foldl Yk 0
def Za.aM (a:Za)(m:Zb):Bool:=decide (a.st.waits≠⟨#[]⟩/\m.kind=a.st.waits/\m.aP=a.name/\m.key=a.key/\m.op=a.op/\m.config=a.config)&&(Xu a.c.L m.from_&&!Xu a.from_ m.from_)
def Za.heard (a:Za)(m:Zb):Za:={a with from_:=a.from_++ [m.from_],L:=a.L++ [m.L]}
def Za.gW (a:Za):Za:=if a.put then {a with tag:=(XF a.L+1,a.who),found:=ar}else {a with tag:=(Ys a.c.n.toNat a.c.k.toNat (Xq a.from_ a.L a.c.L).flatten (Xq a.from_ a.L a.c.L).flatten).1,text:=(Ys a.c.n.toNat a.c.k.toNat (Xq a.from_ a.L a.c.L).flatten (Xq a.from_ a.L a.c.L).flatten).2.1,found:=(Ys a.c.n.toNat a.c.k.toNat (Xq a.from_ a.L a.c.L).flatten (Xq a.from_ a.L a.c.L).flatten).2.2}
def Za.keeps (a:Za):Za:=if a.aI then {a with st:=.keeping,from_:=[],L:=[],c:=a.next,config:=a.config+1}else {a with st:=.keeping,from_:=[],L:=[]}
def Za.aD (a:Za)(m:Zb):Za×List Zb :=
 if a.aM m=ap then(a,[])
 else if m.shut=ar/\a.st≠.sealing then({a with st:=.refused},[])
 else if(a.heard m).from_.length<Jh a.c then(a.heard m,[])
 else if a.st=.keeping then({a.heard m with st:=.done},[])
 else if(a.heard m).gW.found=ap then({(a.heard m).gW with st:=.done},[])
 else((a.heard m).gW.keeps,(a.heard m).gW.keeps.send JJ ar)
def eU (w:World)(p:Option zf)(LL:List (List Yb)):Prop :=
 LL=[]∨∃b o,p=ac ⟨b,o,N⟩/\b<w.heap.size/\∀i,i<LL.length->∃q c,w.cell? ⟨b,o+i,N⟩=ac (.slice q (LL.getD i []).length c)/\Ql Ze w q (LL.getD i [])/\(LL.getD i []).length<=c/\(q=N->LL.getD i []=[]/\c=0)
theorem eU.below (h:eU w p LL)(B:ag w.heap.size w w'):eU w' p LL:=by
 rcases h with h|⟨b,o,H,D,I⟩
 ·exact bn h
 ·refine zc ⟨b,o,H,ak D B.size,fun i J=>?_⟩;obtain⟨q,c,K,O,U,Z⟩:=I i J;exact⟨q,c,(B.cell (p:=⟨b,o+i,N⟩) D).trans K,O.below B,U,Z⟩
theorem JfJ (B:i<LL.length):(LL.take (i+1)).flatten=(LL.take i).flatten++LL.getD i []:=by
 rw[ah B,av,aa,ae B];simp
theorem OG (LL:List (List Yb))(i:Nat):(LL.take i).flatten.length<=LL.flatten.length:=by
 have h:LL.flatten=(LL.take i).flatten++(LL.drop i).flatten:=by rw[<-av,List.take_append_drop]
 rw[h,al];omega
theorem NM {α:Type}{E:eW α}{q:Option zf}{l:List α}{row:Option Nat}(h:Ql E w q l)(H:w.grownBy w' row)(O:∀b o,q=ac ⟨b,o,N⟩->ac b≠row):Ql E w' q l:=by
 rcases h with h|⟨b,o,B,D,I⟩
 ·exact bn h
 ·exact zc ⟨b,o,B,ak D H.size,fun i x J j u K=>(World.cell?_of_block (a:=⟨b,o+i*E.k+j,N⟩) (H.block b D (O _ _ B))).trans (I i x J j u K)⟩
theorem VU:(Tryz.prog.info? 116).map (fun i=>(i.zero,i.size,i.bytes))=ac (ac (.slice N 0 0),1,24):=by kernel_rfl
section
def Zq (w:World)(B:Nat)(v:ay)(l:List BA):Prop:=JM w B 9 v (l.map Value.string)
theorem Zq.nil (w:World)(B:Nat):Zq w B (.slice N 0 0) []:=JM.nil w B _
theorem Zq.block {v:ay}(h:Zq w B v l)(D:v.ownBlock=ac k):B<=k/\k<w.heap.size:=JM.block h D
theorem Zq.form {v:ay}(h:Zq w B v l):∃p c,v=.slice p l.length c/\Xi w p l/\l.length<=c/\(p=N->c=0)/\∀b o,p=ac ⟨b,o,N⟩->B<=b/\b<w.heap.size:=by
 have J:=JM.cells h;have K:=h;rcases K.2 with⟨rfl,O⟩|⟨g,cap,a2,rfl,U,Z,D,a3,a4,a5⟩
 ·have e:l=[]:=by simpa using O
  subst e;exact⟨N,0,rfl,bn rfl,az _,fun _=>rfl,fun _ _ h=>by cases h⟩
 ·rw[af]at D ⊢;have H:=(Array.getElem?_eq_some_iff.1 Z).1;refine⟨ac ⟨g,0,N⟩,cap,rfl,zc ⟨g,0,rfl,H,fun i I=>?_⟩,D,fun h=>(by cases h),fun b o h=>?_⟩
  ·rcases J with⟨h1,_⟩|⟨g',a6,hv,_,_,hc⟩
   ·cases h1
   ·have a0:g=g':=by
     have:=congrArg Value.ownBlock hv;simpa[Value.ownBlock]using this
    subst a0;rw[aN,hc i (.string (Yc l i)) (by rw[ai,ae I,Xk l i I];rfl)]
  ·obtain⟨rfl,rfl⟩:g=b/\0=o:=by simpa using h
   exact⟨U,H⟩
theorem Zq.base {v:ay}(h:Zq w B v l)(U:B'<=B):Zq w B' v l:=by
 obtain⟨H,D⟩:=h;refine⟨H,?_⟩;rcases D with D|⟨g,cap,I,J,K,O⟩
 ·exact bn D
 ·exact zc ⟨g,cap,I,J,aE U K,O⟩
theorem Zq.kept {v:ay}(h:Zq w B v l)(D:ag w.heap.size w w'):Zq w' B v l :=
 JM.kept (row:=N) h ⟨D.os,D.tape,D.output,D.size,fun k H _=>D.block k H⟩ (by cases v.ownBlock<;>simp)
section
variable {w:World}
theorem JfI {ops:Array Oper}{rest:List Oper}{o:Oper}{a:Act}{Q:Exit->Act->World->Prop}(a0:o.guard=N)(s x:Operand)
 (ho:o.op=.call {callee:=.builtin .append,args:=#[s,x],argTypes:=#[22,22]})
 (B:Nat) (v:ay) (l:List BA) (hs:a.eval s=v) (H:Zq w B v l) (ad:zf) (t:BA) (c:Nat) (hx:a.eval x=.slice (ac ad) 1 c) (hq:w.cell? ad=ac (.string t)) (hl:l.length+1<=1000000) (I:B<=w.heap.size)
 (h:∀D w',Zq w' B D (l++ [t])->ag B w w'->wpList Tryz.prog ops Q rest (a.put o.dst D) w'):wpList Tryz.prog ops Q (o::rest) a w:=by
 obtain⟨J,K,O,U,Z⟩:=info_parts (P:=Tryz.prog) (e:=9) (z:=.string ⟨#[]⟩) (size:=1) (bytes:=16) (by kernel_rfl);refine yL a0 s x _ ho B 9 J (.string ⟨#[]⟩) 16 Tryz.underlying22 K O rfl U Z (by decide) v (l.map Value.string) hs H ad c (.string t) rfl hx hq (by rw[af];exact hl) I fun D w' h1 h2 _=>h D w' ?_ (bR.grown h2 I (fun k hk=>(H.block hk).1))
 unfold Zq;rw[au];exact h1
end
end
def iE (c:Xg)(B:ay):Value:=.agg #[.int .i64 c.n,.int .i64 c.k,B]
structure Zp (w:World) (ad:Nat->zf):Prop where
 c1:w.cell? ⟨4,0,N⟩=ac (.iface 335 (.pointer (ac (ad 1))))
 c2:w.cell? ⟨5,0,N⟩=ac (.iface 335 (.pointer (ac (ad 2))))
 c3:w.cell? ⟨6,0,N⟩=ac (.iface 335 (.pointer (ac (ad 3))))
 c4:w.cell? ⟨1,0,N⟩=ac (.iface 335 (.pointer (ac (ad 4))))
 c5:w.cell? ⟨2,0,N⟩=ac (.iface 335 (.pointer (ac (ad 5))))
theorem Zp.below (h:Zp w ad)(B:ag w.heap.size w w'):Zp w' ad where
 c1:=(B.cell (Yl h.c1)).trans h.c1
 c2:=(B.cell (Yl h.c2)).trans h.c2
 c3:=(B.cell (Yl h.c3)).trans h.c3
 c4:=(B.cell (Yl h.c4)).trans h.c4
 c5:=(B.cell (Yl h.c5)).trans h.c5
def Jt5 (c:Xg):Prop:=(-9223372036854775808<=c.n/\c.n<=9223372036854775807)/\-9223372036854775808<=c.k/\c.k<=9223372036854775807
structure Yn (w:World) (c:Xg) (p:Option zf) (cap:Nat):Prop where
 strs:Xi w p c.L
 room:c.L.length<=cap
 empty:p=N->c.L=[]/\cap=0
 len:c.L.length<=1000
 size:∀x∈c.L,x.size<=1000
 ints:Jt5 c
theorem Yn.below {c:Xg}{cap:Nat}(h:Yn w c p cap)(B:ag w.heap.size w w'):Yn w' c p cap:=⟨h.strs.below B,h.room,h.empty,h.len,h.size,h.ints⟩
theorem Jd.isNil {B:ay}{at_:Int}(h:Jd w ad B 0 at_):B=.nilIface:=by
 rcases h with⟨h,_⟩|⟨i,_,_,h,_⟩|⟨i,_,_,_,h,_⟩
 ·exact h
 ·omega
 ·omega
section
variable {w w':World} {B:Nat} {S:Nat->Prop} {ab:Nat} {a:Za} {mv nv fv lv:ay} {vs:List ay}
theorem Jtn {w:World}{D:Array ay}{t:zk}(h:w.heap[b]?=ac (.cells D t (0,0)))(i:Nat)(v:ay):(w.setCell ⟨b,i,N⟩ v).heap[b]?=ac (.cells (D.setIfInBounds i v) t (0,0)):=by
 simp[aJ,Array.getElem?_modify,h]
end
section
variable {w w1 w3:World} {B:Nat} {S:Nat->Prop} {ab:Nat} {a:Za} {mv nv fv lv:ay} {vs:List ay}
end
theorem Yd.trans {S J K:Nat->Prop}{O U:World}(B:Yd S J w O)(D:Yd J K O U):Yd S K w U :=
 ⟨D.os.trans B.os,D.tape.trans B.tape,D.output.trans B.output,aE B.size D.size,fun k H I=>(D.block k (ak H B.size) (fun h=>(B.new k h).elim I (by omega))).trans (B.block k H I),fun k H=>(D.new k H).elim (B.new k) (fun h=>zc (aE B.size h))⟩
def pD (B:Nat)(w:World)(p:Option zf)(l:List Zb):Prop:=∃D:List (Zb×Lv),D.map aw=l/\Ql mE w p D/\(∀x∈D,Jn w x/\∀b o,x.2.1=ac ⟨b,o,N⟩->B<=b)/\∀b o,p=ac ⟨b,o,N⟩->B<=b
def iU (O:Nat->Prop)(w:World)(p:Option zf)(l:List Zb):Prop:=∃B:List (Zb×Lv),B.map aw=l/\Ql mE w p B/\(∀x∈B,Jn w x/\∀b o,x.2.1=ac ⟨b,o,N⟩->O b)/\∀b o,p=ac ⟨b,o,N⟩->O b
theorem iU.mono {l:List Zb}(h:iU O w p l)(H:∀b,O b->O' b):iU O' w p l:=by
 obtain⟨I,J,K,B,U⟩:=h;exact⟨I,J,K,fun x D=>⟨(B x D).1,fun b o e=>H b ((B x D).2 b o e)⟩,fun b o e=>H b (U b o e)⟩
theorem iU.new {l:List Zb}(h:iU O w p l)(D:∀b,O b->B<=b):pD B w p l:=h.mono D
theorem iU.nil (O:Nat->Prop)(w:World):iU O w N []:=⟨[],rfl,Ql.nil _ _,(fun x B=>by cases B),(fun b o e=>by cases e)⟩
structure QE (c B:Nat) (w:World) (p:Option zf) (l:List Zb):Prop where
 msgs:iU (fun b=>B<=b/\b<w.heap.size) w p l
 room:l.length<=c
 empty:p=N->l.length=0/\c=0
structure Qp (c:Nat) (O:Nat->Prop) (w:World) (p:Option zf) (l:List Zb):Prop where
 msgs:iU O w p l
 room:l.length<=c
 empty:p=N->l.length=0/\c=0
theorem QE.n {l:List Zb}(h:QE c B w p l):pD B w p l:=h.msgs.new (fun _ D=>D.1)
theorem Qp.nil (O:Nat->Prop)(w:World):Qp 0 O w N []:=⟨iU.nil _ _,az _,fun _=>⟨rfl,rfl⟩⟩
theorem QE.mono {l:List Zb}(h:QE c B w p l)(H:B'<=B):QE c B' w p l:=⟨h.msgs.mono (fun _ D=>⟨aE H D.1,D.2⟩),h.room,h.empty⟩
theorem Qp.mono {l:List Zb}(h:Qp c O w p l)(B:∀b,O b->O' b):Qp c O' w p l:=⟨h.msgs.mono B,h.room,h.empty⟩
theorem QE.out {l:List Zb}(h:QE c B w p l)(H:∀b,B<=b->b<w.heap.size->O b):Qp c O w p l:=⟨h.msgs.mono (fun b D=>H b D.1 D.2),h.room,h.empty⟩
theorem Qp.new {l:List Zb}(h:Qp c O w p l)(D:∀b,O b->B<=b):pD B w p l:=h.msgs.new D
theorem Qc {B:Array ay}{t:zk}(h:w.heap[b]?=ac (.cells B t (0,0)))(i:Nat)(v:ay):(w.setCell ⟨b,i,N⟩ v).heap[b]?=ac (.cells (B.setIfInBounds i v) t (0,0)):=by
 simp[aJ,Array.getElem?_modify,h]
theorem I2 {T:zk}{n:Nat}{x:Zb}(h:Zc Ze T w B (.slice p n c) x.L):Jn w (x,(p,n,c)):=by
 obtain⟨U,Z,e,D,H,I,_⟩:=h.form;injection e with J K O
 subst J K O;exact⟨rfl,D,H,I⟩
theorem lM {s:BA}(h:s∈l):ZJ l s<l.length:=by
 unfold ZJ;exact an ⟨s,h,by simp⟩
def QK (a:Za)(x:BA):List Yb:=a.L.getD (ZJ a.from_ x) []
def Zt (x:Int):Prop:=-9223372036854775808<=x/\x<=9223372036854775807
def Za.small (a:Za)(m:Zb):Prop:=a.L.flatten.length+m.L.length<=1000/\m.from_.size<=6000/\∀v∈m.L,v.text.size<=6000
def Yt (a:Za)(l:List BA):List (List Yb):=l.map fun x=>if Xu a.from_ x then QK a x else []
theorem NH {a:Za}(h:i<l.length):Yt a (l.take (i+1))=Yt a (l.take i)++ [if Xu a.from_ (Yc l i)then QK a (Yc l i)else []]:=by
 unfold Yt;rw[ah h,au,Xk l i h];rfl
theorem B7 (a:Za):∀l:List BA,(Yt a l).flatten=(Xq a.from_ a.L l).flatten
 | []=>rfl
 |x::l=>by
  have ih:=B7 a l;unfold Yt at ih ⊢;rw[aB,aA,ih];by_cases h:Xu a.from_ x=ar
  ·have B:Xq a.from_ a.L (x::l)=a.L.getD (ZJ a.from_ x) []::Xq a.from_ a.L l:=if_pos h;rw[if_pos h,B,aA];rfl
  ·have B:Xq a.from_ a.L (x::l)=Xq a.from_ a.L l:=if_neg h;rw[if_neg h,B,List.nil_append]
theorem GF (B:y∈F):ZJ (F++ [x]) y=ZJ F y:=by
 unfold ZJ;rw[zb];rw[if_pos (an ⟨y,B,by simp⟩)]
theorem D4 (D:x∉F):ZJ (F++ [x]) x=F.length:=by
 unfold ZJ;rw[zb];have h:List.findIdx (fun z=>decide (z=x)) F=F.length:=by
  rw[List.findIdx_eq_length];intro z B;exact decide_eq_false (fun e=>D (e▸B))
 rw[if_neg (by omega)];simp
theorem JrW {a:Za}(D:a.from_.length=a.L.length)(B:y∈a.from_):QK (a.heard m) y=QK a y:=by
 unfold QK Za.heard;show(a.L++ [m.L]).getD (ZJ (a.from_++ [m.from_]) y) []=_;rw[GF B,aa,aa,List.getElem?_append_left (by rw[<-D];exact lM B)]
theorem JrX {a:Za}(B:a.from_.length=a.L.length)(D:m.from_∉a.from_):QK (a.heard m) m.from_=m.L:=by
 unfold QK Za.heard;show(a.L++ [m.L]).getD (ZJ (a.from_++ [m.from_]) m.from_) []=_;rw[D4 D,B,aa,List.getElem?_append_right nR,Nat.sub_self];rfl
theorem vU (H:F.Nodup)(B:i<F.length):ZJ F F[i]=i:=DQ B (Xk F i B) fun j D e=>by
 rw[Xk F j (by omega)]at e;exact List.pairwise_iff_getElem.1 H j i (by omega) B D e
theorem J4 {a:Za}(O:a.from_.length=a.L.length)(U:a.from_.Nodup)(Z:∀x∈a.from_,x∈a.c.L)(v:Yb):v∈(Yt a a.c.L).flatten↔v∈a.L.flatten:=by
 simp only[List.mem_flatten];constructor
 ·rintro⟨l,H,B⟩;unfold Yt at H;obtain⟨x,hx,rfl⟩:=am.1 H;by_cases D:Xu a.from_ x=ar
  ·rw[if_pos D]at B;have I:ZJ a.from_ x<a.L.length:=by rw[<-O];exact lM (Zl.1 D)
   refine⟨QK a x,?_,B⟩;unfold QK;rw[aa,ae I];exact aj I
  ·rw[if_neg D]at B;cases B
 ·rintro⟨l,H,B⟩;obtain⟨i,D,rfl⟩:=List.getElem_of_mem H;have J:i<a.from_.length:=by omega
  have K:=aj J;refine⟨QK a a.from_[i],?_,?_⟩
  ·unfold Yt;refine am.2 ⟨a.from_[i],Z _ K,?_⟩;rw[if_pos (Zl.2 K)]
  ·unfold QK;rw[vU U J,aa,ae D];exact B
theorem YE (a:Za):a.gW.c=a.c/\a.gW.key=a.key/\a.gW.name=a.name/\a.gW.aI=a.aI/\a.gW.who=a.who/\a.gW.op=a.op/\a.gW.config=a.config/\a.gW.st=a.st/\a.gW.from_=a.from_/\a.gW.L=a.L/\a.gW.put=a.put:=by
 unfold Za.gW;split<;>exact⟨rfl,rfl,rfl,rfl,rfl,rfl,rfl,rfl,rfl,rfl,rfl⟩
theorem tH (h:x∈F):F[ZJ F x]'(lM h)=x:=by
 have:=List.findIdx_getElem (p:=fun z=>decide (z=x)) (xs:=F) (w:=lM h);exact of_decide_eq_true this
theorem xO (f:Nat->Nat):∀(n:Nat) (I:List Nat),I.Nodup->(∀i∈I,i<n)->(I.map f).sum<=((ax n).map f).sum
 |0,I,_,h=>by
  cases I with
  |nil=>exact az _
  |cons i I=>exact absurd (h i (by simp)) (Nat.not_lt_zero _)
 |n+1,I,hn,h=>by
  rw[List.range_succ,au,List.sum_append];by_cases D:n∈I
  ·have J:I.Perm (n::I.erase n):=List.perm_cons_erase D;have e:(I.map f).sum=f n+((I.erase n).map f).sum:=by
    rw[(J.map f).sum_nat,aB,bi]
   have:=xO f n (I.erase n) (hn.erase n) (fun i B=>by
    have H:=(List.Nodup.mem_erase_iff hn).1 B;have:=h i H.2;have:=H.1;omega)
   simp;omega
  ·have:=xO f n I hn (fun i B=>by
    have:=h i B;have:i≠n:=fun e=>D (e▸B)
    omega)
   omega
theorem JrZ (L:List (List Yb)):L.flatten.length=((ax L.length).map fun i=>(L.getD i []).length).sum:=by
 rw[List.length_flatten]
 congr 1
 refine List.ext_getElem (by simp) fun i B D=>?_
 simp at B;simp[ae B]
theorem AU {a:Za}(hb:a.from_.length=a.L.length)(hn:a.from_.Nodup):∀l:List BA,l.Nodup->∃I:List Nat,I.Nodup/\(∀i∈I,i<a.L.length)/\(∀i∈I,∃x∈l,x∈a.from_/\i=ZJ a.from_ x)/\(Yt a l).flatten.length=(I.map fun i=>(a.L.getD i []).length).sum
 | [],_=>⟨[],zi,(fun i D=>by cases D),(fun i D=>by cases D),rfl⟩
 |x::l,h=>by
  obtain⟨hx,hl⟩:=aW.1 h;obtain⟨I,O,U,J,Z⟩:=AU hb hn l hl;have e:(Yt a (x::l)).flatten.length=(if Xu a.from_ x then QK a x else []).length+(Yt a l).flatten.length:=by
   unfold Yt;rw[aB,aA,al]
  by_cases D:Xu a.from_ x=ar
  ·have K:=Zl.1 D;refine⟨ZJ a.from_ x::I,aW.2 ⟨fun hI=>?_,O⟩,?_,?_,?_⟩
   ·obtain⟨y,H,a0,he⟩:=J _ hI;have ex:=tH K;have ey:=tH a0;have:x=y:=by rw[<-ex,<-ey];simp only[he]
    exact hx (this▸H)
   ·intro i B;rcases bj.1 B with rfl|B
    ·rw[<-hb];exact lM K
    ·exact U i B
   ·intro i B;rcases bj.1 B with rfl|B
    ·exact⟨x,by simp,K,rfl⟩
    ·obtain⟨y,H,g⟩:=J i B;exact⟨y,by simp[H],g⟩
   ·rw[e,if_pos D,Z,aB,bi];rfl
  ·refine⟨I,O,U,fun i B=>?_,?_⟩
   ·obtain⟨y,H,g⟩:=J i B;exact⟨y,by simp[H],g⟩
   ·rw[e,if_neg D,Z];simp
theorem PH {a:Za}(J:a.from_.length=a.L.length)(K:a.from_.Nodup)(O:l.Nodup):(Yt a l).flatten.length<=a.L.flatten.length:=by
 obtain⟨I,B,D,_,H⟩:=AU J K l O;rw[H,JrZ];exact xO _ _ I B D
theorem EM {a:Za}(h:a.small m):m.from_.size<=6000/\m.L.length<=1000/\(∀v∈m.L,v.text.size<=6000)/\a.L.flatten.length<=1000/\(a.heard m).L.flatten.length<=1000:=by
 obtain⟨H,B,D⟩:=h;have I:(a.heard m).L.flatten.length=a.L.flatten.length+m.L.length:=by
  show(a.L++ [m.L]).flatten.length=_;rw[av,al];simp
 exact⟨B,by omega,D,by omega,by omega⟩
end Go.Proofs.YtfgapcknnoeplaaGreatDoor

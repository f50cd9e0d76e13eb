/- Texts laid together. -/
import Derived.Test.YtppcijpgalaohaaGreatDoorGc3
import Derived.StillTailTactics
import Derived.Lib.AppendZerosOnto
import Derived.Deep.OwnRows
import Derived.Laws.RangeAny
set_option maxRecDepth 10000
set_option maxHeartbeats 8000000
open Option renaming none->aa,some->ab
open Go.RowKit renaming Below->ac
open Nat renaming le_refl->ae,lt_or_ge->aj,zero_le->ak,not_lt_zero->ap,lt_of_lt_of_le->au,zero_add->aO,le_trans->aP,mod_eq_of_lt->aR,mod_lt->br
open Go.RowKit.Below renaming refl->af
open Bool renaming eq_false_iff->ag,true->aB,false->aG
open Go renaming Calls->ah,Addr->av,madeCells->az,Value->aA,wp_region_still_tail->aE,below_drewN->aF,grownCap->zc,info_parts->zk,maxLen->bi,wpList->bu
open List renaming getElem?_eq_getElem->ai,getElem?_eq_some_iff->al,length_take->am,length_drop->an,length_append->ao,take_succ_cons->aI,getElem_of_mem->aJ,drop_succ_cons->zb,getElem_mem->aS,take_zero->zg,mem_range->aY,drop_zero->zj,mem_map->bh
open Go.Builtin renaming zeroCells->aq
open Go.World renaming cell?_alloc_at->ar,cell?->zd
open Or renaming inl->aw,inr->ax
open Array renaming length_toList->ay,getElem?_eq_none->aC,extract_size->aM
namespace Go.Proofs.YtppcijpgalaohaaGreatDoor
open Go.Proofs.Tryz
open Go.RowKit
variable {a b B g o:Nat}{x y:ByteArray}{d w f s:World}{n:Int}{v:aA}{ad:Nat->av}{l:List ByteArray}
section
open Ring Go.Sort
abbrev Pt:=Nat×ByteArray×Nat
def QS (x:Pt):List Value:=[.int .u32 (x.1:Int),.string x.2.1,.int .i64 (x.2.2:Int)]
def pE:eW Pt where
 k:=3
 pos:=by decide
 enc:=QS
 len:=fun _=>rfl
 one:=fun x u d=>by
  simp [QS] at d
  rcases d with rfl | rfl | rfl <;> rfl
def kO (p q:Pt):Int:=mG (JP p.1 q.1) (gK p.2.1 q.2.1) (JP p.2.2 q.2.2)
def nn (p:Pt):Nat×ByteArray:=(p.1,p.2.1)
def j8 (p q:Pt):Prop:=eV (nn p) (nn q)∨nn p=nn q/\p.2.2 < q.2.2
theorem DH :JP a b < 0↔a < b:=by
 unfold JP
 split
 ·rename_i h;exact ⟨fun _=>h,fun _=>by decide⟩
 ·rename_i h
  split
  ·exact ⟨fun d=>absurd d (by decide),fun d=>absurd d h⟩
  ·exact ⟨fun d=>absurd d (by decide),fun d=>absurd d h⟩
theorem AS :JP a b=0↔a=b:=by
 unfold JP
 split
 ·rename_i h;exact ⟨fun d=>absurd d (by decide),fun d=>by omega⟩
 ·split
  ·exact ⟨fun d=>absurd d (by decide),fun d=>by omega⟩
  ·exact ⟨fun _=>by omega,fun _=>rfl⟩
theorem H2 :gK x y < 0↔bl x y:=by
 unfold gK bl
 split
 ·rename_i h;exact ⟨fun _=>h,fun _=>by decide⟩
 ·rename_i h
  split
  ·exact ⟨fun d=>absurd d (by decide),fun d=>absurd d h⟩
  ·exact ⟨fun d=>absurd d (by decide),fun d=>absurd d h⟩
theorem GK :gK x y=0↔x=y:=by
 unfold gK
 split
 ·rename_i h
  exact ⟨fun d=>absurd d (by decide),fun d=>by rw [d,qM] at h;cases h⟩
 ·rename_i h
  split
  ·rename_i f
   exact ⟨fun d=>absurd d (by decide),fun d=>by rw [d,qM] at f;cases f⟩
  ·rename_i f
   refine ⟨fun _=>Classical.byContradiction fun o=>?_,fun _=>rfl⟩
   rcases FE o with j | j
   ·exact h j
   ·exact f j
theorem LP {p q:Pt}:kO p q < 0↔j8 p q:=by
 unfold kO mG j8 eV nn
 by_cases f:p.1=q.1
 ·rw [if_neg (fun h=>h (AS.2 f))]
  by_cases j:p.2.1=q.2.1
  ·rw [if_neg (fun h=>h (GK.2 j)),DH]
   constructor
   ·intro d
    exact ax ⟨by rw [f,j],d⟩
   ·rintro ((d | ⟨_,d⟩) | ⟨_,d⟩)
    ·have o:p.1 < q.1:=d
     omega
    ·have o:bl p.2.1 q.2.1:=d
     rw [j] at o
     exact absurd o (xD _)
    ·exact d
  ·rw [if_pos (fun h=>j (GK.1 h)),H2]
   constructor
   ·intro d
    exact aw (ax ⟨f,d⟩)
   ·rintro ((d | ⟨_,d⟩) | ⟨d,_⟩)
    ·have o:p.1 < q.1:=d
     omega
    ·exact d
    ·exact absurd (congrArg Prod.snd d) j
 ·rw [if_pos (fun h=>f (AS.1 h)),DH]
  constructor
  ·intro d
   exact aw (aw d)
  ·rintro ((d | ⟨d,_⟩) | ⟨d,_⟩)
   ·exact d
   ·exact absurd d f
   ·exact absurd (congrArg Prod.fst d) f
theorem J9 {p q:Pt}:ltOf kO p q=aB↔j8 p q:=by
 unfold ltOf
 rw [decide_eq_true_iff]
 exact LP
theorem PE (p:Pt):¬ j8 p p:=by
 rintro (h | ⟨_,h⟩)
 ·exact vM _ h
 ·exact Nat.lt_irrefl _ h
theorem GW {p q r:Pt} (f:j8 p q) (d:j8 q r):j8 p r:=by
 rcases f with f | ⟨j,f⟩
 ·rcases d with d | ⟨h,_⟩
  ·exact aw (FA f d)
  ·exact aw (by rw [<- h];exact f)
 ·rcases d with d | ⟨h,d⟩
  ·exact aw (by rw [j];exact d)
  ·exact ax ⟨j.trans h,by omega⟩
theorem JsJ {p q r:Pt} (j:¬ j8 p q) (h:¬ j8 q r):¬ j8 p r:=fun f=>by
 by_cases e:nn p=nn q
 ·have s : q.2.2 <= p.2.2 := by
   rcases aj p.2.2 q.2.2 with d | d
   ·exact absurd (ax ⟨e,d⟩) j
   ·exact d
  rcases f with f | ⟨o,f⟩
  ·exact h (aw (by rw [<- e];exact f))
  ·exact h (ax ⟨e.symm.trans o,by omega⟩)
 ·rcases wZ e with d | d
  ·exact j (aw d)
  ·exact h (GW (aw d) f)
theorem x1:SWO (ltOf kO) where
 irrefl x:=ag.2 fun h=>PE x (J9.1 h)
 trans x y z h1 h2:=J9.2 (GW (J9.1 h1) (J9.1 h2))
 ntrans x y z h1 h2:=ag.2 fun h=>JsJ (fun d=>by rw [J9.2 d] at h1;cases h1) (fun d=>by rw [J9.2 d] at h2;cases h2) (J9.1 h)
theorem z7 (p q:Pt) (W:World):ah prog 49 #[.agg (QS p).toArray,.agg (QS q).toArray] W fun e f=>e=.returned (.int .i64 (kO p q))/\∃ n os,f=grow (W.drewN n) os:=by
 obtain ⟨a,x,i⟩:=p
 obtain ⟨b,y,j⟩:=q
 obtain ⟨d,o⟩:∃ d,d=(W.alloc (.cells #[.int .u32 (a:Int),.string x,.int .i64 (i:Int)] 92)).alloc (.cells #[.int .u32 (b:Int),.string y,.int .i64 (j:Int)] 92):=⟨_,rfl⟩
 have G:Hid (∃ os,d=grow W os):=⟨_,by rw [o,alloc_eq_grow,alloc_eq_grow,grow_grow]⟩
 have H:d.cell? ⟨W.heap.size,0,aa⟩=ab (.int .u32 (a:Int)):=by rw [o];simp
 have I:d.cell? ⟨W.heap.size,1,aa⟩=ab (.string x):=by rw [o];simp
 have J:d.cell? ⟨W.heap.size,2,aa⟩=ab (.int .i64 (i:Int)):=by rw [o];simp
 have K:d.cell? ⟨W.heap.size+1,0,aa⟩=ab (.int .u32 (b:Int)):=by rw [o];simp
 have L:d.cell? ⟨W.heap.size+1,1,aa⟩=ab (.string y):=by rw [o];simp
 have M:d.cell? ⟨W.heap.size+1,2,aa⟩=ab (.int .i64 (j:Int)):=by rw [o];simp
 have B:Hid (d=(W.alloc (.cells #[.int .u32 (a:Int),.string x,.int .i64 (i:Int)] 92)).alloc (.cells #[.int .u32 (b:Int),.string y,.int .i64 (j:Int)] 92)):=o
 clear o
 show ah prog 49 #[.agg #[.int .u32 (a:Int),.string x,.int .i64 (i:Int)],.agg #[.int .u32 (b:Int),.string y,.int .i64 (j:Int)]] W fun e f=>e=.returned (.int .i64 (mG (JP a b) (gK x y) (JP i j)))/\∃ n os,f=grow (W.drewN n) os
 have c1:=fun W=>U6 a b W
 have c2:=fun W=>LW x y W
 have c3:=fun W=>U3 i j W
 have c4:=fun g W N O Q=>OH g 0 (JP a b) (gK x y) (JP i j) W N O Q
 generalize JP a b=s at *
 generalize gK x y=t at *
 generalize JP i j=A at *
 generalize mG s t A=r at *
 have R:Hid (∀ W,ah prog 51 #[.int .u32 (a:Int),.int .u32 (b:Int)] W fun e f=>e=.returned (.int .i64 s)/\f=W):=c1
 have S:Hid (∀ W,ah prog 52 #[.string x,.string y] W fun e f=>e=.returned (.int .i64 t)/\f=W):=c2
 have T:Hid (∀ W,ah prog 53 #[.int .i64 (i:Int),.int .i64 (j:Int)] W fun e f=>e=.returned (.int .i64 A)/\f=W):=c3
 have U:Hid (∀ g W,W.cell? ⟨g,0,aa⟩=ab (.int .i64 s)->W.cell? ⟨g,1,aa⟩=ab (.int .i64 t)->W.cell? ⟨g,2,aa⟩=ab (.int .i64 A)->ah prog 50 #[.slice (ab ⟨g,0,aa⟩) 3 3] W fun e f=>e=.returned (.int .i64 r)/\f=W):=c4
 clear c1 c2 c3 c4
 go_enter func49,ntmps49
 go_wp2
 rw [<- B.out]
 clear B
 refine aE 15 (by kernel_rfl) (by kernel_rfl) ?_
 simp only [aI,zg,zb,zj]
 still_step
 still_step
 still_step
 still_step
 still_call (R.out _)
 still_step
 still_step
 still_step
 still_step
 still_call (S.out _)
 still_step
 still_step
 still_step
 still_step
 still_call (T.out _)
 refine wpStill_nil ?_
 change bu _ _ _ _ _ (d.drewN 1)
 have D:Hid (∃ os,d.drewN 1=grow (W.drewN 1) os):=by
  obtain ⟨os,h⟩:=G.out
  exact ⟨os,by rw [h];rfl⟩
 generalize d.drewN 1=V at D ⊢
 clear H I J K L M
 go_wp2_with (go_at_call 50;refine (U.out _ _ (by simp) (by simp) (by simp)).mono ?_;rintro e f ⟨rfl,rfl⟩)
 go_ret
 obtain ⟨os,h⟩:=D.out
 exact ⟨rfl,1,_,by rw [h,alloc_eq_grow,grow_grow]⟩
theorem JsK (d f size:Nat) (w:World):CmpLays prog 49 #[] QS 3 kO d f size w:=fun _ _ _ _ x y=>z7 x y _
end
section
open Ring Go.Sort
theorem UA (k:Nat) (d:k < 8):(⟨(Lib.decDigits k).toArray⟩:ByteArray)=Jp [48+k]:=by
 rcases (show k=0∨k=1∨k=2∨k=3∨k=4∨k=5∨k=6∨k=7 by omega) with rfl | rfl | rfl | rfl | rfl | rfl | rfl | rfl <;> (unfold Lib.decDigits;rfl)
def tV (d:List ByteArray) (j:Nat):Pt:=(kG (Yc d (j / 8)) (j % 8),Yc d (j / 8),j % 8)
def Xw (d:List ByteArray) (m:Nat):List Pt:=(List.range m).map (tV d)
theorem rB (d:List ByteArray) (m:Nat):(Xw d m).length=m:=by simp [Xw]
theorem NY (d:List ByteArray) (m:Nat):Xw d (m+1)=Xw d m ++ [tV d m]:=by simp [Xw,List.range_succ]
def XW (d:List Pt) (i:Nat):Nat×ByteArray:=nn (d.getD i (0,⟨#[]⟩,0))
theorem nV {d:List Pt} {i:Nat} (h:i < d.length):XW d i=nn d[i]:=by
 unfold XW
 rw [List.getD_eq_getElem?_getD,ai h]
 rfl
structure lG (nodes:List ByteArray) (ps:List Pt):Prop where
 len:ps.length=8*nodes.length
 sorted:∀ i j,i < j->j < ps.length->¬ eV (XW ps j) (XW ps i)
 mem:∀ i,i < ps.length->(XW ps i).2 ∈ nodes/\∃ k,k < 8/\(XW ps i).1=kG (XW ps i).2 k
 all:∀ x ∈ nodes,∀ k,k < 8->∃ i,i < ps.length/\XW ps i=(kG x k,x)
theorem R4 {d:List ByteArray} {f:Array Pt} (Q:PermIn 0 (Xw d (8*d.length)).toArray.size (Xw d (8*d.length)).toArray f) (R:SortedIn (ltOf kO) 0 (Xw d (8*d.length)).toArray.size f):lG d f.toList:=by
 obtain ⟨t,_,A⟩:=Q
 have B:f.size=8*d.length:=by rw [t];simp [rB]
 have H:(Xw d (8*d.length)).toArray.size=8*d.length:=by simp [rB]
 have D:f.toList.Perm (Xw d (8*d.length)):=by
  have I:f.extract 0 (Xw d (8*d.length)).toArray.size=f:=by rw [<- t];exact aM
  have J:(Xw d (8*d.length)).toArray.extract 0 (Xw d (8*d.length)).toArray.size=(Xw d (8*d.length)).toArray:=aM
  rw [I,J] at A
  exact A
 have K:f.toList.length=8*d.length:=by rw [ay,B]
 refine ⟨K,fun i j L o=>?_,fun i h=>?_,fun x M k S=>?_⟩
 ·have N:j < f.size:=by rw [B];omega
  have O:i < f.size:=by omega
  have:=R i j (ak _) L (by rw [H];omega)
  rw [getElem!_pos f j N,getElem!_pos f i O] at this
  rw [nV o,nV (by omega)]
  intro G
  rw [J9.2 (aw (by simpa using G))] at this
  cases this
 ·have s:f.toList[i] ∈ Xw d (8*d.length):=D.mem_iff.1 (aS h)
  rw [nV h]
  obtain ⟨j,o,e⟩:=bh.1 s
  rw [aY] at o
  rw [<- e]
  exact ⟨oQ (by omega),j % 8,br _ (by decide),rfl⟩
 ·obtain ⟨q,G,rfl⟩:=tF M
  have s:tV d (8*q+k) ∈ f.toList:=D.mem_iff.2 (bh.2 ⟨8*q+k,aY.2 (by omega),rfl⟩)
  obtain ⟨i,h,e⟩:=aJ s
  refine ⟨i,h,?_⟩
  rw [nV h,e]
  unfold nn tV
  rw [show (8*q+k) / 8=q by omega,show (8*q+k) % 8=k by omega]
theorem L8 {q:Nat} {l:List Pt} (h:Zc pE 92 w B (.slice (ab ⟨g,0,aa⟩) l.length q) l):HoldsK QS 3 w g 0 l.toArray:=by
 intro j f
 rw [size_flatK] at f
 have s:j < l.length*3:=by simpa using f
 have t:w.ownsRow B 92 pE.k (.slice (ab ⟨g,0,aa⟩) l.length q) l.length (Qb pE l):=h
 obtain ⟨O,A⟩:=h
 rcases A with ⟨D,_⟩ | ⟨G,Q,R,H,S,I,T,U,V,W⟩
 ·cases D
 obtain rfl:g=G:=by
  have:=congrArg Value.ownBlock H
  simpa [Value.ownBlock] using this
 refine ⟨?_,by simp [World.frozen?,I]⟩
 have o:j / 3 < l.length:=by omega
 have J:l[j / 3]?=ab l[j / 3]:=ai o
 have K:(QS l[j / 3])[j % 3]?=ab ((QS l[j / 3])[j % 3]'(by show j % 3 < 3;omega)):=ai (by show j % 3 < 3;omega)
 have L:=uH pE l (j / 3) _ J (j % 3) _ K
 have d:=World.ownsRow.cells (g:=g) t rfl _ _ L
 rw [Addr.add_lit] at d
 have M:j / 3*pE.k+j % 3=j:=by show j / 3*3+j % 3=j;omega
 rw [M] at d
 rw [d,get_flatK QS 3 l.toArray j (by simpa using s)]
 have N:l.toArray[j / 3]! = l[j / 3]:=by rw [getElem!_pos l.toArray (j / 3) (by simpa using o)];simp
 rw [N,getElem!_pos (QS l[j / 3]) (j % 3) (by show j % 3 < 3;omega)]
 rfl
theorem R6 {W:World} {n:Nat} {d:Array Pt} {os:Array Obj} (f:ac B w W) (j:B<=g) (o:B<=W.heap.size):ac B w (sortWorldK QS 3 W g 0 n d os):=by
 refine f.trans ⟨rfl,rfl,rfl,size_sortWorldK_c QS 3 W g 0 n d os,fun k h=>?_⟩
 unfold sortWorldK
 rw [heap_grow_old _ _ (by rw [show (putRowK QS 3 (Sort.ahead W n) g 0 d).heap.size=W.heap.size by simp [putRowK,putRow,mapBlock,Sort.ahead]];omega)]
 have:g≠k:=by omega
 simp [putRowK,putRow,mapBlock,Sort.ahead,Array.getElem?_modify,this]
theorem OS (p:Option av) (f:List ByteArray) (c:Nat) (w:World) (e0:1<=f.length) (g7:f.length<=16) (Q:∀ x ∈ f,x.size<=16) (hs:Strs w p f) :
 ah prog 34 #[.slice p f.length c] w fun e B=>(∃ g a3 s,e=.returned (.slice (ab ⟨g,0,aa⟩) s.length a3)/\s.length<=a3/\w.heap.size<=g/\Ql pE B (ab ⟨g,0,aa⟩) s/\lG f s)/\ac w.heap.size w B:=by
 have V:Hid (∀ i,i < f.length->(Yc f i).size<=16):=fun i hi=>Q _ (oQ hi)
 have Y:Hid (Strs w p f):=hs
 obtain ⟨b,o,rfl⟩:∃ b o,p=ab ⟨b,o,aa⟩:=by
  rcases hs with H | ⟨b,o,D,_⟩
  ·rw [H] at e0;exact absurd e0 (by decide)
  ·exact ⟨b,o,D⟩
 clear hs Q
 go_enter func34,ntmps34
 go_wp2
 go_loopw [3,9] (fun v x I=>∃ i:Nat,i<=f.length/\x=.int .i64 i/\Zc pE 92 I w.heap.size v (Xw f (8*i))/\ac w.heap.size w I) (fun _ x _=>f.length - (intOf x).toNat)
 case atStart=>exact ⟨0,ak _,rfl,Zc.nil _ _ _,af _ _⟩
 case round =>
  obtain ⟨i,hi,rfl,J,K⟩:=hrel
  obtain ⟨A,rfl⟩:∃ A,A=wr:=⟨_,rfl⟩
  obtain ⟨v,rfl⟩:∃ v,v=u3:=⟨_,rfl⟩
  have G:Hid (Zc pE 92 A w.heap.size v (Xw f (8*i))):=J
  have L:Hid (ac w.heap.size w A):=K
  clear J K
  by_cases R:i < f.length
  ·have q0 : A.cell? ⟨b, o + i, aa⟩ = ab (.string (Yc f i)) := by
    rcases (Y.out.below L.out) with H | ⟨b',o',D,_,e3⟩
    ·rw [H] at R;exact absurd R (ap _)
    ·obtain ⟨rfl,rfl⟩:b=b'/\o=o':=by simpa using D
     exact e3 i R
   have M:=V.out i R
   obtain ⟨t,Z⟩:∃ t,t=Yc f i:=⟨_,rfl⟩
   rw [<- Z] at q0 M
   have HT:Hid (t=Yc f i):=Z
   clear Z Y V
   go_wp2
   clear q0
   go_loopw [3,13] (fun v x I=>∃ k:Nat,k<=8/\x=.int .i64 k/\Zc pE 92 I w.heap.size v (Xw f (8*i+k))/\ac w.heap.size w I) (fun _ x _=>8 - (intOf x).toNat)
   case atStart=>exact ⟨0,by omega,rfl,G.out,L.out⟩
   case round =>
    obtain ⟨k,hk,rfl,J,K⟩:=hrel
    obtain ⟨q,rfl⟩:∃ q,q=wr:=⟨_,rfl⟩
    obtain ⟨v,rfl⟩:∃ v,v=u3:=⟨_,rfl⟩
    have a4:Hid (Zc pE 92 q w.heap.size v (Xw f (8*i+k))):=J
    have N:Hid (ac w.heap.size w q):=K
    have e4:Hid ((Xw f (8*i+k)).length=8*i+k):=rB _ _
    clear J K G L
    by_cases e5:k < 8
    ·have HN : Hid (Xw f (8 * i + (k + 1)) = Xw f (8 * i + k) ++ [(kG t k, t, k)]) := by
      show _=_
      rw [show 8*i+(k+1)=8*i+k+1 by omega,NY,HT.out]
      unfold tV
      rw [show (8*i+k) / 8=i by omega,show (8*i+k) % 8=k by omega]
     have a5:Hid (∀ W,ah prog 47 #[.int .i64 (k:Int)] W fun e B=>e=.returned (.string (Jp [48+k]))/\B=W):=fun W=>by
      have:=strconv_Itoa_small k (by omega) W
      rw [UA k e5] at this
      exact this
     have a8:Hid (∀ W,ah prog 37 #[.string (t ++ ⟨#[35]⟩ ++ Jp [48+k])] W fun e B=>e=.returned (.int .u32 ((kG t k:Nat):Int))/\B=W):=fun W=>IH _ W (by rw [ByteArray.size_append,ByteArray.size_append,xG];show _+1+1<=_;omega)
     have g3:(Jp [48+k]).size=1:=xG _
     generalize Xw f (8*i+k)=s at *
     generalize kG t k=m at *
     generalize Jp [48+k]=d at *
     have g4:¬ 9223372036854775807 < t.size+1:=by omega
     go_wp2_with fail
     refine (a5.out _).mono ?_
     rintro e w4 ⟨rfl,O⟩
     rw [O]
     clear O w4 a5
     go_wp2_with fail
     refine (a8.out _).mono ?_
     rintro e w4 ⟨rfl,O⟩
     rw [O]
     clear O w4 a8
     have f0:Hid (Zc pE 92 (q.alloc (.cells #[.int .u32 (m:Int),.string t,.int .i64 (k:Int)] 92)) w.heap.size v s):=a4.out.kept ((af _ _).alloc (ae _) _)
     have a9:Hid (ac w.heap.size w (q.alloc (.cells #[.int .u32 (m:Int),.string t,.int .i64 (k:Int)] 92))):=N.out.alloc N.out.size _
     have b1:Hid (s.length+1<=200):=by show _<=_;have:=e4.out;omega
     have f1:Hid (q.heap.size < (q.alloc (.cells #[.int .u32 (m:Int),.string t,.int .i64 (k:Int)] 92)).heap.size):=by show _ < _;simp
     have f2:Hid (∀ j u,(pE.enc (m,t,k))[j]?=ab u->(q.alloc (.cells #[.int .u32 (m:Int),.string t,.int .i64 (k:Int)] 92)).cell? ⟨q.heap.size,0+j,aa⟩=ab u):=fun j u S=>by
      rw [aO,ar _ _ _ _ rfl]
      rw [<- S]
      show (#[Value.int .u32 (m:Int),.string t,.int .i64 (k:Int)]:Array aA)[j]?=([Value.int .u32 (m:Int),.string t,.int .i64 (k:Int)]:List aA)[j]?
      rw [<- Array.getElem?_toList]
     go_wp2_with (first | (at_builtin;refine wJ (E:=pE) rfl (.tmp 16) (.tmp 26) 71 92 rfl (.agg #[.int .u32 0,.string ⟨#[]⟩,.int .i64 0]) 32 underlying71 (by kernel_rfl) rfl w.heap.size v s rfl f0.out q.heap.size 0 1 (m,t,k) rfl f2.out (by have:=b1.out;unfold bi;omega) (by have:=b1.out;omega) a9.out.size f1.out ?_;intro v' w6 b2 b7))
     have f3:Hid (Zc pE 92 w6 w.heap.size v' (Xw f (8*i+(k+1)))):=by
      show Zc pE 92 w6 w.heap.size v' (Xw f (8*i+(k+1)))
      rw [HN.out]
      exact b2
     have f4:Hid (ac w.heap.size w w6):=a9.out.trans b7
     clear b2 b7
     go_wp2
     go_roundw
     case rel=>exact ⟨k+1,by omega,by go_num,f3.out,f4.out⟩
     case measure=>simp [intOf];omega
    ·have f5:k=8:=by omega
     subst f5
     have HE:Hid (8*i+8=8*(i+1)):=by show _=_;omega
     go_wp2
     go_roundw
     case rel=>exact ⟨i+1,by omega,by go_num,by rw [<- HE.out];exact a4.out,N.out⟩
     case measure=>simp [intOf];omega
  ·have f6:i=f.length:=by omega
   subst f6
   obtain ⟨pv,T,rfl,f7,b8,f8,d0⟩:=G.out.form
   obtain ⟨g,rfl⟩:∃ g,pv=ab ⟨g,0,aa⟩:=by
    obtain ⟨_,h2⟩:=(show A.ownsRow w.heap.size 92 pE.k (.slice pv (Xw f (8*f.length)).length T) (Xw f (8*f.length)).length (Qb pE (Xw f (8*f.length))) from G.out)
    rcases h2 with ⟨_,H⟩ | ⟨g',g5,g6,hv,_⟩
    ·rw [rB] at H;omega
    ·exact ⟨g',(Value.slice.inj hv).1⟩
   obtain ⟨d1,a0⟩:=d0 g 0 rfl
   have hH:=L8 G.out
   have a2:=slices_SortFunc 3 isAgg92 sizeOf92 QS (fun _=>rfl) pE.one kO x1 49 #[] g 0 T (Xw f (8*f.length)).toArray A (enters_of func49 (by kernel_rfl) rfl) (JsK _ _ _ _) hH a0 (by simp [rB];omega)
   have d2:Hid (∀ h:Array Pt,PermIn 0 (Xw f (8*f.length)).toArray.size (Xw f (8*f.length)).toArray h->SortedIn (ltOf kO) 0 (Xw f (8*f.length)).toArray.size h->lG f h.toList/\h.size=(Xw f (8*f.length)).toArray.size):=fun h h1 h2=>⟨R4 h1 h2,h1.1⟩
   have d3:Hid ((Xw f (8*f.length)).toArray.size=(Xw f (8*f.length)).length):=by show _=_;simp
   rw [d3.out] at a2
   have HH:Hid (HoldsK QS 3 A g 0 (Xw f (8*f.length)).toArray):=hH
   have d4:Hid (w.heap.size<=g):=d1
   have d5:Hid (g < A.heap.size):=a0
   have f9:Hid ((Xw f (8*f.length)).length<=T):=b8
   clear f7 b8 f8 d0 d1 a0 hH G Y V
   generalize Xw f (8*f.length)=s at *
   go_wp2_with fail
   refine a2.mono ?_
   rintro e q ⟨rfl,h,n,os,D,d6,U⟩
   clear a2
   obtain ⟨d7,M⟩:=d2.out h D d6
   have g0:Hid (lG f h.toList):=d7
   have d8:Hid (h.toList.length=s.length):=by show _=_;rw [ay,M,d3.out]
   have g1:Hid (Ql pE q (ab ⟨g,0,aa⟩) h.toList):=by
    have hk:=holdsK_sortWorldK_c QS 3 A g 0 s.toArray h n os HH.out d5.out M
    rw [<- U] at hk
    refine ax ⟨g,0,rfl,?_,fun i x Q j u S=>?_⟩
    ·rw [U]
     exact au d5.out (size_sortWorldK_c QS 3 A g 0 n h os)
    ·have d9 : i < h.size := by
      have:=(al.1 Q).1
      rwa [ay] at this
     have g2:j < 3:=(al.1 S).1
     have h5:=(hk.cell d9 g2).1
     have e1:h[i]! = x:=by
      rw [getElem!_pos h i d9]
      have:=(al.1 Q).2
      simpa using this
     rw [e1] at h5
     have e2:(QS x)[j]! = u:=by
      have h6:=al.1 S
      rw [getElem!_pos (QS x) j h6.1]
      exact h6.2
     rw [e2] at h5
     exact h5
   have N:Hid (ac w.heap.size w q):=by
    show ac w.heap.size w q
    rw [U]
    exact R6 L.out d4.out L.out.size
   clear U D d6 d7 M d2 HH
   go_wp2
   go_ret
   exact ⟨⟨g,T,h.toList,by rw [d8.out];rfl,by rw [d8.out];exact f9.out,d4.out,g1.out,g0.out⟩,N.out⟩
end
section
open Go.Sort
theorem GX:(prog.info? 92).map (fun i=>(i.zero,i.size,i.bytes))=ab (ab (.agg #[.int .u32 0,.string ⟨#[]⟩,.int .i64 0]),3,32):=by kernel_rfl
theorem NK (n:Nat) (w:World) (O:0 < n) (U:n<=1000) :
 ah prog 67 #[.slice aa 0 0,.int .i64 (n:Int)] w fun e s=>(∃ v,e=.returned v/\Zc pE 92 s w.heap.size v [])/\ac w.heap.size w s:=by
 obtain ⟨f,H,I,J,t⟩:=zk GX
 have A:(Builtin.firstCells f.size 0 (.slice aa 0 0)).run prog w.drew=.ok ([]:List aA).toArray w.drew:=run_firstCells_none w.drew f.size 0 0 0
 have B:∀ j,(Builtin.append_ #[71,3] j #[.slice aa 0 0,.int .i64 (n:Int)]).run prog w =
  .ok (.slice (ab ⟨w.heap.size,0,aa⟩) n (zc w n 0 92)) (w.drew.alloc (.cells (([]:List aA).toArray ++ aq (Value.agg #[.int .u32 0,.string ⟨#[]⟩,.int .i64 0]).cells n ++ aq (Value.agg #[.int .u32 0,.string ⟨#[]⟩,.int .i64 0]).cells (zc w n 0 92 - n)) 92)):=fun j=>by
  have h:=Lib.run_append_grow_zeros w 71 3 j 92 f _ .i64 .i64 underlying71 underlying3 H I aa 0 0 [] A n O (by rw [J];decide) (by omega) (by omega) (by rw [t];omega) (by rw [t];exact growslice_fits (by omega) (by omega))
  rw [aO] at h
  exact h
 have Q:n<=zc w n 0 92:=grownCap_ge w _ _ _
 have o:zc w n 0 92<=maxLen:=grownCap_le_maxLen w n 0 92 (by unfold bi;omega)
 generalize K:zc w n 0 92=G at *
 clear K
 have R:G<=9223372036854775807:=by unfold bi at o;omega
 obtain ⟨d,q⟩:∃ d,d=([]:List aA).toArray ++ aq (Value.agg #[.int .u32 0,.string ⟨#[]⟩,.int .i64 0]).cells n ++ aq (Value.agg #[.int .u32 0,.string ⟨#[]⟩,.int .i64 0]).cells (G - n):=⟨_,rfl⟩
 have D:d.size=G*3:=by
  have L:(Value.agg #[.int .u32 0,.string ⟨#[]⟩,.int .i64 0]).cells.size=3:=rfl
  rw [q]
  simp [aq,L]
  omega
 rw [<- q] at B
 have M:Hid (Zc pE 92 (w.drew.alloc (.cells d 92)) w.heap.size (.slice (ab ⟨w.heap.size,0,aa⟩) 0 G) []):=by
  refine ⟨rfl,ax ⟨w.heap.size,G,d,rfl,ae _,?_,ak _,o,D,?_⟩⟩
  ·have:w.drew.heap.size=w.heap.size:=rfl
   rw [<- this,heap_alloc_new]
  ·simp [Qb]
 have N:Hid (ac w.heap.size w (w.drew.alloc (.cells d 92))):=(af _ _).drew.alloc (ae _) _
 have S:decide ((n:Int) < 0)=false:=decide_eq_false (by omega)
 have T:decide (0 < (n:Int))=true:=decide_eq_true (by omega)
 clear A q o D
 go_enter func67,ntmps67
 go_wp2_with (at_builtin;refine Lib.wpList_append_run _ rfl _ _ _ _ rfl _ _ rfl rfl _ _ (B _) ?_)
 go_ret
 exact ⟨⟨_,rfl,M.out⟩,N.out⟩
theorem OW (g c:Nat) (G H:Option av) (l1 l2:List Pt) (c1 c2:Nat) (w:World) (h0:0 < l1.length+l2.length) (hn:l1.length+l2.length<=1000)
 (q:w.cell? ⟨g,0,aa⟩=ab (.slice G l1.length c1)) (q2:w.cell? ⟨g,1,aa⟩=ab (.slice H l2.length c2)) (r1:Ql pE w G l1) (r2:Ql pE w H l2) (n1:G=aa->l1=[]/\c1=0) (n2:H=aa->l2=[]/\c2=0) :
 ah prog 56 #[.slice (ab ⟨g,0,aa⟩) 2 c] w fun e h=>(∃ v,e=.returned v/\Zc pE 92 h w.heap.size v (l1 ++ l2))/\ac w.heap.size w h:=by
 have I:g < w.heap.size:=by
  rcases aj g w.heap.size with J | J
  ·exact J
  ·simp [zd,aC J] at q
 obtain ⟨P,O⟩:∃ P:Nat->Option av,P=fun i=>if i=0 then G else H:=⟨_,rfl⟩
 obtain ⟨L,K⟩:∃ L:Nat->List Pt,L=fun i=>if i=0 then l1 else l2:=⟨_,rfl⟩
 obtain ⟨C,Q⟩:∃ C:Nat->Nat,C=fun i=>if i=0 then c1 else c2:=⟨_,rfl⟩
 obtain ⟨T,d⟩:∃ T:Nat->List Pt,T=fun i=>if i=0 then [] else if i=1 then l1 else l1 ++ l2:=⟨_,rfl⟩
 have R:Hid (∀ W,ac w.heap.size w W->∀ i,i < 2->W.cell? ⟨g,i,aa⟩=ab (.slice (P i) (L i).length (C i))/\Ql pE W (P i) (L i)/\(P i=aa->L i=[]/\C i=0)):=fun W A i j=>by
  subst O K Q
  match i,j with
  | 0,_=>exact ⟨(A.cell (p:=⟨g,0,aa⟩) I).trans q,r1.below A,n1⟩
  | 1,_=>exact ⟨(A.cell (p:=⟨g,1,aa⟩) I).trans q2,r2.below A,n2⟩
 have S:Hid (∀ i,i < 2->T (i+1)=T i ++ L i):=fun i j=>by
  subst d K
  match i,j with
  | 0,_=>rfl
  | 1,_=>rfl
 have U:Hid (T 0=[]):=by show _=_;rw [d];rfl
 have V:Hid (T 2=l1 ++ l2):=by show _=_;rw [d];rfl
 have M:Hid (∀ i,(T i).length<=1000):=fun i=>by
  subst d
  show (if i=0 then [] else if i=1 then l1 else l1 ++ l2:List Pt).length<=1000
  split
  ·exact ak _
  ·split
   ·omega
   ·rw [ao];exact hn
 have b8:Hid (0 < (T 2).length):=by show _ < _;rw [d];show 0 < (l1 ++ l2).length;rw [ao];exact h0
 rw [<- V.out]
 clear V d O K Q q q2 r1 r2 n1 n2 h0 hn I
 go_enter func56,ntmps56
 go_wp2
 go_loop [3,11] (fun s x=>∃ i:Nat,i<=2/\x=.int .i64 i/\s=.int .i64 (((T i).length:Nat):Int)) (fun _ x=>2 - (intOf x).toNat)
 case atStart=>exact ⟨0,by omega,rfl,by rw [U.out];rfl⟩
 case round =>
  obtain ⟨i,j,rfl,rfl⟩:=hrel
  by_cases o:i < 2
  ·obtain ⟨q,_,_⟩:=R.out w (af _ _) i o
   have t:Hid ((T (i+1)).length=(T i).length+(L i).length):=by show _=_;rw [S.out i o,ao]
   have d0:=M.out (i+1)
   rw [t.out] at d0
   generalize (T i).length=a at *
   generalize (L i).length=b at *
   have d1:decide ((a:Int)+(b:Int) < 0)=false:=decide_eq_false (by omega)
   have d2:wrap64 ((a:Int)+(b:Int))=(a:Int)+(b:Int):=by unfold wrap64;omega
   have d3:¬ ((a:Int)+(b:Int) < 0):=by omega
   go_wp2
   go_round
   case rel=>exact ⟨i+1,by omega,by go_num,by rw [t.out];congr 1⟩
   case measure=>simp [intOf];omega
  ·have N:i=2:=by omega
   subst N
   have Y:Hid (∀ W,ah prog 67 #[.slice aa 0 0,.int .i64 (((T 2).length:Nat):Int)] W fun e h=>(∃ v,e=.returned v/\Zc pE 92 h W.heap.size v [])/\ac W.heap.size W h):=fun W=>NK _ W b8.out (M.out 2)
   generalize (T 2).length=m at *
   go_wp2_with fail
   refine (Y.out _).mono ?_
   rintro e Z ⟨⟨v,rfl,a0⟩,a2⟩
   have a3:Hid (Zc pE 92 Z w.heap.size v (T 0)):=by show Zc _ _ _ _ _ _;rw [U.out];exact a0
   have a4:Hid (ac w.heap.size w Z):=a2
   clear a0 a2 Y
   go_wp2
   go_loopw [6,27] (fun v x wq=>∃ i:Nat,i<=2/\x=.int .i64 i/\Zc pE 92 wq w.heap.size v (T i)/\ac w.heap.size w wq) (fun _ x _=>2 - (intOf x).toNat)
   case atStart=>exact ⟨0,by omega,rfl,a3.out,a4.out⟩
   case round =>
    obtain ⟨i,j,rfl,hO,hB⟩:=hrel
    obtain ⟨f,rfl⟩:∃ f,f=wr:=⟨_,rfl⟩
    obtain ⟨B,rfl⟩:∃ B,B=u6:=⟨_,rfl⟩
    have a5:Hid (Zc pE 92 f w.heap.size B (T i)):=hO
    have D:Hid (ac w.heap.size w f):=hB
    clear hO hB a3 a4
    by_cases o:i < 2
    ·obtain ⟨q,a8,a9⟩:=R.out f D.out i o
     have d4:Hid (Ql pE f (P i) (L i)):=a8
     have d5:Hid (P i=aa->L i=[]/\C i=0):=a9
     have t:Hid (T (i+1)=T i ++ L i):=S.out i o
     have b1:Hid ((T i).length+(L i).length<=1000):=by
      show _<=_
      have:=M.out (i+1)
      rw [t.out,ao] at this
      exact this
     clear a8 a9
     generalize P i=pi at *
     generalize L i=li at *
     generalize C i=ci at *
     generalize T i=ti at *
     go_wp2_with (first | (at_builtin;refine F4 (E:=pE) rfl (.tmp 31) (.tmp 32) 71 92 rfl (.agg #[.int .u32 0,.string ⟨#[]⟩,.int .i64 0]) 32 underlying71 GX rfl w.heap.size B ti rfl a5.out pi li ci rfl d4.out d5.out (by have:=b1.out;unfold bi;omega) (by have:=b1.out;omega) D.out.size ?_;intro v' w3 b2 b7))
     have d6:Hid (Zc pE 92 w3 w.heap.size v' (T (i+1))):=by
      show Zc _ _ _ _ _ _
      rw [t.out]
      exact b2
     have d7:Hid (ac w.heap.size w w3):=D.out.trans b7
     clear b2 b7
     go_wp2
     go_roundw
     case rel=>exact ⟨i+1,by omega,by go_num,d6.out,d7.out⟩
     case measure=>simp [intOf];omega
    ·have N:i=2:=by omega
     subst N
     go_wp2
     go_ret
     exact ⟨⟨_,rfl,a5.out⟩,D.out⟩
end
theorem P3 (p:Option av) (l:List ByteArray) (c:Nat) (s:ByteArray) (w:World) (M:l.length<=1000000) (D:Strs w p l) (h:s ∉ l) :
 ah prog 33 #[.slice p l.length c,.string s] w fun e q=>e=.returned (.int .i64 (-1))/\q=w:=by
 have A:Hid (s ∉ l):=h
 clear h
 go_enter func33,ntmps33
 go_wp2
 go_loop [8] (fun x=>∃ i:Nat,i<=l.length/\x=.int .i64 i) (fun x=>l.length - (intOf x).toNat)
 case atStart=>exact ⟨0,ak _,rfl⟩
 case round =>
  obtain ⟨i,G,rfl⟩:=hrel
  by_cases d:i < l.length
  ·rcases D with B | ⟨b,o,rfl,H,j⟩
   ·rw [B] at d;exact absurd d (ap _)
   have I:=j i d
   have f:Yc l i≠s:=fun e=>A.out (e ▸ oQ d)
   have J:=XT (Ne.symm f)
   have K:=YT (Ne.symm f)
   have L:=Y8 (Ne.symm f)
   clear f j
   generalize Yc l i=t at *
   go_wp2
   go_round
   case rel=>exact ⟨i+1,by omega,by go_num⟩
   case measure=>simp [intOf];omega
  ·go_wp2
   go_ret
   exact ⟨rfl,rfl⟩
theorem SY (p:Option av) (l:List ByteArray) (c:Nat) (s:ByteArray) (w:World) (W:l.length<=1000000) (Q:Strs w p l) (h:s ∈ l) :
 ah prog 33 #[.slice p l.length c,.string s] w fun e I=>e=.returned (.int .i64 ((ZJ l s:Nat):Int))/\I=w:=by
 have J:Hid (s ∈ l):=h
 clear h
 go_enter func33,ntmps33
 go_wp2
 go_loop [8] (fun x=>∃ i:Nat,i<=l.length/\x=.int .i64 i/\∀ j,j < i->Yc l j≠s) (fun x=>l.length - (intOf x).toNat)
 case atStart=>exact ⟨0,ak _,rfl,fun j q=>absurd q (ap _)⟩
 case round =>
  obtain ⟨i,R,rfl,B⟩:=hrel
  have A:Hid (∀ j,j < i->Yc l j≠s):=B
  clear B
  have f:i < l.length:=by
   rcases aj i l.length with h | h
   ·exact h
   ·obtain ⟨j,q,e⟩:=tF J.out
    exact absurd e (A.out j (by omega))
  rcases Q with K | ⟨b,o,rfl,S,D⟩
  ·rw [K] at f;exact absurd f (ap _)
  have L:=D i f
  have G:Hid (Yc l i=Yc l i):=by show _=_;rfl
  clear D
  by_cases d:Yc l i=s
  ·have M:Hid (ZJ l s=i):=DQ f d A.out
   rw [d] at L
   clear d G
   go_wp2
   go_ret
   exact ⟨by rw [M.out];rfl,rfl⟩
  ·have N:Hid (Yc l i≠s):=d
   have T:=XT (Ne.symm d)
   have U:=YT (Ne.symm d)
   have V:=Y8 (Ne.symm d)
   clear d G
   generalize H:Yc l i=t at *
   have O:Hid (Yc l i=t):=H
   clear H
   go_wp2
   go_round
   case rel=>exact ⟨i+1,by omega,by go_num,fun j q=>by
    rcases aj j i with h | h
    ·exact A.out j h
    ·obtain rfl:j=i:=by omega
     rw [O.out];exact N.out⟩
   case measure=>simp [intOf];omega
theorem vN (p:Option av) (l:List ByteArray) (c:Nat) (s:ByteArray) (w:World) (t:l.length<=1000000) (j:Strs w p l) :
 ah prog 19 #[.slice p l.length c,.string s] w fun e A=>e=.returned (.bool (Xu l s))/\A=w:=by
 by_cases h:s ∈ l
 ·have o:Hid (Xu l s=aB):=Zl.2 h
  have d:=SY p l c s w t j h
  rw [o.out]
  clear h j
  generalize ZJ l s=k at *
  go_enter func19,ntmps19
  go_wp2_with fail
  refine d.mono ?_
  rintro e q ⟨rfl,f⟩
  rw [f]
  clear f q d
  go_wp2
  go_ret
  exact ⟨rfl,rfl⟩
 ·have o:Hid (Xu l s=aG):=ag.2 fun B=>h (Zl.1 B)
  have d:=P3 p l c s w t j h
  rw [o.out]
  clear h j
  go_enter func19,ntmps19
  go_wp2_with fail
  refine d.mono ?_
  rintro e q ⟨rfl,f⟩
  rw [f]
  clear f q d
  go_wp2
  go_ret
  exact ⟨rfl,rfl⟩
section
open Ring Go.Sort
theorem TW (h B:Nat) (w:World) (q:B < w.heap.size) (s:w.cell? ⟨B,0,aa⟩=ab (.int .u32 (h:Int))) :
 PredBelow prog 55 #[.pointer (ab ⟨B,0,aa⟩)] (fun x=>.agg (QS x).toArray) (fun x:Pt=>decide (h<=x.1)) w:=fun W x d=>by
 have A:W.cell? ⟨B,0,aa⟩=ab (.int .u32 (h:Int)):=(d.cell (p:=⟨B,0,aa⟩) q).trans s
 have D:B < W.heap.size:=au q d.size
 have G:B≠W.heap.size:=by omega
 obtain ⟨a,y,i⟩:=x
 have j:Hid (ac w.heap.size w (W.alloc (.cells #[.int .u32 (a:Int),.string y,.int .i64 (i:Int)] 92))):=d.alloc d.size _
 show ah prog 55 #[.agg #[.int .u32 (a:Int),.string y,.int .i64 (i:Int)],.pointer (ab ⟨B,0,aa⟩)] W fun e H=>e=.returned (.bool (decide (h<=a)))/\_
 clear d s
 by_cases o:h<=a
 ·have f:Hid (decide (h<=a)=aB):=decide_eq_true o
  have t:decide ((h:Int)<=(a:Int))=true:=decide_eq_true (by omega)
  rw [f.out]
  go_enter func55,ntmps55
  go_wp2
  go_ret
  exact ⟨rfl,j.out⟩
 ·have f:Hid (decide (h<=a)=aG):=decide_eq_false o
  have t:decide ((h:Int)<=(a:Int))=false:=decide_eq_false (by omega)
  rw [f.out]
  go_enter func55,ntmps55
  go_wp2
  go_ret
  exact ⟨rfl,j.out⟩
theorem O8 (h:Nat) (G:List ByteArray) (d:List Pt) (t:lG G d) (S:1<=G.length) :
 ∃ f A:Nat,∃ r:Int,Lib.idxBy (fun _ y:Pt=>decide (h<=y.1)) (d.take d.length) default=r/\(r=-1/\A=0∨r=(A:Int))/\A<=d.length/\qL h G (QZ h f d.length (XW d)) d.length/\∀ j,j < d.length->(QZ h f d.length (XW d) j).2=(XW d ((A+j) % d.length)).2:=by
 have H:0 < d.length:=by rw [t.len];omega
 have I:∀ i,i < d.length->(XW d i).1 < 4294967296:=fun i q=>by
  obtain ⟨_,k,_,e⟩:=t.mem i q
  rw [e]
  exact VX _
 have D:∀ i,i < d.length->(d[i]!).1=(XW d i).1:=fun i q=>by rw [nV q,getElem!_pos d i q];rfl
 by_cases J:∃ i,i < d.length/\h<=(XW d i).1
 ·
  obtain ⟨f,K,B,L⟩:∃ f,f < d.length/\h<=(XW d f).1/\∀ i,i < f->(XW d i).1 < h:=by
   obtain ⟨i,q⟩:=J
   induction i using Nat.strongRecOn with
   | ind i ih =>
    by_cases M:∃ j,j < i/\h<=(XW d j).1
    ·obtain ⟨j,s,B⟩:=M
     exact ih j s ⟨by omega,B⟩
    ·refine ⟨i,q.1,q.2,fun j s=>?_⟩
     rcases aj (XW d j).1 h with o | o
     ·exact o
     ·exact absurd ⟨j,s,o⟩ M
  refine ⟨f,f,(f:Int),?_,ax rfl,by omega,BU H (by omega) I t.sorted L (fun i Q o=>?_) t.mem t.all,fun j _=>rfl⟩
  ·have:=Lib.idxBy_hit (fun _ y:Pt=>decide (h<=y.1)) d d.length f default K (ae _) (decide_eq_true (by rw [D f K];exact B)) (fun j s=>decide_eq_false (by rw [D j (by omega)];have:=L j s;omega))
   exact this
  ·by_cases e:i=f
   ·rw [e];exact B
   ·have R:=t.sorted f i (by omega) o
    rcases aj (XW d i).1 (XW d f).1 with N | N
    ·exact absurd (aw N) R
    ·omega
 ·have O : ∀ i, i < d.length -> (XW d i).1 < h := fun i q => by
   rcases aj (XW d i).1 h with o | o
   ·exact o
   ·exact absurd ⟨i,q,o⟩ J
  refine ⟨d.length,0,-1,?_,aw ⟨rfl,rfl⟩,ak _,BU H (ae _) I t.sorted O (fun i Q o=>by omega) t.mem t.all,fun j s=>?_⟩
  ·exact Lib.idxBy_miss (fun _ y:Pt=>decide (h<=y.1)) d d.length default (fun j s=>decide_eq_false (by rw [D j s];have:=O j s;omega))
  ·unfold QZ
   rw [aO,Nat.add_mod_left]
theorem P4 (d:List Pt) (f j:Nat) (o:f<=d.length) (q:j < d.length):(d.drop f ++ d.take f)[j]?=d[(f+j) % d.length]?:=by
 rcases aj (f+j) d.length with h | h
 ·rw [List.getElem?_append_left (by rw [an];omega),List.getElem?_drop,aR h]
 ·rw [List.getElem?_append_right (by rw [an];omega),an,List.getElem?_take_of_lt (by omega),Nat.mod_eq_sub_mod h,aR (by omega)]
  congr 1
  omega
theorem OJ (p:Option av) (l:List Pt) (c k:Nat) (j:k<=l.length) (W:World):Sem.run prog (Instr.slice 71 (.slice p l.length c) (ab (.int .i64 (k:Int))) aa aa) W=.ok (.slice (if c=k then p else p.map (·.add (k*3))) (l.drop k).length (c - k)) W:=by
 have d:(sizeOf (prog.elem 71)).run prog W=.ok 3 W:=by kernel_rfl
 have f:prog.elem 71=92:=by kernel_rfl
 have h:prog.underlying 71=ab (.slice (prog.elem 71)):=by rw [f];exact underlying71
 rw [run_slice_l W 71 p l.length c h .i64 (k:Int) (by omega) (by omega),d]
 simp [Result.andThen,sliced]
theorem LZ (p:Option av) (l:List Pt) (c k:Nat) (o:k<=l.length) (q:l.length<=c) (W:World):Sem.run prog (Instr.slice 71 (.slice p l.length c) aa (ab (.int .i64 (k:Int))) aa) W=.ok (.slice p (l.take k).length c) W:=by
 have d:(sizeOf (prog.elem 71)).run prog W=.ok 3 W:=by kernel_rfl
 have f:prog.elem 71=92:=by kernel_rfl
 have h:prog.underlying 71=ab (.slice (prog.elem 71)):=by rw [f];exact underlying71
 have j:(l.take k).length=k:=by rw [am];omega
 rw [run_slice_h W 71 p l.length c h .i64 (k:Int) (by omega) (by omega),d,j]
 simp [Result.andThen,sliced,Addr.add]
theorem CF:(prog.info? 9).map (fun i=>(i.zero,i.size,i.bytes))=ab (ab (.string ⟨#[]⟩),1,16):=by kernel_rfl
theorem Jjp (n:Nat) (s:n<=1000) (W:World):Sem.run prog (Instr.makeSlice 22 (.int .i64 0) (.int .i64 (n:Int))) W=.ok (.slice (ab ⟨W.heap.size,0,aa⟩) 0 n) (W.alloc (.cells (az #[.string ⟨#[]⟩] n) 9)):=by
 obtain ⟨f,h,j,o,q⟩:=zk CF
 have d:=run_make (P:=prog) W 22 9 f (.string ⟨#[]⟩) underlying22 h j .i64 .i64 0 n (by omega) (by omega) (by rw [q];omega) (by omega)
 simp only [Int.toNat_natCast,o,Nat.mul_one] at d
 exact d
theorem Jqi (n:Nat) (d:n<=1000) (W:World):Zq (W.alloc (.cells (az #[.string ⟨#[]⟩] n) 9)) W.heap.size (.slice (ab ⟨W.heap.size,0,aa⟩) 0 n) []:=by
 refine ⟨rfl,ax ⟨W.heap.size,n,az #[.string ⟨#[]⟩] n,rfl,ae _,?_,ak _,by unfold bi;omega,by simp [az],by simp⟩⟩
 rw [heap_alloc_new]
structure Z6 (b:Nat) (w4:World) (v:aA) (w:World):Prop where
 os:w.os=w4.os
 tape:w.tape=w4.tape
 output:w.output=w4.output
 size:w4.heap.size<=w.heap.size
 block:∀ k,k < w4.heap.size->k≠b->w.heap[k]?=w4.heap[k]?
 own:∀ k,v.ownBlock=ab k->k=b∨w4.heap.size<=k
theorem Z6.start  (h:v.ownBlock=ab b):Z6 b f v f:=⟨rfl,rfl,rfl,ae _,fun _ _ _=>rfl,fun k d=>aw (by rw [h] at d;exact (Option.some.inj d).symm)⟩
theorem Z6.below {j o:World} (h:Z6 b j v w) (d:ac w.heap.size w o):Z6 b j v o:=⟨d.os.trans h.os,d.tape.trans h.tape,d.output.trans h.output,aP h.size d.size,fun k f q=>(d.block k (au f h.size)).trans (h.block k f q),h.own⟩
theorem Z6.app {q:World} {j:aA} (h:Z6 b q v w) (H:w.grownBy s v.ownBlock) (I:j.ownBlock=v.ownBlock∨j.ownBlock=ab w.heap.size):Z6 b q j s:=by
 obtain ⟨t,A,B,D,G⟩:=H
 refine ⟨t.trans h.os,A.trans h.tape,B.trans h.output,aP h.size D,fun k d o=>(G k (au d h.size) (fun e=>?_)).trans (h.block k d o),fun k d=>?_⟩
 ·rcases h.own k e.symm with f | f
  ·exact o f
  ·omega
 ·rcases I with f | f
  ·exact h.own k (by rw [<- f];exact d)
  ·rw [f] at d
   exact ax (by rw [<- Option.some.inj d];exact h.size)
theorem Z6.toBelow  (h:Z6 b d v w) (j:b<=d.heap.size):ac b d w:=⟨h.os,h.tape,h.output,h.size,fun k f=>h.block k (by omega) (by omega)⟩
theorem Z6.cell  (h:Z6 b d v w) {p:av} (f:p.block < d.heap.size) (j:p.block≠b):w.cell? p=d.cell? p:=by
 unfold zd
 rw [h.block p.block f j]
theorem OU {j:Array Oper} {rest:List Oper} {o:Oper} {a:Act} {Q:Exit->Act->World->Prop} (L:o.guard=aa) (s x:Operand)
 (M:o.op=.call { callee:=.builtin .append,args:=#[s,x],argTypes:=#[22,22] })
 (B:Nat) (v:aA) (l:List ByteArray) (N:a.eval s=v) (O:Zq w B v l) (ad:av) (t:ByteArray) (c:Nat) (R:a.eval x=.slice (ab ad) 1 c) (S:w.cell? ad=ab (.string t)) (T:l.length+1<=1000000) (U:B<=w.heap.size)
 (h:∀ d f,Zq f B d (l ++ [t])->w.grownBy f v.ownBlock->(d.ownBlock=v.ownBlock∨d.ownBlock=ab w.heap.size)->bu prog j Q rest (a.put o.dst d) f):bu prog j Q (o :: rest) a w:=by
 obtain ⟨q,A,D,G,H⟩:=zk CF
 refine yL L s x _ M B 9 q (.string ⟨#[]⟩) 16 underlying22 A D rfl G H (by decide) v (l.map Value.string) N O ad c (.string t) rfl R S (by rw [List.length_map];exact T) U fun d f I J K=>h d f ?_ J K
 unfold Zq
 rw [List.map_append]
 exact I
end
section
open Ring Go.Sort
theorem U1 {d:List Pt} {f:Nat} {h:Nat} (t:o<=d.length) (A:∀ j,j < d.length->(QZ h f d.length (XW d) j).2=(XW d ((o+j) % d.length)).2) (B:0 < d.length) {j:Nat} (s:j < d.length) :
 ∃ x:Pt,(d.drop o ++ d.take o)[j]?=ab x/\x.2.1=(QZ h f d.length (XW d) j).2:=by
 have q:(o+j) % d.length < d.length:=br _ B
 refine ⟨d[(o+j) % d.length],by rw [P4 d o j t s,ai q],?_⟩
 rw [A j s,nV q]
 rfl
theorem WY (g A:Nat) (d:List Pt) (B:List ByteArray) (h n:Nat) (w:World) (hr:lG B d) (l7:1<=B.length) (m8:B.length<=16) (hn:n<=B.length) (hx:∀ x ∈ B,x.size<=16) (i2:B.Nodup) (i3:d.length<=A) (d0:Ql pE w (ab ⟨g,0,aa⟩) d) :
 ah prog 36 #[.slice (ab ⟨g,0,aa⟩) d.length A,.int .u32 (h:Int),.int .i64 (n:Int)] w fun e G=>(∃ v s,e=.returned v/\Zq G w.heap.size v s/\s.length=n/\XC h B s)/\ac w.heap.size w G:=by
 have a5:=hr.len
 obtain ⟨f,q,r,f2,f3,a8,f4,f5⟩:=O8 h B d hr l7
 have hg:g < w.heap.size:=by
  rcases d0 with M | ⟨b,o,N,i4,_⟩
  ·rw [M] at a5;simp at a5;omega
  ·obtain ⟨rfl,rfl⟩:g=b/\0=o:=by simpa using N
   exact i4
 obtain ⟨K,V⟩:∃ K,K=w.alloc (.cells #[.int .u32 (h:Int)] 74):=⟨_,rfl⟩
 have d1:ac w.heap.size w K:=by rw [V];exact (af _ _).alloc (ae _) _
 have i5:K.heap.size=w.heap.size+1:=by rw [V];simp
 have f6:=d0.below d1
 have d2:=slices_IndexFunc 3 isAgg92 sizeOf92 QS (fun _=>rfl) (fun x:Pt=>decide (h<=x.1)) 55 #[.pointer (ab ⟨w.heap.size,0,aa⟩)] (enters_of func55 (by kernel_rfl) rfl) g 0 d.length A d K
  (TW h w.heap.size K (by omega) (by rw [V];simp)) (ae _) (by omega) (by omega) (fun j O i v hv=>by
   rcases f6 with M | ⟨b,o,N,_,hc⟩
   ·rw [M] at O;exact absurd O (ap _)
   ·obtain ⟨rfl,rfl⟩:g=b/\0=o:=by simpa using N
    have:=hc j d[j] (ai O) i v (by rw [getElem!_pos d j O] at hv;exact hv)
    exact this)
 rw [f2] at d2
 have f7:Hid (K=w.alloc (.cells #[.int .u32 (h:Int)] 74)):=V
 have d3:Hid (ac w.heap.size w K):=d1
 have d4:Hid (Ql pE w (ab ⟨g,0,aa⟩) d):=d0
 have d5:Hid (qL h B (QZ h f d.length (XW d)) d.length):=f4
 have i6:Hid B.Nodup:=i2
 have HX:Hid (∀ x ∈ B,x.size<=16):=hx
 have i8:Hid (∀ j,j < d.length->∃ x:Pt,(d.drop q ++ d.take q)[j]?=ab x/\x.2.1=(QZ h f d.length (XW d) j).2):=fun j O=>U1 a8 f5 (by omega) O
 have f8:Hid ((d.drop q ++ d.take q).length=d.length):=by show _=_;rw [ao,an,am];omega
 have i9:Hid (d.length=8*B.length):=a5
 have l8:d.length<=128:=by omega
 have l9:1<=d.length:=by omega
 have m0:=OJ (ab ⟨g,0,aa⟩) d A q a8
 have m3:=LZ (ab ⟨g,0,aa⟩) d A q a8 i3
 have j0:=Jjp n (by omega)
 have f9:Hid (∀ W:World,Zq (W.alloc (.cells (az #[.string ⟨#[]⟩] n) 9)) W.heap.size (.slice (ab ⟨W.heap.size,0,aa⟩) 0 n) []):=fun W=>Jqi n (by omega) W
 have HD:Hid (∀ W,ac w.heap.size w W->(Ql pE W (if A=q then ab ⟨g,0,aa⟩ else (ab (⟨g,0,aa⟩:av)).map (·.add (q*3))) (d.drop q)/\((if A=q then ab ⟨g,0,aa⟩ else (ab (⟨g,0,aa⟩:av)).map (·.add (q*3)))=aa->d.drop q=[]/\A - q=0))/\Ql pE W (ab ⟨g,0,aa⟩) (d.take q)):=fun W hW=>⟨(d4.out.below hW).drop a8 i3 (fun e=>by cases e),(d4.out.below hW).take q⟩
 clear V d1 i5 f6 f2 d0 f4 f5 hr i2 hx a5 hg
 generalize (if A=q then ab ⟨g,0,aa⟩ else (ab (⟨g,0,aa⟩:av)).map (·.add (q*3)))=Y at *
 generalize QZ h f d.length (XW d)=R at *
 have m4:max (0:Int) r=(q:Int):=by
  rcases f3 with ⟨Q,h2⟩ | Q <;> omega
 clear f3
 go_enter func36,ntmps36
 go_wp2_with fail
 rw [<- f7.out]
 refine d2.mono ?_
 rintro e t ⟨rfl,g0⟩
 have a9:Hid (ac w.heap.size w t):=d3.out.trans (g0.mono d3.out.size)
 clear g0 d2 f7 d3
 go_wp2
 have d6:=f9.out t
 have d7:ac w.heap.size w (t.alloc (.cells (az #[.string ⟨#[]⟩] n) 9)):=a9.out.alloc a9.out.size _
 generalize t.alloc (.cells (az #[.string ⟨#[]⟩] n) 9)=w3 at d6 d7 ⊢
 have b1:Hid (Zq w3 t.heap.size (.slice (ab ⟨t.heap.size,0,aa⟩) 0 n) []):=d6
 have Z:Hid (ac w.heap.size w w3):=d7
 have HZ:Hid (w.heap.size<=t.heap.size):=a9.out.size
 clear d6 d7 a9 f9 j0
 have g1:Hid (∀ W,ac w.heap.size w W->∀ gq,W.cell? ⟨gq,0,aa⟩=ab (.slice Y (d.drop q).length (A - q))->W.cell? ⟨gq,1,aa⟩=ab (.slice (ab ⟨g,0,aa⟩) (d.take q).length A)->ah prog 56 #[.slice (ab ⟨gq,0,aa⟩) 2 2] W fun e G=>(∃ v,e=.returned v/\Zc pE 92 G W.heap.size v (d.drop q ++ d.take q))/\ac W.heap.size W G):=fun W hW gq q1 q2=>by
  obtain ⟨⟨Q,h2⟩,h3⟩:=HD.out W hW
  exact OW gq 2 Y (ab ⟨g,0,aa⟩) (d.drop q) (d.take q) (A - q) A W (by rw [an,am];omega) (by rw [an,am];omega) q1 q2 Q h3 h2 (fun e=>by cases e)
 have m5:(q:Int)<=(d.length:Int):=by omega
 generalize (d.drop q).length=m1 at *
 generalize (d.take q).length=m2 at *
 have g2:Hid (ah prog 56 #[.slice (ab ⟨w3.heap.size,0,aa⟩) 2 2] (w3.alloc (.cells #[.slice Y m1 (A - q),.slice (ab ⟨g,0,aa⟩) m2 A] 71)).drew fun e G=>(∃ v,e=.returned v/\Zc pE 92 G w3.heap.size v (d.drop q ++ d.take q))/\ac w3.heap.size w3 G):=by
  have hq:=g1.out (w3.alloc (.cells #[.slice Y m1 (A - q),.slice (ab ⟨g,0,aa⟩) m2 A] 71)).drew ((Z.out.alloc Z.out.size _).drew) w3.heap.size (by simp) (by simp)
  refine hq.mono ?_
  rintro e G ⟨⟨v,rfl,hO⟩,hb⟩
  have d8:(w3.alloc (.cells #[.slice Y m1 (A - q),.slice (ab ⟨g,0,aa⟩) m2 A] 71)).drew.heap.size=w3.heap.size+1:=by simp
  exact ⟨⟨v,rfl,hO.base (by omega)⟩,(((af _ w3).alloc (ae _) _).drew).trans (hb.mono (by omega))⟩
 have d9:Hid ((d.drop q ++ d.take q).length=d.length):=f8.out
 clear g1 HD f8
 go_region_with (go_at_call 56;refine g2.out.mono ?_;rintro e H ⟨⟨v4,rfl,g3⟩,a0⟩;obtain ⟨p4,c4,rfl,e0,j3,j4,g5⟩:=g3.form)
 rw [d9.out] at j3
 have j5:Hid (Ql pE H p4 (d.drop q ++ d.take q)):=e0
 have m6:Hid (ac w3.heap.size w3 H):=a0
 have j6:Hid (ac w.heap.size w H):=Z.out.trans (a0.mono Z.out.size)
 have j7:Hid (Zq H t.heap.size (.slice (ab ⟨t.heap.size,0,aa⟩) 0 n) []):=b1.out.kept a0
 obtain ⟨S,o4,rfl⟩:∃ b o,p4=ab ⟨b,o,aa⟩:=by
  rcases e0 with M | ⟨b,o,N,_⟩
  ·have:=d9.out;rw [M] at this;simp at this;omega
  ·exact ⟨b,o,N⟩
 have g6:Hid (t.heap.size<=H.heap.size):=by
  show _<=_
  have Q:t.heap.size<=w3.heap.size:=by
   rcases aj t.heap.size w3.heap.size with h | h
   ·omega
   ·have:=(b1.out.block (k:=t.heap.size) rfl).2;omega
  have:=a0.size
  omega
 have g7:Hid (S≠t.heap.size/\S < H.heap.size):=by
  have Q:=g5 S o4 rfl
  have h2:=(b1.out.block (k:=t.heap.size) rfl).2
  exact ⟨by omega,Q.2⟩
 clear g3 a0 e0 j4 g5 b1 Z g2 d4 i9
 go_simp
 go_wp2
 go_loopw [8,26] (fun v x wq=>∃ (j:Nat) (s:List ByteArray),j<=d.length/\x=.int .i64 j/\Zq wq t.heap.size v s/\Qz h B R n j s/\Z6 t.heap.size H v wq) (fun _ x _=>d.length - (intOf x).toNat)
 case atStart=>exact ⟨0,[],ak _,rfl,j7.out,Qz.start _ _ _ _,Z6.start rfl⟩
 case round =>
  obtain ⟨j,s,O,rfl,e2,e3,hB⟩:=hrel
  obtain ⟨D,rfl⟩:∃ D,D=wr:=⟨_,rfl⟩
  obtain ⟨I,J,rfl,g8,_,_,k0⟩:=e2.form
  have g9:Hid (Zq D t.heap.size (.slice I s.length J) s):=e2
  have a2:Hid (Qz h B R n j s):=e3
  have e4:Hid (Z6 t.heap.size H (.slice I s.length J) D):=hB
  have k8:Hid (Strs D I s):=g8
  have h4:Hid (s.length<=16):=by show _<=_;have:=e3.le;omega
  clear e2 e3 hB g8 k0
  by_cases e5:j < d.length
  ·obtain ⟨x,h5,f0⟩:=i8.out j e5
   have b2:∀ i u,(QS x)[i]?=ab u->D.cell? ⟨S,o4+j*3+i,aa⟩=ab u:=fun i u hu=>by
    rcases j5.out with M | ⟨b,o,N,_,hc⟩
    ·have:=d9.out;rw [M] at this;simp at this;omega
    ·obtain ⟨rfl,rfl⟩:S=b/\o4=o:=by simpa using N
     exact (e4.out.cell (p:=⟨S,o4+j*3+i,aa⟩) g7.out.2 g7.out.1).trans (hc j x h5 i u hu)
   have q1:=b2 0 _ rfl
   have q2:=b2 1 _ rfl
   have q3:=b2 2 _ rfl
   rw [Nat.add_zero] at q1
   have h6:Hid (x.2.1=(R j).2):=f0
   have d8:x.2.1.size<=16:=by rw [f0];exact HX.out _ (d5.out.mem j e5).1
   obtain ⟨a,y,i⟩:=x
   clear b2 h5 f0
   have b7:Hid (Z6 t.heap.size H (.slice I s.length J) (D.alloc (.cells #[.int .u32 (a:Int),.string y,.int .i64 (i:Int)] 92))):=e4.out.below ((af _ _).alloc (ae _) _)
   have b8:Hid (Zq (D.alloc (.cells #[.int .u32 (a:Int),.string y,.int .i64 (i:Int)] 92)) t.heap.size (.slice I s.length J) s):=g9.out.kept ((af _ _).alloc (ae _) _)
   by_cases h7:s.length < n
   ·have T:Hid (ah prog 19 #[.slice I s.length J,.string y] (D.alloc (.cells #[.int .u32 (a:Int),.string y,.int .i64 (i:Int)] 92)) fun e G=>e=.returned (.bool (Xu s y))/\G=(D.alloc (.cells #[.int .u32 (a:Int),.string y,.int .i64 (i:Int)] 92))):=vN I s J y _ (by have:=h4.out;omega) (k8.out.below ((af _ _).alloc (ae _) _))
    have e1:(D.alloc (.cells #[.int .u32 (a:Int),.string y,.int .i64 (i:Int)] 92)).cell? ⟨D.heap.size,1,aa⟩=ab (.string y):=by simp
    by_cases U:y ∈ s
    ·have a3:Hid (Qz h B R n (j+1) s):=a2.out.skip (by rw [<- h6.out];exact U)
     rw [Zl.2 U] at T
     clear U
     go_wp2_with fail
     refine T.out.mono ?_
     rintro e L ⟨rfl,a4⟩
     rw [a4]
     clear a4 L T
     go_wp2
     go_roundw
     case rel=>exact ⟨j+1,s,by omega,by go_num,b8.out,a3.out,b7.out⟩
     case measure=>simp [intOf];omega
    ·have a3 : Hid (Qz h B R n (j + 1) (s ++ [y])) := by
      show Qz h B R n (j+1) (s ++ [y])
      have hy:y=(R j).2:=h6.out
      rw [hy]
      exact a2.out.push d5.out e5 h7 (by rw [<- hy];exact U)
     rw [ag.2 (fun h=>U (Zl.1 h))] at T
     have m7:y.size<=1000000:=by have:y.size<=16:=d8;omega
     clear U d8
     go_wp2_with fail
     refine T.out.mono ?_
     rintro e L ⟨rfl,a4⟩
     rw [a4]
     clear a4 L T
     generalize D.alloc (.cells #[.int .u32 (a:Int),.string y,.int .i64 (i:Int)] 92)=w6 at b7 b8 e1 ⊢
     go_wp2_with fail
     refine (Xs y w6 (by omega)).mono ?_
     rintro e L ⟨rfl,f1⟩
     have h8:Hid (Z6 t.heap.size H (.slice I s.length J) (L.alloc (.cells #[.string y] 9))):=(b7.out.below f1).below ((af _ _).alloc (ae _) _)
     have k9:Hid (Zq (L.alloc (.cells #[.string y] 9)) t.heap.size (.slice I s.length J) s):=(b8.out.kept f1).kept ((af _ _).alloc (ae _) _)
     have l0:Hid (t.heap.size<=(L.alloc (.cells #[.string y] 9)).heap.size):=aP g6.out h8.out.size
     clear f1 e1 q1 q2 q3
     go_wp2_with (first | (at_builtin;refine OU rfl (.tmp 41) (.tmp 45) rfl t.heap.size (.slice I s.length J) s rfl k9.out ⟨L.heap.size,0,aa⟩ y 1 rfl (by rw [ar _ _ _ _ rfl];rfl) (by have:=h4.out;omega) l0.out ?_;intro v' w8 h9 i0 i1))
     have l3:Hid (Zq w8 t.heap.size v' (s ++ [y])):=h9
     have l5:Hid (Z6 t.heap.size H v' w8):=h8.out.app i0 i1
     clear h9 i0 i1
     go_wp2
     go_roundw
     case rel=>exact ⟨j+1,s ++ [y],by omega,by go_num,l3.out,a3.out,l5.out⟩
     case measure=>simp [intOf];omega
   ·have a3:Hid (Qz h B R n (j+1) s):=a2.out.full h7
    go_wp2
    go_roundw
    case rel=>exact ⟨j+1,s,by omega,by go_num,b8.out,a3.out,b7.out⟩
    case measure=>simp [intOf];omega
  ·have l6:j=d.length:=by omega
   subst l6
   have HE:Hid (s.length=n):=a2.out.done d5.out hn i6.out
   go_wp2
   go_ret
   exact ⟨⟨_,s,rfl,g9.out.base HZ.out,HE.out,a2.out.kX⟩,j6.out.trans ((e4.out.toBelow g6.out).mono HZ.out)⟩
end
theorem RA (r:Nat) (W:World):ah prog 32 #[.int .i32 (r:Int)] W fun e G=>e=.returned (.bool (!Xr r))/\G=W:=by
 have f:∀ b,Xr r=b->Hid ((!Xr r)=(!b)):=fun b h=>by show _=_;rw [h]
 rcases (show (97<=r/\r<=122)∨(48<=r/\r<=57)∨r=45∨122 < r∨(57 < r/\r < 97)∨(r < 48/\r≠45) by omega) with d | d | d | d | d | d
 ·have j:=f aB (by simp [Xr,d])
  obtain ⟨q,s⟩:=d
  have o:decide ((r:Int) < 97)=false:=decide_eq_false (by omega)
  have H:decide (122 < (r:Int))=false:=decide_eq_false (by omega)
  rw [j.out]
  clear f
  go_enter func32,ntmps32
  go_wp2
  go_ret
  exact ⟨rfl,rfl⟩
 ·have j:=f aB (by simp [Xr,d])
  obtain ⟨q,s⟩:=d
  have o:decide ((r:Int) < 97)=true:=decide_eq_true (by omega)
  have t:decide ((r:Int) < 48)=false:=decide_eq_false (by omega)
  have A:decide (57 < (r:Int))=false:=decide_eq_false (by omega)
  rw [j.out]
  clear f
  go_enter func32,ntmps32
  go_wp2
  go_ret
  exact ⟨rfl,rfl⟩
 ·have j:=f aB (by simp [Xr,d])
  subst d
  rw [j.out]
  clear f
  go_enter func32,ntmps32
  go_wp2
  go_ret
  exact ⟨rfl,rfl⟩
 ·have j:=f aG (by unfold Xr;rw [decide_eq_false (by omega),decide_eq_false (by omega),decide_eq_false (by omega)];rfl)
  have o:decide ((r:Int) < 97)=false:=decide_eq_false (by omega)
  have H:decide (122 < (r:Int))=true:=decide_eq_true (by omega)
  have t:decide ((r:Int) < 48)=false:=decide_eq_false (by omega)
  have A:decide (57 < (r:Int))=true:=decide_eq_true (by omega)
  have B:((r:Int) != 45)=true:=by rw [bne_iff_ne];omega
  have D:((r:Int)==45)=false:=by rw [beq_eq_false_iff_ne];omega
  rw [j.out]
  clear f
  go_enter func32,ntmps32
  go_wp2
  go_ret
  exact ⟨rfl,rfl⟩
 ·have j:=f aG (by unfold Xr;rw [decide_eq_false (by omega),decide_eq_false (by omega),decide_eq_false (by omega)];rfl)
  obtain ⟨q,s⟩:=d
  have o:decide ((r:Int) < 97)=true:=decide_eq_true (by omega)
  have t:decide ((r:Int) < 48)=false:=decide_eq_false (by omega)
  have A:decide (57 < (r:Int))=true:=decide_eq_true (by omega)
  have B:((r:Int) != 45)=true:=by rw [bne_iff_ne];omega
  have D:((r:Int)==45)=false:=by rw [beq_eq_false_iff_ne];omega
  rw [j.out]
  clear f
  go_enter func32,ntmps32
  go_wp2
  go_ret
  exact ⟨rfl,rfl⟩
 ·have j:=f aG (by unfold Xr;rw [decide_eq_false (by omega),decide_eq_false (by omega),decide_eq_false (by omega)];rfl)
  obtain ⟨q,s⟩:=d
  have o:decide ((r:Int) < 97)=true:=decide_eq_true (by omega)
  have t:decide ((r:Int) < 48)=true:=decide_eq_true (by omega)
  have B:((r:Int) != 45)=true:=by rw [bne_iff_ne];omega
  have D:((r:Int)==45)=false:=by rw [beq_eq_false_iff_ne];omega
  rw [j.out]
  clear f
  go_enter func32,ntmps32
  go_wp2
  go_ret
  exact ⟨rfl,rfl⟩
theorem AE (s:ByteArray):∀ (f i:Nat),s.size<=i+f->(decide (0<=Lib.idxFuncFrom (fun r=>!Xr r) aB s f i)=aB↔∃ j,i<=j/\j < s.size/\Xr (Gf.nth (bytesOf s) j)=aG)
 | 0,i,h=>by
  constructor
  ·intro o
   have q:decide ((0:Int)<=-1)=true:=o
   cases q
  ·rintro ⟨j,o,q,_⟩
   omega
 | f+1,i,h=>by
  show decide (0<=(if i < s.size then (if (!Xr (Utf8.decode s i).1)=aB then (i:Int) else Lib.idxFuncFrom (fun r=>!Xr r) aB s f (i+(Utf8.decode s i).2)) else -1))=aB↔_
  by_cases d:i < s.size
  ·rw [if_pos d]
   by_cases B:(s[i]'d).toNat < 128
   ·rw [decode_ascii s i d B,<- uD s i d]
    have ih:=AE s f (i+1) (by omega)
    cases A:Xr (Gf.nth (bytesOf s) i) with
    | false =>
     rw [if_pos (by rfl)]
     exact ⟨fun _=>⟨i,ae _,d,A⟩,fun _=>decide_eq_true (by omega)⟩
    | true =>
     rw [if_neg (by simp),ih]
     constructor
     ·rintro ⟨j,o,q,t⟩
      exact ⟨j,by omega,q,t⟩
     ·rintro ⟨j,o,q,t⟩
      refine ⟨j,?_,q,t⟩
      by_cases e:j=i
      ·rw [e,A] at t;cases t
      ·omega
   ·have o:=(decode_high s i d (by omega)).1
    have A:Xr (Utf8.decode s i).1=false:=by
     unfold Xr
     rw [decide_eq_false (by omega),decide_eq_false (by omega),decide_eq_false (by omega)]
     rfl
    have D:Xr (Gf.nth (bytesOf s) i)=false:=by
     rw [uD s i d]
     unfold Xr
     rw [decide_eq_false (by omega),decide_eq_false (by omega),decide_eq_false (by omega)]
     rfl
    rw [A,if_pos (by rfl)]
    exact ⟨fun _=>⟨i,ae _,d,D⟩,fun _=>decide_eq_true (by omega)⟩
  ·rw [if_neg d]
   constructor
   ·intro o
    cases o
   ·rintro ⟨j,o,q,_⟩
    omega
theorem U7 (s:ByteArray):decide (0<=Lib.idxFunc (fun r=>!Xr r) aB s)=!((bytesOf s).all Xr):=by
 have h:=AE s s.size 0 (by omega)
 cases f:(bytesOf s).all Xr with
 | true =>
  rw [show (!aB)=aG from rfl,ag]
  intro q
  obtain ⟨j,_,d,t⟩:=h.1 q
  have o:j < (bytesOf s).length:=by rw [tZ];exact d
  rw [List.all_eq_true] at f
  have:=f (Gf.nth (bytesOf s) j) (by rw [Gf.aK _ j o];exact aS o)
  rw [t] at this
  cases this
 | false =>
  obtain ⟨x,A,B⟩:=List.all_eq_false.1 f
  obtain ⟨j,d,rfl⟩:=aJ A
  refine h.2 ⟨j,ak _,by rw [tZ] at d;exact d,?_⟩
  rw [Gf.aK _ j d]
  exact ag.2 B
theorem qF (s:ByteArray) (w:World):ah prog 18 #[.string s] w fun e j=>e=.returned (.bool (Jo s))/\ac w.heap.size w j:=by
 by_cases B:s.size < 1
 ·have d:Hid (Jo s=aG):=CT (by omega)
  have o:decide (1<=(s.size:Int))=false:=decide_eq_false (by omega)
  rw [d.out]
  go_enter func18,ntmps18
  go_wp2
  go_ret
  exact ⟨rfl,af _ _⟩
 have o:decide (1<=(s.size:Int))=true:=decide_eq_true (by omega)
 by_cases D:16 < s.size
 ·have d:Hid (Jo s=aG):=CT (by omega)
  have q:decide ((s.size:Int)<=16)=false:=decide_eq_false (by omega)
  rw [d.out]
  go_enter func18,ntmps18
  go_wp2
  go_ret
  exact ⟨rfl,af _ _⟩
 have q:decide ((s.size:Int)<=16)=true:=decide_eq_true (by omega)
 have f:=strings_ContainsFunc 32 #[] (enters_of func32 (by kernel_rfl) rfl) (fun r=>!Xr r) s w (fun W r _=>by
  unfold FnGives
  exact (RA r W).mono fun _ _ ⟨t,A⟩=>⟨t,0,A⟩)
 rw [U7] at f
 have d:Hid (Jo s=(bytesOf s).all Xr):=by show _=_;unfold Jo;rw [decide_eq_true ⟨by omega,by omega⟩,Bool.true_and]
 rw [d.out]
 generalize (bytesOf s).all Xr=r at *
 clear d
 go_enter func18,ntmps18
 go_wp2_with fail
 refine f.mono ?_
 rintro e G ⟨rfl,h⟩
 clear f
 cases r with
 | true =>
  go_wp2
  go_ret
  exact ⟨rfl,h⟩
 | false =>
  go_wp2
  go_ret
  exact ⟨rfl,h⟩
structure E3 (w:World) (ad:Nat->av):Prop where
 c1:w.cell? ⟨0,0,aa⟩=ab (.iface 158 (.pointer (ab (ad 1))))
 c3:w.cell? ⟨1,0,aa⟩=ab (.iface 158 (.pointer (ab (ad 3))))
 c5:w.cell? ⟨2,0,aa⟩=ab (.iface 158 (.pointer (ab (ad 5))))
theorem E3.below  (h:E3 w ad) (d:ac w.heap.size w f):E3 f ad:=⟨(d.cell (Yl h.c1)).trans h.c1,(d.cell (Yl h.c3)).trans h.c3,(d.cell (Yl h.c5)).trans h.c5⟩
theorem zP  {t:TypeId} (i:Nat) (f:i < 12) (at_:Int) (h:d=w.alloc (.cells #[.int .i64 at_,.iface 158 (.pointer (ab (ad i)))] t)):Jd d ad (.iface 49 (.pointer (ab ⟨w.heap.size,0,aa⟩))) ((i+1:Nat):Int) at_:=by
 subst h
 refine ax (ax ⟨i,w.heap.size,f,rfl,rfl,?_,?_⟩)
 ·rw [ar _ _ _ _ rfl];rfl
 ·rw [ar _ _ _ _ rfl];rfl
theorem SA (ad:Nat->av) (p:Option av) (l:List ByteArray) (c:Nat) (w:World) (A:l.length<=1000) (o:E3 w ad) (h:l.length < 1∨16 < l.length) :
 ah prog 8 #[.slice p l.length c] w fun e d=>(∃ f,e=.returned f/\Jd d ad f 2 (-1))/\ac w.heap.size w d:=by
 have s:=o.c1
 have j:Hid (∀ W,Jd W ad (.iface 158 (.pointer (ab (ad 1)))) 2 (-1)):=fun W=>Jd.b8 1 (by decide)
 clear o
 rcases h with h | h
 ·have q:decide ((l.length:Int) < 1)=true:=decide_eq_true (by omega)
  go_enter func8,ntmps8
  go_wp2
  go_ret
  exact ⟨⟨_,rfl,j.out _⟩,af _ _⟩
 ·have q:decide ((l.length:Int) < 1)=false:=decide_eq_false (by omega)
  have t:=decide_eq_true (by omega)
  go_enter func8,ntmps8
  go_wp2
  go_ret
  exact ⟨⟨_,rfl,j.out _⟩,af _ _⟩
theorem MA (ad:Nat->av) (p:Option av) (l:List ByteArray) (c:Nat) (w:World) (h1:¬ l.length < 1) (h2:¬ 16 < l.length) (hc:l.length<=c) (hs:Strs w p l) (hE:E3 w ad) :
 ah prog 8 #[.slice p l.length c] w fun e H=>(∃ ev,e=.returned ev/\Jd H ad ev (XO l 0 l.length).1 (XO l 0 l.length).2)/\ac w.heap.size w H:=by
 have HS:Hid (Strs w p l):=hs
 have HE:Hid _:=hE
 have g1:=decide_eq_false (by omega)
 have g2:=decide_eq_false (by omega)
 obtain ⟨b,o,rfl⟩:∃ b o,p=ab ⟨b,o,aa⟩:=by
  rcases hs with Q | ⟨b,o,S,_⟩
  ·rw [Q] at h1;exact absurd (by decide) h1
  ·exact ⟨b,o,S⟩
 clear hs hE
 obtain ⟨R,T⟩:∃ R,R=XO l 0 l.length:=⟨_,rfl⟩
 rw [<- T]
 have HR:Hid _:=T
 clear T
 go_enter func8,ntmps8
 go_wp2
 go_loopw [16] (fun x wq=>∃ i:Nat,i<=l.length/\x=.int .i64 i/\XO l i (l.length - i)=R/\ac w.heap.size w wq) (fun x _=>l.length - (intOf x).toNat)
 case atStart=>exact ⟨0,ak _,rfl,HR.out.symm,af _ _⟩
 case round =>
  obtain ⟨i,hi,rfl,a2,O⟩:=hrel
  obtain ⟨K,rfl⟩:∃ K,K=wr:=⟨_,rfl⟩
  have j:Hid _:=a2
  have s:Hid _:=O
  have U:Hid (Strs K (ab ⟨b,o,aa⟩) l):=HS.out.below O
  have a3:Hid (E3 K ad):=HE.out.below O
  clear a2 O HR HS HE
  by_cases V:i < l.length
  ·have Y : K.cell? ⟨b, o + i, aa⟩ = ab (.string (Yc l i)) := by
    rcases U.out with Q | ⟨b',o',S,_,a4⟩
    ·rw [Q] at V;exact absurd V (ap _)
    ·obtain ⟨rfl,rfl⟩:b=b'/\o=o':=by simpa using S
     exact a4 i V
   have q:Hid (∀ W,ah prog 18 #[.string (Yc l i)] W fun e H=>e=.returned (.bool (Jo (Yc l i)))/\ac W.heap.size W H):=fun W=>qF _ W
   have I:Hid (XO l i (l.length - i)=if Yu l i=0 then XO l (i+1) (l.length - (i+1)) else (((Yu l i:Nat):Int),(i:Int))):=by
    show _=_
    rw [show l.length - i=(l.length - (i+1))+1 by omega]
    rfl
   by_cases A:Jo (Yc l i)=aB
   ·have B:Hid (∀ W,Strs W (ab ⟨b,o,aa⟩) (l.take i)->ah prog 19 #[.slice (ab ⟨b,o,aa⟩) (l.take i).length c,.string (Yc l i)] W fun e H=>e=.returned (.bool (Xu (l.take i) (Yc l i)))/\H=W):=fun W hW=>vN _ _ c _ W (by rw [am];omega) hW
    rw [show (l.take i).length=i by rw [am];omega] at B
    rw [A] at q
    by_cases J:Yc l i ∈ l.take i
    ·have D : Hid (R = (6, (i : Int))) := by
      show _=_
      rw [<- j.out,I.out,TL A J,if_neg (by decide)]
      rfl
     rw [Zl.2 J] at B
     clear j I A J
     generalize Yc l i=t at *
     go_wp2_with fail
     refine (q.out _).mono ?_
     rintro e f ⟨rfl,d⟩
     have G:Hid (ac w.heap.size w f):=s.out.trans (d.mono s.out.size)
     have L:Hid (Strs f (ab ⟨b,o,aa⟩) (l.take i)):=(U.out.below d).take i
     have M:E3 f ad:=a3.out.below d
     have q4:=M.c5
     clear M d q Y
     go_wp2_with fail
     refine (B.out _ L.out).mono ?_
     rintro e Z ⟨rfl,N⟩
     rw [N]
     clear N Z B L
     go_wp2
     go_ret
     exact ⟨⟨_,rfl,by rw [D.out];exact zP (w:=f) 5 (by decide) (i:Int) rfl⟩,G.out.alloc G.out.size _⟩
    ·have D : Hid (XO l (i + 1) (l.length - (i + 1)) = R) := by
      show _=_
      rw [<- j.out,I.out,ET A J,if_pos rfl]
     rw [ag.2 (fun h=>J (Zl.1 h))] at B
     clear j I A J
     generalize Yc l i=t at *
     go_wp2_with fail
     refine (q.out _).mono ?_
     rintro e f ⟨rfl,d⟩
     have G:Hid (ac w.heap.size w f):=s.out.trans (d.mono s.out.size)
     have L:Hid (Strs f (ab ⟨b,o,aa⟩) (l.take i)):=(U.out.below d).take i
     clear d q Y
     go_wp2_with fail
     refine (B.out _ L.out).mono ?_
     rintro e Z ⟨rfl,N⟩
     rw [N]
     clear N Z B L
     go_wp2
     go_roundw
     case rel=>exact ⟨i+1,by omega,by go_num,D.out,G.out⟩
     case measure=>simp [intOf];omega
   ·have a0:Jo (Yc l i)=false:=ag.2 A
    have D:Hid (R=(4,(i:Int))):=by
     show _=_
     rw [<- j.out,I.out,n5 a0,if_neg (by decide)]
     rfl
    rw [a0] at q
    clear j I A a0
    generalize Yc l i=t at *
    go_wp2_with fail
    refine (q.out _).mono ?_
    rintro e f ⟨rfl,d⟩
    have G:Hid (ac w.heap.size w f):=s.out.trans (d.mono s.out.size)
    have M:E3 f ad:=a3.out.below d
    have q4:=M.c3
    clear M d q Y
    go_wp2
    go_ret
    exact ⟨⟨_,rfl,by rw [D.out];exact zP (w:=f) 3 (by decide) (i:Int) rfl⟩,G.out.alloc G.out.size _⟩
  ·have a5:i=l.length:=by omega
   subst a5
   have D:Hid (R=(0,-1)):=by
    show _=_
    rw [<- j.out,Nat.sub_self]
    rfl
   clear j
   go_wp2
   go_ret
   exact ⟨⟨_,rfl,by rw [D.out];exact Jd.nil _ _⟩,s.out⟩
theorem IF (ad:Nat->av) (p:Option av) (l:List ByteArray) (c:Nat) (w:World) (o:l.length<=1000) (q:l.length<=c) (s:Strs w p l) (j:E3 w ad) :
 ah prog 8 #[.slice p l.length c] w fun e d=>(∃ f,e=.returned f/\Jd d ad f (Xj l).1 (Xj l).2)/\ac w.heap.size w d:=by
 by_cases h:l.length < 1∨16 < l.length
 ·rw [E7 h]
  exact SA ad p l c w o j h
 ·rw [AB (by omega) (by omega)]
  exact MA ad p l c w (by omega) (by omega) q s j
theorem zF (ad:Nat->av) (p:Option av) (l:List ByteArray) (c:Nat) (w:World) (j:l.length<=1000) (o:l.length<=c) (q:Strs w p l) (d:i7 w ad) :
 ah prog 8 #[.slice p l.length c] w fun e f=>(∃ h,e=.returned h/\Jd f ad h (Xj l).1 (Xj l).2)/\ac w.heap.size w f:=by
 exact IF ad p l c w j o q ⟨d.c1,d.c3,d.c5⟩
section
open Ring Go.Sort
theorem rG  (h:w.cell? ⟨b,o,aa⟩=ab v):b < w.heap.size:=by
 rcases aj b w.heap.size with d | d
 ·exact d
 ·simp [zd,aC d] at h
def sU (w:World) (o:List ByteArray) (n:Nat) (q:Array aA):Prop :=
 ∃ (f h g j:Nat) (d:List Pt),q=#[.pointer (ab ⟨f,0,aa⟩),.pointer (ab ⟨h,0,aa⟩)]/\w.cell? ⟨f,0,aa⟩=ab (.slice (ab ⟨g,0,aa⟩) d.length j)/\w.cell? ⟨h,0,aa⟩=ab (.int .i64 (n:Int))/\d.length<=j/\Ql pE w (ab ⟨g,0,aa⟩) d/\lG o d
theorem sU.below {t:List ByteArray} {n:Nat} {A:Array aA} (h:sU w t n A) (d:ac w.heap.size w s):sU s t n A:=by
 obtain ⟨f,j,g,B,D,G,o,q,H,I,J⟩:=h
 exact ⟨f,j,g,B,D,G,(d.cell (p:=⟨f,0,aa⟩) (rG o)).trans o,(d.cell (p:=⟨j,0,aa⟩) (rG q)).trans q,H,I.below d,J⟩
structure cH (nodes:List ByteArray) (n:Nat):Prop where
 l1:1<=nodes.length
 l2:nodes.length<=16
 sz:∀ x ∈ nodes,x.size<=16
 nd:nodes.Nodup
 n:n<=nodes.length
theorem FT  (h:¬ 0 < (Jm l n).1):cH l n.toNat/\((n.toNat:Nat):Int)=n:=by
 obtain ⟨d,t,A,_⟩:=sK h
 obtain ⟨f,j⟩:=YP d
 obtain ⟨_,o,q⟩:=QV d
 exact ⟨⟨o,q,fun x s=>(QF (f x s)).2,j,by omega⟩,by omega⟩
theorem u1 {h n M:Nat} {s:List ByteArray} {R:Nat->Nat×ByteArray} (t:qL h s R M):∀ j,j<=M->∃ d,Qz h s R n j d
 | 0,_=>⟨[],Qz.start _ _ _ _⟩
 | j+1,hj=>by
  obtain ⟨d,f⟩:=u1 (n:=n) t j (by omega)
  by_cases o:d.length < n
  ·by_cases q:(R j).2 ∈ d
   ·exact ⟨d,f.skip q⟩
   ·exact ⟨_,f.push t (by omega) o q⟩
  ·exact ⟨d,f.full o⟩
theorem sU.ex {j:List ByteArray} {n:Nat} {B:Array aA} (D:sU w j n B) (o:cH j n) (h:Nat):∃ d,XC h j d/\d.length=n:=by
 obtain ⟨_,_,_,_,q,_,_,_,_,_,A⟩:=D
 obtain ⟨f,_,_,_,_,_,s,_⟩:=O8 h j q A o.l1
 obtain ⟨d,t⟩:=u1 (n:=n) s q.length (ae _)
 exact ⟨d,t.kX,t.done s o.n o.nd⟩
theorem H0 (o:List ByteArray) (n:Nat) (N:Array aA) (j:ByteArray) (w:World) (hk:j.size<=1000) (q:cH o n) (hc:sU w o n N) :
 ah prog 35 (#[.string j] ++ N) w fun e f=>(∃ v d,e=.returned v/\Zq f w.heap.size v d/\d.length=n/\XC (Xy j) o d)/\ac w.heap.size w f:=by
 obtain ⟨O,Q,g,s,t,rfl,R,S,D,G,H⟩:=hc
 have I:Hid (∀ W,ah prog 37 #[.string j] W fun e f=>e=.returned (.int .u32 ((Xy j:Nat):Int))/\f=W):=fun W=>IH j W (by omega)
 have J:Hid (∀ W,ac w.heap.size w W->ah prog 36 #[.slice (ab ⟨g,0,aa⟩) t.length s,.int .u32 ((Xy j:Nat):Int),.int .i64 (n:Int)] W fun e f=>(∃ v d,e=.returned v/\Zq f W.heap.size v d/\d.length=n/\XC (Xy j) o d)/\ac W.heap.size W f):=fun W T=>WY g s t o (Xy j) n W H q.l1 q.l2 q.n q.sz q.nd D (G.below T)
 clear q D G H
 generalize Xy j=h at *
 generalize t.length=m at *
 show ah prog 35 #[.string j,.pointer (ab ⟨O,0,aa⟩),.pointer (ab ⟨Q,0,aa⟩)] w _
 go_enter func35,ntmps35
 go_wp2
 refine aE 4 (by kernel_rfl) (by kernel_rfl) ?_
 simp only [aI,zg,zb,zj]
 still_step
 still_step
 still_call (I.out _)
 still_step
 refine wpStill_nil ?_
 change bu _ _ _ _ _ (w.drewN 1)
 have U:(w.drewN 1).heap.size=w.heap.size:=rfl
 have A:Hid (ah prog 36 #[.slice (ab ⟨g,0,aa⟩) m s,.int .u32 (h:Int),.int .i64 (n:Int)] (w.drewN 1) fun e f=>(∃ v d,e=.returned v/\Zq f w.heap.size v d/\d.length=n/\XC h o d)/\ac w.heap.size w f):=by
  refine (J.out (w.drewN 1) (aF (af _ _) 1)).mono ?_
  rintro e f ⟨V,Y⟩
  exact ⟨V,(aF (af _ w) 1).trans Y⟩
 generalize w.drewN 1=w1 at A ⊢
 clear J I U R S
 go_wp2_with fail
 refine A.out.mono ?_
 rintro e Z ⟨⟨v,d,rfl,K,L,M⟩,hb⟩
 have B:Hid (Zq Z w.heap.size v d/\d.length=n/\XC h o d):=⟨K,L,M⟩
 clear K L M A
 go_wp2
 go_ret
 exact ⟨⟨_,d,rfl,B.out.1,B.out.2.1,B.out.2.2⟩,hb⟩
theorem UE  (h:0 < (Xj l).1):Jm l n=Xj l:=if_pos h
theorem VA  (h:¬ 0 < (Xj l).1) (d:(l.length:Int) < n):Jm l n=(8,-1):=by unfold Jm;rw [if_neg h,if_pos d]
theorem R9  (h:¬ 0 < (Xj l).1) (d:¬ (l.length:Int) < n) (f:n < 0):Jm l n=(2,-1):=by unfold Jm;rw [if_neg h,if_neg d,if_pos f]
theorem Jd.none  {f:aA} {c at_:Int} (h:Jd w ad f c at_) (j:¬ 0 < c):f=.nilIface:=by
 rcases h with ⟨d,_⟩ | ⟨i,_,_,d,_⟩ | ⟨i,_,_,_,d,_⟩
 ·exact d
 ·exact absurd (by rw [d];omega) j
 ·exact absurd (by rw [d];omega) j
theorem UL (ad:Nat->av) (p:Option av) (l:List ByteArray) (c:Nat) (n:Int) (w:World) (V:l.length<=1000) (Y:l.length<=c) (S:Strs w p l) (O:i7 w ad) (h:0 < (Jm l n).1) :
 ah prog 23 #[.slice p l.length c,.int .i64 n] w fun e Q=>(∃ q,e=.returned (.tuple #[.nilFunc,q])/\Jd Q ad q (Jm l n).1 (Jm l n).2)/\ac w.heap.size w Q:=by
 obtain ⟨f,I⟩:∃ f,f=w.alloc (.cells #[.int .i64 n] 3):=⟨_,rfl⟩
 have D:ac w.heap.size w f:=by rw [I];exact (af _ _).alloc (ae _) _
 have J:f.cell? ⟨w.heap.size,0,aa⟩=ab (.int .i64 n):=by rw [I];simp
 have s:=zF ad p l c f V Y (S.below D) (O.below D)
 have R:Hid (i7 f ad):=O.below D
 have M:Hid (f=w.alloc (.cells #[.int .i64 n] 3)):=I
 have A:Hid (ac w.heap.size w f):=D
 have K:Hid (f.cell? ⟨w.heap.size,0,aa⟩=ab (.int .i64 n)):=J
 clear I D S O J
 by_cases B:0 < (Xj l).1
 ·rw [UE B]
  clear h
  go_enter func23,ntmps23
  go_wp2_with fail
  rw [<- M.out]
  refine s.mono ?_
  rintro e o ⟨⟨q,rfl,j⟩,d⟩
  have G:Hid (Jd o ad q (Xj l).1 (Xj l).2):=j
  obtain ⟨t,v,rfl⟩:=j.some B
  have H:Hid (ac w.heap.size w o):=A.out.trans (d.mono A.out.size)
  clear d s j
  go_wp2
  go_ret2
  exact ⟨⟨_,rfl,G.out⟩,H.out⟩
 ·by_cases L:(l.length:Int) < n
  ·rw [VA B L]
   clear h
   go_enter func23,ntmps23
   go_wp2_with fail
   rw [<- M.out]
   refine s.mono ?_
   rintro e o ⟨⟨q,rfl,j⟩,d⟩
   obtain rfl:=j.none (by omega)
   have H:Hid (ac w.heap.size w o):=A.out.trans (d.mono A.out.size)
   have J:o.cell? ⟨w.heap.size,0,aa⟩=ab (.int .i64 n):=(d.cell (p:=⟨w.heap.size,0,aa⟩) (rG K.out)).trans K.out
   have T:=(R.out.below d).c7
   have G:Hid (∀ W,Jd W ad (.iface 158 (.pointer (ab (ad 7)))) 8 (-1)):=fun W=>Jd.b8 7 (by decide)
   clear d s j
   have U:decide ((l.length:Int) < n)=true:=decide_eq_true L
   go_wp2
   go_quiet (fail)
   go_wp2
   go_ret2
   exact ⟨⟨_,rfl,G.out _⟩,aF H.out _⟩
  ·by_cases N:n < 0
   ·rw [R9 B L N]
    clear h
    go_enter func23,ntmps23
    go_wp2_with fail
    rw [<- M.out]
    refine s.mono ?_
    rintro e o ⟨⟨q,rfl,j⟩,d⟩
    obtain rfl:=j.none (by omega)
    have H:Hid (ac w.heap.size w o):=A.out.trans (d.mono A.out.size)
    have J:o.cell? ⟨w.heap.size,0,aa⟩=ab (.int .i64 n):=(d.cell (p:=⟨w.heap.size,0,aa⟩) (rG K.out)).trans K.out
    have T:=(R.out.below d).c1
    have G:Hid (∀ W,Jd W ad (.iface 158 (.pointer (ab (ad 1)))) 2 (-1)):=fun W=>Jd.b8 1 (by decide)
    clear d s j
    have U:decide ((l.length:Int) < n)=false:=decide_eq_false (by omega)
    have Z:decide (n < 0)=true:=decide_eq_true N
    go_wp2
    go_quiet (fail)
    go_wp2
    go_ret2
    exact ⟨⟨_,rfl,G.out _⟩,aF H.out _⟩
   ·exfalso
    unfold Jm at h
    rw [if_neg B,if_neg L,if_neg N] at h
    exact B h
theorem JoU (ad:Nat->av) (p:Option av) (l:List ByteArray) (c:Nat) (n:Int) (w:World) (hl:l.length<=1000) (hc:l.length<=c) (I:Strs w p l) (hE:i7 w ad) (h:¬ 0 < (Jm l n).1) :
 ah prog 23 #[.slice p l.length c,.int .i64 n] w fun e q=>(∃ J,e=.returned (.tuple #[.func (.func 35) #[] J,.nilIface])/\sU q l n.toNat J)/\ac w.heap.size w q:=by
 obtain ⟨s,K⟩:=FT h
 have hN:¬ 0 < (Xj l).1:=by have:=(sK h).1;omega
 obtain ⟨d,D⟩:∃ d,d=w.alloc (.cells #[.int .i64 n] 3):=⟨_,rfl⟩
 have t:ac w.heap.size w d:=by rw [D];exact (af _ _).alloc (ae _) _
 have A:d.cell? ⟨w.heap.size,0,aa⟩=ab (.int .i64 n):=by rw [D];simp
 have L:=zF ad p l c d hl hc (I.below t) (hE.below t)
 have M:Hid (∀ W,ac d.heap.size d W->ah prog 34 #[.slice p l.length c] W fun e q=>(∃ g o f,e=.returned (.slice (ab ⟨g,0,aa⟩) f.length o)/\f.length<=o/\W.heap.size<=g/\Ql pE q (ab ⟨g,0,aa⟩) f/\lG l f)/\ac W.heap.size W q):=fun W hW=>OS p l c W s.l1 s.l2 s.sz ((I.below t).below hW)
 have a0:Hid (d=w.alloc (.cells #[.int .i64 n] 3)):=D
 have N:Hid (ac w.heap.size w d):=t
 have O:Hid (d.cell? ⟨w.heap.size,0,aa⟩=ab (.int .i64 n)):=A
 have a2:Hid (((n.toNat:Nat):Int)=n):=K
 have d1:decide ((l.length:Int) < n)=false:=decide_eq_false (by have:=s.n;omega)
 have d2:decide (n < 0)=false:=decide_eq_false (by omega)
 clear D t I hE A K s h
 go_enter func23,ntmps23
 go_wp2_with fail
 rw [<- a0.out]
 refine L.mono ?_
 rintro e B ⟨⟨ev,rfl,Q⟩,G⟩
 obtain rfl:=Q.none (by omega)
 have a3:Hid (ac d.heap.size d B):=G
 have R:Hid (ac w.heap.size w B):=N.out.trans (G.mono N.out.size)
 have A:B.cell? ⟨w.heap.size,0,aa⟩=ab (.int .i64 n):=(G.cell (p:=⟨w.heap.size,0,aa⟩) (rG O.out)).trans O.out
 have S:Hid (B.cell? ⟨w.heap.size,0,aa⟩=ab (.int .i64 n)):=A
 clear G L Q
 go_wp2_with fail
 refine (M.out B a3.out).mono ?_
 rintro e j ⟨⟨g,o,f,rfl,T,h5,U,V⟩,H⟩
 have Y:Hid (ac w.heap.size w j):=R.out.trans (H.mono R.out.size)
 have a4:Hid (sU (j.alloc (.cells #[.slice (ab ⟨g,0,aa⟩) f.length o] 71)) l n.toNat #[.pointer (ab ⟨j.heap.size,0,aa⟩),.pointer (ab ⟨w.heap.size,0,aa⟩)]):=by
  have Z:ac j.heap.size j (j.alloc (.cells #[.slice (ab ⟨g,0,aa⟩) f.length o] 71)):=(af _ _).alloc (ae _) _
  have q3:j.cell? ⟨w.heap.size,0,aa⟩=ab (.int .i64 n):=(H.cell (p:=⟨w.heap.size,0,aa⟩) (rG S.out)).trans S.out
  refine ⟨j.heap.size,w.heap.size,g,o,f,rfl,by simp,?_,T,U.below Z,V⟩
  rw [a2.out]
  exact (Z.cell (p:=⟨w.heap.size,0,aa⟩) (rG q3)).trans q3
 clear T h5 U V H M A
 generalize f.length=m at *
 go_wp2
 go_ret2
 exact ⟨⟨_,rfl,a4.out⟩,Y.out.alloc Y.out.size _⟩
end
section
open Ring
theorem z1:∀ args W,(callFunc 35 args).run prog W=.ok (.enter 35 args) W:=enters_of func35 (by kernel_rfl) rfl
theorem HV (ad:Nat->av) (p:Option av) (l:List ByteArray) (c:Nat) (G:ByteArray) (n:Int) (w:World) (H:l.length<=1000) (I:l.length<=c) (q:Strs w p l) (s:i7 w ad) (h:0 < (Jm l n).1) :
 ah prog 11 #[.slice p l.length c,.string G,.int .i64 n] w fun e j=>(∃ d,e=.returned (.tuple #[.slice aa 0 0,d])/\Jd j ad d (Jm l n).1 (Jm l n).2)/\ac w.heap.size w j:=by
 have o:=UL ad p l c n w H I q s h
 generalize Jm l n=F at *
 clear q s
 go_enter func11,ntmps11
 go_wp2_with fail
 refine o.mono ?_
 rintro e A ⟨⟨d,rfl,f⟩,B⟩
 have D:Hid (Jd A ad d F.1 F.2):=f
 obtain ⟨t,v,rfl⟩:=f.some h
 clear f o
 go_wp2
 go_ret2
 exact ⟨⟨_,rfl,D.out⟩,B⟩
theorem T1 (ad:Nat->av) (p:Option av) (l:List ByteArray) (c:Nat) (f:ByteArray) (n:Int) (w:World) (V:l.length<=1000) (Y:l.length<=c) (Z:f.size<=1000) (N:Strs w p l) (O:i7 w ad) (h:¬ 0 < (Jm l n).1) :
 ah prog 11 #[.slice p l.length c,.string f,.int .i64 n] w fun e j=>(∃ v d,e=.returned (.tuple #[v,.nilIface])/\Zq j w.heap.size v d/\(d.length:Int)=n/\XC (Xy f) l d)/\ac w.heap.size w j:=by
 have D:=JoU ad p l c n w V Y N O h
 obtain ⟨G,H⟩:=FT h
 have I:Hid (∀ o W,sU W l n.toNat o->ah prog 35 (#[.string f] ++ o) W fun e j=>(∃ v d,e=.returned v/\Zq j W.heap.size v d/\(d.length:Int)=n/\XC (Xy f) l d)/\ac W.heap.size W j):=fun o W Q=>by
  refine (H0 l n.toNat o f W Z G Q).mono ?_
  rintro e j ⟨⟨v,d,rfl,q,s,t⟩,R⟩
  exact ⟨⟨v,d,rfl,q,by rw [s];exact H,t⟩,R⟩
 generalize Xy f=S at *
 clear N O h G H
 have a0:=z1
 go_enter func11,ntmps11
 go_wp2_with fail
 refine D.mono ?_
 rintro e J ⟨⟨o,rfl,K⟩,L⟩
 have M:=I.out o J K
 have A:Hid (ac w.heap.size w J):=L
 clear D K L I
 go_wp2_with fail
 refine M.mono ?_
 rintro e T ⟨⟨v,d,rfl,q,s,t⟩,U⟩
 have B:Hid (Zq T w.heap.size v d/\(d.length:Int)=n/\XC S l d):=⟨q.base A.out.size,s,t⟩
 clear q s t M
 go_wp2
 go_ret2
 exact ⟨⟨_,d,rfl,B.out.1,B.out.2.1,B.out.2.2⟩,A.out.trans (U.mono A.out.size)⟩
theorem FU (ad:Nat->av):P7 ad where
 check p l c w h1 h2 h3 h4 h5:=zF ad p l c w h1 h2 h4 h5
 jD p l c key n w h1 h2 h3 h4 h5 h6:=by
  by_cases h:0 < (Jm l n).1
  ·refine (HV ad p l c key n w h1 h2 h5 h6 h).mono ?_
   rintro e f ⟨⟨j,rfl,o⟩,d⟩
   exact ⟨aw ⟨h,aa,0,j,rfl,o⟩,d⟩
  ·refine (T1 ad p l c key n w h1 h2 h4 h5 h6 h).mono ?_
   rintro e f ⟨⟨v,q,rfl,s,t,A⟩,d⟩
   exact ⟨ax ⟨h,v,q,rfl,s,t,A⟩,d⟩
end
end Go.Proofs.YtppcijpgalaohaaGreatDoor

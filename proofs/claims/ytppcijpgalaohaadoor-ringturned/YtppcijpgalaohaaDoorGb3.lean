/- Texts laid together. -/
import Derived.Test.YtppcijpgalaohaaDoorGb2
import Derived.StillTailTactics
import Derived.Lib.AppendZerosOnto
import Derived.Deep.OwnRows
import Derived.Laws.RangeAny
namespace Go.Proofs.YtppcijpgalaohaaDoor
open Go.Proofs.Tryd
open Go.RowKit
variable {a b B g o:Nat}{x y:ByteArray}{d w f s:World}{n:Int}{v:Value}{ad:Nat->Addr}{l:List ByteArray}
section
open Ring Go.Sort
abbrev Pt:=Nat×ByteArray×Nat
def QS (x:Pt):List Value:=[.int .u32 (x.1:Int),.string x.2.1,.int .i64 (x.2.2:Int)]
def pE:eW Pt where
 k:=3
 pos:=by decide
 enc:=QS
 len:=fun _=>rfl
 one:=fun x u d=>by
  simp [QS] at d
  rcases d with rfl | rfl | rfl <;> rfl
def kO (p q:Pt):Int:=mG (JP p.1 q.1) (gK p.2.1 q.2.1) (JP p.2.2 q.2.2)
def nn (p:Pt):Nat×ByteArray:=(p.1,p.2.1)
def j8 (p q:Pt):Prop:=eV (nn p) (nn q)∨nn p=nn q/\p.2.2 < q.2.2
theorem DH :JP a b < 0↔a < b:=by
 unfold JP
 split
 ·rename_i h;exact ⟨fun _=>h,fun _=>by decide⟩
 ·rename_i h
  split
  ·exact ⟨fun d=>absurd d (by decide),fun d=>absurd d h⟩
  ·exact ⟨fun d=>absurd d (by decide),fun d=>absurd d h⟩
theorem AS :JP a b=0↔a=b:=by
 unfold JP
 split
 ·rename_i h;exact ⟨fun d=>absurd d (by decide),fun d=>by omega⟩
 ·split
  ·exact ⟨fun d=>absurd d (by decide),fun d=>by omega⟩
  ·exact ⟨fun _=>by omega,fun _=>rfl⟩
theorem x0 :gK x y < 0↔bl x y:=by
 unfold gK bl
 split
 ·rename_i h;exact ⟨fun _=>h,fun _=>by decide⟩
 ·rename_i h
  split
  ·exact ⟨fun d=>absurd d (by decide),fun d=>absurd d h⟩
  ·exact ⟨fun d=>absurd d (by decide),fun d=>absurd d h⟩
theorem GK :gK x y=0↔x=y:=by
 unfold gK
 split
 ·rename_i h
  exact ⟨fun d=>absurd d (by decide),fun d=>by rw [d,qM] at h;cases h⟩
 ·rename_i h
  split
  ·rename_i f
   exact ⟨fun d=>absurd d (by decide),fun d=>by rw [d,qM] at f;cases f⟩
  ·rename_i f
   refine ⟨fun _=>Classical.byContradiction fun o=>?_,fun _=>rfl⟩
   rcases FE o with j | j
   ·exact h j
   ·exact f j
theorem LP {p q:Pt}:kO p q < 0↔j8 p q:=by
 unfold kO mG j8 eV nn
 by_cases f:p.1=q.1
 ·rw [if_neg (fun h=>h (AS.2 f))]
  by_cases j:p.2.1=q.2.1
  ·rw [if_neg (fun h=>h (GK.2 j)),DH]
   constructor
   ·intro d
    exact Or.inr ⟨by rw [f,j],d⟩
   ·rintro ((d | ⟨_,d⟩) | ⟨_,d⟩)
    ·have o:p.1 < q.1:=d
     omega
    ·have o:bl p.2.1 q.2.1:=d
     rw [j] at o
     exact absurd o (xD _)
    ·exact d
  ·rw [if_pos (fun h=>j (GK.1 h)),x0]
   constructor
   ·intro d
    exact Or.inl (Or.inr ⟨f,d⟩)
   ·rintro ((d | ⟨_,d⟩) | ⟨d,_⟩)
    ·have o:p.1 < q.1:=d
     omega
    ·exact d
    ·exact absurd (congrArg Prod.snd d) j
 ·rw [if_pos (fun h=>f (AS.1 h)),DH]
  constructor
  ·intro d
   exact Or.inl (Or.inl d)
  ·rintro ((d | ⟨d,_⟩) | ⟨d,_⟩)
   ·exact d
   ·exact absurd d f
   ·exact absurd (congrArg Prod.fst d) f
theorem J9 {p q:Pt}:ltOf kO p q=true↔j8 p q:=by
 unfold ltOf
 rw [decide_eq_true_iff]
 exact LP
theorem PE (p:Pt):¬ j8 p p:=by
 rintro (h | ⟨_,h⟩)
 ·exact vM _ h
 ·exact Nat.lt_irrefl _ h
theorem GW {p q r:Pt} (f:j8 p q) (d:j8 q r):j8 p r:=by
 rcases f with f | ⟨j,f⟩
 ·rcases d with d | ⟨h,_⟩
  ·exact Or.inl (FA f d)
  ·exact Or.inl (by rw [<- h];exact f)
 ·rcases d with d | ⟨h,d⟩
  ·exact Or.inl (by rw [j];exact d)
  ·exact Or.inr ⟨j.trans h,by omega⟩
theorem x6 {p q r:Pt} (j:¬ j8 p q) (h:¬ j8 q r):¬ j8 p r:=fun f=>by
 by_cases e:nn p=nn q
 ·have s : q.2.2 <= p.2.2 := by
   rcases Nat.lt_or_ge p.2.2 q.2.2 with d | d
   ·exact absurd (Or.inr ⟨e,d⟩) j
   ·exact d
  rcases f with f | ⟨o,f⟩
  ·exact h (Or.inl (by rw [<- e];exact f))
  ·exact h (Or.inr ⟨e.symm.trans o,by omega⟩)
 ·rcases wZ e with d | d
  ·exact j (Or.inl d)
  ·exact h (GW (Or.inl d) f)
theorem k4:SWO (ltOf kO) where
 irrefl x:=Bool.eq_false_iff.2 fun h=>PE x (J9.1 h)
 trans x y z h1 h2:=J9.2 (GW (J9.1 h1) (J9.1 h2))
 ntrans x y z h1 h2:=Bool.eq_false_iff.2 fun h=>x6 (fun d=>by rw [J9.2 d] at h1;cases h1) (fun d=>by rw [J9.2 d] at h2;cases h2) (J9.1 h)
set_option maxRecDepth 10000 in
set_option maxHeartbeats 2000000 in
theorem oN (p q:Pt) (W:World):Calls prog 86 #[.agg (QS p).toArray,.agg (QS q).toArray] W fun e f=>e=.returned (.int .i64 (kO p q))/\∃ n os,f=grow (W.drewN n) os:=by
 obtain ⟨a,x,i⟩:=p
 obtain ⟨b,y,j⟩:=q
 obtain ⟨d,o⟩:∃ d,d=(W.alloc (.cells #[.int .u32 (a:Int),.string x,.int .i64 (i:Int)] 128)).alloc (.cells #[.int .u32 (b:Int),.string y,.int .i64 (j:Int)] 128):=⟨_,rfl⟩
 have I:Hid (∃ os,d=grow W os):=⟨_,by rw [o,alloc_eq_grow,alloc_eq_grow,grow_grow]⟩
 have J:d.cell? ⟨W.heap.size,0,none⟩=some (.int .u32 (a:Int)):=by rw [o];simp
 have K:d.cell? ⟨W.heap.size,1,none⟩=some (.string x):=by rw [o];simp
 have L:d.cell? ⟨W.heap.size,2,none⟩=some (.int .i64 (i:Int)):=by rw [o];simp
 have M:d.cell? ⟨W.heap.size+1,0,none⟩=some (.int .u32 (b:Int)):=by rw [o];simp
 have N:d.cell? ⟨W.heap.size+1,1,none⟩=some (.string y):=by rw [o];simp
 have O:d.cell? ⟨W.heap.size+1,2,none⟩=some (.int .i64 (j:Int)):=by rw [o];simp
 have B:Hid (d=(W.alloc (.cells #[.int .u32 (a:Int),.string x,.int .i64 (i:Int)] 128)).alloc (.cells #[.int .u32 (b:Int),.string y,.int .i64 (j:Int)] 128)):=o
 clear o
 show Calls prog 86 #[.agg #[.int .u32 (a:Int),.string x,.int .i64 (i:Int)],.agg #[.int .u32 (b:Int),.string y,.int .i64 (j:Int)]] W fun e f=>e=.returned (.int .i64 (mG (JP a b) (gK x y) (JP i j)))/\∃ n os,f=grow (W.drewN n) os
 have c1:=fun W=>U6 a b W
 have D:=fun W=>x1 x y W
 have c3:=fun W=>U3 i j W
 have G:=fun g W Q R S=>OH g 0 (JP a b) (gK x y) (JP i j) W Q R S
 generalize JP a b=s at *
 generalize gK x y=t at *
 generalize JP i j=A at *
 generalize mG s t A=r at *
 have T:Hid (∀ W,Calls prog 88 #[.int .u32 (a:Int),.int .u32 (b:Int)] W fun e f=>e=.returned (.int .i64 s)/\f=W):=c1
 have U:Hid (∀ W,Calls prog 89 #[.string x,.string y] W fun e f=>e=.returned (.int .i64 t)/\f=W):=D
 have V:Hid (∀ W,Calls prog 90 #[.int .i64 (i:Int),.int .i64 (j:Int)] W fun e f=>e=.returned (.int .i64 A)/\f=W):=c3
 have Y:Hid (∀ g W,W.cell? ⟨g,0,none⟩=some (.int .i64 s)->W.cell? ⟨g,1,none⟩=some (.int .i64 t)->W.cell? ⟨g,2,none⟩=some (.int .i64 A)->Calls prog 87 #[.slice (some ⟨g,0,none⟩) 3 3] W fun e f=>e=.returned (.int .i64 r)/\f=W):=G
 clear c1 D c3 G
 go_enter func86,ntmps86
 go_wp2
 rw [<- B.out]
 clear B
 refine wp_region_still_tail 15 (by kernel_rfl) (by kernel_rfl) ?_
 simp only [List.take_succ_cons,List.take_zero,List.drop_succ_cons,List.drop_zero]
 still_step
 still_step
 still_step
 still_step
 still_call (T.out _)
 still_step
 still_step
 still_step
 still_step
 still_call (U.out _)
 still_step
 still_step
 still_step
 still_step
 still_call (V.out _)
 refine wpStill_nil ?_
 change wpList _ _ _ _ _ (d.drewN 1)
 have H:Hid (∃ os,d.drewN 1=grow (W.drewN 1) os):=by
  obtain ⟨os,h⟩:=I.out
  exact ⟨os,by rw [h];rfl⟩
 generalize d.drewN 1=Z at H ⊢
 clear J K L M N O
 go_wp2_with (go_at_call 87;refine (Y.out _ _ (by simp) (by simp) (by simp)).mono ?_;rintro e f ⟨rfl,rfl⟩)
 go_ret
 obtain ⟨os,h⟩:=H.out
 exact ⟨rfl,1,_,by rw [h,alloc_eq_grow,grow_grow]⟩
theorem s8 (d f size:Nat) (w:World):CmpLays prog 86 #[] QS 3 kO d f size w:=fun _ _ _ _ x y=>oN x y _
end
section
open Ring Go.Sort
theorem UA (k:Nat) (d:k < 8):(⟨(Lib.decDigits k).toArray⟩:ByteArray)=Jp [48+k]:=by
 rcases (show k=0∨k=1∨k=2∨k=3∨k=4∨k=5∨k=6∨k=7 by omega) with rfl | rfl | rfl | rfl | rfl | rfl | rfl | rfl <;> (unfold Lib.decDigits;rfl)
def tV (d:List ByteArray) (j:Nat):Pt:=(kG (Yc d (j / 8)) (j % 8),Yc d (j / 8),j % 8)
def Xw (d:List ByteArray) (m:Nat):List Pt:=(List.range m).map (tV d)
theorem rB (d:List ByteArray) (m:Nat):(Xw d m).length=m:=by simp [Xw]
theorem NY (d:List ByteArray) (m:Nat):Xw d (m+1)=Xw d m ++ [tV d m]:=by simp [Xw,List.range_succ]
def XW (d:List Pt) (i:Nat):Nat×ByteArray:=nn (d.getD i (0,⟨#[]⟩,0))
theorem nV {d:List Pt} {i:Nat} (h:i < d.length):XW d i=nn d[i]:=by
 unfold XW
 rw [List.getD_eq_getElem?_getD,List.getElem?_eq_getElem h]
 rfl
structure lG (nodes:List ByteArray) (ps:List Pt):Prop where
 len:ps.length=8*nodes.length
 sorted:∀ i j,i < j->j < ps.length->¬ eV (XW ps j) (XW ps i)
 mem:∀ i,i < ps.length->(XW ps i).2 ∈ nodes/\∃ k,k < 8/\(XW ps i).1=kG (XW ps i).2 k
 all:∀ x ∈ nodes,∀ k,k < 8->∃ i,i < ps.length/\XW ps i=(kG x k,x)
theorem R4 {d:List ByteArray} {f:Array Pt} (Q:PermIn 0 (Xw d (8*d.length)).toArray.size (Xw d (8*d.length)).toArray f) (R:SortedIn (ltOf kO) 0 (Xw d (8*d.length)).toArray.size f):lG d f.toList:=by
 obtain ⟨t,_,A⟩:=Q
 have B:f.size=8*d.length:=by rw [t];simp [rB]
 have H:(Xw d (8*d.length)).toArray.size=8*d.length:=by simp [rB]
 have D:f.toList.Perm (Xw d (8*d.length)):=by
  have I:f.extract 0 (Xw d (8*d.length)).toArray.size=f:=by rw [<- t];exact Array.extract_size
  have J:(Xw d (8*d.length)).toArray.extract 0 (Xw d (8*d.length)).toArray.size=(Xw d (8*d.length)).toArray:=Array.extract_size
  rw [I,J] at A
  exact A
 have K:f.toList.length=8*d.length:=by rw [Array.length_toList,B]
 refine ⟨K,fun i j L o=>?_,fun i h=>?_,fun x M k S=>?_⟩
 ·have N:j < f.size:=by rw [B];omega
  have O:i < f.size:=by omega
  have:=R i j (Nat.zero_le _) L (by rw [H];omega)
  rw [getElem!_pos f j N,getElem!_pos f i O] at this
  rw [nV o,nV (by omega)]
  intro G
  rw [J9.2 (Or.inl (by simpa using G))] at this
  cases this
 ·have s:f.toList[i] ∈ Xw d (8*d.length):=D.mem_iff.1 (List.getElem_mem h)
  rw [nV h]
  obtain ⟨j,o,e⟩:=List.mem_map.1 s
  rw [List.mem_range] at o
  rw [<- e]
  exact ⟨oQ (by omega),j % 8,Nat.mod_lt _ (by decide),rfl⟩
 ·obtain ⟨q,G,rfl⟩:=tF M
  have s:tV d (8*q+k) ∈ f.toList:=D.mem_iff.2 (List.mem_map.2 ⟨8*q+k,List.mem_range.2 (by omega),rfl⟩)
  obtain ⟨i,h,e⟩:=List.getElem_of_mem s
  refine ⟨i,h,?_⟩
  rw [nV h,e]
  unfold nn tV
  rw [show (8*q+k) / 8=q by omega,show (8*q+k) % 8=k by omega]
theorem L8 {q:Nat} {l:List Pt} (h:Zc pE 128 w B (.slice (some ⟨g,0,none⟩) l.length q) l):HoldsK QS 3 w g 0 l.toArray:=by
 intro j f
 rw [size_flatK] at f
 have s:j < l.length*3:=by simpa using f
 have t:w.ownsRow B 128 pE.k (.slice (some ⟨g,0,none⟩) l.length q) l.length (Qb pE l):=h
 obtain ⟨O,A⟩:=h
 rcases A with ⟨D,_⟩ | ⟨G,Q,R,H,S,I,T,U,V,W⟩
 ·cases D
 obtain rfl:g=G:=by
  have:=congrArg Value.ownBlock H
  simpa [Value.ownBlock] using this
 refine ⟨?_,by simp [World.frozen?,I]⟩
 have o:j / 3 < l.length:=by omega
 have J:l[j / 3]?=some l[j / 3]:=List.getElem?_eq_getElem o
 have K:(QS l[j / 3])[j % 3]?=some ((QS l[j / 3])[j % 3]'(by show j % 3 < 3;omega)):=List.getElem?_eq_getElem (by show j % 3 < 3;omega)
 have L:=uH pE l (j / 3) _ J (j % 3) _ K
 have d:=World.ownsRow.cells (g:=g) t rfl _ _ L
 rw [Addr.add_lit] at d
 have M:j / 3*pE.k+j % 3=j:=by show j / 3*3+j % 3=j;omega
 rw [M] at d
 rw [d,get_flatK QS 3 l.toArray j (by simpa using s)]
 have N:l.toArray[j / 3]! = l[j / 3]:=by rw [getElem!_pos l.toArray (j / 3) (by simpa using o)];simp
 rw [N,getElem!_pos (QS l[j / 3]) (j % 3) (by show j % 3 < 3;omega)]
 rfl
theorem R6 {W:World} {n:Nat} {d:Array Pt} {os:Array Obj} (f:Below B w W) (j:B<=g) (o:B<=W.heap.size):Below B w (sortWorldK QS 3 W g 0 n d os):=by
 refine f.trans ⟨rfl,rfl,rfl,size_sortWorldK_c QS 3 W g 0 n d os,fun k h=>?_⟩
 unfold sortWorldK
 rw [heap_grow_old _ _ (by rw [show (putRowK QS 3 (Sort.ahead W n) g 0 d).heap.size=W.heap.size by simp [putRowK,putRow,mapBlock,Sort.ahead]];omega)]
 have:g≠k:=by omega
 simp [putRowK,putRow,mapBlock,Sort.ahead,Array.getElem?_modify,this]
set_option maxRecDepth 10000 in
set_option maxHeartbeats 4000000 in
theorem OS (p:Option Addr) (f:List ByteArray) (c:Nat) (w:World) (d8:1<=f.length) (g9:f.length<=16) (Q:∀ x ∈ f,x.size<=16) (hs:Strs w p f) :
 Calls prog 62 #[.slice p f.length c] w fun e B=>(∃ g a3 s,e=.returned (.slice (some ⟨g,0,none⟩) s.length a3)/\s.length<=a3/\w.heap.size<=g/\Ql pE B (some ⟨g,0,none⟩) s/\lG f s)/\Below w.heap.size w B:=by
 have V:Hid (∀ i,i < f.length->(Yc f i).size<=16):=fun i hi=>Q _ (oQ hi)
 have Y:Hid (Strs w p f):=hs
 obtain ⟨b,o,rfl⟩:∃ b o,p=some ⟨b,o,none⟩:=by
  rcases hs with H | ⟨b,o,D,_⟩
  ·rw [H] at d8;exact absurd d8 (by decide)
  ·exact ⟨b,o,D⟩
 clear hs Q
 go_enter func62,ntmps62
 go_wp2
 go_loopw [3,9] (fun v x I=>∃ i:Nat,i<=f.length/\x=.int .i64 i/\Zc pE 128 I w.heap.size v (Xw f (8*i))/\Below w.heap.size w I) (fun _ x _=>f.length - (intOf x).toNat)
 case atStart=>exact ⟨0,Nat.zero_le _,rfl,Zc.nil _ _ _,Below.refl _ _⟩
 case round =>
  obtain ⟨i,hi,rfl,J,K⟩:=hrel
  obtain ⟨A,rfl⟩:∃ A,A=wr:=⟨_,rfl⟩
  obtain ⟨v,rfl⟩:∃ v,v=u3:=⟨_,rfl⟩
  have G:Hid (Zc pE 128 A w.heap.size v (Xw f (8*i))):=J
  have L:Hid (Below w.heap.size w A):=K
  clear J K
  by_cases R:i < f.length
  ·have q0 : A.cell? ⟨b, o + i, none⟩ = some (.string (Yc f i)) := by
    rcases (Y.out.below L.out) with H | ⟨b',o',D,_,d9⟩
    ·rw [H] at R;exact absurd R (Nat.not_lt_zero _)
    ·obtain ⟨rfl,rfl⟩:b=b'/\o=o':=by simpa using D
     exact d9 i R
   have M:=V.out i R
   obtain ⟨t,Z⟩:∃ t,t=Yc f i:=⟨_,rfl⟩
   rw [<- Z] at q0 M
   have HT:Hid (t=Yc f i):=Z
   clear Z Y V
   go_wp2
   clear q0
   go_loopw [3,13] (fun v x I=>∃ k:Nat,k<=8/\x=.int .i64 k/\Zc pE 128 I w.heap.size v (Xw f (8*i+k))/\Below w.heap.size w I) (fun _ x _=>8 - (intOf x).toNat)
   case atStart=>exact ⟨0,by omega,rfl,G.out,L.out⟩
   case round =>
    obtain ⟨k,hk,rfl,J,K⟩:=hrel
    obtain ⟨q,rfl⟩:∃ q,q=wr:=⟨_,rfl⟩
    obtain ⟨v,rfl⟩:∃ v,v=u3:=⟨_,rfl⟩
    have a4:Hid (Zc pE 128 q w.heap.size v (Xw f (8*i+k))):=J
    have N:Hid (Below w.heap.size w q):=K
    have e3:Hid ((Xw f (8*i+k)).length=8*i+k):=rB _ _
    clear J K G L
    by_cases f0:k < 8
    ·have HN : Hid (Xw f (8 * i + (k + 1)) = Xw f (8 * i + k) ++ [(kG t k, t, k)]) := by
      show _=_
      rw [show 8*i+(k+1)=8*i+k+1 by omega,NY,HT.out]
      unfold tV
      rw [show (8*i+k) / 8=i by omega,show (8*i+k) % 8=k by omega]
     have a5:Hid (∀ W,Calls prog 84 #[.int .i64 (k:Int)] W fun e B=>e=.returned (.string (Jp [48+k]))/\B=W):=fun W=>by
      have:=strconv_Itoa_small k (by omega) W
      rw [UA k f0] at this
      exact this
     have a8:Hid (∀ W,Calls prog 65 #[.string (t ++ ⟨#[35]⟩ ++ Jp [48+k])] W fun e B=>e=.returned (.int .u32 ((kG t k:Nat):Int))/\B=W):=fun W=>IH _ W (by rw [ByteArray.size_append,ByteArray.size_append,xG];show _+1+1<=_;omega)
     have g5:(Jp [48+k]).size=1:=xG _
     generalize Xw f (8*i+k)=s at *
     generalize kG t k=m at *
     generalize Jp [48+k]=d at *
     have g6:¬ 9223372036854775807 < t.size+1:=by omega
     go_wp2_with fail
     refine (a5.out _).mono ?_
     rintro e w4 ⟨rfl,O⟩
     rw [O]
     clear O w4 a5
     go_wp2_with fail
     refine (a8.out _).mono ?_
     rintro e w4 ⟨rfl,O⟩
     rw [O]
     clear O w4 a8
     have f1:Hid (Zc pE 128 (q.alloc (.cells #[.int .u32 (m:Int),.string t,.int .i64 (k:Int)] 128)) w.heap.size v s):=a4.out.kept ((Below.refl _ _).alloc (Nat.le_refl _) _)
     have a9:Hid (Below w.heap.size w (q.alloc (.cells #[.int .u32 (m:Int),.string t,.int .i64 (k:Int)] 128))):=N.out.alloc N.out.size _
     have b1:Hid (s.length+1<=200):=by show _<=_;have:=e3.out;omega
     have f2:Hid (q.heap.size < (q.alloc (.cells #[.int .u32 (m:Int),.string t,.int .i64 (k:Int)] 128)).heap.size):=by show _ < _;simp
     have f3:Hid (∀ j u,(pE.enc (m,t,k))[j]?=some u->(q.alloc (.cells #[.int .u32 (m:Int),.string t,.int .i64 (k:Int)] 128)).cell? ⟨q.heap.size,0+j,none⟩=some u):=fun j u S=>by
      rw [Nat.zero_add,World.cell?_alloc_at _ _ _ _ rfl]
      rw [<- S]
      show (#[Value.int .u32 (m:Int),.string t,.int .i64 (k:Int)]:Array Value)[j]?=([Value.int .u32 (m:Int),.string t,.int .i64 (k:Int)]:List Value)[j]?
      rw [<- Array.getElem?_toList]
     go_wp2_with (first | (at_builtin;refine wJ (E:=pE) rfl (.tmp 16) (.tmp 26) 99 128 rfl (.agg #[.int .u32 0,.string ⟨#[]⟩,.int .i64 0]) 32 underlying99 (by kernel_rfl) rfl w.heap.size v s rfl f1.out q.heap.size 0 1 (m,t,k) rfl f3.out (by have:=b1.out;unfold maxLen;omega) (by have:=b1.out;omega) a9.out.size f2.out ?_;intro v' w6 b2 b8))
     have f4:Hid (Zc pE 128 w6 w.heap.size v' (Xw f (8*i+(k+1)))):=by
      show Zc pE 128 w6 w.heap.size v' (Xw f (8*i+(k+1)))
      rw [HN.out]
      exact b2
     have f5:Hid (Below w.heap.size w w6):=a9.out.trans b8
     clear b2 b8
     go_wp2
     go_roundw
     case rel=>exact ⟨k+1,by omega,by go_num,f4.out,f5.out⟩
     case measure=>simp [intOf];omega
    ·have f6:k=8:=by omega
     subst f6
     have HE:Hid (8*i+8=8*(i+1)):=by show _=_;omega
     go_wp2
     go_roundw
     case rel=>exact ⟨i+1,by omega,by go_num,by rw [<- HE.out];exact a4.out,N.out⟩
     case measure=>simp [intOf];omega
  ·have f7:i=f.length:=by omega
   subst f7
   obtain ⟨pv,T,rfl,f8,c2,f9,c4⟩:=G.out.form
   obtain ⟨g,rfl⟩:∃ g,pv=some ⟨g,0,none⟩:=by
    obtain ⟨_,h2⟩:=(show A.ownsRow w.heap.size 128 pE.k (.slice pv (Xw f (8*f.length)).length T) (Xw f (8*f.length)).length (Qb pE (Xw f (8*f.length))) from G.out)
    rcases h2 with ⟨_,H⟩ | ⟨g',g7,g8,hv,_⟩
    ·rw [rB] at H;omega
    ·exact ⟨g',(Value.slice.inj hv).1⟩
   obtain ⟨c9,a0⟩:=c4 g 0 rfl
   have hH:=L8 G.out
   have a2:=slices_SortFunc 3 isAgg128 sizeOf128 QS (fun _=>rfl) pE.one kO k4 86 #[] g 0 T (Xw f (8*f.length)).toArray A (enters_of func86 (by kernel_rfl) rfl) (s8 _ _ _ _) hH a0 (by simp [rB];omega)
   have d0:Hid (∀ h:Array Pt,PermIn 0 (Xw f (8*f.length)).toArray.size (Xw f (8*f.length)).toArray h->SortedIn (ltOf kO) 0 (Xw f (8*f.length)).toArray.size h->lG f h.toList/\h.size=(Xw f (8*f.length)).toArray.size):=fun h h1 h2=>⟨R4 h1 h2,h1.1⟩
   have d1:Hid ((Xw f (8*f.length)).toArray.size=(Xw f (8*f.length)).length):=by show _=_;simp
   rw [d1.out] at a2
   have HH:Hid (HoldsK QS 3 A g 0 (Xw f (8*f.length)).toArray):=hH
   have d2:Hid (w.heap.size<=g):=c9
   have d3:Hid (g < A.heap.size):=a0
   have g0:Hid ((Xw f (8*f.length)).length<=T):=c2
   clear f8 c2 f9 c4 c9 a0 hH G Y V
   generalize Xw f (8*f.length)=s at *
   go_wp2_with fail
   refine a2.mono ?_
   rintro e q ⟨rfl,h,n,os,D,d4,U⟩
   clear a2
   obtain ⟨d5,M⟩:=d0.out h D d4
   have g1:Hid (lG f h.toList):=d5
   have d6:Hid (h.toList.length=s.length):=by show _=_;rw [Array.length_toList,M,d1.out]
   have g2:Hid (Ql pE q (some ⟨g,0,none⟩) h.toList):=by
    have hk:=holdsK_sortWorldK_c QS 3 A g 0 s.toArray h n os HH.out d3.out M
    rw [<- U] at hk
    refine Or.inr ⟨g,0,rfl,?_,fun i x Q j u S=>?_⟩
    ·rw [U]
     exact Nat.lt_of_lt_of_le d3.out (size_sortWorldK_c QS 3 A g 0 n h os)
    ·have d7 : i < h.size := by
      have:=(List.getElem?_eq_some_iff.1 Q).1
      rwa [Array.length_toList] at this
     have g3:j < 3:=(List.getElem?_eq_some_iff.1 S).1
     have h5:=(hk.cell d7 g3).1
     have e1:h[i]! = x:=by
      rw [getElem!_pos h i d7]
      have:=(List.getElem?_eq_some_iff.1 Q).2
      simpa using this
     rw [e1] at h5
     have e2:(QS x)[j]! = u:=by
      have h6:=List.getElem?_eq_some_iff.1 S
      rw [getElem!_pos (QS x) j h6.1]
      exact h6.2
     rw [e2] at h5
     exact h5
   have N:Hid (Below w.heap.size w q):=by
    show Below w.heap.size w q
    rw [U]
    exact R6 L.out d2.out L.out.size
   clear U D d4 d5 M d0 HH
   go_wp2
   go_ret
   exact ⟨⟨g,T,h.toList,by rw [d6.out];rfl,by rw [d6.out];exact g0.out,d2.out,g2.out,g1.out⟩,N.out⟩
end
section
open Go.Sort
theorem GX:(prog.info? 128).map (fun i=>(i.zero,i.size,i.bytes))=some (some (.agg #[.int .u32 0,.string ⟨#[]⟩,.int .i64 0]),3,32):=by kernel_rfl
set_option maxRecDepth 10000 in
set_option maxHeartbeats 4000000 in
theorem NK (n:Nat) (w:World) (O:0 < n) (U:n<=1000) :
 Calls prog 116 #[.slice none 0 0,.int .i64 (n:Int)] w fun e s=>(∃ v,e=.returned v/\Zc pE 128 s w.heap.size v [])/\Below w.heap.size w s:=by
 obtain ⟨f,H,I,J,t⟩:=info_parts GX
 have A:(Builtin.firstCells f.size 0 (.slice none 0 0)).run prog w.drew=.ok ([]:List Value).toArray w.drew:=run_firstCells_none w.drew f.size 0 0 0
 have B:∀ j,(Builtin.append_ #[99,3] j #[.slice none 0 0,.int .i64 (n:Int)]).run prog w =
  .ok (.slice (some ⟨w.heap.size,0,none⟩) n (grownCap w n 0 128)) (w.drew.alloc (.cells (([]:List Value).toArray ++ Builtin.zeroCells (Value.agg #[.int .u32 0,.string ⟨#[]⟩,.int .i64 0]).cells n ++ Builtin.zeroCells (Value.agg #[.int .u32 0,.string ⟨#[]⟩,.int .i64 0]).cells (grownCap w n 0 128 - n)) 128)):=fun j=>by
  have h:=Lib.run_append_grow_zeros w 99 3 j 128 f _ .i64 .i64 underlying99 underlying3 H I none 0 0 [] A n O (by rw [J];decide) (by omega) (by omega) (by rw [t];omega) (by rw [t];exact growslice_fits (by omega) (by omega))
  rw [Nat.zero_add] at h
  exact h
 have Q:n<=grownCap w n 0 128:=grownCap_ge w _ _ _
 have o:grownCap w n 0 128<=maxLen:=grownCap_le_maxLen w n 0 128 (by unfold maxLen;omega)
 generalize K:grownCap w n 0 128=G at *
 clear K
 have R:G<=9223372036854775807:=by unfold maxLen at o;omega
 obtain ⟨d,q⟩:∃ d,d=([]:List Value).toArray ++ Builtin.zeroCells (Value.agg #[.int .u32 0,.string ⟨#[]⟩,.int .i64 0]).cells n ++ Builtin.zeroCells (Value.agg #[.int .u32 0,.string ⟨#[]⟩,.int .i64 0]).cells (G - n):=⟨_,rfl⟩
 have D:d.size=G*3:=by
  have L:(Value.agg #[.int .u32 0,.string ⟨#[]⟩,.int .i64 0]).cells.size=3:=rfl
  rw [q]
  simp [Builtin.zeroCells,L]
  omega
 rw [<- q] at B
 have M:Hid (Zc pE 128 (w.drew.alloc (.cells d 128)) w.heap.size (.slice (some ⟨w.heap.size,0,none⟩) 0 G) []):=by
  refine ⟨rfl,Or.inr ⟨w.heap.size,G,d,rfl,Nat.le_refl _,?_,Nat.zero_le _,o,D,?_⟩⟩
  ·have:w.drew.heap.size=w.heap.size:=rfl
   rw [<- this,heap_alloc_new]
  ·simp [Qb]
 have N:Hid (Below w.heap.size w (w.drew.alloc (.cells d 128))):=(Below.refl _ _).drew.alloc (Nat.le_refl _) _
 have S:decide ((n:Int) < 0)=false:=decide_eq_false (by omega)
 have T:decide (0 < (n:Int))=true:=decide_eq_true (by omega)
 clear A q o D
 go_enter func116,ntmps116
 go_wp2_with (at_builtin;refine Lib.wpList_append_run _ rfl _ _ _ _ rfl _ _ rfl rfl _ _ (B _) ?_)
 go_ret
 exact ⟨⟨_,rfl,M.out⟩,N.out⟩
set_option maxRecDepth 10000 in
set_option maxHeartbeats 4000000 in
theorem OW (g c:Nat) (G H:Option Addr) (l1 l2:List Pt) (c1 O:Nat) (w:World) (h0:0 < l1.length+l2.length) (hn:l1.length+l2.length<=1000)
 (q:w.cell? ⟨g,0,none⟩=some (.slice G l1.length c1)) (q2:w.cell? ⟨g,1,none⟩=some (.slice H l2.length O)) (r1:Ql pE w G l1) (r2:Ql pE w H l2) (n1:G=none->l1=[]/\c1=0) (n2:H=none->l2=[]/\O=0) :
 Calls prog 93 #[.slice (some ⟨g,0,none⟩) 2 c] w fun e h=>(∃ v,e=.returned v/\Zc pE 128 h w.heap.size v (l1 ++ l2))/\Below w.heap.size w h:=by
 have I:g < w.heap.size:=by
  rcases Nat.lt_or_ge g w.heap.size with J | J
  ·exact J
  ·simp [World.cell?,Array.getElem?_eq_none J] at q
 obtain ⟨P,Q⟩:∃ P:Nat->Option Addr,P=fun i=>if i=0 then G else H:=⟨_,rfl⟩
 obtain ⟨L,K⟩:∃ L:Nat->List Pt,L=fun i=>if i=0 then l1 else l2:=⟨_,rfl⟩
 obtain ⟨C,R⟩:∃ C:Nat->Nat,C=fun i=>if i=0 then c1 else O:=⟨_,rfl⟩
 obtain ⟨T,d⟩:∃ T:Nat->List Pt,T=fun i=>if i=0 then [] else if i=1 then l1 else l1 ++ l2:=⟨_,rfl⟩
 have S:Hid (∀ W,Below w.heap.size w W->∀ i,i < 2->W.cell? ⟨g,i,none⟩=some (.slice (P i) (L i).length (C i))/\Ql pE W (P i) (L i)/\(P i=none->L i=[]/\C i=0)):=fun W A i j=>by
  subst Q K R
  match i,j with
  | 0,_=>exact ⟨(A.cell (p:=⟨g,0,none⟩) I).trans q,r1.below A,n1⟩
  | 1,_=>exact ⟨(A.cell (p:=⟨g,1,none⟩) I).trans q2,r2.below A,n2⟩
 have U:Hid (∀ i,i < 2->T (i+1)=T i ++ L i):=fun i j=>by
  subst d K
  match i,j with
  | 0,_=>rfl
  | 1,_=>rfl
 have V:Hid (T 0=[]):=by show _=_;rw [d];rfl
 have Y:Hid (T 2=l1 ++ l2):=by show _=_;rw [d];rfl
 have M:Hid (∀ i,(T i).length<=1000):=fun i=>by
  subst d
  show (if i=0 then [] else if i=1 then l1 else l1 ++ l2:List Pt).length<=1000
  split
  ·exact Nat.zero_le _
  ·split
   ·omega
   ·rw [List.length_append];exact hn
 have c4:Hid (0 < (T 2).length):=by show _ < _;rw [d];show 0 < (l1 ++ l2).length;rw [List.length_append];exact h0
 rw [<- Y.out]
 clear Y d Q K R q q2 r1 r2 n1 n2 h0 hn I
 go_enter func93,ntmps93
 go_wp2
 go_loop [3,11] (fun s x=>∃ i:Nat,i<=2/\x=.int .i64 i/\s=.int .i64 (((T i).length:Nat):Int)) (fun _ x=>2 - (intOf x).toNat)
 case atStart=>exact ⟨0,by omega,rfl,by rw [V.out];rfl⟩
 case round =>
  obtain ⟨i,j,rfl,rfl⟩:=hrel
  by_cases o:i < 2
  ·obtain ⟨q,_,_⟩:=S.out w (Below.refl _ _) i o
   have t:Hid ((T (i+1)).length=(T i).length+(L i).length):=by show _=_;rw [U.out i o,List.length_append]
   have c9:=M.out (i+1)
   rw [t.out] at c9
   generalize (T i).length=a at *
   generalize (L i).length=b at *
   have d1:decide ((a:Int)+(b:Int) < 0)=false:=decide_eq_false (by omega)
   have d2:wrap64 ((a:Int)+(b:Int))=(a:Int)+(b:Int):=by unfold wrap64;omega
   have d3:¬ ((a:Int)+(b:Int) < 0):=by omega
   go_wp2
   go_round
   case rel=>exact ⟨i+1,by omega,by go_num,by rw [t.out];congr 1⟩
   case measure=>simp [intOf];omega
  ·have N:i=2:=by omega
   subst N
   have Z:Hid (∀ W,Calls prog 116 #[.slice none 0 0,.int .i64 (((T 2).length:Nat):Int)] W fun e h=>(∃ v,e=.returned v/\Zc pE 128 h W.heap.size v [])/\Below W.heap.size W h):=fun W=>NK _ W c4.out (M.out 2)
   generalize (T 2).length=m at *
   go_wp2_with fail
   refine (Z.out _).mono ?_
   rintro e w1 ⟨⟨v,rfl,a0⟩,a2⟩
   have a3:Hid (Zc pE 128 w1 w.heap.size v (T 0)):=by show Zc _ _ _ _ _ _;rw [V.out];exact a0
   have a4:Hid (Below w.heap.size w w1):=a2
   clear a0 a2 Z
   go_wp2
   go_loopw [6,27] (fun v x wq=>∃ i:Nat,i<=2/\x=.int .i64 i/\Zc pE 128 wq w.heap.size v (T i)/\Below w.heap.size w wq) (fun _ x _=>2 - (intOf x).toNat)
   case atStart=>exact ⟨0,by omega,rfl,a3.out,a4.out⟩
   case round =>
    obtain ⟨i,j,rfl,hO,hB⟩:=hrel
    obtain ⟨f,rfl⟩:∃ f,f=wr:=⟨_,rfl⟩
    obtain ⟨B,rfl⟩:∃ B,B=u6:=⟨_,rfl⟩
    have a5:Hid (Zc pE 128 f w.heap.size B (T i)):=hO
    have D:Hid (Below w.heap.size w f):=hB
    clear hO hB a3 a4
    by_cases o:i < 2
    ·obtain ⟨q,a8,a9⟩:=S.out f D.out i o
     have d0:Hid (Ql pE f (P i) (L i)):=a8
     have d4:Hid (P i=none->L i=[]/\C i=0):=a9
     have t:Hid (T (i+1)=T i ++ L i):=U.out i o
     have b1:Hid ((T i).length+(L i).length<=1000):=by
      show _<=_
      have:=M.out (i+1)
      rw [t.out,List.length_append] at this
      exact this
     clear a8 a9
     generalize P i=pi at *
     generalize L i=li at *
     generalize C i=ci at *
     generalize T i=ti at *
     go_wp2_with (first | (at_builtin;refine F4 (E:=pE) rfl (.tmp 31) (.tmp 32) 99 128 rfl (.agg #[.int .u32 0,.string ⟨#[]⟩,.int .i64 0]) 32 underlying99 GX rfl w.heap.size B ti rfl a5.out pi li ci rfl d0.out d4.out (by have:=b1.out;unfold maxLen;omega) (by have:=b1.out;omega) D.out.size ?_;intro v' w3 b2 b8))
     have d5:Hid (Zc pE 128 w3 w.heap.size v' (T (i+1))):=by
      show Zc _ _ _ _ _ _
      rw [t.out]
      exact b2
     have d6:Hid (Below w.heap.size w w3):=D.out.trans b8
     clear b2 b8
     go_wp2
     go_roundw
     case rel=>exact ⟨i+1,by omega,by go_num,d5.out,d6.out⟩
     case measure=>simp [intOf];omega
    ·have N:i=2:=by omega
     subst N
     go_wp2
     go_ret
     exact ⟨⟨_,rfl,a5.out⟩,D.out⟩
end
set_option maxRecDepth 10000 in
set_option maxHeartbeats 1000000 in
theorem P3 (p:Option Addr) (l:List ByteArray) (c:Nat) (s:ByteArray) (w:World) (M:l.length<=1000000) (D:Strs w p l) (h:s ∉ l) :
 Calls prog 109 #[.slice p l.length c,.string s] w fun e q=>e=.returned (.int .i64 (-1))/\q=w:=by
 have A:Hid (s ∉ l):=h
 clear h
 go_enter func109,ntmps109
 go_wp2
 go_loop [8] (fun x=>∃ i:Nat,i<=l.length/\x=.int .i64 i) (fun x=>l.length - (intOf x).toNat)
 case atStart=>exact ⟨0,Nat.zero_le _,rfl⟩
 case round =>
  obtain ⟨i,G,rfl⟩:=hrel
  by_cases d:i < l.length
  ·rcases D with B | ⟨b,o,rfl,H,j⟩
   ·rw [B] at d;exact absurd d (Nat.not_lt_zero _)
   have I:=j i d
   have f:Yc l i≠s:=fun e=>A.out (e ▸ oQ d)
   have J:=XT (Ne.symm f)
   have K:=YT (Ne.symm f)
   have L:=Y8 (Ne.symm f)
   clear f j
   generalize Yc l i=t at *
   go_wp2
   go_round
   case rel=>exact ⟨i+1,by omega,by go_num⟩
   case measure=>simp [intOf];omega
  ·go_wp2
   go_ret
   exact ⟨rfl,rfl⟩
set_option maxRecDepth 10000 in
set_option maxHeartbeats 1000000 in
theorem SY (p:Option Addr) (l:List ByteArray) (c:Nat) (s:ByteArray) (w:World) (W:l.length<=1000000) (Q:Strs w p l) (h:s ∈ l) :
 Calls prog 109 #[.slice p l.length c,.string s] w fun e I=>e=.returned (.int .i64 ((ZJ l s:Nat):Int))/\I=w:=by
 have J:Hid (s ∈ l):=h
 clear h
 go_enter func109,ntmps109
 go_wp2
 go_loop [8] (fun x=>∃ i:Nat,i<=l.length/\x=.int .i64 i/\∀ j,j < i->Yc l j≠s) (fun x=>l.length - (intOf x).toNat)
 case atStart=>exact ⟨0,Nat.zero_le _,rfl,fun j q=>absurd q (Nat.not_lt_zero _)⟩
 case round =>
  obtain ⟨i,R,rfl,B⟩:=hrel
  have A:Hid (∀ j,j < i->Yc l j≠s):=B
  clear B
  have f:i < l.length:=by
   rcases Nat.lt_or_ge i l.length with h | h
   ·exact h
   ·obtain ⟨j,q,e⟩:=tF J.out
    exact absurd e (A.out j (by omega))
  rcases Q with K | ⟨b,o,rfl,S,D⟩
  ·rw [K] at f;exact absurd f (Nat.not_lt_zero _)
  have L:=D i f
  have G:Hid (Yc l i=Yc l i):=by show _=_;rfl
  clear D
  by_cases d:Yc l i=s
  ·have M:Hid (ZJ l s=i):=DQ f d A.out
   rw [d] at L
   clear d G
   go_wp2
   go_ret
   exact ⟨by rw [M.out];rfl,rfl⟩
  ·have N:Hid (Yc l i≠s):=d
   have T:=XT (Ne.symm d)
   have U:=YT (Ne.symm d)
   have V:=Y8 (Ne.symm d)
   clear d G
   generalize H:Yc l i=t at *
   have O:Hid (Yc l i=t):=H
   clear H
   go_wp2
   go_round
   case rel=>exact ⟨i+1,by omega,by go_num,fun j q=>by
    rcases Nat.lt_or_ge j i with h | h
    ·exact A.out j h
    ·obtain rfl:j=i:=by omega
     rw [O.out];exact N.out⟩
   case measure=>simp [intOf];omega
set_option maxRecDepth 10000 in
theorem vN (p:Option Addr) (l:List ByteArray) (c:Nat) (s:ByteArray) (w:World) (t:l.length<=1000000) (j:Strs w p l) :
 Calls prog 83 #[.slice p l.length c,.string s] w fun e A=>e=.returned (.bool (Xu l s))/\A=w:=by
 by_cases h:s ∈ l
 ·have o:Hid (Xu l s=true):=Zl.2 h
  have d:=SY p l c s w t j h
  rw [o.out]
  clear h j
  generalize ZJ l s=k at *
  go_enter func83,ntmps83
  go_wp2_with fail
  refine d.mono ?_
  rintro e q ⟨rfl,f⟩
  rw [f]
  clear f q d
  go_wp2
  go_ret
  exact ⟨rfl,rfl⟩
 ·have o:Hid (Xu l s=false):=Bool.eq_false_iff.2 fun B=>h (Zl.1 B)
  have d:=P3 p l c s w t j h
  rw [o.out]
  clear h j
  go_enter func83,ntmps83
  go_wp2_with fail
  refine d.mono ?_
  rintro e q ⟨rfl,f⟩
  rw [f]
  clear f q d
  go_wp2
  go_ret
  exact ⟨rfl,rfl⟩
section
open Ring Go.Sort
set_option maxRecDepth 10000 in
theorem TW (h B:Nat) (w:World) (q:B < w.heap.size) (s:w.cell? ⟨B,0,none⟩=some (.int .u32 (h:Int))) :
 PredBelow prog 92 #[.pointer (some ⟨B,0,none⟩)] (fun x=>.agg (QS x).toArray) (fun x:Pt=>decide (h<=x.1)) w:=fun W x d=>by
 have A:W.cell? ⟨B,0,none⟩=some (.int .u32 (h:Int)):=(d.cell (p:=⟨B,0,none⟩) q).trans s
 have D:B < W.heap.size:=Nat.lt_of_lt_of_le q d.size
 have G:B≠W.heap.size:=by omega
 obtain ⟨a,y,i⟩:=x
 have j:Hid (Below w.heap.size w (W.alloc (.cells #[.int .u32 (a:Int),.string y,.int .i64 (i:Int)] 128))):=d.alloc d.size _
 show Calls prog 92 #[.agg #[.int .u32 (a:Int),.string y,.int .i64 (i:Int)],.pointer (some ⟨B,0,none⟩)] W fun e H=>e=.returned (.bool (decide (h<=a)))/\_
 clear d s
 by_cases o:h<=a
 ·have f:Hid (decide (h<=a)=true):=decide_eq_true o
  have t:decide ((h:Int)<=(a:Int))=true:=decide_eq_true (by omega)
  rw [f.out]
  go_enter func92,ntmps92
  go_wp2
  go_ret
  exact ⟨rfl,j.out⟩
 ·have f:Hid (decide (h<=a)=false):=decide_eq_false o
  have t:decide ((h:Int)<=(a:Int))=false:=decide_eq_false (by omega)
  rw [f.out]
  go_enter func92,ntmps92
  go_wp2
  go_ret
  exact ⟨rfl,j.out⟩
theorem O8 (h:Nat) (G:List ByteArray) (d:List Pt) (t:lG G d) (S:1<=G.length) :
 ∃ f A:Nat,∃ r:Int,Lib.idxBy (fun _ y:Pt=>decide (h<=y.1)) (d.take d.length) default=r/\(r=-1/\A=0∨r=(A:Int))/\A<=d.length/\qL h G (QZ h f d.length (XW d)) d.length/\∀ j,j < d.length->(QZ h f d.length (XW d) j).2=(XW d ((A+j) % d.length)).2:=by
 have H:0 < d.length:=by rw [t.len];omega
 have I:∀ i,i < d.length->(XW d i).1 < 4294967296:=fun i q=>by
  obtain ⟨_,k,_,e⟩:=t.mem i q
  rw [e]
  exact VX _
 have D:∀ i,i < d.length->(d[i]!).1=(XW d i).1:=fun i q=>by rw [nV q,getElem!_pos d i q];rfl
 by_cases J:∃ i,i < d.length/\h<=(XW d i).1
 ·
  obtain ⟨f,K,B,L⟩:∃ f,f < d.length/\h<=(XW d f).1/\∀ i,i < f->(XW d i).1 < h:=by
   obtain ⟨i,q⟩:=J
   induction i using Nat.strongRecOn with
   | ind i ih =>
    by_cases M:∃ j,j < i/\h<=(XW d j).1
    ·obtain ⟨j,s,B⟩:=M
     exact ih j s ⟨by omega,B⟩
    ·refine ⟨i,q.1,q.2,fun j s=>?_⟩
     rcases Nat.lt_or_ge (XW d j).1 h with o | o
     ·exact o
     ·exact absurd ⟨j,s,o⟩ M
  refine ⟨f,f,(f:Int),?_,Or.inr rfl,by omega,BU H (by omega) I t.sorted L (fun i Q o=>?_) t.mem t.all,fun j _=>rfl⟩
  ·have:=Lib.idxBy_hit (fun _ y:Pt=>decide (h<=y.1)) d d.length f default K (Nat.le_refl _) (decide_eq_true (by rw [D f K];exact B)) (fun j s=>decide_eq_false (by rw [D j (by omega)];have:=L j s;omega))
   exact this
  ·by_cases e:i=f
   ·rw [e];exact B
   ·have R:=t.sorted f i (by omega) o
    rcases Nat.lt_or_ge (XW d i).1 (XW d f).1 with N | N
    ·exact absurd (Or.inl N) R
    ·omega
 ·have O : ∀ i, i < d.length -> (XW d i).1 < h := fun i q => by
   rcases Nat.lt_or_ge (XW d i).1 h with o | o
   ·exact o
   ·exact absurd ⟨i,q,o⟩ J
  refine ⟨d.length,0,-1,?_,Or.inl ⟨rfl,rfl⟩,Nat.zero_le _,BU H (Nat.le_refl _) I t.sorted O (fun i Q o=>by omega) t.mem t.all,fun j s=>?_⟩
  ·exact Lib.idxBy_miss (fun _ y:Pt=>decide (h<=y.1)) d d.length default (fun j s=>decide_eq_false (by rw [D j s];have:=O j s;omega))
  ·unfold QZ
   rw [Nat.zero_add,Nat.add_mod_left]
theorem P4 (d:List Pt) (f j:Nat) (o:f<=d.length) (q:j < d.length):(d.drop f ++ d.take f)[j]?=d[(f+j) % d.length]?:=by
 rcases Nat.lt_or_ge (f+j) d.length with h | h
 ·rw [List.getElem?_append_left (by rw [List.length_drop];omega),List.getElem?_drop,Nat.mod_eq_of_lt h]
 ·rw [List.getElem?_append_right (by rw [List.length_drop];omega),List.length_drop,List.getElem?_take_of_lt (by omega),Nat.mod_eq_sub_mod h,Nat.mod_eq_of_lt (by omega)]
  congr 1
  omega
theorem OJ (p:Option Addr) (l:List Pt) (c k:Nat) (j:k<=l.length) (W:World):Sem.run prog (Instr.slice 99 (.slice p l.length c) (some (.int .i64 (k:Int))) none none) W=.ok (.slice (if c=k then p else p.map (·.add (k*3))) (l.drop k).length (c - k)) W:=by
 have d:(sizeOf (prog.elem 99)).run prog W=.ok 3 W:=by kernel_rfl
 have f:prog.elem 99=128:=by kernel_rfl
 have h:prog.underlying 99=some (.slice (prog.elem 99)):=by rw [f];exact underlying99
 rw [run_slice_l W 99 p l.length c h .i64 (k:Int) (by omega) (by omega),d]
 simp [Result.andThen,sliced]
theorem LZ (p:Option Addr) (l:List Pt) (c k:Nat) (o:k<=l.length) (q:l.length<=c) (W:World):Sem.run prog (Instr.slice 99 (.slice p l.length c) none (some (.int .i64 (k:Int))) none) W=.ok (.slice p (l.take k).length c) W:=by
 have d:(sizeOf (prog.elem 99)).run prog W=.ok 3 W:=by kernel_rfl
 have f:prog.elem 99=128:=by kernel_rfl
 have h:prog.underlying 99=some (.slice (prog.elem 99)):=by rw [f];exact underlying99
 have j:(l.take k).length=k:=by rw [List.length_take];omega
 rw [run_slice_h W 99 p l.length c h .i64 (k:Int) (by omega) (by omega),d,j]
 simp [Result.andThen,sliced,Addr.add]
theorem CF:(prog.info? 9).map (fun i=>(i.zero,i.size,i.bytes))=some (some (.string ⟨#[]⟩),1,16):=by kernel_rfl
theorem k7 (n:Nat) (s:n<=1000) (W:World):Sem.run prog (Instr.makeSlice 41 (.int .i64 0) (.int .i64 (n:Int))) W=.ok (.slice (some ⟨W.heap.size,0,none⟩) 0 n) (W.alloc (.cells (madeCells #[.string ⟨#[]⟩] n) 9)):=by
 obtain ⟨f,h,j,o,q⟩:=info_parts CF
 have d:=run_make (P:=prog) W 41 9 f (.string ⟨#[]⟩) underlying41 h j .i64 .i64 0 n (by omega) (by omega) (by rw [q];omega) (by omega)
 simp only [Int.toNat_natCast,o,Nat.mul_one] at d
 exact d
theorem r7 (n:Nat) (d:n<=1000) (W:World):Zq (W.alloc (.cells (madeCells #[.string ⟨#[]⟩] n) 9)) W.heap.size (.slice (some ⟨W.heap.size,0,none⟩) 0 n) []:=by
 refine ⟨rfl,Or.inr ⟨W.heap.size,n,madeCells #[.string ⟨#[]⟩] n,rfl,Nat.le_refl _,?_,Nat.zero_le _,by unfold maxLen;omega,by simp [madeCells],by simp⟩⟩
 rw [heap_alloc_new]
structure Z6 (b:Nat) (w4:World) (v:Value) (w:World):Prop where
 os:w.os=w4.os
 tape:w.tape=w4.tape
 output:w.output=w4.output
 size:w4.heap.size<=w.heap.size
 block:∀ k,k < w4.heap.size->k≠b->w.heap[k]?=w4.heap[k]?
 own:∀ k,v.ownBlock=some k->k=b∨w4.heap.size<=k
theorem Z6.start  (h:v.ownBlock=some b):Z6 b f v f:=⟨rfl,rfl,rfl,Nat.le_refl _,fun _ _ _=>rfl,fun k d=>Or.inl (by rw [h] at d;exact (Option.some.inj d).symm)⟩
theorem Z6.below {j o:World} (h:Z6 b j v w) (d:Below w.heap.size w o):Z6 b j v o:=⟨d.os.trans h.os,d.tape.trans h.tape,d.output.trans h.output,Nat.le_trans h.size d.size,fun k f q=>(d.block k (Nat.lt_of_lt_of_le f h.size)).trans (h.block k f q),h.own⟩
theorem Z6.app {q:World} {j:Value} (h:Z6 b q v w) (H:w.grownBy s v.ownBlock) (I:j.ownBlock=v.ownBlock∨j.ownBlock=some w.heap.size):Z6 b q j s:=by
 obtain ⟨t,A,B,D,G⟩:=H
 refine ⟨t.trans h.os,A.trans h.tape,B.trans h.output,Nat.le_trans h.size D,fun k d o=>(G k (Nat.lt_of_lt_of_le d h.size) (fun e=>?_)).trans (h.block k d o),fun k d=>?_⟩
 ·rcases h.own k e.symm with f | f
  ·exact o f
  ·omega
 ·rcases I with f | f
  ·exact h.own k (by rw [<- f];exact d)
  ·rw [f] at d
   exact Or.inr (by rw [<- Option.some.inj d];exact h.size)
theorem Z6.toBelow  (h:Z6 b d v w) (j:b<=d.heap.size):Below b d w:=⟨h.os,h.tape,h.output,h.size,fun k f=>h.block k (by omega) (by omega)⟩
theorem Z6.cell  (h:Z6 b d v w) {p:Addr} (f:p.block < d.heap.size) (j:p.block≠b):w.cell? p=d.cell? p:=by
 unfold World.cell?
 rw [h.block p.block f j]
theorem OU {j:Array Oper} {rest:List Oper} {o:Oper} {a:Act} {Q:Exit->Act->World->Prop} (L:o.guard=none) (s x:Operand)
 (M:o.op=.call { callee:=.builtin .append,args:=#[s,x],argTypes:=#[41,41] })
 (B:Nat) (v:Value) (l:List ByteArray) (N:a.eval s=v) (O:Zq w B v l) (ad:Addr) (t:ByteArray) (c:Nat) (R:a.eval x=.slice (some ad) 1 c) (S:w.cell? ad=some (.string t)) (T:l.length+1<=1000000) (U:B<=w.heap.size)
 (h:∀ d f,Zq f B d (l ++ [t])->w.grownBy f v.ownBlock->(d.ownBlock=v.ownBlock∨d.ownBlock=some w.heap.size)->wpList prog j Q rest (a.put o.dst d) f):wpList prog j Q (o :: rest) a w:=by
 obtain ⟨q,A,D,G,H⟩:=info_parts CF
 refine yL L s x _ M B 9 q (.string ⟨#[]⟩) 16 underlying41 A D rfl G H (by decide) v (l.map Value.string) N O ad c (.string t) rfl R S (by rw [List.length_map];exact T) U fun d f I J K=>h d f ?_ J K
 unfold Zq
 rw [List.map_append]
 exact I
end
section
open Ring Go.Sort
theorem n3 {d:List Pt} {f:Nat} {h:Nat} (t:o<=d.length) (A:∀ j,j < d.length->(QZ h f d.length (XW d) j).2=(XW d ((o+j) % d.length)).2) (B:0 < d.length) {j:Nat} (s:j < d.length) :
 ∃ x:Pt,(d.drop o ++ d.take o)[j]?=some x/\x.2.1=(QZ h f d.length (XW d) j).2:=by
 have q:(o+j) % d.length < d.length:=Nat.mod_lt _ B
 refine ⟨d[(o+j) % d.length],by rw [P4 d o j t s,List.getElem?_eq_getElem q],?_⟩
 rw [A j s,nV q]
 rfl
set_option maxRecDepth 10000 in
set_option maxHeartbeats 8000000 in
theorem WY (g A:Nat) (d:List Pt) (B:List ByteArray) (h n:Nat) (w:World) (hr:lG B d) (m0:1<=B.length) (n2:B.length<=16) (hn:n<=B.length) (hx:∀ x ∈ B,x.size<=16) (i5:B.Nodup) (i6:d.length<=A) (c9:Ql pE w (some ⟨g,0,none⟩) d) :
 Calls prog 64 #[.slice (some ⟨g,0,none⟩) d.length A,.int .u32 (h:Int),.int .i64 (n:Int)] w fun e G=>(∃ v s,e=.returned v/\Zq G w.heap.size v s/\s.length=n/\XC h B s)/\Below w.heap.size w G:=by
 have a5:=hr.len
 obtain ⟨f,q,r,f4,f5,a8,f6,f7⟩:=O8 h B d hr m0
 have hg:g < w.heap.size:=by
  rcases c9 with M | ⟨b,o,N,i8,_⟩
  ·rw [M] at a5;simp at a5;omega
  ·obtain ⟨rfl,rfl⟩:g=b/\0=o:=by simpa using N
   exact i8
 obtain ⟨K,U⟩:∃ K,K=w.alloc (.cells #[.int .u32 (h:Int)] 102):=⟨_,rfl⟩
 have d0:Below w.heap.size w K:=by rw [U];exact (Below.refl _ _).alloc (Nat.le_refl _) _
 have i9:K.heap.size=w.heap.size+1:=by rw [U];simp
 have f8:=c9.below d0
 have d1:=slices_IndexFunc 3 isAgg128 sizeOf128 QS (fun _=>rfl) (fun x:Pt=>decide (h<=x.1)) 92 #[.pointer (some ⟨w.heap.size,0,none⟩)] (enters_of func92 (by kernel_rfl) rfl) g 0 d.length A d K
  (TW h w.heap.size K (by omega) (by rw [U];simp)) (Nat.le_refl _) (by omega) (by omega) (fun j O i v hv=>by
   rcases f8 with M | ⟨b,o,N,_,hc⟩
   ·rw [M] at O;exact absurd O (Nat.not_lt_zero _)
   ·obtain ⟨rfl,rfl⟩:g=b/\0=o:=by simpa using N
    have:=hc j d[j] (List.getElem?_eq_getElem O) i v (by rw [getElem!_pos d j O] at hv;exact hv)
    exact this)
 rw [f4] at d1
 have f9:Hid (K=w.alloc (.cells #[.int .u32 (h:Int)] 102)):=U
 have d2:Hid (Below w.heap.size w K):=d0
 have d3:Hid (Ql pE w (some ⟨g,0,none⟩) d):=c9
 have d4:Hid (qL h B (QZ h f d.length (XW d)) d.length):=f6
 have j0:Hid B.Nodup:=i5
 have HX:Hid (∀ x ∈ B,x.size<=16):=hx
 have j3:Hid (∀ j,j < d.length->∃ x:Pt,(d.drop q ++ d.take q)[j]?=some x/\x.2.1=(QZ h f d.length (XW d) j).2):=fun j O=>n3 a8 f7 (by omega) O
 have g0:Hid ((d.drop q ++ d.take q).length=d.length):=by show _=_;rw [List.length_append,List.length_drop,List.length_take];omega
 have j4:Hid (d.length=8*B.length):=a5
 have m3:d.length<=128:=by omega
 have m4:1<=d.length:=by omega
 have m5:=OJ (some ⟨g,0,none⟩) d A q a8
 have m6:=LZ (some ⟨g,0,none⟩) d A q a8 i6
 have j5:=k7 n (by omega)
 have g1:Hid (∀ W:World,Zq (W.alloc (.cells (madeCells #[.string ⟨#[]⟩] n) 9)) W.heap.size (.slice (some ⟨W.heap.size,0,none⟩) 0 n) []):=fun W=>r7 n (by omega) W
 have HD:Hid (∀ W,Below w.heap.size w W->(Ql pE W (if A=q then some ⟨g,0,none⟩ else (some (⟨g,0,none⟩:Addr)).map (·.add (q*3))) (d.drop q)/\((if A=q then some ⟨g,0,none⟩ else (some (⟨g,0,none⟩:Addr)).map (·.add (q*3)))=none->d.drop q=[]/\A - q=0))/\Ql pE W (some ⟨g,0,none⟩) (d.take q)):=fun W hW=>⟨(d3.out.below hW).drop a8 i6 (fun e=>by cases e),(d3.out.below hW).take q⟩
 clear U d0 i9 f8 f4 c9 f6 f7 hr i5 hx a5 hg
 generalize (if A=q then some ⟨g,0,none⟩ else (some (⟨g,0,none⟩:Addr)).map (·.add (q*3)))=V at *
 generalize QZ h f d.length (XW d)=R at *
 have m7:max (0:Int) r=(q:Int):=by
  rcases f5 with ⟨Q,h2⟩ | Q <;> omega
 clear f5
 go_enter func64,ntmps64
 go_wp2_with fail
 rw [<- f9.out]
 refine d1.mono ?_
 rintro e t ⟨rfl,g2⟩
 have a9:Hid (Below w.heap.size w t):=d2.out.trans (g2.mono d2.out.size)
 clear g2 d1 f9 d2
 go_wp2
 have d5:=g1.out t
 have d6:Below w.heap.size w (t.alloc (.cells (madeCells #[.string ⟨#[]⟩] n) 9)):=a9.out.alloc a9.out.size _
 generalize t.alloc (.cells (madeCells #[.string ⟨#[]⟩] n) 9)=w3 at d5 d6 ⊢
 have b1:Hid (Zq w3 t.heap.size (.slice (some ⟨t.heap.size,0,none⟩) 0 n) []):=d5
 have Y:Hid (Below w.heap.size w w3):=d6
 have HZ:Hid (w.heap.size<=t.heap.size):=a9.out.size
 clear d5 d6 a9 g1 j5
 have g3:Hid (∀ W,Below w.heap.size w W->∀ Z,W.cell? ⟨Z,0,none⟩=some (.slice V (d.drop q).length (A - q))->W.cell? ⟨Z,1,none⟩=some (.slice (some ⟨g,0,none⟩) (d.take q).length A)->Calls prog 93 #[.slice (some ⟨Z,0,none⟩) 2 2] W fun e G=>(∃ v,e=.returned v/\Zc pE 128 G W.heap.size v (d.drop q ++ d.take q))/\Below W.heap.size W G):=fun W hW Z q1 q2=>by
  obtain ⟨⟨Q,h2⟩,h3⟩:=HD.out W hW
  exact OW Z 2 V (some ⟨g,0,none⟩) (d.drop q) (d.take q) (A - q) A W (by rw [List.length_drop,List.length_take];omega) (by rw [List.length_drop,List.length_take];omega) q1 q2 Q h3 h2 (fun e=>by cases e)
 have m8:(q:Int)<=(d.length:Int):=by omega
 generalize (d.drop q).length=m1 at *
 generalize (d.take q).length=m2 at *
 have g5:Hid (Calls prog 93 #[.slice (some ⟨w3.heap.size,0,none⟩) 2 2] (w3.alloc (.cells #[.slice V m1 (A - q),.slice (some ⟨g,0,none⟩) m2 A] 99)).drew fun e G=>(∃ v,e=.returned v/\Zc pE 128 G w3.heap.size v (d.drop q ++ d.take q))/\Below w3.heap.size w3 G):=by
  have hq:=g3.out (w3.alloc (.cells #[.slice V m1 (A - q),.slice (some ⟨g,0,none⟩) m2 A] 99)).drew ((Y.out.alloc Y.out.size _).drew) w3.heap.size (by simp) (by simp)
  refine hq.mono ?_
  rintro e G ⟨⟨v,rfl,hO⟩,hb⟩
  have d7:(w3.alloc (.cells #[.slice V m1 (A - q),.slice (some ⟨g,0,none⟩) m2 A] 99)).drew.heap.size=w3.heap.size+1:=by simp
  exact ⟨⟨v,rfl,hO.base (by omega)⟩,(((Below.refl _ w3).alloc (Nat.le_refl _) _).drew).trans (hb.mono (by omega))⟩
 have d8:Hid ((d.drop q ++ d.take q).length=d.length):=g0.out
 clear g3 HD g0
 go_region_with (go_at_call 93;refine g5.out.mono ?_;rintro e H ⟨⟨v4,rfl,g6⟩,a0⟩;obtain ⟨p4,c4,rfl,d9,j6,j7,g7⟩:=g6.form)
 rw [d8.out] at j6
 have k0:Hid (Ql pE H p4 (d.drop q ++ d.take q)):=d9
 have m9:Hid (Below w3.heap.size w3 H):=a0
 have k8:Hid (Below w.heap.size w H):=Y.out.trans (a0.mono Y.out.size)
 have k9:Hid (Zq H t.heap.size (.slice (some ⟨t.heap.size,0,none⟩) 0 n) []):=b1.out.kept a0
 obtain ⟨g4,o4,rfl⟩:∃ b o,p4=some ⟨b,o,none⟩:=by
  rcases d9 with M | ⟨b,o,N,_⟩
  ·have:=d8.out;rw [M] at this;simp at this;omega
  ·exact ⟨b,o,N⟩
 have g8:Hid (t.heap.size<=H.heap.size):=by
  show _<=_
  have Q:t.heap.size<=w3.heap.size:=by
   rcases Nat.lt_or_ge t.heap.size w3.heap.size with h | h
   ·omega
   ·have:=(b1.out.block (k:=t.heap.size) rfl).2;omega
  have:=a0.size
  omega
 have g9:Hid (g4≠t.heap.size/\g4 < H.heap.size):=by
  have Q:=g7 g4 o4 rfl
  have h2:=(b1.out.block (k:=t.heap.size) rfl).2
  exact ⟨by omega,Q.2⟩
 clear g6 a0 d9 j7 g7 b1 Y g5 d3 j4
 go_simp
 go_wp2
 go_loopw [8,26] (fun v x wq=>∃ (j:Nat) (s:List ByteArray),j<=d.length/\x=.int .i64 j/\Zq wq t.heap.size v s/\Qz h B R n j s/\Z6 t.heap.size H v wq) (fun _ x _=>d.length - (intOf x).toNat)
 case atStart=>exact ⟨0,[],Nat.zero_le _,rfl,k9.out,Qz.start _ _ _ _,Z6.start rfl⟩
 case round =>
  obtain ⟨j,s,O,rfl,e2,e3,hB⟩:=hrel
  obtain ⟨D,rfl⟩:∃ D,D=wr:=⟨_,rfl⟩
  obtain ⟨I,J,rfl,h4,_,_,l0⟩:=e2.form
  have h5:Hid (Zq D t.heap.size (.slice I s.length J) s):=e2
  have a2:Hid (Qz h B R n j s):=e3
  have f0:Hid (Z6 t.heap.size H (.slice I s.length J) D):=hB
  have l3:Hid (Strs D I s):=h4
  have h6:Hid (s.length<=16):=by show _<=_;have:=e3.le;omega
  clear e2 e3 hB h4 l0
  by_cases f1:j < d.length
  ·obtain ⟨x,h7,f2⟩:=j3.out j f1
   have b2:∀ i u,(QS x)[i]?=some u->D.cell? ⟨g4,o4+j*3+i,none⟩=some u:=fun i u hu=>by
    rcases k0.out with M | ⟨b,o,N,_,hc⟩
    ·have:=d8.out;rw [M] at this;simp at this;omega
    ·obtain ⟨rfl,rfl⟩:g4=b/\o4=o:=by simpa using N
     exact (f0.out.cell (p:=⟨g4,o4+j*3+i,none⟩) g9.out.2 g9.out.1).trans (hc j x h7 i u hu)
   have q1:=b2 0 _ rfl
   have q2:=b2 1 _ rfl
   have q3:=b2 2 _ rfl
   rw [Nat.add_zero] at q1
   have h8:Hid (x.2.1=(R j).2):=f2
   have d7:x.2.1.size<=16:=by rw [f2];exact HX.out _ (d4.out.mem j f1).1
   obtain ⟨a,y,i⟩:=x
   clear b2 h7 f2
   have b8:Hid (Z6 t.heap.size H (.slice I s.length J) (D.alloc (.cells #[.int .u32 (a:Int),.string y,.int .i64 (i:Int)] 128))):=f0.out.below ((Below.refl _ _).alloc (Nat.le_refl _) _)
   have c2:Hid (Zq (D.alloc (.cells #[.int .u32 (a:Int),.string y,.int .i64 (i:Int)] 128)) t.heap.size (.slice I s.length J) s):=h5.out.kept ((Below.refl _ _).alloc (Nat.le_refl _) _)
   by_cases h9:s.length < n
   ·have S:Hid (Calls prog 83 #[.slice I s.length J,.string y] (D.alloc (.cells #[.int .u32 (a:Int),.string y,.int .i64 (i:Int)] 128)) fun e G=>e=.returned (.bool (Xu s y))/\G=(D.alloc (.cells #[.int .u32 (a:Int),.string y,.int .i64 (i:Int)] 128))):=vN I s J y _ (by have:=h6.out;omega) (l3.out.below ((Below.refl _ _).alloc (Nat.le_refl _) _))
    have e1:(D.alloc (.cells #[.int .u32 (a:Int),.string y,.int .i64 (i:Int)] 128)).cell? ⟨D.heap.size,1,none⟩=some (.string y):=by simp
    by_cases T:y ∈ s
    ·have a3:Hid (Qz h B R n (j+1) s):=a2.out.skip (by rw [<- h8.out];exact T)
     rw [Zl.2 T] at S
     clear T
     go_wp2_with fail
     refine S.out.mono ?_
     rintro e L ⟨rfl,a4⟩
     rw [a4]
     clear a4 L S
     go_wp2
     go_roundw
     case rel=>exact ⟨j+1,s,by omega,by go_num,c2.out,a3.out,b8.out⟩
     case measure=>simp [intOf];omega
    ·have a3 : Hid (Qz h B R n (j + 1) (s ++ [y])) := by
      show Qz h B R n (j+1) (s ++ [y])
      have hy:y=(R j).2:=h8.out
      rw [hy]
      exact a2.out.push d4.out f1 h9 (by rw [<- hy];exact T)
     rw [Bool.eq_false_iff.2 (fun h=>T (Zl.1 h))] at S
     have n1:y.size<=1000000:=by have:y.size<=16:=d7;omega
     clear T d7
     go_wp2_with fail
     refine S.out.mono ?_
     rintro e L ⟨rfl,a4⟩
     rw [a4]
     clear a4 L S
     generalize D.alloc (.cells #[.int .u32 (a:Int),.string y,.int .i64 (i:Int)] 128)=w6 at b8 c2 e1 ⊢
     go_wp2_with fail
     refine (Xs y w6 (by omega)).mono ?_
     rintro e L ⟨rfl,f3⟩
     have i0:Hid (Z6 t.heap.size H (.slice I s.length J) (L.alloc (.cells #[.string y] 9))):=(b8.out.below f3).below ((Below.refl _ _).alloc (Nat.le_refl _) _)
     have l5:Hid (Zq (L.alloc (.cells #[.string y] 9)) t.heap.size (.slice I s.length J) s):=(c2.out.kept f3).kept ((Below.refl _ _).alloc (Nat.le_refl _) _)
     have l6:Hid (t.heap.size<=(L.alloc (.cells #[.string y] 9)).heap.size):=Nat.le_trans g8.out i0.out.size
     clear f3 e1 q1 q2 q3
     go_wp2_with (first | (at_builtin;refine OU rfl (.tmp 41) (.tmp 45) rfl t.heap.size (.slice I s.length J) s rfl l5.out ⟨L.heap.size,0,none⟩ y 1 rfl (by rw [World.cell?_alloc_at _ _ _ _ rfl];rfl) (by have:=h6.out;omega) l6.out ?_;intro v' w8 i2 i3 i4))
     have l7:Hid (Zq w8 t.heap.size v' (s ++ [y])):=i2
     have l8:Hid (Z6 t.heap.size H v' w8):=i0.out.app i3 i4
     clear i2 i3 i4
     go_wp2
     go_roundw
     case rel=>exact ⟨j+1,s ++ [y],by omega,by go_num,l7.out,a3.out,l8.out⟩
     case measure=>simp [intOf];omega
   ·have a3:Hid (Qz h B R n (j+1) s):=a2.out.full h9
    go_wp2
    go_roundw
    case rel=>exact ⟨j+1,s,by omega,by go_num,c2.out,a3.out,b8.out⟩
    case measure=>simp [intOf];omega
  ·have l9:j=d.length:=by omega
   subst l9
   have HE:Hid (s.length=n):=a2.out.done d4.out hn j0.out
   go_wp2
   go_ret
   exact ⟨⟨_,s,rfl,h5.out.base HZ.out,HE.out,a2.out.kX⟩,k8.out.trans ((f0.out.toBelow g8.out).mono HZ.out)⟩
end
set_option maxRecDepth 10000 in
set_option maxHeartbeats 1000000 in
theorem RA (r:Nat) (W:World):Calls prog 108 #[.int .i32 (r:Int)] W fun e G=>e=.returned (.bool (!Xr r))/\G=W:=by
 have f:∀ b,Xr r=b->Hid ((!Xr r)=(!b)):=fun b h=>by show _=_;rw [h]
 rcases (show (97<=r/\r<=122)∨(48<=r/\r<=57)∨r=45∨122 < r∨(57 < r/\r < 97)∨(r < 48/\r≠45) by omega) with d | d | d | d | d | d
 ·have j:=f true (by simp [Xr,d])
  obtain ⟨q,s⟩:=d
  have o:decide ((r:Int) < 97)=false:=decide_eq_false (by omega)
  have H:decide (122 < (r:Int))=false:=decide_eq_false (by omega)
  rw [j.out]
  clear f
  go_enter func108,ntmps108
  go_wp2
  go_ret
  exact ⟨rfl,rfl⟩
 ·have j:=f true (by simp [Xr,d])
  obtain ⟨q,s⟩:=d
  have o:decide ((r:Int) < 97)=true:=decide_eq_true (by omega)
  have t:decide ((r:Int) < 48)=false:=decide_eq_false (by omega)
  have A:decide (57 < (r:Int))=false:=decide_eq_false (by omega)
  rw [j.out]
  clear f
  go_enter func108,ntmps108
  go_wp2
  go_ret
  exact ⟨rfl,rfl⟩
 ·have j:=f true (by simp [Xr,d])
  subst d
  rw [j.out]
  clear f
  go_enter func108,ntmps108
  go_wp2
  go_ret
  exact ⟨rfl,rfl⟩
 ·have j:=f false (by unfold Xr;rw [decide_eq_false (by omega),decide_eq_false (by omega),decide_eq_false (by omega)];rfl)
  have o:decide ((r:Int) < 97)=false:=decide_eq_false (by omega)
  have H:decide (122 < (r:Int))=true:=decide_eq_true (by omega)
  have t:decide ((r:Int) < 48)=false:=decide_eq_false (by omega)
  have A:decide (57 < (r:Int))=true:=decide_eq_true (by omega)
  have B:((r:Int) != 45)=true:=by rw [bne_iff_ne];omega
  have D:((r:Int)==45)=false:=by rw [beq_eq_false_iff_ne];omega
  rw [j.out]
  clear f
  go_enter func108,ntmps108
  go_wp2
  go_ret
  exact ⟨rfl,rfl⟩
 ·have j:=f false (by unfold Xr;rw [decide_eq_false (by omega),decide_eq_false (by omega),decide_eq_false (by omega)];rfl)
  obtain ⟨q,s⟩:=d
  have o:decide ((r:Int) < 97)=true:=decide_eq_true (by omega)
  have t:decide ((r:Int) < 48)=false:=decide_eq_false (by omega)
  have A:decide (57 < (r:Int))=true:=decide_eq_true (by omega)
  have B:((r:Int) != 45)=true:=by rw [bne_iff_ne];omega
  have D:((r:Int)==45)=false:=by rw [beq_eq_false_iff_ne];omega
  rw [j.out]
  clear f
  go_enter func108,ntmps108
  go_wp2
  go_ret
  exact ⟨rfl,rfl⟩
 ·have j:=f false (by unfold Xr;rw [decide_eq_false (by omega),decide_eq_false (by omega),decide_eq_false (by omega)];rfl)
  obtain ⟨q,s⟩:=d
  have o:decide ((r:Int) < 97)=true:=decide_eq_true (by omega)
  have t:decide ((r:Int) < 48)=true:=decide_eq_true (by omega)
  have B:((r:Int) != 45)=true:=by rw [bne_iff_ne];omega
  have D:((r:Int)==45)=false:=by rw [beq_eq_false_iff_ne];omega
  rw [j.out]
  clear f
  go_enter func108,ntmps108
  go_wp2
  go_ret
  exact ⟨rfl,rfl⟩
theorem AE (s:ByteArray):∀ (f i:Nat),s.size<=i+f->(decide (0<=Lib.idxFuncFrom (fun r=>!Xr r) true s f i)=true↔∃ j,i<=j/\j < s.size/\Xr (Gf.nth (bytesOf s) j)=false)
 | 0,i,h=>by
  constructor
  ·intro o
   have q:decide ((0:Int)<=-1)=true:=o
   cases q
  ·rintro ⟨j,o,q,_⟩
   omega
 | f+1,i,h=>by
  show decide (0<=(if i < s.size then (if (!Xr (Utf8.decode s i).1)=true then (i:Int) else Lib.idxFuncFrom (fun r=>!Xr r) true s f (i+(Utf8.decode s i).2)) else -1))=true↔_
  by_cases d:i < s.size
  ·rw [if_pos d]
   by_cases B:(s[i]'d).toNat < 128
   ·rw [decode_ascii s i d B,<- uD s i d]
    have ih:=AE s f (i+1) (by omega)
    cases A:Xr (Gf.nth (bytesOf s) i) with
    | false =>
     rw [if_pos (by rfl)]
     exact ⟨fun _=>⟨i,Nat.le_refl _,d,A⟩,fun _=>decide_eq_true (by omega)⟩
    | true =>
     rw [if_neg (by simp),ih]
     constructor
     ·rintro ⟨j,o,q,t⟩
      exact ⟨j,by omega,q,t⟩
     ·rintro ⟨j,o,q,t⟩
      refine ⟨j,?_,q,t⟩
      by_cases e:j=i
      ·rw [e,A] at t;cases t
      ·omega
   ·have o:=(decode_high s i d (by omega)).1
    have A:Xr (Utf8.decode s i).1=false:=by
     unfold Xr
     rw [decide_eq_false (by omega),decide_eq_false (by omega),decide_eq_false (by omega)]
     rfl
    have D:Xr (Gf.nth (bytesOf s) i)=false:=by
     rw [uD s i d]
     unfold Xr
     rw [decide_eq_false (by omega),decide_eq_false (by omega),decide_eq_false (by omega)]
     rfl
    rw [A,if_pos (by rfl)]
    exact ⟨fun _=>⟨i,Nat.le_refl _,d,D⟩,fun _=>decide_eq_true (by omega)⟩
  ·rw [if_neg d]
   constructor
   ·intro o
    cases o
   ·rintro ⟨j,o,q,_⟩
    omega
theorem U7 (s:ByteArray):decide (0<=Lib.idxFunc (fun r=>!Xr r) true s)=!((bytesOf s).all Xr):=by
 have h:=AE s s.size 0 (by omega)
 cases f:(bytesOf s).all Xr with
 | true =>
  rw [show (!true)=false from rfl,Bool.eq_false_iff]
  intro q
  obtain ⟨j,_,d,t⟩:=h.1 q
  have o:j < (bytesOf s).length:=by rw [tZ];exact d
  rw [List.all_eq_true] at f
  have:=f (Gf.nth (bytesOf s) j) (by rw [Gf.aK _ j o];exact List.getElem_mem o)
  rw [t] at this
  cases this
 | false =>
  obtain ⟨x,A,B⟩:=List.all_eq_false.1 f
  obtain ⟨j,d,rfl⟩:=List.getElem_of_mem A
  refine h.2 ⟨j,Nat.zero_le _,by rw [tZ] at d;exact d,?_⟩
  rw [Gf.aK _ j d]
  exact Bool.eq_false_iff.2 B
set_option maxRecDepth 10000 in
set_option maxHeartbeats 1000000 in
theorem qF (s:ByteArray) (w:World):Calls prog 82 #[.string s] w fun e j=>e=.returned (.bool (Jo s))/\Below w.heap.size w j:=by
 by_cases B:s.size < 1
 ·have d:Hid (Jo s=false):=CT (by omega)
  have o:decide (1<=(s.size:Int))=false:=decide_eq_false (by omega)
  rw [d.out]
  go_enter func82,ntmps82
  go_wp2
  go_ret
  exact ⟨rfl,Below.refl _ _⟩
 have o:decide (1<=(s.size:Int))=true:=decide_eq_true (by omega)
 by_cases D:16 < s.size
 ·have d:Hid (Jo s=false):=CT (by omega)
  have q:decide ((s.size:Int)<=16)=false:=decide_eq_false (by omega)
  rw [d.out]
  go_enter func82,ntmps82
  go_wp2
  go_ret
  exact ⟨rfl,Below.refl _ _⟩
 have q:decide ((s.size:Int)<=16)=true:=decide_eq_true (by omega)
 have f:=strings_ContainsFunc 108 #[] (enters_of func108 (by kernel_rfl) rfl) (fun r=>!Xr r) s w (fun W r _=>by
  unfold FnGives
  exact (RA r W).mono fun _ _ ⟨t,A⟩=>⟨t,0,A⟩)
 rw [U7] at f
 have d:Hid (Jo s=(bytesOf s).all Xr):=by show _=_;unfold Jo;rw [decide_eq_true ⟨by omega,by omega⟩,Bool.true_and]
 rw [d.out]
 generalize (bytesOf s).all Xr=r at *
 clear d
 go_enter func82,ntmps82
 go_wp2_with fail
 refine f.mono ?_
 rintro e G ⟨rfl,h⟩
 clear f
 cases r with
 | true =>
  go_wp2
  go_ret
  exact ⟨rfl,h⟩
 | false =>
  go_wp2
  go_ret
  exact ⟨rfl,h⟩
structure E3 (w:World) (ad:Nat->Addr):Prop where
 c1:w.cell? ⟨2,0,none⟩=some (.iface 200 (.pointer (some (ad 1))))
 c3:w.cell? ⟨5,0,none⟩=some (.iface 200 (.pointer (some (ad 3))))
 c5:w.cell? ⟨7,0,none⟩=some (.iface 200 (.pointer (some (ad 5))))
theorem E3.below  (h:E3 w ad) (d:Below w.heap.size w f):E3 f ad:=⟨(d.cell (Yl h.c1)).trans h.c1,(d.cell (Yl h.c3)).trans h.c3,(d.cell (Yl h.c5)).trans h.c5⟩
theorem zP  {t:TypeId} (i:Nat) (f:i < 12) (at_:Int) (h:d=w.alloc (.cells #[.int .i64 at_,.iface 200 (.pointer (some (ad i)))] t)):Jd d ad (.iface 90 (.pointer (some ⟨w.heap.size,0,none⟩))) ((i+1:Nat):Int) at_:=by
 subst h
 refine Or.inr (Or.inr ⟨i,w.heap.size,f,rfl,rfl,?_,?_⟩)
 ·rw [World.cell?_alloc_at _ _ _ _ rfl];rfl
 ·rw [World.cell?_alloc_at _ _ _ _ rfl];rfl
set_option maxRecDepth 10000 in
set_option maxHeartbeats 1000000 in
theorem SA (ad:Nat->Addr) (p:Option Addr) (l:List ByteArray) (c:Nat) (w:World) (A:l.length<=1000) (o:E3 w ad) (h:l.length < 1∨16 < l.length) :
 Calls prog 61 #[.slice p l.length c] w fun e d=>(∃ f,e=.returned f/\Jd d ad f 2 (-1))/\Below w.heap.size w d:=by
 have s:=o.c1
 have j:Hid (∀ W,Jd W ad (.iface 200 (.pointer (some (ad 1)))) 2 (-1)):=fun W=>Jd.b8 1 (by decide)
 clear o
 rcases h with h | h
 ·have q:decide ((l.length:Int) < 1)=true:=decide_eq_true (by omega)
  go_enter func61,ntmps61
  go_wp2
  go_ret
  exact ⟨⟨_,rfl,j.out _⟩,Below.refl _ _⟩
 ·have q:decide ((l.length:Int) < 1)=false:=decide_eq_false (by omega)
  have t:=decide_eq_true (by omega)
  go_enter func61,ntmps61
  go_wp2
  go_ret
  exact ⟨⟨_,rfl,j.out _⟩,Below.refl _ _⟩
set_option maxRecDepth 10000 in
set_option maxHeartbeats 4000000 in
theorem MA (ad:Nat->Addr) (p:Option Addr) (l:List ByteArray) (c:Nat) (w:World) (h1:¬ l.length < 1) (h2:¬ 16 < l.length) (hc:l.length<=c) (hs:Strs w p l) (hE:E3 w ad) :
 Calls prog 61 #[.slice p l.length c] w fun e H=>(∃ ev,e=.returned ev/\Jd H ad ev (XO l 0 l.length).1 (XO l 0 l.length).2)/\Below w.heap.size w H:=by
 have HS:Hid (Strs w p l):=hs
 have HE:Hid _:=hE
 have g1:=decide_eq_false (by omega)
 have g2:=decide_eq_false (by omega)
 obtain ⟨b,o,rfl⟩:∃ b o,p=some ⟨b,o,none⟩:=by
  rcases hs with Q | ⟨b,o,S,_⟩
  ·rw [Q] at h1;exact absurd (by decide) h1
  ·exact ⟨b,o,S⟩
 clear hs hE
 obtain ⟨R,T⟩:∃ R,R=XO l 0 l.length:=⟨_,rfl⟩
 rw [<- T]
 have HR:Hid _:=T
 clear T
 go_enter func61,ntmps61
 go_wp2
 go_loopw [16] (fun x wq=>∃ i:Nat,i<=l.length/\x=.int .i64 i/\XO l i (l.length - i)=R/\Below w.heap.size w wq) (fun x _=>l.length - (intOf x).toNat)
 case atStart=>exact ⟨0,Nat.zero_le _,rfl,HR.out.symm,Below.refl _ _⟩
 case round =>
  obtain ⟨i,hi,rfl,a2,O⟩:=hrel
  obtain ⟨K,rfl⟩:∃ K,K=wr:=⟨_,rfl⟩
  have j:Hid _:=a2
  have s:Hid _:=O
  have U:Hid (Strs K (some ⟨b,o,none⟩) l):=HS.out.below O
  have a3:Hid (E3 K ad):=HE.out.below O
  clear a2 O HR HS HE
  by_cases V:i < l.length
  ·have Y : K.cell? ⟨b, o + i, none⟩ = some (.string (Yc l i)) := by
    rcases U.out with Q | ⟨b',o',S,_,a4⟩
    ·rw [Q] at V;exact absurd V (Nat.not_lt_zero _)
    ·obtain ⟨rfl,rfl⟩:b=b'/\o=o':=by simpa using S
     exact a4 i V
   have q:Hid (∀ W,Calls prog 82 #[.string (Yc l i)] W fun e H=>e=.returned (.bool (Jo (Yc l i)))/\Below W.heap.size W H):=fun W=>qF _ W
   have I:Hid (XO l i (l.length - i)=if Yu l i=0 then XO l (i+1) (l.length - (i+1)) else (((Yu l i:Nat):Int),(i:Int))):=by
    show _=_
    rw [show l.length - i=(l.length - (i+1))+1 by omega]
    rfl
   by_cases A:Jo (Yc l i)=true
   ·have B:Hid (∀ W,Strs W (some ⟨b,o,none⟩) (l.take i)->Calls prog 83 #[.slice (some ⟨b,o,none⟩) (l.take i).length c,.string (Yc l i)] W fun e H=>e=.returned (.bool (Xu (l.take i) (Yc l i)))/\H=W):=fun W hW=>vN _ _ c _ W (by rw [List.length_take];omega) hW
    rw [show (l.take i).length=i by rw [List.length_take];omega] at B
    rw [A] at q
    by_cases J:Yc l i ∈ l.take i
    ·have D : Hid (R = (6, (i : Int))) := by
      show _=_
      rw [<- j.out,I.out,TL A J,if_neg (by decide)]
      rfl
     rw [Zl.2 J] at B
     clear j I A J
     generalize Yc l i=t at *
     go_wp2_with fail
     refine (q.out _).mono ?_
     rintro e f ⟨rfl,d⟩
     have G:Hid (Below w.heap.size w f):=s.out.trans (d.mono s.out.size)
     have L:Hid (Strs f (some ⟨b,o,none⟩) (l.take i)):=(U.out.below d).take i
     have M:E3 f ad:=a3.out.below d
     have q4:=M.c5
     clear M d q Y
     go_wp2_with fail
     refine (B.out _ L.out).mono ?_
     rintro e Z ⟨rfl,N⟩
     rw [N]
     clear N Z B L
     go_wp2
     go_ret
     exact ⟨⟨_,rfl,by rw [D.out];exact zP (w:=f) 5 (by decide) (i:Int) rfl⟩,G.out.alloc G.out.size _⟩
    ·have D : Hid (XO l (i + 1) (l.length - (i + 1)) = R) := by
      show _=_
      rw [<- j.out,I.out,ET A J,if_pos rfl]
     rw [Bool.eq_false_iff.2 (fun h=>J (Zl.1 h))] at B
     clear j I A J
     generalize Yc l i=t at *
     go_wp2_with fail
     refine (q.out _).mono ?_
     rintro e f ⟨rfl,d⟩
     have G:Hid (Below w.heap.size w f):=s.out.trans (d.mono s.out.size)
     have L:Hid (Strs f (some ⟨b,o,none⟩) (l.take i)):=(U.out.below d).take i
     clear d q Y
     go_wp2_with fail
     refine (B.out _ L.out).mono ?_
     rintro e Z ⟨rfl,N⟩
     rw [N]
     clear N Z B L
     go_wp2
     go_roundw
     case rel=>exact ⟨i+1,by omega,by go_num,D.out,G.out⟩
     case measure=>simp [intOf];omega
   ·have a0:Jo (Yc l i)=false:=Bool.eq_false_iff.2 A
    have D:Hid (R=(4,(i:Int))):=by
     show _=_
     rw [<- j.out,I.out,s3 a0,if_neg (by decide)]
     rfl
    rw [a0] at q
    clear j I A a0
    generalize Yc l i=t at *
    go_wp2_with fail
    refine (q.out _).mono ?_
    rintro e f ⟨rfl,d⟩
    have G:Hid (Below w.heap.size w f):=s.out.trans (d.mono s.out.size)
    have M:E3 f ad:=a3.out.below d
    have q4:=M.c3
    clear M d q Y
    go_wp2
    go_ret
    exact ⟨⟨_,rfl,by rw [D.out];exact zP (w:=f) 3 (by decide) (i:Int) rfl⟩,G.out.alloc G.out.size _⟩
  ·have a5:i=l.length:=by omega
   subst a5
   have D:Hid (R=(0,-1)):=by
    show _=_
    rw [<- j.out,Nat.sub_self]
    rfl
   clear j
   go_wp2
   go_ret
   exact ⟨⟨_,rfl,by rw [D.out];exact Jd.nil _ _⟩,s.out⟩
theorem IF (ad:Nat->Addr) (p:Option Addr) (l:List ByteArray) (c:Nat) (w:World) (o:l.length<=1000) (q:l.length<=c) (s:Strs w p l) (j:E3 w ad) :
 Calls prog 61 #[.slice p l.length c] w fun e d=>(∃ f,e=.returned f/\Jd d ad f (Xj l).1 (Xj l).2)/\Below w.heap.size w d:=by
 by_cases h:l.length < 1∨16 < l.length
 ·rw [E7 h]
  exact SA ad p l c w o j h
 ·rw [AB (by omega) (by omega)]
  exact MA ad p l c w (by omega) (by omega) q s j
theorem zF (ad:Nat->Addr) (p:Option Addr) (l:List ByteArray) (c:Nat) (w:World) (j:l.length<=1000) (o:l.length<=c) (q:Strs w p l) (d:i7 w ad) :
 Calls prog 61 #[.slice p l.length c] w fun e f=>(∃ h,e=.returned h/\Jd f ad h (Xj l).1 (Xj l).2)/\Below w.heap.size w f:=by
 exact IF ad p l c w j o q ⟨d.c1,d.c3,d.c5⟩
section
open Ring Go.Sort
theorem rG  (h:w.cell? ⟨b,o,none⟩=some v):b < w.heap.size:=by
 rcases Nat.lt_or_ge b w.heap.size with d | d
 ·exact d
 ·simp [World.cell?,Array.getElem?_eq_none d] at h
def sU (w:World) (o:List ByteArray) (n:Nat) (q:Array Value):Prop :=
 ∃ (f h g j:Nat) (d:List Pt),q=#[.pointer (some ⟨f,0,none⟩),.pointer (some ⟨h,0,none⟩)]/\w.cell? ⟨f,0,none⟩=some (.slice (some ⟨g,0,none⟩) d.length j)/\w.cell? ⟨h,0,none⟩=some (.int .i64 (n:Int))/\d.length<=j/\Ql pE w (some ⟨g,0,none⟩) d/\lG o d
theorem sU.below {t:List ByteArray} {n:Nat} {A:Array Value} (h:sU w t n A) (d:Below w.heap.size w s):sU s t n A:=by
 obtain ⟨f,j,g,B,D,G,o,q,H,I,J⟩:=h
 exact ⟨f,j,g,B,D,G,(d.cell (p:=⟨f,0,none⟩) (rG o)).trans o,(d.cell (p:=⟨j,0,none⟩) (rG q)).trans q,H,I.below d,J⟩
structure cH (nodes:List ByteArray) (n:Nat):Prop where
 l1:1<=nodes.length
 l2:nodes.length<=16
 sz:∀ x ∈ nodes,x.size<=16
 nd:nodes.Nodup
 n:n<=nodes.length
theorem FT  (h:¬ 0 < (Jm l n).1):cH l n.toNat/\((n.toNat:Nat):Int)=n:=by
 obtain ⟨d,t,A,_⟩:=sK h
 obtain ⟨f,j⟩:=YP d
 obtain ⟨_,o,q⟩:=QV d
 exact ⟨⟨o,q,fun x s=>(QF (f x s)).2,j,by omega⟩,by omega⟩
theorem hZ {h n M:Nat} {s:List ByteArray} {R:Nat->Nat×ByteArray} (t:qL h s R M):∀ j,j<=M->∃ d,Qz h s R n j d
 | 0,_=>⟨[],Qz.start _ _ _ _⟩
 | j+1,hj=>by
  obtain ⟨d,f⟩:=hZ (n:=n) t j (by omega)
  by_cases o:d.length < n
  ·by_cases q:(R j).2 ∈ d
   ·exact ⟨d,f.skip q⟩
   ·exact ⟨_,f.push t (by omega) o q⟩
  ·exact ⟨d,f.full o⟩
theorem sU.ex {j:List ByteArray} {n:Nat} {B:Array Value} (D:sU w j n B) (o:cH j n) (h:Nat):∃ d,XC h j d/\d.length=n:=by
 obtain ⟨_,_,_,_,q,_,_,_,_,_,A⟩:=D
 obtain ⟨f,_,_,_,_,_,s,_⟩:=O8 h j q A o.l1
 obtain ⟨d,t⟩:=hZ (n:=n) s q.length (Nat.le_refl _)
 exact ⟨d,t.kX,t.done s o.n o.nd⟩
set_option maxRecDepth 10000 in
set_option maxHeartbeats 2000000 in
theorem o3 (o:List ByteArray) (n:Nat) (N:Array Value) (j:ByteArray) (w:World) (hk:j.size<=1000) (q:cH o n) (hc:sU w o n N) :
 Calls prog 63 (#[.string j] ++ N) w fun e f=>(∃ v d,e=.returned v/\Zq f w.heap.size v d/\d.length=n/\XC (Xy j) o d)/\Below w.heap.size w f:=by
 obtain ⟨O,Q,g,s,t,rfl,R,S,D,G,H⟩:=hc
 have I:Hid (∀ W,Calls prog 65 #[.string j] W fun e f=>e=.returned (.int .u32 ((Xy j:Nat):Int))/\f=W):=fun W=>IH j W (by omega)
 have J:Hid (∀ W,Below w.heap.size w W->Calls prog 64 #[.slice (some ⟨g,0,none⟩) t.length s,.int .u32 ((Xy j:Nat):Int),.int .i64 (n:Int)] W fun e f=>(∃ v d,e=.returned v/\Zq f W.heap.size v d/\d.length=n/\XC (Xy j) o d)/\Below W.heap.size W f):=fun W T=>WY g s t o (Xy j) n W H q.l1 q.l2 q.n q.sz q.nd D (G.below T)
 clear q D G H
 generalize Xy j=h at *
 generalize t.length=m at *
 show Calls prog 63 #[.string j,.pointer (some ⟨O,0,none⟩),.pointer (some ⟨Q,0,none⟩)] w _
 go_enter func63,ntmps63
 go_wp2
 refine wp_region_still_tail 4 (by kernel_rfl) (by kernel_rfl) ?_
 simp only [List.take_succ_cons,List.take_zero,List.drop_succ_cons,List.drop_zero]
 still_step
 still_step
 still_call (I.out _)
 still_step
 refine wpStill_nil ?_
 change wpList _ _ _ _ _ (w.drewN 1)
 have U:(w.drewN 1).heap.size=w.heap.size:=rfl
 have A:Hid (Calls prog 64 #[.slice (some ⟨g,0,none⟩) m s,.int .u32 (h:Int),.int .i64 (n:Int)] (w.drewN 1) fun e f=>(∃ v d,e=.returned v/\Zq f w.heap.size v d/\d.length=n/\XC h o d)/\Below w.heap.size w f):=by
  refine (J.out (w.drewN 1) (below_drewN (Below.refl _ _) 1)).mono ?_
  rintro e f ⟨V,Y⟩
  exact ⟨V,(below_drewN (Below.refl _ w) 1).trans Y⟩
 generalize w.drewN 1=w1 at A ⊢
 clear J I U R S
 go_wp2_with fail
 refine A.out.mono ?_
 rintro e Z ⟨⟨v,d,rfl,K,L,M⟩,hb⟩
 have B:Hid (Zq Z w.heap.size v d/\d.length=n/\XC h o d):=⟨K,L,M⟩
 clear K L M A
 go_wp2
 go_ret
 exact ⟨⟨_,d,rfl,B.out.1,B.out.2.1,B.out.2.2⟩,hb⟩
theorem UE  (h:0 < (Xj l).1):Jm l n=Xj l:=if_pos h
theorem VA  (h:¬ 0 < (Xj l).1) (d:(l.length:Int) < n):Jm l n=(8,-1):=by unfold Jm;rw [if_neg h,if_pos d]
theorem R9  (h:¬ 0 < (Xj l).1) (d:¬ (l.length:Int) < n) (f:n < 0):Jm l n=(2,-1):=by unfold Jm;rw [if_neg h,if_neg d,if_pos f]
theorem Jd.none  {f:Value} {c at_:Int} (h:Jd w ad f c at_) (j:¬ 0 < c):f=.nilIface:=by
 rcases h with ⟨d,_⟩ | ⟨i,_,_,d,_⟩ | ⟨i,_,_,_,d,_⟩
 ·exact d
 ·exact absurd (by rw [d];omega) j
 ·exact absurd (by rw [d];omega) j
set_option maxRecDepth 10000 in
set_option maxHeartbeats 4000000 in
theorem UL (ad:Nat->Addr) (p:Option Addr) (l:List ByteArray) (c:Nat) (n:Int) (w:World) (V:l.length<=1000) (Y:l.length<=c) (S:Strs w p l) (O:i7 w ad) (h:0 < (Jm l n).1) :
 Calls prog 39 #[.slice p l.length c,.int .i64 n] w fun e Q=>(∃ q,e=.returned (.tuple #[.nilFunc,q])/\Jd Q ad q (Jm l n).1 (Jm l n).2)/\Below w.heap.size w Q:=by
 obtain ⟨f,I⟩:∃ f,f=w.alloc (.cells #[.int .i64 n] 3):=⟨_,rfl⟩
 have D:Below w.heap.size w f:=by rw [I];exact (Below.refl _ _).alloc (Nat.le_refl _) _
 have J:f.cell? ⟨w.heap.size,0,none⟩=some (.int .i64 n):=by rw [I];simp
 have s:=zF ad p l c f V Y (S.below D) (O.below D)
 have R:Hid (i7 f ad):=O.below D
 have M:Hid (f=w.alloc (.cells #[.int .i64 n] 3)):=I
 have A:Hid (Below w.heap.size w f):=D
 have K:Hid (f.cell? ⟨w.heap.size,0,none⟩=some (.int .i64 n)):=J
 clear I D S O J
 by_cases B:0 < (Xj l).1
 ·rw [UE B]
  clear h
  go_enter func39,ntmps39
  go_wp2_with fail
  rw [<- M.out]
  refine s.mono ?_
  rintro e o ⟨⟨q,rfl,j⟩,d⟩
  have G:Hid (Jd o ad q (Xj l).1 (Xj l).2):=j
  obtain ⟨t,v,rfl⟩:=j.some B
  have H:Hid (Below w.heap.size w o):=A.out.trans (d.mono A.out.size)
  clear d s j
  go_wp2
  go_ret2
  exact ⟨⟨_,rfl,G.out⟩,H.out⟩
 ·by_cases L:(l.length:Int) < n
  ·rw [VA B L]
   clear h
   go_enter func39,ntmps39
   go_wp2_with fail
   rw [<- M.out]
   refine s.mono ?_
   rintro e o ⟨⟨q,rfl,j⟩,d⟩
   obtain rfl:=j.none (by omega)
   have H:Hid (Below w.heap.size w o):=A.out.trans (d.mono A.out.size)
   have J:o.cell? ⟨w.heap.size,0,none⟩=some (.int .i64 n):=(d.cell (p:=⟨w.heap.size,0,none⟩) (rG K.out)).trans K.out
   have T:=(R.out.below d).c7
   have G:Hid (∀ W,Jd W ad (.iface 200 (.pointer (some (ad 7)))) 8 (-1)):=fun W=>Jd.b8 7 (by decide)
   clear d s j
   have U:decide ((l.length:Int) < n)=true:=decide_eq_true L
   go_wp2
   go_quiet (fail)
   go_wp2
   go_ret2
   exact ⟨⟨_,rfl,G.out _⟩,below_drewN H.out _⟩
  ·by_cases N:n < 0
   ·rw [R9 B L N]
    clear h
    go_enter func39,ntmps39
    go_wp2_with fail
    rw [<- M.out]
    refine s.mono ?_
    rintro e o ⟨⟨q,rfl,j⟩,d⟩
    obtain rfl:=j.none (by omega)
    have H:Hid (Below w.heap.size w o):=A.out.trans (d.mono A.out.size)
    have J:o.cell? ⟨w.heap.size,0,none⟩=some (.int .i64 n):=(d.cell (p:=⟨w.heap.size,0,none⟩) (rG K.out)).trans K.out
    have T:=(R.out.below d).c1
    have G:Hid (∀ W,Jd W ad (.iface 200 (.pointer (some (ad 1)))) 2 (-1)):=fun W=>Jd.b8 1 (by decide)
    clear d s j
    have U:decide ((l.length:Int) < n)=false:=decide_eq_false (by omega)
    have Z:decide (n < 0)=true:=decide_eq_true N
    go_wp2
    go_quiet (fail)
    go_wp2
    go_ret2
    exact ⟨⟨_,rfl,G.out _⟩,below_drewN H.out _⟩
   ·exfalso
    unfold Jm at h
    rw [if_neg B,if_neg L,if_neg N] at h
    exact B h
set_option maxRecDepth 10000 in
set_option maxHeartbeats 4000000 in
theorem nP (ad:Nat->Addr) (p:Option Addr) (l:List ByteArray) (c:Nat) (n:Int) (w:World) (hl:l.length<=1000) (hc:l.length<=c) (I:Strs w p l) (hE:i7 w ad) (h:¬ 0 < (Jm l n).1) :
 Calls prog 39 #[.slice p l.length c,.int .i64 n] w fun e q=>(∃ J,e=.returned (.tuple #[.func (.func 63) #[] J,.nilIface])/\sU q l n.toNat J)/\Below w.heap.size w q:=by
 obtain ⟨s,K⟩:=FT h
 have hN:¬ 0 < (Xj l).1:=by have:=(sK h).1;omega
 obtain ⟨d,D⟩:∃ d,d=w.alloc (.cells #[.int .i64 n] 3):=⟨_,rfl⟩
 have t:Below w.heap.size w d:=by rw [D];exact (Below.refl _ _).alloc (Nat.le_refl _) _
 have A:d.cell? ⟨w.heap.size,0,none⟩=some (.int .i64 n):=by rw [D];simp
 have L:=zF ad p l c d hl hc (I.below t) (hE.below t)
 have M:Hid (∀ W,Below d.heap.size d W->Calls prog 62 #[.slice p l.length c] W fun e q=>(∃ g o f,e=.returned (.slice (some ⟨g,0,none⟩) f.length o)/\f.length<=o/\W.heap.size<=g/\Ql pE q (some ⟨g,0,none⟩) f/\lG l f)/\Below W.heap.size W q):=fun W hW=>OS p l c W s.l1 s.l2 s.sz ((I.below t).below hW)
 have a0:Hid (d=w.alloc (.cells #[.int .i64 n] 3)):=D
 have N:Hid (Below w.heap.size w d):=t
 have O:Hid (d.cell? ⟨w.heap.size,0,none⟩=some (.int .i64 n)):=A
 have a2:Hid (((n.toNat:Nat):Int)=n):=K
 have d1:decide ((l.length:Int) < n)=false:=decide_eq_false (by have:=s.n;omega)
 have d2:decide (n < 0)=false:=decide_eq_false (by omega)
 clear D t I hE A K s h
 go_enter func39,ntmps39
 go_wp2_with fail
 rw [<- a0.out]
 refine L.mono ?_
 rintro e B ⟨⟨ev,rfl,Q⟩,G⟩
 obtain rfl:=Q.none (by omega)
 have a3:Hid (Below d.heap.size d B):=G
 have R:Hid (Below w.heap.size w B):=N.out.trans (G.mono N.out.size)
 have A:B.cell? ⟨w.heap.size,0,none⟩=some (.int .i64 n):=(G.cell (p:=⟨w.heap.size,0,none⟩) (rG O.out)).trans O.out
 have S:Hid (B.cell? ⟨w.heap.size,0,none⟩=some (.int .i64 n)):=A
 clear G L Q
 go_wp2_with fail
 refine (M.out B a3.out).mono ?_
 rintro e j ⟨⟨g,o,f,rfl,T,h5,U,V⟩,H⟩
 have Y:Hid (Below w.heap.size w j):=R.out.trans (H.mono R.out.size)
 have a4:Hid (sU (j.alloc (.cells #[.slice (some ⟨g,0,none⟩) f.length o] 99)) l n.toNat #[.pointer (some ⟨j.heap.size,0,none⟩),.pointer (some ⟨w.heap.size,0,none⟩)]):=by
  have Z:Below j.heap.size j (j.alloc (.cells #[.slice (some ⟨g,0,none⟩) f.length o] 99)):=(Below.refl _ _).alloc (Nat.le_refl _) _
  have q3:j.cell? ⟨w.heap.size,0,none⟩=some (.int .i64 n):=(H.cell (p:=⟨w.heap.size,0,none⟩) (rG S.out)).trans S.out
  refine ⟨j.heap.size,w.heap.size,g,o,f,rfl,by simp,?_,T,U.below Z,V⟩
  rw [a2.out]
  exact (Z.cell (p:=⟨w.heap.size,0,none⟩) (rG q3)).trans q3
 clear T h5 U V H M A
 generalize f.length=m at *
 go_wp2
 go_ret2
 exact ⟨⟨_,rfl,a4.out⟩,Y.out.alloc Y.out.size _⟩
end
section
open Ring
theorem wX:∀ args W,(callFunc 63 args).run prog W=.ok (.enter 63 args) W:=enters_of func63 (by kernel_rfl) rfl
set_option maxRecDepth 10000 in
set_option maxHeartbeats 2000000 in
theorem wS (ad:Nat->Addr) (p:Option Addr) (l:List ByteArray) (c:Nat) (G:ByteArray) (n:Int) (w:World) (H:l.length<=1000) (I:l.length<=c) (q:Strs w p l) (s:i7 w ad) (h:0 < (Jm l n).1) :
 Calls prog 17 #[.slice p l.length c,.string G,.int .i64 n] w fun e j=>(∃ d,e=.returned (.tuple #[.slice none 0 0,d])/\Jd j ad d (Jm l n).1 (Jm l n).2)/\Below w.heap.size w j:=by
 have o:=UL ad p l c n w H I q s h
 generalize Jm l n=F at *
 clear q s
 go_enter func17,ntmps17
 go_wp2_with fail
 refine o.mono ?_
 rintro e A ⟨⟨d,rfl,f⟩,B⟩
 have D:Hid (Jd A ad d F.1 F.2):=f
 obtain ⟨t,v,rfl⟩:=f.some h
 clear f o
 go_wp2
 go_ret2
 exact ⟨⟨_,rfl,D.out⟩,B⟩
set_option maxRecDepth 10000 in
set_option maxHeartbeats 2000000 in
theorem r5 (ad:Nat->Addr) (p:Option Addr) (l:List ByteArray) (c:Nat) (f:ByteArray) (n:Int) (w:World) (V:l.length<=1000) (Y:l.length<=c) (Z:f.size<=1000) (N:Strs w p l) (O:i7 w ad) (h:¬ 0 < (Jm l n).1) :
 Calls prog 17 #[.slice p l.length c,.string f,.int .i64 n] w fun e j=>(∃ v d,e=.returned (.tuple #[v,.nilIface])/\Zq j w.heap.size v d/\(d.length:Int)=n/\XC (Xy f) l d)/\Below w.heap.size w j:=by
 have D:=nP ad p l c n w V Y N O h
 obtain ⟨G,H⟩:=FT h
 have I:Hid (∀ o W,sU W l n.toNat o->Calls prog 63 (#[.string f] ++ o) W fun e j=>(∃ v d,e=.returned v/\Zq j W.heap.size v d/\(d.length:Int)=n/\XC (Xy f) l d)/\Below W.heap.size W j):=fun o W Q=>by
  refine (o3 l n.toNat o f W Z G Q).mono ?_
  rintro e j ⟨⟨v,d,rfl,q,s,t⟩,R⟩
  exact ⟨⟨v,d,rfl,q,by rw [s];exact H,t⟩,R⟩
 generalize Xy f=S at *
 clear N O h G H
 have a0:=wX
 go_enter func17,ntmps17
 go_wp2_with fail
 refine D.mono ?_
 rintro e J ⟨⟨o,rfl,K⟩,L⟩
 have M:=I.out o J K
 have A:Hid (Below w.heap.size w J):=L
 clear D K L I
 go_wp2_with fail
 refine M.mono ?_
 rintro e T ⟨⟨v,d,rfl,q,s,t⟩,U⟩
 have B:Hid (Zq T w.heap.size v d/\(d.length:Int)=n/\XC S l d):=⟨q.base A.out.size,s,t⟩
 clear q s t M
 go_wp2
 go_ret2
 exact ⟨⟨_,d,rfl,B.out.1,B.out.2.1,B.out.2.2⟩,A.out.trans (U.mono A.out.size)⟩
theorem FU (ad:Nat->Addr):P7 ad where
 check p l c w h1 h2 h3 h4 h5:=zF ad p l c w h1 h2 h4 h5
 jD p l c key n w h1 h2 h3 h4 h5 h6:=by
  by_cases h:0 < (Jm l n).1
  ·refine (wS ad p l c key n w h1 h2 h5 h6 h).mono ?_
   rintro e f ⟨⟨j,rfl,o⟩,d⟩
   exact ⟨Or.inl ⟨h,none,0,j,rfl,o⟩,d⟩
  ·refine (r5 ad p l c key n w h1 h2 h4 h5 h6 h).mono ?_
   rintro e f ⟨⟨v,q,rfl,s,t,A⟩,d⟩
   exact ⟨Or.inr ⟨h,v,q,rfl,s,t,A⟩,d⟩
end
end Go.Proofs.YtppcijpgalaohaaDoor

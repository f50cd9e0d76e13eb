/- Texts laid together. -/
import Derived.Test.YtaaahibncffcmaaDoorCe5
import Derived.Lib.ConvBytes
set_option maxRecDepth 10000
set_option maxHeartbeats 4000000
open Option renaming none->aa,some->ab
open Nat renaming le_refl->ac,le_trans->zc
open Go.RowKit renaming Below->za
open List renaming length_take->ae,getD_eq_getElem?_getD->ah,length_map->aj,any_eq_false->an,getElem?_eq_getElem->ao,take_of_length_le->ap,range->aq,nodup_range->aB,getElem_map->aC,take_take->aE,mem_range->aF,mem_map->aM
open Go.RowKit.Below renaming refl->af
open Int renaming eq_ofNat_of_zero_le->ag
open Go.World renaming cell?_alloc_at->ai,frozen?->al,cell?->av
open Go renaming Calls->ak,bodyPost_ret->ar,below_drewN->au,Addr->ax,results->aN,TypeId->aW,Value->ba
namespace Go.Proofs.YtaaahibncffcmaaDoor
open Go.Proofs.Tryd
open Go.RowKit
variable {l:List (Int×ByteArray)}{i n k:Nat}{s:ByteArray}{f:Nat->ByteArray}
theorem JbR (w:World) (n k size:Int) (t:aW):(fun W:World=>W.cell? ⟨w.heap.size,0,aa⟩=ab (.int .i64 n)/\W.cell? ⟨w.heap.size+1,0,aa⟩=ab (.int .i64 k)/\W.cell? ⟨w.heap.size+1+1,0,aa⟩=ab (.int .i64 size)) (((w.alloc (.cells #[.int .i64 n] t)).alloc (.cells #[.int .i64 k] t)).alloc (.cells #[.int .i64 size] t)):=by
 have f:(w.alloc (.cells #[.int .i64 n] t)).heap.size=w.heap.size+1:=by simp
 have h:((w.alloc (.cells #[.int .i64 n] t)).alloc (.cells #[.int .i64 k] t)).heap.size=w.heap.size+1+1:=by simp
 have j:za (w.alloc (.cells #[.int .i64 n] t)).heap.size (w.alloc (.cells #[.int .i64 n] t)) ((w.alloc (.cells #[.int .i64 n] t)).alloc (.cells #[.int .i64 k] t)):=(af _ _).alloc (ac _) _
 have d:za ((w.alloc (.cells #[.int .i64 n] t)).alloc (.cells #[.int .i64 k] t)).heap.size ((w.alloc (.cells #[.int .i64 n] t)).alloc (.cells #[.int .i64 k] t)) (((w.alloc (.cells #[.int .i64 n] t)).alloc (.cells #[.int .i64 k] t)).alloc (.cells #[.int .i64 size] t)):=(af _ _).alloc (ac _) _
 refine ⟨?_,?_,?_⟩
 ·rw [d.cell (p:=⟨w.heap.size,0,aa⟩) (by show w.heap.size < _;omega),j.cell (p:=⟨w.heap.size,0,aa⟩) (by show w.heap.size < _;omega),ai _ _ _ _ rfl];rfl
 ·rw [d.cell (p:=⟨w.heap.size+1,0,aa⟩) (by show w.heap.size+1 < _;omega),ai _ _ _ _ f.symm];rfl
 ·rw [ai _ _ _ _ h.symm];rfl
theorem Jcs (n k size:Int) (v:ba) (z:ax) (w:World) (h:¬ (1<=k/\k<=n/\n<=12/\0<=size/\size<=1000)) (o:w.cell? ⟨0,0,aa⟩=ab (.iface 136 (.pointer (ab z)))) :
 ak prog 24 #[.int .i64 n,.int .i64 k,.int .i64 size,v] w fun e w'=>e=.returned (.tuple #[.string ⟨#[]⟩,.iface 136 (.pointer (ab z))])/\za w.heap.size w w':=by
 obtain ⟨d,f⟩:∃ d,d=(((w.alloc (.cells #[.int .i64 n] 3)).alloc (.cells #[.int .i64 k] 3)).alloc (.cells #[.int .i64 size] 3)):=⟨_,rfl⟩
 have j:za w.heap.size w d:=by rw [f];exact (((af _ _).alloc (ac _) _).alloc (by simp) _).alloc (by simp;omega) _
 obtain ⟨B,D,E⟩:d.cell? ⟨w.heap.size,0,aa⟩=ab (.int .i64 n)/\d.cell? ⟨w.heap.size+1,0,aa⟩=ab (.int .i64 k)/\d.cell? ⟨w.heap.size+1+1,0,aa⟩=ab (.int .i64 size):=by rw [f];exact JbR w n k size _
 have s:=wX n k size z d h ((j.cell (p:=⟨0,0,aa⟩) (Qf o)).trans o)
 have y:Hid (d=(((w.alloc (.cells #[.int .i64 n] 3)).alloc (.cells #[.int .i64 k] 3)).alloc (.cells #[.int .i64 size] 3))):=f
 have t:Hid (za w.heap.size w d):=j
 clear f j o h
 go_enter func24,ntmps24
 go_wp2_with (rw [<- y.out])
 refine s.mono ?_
 rintro e G ⟨rfl,A⟩
 clear s
 go_wp2
 go_ret2
 exact ⟨rfl,t.out.trans (A.mono t.out.size)⟩
theorem JcF (n k size:Nat) (p:Option ax) (l:List (Int×ByteArray)) (N:Nat) (z O Q G:ax) (w:World) (a0:1<=k) (b4:k<=n) (hn:n<=12) (b5:size<=1000) (hl:l.length<=1000) (hs:fE w p l)
 (hz:w.cell? ⟨2,0,aa⟩=ab (.iface 136 (.pointer (ab z)))) (a1:w.cell? ⟨1,0,aa⟩=ab (.iface 136 (.pointer (ab O)))) (a2:w.cell? ⟨3,0,aa⟩=ab (.iface 136 (.pointer (ab Q))))
 (h:l.any (j4 (n:Int) (Jk k size))=true/\G=O∨l.any (j4 (n:Int) (Jk k size))=false/\(Qg k l l.length).length < k/\G=Q) :
 ak prog 24 #[.int .i64 (n:Int),.int .i64 (k:Int),.int .i64 (size:Int),.slice p l.length N] w fun e w'=>e=.returned (.tuple #[.string ⟨#[]⟩,.iface 136 (.pointer (ab G))])/\za w.heap.size w w':=by
 have b8:=xR (size:=size) a0
 have S:Hid (∀ W,fE W p l->ak prog 51 #[.int .i64 (k:Int),.slice p l.length N] W fun e w'=>(∃ p' c',e=.returned (.slice p' (Qg k l l.length).length c')/\fE w' p' (Qg k l l.length))/\za W.heap.size W w'):=fun W H=>sZ k p l N W (by omega) hl H
 have a3:Hid (∀ y t W,W.cell? ⟨w.heap.size,0,aa⟩=ab (.int .i64 (n:Int))->W.cell? ⟨w.heap.size+1,0,aa⟩=ab (.int .i64 (k:Int))->W.cell? ⟨w.heap.size+1+1,0,aa⟩=ab (.int .i64 (size:Int))->ak prog 49 (#[.agg #[.int .i64 y,.string t]] ++ #[.pointer (ab ⟨w.heap.size,0,aa⟩),.pointer (ab ⟨w.heap.size+1,0,aa⟩),.pointer (ab ⟨w.heap.size+1+1,0,aa⟩)]) W fun e o=>e=.returned (.bool (j4 (n:Int) (Jk k size) (y,t)))/\za W.heap.size W o):=fun y t W h0 h1 h2=>WJ w.heap.size (w.heap.size+1) (w.heap.size+1+1) n k size y t W a0 b4 hn b5 h0 h1 h2
 have T:Hid (l.any (j4 (n:Int) (Jk k size))=true/\G=O∨l.any (j4 (n:Int) (Jk k size))=false/\(Qg k l l.length).length < k/\G=Q):=h
 clear h
 generalize Jk k size=wd at *
 generalize Qg k l l.length=so at *
 obtain ⟨d,I⟩:∃ d,d=(((w.alloc (.cells #[.int .i64 (n:Int)] 3)).alloc (.cells #[.int .i64 (k:Int)] 3)).alloc (.cells #[.int .i64 (size:Int)] 3)):=⟨_,rfl⟩
 have J:za w.heap.size w d:=by rw [I];exact (((af _ _).alloc (ac _) _).alloc (by simp) _).alloc (by simp;omega) _
 have D:jF d w.heap.size n k size:=by rw [I];exact UN w n k size _
 have p0:=D.c0
 have p1:=D.c1
 have p2:=D.c2
 have a4:Hid (jF d w.heap.size n k size):=D
 have HS:=BZ n k size z d a0 b4 hn b5 ((J.cell (p:=⟨2,0,aa⟩) (Qf hz)).trans hz)
 have a5:Hid (d=(((w.alloc (.cells #[.int .i64 (n:Int)] 3)).alloc (.cells #[.int .i64 (k:Int)] 3)).alloc (.cells #[.int .i64 (size:Int)] 3))):=I
 have U:Hid (za w.heap.size w d):=J
 have a6:Hid (fE d p l):=hs.below J
 have K:Hid (∀ W,za w.heap.size w W->W.cell? ⟨1,0,aa⟩=ab (.iface 136 (.pointer (ab O)))/\W.cell? ⟨3,0,aa⟩=ab (.iface 136 (.pointer (ab Q)))):=fun W H=>⟨(H.cell (p:=⟨1,0,aa⟩) (Qf a1)).trans a1,(H.cell (p:=⟨3,0,aa⟩) (Qf a2)).trans a2⟩
 clear I J hz a1 a2 hs D
 go_enter func24,ntmps24
 go_wp2_with (rw [<- a5.out])
 refine HS.mono ?_
 rintro e o ⟨⟨gm,rfl,b6⟩,L⟩
 have f:=a4.out.below L
 have b7:Hid (jF o w.heap.size n k size):=f
 have q0:=f.c0
 have V:=f.c1
 have q2:=f.c2
 have M:Hid (za w.heap.size w o):=U.out.trans (L.mono U.out.size)
 have a7:Hid (fE o p l):=a6.out.below L
 have HA:tK o 49 #[.pointer (ab ⟨w.heap.size,0,aa⟩),.pointer (ab ⟨w.heap.size+1,0,aa⟩),.pointer (ab ⟨w.heap.size+1+1,0,aa⟩)] l (j4 (n:Int) wd):=fun i hi j Y=>by
  have hx:=a3.out (Ji l i).1 (Ji l i).2 j ((f.below Y).c0) ((f.below Y).c1) ((f.below Y).c2)
  exact hx
 have A:=X3 p l N 49 #[.pointer (ab ⟨w.heap.size,0,aa⟩),.pointer (ab ⟨w.heap.size+1,0,aa⟩),.pointer (ab ⟨w.heap.size+1+1,0,aa⟩)] (j4 (n:Int) wd) o (by omega) a7.out (enters_of func49 (by kernel_rfl) rfl) HA
 clear HS b6 L U a5 a4 p0 p1 p2 a6 f HA a3
 rcases T.out with ⟨a8,Z⟩ | ⟨a9,d0,Z⟩
 ·rw [a8] at A
  subst Z
  clear a8 T S
  go_wp2_with fail
  refine A.mono ?_
  rintro e j ⟨rfl,s⟩
  have B:Hid (za w.heap.size w j):=M.out.trans (s.mono M.out.size)
  obtain ⟨q3,_⟩:=K.out j B.out
  clear A s K
  go_wp2
  go_quiet (fail)
  go_wp2
  go_ret2
  exact ⟨rfl,au B.out _⟩
 ·rw [a9] at A
  subst Z
  clear a9 T
  go_wp2_with fail
  refine A.mono ?_
  rintro e j ⟨rfl,s⟩
  have B:Hid (za w.heap.size w j):=M.out.trans (s.mono M.out.size)
  have b1:=S.out j (a7.out.below s)
  have b2:Hid (jF j w.heap.size n k size):=b7.out.below s
  clear q0 V q2
  have V:=b2.out.c1
  clear A s S
  go_wp2_with fail
  refine b1.mono ?_
  rintro e w5 ⟨⟨p5,c5,rfl,_⟩,E⟩
  have b3:Hid (za w.heap.size w (w5.alloc (.cells #[.slice p5 so.length c5] 41))):=(B.out.trans (E.mono B.out.size)).alloc (by have:=B.out.size;have:=E.size;omega) _
  obtain ⟨_,q3⟩:=K.out _ b3.out
  have q4:=(b2.out.below (E.trans (((af _ w5).alloc (ac _) (.cells #[.slice p5 so.length c5] 41)).mono E.size))).c1
  clear b1 E K V
  go_wp2
  go_quiet (fail)
  go_wp2
  go_ret2
  exact ⟨rfl,au b3.out _⟩
theorem toList_inj {a b:ByteArray} (h:a.toList=b.toList):a=b:=by
 rw [ByteArray.toList_eq,ByteArray.toList_eq] at h
 exact ByteArray.ext (Array.toList_inj.1 h)
theorem s7 (d f h v:ba) (z:ax) (w:World)
 (j:ak prog 24 #[d,f,h,v] w fun e w'=>e=.returned (.tuple #[.string ⟨#[]⟩,.iface 136 (.pointer (ab z))])/\za w.heap.size w w') :
 ak prog 46 #[d,f,h,v] w fun e w'=>e=.returned (.tuple #[.slice aa 0 0,.iface 136 (.pointer (ab z))])/\za w.heap.size w w':=by
 go_enter func46,ntmps46
 go_wp2_with fail
 refine j.mono ?_
 rintro e s ⟨rfl,o⟩
 clear j
 go_wp2
 go_ret2
 exact ⟨rfl,o⟩
theorem pL (n k size:Nat) (p:Option ax) (l:List (Int×ByteArray)) (A:Nat) (z:ax) (w:World) (B:1<=k) (D:k<=n) (E:n<=12) (N:size<=1000) (O:l.length<=1000) (G:l5 n k size l) (H:fE w p l)
 (s:w.cell? ⟨2,0,aa⟩=ab (.iface 136 (.pointer (ab z)))) :
 ak prog 46 #[.int .i64 (n:Int),.int .i64 (k:Int),.int .i64 (size:Int),.slice p l.length A] w fun e w'=>(∃ g,w.heap.size<=g/\e=.returned (.tuple #[.slice (ab ⟨g,0,aa⟩) n n,.nilIface])/\ZE w' g n (fR k (gB k size (Qg k l l.length))))/\za w.heap.size w w':=by
 have d:=LJ n k size p l A z w B D E N O G H s
 have I:=o4 k size (Qg k l l.length)
 have f:Hid (∀ W,W.cell? ⟨2,0,aa⟩=ab (.iface 136 (.pointer (ab z)))->ak prog 20 #[.int .i64 (n:Int),.int .i64 (k:Int),.string (gB k size (Qg k l l.length))] W fun e w'=>(∃ g,W.heap.size<=g/\e=.returned (.tuple #[.slice (ab ⟨g,0,aa⟩) n n,.nilIface])/\ZE w' g n (fR k (gB k size (Qg k l l.length))))/\za W.heap.size W w'):=fun W J=>RO n k _ z W B D E (by omega) J
 have h:Hid (w.cell? ⟨2,0,aa⟩=ab (.iface 136 (.pointer (ab z)))):=s
 clear I G H s
 generalize gB k size (Qg k l l.length)=Q at d f ⊢
 go_enter func46,ntmps46
 go_wp2_with fail
 refine d.mono ?_
 rintro e t ⟨rfl,j⟩
 have o:Hid (za w.heap.size w t):=j
 have y:=f.out t ((j.cell (p:=⟨2,0,aa⟩) (Qf h.out)).trans h.out)
 clear d j h f
 go_wp2_with fail
 refine y.mono ?_
 rintro e S ⟨⟨g,K,rfl,L⟩,M⟩
 clear y
 go_wp2
 go_ret2
 exact ⟨⟨g,zc o.out.size K,rfl,L⟩,o.out.trans (M.mono o.out.size)⟩
theorem T1 (j g n a:Nat) (f:Nat->Int×ByteArray) (t:ByteArray) (w:World) (o:a < n) (s:(f a).1=(a:Int)) (D:w.cell? ⟨j,0,aa⟩=ab (.slice (ab ⟨g,0,aa⟩) n n)) (h:ZE w g n f) :
 ak prog 48 (#[.agg #[.int .i64 (a:Int),.string t]] ++ #[.pointer (ab ⟨j,0,aa⟩)]) w fun e y=>e=.returned (.bool (!decide (t=(f a).2)))/\za w.heap.size w y:=by
 have E:=Qf D
 have G:g < w.heap.size:=World.rowIs.lt h
 have z:=h.at_ o
 have A:=h.text o
 rw [s] at z
 generalize (f a).2=u at A ⊢
 clear h s
 by_cases d:t=u
 ·subst d
  rw [decide_eq_true rfl]
  go_enter func48,ntmps48
  go_wp2
  go_quiet (fail)
  go_wp2
  go_ret
  exact ⟨rfl,au ((af _ _).alloc (ac _) _) _⟩
 ·rw [decide_eq_false d]
  have B:¬ t.toList=u.toList:=fun e=>d (toList_inj e)
  have H:(t.toList==u.toList)=false:=by simpa using B
  clear d
  go_enter func48,ntmps48
  go_wp2
  go_quiet (fail)
  go_wp2
  go_ret
  exact ⟨rfl,au ((af _ _).alloc (ac _) _) _⟩
theorem JcQ (d f h v:ba) (z:ax) (w:World)
 (s:ak prog 24 #[d,f,h,v] w fun e w'=>e=.returned (.tuple #[.string ⟨#[]⟩,.iface 136 (.pointer (ab z))])/\za w.heap.size w w') :
 ak prog 23 #[d,f,h,v] w fun e w'=>e=.returned (.tuple #[.bool false,.iface 136 (.pointer (ab z))])/\za w.heap.size w w':=by
 have j:=s7 d f h v z w s
 clear s
 go_enter func23,ntmps23
 go_wp2_with fail
 refine j.mono ?_
 rintro e t ⟨rfl,o⟩
 clear j
 go_wp2
 go_ret2
 exact ⟨rfl,o.alloc o.size _⟩
def hQ (k:Nat) (s:ByteArray) (x:Int×ByteArray):Bool:=!decide (x.2=JW k s x.1.toNat)
theorem WB (n k size:Nat) (p:Option ax) (l:List (Int×ByteArray)) (B:Nat) (z:ax) (w:World) (a1:1<=k) (a2:k<=n) (hn:n<=12) (a3:size<=1000) (hl:l.length<=1000) (D:l5 n k size l) (E:fE w p l)
 (T:w.cell? ⟨2,0,aa⟩=ab (.iface 136 (.pointer (ab z)))) :
 ak prog 23 #[.int .i64 (n:Int),.int .i64 (k:Int),.int .i64 (size:Int),.slice p l.length B] w fun e w'=>e=.returned (.tuple #[.bool (!l.any (hQ k (gB k size (Qg k l l.length)))),.nilIface])/\za w.heap.size w w':=by
 have y:=pL n k size p l B z w a1 a2 hn a3 hl D E T
 have G:Hid (∀ x ∈ l,0<=x.1/\x.1 < n/\x.2.size=Jk k size):=fun x H=>D.at_ H
 have I:Hid (fE w p l):=E
 clear D E T
 generalize gB k size (Qg k l l.length)=j at y ⊢
 generalize J:l.any (hQ k j)=U
 have V:Hid (l.any (hQ k j)=U):=J
 clear J
 go_enter func23,ntmps23
 go_wp2_with fail
 refine y.mono ?_
 rintro e d ⟨⟨g,hg,rfl,K⟩,s⟩
 obtain ⟨f,o⟩:∃ f,f=d.alloc (.cells #[.slice (ab ⟨g,0,aa⟩) n n] 41):=⟨_,rfl⟩
 have t:za d.heap.size d f:=by rw [o];exact (af _ _).alloc (ac _) _
 have W:d.heap.size < f.heap.size:=by rw [o];simp
 have L:f.cell? ⟨d.heap.size,0,aa⟩=ab (.slice (ab ⟨g,0,aa⟩) n n):=by rw [o,ai _ _ _ _ rfl];rfl
 have M:Hid (ZE f g n (fR k j)):=K.below t
 have N:tK f 48 #[.pointer (ab ⟨d.heap.size,0,aa⟩)] l (hQ k j):=fun i Y O Q=>by
  have H:=G.out _ (sE Y)
  have h:=T1 d.heap.size g n (Ji l i).1.toNat (fR k j) (Ji l i).2 O (by omega) rfl ((Q.cell (p:=⟨d.heap.size,0,aa⟩) W).trans L) (M.out.below Q)
  rw [show (((Ji l i).1.toNat:Nat):Int)=(Ji l i).1 by omega] at h
  exact h
 have A:=X3 p l B 48 #[.pointer (ab ⟨d.heap.size,0,aa⟩)] (hQ k j) f (by omega) ((I.out.below s).below t) (enters_of func48 (by kernel_rfl) rfl) N
 have Z:Hid (f=d.alloc (.cells #[.slice (ab ⟨g,0,aa⟩) n n] 41)):=o
 have S:Hid (za w.heap.size w f):=s.trans (t.mono s.size)
 clear y K s o t L N M I G
 rw [V.out] at A
 go_wp2_with fail
 rw [<- Z.out]
 refine A.mono ?_
 rintro e O ⟨rfl,a0⟩
 clear A
 go_wp2
 go_ret2
 exact ⟨rfl,S.out.trans (a0.mono S.out.size)⟩
theorem Jcq (n k size at_:Int) (v:ba) (z:ax) (w:World) (h:at_ < 0∨n<=at_) (d:w.cell? ⟨0,0,aa⟩=ab (.iface 136 (.pointer (ab z)))) :
 ak prog 25 #[.int .i64 n,.int .i64 k,.int .i64 size,.int .i64 at_,v] w fun e w'=>e=.returned (.tuple #[.agg #[.int .i64 0,.string ⟨#[]⟩],.iface 136 (.pointer (ab z))])/\za w.heap.size w w':=by
 have f:=Qf d
 by_cases j:at_ < 0
 ·clear h
  go_enter func25,ntmps25
  go_wp2
  go_region
  go_wp2
  refine ar (v:=.tuple #[.agg #[.int .i64 0,.string ⟨#[]⟩],.iface 136 (.pointer (ab z))]) (by simp [aN,results25,go_sem]) rfl ⟨rfl,?_⟩
  exact ((af _ _).alloc (ac _) _).drew
 ·have o:n<=at_:=by omega
  clear h
  go_enter func25,ntmps25
  go_wp2
  go_region
  go_wp2
  refine ar (v:=.tuple #[.agg #[.int .i64 0,.string ⟨#[]⟩],.iface 136 (.pointer (ab z))]) (by simp [aN,results25,go_sem]) rfl ⟨rfl,?_⟩
  exact ((af _ _).alloc (ac _) _).drew
def e7 (w:World):World:=w.alloc (.cells #[.int .i64 0,.string ⟨#[]⟩] 48)
theorem n4 (w:World):za w.heap.size w (e7 w):=(af _ _).alloc (ac _) _
theorem p9 (w:World):w.heap.size < (e7 w).heap.size:=by unfold e7;simp
theorem p7 (w:World):(e7 w).heap[w.heap.size]?=ab (.cells #[.int .i64 0,.string ⟨#[]⟩] 48 (0,0)):=by unfold e7 World.alloc;simp
theorem Jcy (n:Int) (o s v:ba) (at_:Int) (z:ax) (w:World) (M:0<=at_) (N:at_ < n)
 (B:ak prog 24 #[.int .i64 n,o,s,v] (e7 w) fun e w'=>e=.returned (.tuple #[.string ⟨#[]⟩,.iface 136 (.pointer (ab z))])/\za (e7 w).heap.size (e7 w) w') :
 ak prog 25 #[.int .i64 n,o,s,.int .i64 at_,v] w fun e w'=>e=.returned (.tuple #[.agg #[.int .i64 0,.string ⟨#[]⟩],.iface 136 (.pointer (ab z))])/\za w.heap.size w w':=by
 have t:=s7 (.int .i64 n) o s v z (e7 w) B
 have D:Hid (e7 w=w.alloc (.cells #[.int .i64 0,.string ⟨#[]⟩] 48)):=by show _=_;rfl
 clear B
 go_enter func25,ntmps25
 go_wp2_with fail
 rw [<- D.out]
 refine t.mono ?_
 rintro e d ⟨rfl,h⟩
 have y:=p9 w
 have f:d.heap[w.heap.size]?=ab (.cells #[.int .i64 0,.string ⟨#[]⟩] 48 (0,0)):=(h.block _ y).trans (p7 w)
 have I:d.cell? ⟨w.heap.size,0,aa⟩=ab (.int .i64 0):=by simp [av,f]
 have J:d.cell? ⟨w.heap.size,1,aa⟩=ab (.string ⟨#[]⟩):=by simp [av,f]
 have K:d.frozen? ⟨w.heap.size,0,aa⟩=false:=by simp [al,f]
 have L:d.frozen? ⟨w.heap.size,1,aa⟩=false:=by simp [al,f]
 have E:Hid (za w.heap.size w d):=(n4 w).trans (h.mono (by omega))
 have G:Hid (d.rowIs w.heap.size 48 2 (i6 fun _=>(0,⟨#[]⟩))):=⟨_,f,rfl,fun i H=>by
  match i,H with
  | 0,_=>rfl
  | 1,_=>rfl⟩
 clear t h f y
 go_wp2
 have j:=(G.out.set 0 (.int .i64 0)).set 1 (.string ⟨#[]⟩)
 have A:za w.heap.size w ((d.setCell ⟨w.heap.size,0,aa⟩ (.int .i64 0)).setCell ⟨w.heap.size,1,aa⟩ (.string ⟨#[]⟩)):=(E.out.setCell (ac _) _).setCell (ac _) _
 generalize (d.setCell ⟨w.heap.size,0,aa⟩ (.int .i64 0)).setCell ⟨w.heap.size,1,aa⟩ (.string ⟨#[]⟩)=wf at j A ⊢
 have c1:wf.cell? ⟨w.heap.size,0,aa⟩=ab (.int .i64 0):=j.cell (i:=0) (by decide)
 have c2:wf.cell? ⟨w.heap.size,1,aa⟩=ab (.string ⟨#[]⟩):=j.cell (i:=1) (by decide)
 exact ar (v:=.tuple #[.agg #[.int .i64 0,.string ⟨#[]⟩],.iface 136 (.pointer (ab z))]) (by simp [aN,results25,go_sem,c1,c2]) rfl ⟨rfl,A⟩
theorem JcG (n k size at_:Nat) (p:Option ax) (l:List (Int×ByteArray)) (G:Nat) (z:ax) (w:World) (Q:1<=k) (S:k<=n) (T:n<=12) (U:size<=1000) (V:l.length<=1000) (H:at_ < n) (I:l5 n k size l) (J:fE w p l)
 (A:w.cell? ⟨2,0,aa⟩=ab (.iface 136 (.pointer (ab z)))) :
 ak prog 25 #[.int .i64 (n:Int),.int .i64 (k:Int),.int .i64 (size:Int),.int .i64 (at_:Int),.slice p l.length G] w fun e w'=>e=.returned (.tuple #[.agg #[.int .i64 (at_:Int),.string (JW k (gB k size (Qg k l l.length)) at_)],.nilIface])/\za w.heap.size w w':=by
 have j:=n4 w
 have o:=pL n k size p l G z (e7 w) Q S T U V I (J.below j) ((j.cell (p:=⟨2,0,aa⟩) (Qf A)).trans A)
 have K:Hid (e7 w=w.alloc (.cells #[.int .i64 0,.string ⟨#[]⟩] 48)):=by show _=_;rfl
 clear I J A j
 generalize gB k size (Qg k l l.length)=f at o ⊢
 go_enter func25,ntmps25
 go_wp2_with fail
 rw [<- K.out]
 refine o.mono ?_
 rintro e d ⟨⟨g,L,rfl,s⟩,t⟩
 have B:=p9 w
 have h:d.heap[w.heap.size]?=ab (.cells #[.int .i64 0,.string ⟨#[]⟩] 48 (0,0)):=(t.block _ B).trans (p7 w)
 have W:d.cell? ⟨w.heap.size,0,aa⟩=ab (.int .i64 0):=by simp [av,h]
 have Y:d.cell? ⟨w.heap.size,1,aa⟩=ab (.string ⟨#[]⟩):=by simp [av,h]
 have Z:d.frozen? ⟨w.heap.size,0,aa⟩=false:=by simp [al,h]
 have f2:d.frozen? ⟨w.heap.size,1,aa⟩=false:=by simp [al,h]
 have r1:d.cell? ⟨g,at_*2,aa⟩=ab (.int .i64 (at_:Int)):=s.at_ H
 have r2:d.cell? ⟨g,at_*2+1,aa⟩=ab (.string (JW k f at_)):=s.text H
 have M:Hid (za w.heap.size w d):=(n4 w).trans (t.mono (by omega))
 have N:Hid (d.rowIs w.heap.size 48 2 (i6 fun _=>(0,⟨#[]⟩))):=⟨_,h,rfl,fun i O=>by
  match i,O with
  | 0,_=>rfl
  | 1,_=>rfl⟩
 clear o t h B s L
 go_wp2
 have y:=(N.out.set 0 (.int .i64 (at_:Int))).set 1 (.string (JW k f at_))
 have D:za w.heap.size w ((d.setCell ⟨w.heap.size,0,aa⟩ (.int .i64 (at_:Int))).setCell ⟨w.heap.size,1,aa⟩ (.string (JW k f at_))):=(M.out.setCell (ac _) _).setCell (ac _) _
 generalize (d.setCell ⟨w.heap.size,0,aa⟩ (.int .i64 (at_:Int))).setCell ⟨w.heap.size,1,aa⟩ (.string (JW k f at_))=E at y D ⊢
 have c1:E.cell? ⟨w.heap.size,0,aa⟩=ab (.int .i64 (at_:Int)):=y.cell (i:=0) (by decide)
 have c2:E.cell? ⟨w.heap.size,1,aa⟩=ab (.string (JW k f at_)):=y.cell (i:=1) (by decide)
 exact ar (v:=.tuple #[.agg #[.int .i64 (at_:Int),.string (JW k f at_)],.nilIface]) (by simp [aN,results25,go_sem,c1,c2]) rfl ⟨rfl,D⟩
theorem OC  (h:i < l.length):Ji l i=l[i]:=by
 unfold Ji
 rw [ah,ao h]
 rfl
theorem RT  {d:List (Int×ByteArray)} (H:1<=k) (J:n<=200) (f:d.length=k) (I:(Xo d).Nodup) (z:∀ i,i < k->(Ji d i).1.toNat < n/\(Ji d i).2=JW k s (Ji d i).1.toNat) (K:k<=n):gB k s.size d=s:=by
 have A:(Xo d).length=k:=by unfold Xo;rw [aj];exact f
 have B:Zj (gB k s.size d)=Zj s:=by
  rw [z8]
  refine BO (by rw [Jf,tZ]) fun p h=>?_
  rw [Jf] at h
  rw [Yq _ _ p h]
  have D:=FX (size:=s.size) H
  have o:0 < Jk k s.size:=by
   rcases Nat.eq_zero_or_pos (Jk k s.size) with e | e
   ·rw [e,Nat.mul_zero] at D;omega
   ·exact e
  have E:p / Jk k s.size < k:=by rw [Nat.div_lt_iff_lt_mul o];omega
  have G:=Nat.mod_lt p o
  rw [k7 (X:=Xo d) (u:=gN s (Jk k s.size)) (fun j=>?_) I A (by omega) (fun j c=>DM s _ j c) (fun j c=>EN d j c) _ (fun i t=>?_) _ E]
  ·unfold gN
   congr 1
   have:=Nat.mod_add_div p (Jk k s.size)
   rw [Nat.mul_comm (Jk k s.size)] at this
   omega
  ·by_cases y:j < k
   ·rw [xP (by rw [f];exact y)]
    have:=(z j y).1
    omega
   ·rw [F0 (by omega)];decide
  ·rw [xP (by rw [f];exact t)]
   unfold Z2
   rw [(z i t).2]
   exact T9 k s _ _ G
 rw [<- CX (gB k s.size d),B,CX]
theorem vD {k:Nat} {l:List (Int×ByteArray)} (f:(l.map Prod.fst).Nodup):∀ i,i<=l.length->Qg k l i=(l.take i).take k
 | 0,_=>by simp [Qg]
 | i+1,hi=>by
  have ih:=vD (k:=k) f i (by omega)
  have o:((l.take i).take k).length=min k i:=by rw [ae,ae];omega
  by_cases h:i < k
  ·have s:(l.take i).take k=l.take i:=ap (by rw [ae];omega)
   rw [s] at ih
   have t:(Qg k l i).any (fun y=>y.1==(Ji l i).1)=false:=by
    rw [ih,an]
    intro y z A
    have d:y.1=(Ji l i).1:=by simpa using A
    obtain ⟨j,B,rfl⟩:=List.getElem_of_mem z
    rw [ae] at B
    rw [List.getElem_take] at d
    rw [OC (by omega)] at d
    have D:(l.map Prod.fst)[j]'(by rw [aj];omega)=(l.map Prod.fst)[i]'(by rw [aj];omega):=by rw [aC,aC];exact d
    exact (List.pairwise_iff_getElem.1 f) j i (by rw [aj];omega) (by rw [aj];omega) (by omega) D
   rw [rJ (by rw [ih,ae];omega) t,ih,OC (by omega),ap (l:=l.take (i+1)) (by rw [ae];omega),List.take_succ_eq_append_getElem (by omega)]
  ·rw [qH (by rw [ih,o];omega),ih,aE,aE]
   congr 1
   omega
theorem L1  (d:(l.map Prod.fst).Nodup):Qg k l l.length=l.take k:=by
 rw [vD d l.length (ac _),List.take_length]
def Qo (n:Nat) (f:Nat->ByteArray):List (Int×ByteArray):=(aq n).map fun i:Nat=>((i:Int),f i)
theorem nP (n:Nat) (f:Nat->ByteArray):(Qo n f).length=n:=by simp [Qo]
theorem JcR  (h:i < n):Ji (Qo n f) i=((i:Int),f i):=by
 unfold Ji Qo
 rw [ah,List.getElem?_map,List.getElem?_range h]
 rfl
theorem Jbg (n:Nat) (f:Nat->ByteArray):((Qo n f).map Prod.fst).Nodup:=by
 unfold Qo
 rw [List.map_map]
 exact List.Pairwise.map (R:=fun a b:Nat=>a≠b) _ (fun a b d e=>d (by have:(a:Int)=(b:Int):=e;omega)) aB
theorem U1  {size:Nat} (s:k<=n) (o:∀ i,i < n->(f i).size=Jk k size):l5 n k size (Qo n f) where
 pK:=by
  rw [an]
  intro x d
  obtain ⟨i,h,rfl⟩:=aM.1 d
  have j:=aF.1 h
  unfold j4
  simp only [Bool.or_eq_true,decide_eq_true_eq,Bool.not_eq_true',decide_eq_false_iff_not]
  have:=o i j
  omega
 jS:=by
  rw [L1 (Jbg n f),ae,nP]
  omega
theorem JcH (n k:Nat) (s:ByteArray):Jc5 n k s=Qo n (JW k s):=rfl
theorem JbC (a k:Nat):((aq k).map (Lin.skip a)).Nodup:=List.Pairwise.map (R:=fun a b:Nat=>a≠b) _ (fun x y d e=>d (by unfold Lin.skip at e;split at e <;> split at e <;> omega)) aB
theorem C4 {a:Nat} {f u:ByteArray} (N:k<=200) (O:k < n) (K:a < n) (t:f.size=s.size) (L:u≠JW k s a):(Qo n fun i=>if i=a then u else JW k s i).any (hQ k f)=true:=by
 refine Classical.byContradiction fun B=>L ?_
 have D:=an.1 (Bool.eq_false_iff.2 B)
 have y:∀ i,i < n->(if i=a then u else JW k s i)=JW k f i:=fun i d=>by
  have:=D ((i:Int),if i=a then u else JW k s i) (aM.2 ⟨i,aF.2 d,rfl⟩)
  unfold hQ at this
  simpa using this
 have E:∀ c,c < Jk k s.size->∀ m,m < k->gN s (Jk k s.size) m c=gN f (Jk k s.size) m c:=fun c o m G=>by
  have z:∀ i,i < k->Gf.nth ((aq k).map (Lin.skip a)) i=Lin.skip a i:=fun i d=>by
   rw [Gf.aK _ i (by simpa using d)]
   simp
  refine z7 (X:=(aq k).map (Lin.skip a)) (fun i=>?_) (JbC a k) (by simp) (by omega) (fun j c=>DM s _ j c) (fun j c=>DM f _ j c) c (fun i d=>?_) m G
  ·by_cases d:i < k
   ·rw [z i d]
    have:=Lin.MQ (p:=a) d
    omega
   ·rw [F0 (by simpa using d)];decide
  ·rw [z i d]
   have H:=Lin.O7 a i
   have M:=Lin.MQ (p:=a) d
   have h:=y (Lin.skip a i) (by omega)
   rw [if_neg H] at h
   have I:=T9 k s (Lin.skip a i) c o
   have A:=T9 k f (Lin.skip a i) c (by rw [t];exact o)
   rw [t] at A
   rw [<- I,<- A,h]
 have h:=y a K
 rw [if_pos rfl] at h
 rw [h]
 unfold JW
 rw [t]
 congr 1
 refine YL _ _ _ (fun c o=>?_)
 exact u2 k (fun j J=>(E c o j J).symm)
theorem y7:JW 1 ⟨#[97,98]⟩ 0=⟨#[97,98]⟩:=by decide +kernel
theorem s6 (z:ax) (w:World) (o:w.cell? ⟨2,0,aa⟩=ab (.iface 136 (.pointer (ab z)))) :
 ak prog 19 #[] w fun e w'=>e=.returned (.bool true)/\za w.heap.size w w':=by
 have h:=RO 1 1 ⟨#[97,98]⟩ z w (by decide) (by decide) (by decide) (by decide) o
 clear o
 go_enter func19,ntmps19
 go_wp2_with fail
 refine h.mono ?_
 rintro e d ⟨⟨g,t,rfl,f⟩,j⟩
 have y:d.cell? ⟨g,0,aa⟩=ab (.int .i64 0):=f.at_ (i:=0) (by decide)
 have A:d.cell? ⟨g,1,aa⟩=ab (.string ⟨#[97,98]⟩):=by
  have:=f.text (i:=0) (by decide)
  rw [show (fR 1 ⟨#[97,98]⟩ 0).2=⟨#[97,98]⟩ from y7] at this
  exact this
 have s:Hid (za w.heap.size w d):=j
 clear f j h
 go_wp2
 go_ret
 exact ⟨rfl,s.out⟩
theorem ZE.hD {w:World} {g:Nat} {f:Nat->Int×ByteArray} (h:ZE w g n f) (i:Nat) (t:ByteArray):ZE (w.setCell ⟨g,i*2+1,aa⟩ (.string t)) g n (fun j=>if j=i then ((f i).1,t) else f j):=by
 refine World.rowIs.congr (World.rowIs.set h (i*2+1) (.string t)) (fun q _=>?_)
 rcases Nat.mod_two_eq_zero_or_one q with e | e
 ·rw [if_neg (by omega)]
  unfold i6
  dsimp only
  rw [if_pos e,if_pos e]
  by_cases d:q / 2=i
  ·rw [if_pos d,d]
  ·rw [if_neg d]
 ·by_cases d:q=i*2+1
  ·rw [if_pos d]
   unfold i6
   dsimp only
   rw [if_neg (show ¬ q % 2=0 by omega),if_pos (show q / 2=i by omega)]
  ·rw [if_neg d]
   unfold i6
   dsimp only
   rw [if_neg (show ¬ q % 2=0 by omega),if_neg (show ¬ q % 2=0 by omega),if_neg (show ¬ q / 2=i by omega)]
def Zm (t:ByteArray) (b x:Nat):List Nat:=Qi t.size fun c=>if c=b then Gf.nth (Zj t) b ^^^ x else Gf.nth (Zj t) c
theorem q9 (t:ByteArray) (b x:Nat) (d:x < 256):Gf.Bytes (Zm t b x):=XL _ _ fun c=>by
 by_cases e:c=b
 ·rw [if_pos e];exact Gf.iK (xK t b) d
 ·rw [if_neg e];exact xK t c
theorem JbG (t:ByteArray) (b x:Nat):(Jp (Zm t b x)).size=t.size:=by rw [xG];exact Jf _ _
theorem Jca (t:ByteArray) (b x:Nat) (h:x < 256) (j:x≠0) (o:b < t.size):Jp (Zm t b x)≠t:=fun e=>by
 have d:Gf.nth (Zj (Jp (Zm t b x))) b=Gf.nth (Zj t) b:=by rw [e]
 rw [FK (q9 t b x h)] at d
 unfold Zm at d
 rw [Yq _ _ b o,if_pos rfl] at d
 have f:Gf.nth (Zj t) b ^^^ (Gf.nth (Zj t) b ^^^ x)=Gf.nth (Zj t) b ^^^ Gf.nth (Zj t) b:=by rw [d]
 rw [<- Nat.xor_assoc,Nat.xor_self,Nat.zero_xor] at f
 exact j f
theorem HY (w:World) (e:aW) (s:ByteArray):za w.heap.size w (Lib.bytesWorld w e s) :=
 ⟨rfl,rfl,rfl,by rw [Lib.bytesWorld_size];omega,fun k d=>Lib.bytesWorld_at_old w e s k d⟩
theorem JaQ (w:World) (e:aW) (s:ByteArray) (j:Nat) (f:j < s.size):(Lib.bytesWorld w e s).frozen? ⟨w.heap.size,j,aa⟩=false:=by
 have d:s.size<=(Lib.bytesCells w e s).size:=by
  unfold Lib.bytesCells
  rw [Array.size_append,Array.size_map]
  show s.size<=s.size+_
  omega
 simp [al,Lib.bytesWorld_at_new]
 omega
theorem JaR (w:World) (e:aW) (s:ByteArray) (j:Nat) (d:j < s.size):(Lib.bytesWorld w e s).cell? ⟨w.heap.size,j,aa⟩=ab (.int .u8 ((Gf.nth (Zj s) j:Nat):Int)):=by
 rw [Lib.bytesWorld_cell w e s j d,uD s j d,ah,ao (by simpa using d)]
 rfl
theorem Jbr (n k:Int) (s:ByteArray) (at_ B:Int) (o:Nat) (z:ax) (w:World) (D:s.size<=maxLen) (N:o < 256) (h:¬ (1<=k/\k < n/\n<=12/\1<=s.size/\s.size<=100/\0<=at_/\at_ < n/\o≠0)) (y:w.cell? ⟨2,0,aa⟩=ab (.iface 136 (.pointer (ab z)))) :
 ak prog 7 #[.int .i64 n,.int .i64 k,.string s,.int .i64 at_,.int .i64 B,.int .u8 (o:Int)] w fun e w'=>e=.returned (.bool true)/\za w.heap.size w w':=by
 unfold maxLen at D
 have d:=s6 z w y
 clear y
 have A:Hid (¬ (1<=k/\k < n/\n<=12/\1<=s.size/\s.size<=100/\0<=at_/\at_ < n/\o≠0)):=h
 clear h
 by_cases E:k < 1
 ·go_enter func7,ntmps7
  go_wp2_with fail
  refine d.mono ?_
  rintro e j ⟨rfl,f⟩
  clear d
  go_wp2
  go_ret
  exact ⟨rfl,f⟩
 by_cases G:n<=k
 ·go_enter func7,ntmps7
  go_wp2_with fail
  refine d.mono ?_
  rintro e j ⟨rfl,f⟩
  clear d
  go_wp2
  go_ret
  exact ⟨rfl,f⟩
 by_cases H:n > 12
 ·go_enter func7,ntmps7
  go_wp2_with fail
  refine d.mono ?_
  rintro e j ⟨rfl,f⟩
  clear d
  go_wp2
  go_ret
  exact ⟨rfl,f⟩
 by_cases I:s.size < 1
 ·go_enter func7,ntmps7
  go_wp2_with fail
  refine d.mono ?_
  rintro e j ⟨rfl,f⟩
  clear d
  go_wp2
  go_ret
  exact ⟨rfl,f⟩
 have J:¬ (s.size:Int) < 1:=by omega
 by_cases K:100 < s.size
 ·go_enter func7,ntmps7
  go_wp2_with fail
  refine d.mono ?_
  rintro e j ⟨rfl,f⟩
  clear d
  go_wp2
  go_ret
  exact ⟨rfl,f⟩
 by_cases L:at_ < 0
 ·go_enter func7,ntmps7
  go_wp2_with fail
  refine d.mono ?_
  rintro e j ⟨rfl,f⟩
  clear d
  go_wp2
  go_ret
  exact ⟨rfl,f⟩
 by_cases M:n<=at_
 ·go_enter func7,ntmps7
  go_wp2_with fail
  refine d.mono ?_
  rintro e j ⟨rfl,f⟩
  clear d
  go_wp2
  go_ret
  exact ⟨rfl,f⟩
 have t:o=0:=Classical.byContradiction fun t=>A.out ⟨by omega,by omega,by omega,by omega,by omega,by omega,by omega,t⟩
 subst t
 go_enter func7,ntmps7
 go_wp2_with fail
 refine d.mono ?_
 rintro e j ⟨rfl,f⟩
 clear d
 go_wp2
 go_ret
 exact ⟨rfl,f⟩
theorem O4 (n k:Nat) (s:ByteArray) (a:Nat) (I:Int) (f:Nat) (z:ax) (w:World) (T:f < 256) (U:1<=k) (d1:k < n) (hn:n<=12) (d6:1<=s.size) (d7:s.size<=100) (b3:a < n) (V:f≠0) (W:w.cell? ⟨2,0,aa⟩=ab (.iface 136 (.pointer (ab z)))) :
 ak prog 7 #[.int .i64 (n:Int),.int .i64 (k:Int),.string s,.int .i64 (a:Int),.int .i64 I,.int .u8 (f:Int)] w fun e w'=>e=.returned (.bool true)/\za w.heap.size w w':=by
 have Y:=s6 z w W
 have G:Hid (w.cell? ⟨2,0,aa⟩=ab (.iface 136 (.pointer (ab z)))):=W
 have g1:decide ((k:Int) < 1)=false:=decide_eq_false (by omega)
 have g2:decide (n<=k)=false:=decide_eq_false (by omega)
 have g3:decide (12 < (n:Int))=false:=decide_eq_false (by omega)
 have g4:decide ((s.size:Int) < 1)=false:=decide_eq_false (by omega)
 have g5:decide (100 < (s.size:Int))=false:=decide_eq_false (by omega)
 have g6:decide (n<=a)=false:=decide_eq_false (by omega)
 have g7:((f:Int)==0)=false:=by
  rw [beq_eq_false_iff_ne]
  omega
 have g8:¬ f=0:=V
 have b4:Hid (f≠0):=V
 clear W V
 go_enter func7,ntmps7
 go_wp2_with fail
 refine Y.mono ?_
 rintro e Z ⟨rfl,J⟩
 have K:Hid (za w.heap.size w Z):=J
 have HE:=RO n k s z Z U (by omega) hn (by omega) ((J.cell (p:=⟨2,0,aa⟩) (Qf G.out)).trans G.out)
 clear Y J
 go_wp2_with fail
 refine HE.mono ?_
 rintro e d ⟨⟨g,hg,rfl,H⟩,a0⟩
 have L:Hid (ZE d g n (fR k s)):=H
 have t:Hid (za w.heap.size w d):=K.out.trans (a0.mono K.out.size)
 have a1:g < d.heap.size:=World.rowIs.lt H
 have b5:w.heap.size<=g:=zc K.out.size hg
 have q1:d.cell? ⟨g,a*2+1,aa⟩=ab (.string (JW k s a)):=H.text b3
 have a2:(JW k s a).size=Jk k s.size:=BM k s a
 have d2:=xR (size:=s.size) U
 have a3:Sem.run prog (convert 9 32 (.string (JW k s a))) d=.ok (.slice (ab ⟨d.heap.size,0,aa⟩) (JW k s a).size (grownCap d (JW k s a).size 0 5)) (Lib.bytesWorld d 5 (JW k s a)):=Lib.run_convert_string_bytes d 9 32 5 (JW k s a) underlying9 underlying32 underlying5
 have M:=HY d 5 (JW k s a)
 have B:Hid (∀ j,j < (JW k s a).size->(Lib.bytesWorld d 5 (JW k s a)).cell? ⟨d.heap.size,j,aa⟩=ab (.int .u8 ((Gf.nth (Zj (JW k s a)) j:Nat):Int))/\(Lib.bytesWorld d 5 (JW k s a)).frozen? ⟨d.heap.size,j,aa⟩=false):=fun j hj=>⟨JaR d _ _ j hj,JaQ d _ _ j hj⟩
 have a4:Hid (d.heap.size < (Lib.bytesWorld d 5 (JW k s a)).heap.size):=by show _ < _;rw [Lib.bytesWorld_size];omega
 have A:Hid (za d.heap.size d (Lib.bytesWorld d 5 (JW k s a))):=M
 generalize Lib.bytesWorld d 5 (JW k s a)=D at a3 M B a4 A
 generalize grownCap d (JW k s a).size 0 5=cp at a3
 have b6:Hid ((JW k s a).size=Jk k s.size):=a2
 clear HE H a0 M hg a2
 by_cases d3:I < 0
 ·generalize JW k s a=ta at *
  go_wp2
  go_ret
  exact ⟨rfl,t.out.trans (A.out.mono t.out.size)⟩
 by_cases d4:((JW k s a).size:Int)<=I
 ·generalize JW k s a=ta at *
  go_wp2
  go_ret
  exact ⟨rfl,t.out.trans (A.out.mono t.out.size)⟩
 obtain ⟨b,rfl⟩:=ag (show 0<=I by omega)
 have N:b < (JW k s a).size:=by omega
 have q2:=(B.out b N).1
 have f2:=(B.out b N).2
 have lx:=xK (JW k s a) b
 have HX:Hid (bits .xor .u8 ((Gf.nth (Zj (JW k s a)) b:Nat):Int) (f:Int)=((Gf.nth (Zj (JW k s a)) b ^^^ f:Nat):Int)):=by
  show _=_
  exact u8_xor_nat _ _ lx T
 have hx:=HX.out
 have f3:D.frozen? ⟨g,a*2+1,aa⟩=false:=by
  rw [A.out.frozen (p:=⟨g,a*2+1,aa⟩) a1]
  exact World.rowIs.frozen L.out _
 have q3:D.cell? ⟨g,a*2+1,aa⟩=ab (.string (JW k s a)):=(A.out.cell (p:=⟨g,a*2+1,aa⟩) a1).trans q1
 have b7:d.heap.size≠g:=by omega
 obtain ⟨o,E⟩:∃ o,o=D.setCell ⟨d.heap.size,b,aa⟩ (.int .u8 ((Gf.nth (Zj (JW k s a)) b ^^^ f:Nat):Int)):=⟨_,rfl⟩
 have a5:D.grownBy o (ab d.heap.size):=by rw [E];exact Z8 D _ _ _
 have d5:Sem.run prog (convert 32 9 (.slice (ab ⟨d.heap.size,0,aa⟩) (JW k s a).size cp)) o=.ok (.string (Jp (Zm (JW k s a) b f))) o:=by
  have hl:(Zm (JW k s a) b f).length=(JW k s a).size:=Jf _ _
  have b8:jU o (ab ⟨d.heap.size,0,aa⟩) (Zm (JW k s a) b f):=⟨q9 _ _ _ T,Or.inr ⟨d.heap.size,0,rfl,Nat.lt_of_lt_of_le a4.out a5.size,fun c O=>by
   rw [hl] at O
   rw [Nat.zero_add]
   unfold Zm
   rw [Yq _ _ c O,E]
   by_cases e:c=b
   ·subst e
    rw [if_pos rfl]
    exact World.cell?_setCell_same _ _ _ q2
   ·rw [if_neg e,World.cell?_setCell_other _ _ _ _ (fun h=>e (by have h2:=congrArg Addr.off h;exact h2.symm))]
    exact (B.out c O).1⟩⟩
  have:=WU b8 cp
  rw [hl] at this
  exact this
 have a6:ZE o g n (fR k s):=by
  rw [E]
  exact World.rowIs.setOther (L.out.below A.out) (fun e=>b7 e.symm) _
 have a7:za w.heap.size w o:=by
  rw [E]
  exact (t.out.trans (A.out.mono t.out.size)).setCell t.out.size _
 have a8:=a6.hD a (Jp (Zm (JW k s a) b f))
 have Q:za w.heap.size w (o.setCell ⟨g,a*2+1,aa⟩ (.string (Jp (Zm (JW k s a) b f)))):=a7.setCell b5 _
 have a9:fE (o.setCell ⟨g,a*2+1,aa⟩ (.string (Jp (Zm (JW k s a) b f)))) (ab ⟨g,0,aa⟩) (Qo n fun i=>if i=a then Jp (Zm (JW k s a) b f) else JW k s i):=by
  have h:=a8.shs
  have he:(aq n).map (fun j=>if j=a then ((fR k s a).1,Jp (Zm (JW k s a) b f)) else fR k s j)=Qo n fun i=>if i=a then Jp (Zm (JW k s a) b f) else JW k s i:=by
   unfold Qo
   refine List.map_congr_left fun j _=>?_
   dsimp only
   by_cases e:j=a
   ·rw [if_pos e,if_pos e,e];rfl
   ·rw [if_neg e,if_neg e];rfl
  rw [he] at h
  exact h
 have b1:l5 n k s.size (Qo n fun i=>if i=a then Jp (Zm (JW k s a) b f) else JW k s i):=U1 (by omega) (fun i _=>by
  by_cases e:i=a
  ·rw [if_pos e,JbG];exact b6.out
  ·rw [if_neg e];exact BM k s i)
 have S:=WB n k s.size (ab ⟨g,0,aa⟩) (Qo n fun i=>if i=a then Jp (Zm (JW k s a) b f) else JW k s i) n z _ U (by omega) hn (by omega) (by rw [nP];omega) b1 a9 ((Q.cell (p:=⟨2,0,aa⟩) (Qf G.out)).trans G.out)
 rw [C4 (by omega) d1 b3 (by rw [o4]) (Jca _ _ _ T b4.out N),nP] at S
 have b2:Hid (za w.heap.size w (o.setCell ⟨g,a*2+1,aa⟩ (.string (Jp (Zm (JW k s a) b f))))):=Q
 clear a6 a7 a8 Q a9 b1 B HX L a5
 generalize Jp (Zm (JW k s a) b f)=u at *
 subst E
 generalize Gf.nth (Zj (JW k s a)) b ^^^ f=y at *
 generalize Gf.nth (Zj (JW k s a)) b=x at *
 generalize JW k s a=ta at *
 go_wp2_with fail
 refine S.mono ?_
 rintro e w6 ⟨rfl,d0⟩
 clear S
 go_wp2
 go_ret
 exact ⟨rfl,b2.out.trans (d0.mono b2.out.size)⟩
theorem JbH (n k:Int) (s:ByteArray) (at_ f:Int) (d:Nat) (z:ax) (w:World) (B:s.size<=maxLen) (j:d < 256) (o:w.cell? ⟨2,0,aa⟩=ab (.iface 136 (.pointer (ab z)))) :
 ak prog 7 #[.int .i64 n,.int .i64 k,.string s,.int .i64 at_,.int .i64 f,.int .u8 (d:Int)] w fun e w'=>e=.returned (.bool true)/\za w.heap.size w w':=by
 by_cases h:1<=k/\k < n/\n<=12/\1<=s.size/\s.size<=100/\0<=at_/\at_ < n/\d≠0
 ·obtain ⟨t,rfl⟩:=ag (show 0<=k by omega)
  obtain ⟨y,rfl⟩:=ag (show 0<=n by omega)
  obtain ⟨A,rfl⟩:=ag (show 0<=at_ by omega)
  exact O4 y t s A f d z w j (by omega) (by omega) (by omega) h.2.2.2.1 h.2.2.2.2.1 (by omega) h.2.2.2.2.2.2.2 o
 ·exact Jbr n k s at_ f d z w B j h o
end Go.Proofs.YtaaahibncffcmaaDoor

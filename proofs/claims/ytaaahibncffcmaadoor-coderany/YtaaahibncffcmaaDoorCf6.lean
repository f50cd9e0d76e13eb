/- Texts laid together. -/
import Derived.Test.YtaaahibncffcmaaDoorCf5
set_option maxRecDepth 10000
set_option maxHeartbeats 16000000
open Option renaming none->aa,some->ab
open List renaming length_map->ac,length_take->ai,mem_singleton->ak,any_eq_false->am,mem_append_left->an,nodup_range->ap,take_of_length_le->aq,mem_range->ar,range->av,getD_eq_getElem?_getD->ax,getElem_map->aD,mem_map->aE,mem_append->zb,mem_append_right->aI,length_singleton->aJ,length_append->aO,map_map->aR,length_range->aS,take_take->zi
open Go.World renaming cell?_alloc_at->za,grownBy_alloc->ah,frozen?->aC,cell?->aM
open Go.RowKit renaming Below->ae
open Nat renaming le_refl->af,not_lt_zero->zh,lt_irrefl->be
open Go.RowKit.Below renaming refl->ag
open Go.World.ownsRow renaming lt->aj,alloc->aw,kept->bq
open Int renaming eq_ofNat_of_zero_le->al
open Go renaming below_drewN->ao,Calls->au,wpList_append_own->aB,bodyPost_ret->aF,Addr->aG,maxLen->aP,Value->bb,results->bg
open List.Pairwise renaming map->aA
open Prod renaming fst->zc
namespace Go.Proofs.YtaaahibncffcmaaDoor
open Go.Proofs.Tryd
open Go.RowKit
variable {l:List (Int×ByteArray)}{i n k B:Nat}{s:ByteArray}{f:Nat->Int×ByteArray}{w w':World}{v:bb}{X Y:List Nat}
theorem JbY (w:World) (n k size:Int) (t:TypeId):(fun W:World=>W.cell? ⟨w.heap.size,0,aa⟩=ab (.int .i64 n)/\W.cell? ⟨w.heap.size+1,0,aa⟩=ab (.int .i64 k)/\W.cell? ⟨w.heap.size+1+1,0,aa⟩=ab (.int .i64 size)) (((w.alloc (.cells #[.int .i64 n] t)).alloc (.cells #[.int .i64 k] t)).alloc (.cells #[.int .i64 size] t)):=by
 have f:(w.alloc (.cells #[.int .i64 n] t)).heap.size=w.heap.size+1:=by simp
 have h:((w.alloc (.cells #[.int .i64 n] t)).alloc (.cells #[.int .i64 k] t)).heap.size=w.heap.size+1+1:=by simp
 have j:ae (w.alloc (.cells #[.int .i64 n] t)).heap.size (w.alloc (.cells #[.int .i64 n] t)) ((w.alloc (.cells #[.int .i64 n] t)).alloc (.cells #[.int .i64 k] t)):=(ag _ _).alloc (af _) _
 have d:ae ((w.alloc (.cells #[.int .i64 n] t)).alloc (.cells #[.int .i64 k] t)).heap.size ((w.alloc (.cells #[.int .i64 n] t)).alloc (.cells #[.int .i64 k] t)) (((w.alloc (.cells #[.int .i64 n] t)).alloc (.cells #[.int .i64 k] t)).alloc (.cells #[.int .i64 size] t)):=(ag _ _).alloc (af _) _
 refine ⟨?_,?_,?_⟩
 ·rw [d.cell (p:=⟨w.heap.size,0,aa⟩) (by show w.heap.size < _;omega),j.cell (p:=⟨w.heap.size,0,aa⟩) (by show w.heap.size < _;omega),za _ _ _ _ rfl];rfl
 ·rw [d.cell (p:=⟨w.heap.size+1,0,aa⟩) (by show w.heap.size+1 < _;omega),za _ _ _ _ f.symm];rfl
 ·rw [za _ _ _ _ h.symm];rfl
theorem JcB (n k size:Int) (v:bb) (z:aG) (w:World) (h:¬ (1<=k/\k<=n/\n<=12/\0<=size/\size<=1000)) (o:w.cell? ⟨0,0,aa⟩=ab (.iface 136 (.pointer (ab z)))) :
 au prog 24 #[.int .i64 n,.int .i64 k,.int .i64 size,v] w fun e w'=>e=.returned (.tuple #[.string ⟨#[]⟩,.iface 136 (.pointer (ab z))])/\ae w.heap.size w w':=by
 obtain ⟨d,f⟩:∃ d,d=(((w.alloc (.cells #[.int .i64 n] 3)).alloc (.cells #[.int .i64 k] 3)).alloc (.cells #[.int .i64 size] 3)):=⟨_,rfl⟩
 have j:ae w.heap.size w d:=by rw [f];exact (((ag _ _).alloc (af _) _).alloc (by simp) _).alloc (by simp;omega) _
 obtain ⟨B,D,E⟩:d.cell? ⟨w.heap.size,0,aa⟩=ab (.int .i64 n)/\d.cell? ⟨w.heap.size+1,0,aa⟩=ab (.int .i64 k)/\d.cell? ⟨w.heap.size+1+1,0,aa⟩=ab (.int .i64 size):=by rw [f];exact JbY w n k size _
 have s:=y0 n k size z d h ((j.cell (p:=⟨0,0,aa⟩) (Qf o)).trans o)
 have y:Hid (d=(((w.alloc (.cells #[.int .i64 n] 3)).alloc (.cells #[.int .i64 k] 3)).alloc (.cells #[.int .i64 size] 3))):=f
 have t:Hid (ae w.heap.size w d):=j
 clear f j o h
 go_enter func24,ntmps24
 go_wp2_with (rw [<- y.out])
 refine s.mono ?_
 rintro e G ⟨rfl,A⟩
 clear s
 go_wp2
 go_ret2
 exact ⟨rfl,t.out.trans (A.mono t.out.size)⟩
theorem JcO (n k size:Nat) (p:Option aG) (l:List (Int×ByteArray)) (N:Nat) (z O Q G:aG) (w:World) (a0:1<=k) (b4:k<=n) (hn:n<=12) (b5:size<=1000) (hl:l.length<=1000) (hs:fE w p l)
 (hz:w.cell? ⟨2,0,aa⟩=ab (.iface 136 (.pointer (ab z)))) (a1:w.cell? ⟨1,0,aa⟩=ab (.iface 136 (.pointer (ab O)))) (a2:w.cell? ⟨3,0,aa⟩=ab (.iface 136 (.pointer (ab Q))))
 (h:l.any (j4 (n:Int) (Jk k size))=true/\G=O∨l.any (j4 (n:Int) (Jk k size))=false/\(Qg k l l.length).length < k/\G=Q) :
 au prog 24 #[.int .i64 (n:Int),.int .i64 (k:Int),.int .i64 (size:Int),.slice p l.length N] w fun e w'=>e=.returned (.tuple #[.string ⟨#[]⟩,.iface 136 (.pointer (ab G))])/\ae w.heap.size w w':=by
 have b8:=xR (size:=size) a0
 have S:Hid (∀ W,fE W p l->au prog 51 #[.int .i64 (k:Int),.slice p l.length N] W fun e w'=>(∃ p' c',e=.returned (.slice p' (Qg k l l.length).length c')/\fE w' p' (Qg k l l.length))/\ae W.heap.size W w'):=fun W H=>y8 k p l N W (by omega) hl H
 have a3:Hid (∀ y t W,W.cell? ⟨w.heap.size,0,aa⟩=ab (.int .i64 (n:Int))->W.cell? ⟨w.heap.size+1,0,aa⟩=ab (.int .i64 (k:Int))->W.cell? ⟨w.heap.size+1+1,0,aa⟩=ab (.int .i64 (size:Int))->au prog 49 (#[.agg #[.int .i64 y,.string t]] ++ #[.pointer (ab ⟨w.heap.size,0,aa⟩),.pointer (ab ⟨w.heap.size+1,0,aa⟩),.pointer (ab ⟨w.heap.size+1+1,0,aa⟩)]) W fun e o=>e=.returned (.bool (j4 (n:Int) (Jk k size) (y,t)))/\ae W.heap.size W o):=fun y t W h0 h1 h2=>WJ w.heap.size (w.heap.size+1) (w.heap.size+1+1) n k size y t W a0 b4 hn b5 h0 h1 h2
 have T:Hid (l.any (j4 (n:Int) (Jk k size))=true/\G=O∨l.any (j4 (n:Int) (Jk k size))=false/\(Qg k l l.length).length < k/\G=Q):=h
 clear h
 generalize Jk k size=wd at *
 generalize Qg k l l.length=so at *
 obtain ⟨d,I⟩:∃ d,d=(((w.alloc (.cells #[.int .i64 (n:Int)] 3)).alloc (.cells #[.int .i64 (k:Int)] 3)).alloc (.cells #[.int .i64 (size:Int)] 3)):=⟨_,rfl⟩
 have J:ae w.heap.size w d:=by rw [I];exact (((ag _ _).alloc (af _) _).alloc (by simp) _).alloc (by simp;omega) _
 have D:jF d w.heap.size n k size:=by rw [I];exact UN w n k size _
 have p0:=D.c0
 have p1:=D.c1
 have p2:=D.c2
 have a4:Hid (jF d w.heap.size n k size):=D
 have HS:=BZ n k size z d a0 b4 hn b5 ((J.cell (p:=⟨2,0,aa⟩) (Qf hz)).trans hz)
 have a5:Hid (d=(((w.alloc (.cells #[.int .i64 (n:Int)] 3)).alloc (.cells #[.int .i64 (k:Int)] 3)).alloc (.cells #[.int .i64 (size:Int)] 3))):=I
 have U:Hid (ae w.heap.size w d):=J
 have a6:Hid (fE d p l):=hs.below J
 have K:Hid (∀ W,ae w.heap.size w W->W.cell? ⟨1,0,aa⟩=ab (.iface 136 (.pointer (ab O)))/\W.cell? ⟨3,0,aa⟩=ab (.iface 136 (.pointer (ab Q)))):=fun W H=>⟨(H.cell (p:=⟨1,0,aa⟩) (Qf a1)).trans a1,(H.cell (p:=⟨3,0,aa⟩) (Qf a2)).trans a2⟩
 clear I J hz a1 a2 hs D
 go_enter func24,ntmps24
 go_wp2_with (rw [<- a5.out])
 refine HS.mono ?_
 rintro e o ⟨⟨gm,rfl,b6⟩,L⟩
 have f:=a4.out.below L
 have b7:Hid (jF o w.heap.size n k size):=f
 have q0:=f.c0
 have V:=f.c1
 have q2:=f.c2
 have M:Hid (ae w.heap.size w o):=U.out.trans (L.mono U.out.size)
 have a7:Hid (fE o p l):=a6.out.below L
 have HA:tK o 49 #[.pointer (ab ⟨w.heap.size,0,aa⟩),.pointer (ab ⟨w.heap.size+1,0,aa⟩),.pointer (ab ⟨w.heap.size+1+1,0,aa⟩)] l (j4 (n:Int) wd):=fun i hi j Y=>by
  have hx:=a3.out (Ji l i).1 (Ji l i).2 j ((f.below Y).c0) ((f.below Y).c1) ((f.below Y).c2)
  exact hx
 have A:=n9 p l N 49 #[.pointer (ab ⟨w.heap.size,0,aa⟩),.pointer (ab ⟨w.heap.size+1,0,aa⟩),.pointer (ab ⟨w.heap.size+1+1,0,aa⟩)] (j4 (n:Int) wd) o (by omega) a7.out (enters_of func49 (by kernel_rfl) rfl) HA
 clear HS b6 L U a5 a4 p0 p1 p2 a6 f HA a3
 rcases T.out with ⟨a8,Z⟩ | ⟨a9,d0,Z⟩
 ·rw [a8] at A
  subst Z
  clear a8 T S
  go_wp2_with fail
  refine A.mono ?_
  rintro e j ⟨rfl,s⟩
  have B:Hid (ae w.heap.size w j):=M.out.trans (s.mono M.out.size)
  obtain ⟨q3,_⟩:=K.out j B.out
  clear A s K
  go_wp2
  go_quiet (fail)
  go_wp2
  go_ret2
  exact ⟨rfl,ao B.out _⟩
 ·rw [a9] at A
  subst Z
  clear a9 T
  go_wp2_with fail
  refine A.mono ?_
  rintro e j ⟨rfl,s⟩
  have B:Hid (ae w.heap.size w j):=M.out.trans (s.mono M.out.size)
  have b1:=S.out j (a7.out.below s)
  have b2:Hid (jF j w.heap.size n k size):=b7.out.below s
  clear q0 V q2
  have V:=b2.out.c1
  clear A s S
  go_wp2_with fail
  refine b1.mono ?_
  rintro e w5 ⟨⟨p5,c5,rfl,_⟩,E⟩
  have b3:Hid (ae w.heap.size w (w5.alloc (.cells #[.slice p5 so.length c5] 41))):=(B.out.trans (E.mono B.out.size)).alloc (by have:=B.out.size;have:=E.size;omega) _
  obtain ⟨_,q3⟩:=K.out _ b3.out
  have q4:=(b2.out.below (E.trans (((ag _ w5).alloc (af _) (.cells #[.slice p5 so.length c5] 41)).mono E.size))).c1
  clear b1 E K V
  go_wp2
  go_quiet (fail)
  go_wp2
  go_ret2
  exact ⟨rfl,ao b3.out _⟩
theorem toList_inj {a b:ByteArray} (h:a.toList=b.toList):a=b:=by
 rw [ByteArray.toList_eq,ByteArray.toList_eq] at h
 exact ByteArray.ext (Array.toList_inj.1 h)
theorem sZ (d f h v:bb) (z:aG) (w:World)
 (j:au prog 24 #[d,f,h,v] w fun e w'=>e=.returned (.tuple #[.string ⟨#[]⟩,.iface 136 (.pointer (ab z))])/\ae w.heap.size w w') :
 au prog 46 #[d,f,h,v] w fun e w'=>e=.returned (.tuple #[.slice aa 0 0,.iface 136 (.pointer (ab z))])/\ae w.heap.size w w':=by
 go_enter func46,ntmps46
 go_wp2_with fail
 refine j.mono ?_
 rintro e s ⟨rfl,o⟩
 clear j
 go_wp2
 go_ret2
 exact ⟨rfl,o⟩
theorem zE (n k size:Nat) (p:Option aG) (l:List (Int×ByteArray)) (A:Nat) (z:aG) (w:World) (B:1<=k) (D:k<=n) (E:n<=12) (N:size<=1000) (O:l.length<=1000) (G:l5 n k size l) (H:fE w p l)
 (s:w.cell? ⟨2,0,aa⟩=ab (.iface 136 (.pointer (ab z)))) :
 au prog 46 #[.int .i64 (n:Int),.int .i64 (k:Int),.int .i64 (size:Int),.slice p l.length A] w fun e w'=>(∃ g,w.heap.size<=g/\e=.returned (.tuple #[.slice (ab ⟨g,0,aa⟩) n n,.nilIface])/\ZE w' g n (fR k (gB k size (Qg k l l.length))))/\ae w.heap.size w w':=by
 have d:=LJ n k size p l A z w B D E N O G H s
 have I:=V3 k size (Qg k l l.length)
 have f:Hid (∀ W,W.cell? ⟨2,0,aa⟩=ab (.iface 136 (.pointer (ab z)))->au prog 20 #[.int .i64 (n:Int),.int .i64 (k:Int),.string (gB k size (Qg k l l.length))] W fun e w'=>(∃ g,W.heap.size<=g/\e=.returned (.tuple #[.slice (ab ⟨g,0,aa⟩) n n,.nilIface])/\ZE w' g n (fR k (gB k size (Qg k l l.length))))/\ae W.heap.size W w'):=fun W J=>RO n k _ z W B D E (by omega) J
 have h:Hid (w.cell? ⟨2,0,aa⟩=ab (.iface 136 (.pointer (ab z)))):=s
 clear I G H s
 generalize gB k size (Qg k l l.length)=Q at d f ⊢
 go_enter func46,ntmps46
 go_wp2_with fail
 refine d.mono ?_
 rintro e t ⟨rfl,j⟩
 have o:Hid (ae w.heap.size w t):=j
 have y:=f.out t ((j.cell (p:=⟨2,0,aa⟩) (Qf h.out)).trans h.out)
 clear d j h f
 go_wp2_with fail
 refine y.mono ?_
 rintro e S ⟨⟨g,K,rfl,L⟩,M⟩
 clear y
 go_wp2
 go_ret2
 exact ⟨⟨g,Nat.le_trans o.out.size K,rfl,L⟩,o.out.trans (M.mono o.out.size)⟩
theorem HQ (j g n a:Nat) (f:Nat->Int×ByteArray) (t:ByteArray) (w:World) (o:a < n) (s:(f a).1=(a:Int)) (D:w.cell? ⟨j,0,aa⟩=ab (.slice (ab ⟨g,0,aa⟩) n n)) (h:ZE w g n f) :
 au prog 48 (#[.agg #[.int .i64 (a:Int),.string t]] ++ #[.pointer (ab ⟨j,0,aa⟩)]) w fun e y=>e=.returned (.bool (!decide (t=(f a).2)))/\ae w.heap.size w y:=by
 have E:=Qf D
 have G:g < w.heap.size:=World.rowIs.lt h
 have z:=h.at_ o
 have A:=h.text o
 rw [s] at z
 generalize (f a).2=u at A ⊢
 clear h s
 by_cases d:t=u
 ·subst d
  rw [decide_eq_true rfl]
  go_enter func48,ntmps48
  go_wp2
  go_quiet (fail)
  go_wp2
  go_ret
  exact ⟨rfl,ao ((ag _ _).alloc (af _) _) _⟩
 ·rw [decide_eq_false d]
  have B:¬ t.toList=u.toList:=fun e=>d (toList_inj e)
  have H:(t.toList==u.toList)=false:=by simpa using B
  clear d
  go_enter func48,ntmps48
  go_wp2
  go_quiet (fail)
  go_wp2
  go_ret
  exact ⟨rfl,ao ((ag _ _).alloc (af _) _) _⟩
theorem JcY (d f h v:bb) (z:aG) (w:World)
 (s:au prog 24 #[d,f,h,v] w fun e w'=>e=.returned (.tuple #[.string ⟨#[]⟩,.iface 136 (.pointer (ab z))])/\ae w.heap.size w w') :
 au prog 23 #[d,f,h,v] w fun e w'=>e=.returned (.tuple #[.bool false,.iface 136 (.pointer (ab z))])/\ae w.heap.size w w':=by
 have j:=sZ d f h v z w s
 clear s
 go_enter func23,ntmps23
 go_wp2_with fail
 refine j.mono ?_
 rintro e t ⟨rfl,o⟩
 clear j
 go_wp2
 go_ret2
 exact ⟨rfl,o.alloc o.size _⟩
def hU (k:Nat) (s:ByteArray) (x:Int×ByteArray):Bool:=!decide (x.2=JW k s x.1.toNat)
theorem o0 (n k size:Nat) (p:Option aG) (l:List (Int×ByteArray)) (B:Nat) (z:aG) (w:World) (a1:1<=k) (a2:k<=n) (hn:n<=12) (a3:size<=1000) (hl:l.length<=1000) (D:l5 n k size l) (E:fE w p l)
 (T:w.cell? ⟨2,0,aa⟩=ab (.iface 136 (.pointer (ab z)))) :
 au prog 23 #[.int .i64 (n:Int),.int .i64 (k:Int),.int .i64 (size:Int),.slice p l.length B] w fun e w'=>e=.returned (.tuple #[.bool (!l.any (hU k (gB k size (Qg k l l.length)))),.nilIface])/\ae w.heap.size w w':=by
 have y:=zE n k size p l B z w a1 a2 hn a3 hl D E T
 have G:Hid (∀ x ∈ l,0<=x.1/\x.1 < n/\x.2.size=Jk k size):=fun x H=>D.at_ H
 have I:Hid (fE w p l):=E
 clear D E T
 generalize gB k size (Qg k l l.length)=j at y ⊢
 generalize J:l.any (hU k j)=U
 have V:Hid (l.any (hU k j)=U):=J
 clear J
 go_enter func23,ntmps23
 go_wp2_with fail
 refine y.mono ?_
 rintro e d ⟨⟨g,hg,rfl,K⟩,s⟩
 obtain ⟨f,o⟩:∃ f,f=d.alloc (.cells #[.slice (ab ⟨g,0,aa⟩) n n] 41):=⟨_,rfl⟩
 have t:ae d.heap.size d f:=by rw [o];exact (ag _ _).alloc (af _) _
 have W:d.heap.size < f.heap.size:=by rw [o];simp
 have L:f.cell? ⟨d.heap.size,0,aa⟩=ab (.slice (ab ⟨g,0,aa⟩) n n):=by rw [o,za _ _ _ _ rfl];rfl
 have M:Hid (ZE f g n (fR k j)):=K.below t
 have N:tK f 48 #[.pointer (ab ⟨d.heap.size,0,aa⟩)] l (hU k j):=fun i Y O Q=>by
  have H:=G.out _ (sE Y)
  have h:=HQ d.heap.size g n (Ji l i).1.toNat (fR k j) (Ji l i).2 O (by omega) rfl ((Q.cell (p:=⟨d.heap.size,0,aa⟩) W).trans L) (M.out.below Q)
  rw [show (((Ji l i).1.toNat:Nat):Int)=(Ji l i).1 by omega] at h
  exact h
 have A:=n9 p l B 48 #[.pointer (ab ⟨d.heap.size,0,aa⟩)] (hU k j) f (by omega) ((I.out.below s).below t) (enters_of func48 (by kernel_rfl) rfl) N
 have Z:Hid (f=d.alloc (.cells #[.slice (ab ⟨g,0,aa⟩) n n] 41)):=o
 have S:Hid (ae w.heap.size w f):=s.trans (t.mono s.size)
 clear y K s o t L N M I G
 rw [V.out] at A
 go_wp2_with fail
 rw [<- Z.out]
 refine A.mono ?_
 rintro e O ⟨rfl,a0⟩
 clear A
 go_wp2
 go_ret2
 exact ⟨rfl,S.out.trans (a0.mono S.out.size)⟩
theorem Jcz (n k size at_:Int) (v:bb) (z:aG) (w:World) (h:at_ < 0∨n<=at_) (d:w.cell? ⟨0,0,aa⟩=ab (.iface 136 (.pointer (ab z)))) :
 au prog 25 #[.int .i64 n,.int .i64 k,.int .i64 size,.int .i64 at_,v] w fun e w'=>e=.returned (.tuple #[.agg #[.int .i64 0,.string ⟨#[]⟩],.iface 136 (.pointer (ab z))])/\ae w.heap.size w w':=by
 have f:=Qf d
 by_cases j:at_ < 0
 ·clear h
  go_enter func25,ntmps25
  go_wp2
  go_region
  go_wp2
  refine aF (v:=.tuple #[.agg #[.int .i64 0,.string ⟨#[]⟩],.iface 136 (.pointer (ab z))]) (by simp [bg,results25,go_sem]) rfl ⟨rfl,?_⟩
  exact ((ag _ _).alloc (af _) _).drew
 ·have o:n<=at_:=by omega
  clear h
  go_enter func25,ntmps25
  go_wp2
  go_region
  go_wp2
  refine aF (v:=.tuple #[.agg #[.int .i64 0,.string ⟨#[]⟩],.iface 136 (.pointer (ab z))]) (by simp [bg,results25,go_sem]) rfl ⟨rfl,?_⟩
  exact ((ag _ _).alloc (af _) _).drew
def e8 (w:World):World:=w.alloc (.cells #[.int .i64 0,.string ⟨#[]⟩] 48)
theorem sS (w:World):ae w.heap.size w (e8 w):=(ag _ _).alloc (af _) _
theorem u1 (w:World):w.heap.size < (e8 w).heap.size:=by unfold e8;simp
theorem y7 (w:World):(e8 w).heap[w.heap.size]?=ab (.cells #[.int .i64 0,.string ⟨#[]⟩] 48 (0,0)):=by unfold e8 World.alloc;simp
theorem JcH (n:Int) (o s v:bb) (at_:Int) (z:aG) (w:World) (M:0<=at_) (N:at_ < n)
 (B:au prog 24 #[.int .i64 n,o,s,v] (e8 w) fun e w'=>e=.returned (.tuple #[.string ⟨#[]⟩,.iface 136 (.pointer (ab z))])/\ae (e8 w).heap.size (e8 w) w') :
 au prog 25 #[.int .i64 n,o,s,.int .i64 at_,v] w fun e w'=>e=.returned (.tuple #[.agg #[.int .i64 0,.string ⟨#[]⟩],.iface 136 (.pointer (ab z))])/\ae w.heap.size w w':=by
 have t:=sZ (.int .i64 n) o s v z (e8 w) B
 have D:Hid (e8 w=w.alloc (.cells #[.int .i64 0,.string ⟨#[]⟩] 48)):=by show _=_;rfl
 clear B
 go_enter func25,ntmps25
 go_wp2_with fail
 rw [<- D.out]
 refine t.mono ?_
 rintro e d ⟨rfl,h⟩
 have y:=u1 w
 have f:d.heap[w.heap.size]?=ab (.cells #[.int .i64 0,.string ⟨#[]⟩] 48 (0,0)):=(h.block _ y).trans (y7 w)
 have I:d.cell? ⟨w.heap.size,0,aa⟩=ab (.int .i64 0):=by simp [aM,f]
 have J:d.cell? ⟨w.heap.size,1,aa⟩=ab (.string ⟨#[]⟩):=by simp [aM,f]
 have K:d.frozen? ⟨w.heap.size,0,aa⟩=false:=by simp [aC,f]
 have L:d.frozen? ⟨w.heap.size,1,aa⟩=false:=by simp [aC,f]
 have E:Hid (ae w.heap.size w d):=(sS w).trans (h.mono (by omega))
 have G:Hid (d.rowIs w.heap.size 48 2 (i6 fun _=>(0,⟨#[]⟩))):=⟨_,f,rfl,fun i H=>by
  match i,H with
  | 0,_=>rfl
  | 1,_=>rfl⟩
 clear t h f y
 go_wp2
 have j:=(G.out.set 0 (.int .i64 0)).set 1 (.string ⟨#[]⟩)
 have A:ae w.heap.size w ((d.setCell ⟨w.heap.size,0,aa⟩ (.int .i64 0)).setCell ⟨w.heap.size,1,aa⟩ (.string ⟨#[]⟩)):=(E.out.setCell (af _) _).setCell (af _) _
 generalize (d.setCell ⟨w.heap.size,0,aa⟩ (.int .i64 0)).setCell ⟨w.heap.size,1,aa⟩ (.string ⟨#[]⟩)=wf at j A ⊢
 have c1:wf.cell? ⟨w.heap.size,0,aa⟩=ab (.int .i64 0):=j.cell (i:=0) (by decide)
 have c2:wf.cell? ⟨w.heap.size,1,aa⟩=ab (.string ⟨#[]⟩):=j.cell (i:=1) (by decide)
 exact aF (v:=.tuple #[.agg #[.int .i64 0,.string ⟨#[]⟩],.iface 136 (.pointer (ab z))]) (by simp [bg,results25,go_sem,c1,c2]) rfl ⟨rfl,A⟩
theorem n4 (n k size at_:Nat) (p:Option aG) (l:List (Int×ByteArray)) (G:Nat) (z:aG) (w:World) (Q:1<=k) (S:k<=n) (T:n<=12) (U:size<=1000) (V:l.length<=1000) (H:at_ < n) (I:l5 n k size l) (J:fE w p l)
 (A:w.cell? ⟨2,0,aa⟩=ab (.iface 136 (.pointer (ab z)))) :
 au prog 25 #[.int .i64 (n:Int),.int .i64 (k:Int),.int .i64 (size:Int),.int .i64 (at_:Int),.slice p l.length G] w fun e w'=>e=.returned (.tuple #[.agg #[.int .i64 (at_:Int),.string (JW k (gB k size (Qg k l l.length)) at_)],.nilIface])/\ae w.heap.size w w':=by
 have j:=sS w
 have o:=zE n k size p l G z (e8 w) Q S T U V I (J.below j) ((j.cell (p:=⟨2,0,aa⟩) (Qf A)).trans A)
 have K:Hid (e8 w=w.alloc (.cells #[.int .i64 0,.string ⟨#[]⟩] 48)):=by show _=_;rfl
 clear I J A j
 generalize gB k size (Qg k l l.length)=f at o ⊢
 go_enter func25,ntmps25
 go_wp2_with fail
 rw [<- K.out]
 refine o.mono ?_
 rintro e d ⟨⟨g,L,rfl,s⟩,t⟩
 have B:=u1 w
 have h:d.heap[w.heap.size]?=ab (.cells #[.int .i64 0,.string ⟨#[]⟩] 48 (0,0)):=(t.block _ B).trans (y7 w)
 have W:d.cell? ⟨w.heap.size,0,aa⟩=ab (.int .i64 0):=by simp [aM,h]
 have Y:d.cell? ⟨w.heap.size,1,aa⟩=ab (.string ⟨#[]⟩):=by simp [aM,h]
 have Z:d.frozen? ⟨w.heap.size,0,aa⟩=false:=by simp [aC,h]
 have f2:d.frozen? ⟨w.heap.size,1,aa⟩=false:=by simp [aC,h]
 have r1:d.cell? ⟨g,at_*2,aa⟩=ab (.int .i64 (at_:Int)):=s.at_ H
 have r2:d.cell? ⟨g,at_*2+1,aa⟩=ab (.string (JW k f at_)):=s.text H
 have M:Hid (ae w.heap.size w d):=(sS w).trans (t.mono (by omega))
 have N:Hid (d.rowIs w.heap.size 48 2 (i6 fun _=>(0,⟨#[]⟩))):=⟨_,h,rfl,fun i O=>by
  match i,O with
  | 0,_=>rfl
  | 1,_=>rfl⟩
 clear o t h B s L
 go_wp2
 have y:=(N.out.set 0 (.int .i64 (at_:Int))).set 1 (.string (JW k f at_))
 have D:ae w.heap.size w ((d.setCell ⟨w.heap.size,0,aa⟩ (.int .i64 (at_:Int))).setCell ⟨w.heap.size,1,aa⟩ (.string (JW k f at_))):=(M.out.setCell (af _) _).setCell (af _) _
 generalize (d.setCell ⟨w.heap.size,0,aa⟩ (.int .i64 (at_:Int))).setCell ⟨w.heap.size,1,aa⟩ (.string (JW k f at_))=E at y D ⊢
 have c1:E.cell? ⟨w.heap.size,0,aa⟩=ab (.int .i64 (at_:Int)):=y.cell (i:=0) (by decide)
 have c2:E.cell? ⟨w.heap.size,1,aa⟩=ab (.string (JW k f at_)):=y.cell (i:=1) (by decide)
 exact aF (v:=.tuple #[.agg #[.int .i64 (at_:Int),.string (JW k f at_)],.nilIface]) (by simp [bg,results25,go_sem,c1,c2]) rfl ⟨rfl,D⟩
theorem OC  (h:i < l.length):Ji l i=l[i]:=by
 unfold Ji
 rw [ax,List.getElem?_eq_getElem h]
 rfl
theorem RT  {d:List (Int×ByteArray)} (H:1<=k) (J:n<=200) (f:d.length=k) (I:(Xo d).Nodup) (z:∀ i,i < k->(Ji d i).1.toNat < n/\(Ji d i).2=JW k s (Ji d i).1.toNat) (K:k<=n):gB k s.size d=s:=by
 have A:(Xo d).length=k:=by unfold Xo;rw [ac];exact f
 have B:Zj (gB k s.size d)=Zj s:=by
  rw [WB]
  refine BO (by rw [Jf,tZ]) fun p h=>?_
  rw [Jf] at h
  rw [Yq _ _ p h]
  have D:=FX (size:=s.size) H
  have o:0 < Jk k s.size:=by
   rcases Nat.eq_zero_or_pos (Jk k s.size) with e | e
   ·rw [e,Nat.mul_zero] at D;omega
   ·exact e
  have E:p / Jk k s.size < k:=by rw [Nat.div_lt_iff_lt_mul o];omega
  have G:=Nat.mod_lt p o
  rw [q7 (X:=Xo d) (u:=gN s (Jk k s.size)) (fun j=>?_) I A (by omega) (fun j c=>DM s _ j c) (fun j c=>EN d j c) _ (fun i t=>?_) _ E]
  ·unfold gN
   congr 1
   have:=Nat.mod_add_div p (Jk k s.size)
   rw [Nat.mul_comm (Jk k s.size)] at this
   omega
  ·by_cases y:j < k
   ·rw [xP (by rw [f];exact y)]
    have:=(z j y).1
    omega
   ·rw [F0 (by omega)];decide
  ·rw [xP (by rw [f];exact t)]
   unfold Z2
   rw [(z i t).2]
   exact T9 k s _ _ G
 rw [<- CX (gB k s.size d),B,CX]
theorem vD {k:Nat} {l:List (Int×ByteArray)} (f:(l.map zc).Nodup):∀ i,i<=l.length->Qg k l i=(l.take i).take k
 | 0,_=>by simp [Qg]
 | i+1,hi=>by
  have ih:=vD (k:=k) f i (by omega)
  have o:((l.take i).take k).length=min k i:=by rw [ai,ai];omega
  by_cases h:i < k
  ·have s:(l.take i).take k=l.take i:=aq (by rw [ai];omega)
   rw [s] at ih
   have t:(Qg k l i).any (fun y=>y.1==(Ji l i).1)=false:=by
    rw [ih,am]
    intro y z A
    have d:y.1=(Ji l i).1:=by simpa using A
    obtain ⟨j,B,rfl⟩:=List.getElem_of_mem z
    rw [ai] at B
    rw [List.getElem_take] at d
    rw [OC (by omega)] at d
    have D:(l.map zc)[j]'(by rw [ac];omega)=(l.map zc)[i]'(by rw [ac];omega):=by rw [aD,aD];exact d
    exact (List.pairwise_iff_getElem.1 f) j i (by rw [ac];omega) (by rw [ac];omega) (by omega) D
   rw [rJ (by rw [ih,ai];omega) t,ih,OC (by omega),aq (l:=l.take (i+1)) (by rw [ai];omega),List.take_succ_eq_append_getElem (by omega)]
  ·rw [qH (by rw [ih,o];omega),ih,zi,zi]
   congr 1
   omega
theorem r7  (d:(l.map zc).Nodup):Qg k l l.length=l.take k:=by
 rw [vD d l.length (af _),List.take_length]
def X5 (n:Nat) (f:Nat->ByteArray):List (Int×ByteArray):=(av n).map fun i:Nat=>((i:Int),f i)
theorem Zm (n:Nat) (f:Nat->ByteArray):(X5 n f).length=n:=by simp [X5]
theorem JcZ {f:Nat->ByteArray} (h:i < n):Ji (X5 n f) i=((i:Int),f i):=by
 unfold Ji X5
 rw [ax,List.getElem?_map,List.getElem?_range h]
 rfl
theorem z6 (n:Nat) (f:Nat->ByteArray):((X5 n f).map zc).Nodup:=by
 unfold X5
 rw [aR]
 exact aA (R:=fun a b:Nat=>a≠b) _ (fun a b d e=>d (by have:(a:Int)=(b:Int):=e;omega)) ap
theorem o7 {f:Nat->ByteArray} {size:Nat} (s:k<=n) (o:∀ i,i < n->(f i).size=Jk k size):l5 n k size (X5 n f) where
 pK:=by
  rw [am]
  intro x d
  obtain ⟨i,h,rfl⟩:=aE.1 d
  have j:=ar.1 h
  unfold j4
  simp only [Bool.or_eq_true,decide_eq_true_eq,Bool.not_eq_true',decide_eq_false_iff_not]
  have:=o i j
  omega
 jS:=by
  rw [r7 (z6 n f),ai,Zm]
  omega
theorem Xi (n k:Nat) (s:ByteArray):j1 n k s=X5 n (JW k s):=rfl
theorem VV (a k:Nat):((av k).map (Lin.skip a)).Nodup:=aA (R:=fun a b:Nat=>a≠b) _ (fun x y d e=>d (by unfold Lin.skip at e;split at e <;> split at e <;> omega)) ap
theorem JcP {a:Nat} {f u:ByteArray} (N:k<=200) (O:k < n) (K:a < n) (t:f.size=s.size) (L:u≠JW k s a):(X5 n fun i=>if i=a then u else JW k s i).any (hU k f)=true:=by
 refine Classical.byContradiction fun B=>L ?_
 have D:=am.1 (Bool.eq_false_iff.2 B)
 have y:∀ i,i < n->(if i=a then u else JW k s i)=JW k f i:=fun i d=>by
  have:=D ((i:Int),if i=a then u else JW k s i) (aE.2 ⟨i,ar.2 d,rfl⟩)
  unfold hU at this
  simpa using this
 have E:∀ c,c < Jk k s.size->∀ m,m < k->gN s (Jk k s.size) m c=gN f (Jk k s.size) m c:=fun c o m G=>by
  have z:∀ i,i < k->Gf.nth ((av k).map (Lin.skip a)) i=Lin.skip a i:=fun i d=>by
   rw [Gf.aK _ i (by simpa using d)]
   simp
  refine C4 (X:=(av k).map (Lin.skip a)) (fun i=>?_) (VV a k) (by simp) (by omega) (fun j c=>DM s _ j c) (fun j c=>DM f _ j c) c (fun i d=>?_) m G
  ·by_cases d:i < k
   ·rw [z i d]
    have:=Lin.MQ (p:=a) d
    omega
   ·rw [F0 (by simpa using d)];decide
  ·rw [z i d]
   have H:=Lin.O7 a i
   have M:=Lin.MQ (p:=a) d
   have h:=y (Lin.skip a i) (by omega)
   rw [if_neg H] at h
   have I:=T9 k s (Lin.skip a i) c o
   have A:=T9 k f (Lin.skip a i) c (by rw [t];exact o)
   rw [t] at A
   rw [<- I,<- A,h]
 have h:=y a K
 rw [if_pos rfl] at h
 rw [h]
 unfold JW
 rw [t]
 congr 1
 refine YL _ _ _ (fun c o=>?_)
 exact s7 k (fun j J=>(E c o j J).symm)
theorem LL:JW 1 ⟨#[97,98]⟩ 0=⟨#[97,98]⟩:=by decide +kernel
theorem u4 (z:aG) (w:World) (o:w.cell? ⟨2,0,aa⟩=ab (.iface 136 (.pointer (ab z)))) :
 au prog 19 #[] w fun e w'=>e=.returned (.bool true)/\ae w.heap.size w w':=by
 have h:=RO 1 1 ⟨#[97,98]⟩ z w (by decide) (by decide) (by decide) (by decide) o
 clear o
 go_enter func19,ntmps19
 go_wp2_with fail
 refine h.mono ?_
 rintro e d ⟨⟨g,t,rfl,f⟩,j⟩
 have y:d.cell? ⟨g,0,aa⟩=ab (.int .i64 0):=f.at_ (i:=0) (by decide)
 have A:d.cell? ⟨g,1,aa⟩=ab (.string ⟨#[97,98]⟩):=by
  have:=f.text (i:=0) (by decide)
  rw [show (fR 1 ⟨#[97,98]⟩ 0).2=⟨#[97,98]⟩ from LL] at this
  exact this
 have s:Hid (ae w.heap.size w d):=j
 clear f j h
 go_wp2
 go_ret
 exact ⟨rfl,s.out⟩
structure Qy (w:World) (B n k:Nat) (f:Nat->Int×ByteArray) (v:bb) (X:List Nat):Prop where
 own:w.ownsRow B 48 2 v X.length (Js (X.map f))
 nd:X.Nodup
 lt:∀ x ∈ X,x < n
 le:X.length<=k
theorem Qy.e9   (h:Qy w B n k f v X):∃ p c,v=.slice p X.length c/\fE w p (X.map f):=by
 have j:w.ownsRow B 48 2 v (X.map f).length (Js (X.map f)):=by rw [ac];exact h.own
 obtain ⟨p,c,d,o⟩:=nL j
 rw [ac] at d
 exact ⟨p,c,d,o⟩
theorem Qy.kept   {row:Option Nat} (h:Qy w B n k f v X) (j:w.grownBy w' row) (o:∀ g,row=ab g->g < B):Qy w' B n k f v X:=by
 refine ⟨bq h.own j ?_,h.nd,h.lt,h.le⟩
 cases d:v.ownBlock with
 | none=>exact Or.inl rfl
 | some g =>
  refine Or.inr (fun e=>?_)
  have:=aj h.own g d
  have:=o g e.symm
  omega
theorem Qy.snoc  {j:bb} {x:Nat} (h:Qy w B n k f v X) (t:x < n) (z:x ∉ X) (D:X.length < k) (A:w'.ownsRow B 48 2 j (X.length+1) (Js (X.map f) ++ [.int .i64 (f x).1,.string (f x).2])):Qy w' B n k f j (X ++ [x]):=by
 refine ⟨?_,?_,?_,by rw [aO,aJ];omega⟩
 ·rw [List.map_append,List.map_singleton,RY,aO,aJ]
  exact A
 ·rw [List.nodup_append]
  refine ⟨h.nd,by simp,?_⟩
  intro a o b s e
  rw [ak.1 s] at e
  exact z (by rw [<- e];exact o)
 ·intro y d
  rcases zb.1 d with d | d
  ·exact h.lt y d
  ·rw [ak.1 d];exact t
theorem JbN (k:Nat) (s:ByteArray) (Y:List Nat):Xo (Y.map (fR k s))=Y:=by
 unfold Xo
 rw [aR]
 conv=>rhs;rw [<- List.map_id Y]
 exact List.map_congr_left fun x _=>rfl
theorem V0 (k:Nat) (s:ByteArray) (h:Y.Nodup):((Y.map (fR k s)).map zc).Nodup:=by
 rw [aR]
 exact aA (R:=fun a b:Nat=>a≠b) _ (fun a b d e=>d (by have f:(a:Int)=(b:Int):=e;omega)) h
theorem k6  (d:Y.length=k) (h:Y.Nodup):Qg k (Y.map (fR k s)) (Y.map (fR k s)).length=Y.map (fR k s):=by
 rw [r7 (V0 k s h),aq (by rw [ac];omega)]
theorem pA  (d:Y.length=k) (h:Y.Nodup) (t:∀ x ∈ Y,x < n):l5 n k s.size (Y.map (fR k s)) where
 pK:=by
  rw [am]
  intro x f
  obtain ⟨i,j,rfl⟩:=aE.1 f
  have y:=t i j
  have o:=BM k s i
  have z:(fR k s i).2.size=Jk k s.size:=o
  have A:(fR k s i).1=(i:Int):=rfl
  unfold j4
  simp only [Bool.or_eq_true,decide_eq_true_eq,Bool.not_eq_true',decide_eq_false_iff_not]
  omega
 jS:=by rw [k6 d h,ac];exact d
theorem Jb2   (h:i < Y.length):Ji (Y.map (fR k s)) i=fR k s (Y[i]):=by
 rw [OC (by rw [ac];exact h),aD]
theorem k7  (d:1<=k) (y:n<=12) (f:k<=n) (j:Y.length=k) (h:Y.Nodup) (o:∀ x ∈ Y,x < n):gB k s.size (Y.map (fR k s))=s :=
 RT (n:=n) d (by omega) (by rw [ac];exact j) (by rw [JbN];exact h) (fun i t=>by
  rw [Jb2 (by omega)]
  exact ⟨o _ (List.getElem_mem _),rfl⟩) f
theorem o3  (j:1<=k) (o:n<=12) (d:k<=n):gB k s.size (Qg k (j1 n k s) (j1 n k s).length)=s:=by
 rw [Xi,r7 (z6 n _)]
 have f:(X5 n (JW k s)).take k=(av k).map (fR k s):=by
  unfold X5
  rw [<- List.map_take,List.take_range,Nat.min_eq_left d]
  rfl
 rw [f]
 exact k7 j o d (by simp) ap (fun x h=>by have:=ar.1 h;omega)
theorem o4 (n k:Nat) (s:ByteArray):(j1 n k s).any (hU k s)=false:=by
 rw [am]
 intro x d
 obtain ⟨i,_,rfl⟩:=aE.1 d
 unfold hU
 simp [fR]
theorem Jb3 (n k:Int) (s:ByteArray) (B:Option aG) (o D:Nat) (at_:Int) (z:aG) (w:World) (E:s.size<=aP) (G:o<=aP) (h:¬ (1<=k/\k<=n/\n<=12/\s.size<=100/\o<=40/\0<=at_/\at_ < n)) (t:w.cell? ⟨2,0,aa⟩=ab (.iface 136 (.pointer (ab z)))) :
 au prog 8 #[.int .i64 n,.int .i64 k,.string s,.slice B o D,.int .i64 at_] w fun e w'=>e=.returned (.bool true)/\ae w.heap.size w w':=by
 unfold aP at E G
 have d:=u4 z w t
 clear t
 have y:Hid (¬ (1<=k/\k<=n/\n<=12/\s.size<=100/\o<=40/\0<=at_/\at_ < n)):=h
 clear h
 by_cases H:k < 1
 ·go_enter func8,ntmps8
  go_wp2_with fail
  refine d.mono ?_
  rintro e j ⟨rfl,f⟩
  clear d
  go_wp2
  go_ret
  exact ⟨rfl,f⟩
 by_cases I:n < k
 ·go_enter func8,ntmps8
  go_wp2_with fail
  refine d.mono ?_
  rintro e j ⟨rfl,f⟩
  clear d
  go_wp2
  go_ret
  exact ⟨rfl,f⟩
 by_cases J:n > 12
 ·go_enter func8,ntmps8
  go_wp2_with fail
  refine d.mono ?_
  rintro e j ⟨rfl,f⟩
  clear d
  go_wp2
  go_ret
  exact ⟨rfl,f⟩
 by_cases K:100 < s.size
 ·go_enter func8,ntmps8
  go_wp2_with fail
  refine d.mono ?_
  rintro e j ⟨rfl,f⟩
  clear d
  go_wp2
  go_ret
  exact ⟨rfl,f⟩
 by_cases L:40 < o
 ·go_enter func8,ntmps8
  go_wp2_with fail
  refine d.mono ?_
  rintro e j ⟨rfl,f⟩
  clear d
  go_wp2
  go_ret
  exact ⟨rfl,f⟩
 by_cases M:at_ < 0
 ·go_enter func8,ntmps8
  go_wp2_with fail
  refine d.mono ?_
  rintro e j ⟨rfl,f⟩
  clear d
  go_wp2
  go_ret
  exact ⟨rfl,f⟩
 have A:n<=at_:=Classical.byContradiction fun A=>y.out ⟨by omega,by omega,by omega,by omega,by omega,by omega,by omega⟩
 go_enter func8,ntmps8
 go_wp2_with fail
 refine d.mono ?_
 rintro e j ⟨rfl,f⟩
 clear d
 go_wp2
 go_ret
 exact ⟨rfl,f⟩
theorem Jcs (n k:Nat) (s:ByteArray) (pp:Option aG) (l:List Int) (m6 a:Nat) (z:aG) (w:World) (M:1<=k) (I:k<=n) (N:n<=12) (hs:s.size<=100) (hl:l.length<=40) (a6:a < n) (hp:hZ w pp l) (l7:∀ i,-9223372036854775808<=l.getD i 0/\l.getD i 0 < 9223372036854775808)
 (hz:w.cell? ⟨2,0,aa⟩=ab (.iface 136 (.pointer (ab z)))) :
 au prog 8 #[.int .i64 (n:Int),.int .i64 (k:Int),.string s,.slice pp l.length m6,.int .i64 (a:Int)] w fun e w'=>e=.returned (.bool true)/\ae w.heap.size w w':=by
 obtain ⟨i1,h6,h7,h8,h9⟩:=info_parts vH
 obtain ⟨ib,j0,j3,j5,j6⟩:=info_parts Jcm
 have HU:=u4 z w hz
 have HZ:Hid (w.cell? ⟨2,0,aa⟩=ab (.iface 136 (.pointer (ab z)))):=hz
 have j8:Hid (hZ w pp l):=hp
 have l8:Hid (∀ i,-9223372036854775808<=l.getD i 0/\l.getD i 0 < 9223372036854775808):=l7
 have g1:decide ((k:Int) < 1)=false:=decide_eq_false (by omega)
 have g2:decide (n < k)=false:=decide_eq_false (by omega)
 have g3:decide (12 < (n:Int))=false:=decide_eq_false (by omega)
 have g4:decide (100 < (s.size:Int))=false:=decide_eq_false (by omega)
 have g5:decide (40 < (l.length:Int))=false:=decide_eq_false (by omega)
 have g6:decide ((a:Int) < 0)=false:=decide_eq_false (by omega)
 have g7:decide (n<=a)=false:=decide_eq_false (by omega)
 clear hz hp l7
 go_enter func8,ntmps8
 go_wp2_with fail
 refine HU.mono ?_
 rintro e w1 ⟨rfl,i0⟩
 have i2:Hid (ae w.heap.size w w1):=i0
 have k3:=RO n k s z w1 M I N (by omega) ((i0.cell (p:=⟨2,0,aa⟩) (Qf HZ.out)).trans HZ.out)
 clear i0 HU
 go_wp2_with fail
 refine k3.mono ?_
 rintro e d ⟨⟨g,hg,rfl,hr⟩,k8⟩
 have d6:Hid (ae w.heap.size w d):=i2.out.trans (k8.mono i2.out.size)
 have h3:w.heap.size<=d.heap.size:=d6.out.size
 have d3:Hid (ZE d g n (fR k s)):=hr
 have m7:g < d.heap.size:=World.rowIs.lt hr
 have l9:Hid (hZ d pp l):=j8.out.below d6.out
 have d5:Hid (d.cell? ⟨2,0,aa⟩=ab (.iface 136 (.pointer (ab z)))):=(d6.out.cell (p:=⟨2,0,aa⟩) (Qf HZ.out)).trans HZ.out
 clear k8 hr hg k3 i2 j8 HZ
 go_wp2_with (first | (at_make;refine wpList_make_row _ rfl (.tmp 73) (.tmp 73) 36 rfl 4 ib (.bool false) underlying36 j0 j3 j5 rfl .i64 .i64 n rfl rfl (by rw [j6];omega) (by omega) ?_))
 obtain ⟨w3,f2⟩:∃ w3,w3=d.alloc (.cells (madeCells #[.bool false] n) 4):=⟨_,rfl⟩
 rw [<- f2]
 have k9:Hid (Qo w3 4 d.heap.size d.heap.size n (fun _=>.bool false)):=by
  show Qo _ _ _ _ _ _
  rw [f2]
  exact Qo.made d 4 (.bool false) d.heap.size n (af _) (by omega)
 have l0:Hid (ae d.heap.size d w3):=by
  show ae _ _ _
  rw [f2]
  exact (ag _ _).alloc (af _) _
 have m0:d.heap.size+1<=w3.heap.size:=by rw [f2];simp
 clear f2 j0 j3 j5 j6
 go_loopw [14,16] (fun v x wr=>∃ (i:Nat) (X:List Nat),i<=l.length/\x=.int .i64 i/\Qy wr (d.heap.size+1) n k (fR k s) v X/\Qo wr 4 d.heap.size d.heap.size n (fun y=>.bool (decide (y ∈ X)))/\ae d.heap.size d wr/\d.heap.size+1<=wr.heap.size) (fun _ x _=>l.length - (intOf x).toNat)
 case atStart=>exact ⟨0,[],by omega,rfl,⟨World.ownsRow_nil _ _ _ _,List.nodup_nil,fun x hx=>by simp at hx,Nat.zero_le _⟩,k9.out.congr (fun i _=>by simp),l0.out,m0⟩
 case round =>
  obtain ⟨i,X,hi,rfl,hP,hE,hB,f3⟩:=hrel
  obtain ⟨O,rfl⟩:∃ O,O=wr:=⟨_,rfl⟩
  obtain ⟨pX,cX,rfl,_⟩:=hP.e9
  have HP:Hid (Qy O (d.heap.size+1) n k (fR k s) (.slice pX X.length cX) X):=hP
  have HE:Hid (Qo O 4 d.heap.size d.heap.size n (fun y=>.bool (decide (y ∈ X)))):=hE
  have HB:Hid (ae d.heap.size d O):=hB
  have m8:X.length<=k:=hP.le
  clear hP hE hB k9 l0
  by_cases i3:i < l.length
  ·by_cases m1:X.length < k
   ·rcases l9.out with h0 | ⟨bp,op,m2,m3,l1⟩
    ·rw [h0] at i3;simp at i3
    subst m2
    have cp:O.cell? ⟨bp,op+i,aa⟩=ab (.int .i64 (l.getD i 0)):=(HB.out.cell (p:=⟨bp,op+i,aa⟩) m3).trans (l1 i i3)
    have lw:=l8.out i
    clear l1
    generalize G:l.getD i 0=y at cp lw
    clear G
    by_cases f4:0<=y/\y < n
    ·obtain ⟨x,rfl⟩:=al f4.1
     have h4:x < n:=by omega
     have cu:=HE.out.cell x h4
     have fu:O.frozen? ⟨d.heap.size,x,aa⟩=false:=HE.out.free x
     clear f4
     by_cases f5:x ∈ X
     ·rw [decide_eq_true f5] at cu
      clear f5
      go_wp2
      go_roundw
      case rel=>exact ⟨i+1,X,by omega,by go_num,HP.out,HE.out,HB.out,f3⟩
      case measure=>simp [intOf];omega
     ·rw [decide_eq_false f5] at cu
      have HX:Hid (x ∉ X):=f5
      clear f5
      have gS:O.grownBy (O.setCell ⟨d.heap.size,x,aa⟩ (.bool true)) (ab d.heap.size):=Z8 _ _ _ _
      have h5:Hid (Qy (O.setCell ⟨d.heap.size,x,aa⟩ (.bool true)) (d.heap.size+1) n k (fR k s) (.slice pX X.length cX) X):=HP.out.kept gS (fun g hg=>by have:=Option.some.inj hg;omega)
      have m4:Hid (Qo (O.setCell ⟨d.heap.size,x,aa⟩ (.bool true)) 4 d.heap.size d.heap.size n (fun y=>.bool (decide (y ∈ X ++ [x])))):=(HE.out.set x (.bool true)).congr (fun y _=>by
       by_cases e:y=x
       ·simp [e]
       ·simp [e])
      have i4:Hid (ae d.heap.size d (O.setCell ⟨d.heap.size,x,aa⟩ (.bool true))):=HB.out.setCell (p:=⟨d.heap.size,x,aa⟩) (af _) _
      have m9:d.heap.size+1<=(O.setCell ⟨d.heap.size,x,aa⟩ (.bool true)).heap.size:=by have:=gS.size;omega
      have n1:(O.setCell ⟨d.heap.size,x,aa⟩ (.bool true)).cell? ⟨bp,op+i,aa⟩=ab (.int .i64 (x:Int)):=gS.cell cp (by show ab bp≠_;intro e;have:=Option.some.inj e;omega)
      have l2:(O.setCell ⟨d.heap.size,x,aa⟩ (.bool true)).cell? ⟨g,x*2,aa⟩=ab (.int .i64 (x:Int)):=(d3.out.below i4.out).at_ h4
      have l3:(O.setCell ⟨d.heap.size,x,aa⟩ (.bool true)).cell? ⟨g,x*2+1,aa⟩=ab (.string (JW k s x)):=(d3.out.below i4.out).text h4
      have l6:(O.setCell ⟨d.heap.size,x,aa⟩ (.bool true)).heap.size=O.heap.size:=by simp [World.setCell]
      clear gS
      go_wp2_with (first | (at_builtin;refine aB _ rfl (.tmp 116) (.tmp 124) 41 rfl (d.heap.size+1) 48 i1 (.agg #[.int .i64 0,.string ⟨#[]⟩]) 2 24 underlying41 h6 h7 h8 h9 rfl (by decide) (.slice pX X.length cX) X.length (Js (X.map (fR k s))) rfl (aw h5.out.own _) ⟨O.heap.size,0,aa⟩ 1 1 [.int .i64 (x:Int),.string (JW k s x)] rfl rfl (fun j u H=>by match j,H with | 0,H=>(simp at H;subst H;rw [Addr.add_lit,za _ _ _ _ l6.symm];rfl) | 1,H=>(simp at H;subst H;rw [Addr.add_lit,za _ _ _ _ l6.symm];rfl)) (fun u hu=>by simp at hu;rcases hu with rfl | rfl <;> rfl) (by unfold aP;omega) (by omega) (by simp;omega) ?_;intro v' f f6 a7 _))
      have f7:=h5.out.snoc h4 HX.out m1 f6
      have f8:=m4.out.kept (w':=f) (QL (ah _ _ _) a7) (fun e=>by have:=aj h5.out.own _ e;omega)
      have f9:ae d.heap.size d f:=i4.out.grown (QL (ah _ _ _) a7) (by omega) (fun g hg=>by have:=aj h5.out.own _ hg;omega)
      have g0:=a7.size
      go_roundw
      case rel=>exact ⟨i+1,X ++ [x],by omega,by go_num,f7,f8,f9,by simp at g0;omega⟩
      case measure=>simp [intOf];omega
    ·by_cases h0:0<=y
     ·have h1:¬ y < n:=fun h1=>f4 ⟨h0,h1⟩
      clear f4
      go_wp2
      go_roundw
      case rel=>exact ⟨i+1,X,by omega,by go_num,HP.out,HE.out,HB.out,f3⟩
      case measure=>simp [intOf];omega
     ·clear f4
      go_wp2
      go_roundw
      case rel=>exact ⟨i+1,X,by omega,by go_num,HP.out,HE.out,HB.out,f3⟩
      case measure=>simp [intOf];omega
   ·go_wp2
    go_loopw [14,17] (fun v x wr=>∃ (j:Nat) (Y:List Nat),j<=n/\x=.int .i64 j/\Qy wr (d.heap.size+1) n k (fR k s) v Y/\(∀ y,y ∈ X->y ∈ Y)/\(∀ y,y ∈ Y->y ∈ X∨y < j)/\(∀ y,y < j->y ∈ Y)/\Qo wr 4 d.heap.size d.heap.size n (fun y=>.bool (decide (y ∈ X)))/\ae d.heap.size d wr/\d.heap.size+1<=wr.heap.size) (fun _ x _=>n - (intOf x).toNat)
    case atStart=>exact ⟨0,X,by omega,rfl,HP.out,fun _ h=>h,fun _ h=>Or.inl h,fun y G=>absurd G (zh _),HE.out,HB.out,f3⟩
    case round =>
     obtain ⟨j,Y,H,rfl,hP,g8,g9,h2,hE,hB,i5⟩:=hrel
     obtain ⟨t,rfl⟩:∃ t,t=wr:=⟨_,rfl⟩
     obtain ⟨T,cY,rfl,_⟩:=hP.e9
     have A:Hid (Qy t (d.heap.size+1) n k (fR k s) (.slice T Y.length cY) Y):=hP
     have d7:Hid (∀ y,y ∈ X->y ∈ Y):=g8
     have d8:Hid (∀ y,y ∈ Y->y ∈ X∨y < j):=g9
     have d9:Hid (∀ y,y < j->y ∈ Y):=h2
     have a8:Hid (Qo t 4 d.heap.size d.heap.size n (fun y=>.bool (decide (y ∈ X)))):=hE
     have L:Hid (ae d.heap.size d t):=hB
     have m5:Y.length<=k:=hP.le
     clear hP g8 g9 h2 hE hB HP HE HB
     by_cases d4:j < n
     ·by_cases i7:Y.length < k
      ·have cu:=a8.out.cell j d4
       have l2:t.cell? ⟨g,j*2,aa⟩=ab (.int .i64 (j:Int)):=(d3.out.below L.out).at_ d4
       have l3:t.cell? ⟨g,j*2+1,aa⟩=ab (.string (JW k s j)):=(d3.out.below L.out).text d4
       by_cases a5:j ∈ X
       ·rw [decide_eq_true a5] at cu
        have HJ:Hid (j ∈ X):=a5
        clear a5
        go_wp2
        go_roundw
        case rel =>
         refine ⟨j+1,Y,by omega,by go_num,A.out,d7.out,fun y G=>?_,fun y G=>?_,a8.out,L.out,i5⟩
         ·rcases d8.out y G with h | h
          ·exact Or.inl h
          ·exact Or.inr (by omega)
         ·by_cases e:y=j
          ·rw [e];exact d7.out j HJ.out
          ·exact d9.out y (by omega)
        case measure=>simp [intOf];omega
       ·rw [decide_eq_false a5] at cu
        have HJ:Hid (j ∉ Y):=fun h=>by
         rcases d8.out j h with h' | h'
         ·exact a5 h'
         ·exact absurd h' (be _)
        clear a5
        go_wp2_with (first | (at_builtin;refine aB _ rfl (.tmp 142) (.tmp 147) 41 rfl (d.heap.size+1) 48 i1 (.agg #[.int .i64 0,.string ⟨#[]⟩]) 2 24 underlying41 h6 h7 h8 h9 rfl (by decide) (.slice T Y.length cY) Y.length (Js (Y.map (fR k s))) rfl (aw A.out.own _) ⟨t.heap.size,0,aa⟩ 1 1 [.int .i64 (j:Int),.string (JW k s j)] rfl rfl (fun j u H=>by match j,H with | 0,H=>(simp at H;subst H;simp [Addr.add]) | 1,H=>(simp at H;subst H;simp [Addr.add])) (fun u hu=>by simp at hu;rcases hu with rfl | rfl <;> rfl) (by unfold aP;omega) (by omega) (by simp;omega) ?_;intro v' f f6 a7 _))
        have f7:=A.out.snoc d4 HJ.out i7 f6
        have f8:=a8.out.kept (w':=f) (QL (ah _ _ _) a7) (fun e=>by have:=aj A.out.own _ e;omega)
        have f9:ae d.heap.size d f:=L.out.grown (QL (ah _ _ _) a7) (by omega) (fun g hg=>by have:=aj A.out.own _ hg;omega)
        have g0:=a7.size
        go_roundw
        case rel =>
         refine ⟨j+1,Y ++ [j],by omega,by go_num,f7,fun y G=>an _ (d7.out y G),fun y G=>?_,fun y G=>?_,f8,f9,by simp at g0;omega⟩
         ·rcases zb.1 G with h | h
          ·rcases d8.out y h with h | h
           ·exact Or.inl h
           ·exact Or.inr (by omega)
          ·exact Or.inr (by rw [ak.1 h];omega)
         ·by_cases e:y=j
          ·rw [e];exact aI _ (ak.2 rfl)
          ·exact an _ (d9.out y (by omega))
        case measure=>simp [intOf];omega
      ·have Q:Hid (Y.length=k):=by show _=_;omega
       obtain ⟨p9,c9,e4,U⟩:=A.out.e9
       injection e4 with e1 e2 e3
       subst e1 e3
       clear e2
       have V:t.cell? ⟨2,0,aa⟩=ab (.iface 136 (.pointer (ab z))):=(L.out.cell (p:=⟨2,0,aa⟩) (Qf d5.out)).trans d5.out
       have a9:Hid (l5 n k s.size (Y.map (fR k s))):=pA Q.out A.out.nd A.out.lt
       have b1:Hid (Qg k (Y.map (fR k s)) (Y.map (fR k s)).length=Y.map (fR k s)):=k6 Q.out A.out.nd
       have b2:Hid (gB k s.size (Y.map (fR k s))=s):=k7 M N I Q.out A.out.nd A.out.lt
       have i8:Y.length<=12:=by rw [Q.out];omega
       have Z:=LJ n k s.size T (Y.map (fR k s)) cY z t M I N (by omega) (by rw [ac];omega) a9.out U V
       rw [b1.out,b2.out,ac] at Z
       have e5:Hid (fE t T (Y.map (fR k s))):=U
       have J:Hid (t.cell? ⟨2,0,aa⟩=ab (.iface 136 (.pointer (ab z)))):=V
       have a0:Hid (ae w.heap.size w t):=d6.out.trans (L.out.mono h3)
       have b3:Hid (ZE t g n (fR k s)):=d3.out.below L.out
       clear U V a8 A
       go_wp2_with fail
       refine Z.mono ?_
       rintro e B ⟨rfl,D⟩
       have a1:=n4 n k s.size a T (Y.map (fR k s)) cY z B M I N (by omega) (by rw [ac];omega) a6 a9.out (e5.out.below D) ((D.cell (p:=⟨2,0,aa⟩) (Qf J.out)).trans J.out)
       rw [b1.out,b2.out,ac] at a1
       have b4:Hid (ae w.heap.size w B):=a0.out.trans (D.mono a0.out.size)
       have b5:Hid (B.cell? ⟨2,0,aa⟩=ab (.iface 136 (.pointer (ab z)))):=(D.cell (p:=⟨2,0,aa⟩) (Qf J.out)).trans J.out
       have b6:Hid (ZE B g n (fR k s)):=b3.out.below D
       clear Z D J a0 b3
       go_wp2_with fail
       refine a1.mono ?_
       rintro e f ⟨rfl,a2⟩
       obtain ⟨o,E⟩:∃ o,o=f.alloc (.cells #[.int .i64 (a:Int),.string (JW k s a)] 48):=⟨_,rfl⟩
       have b7:ae f.heap.size f o:=by rw [E];exact (ag _ _).alloc (af _) _
       have b8:f.heap.size < o.heap.size:=by rw [E];simp
       have x1:o.cell? ⟨f.heap.size,0,aa⟩=ab (.int .i64 (a:Int)):=by rw [E,za _ _ _ _ rfl];rfl
       have x2:o.cell? ⟨f.heap.size,1,aa⟩=ab (.string (JW k s a)):=by rw [E,za _ _ _ _ rfl];rfl
       have K:ae B.heap.size B o:=a2.trans (b7.mono a2.size)
       have a3:=o0 n k s.size (ab ⟨g,0,aa⟩) (j1 n k s) n z o M I N (by omega) (by rw [Xi,Zm];omega) (by rw [Xi];exact o7 I (fun i _=>BM k s i)) (b6.out.below K).e9 ((K.cell (p:=⟨2,0,aa⟩) (Qf b5.out)).trans b5.out)
       rw [o3 M N I,o4,Xi,Zm] at a3
       have f0:Hid (o=f.alloc (.cells #[.int .i64 (a:Int),.string (JW k s a)] 48)):=E
       have d0:Hid (ae w.heap.size w o):=b4.out.trans (K.mono b4.out.size)
       have d1:Hid (ZE o g n (fR k s)):=b6.out.below K
       have d2:Hid (∀ W,ae o.heap.size o W->W.cell? ⟨f.heap.size,0,aa⟩=ab (.int .i64 (a:Int))/\W.cell? ⟨f.heap.size,1,aa⟩=ab (.string (JW k s a))/\W.cell? ⟨g,a*2,aa⟩=ab (.int .i64 (a:Int))/\W.cell? ⟨g,a*2+1,aa⟩=ab (.string (JW k s a))):=fun W S=>⟨(S.cell (p:=⟨f.heap.size,0,aa⟩) b8).trans x1,(S.cell (p:=⟨f.heap.size,1,aa⟩) b8).trans x2,(d1.out.below S).at_ a6,(d1.out.below S).text a6⟩
       clear a1 a2 E b7 x1 x2 K
       go_wp2_with fail
       rw [<- f0.out]
       refine a3.mono ?_
       rintro e w9 ⟨rfl,a4⟩
       obtain ⟨y1,y2,y3,y4⟩:=d2.out w9 a4
       have f1:Hid (ae w.heap.size w w9):=d0.out.trans (a4.mono d0.out.size)
       clear a3 a4 d2
       generalize JW k s a=ta at y2 y4
       go_wp2
       go_quiet (fail)
       go_wp2
       go_ret
       exact ⟨rfl,ao f1.out _⟩
     ·have Q : Hid (Y.length = k) := by
       show _=_
       have i9:=X3 (av n) Y ap (fun y G=>d9.out y (by have:=ar.1 G;omega))
       rw [aS] at i9
       omega
      obtain ⟨p9,c9,e4,U⟩:=A.out.e9
      injection e4 with e1 e2 e3
      subst e1 e3
      clear e2
      have V:t.cell? ⟨2,0,aa⟩=ab (.iface 136 (.pointer (ab z))):=(L.out.cell (p:=⟨2,0,aa⟩) (Qf d5.out)).trans d5.out
      have a9:Hid (l5 n k s.size (Y.map (fR k s))):=pA Q.out A.out.nd A.out.lt
      have b1:Hid (Qg k (Y.map (fR k s)) (Y.map (fR k s)).length=Y.map (fR k s)):=k6 Q.out A.out.nd
      have b2:Hid (gB k s.size (Y.map (fR k s))=s):=k7 M N I Q.out A.out.nd A.out.lt
      have i8:Y.length<=12:=by rw [Q.out];omega
      have Z:=LJ n k s.size T (Y.map (fR k s)) cY z t M I N (by omega) (by rw [ac];omega) a9.out U V
      rw [b1.out,b2.out,ac] at Z
      have e5:Hid (fE t T (Y.map (fR k s))):=U
      have J:Hid (t.cell? ⟨2,0,aa⟩=ab (.iface 136 (.pointer (ab z)))):=V
      have a0:Hid (ae w.heap.size w t):=d6.out.trans (L.out.mono h3)
      have b3:Hid (ZE t g n (fR k s)):=d3.out.below L.out
      clear U V a8 A
      go_wp2_with fail
      refine Z.mono ?_
      rintro e B ⟨rfl,D⟩
      have a1:=n4 n k s.size a T (Y.map (fR k s)) cY z B M I N (by omega) (by rw [ac];omega) a6 a9.out (e5.out.below D) ((D.cell (p:=⟨2,0,aa⟩) (Qf J.out)).trans J.out)
      rw [b1.out,b2.out,ac] at a1
      have b4:Hid (ae w.heap.size w B):=a0.out.trans (D.mono a0.out.size)
      have b5:Hid (B.cell? ⟨2,0,aa⟩=ab (.iface 136 (.pointer (ab z)))):=(D.cell (p:=⟨2,0,aa⟩) (Qf J.out)).trans J.out
      have b6:Hid (ZE B g n (fR k s)):=b3.out.below D
      clear Z D J a0 b3
      go_wp2_with fail
      refine a1.mono ?_
      rintro e f ⟨rfl,a2⟩
      obtain ⟨o,E⟩:∃ o,o=f.alloc (.cells #[.int .i64 (a:Int),.string (JW k s a)] 48):=⟨_,rfl⟩
      have b7:ae f.heap.size f o:=by rw [E];exact (ag _ _).alloc (af _) _
      have b8:f.heap.size < o.heap.size:=by rw [E];simp
      have x1:o.cell? ⟨f.heap.size,0,aa⟩=ab (.int .i64 (a:Int)):=by rw [E,za _ _ _ _ rfl];rfl
      have x2:o.cell? ⟨f.heap.size,1,aa⟩=ab (.string (JW k s a)):=by rw [E,za _ _ _ _ rfl];rfl
      have K:ae B.heap.size B o:=a2.trans (b7.mono a2.size)
      have a3:=o0 n k s.size (ab ⟨g,0,aa⟩) (j1 n k s) n z o M I N (by omega) (by rw [Xi,Zm];omega) (by rw [Xi];exact o7 I (fun i _=>BM k s i)) (b6.out.below K).e9 ((K.cell (p:=⟨2,0,aa⟩) (Qf b5.out)).trans b5.out)
      rw [o3 M N I,o4,Xi,Zm] at a3
      have f0:Hid (o=f.alloc (.cells #[.int .i64 (a:Int),.string (JW k s a)] 48)):=E
      have d0:Hid (ae w.heap.size w o):=b4.out.trans (K.mono b4.out.size)
      have d1:Hid (ZE o g n (fR k s)):=b6.out.below K
      have d2:Hid (∀ W,ae o.heap.size o W->W.cell? ⟨f.heap.size,0,aa⟩=ab (.int .i64 (a:Int))/\W.cell? ⟨f.heap.size,1,aa⟩=ab (.string (JW k s a))/\W.cell? ⟨g,a*2,aa⟩=ab (.int .i64 (a:Int))/\W.cell? ⟨g,a*2+1,aa⟩=ab (.string (JW k s a))):=fun W S=>⟨(S.cell (p:=⟨f.heap.size,0,aa⟩) b8).trans x1,(S.cell (p:=⟨f.heap.size,1,aa⟩) b8).trans x2,(d1.out.below S).at_ a6,(d1.out.below S).text a6⟩
      clear a1 a2 E b7 x1 x2 K
      go_wp2_with fail
      rw [<- f0.out]
      refine a3.mono ?_
      rintro e w9 ⟨rfl,a4⟩
      obtain ⟨y1,y2,y3,y4⟩:=d2.out w9 a4
      have f1:Hid (ae w.heap.size w w9):=d0.out.trans (a4.mono d0.out.size)
      clear a3 a4 d2
      generalize JW k s a=ta at y2 y4
      go_wp2
      go_quiet (fail)
      go_wp2
      go_ret
      exact ⟨rfl,ao f1.out _⟩
  ·go_wp2
   go_loopw [14,17] (fun v x wr=>∃ (j:Nat) (Y:List Nat),j<=n/\x=.int .i64 j/\Qy wr (d.heap.size+1) n k (fR k s) v Y/\(∀ y,y ∈ X->y ∈ Y)/\(∀ y,y ∈ Y->y ∈ X∨y < j)/\(∀ y,y < j->y ∈ Y)/\Qo wr 4 d.heap.size d.heap.size n (fun y=>.bool (decide (y ∈ X)))/\ae d.heap.size d wr/\d.heap.size+1<=wr.heap.size) (fun _ x _=>n - (intOf x).toNat)
   case atStart=>exact ⟨0,X,by omega,rfl,HP.out,fun _ h=>h,fun _ h=>Or.inl h,fun y G=>absurd G (zh _),HE.out,HB.out,f3⟩
   case round =>
    obtain ⟨j,Y,H,rfl,hP,g8,g9,h2,hE,hB,i5⟩:=hrel
    obtain ⟨t,rfl⟩:∃ t,t=wr:=⟨_,rfl⟩
    obtain ⟨T,cY,rfl,_⟩:=hP.e9
    have A:Hid (Qy t (d.heap.size+1) n k (fR k s) (.slice T Y.length cY) Y):=hP
    have d7:Hid (∀ y,y ∈ X->y ∈ Y):=g8
    have d8:Hid (∀ y,y ∈ Y->y ∈ X∨y < j):=g9
    have d9:Hid (∀ y,y < j->y ∈ Y):=h2
    have a8:Hid (Qo t 4 d.heap.size d.heap.size n (fun y=>.bool (decide (y ∈ X)))):=hE
    have L:Hid (ae d.heap.size d t):=hB
    have m5:Y.length<=k:=hP.le
    clear hP g8 g9 h2 hE hB HP HE HB
    by_cases d4:j < n
    ·by_cases i7:Y.length < k
     ·have cu:=a8.out.cell j d4
      have l2:t.cell? ⟨g,j*2,aa⟩=ab (.int .i64 (j:Int)):=(d3.out.below L.out).at_ d4
      have l3:t.cell? ⟨g,j*2+1,aa⟩=ab (.string (JW k s j)):=(d3.out.below L.out).text d4
      by_cases a5:j ∈ X
      ·rw [decide_eq_true a5] at cu
       have HJ:Hid (j ∈ X):=a5
       clear a5
       go_wp2
       go_roundw
       case rel =>
        refine ⟨j+1,Y,by omega,by go_num,A.out,d7.out,fun y G=>?_,fun y G=>?_,a8.out,L.out,i5⟩
        ·rcases d8.out y G with h | h
         ·exact Or.inl h
         ·exact Or.inr (by omega)
        ·by_cases e:y=j
         ·rw [e];exact d7.out j HJ.out
         ·exact d9.out y (by omega)
       case measure=>simp [intOf];omega
      ·rw [decide_eq_false a5] at cu
       have HJ:Hid (j ∉ Y):=fun h=>by
        rcases d8.out j h with h' | h'
        ·exact a5 h'
        ·exact absurd h' (be _)
       clear a5
       go_wp2_with (first | (at_builtin;refine aB _ rfl (.tmp 142) (.tmp 147) 41 rfl (d.heap.size+1) 48 i1 (.agg #[.int .i64 0,.string ⟨#[]⟩]) 2 24 underlying41 h6 h7 h8 h9 rfl (by decide) (.slice T Y.length cY) Y.length (Js (Y.map (fR k s))) rfl (aw A.out.own _) ⟨t.heap.size,0,aa⟩ 1 1 [.int .i64 (j:Int),.string (JW k s j)] rfl rfl (fun j u H=>by match j,H with | 0,H=>(simp at H;subst H;simp [Addr.add]) | 1,H=>(simp at H;subst H;simp [Addr.add])) (fun u hu=>by simp at hu;rcases hu with rfl | rfl <;> rfl) (by unfold aP;omega) (by omega) (by simp;omega) ?_;intro v' f f6 a7 _))
       have f7:=A.out.snoc d4 HJ.out i7 f6
       have f8:=a8.out.kept (w':=f) (QL (ah _ _ _) a7) (fun e=>by have:=aj A.out.own _ e;omega)
       have f9:ae d.heap.size d f:=L.out.grown (QL (ah _ _ _) a7) (by omega) (fun g hg=>by have:=aj A.out.own _ hg;omega)
       have g0:=a7.size
       go_roundw
       case rel =>
        refine ⟨j+1,Y ++ [j],by omega,by go_num,f7,fun y G=>an _ (d7.out y G),fun y G=>?_,fun y G=>?_,f8,f9,by simp at g0;omega⟩
        ·rcases zb.1 G with h | h
         ·rcases d8.out y h with h | h
          ·exact Or.inl h
          ·exact Or.inr (by omega)
         ·exact Or.inr (by rw [ak.1 h];omega)
        ·by_cases e:y=j
         ·rw [e];exact aI _ (ak.2 rfl)
         ·exact an _ (d9.out y (by omega))
       case measure=>simp [intOf];omega
     ·have Q:Hid (Y.length=k):=by show _=_;omega
      obtain ⟨p9,c9,e4,U⟩:=A.out.e9
      injection e4 with e1 e2 e3
      subst e1 e3
      clear e2
      have V:t.cell? ⟨2,0,aa⟩=ab (.iface 136 (.pointer (ab z))):=(L.out.cell (p:=⟨2,0,aa⟩) (Qf d5.out)).trans d5.out
      have a9:Hid (l5 n k s.size (Y.map (fR k s))):=pA Q.out A.out.nd A.out.lt
      have b1:Hid (Qg k (Y.map (fR k s)) (Y.map (fR k s)).length=Y.map (fR k s)):=k6 Q.out A.out.nd
      have b2:Hid (gB k s.size (Y.map (fR k s))=s):=k7 M N I Q.out A.out.nd A.out.lt
      have i8:Y.length<=12:=by rw [Q.out];omega
      have Z:=LJ n k s.size T (Y.map (fR k s)) cY z t M I N (by omega) (by rw [ac];omega) a9.out U V
      rw [b1.out,b2.out,ac] at Z
      have e5:Hid (fE t T (Y.map (fR k s))):=U
      have J:Hid (t.cell? ⟨2,0,aa⟩=ab (.iface 136 (.pointer (ab z)))):=V
      have a0:Hid (ae w.heap.size w t):=d6.out.trans (L.out.mono h3)
      have b3:Hid (ZE t g n (fR k s)):=d3.out.below L.out
      clear U V a8 A
      go_wp2_with fail
      refine Z.mono ?_
      rintro e B ⟨rfl,D⟩
      have a1:=n4 n k s.size a T (Y.map (fR k s)) cY z B M I N (by omega) (by rw [ac];omega) a6 a9.out (e5.out.below D) ((D.cell (p:=⟨2,0,aa⟩) (Qf J.out)).trans J.out)
      rw [b1.out,b2.out,ac] at a1
      have b4:Hid (ae w.heap.size w B):=a0.out.trans (D.mono a0.out.size)
      have b5:Hid (B.cell? ⟨2,0,aa⟩=ab (.iface 136 (.pointer (ab z)))):=(D.cell (p:=⟨2,0,aa⟩) (Qf J.out)).trans J.out
      have b6:Hid (ZE B g n (fR k s)):=b3.out.below D
      clear Z D J a0 b3
      go_wp2_with fail
      refine a1.mono ?_
      rintro e f ⟨rfl,a2⟩
      obtain ⟨o,E⟩:∃ o,o=f.alloc (.cells #[.int .i64 (a:Int),.string (JW k s a)] 48):=⟨_,rfl⟩
      have b7:ae f.heap.size f o:=by rw [E];exact (ag _ _).alloc (af _) _
      have b8:f.heap.size < o.heap.size:=by rw [E];simp
      have x1:o.cell? ⟨f.heap.size,0,aa⟩=ab (.int .i64 (a:Int)):=by rw [E,za _ _ _ _ rfl];rfl
      have x2:o.cell? ⟨f.heap.size,1,aa⟩=ab (.string (JW k s a)):=by rw [E,za _ _ _ _ rfl];rfl
      have K:ae B.heap.size B o:=a2.trans (b7.mono a2.size)
      have a3:=o0 n k s.size (ab ⟨g,0,aa⟩) (j1 n k s) n z o M I N (by omega) (by rw [Xi,Zm];omega) (by rw [Xi];exact o7 I (fun i _=>BM k s i)) (b6.out.below K).e9 ((K.cell (p:=⟨2,0,aa⟩) (Qf b5.out)).trans b5.out)
      rw [o3 M N I,o4,Xi,Zm] at a3
      have f0:Hid (o=f.alloc (.cells #[.int .i64 (a:Int),.string (JW k s a)] 48)):=E
      have d0:Hid (ae w.heap.size w o):=b4.out.trans (K.mono b4.out.size)
      have d1:Hid (ZE o g n (fR k s)):=b6.out.below K
      have d2:Hid (∀ W,ae o.heap.size o W->W.cell? ⟨f.heap.size,0,aa⟩=ab (.int .i64 (a:Int))/\W.cell? ⟨f.heap.size,1,aa⟩=ab (.string (JW k s a))/\W.cell? ⟨g,a*2,aa⟩=ab (.int .i64 (a:Int))/\W.cell? ⟨g,a*2+1,aa⟩=ab (.string (JW k s a))):=fun W S=>⟨(S.cell (p:=⟨f.heap.size,0,aa⟩) b8).trans x1,(S.cell (p:=⟨f.heap.size,1,aa⟩) b8).trans x2,(d1.out.below S).at_ a6,(d1.out.below S).text a6⟩
      clear a1 a2 E b7 x1 x2 K
      go_wp2_with fail
      rw [<- f0.out]
      refine a3.mono ?_
      rintro e w9 ⟨rfl,a4⟩
      obtain ⟨y1,y2,y3,y4⟩:=d2.out w9 a4
      have f1:Hid (ae w.heap.size w w9):=d0.out.trans (a4.mono d0.out.size)
      clear a3 a4 d2
      generalize JW k s a=ta at y2 y4
      go_wp2
      go_quiet (fail)
      go_wp2
      go_ret
      exact ⟨rfl,ao f1.out _⟩
    ·have Q : Hid (Y.length = k) := by
      show _=_
      have i9:=X3 (av n) Y ap (fun y G=>d9.out y (by have:=ar.1 G;omega))
      rw [aS] at i9
      omega
     obtain ⟨p9,c9,e4,U⟩:=A.out.e9
     injection e4 with e1 e2 e3
     subst e1 e3
     clear e2
     have V:t.cell? ⟨2,0,aa⟩=ab (.iface 136 (.pointer (ab z))):=(L.out.cell (p:=⟨2,0,aa⟩) (Qf d5.out)).trans d5.out
     have a9:Hid (l5 n k s.size (Y.map (fR k s))):=pA Q.out A.out.nd A.out.lt
     have b1:Hid (Qg k (Y.map (fR k s)) (Y.map (fR k s)).length=Y.map (fR k s)):=k6 Q.out A.out.nd
     have b2:Hid (gB k s.size (Y.map (fR k s))=s):=k7 M N I Q.out A.out.nd A.out.lt
     have i8:Y.length<=12:=by rw [Q.out];omega
     have Z:=LJ n k s.size T (Y.map (fR k s)) cY z t M I N (by omega) (by rw [ac];omega) a9.out U V
     rw [b1.out,b2.out,ac] at Z
     have e5:Hid (fE t T (Y.map (fR k s))):=U
     have J:Hid (t.cell? ⟨2,0,aa⟩=ab (.iface 136 (.pointer (ab z)))):=V
     have a0:Hid (ae w.heap.size w t):=d6.out.trans (L.out.mono h3)
     have b3:Hid (ZE t g n (fR k s)):=d3.out.below L.out
     clear U V a8 A
     go_wp2_with fail
     refine Z.mono ?_
     rintro e B ⟨rfl,D⟩
     have a1:=n4 n k s.size a T (Y.map (fR k s)) cY z B M I N (by omega) (by rw [ac];omega) a6 a9.out (e5.out.below D) ((D.cell (p:=⟨2,0,aa⟩) (Qf J.out)).trans J.out)
     rw [b1.out,b2.out,ac] at a1
     have b4:Hid (ae w.heap.size w B):=a0.out.trans (D.mono a0.out.size)
     have b5:Hid (B.cell? ⟨2,0,aa⟩=ab (.iface 136 (.pointer (ab z)))):=(D.cell (p:=⟨2,0,aa⟩) (Qf J.out)).trans J.out
     have b6:Hid (ZE B g n (fR k s)):=b3.out.below D
     clear Z D J a0 b3
     go_wp2_with fail
     refine a1.mono ?_
     rintro e f ⟨rfl,a2⟩
     obtain ⟨o,E⟩:∃ o,o=f.alloc (.cells #[.int .i64 (a:Int),.string (JW k s a)] 48):=⟨_,rfl⟩
     have b7:ae f.heap.size f o:=by rw [E];exact (ag _ _).alloc (af _) _
     have b8:f.heap.size < o.heap.size:=by rw [E];simp
     have x1:o.cell? ⟨f.heap.size,0,aa⟩=ab (.int .i64 (a:Int)):=by rw [E,za _ _ _ _ rfl];rfl
     have x2:o.cell? ⟨f.heap.size,1,aa⟩=ab (.string (JW k s a)):=by rw [E,za _ _ _ _ rfl];rfl
     have K:ae B.heap.size B o:=a2.trans (b7.mono a2.size)
     have a3:=o0 n k s.size (ab ⟨g,0,aa⟩) (j1 n k s) n z o M I N (by omega) (by rw [Xi,Zm];omega) (by rw [Xi];exact o7 I (fun i _=>BM k s i)) (b6.out.below K).e9 ((K.cell (p:=⟨2,0,aa⟩) (Qf b5.out)).trans b5.out)
     rw [o3 M N I,o4,Xi,Zm] at a3
     have f0:Hid (o=f.alloc (.cells #[.int .i64 (a:Int),.string (JW k s a)] 48)):=E
     have d0:Hid (ae w.heap.size w o):=b4.out.trans (K.mono b4.out.size)
     have d1:Hid (ZE o g n (fR k s)):=b6.out.below K
     have d2:Hid (∀ W,ae o.heap.size o W->W.cell? ⟨f.heap.size,0,aa⟩=ab (.int .i64 (a:Int))/\W.cell? ⟨f.heap.size,1,aa⟩=ab (.string (JW k s a))/\W.cell? ⟨g,a*2,aa⟩=ab (.int .i64 (a:Int))/\W.cell? ⟨g,a*2+1,aa⟩=ab (.string (JW k s a))):=fun W S=>⟨(S.cell (p:=⟨f.heap.size,0,aa⟩) b8).trans x1,(S.cell (p:=⟨f.heap.size,1,aa⟩) b8).trans x2,(d1.out.below S).at_ a6,(d1.out.below S).text a6⟩
     clear a1 a2 E b7 x1 x2 K
     go_wp2_with fail
     rw [<- f0.out]
     refine a3.mono ?_
     rintro e w9 ⟨rfl,a4⟩
     obtain ⟨y1,y2,y3,y4⟩:=d2.out w9 a4
     have f1:Hid (ae w.heap.size w w9):=d0.out.trans (a4.mono d0.out.size)
     clear a3 a4 d2
     generalize JW k s a=ta at y2 y4
     go_wp2
     go_quiet (fail)
     go_wp2
     go_ret
     exact ⟨rfl,ao f1.out _⟩
theorem C2 (n k:Int) (s:ByteArray) (d:Option aG) (l:List Int) (f:Nat) (at_:Int) (z:aG) (w:World) (A:s.size<=aP) (B:l.length<=aP) (D:hZ w d l) (E:∀ i,-9223372036854775808<=l.getD i 0/\l.getD i 0 < 9223372036854775808)
 (j:w.cell? ⟨2,0,aa⟩=ab (.iface 136 (.pointer (ab z)))) :
 au prog 8 #[.int .i64 n,.int .i64 k,.string s,.slice d l.length f,.int .i64 at_] w fun e w'=>e=.returned (.bool true)/\ae w.heap.size w w':=by
 by_cases h:1<=k/\k<=n/\n<=12/\s.size<=100/\l.length<=40/\0<=at_/\at_ < n
 ·obtain ⟨o,rfl⟩:=al (show 0<=k by omega)
  obtain ⟨t,rfl⟩:=al (show 0<=n by omega)
  obtain ⟨y,rfl⟩:=al (show 0<=at_ by omega)
  exact Jcs t o s d l f y z w (by omega) (by omega) (by omega) h.2.2.2.1 h.2.2.2.2.1 (by omega) D E j
 ·exact Jb3 n k s d l.length f at_ z w A B h j
end Go.Proofs.YtaaahibncffcmaaDoor

/- Texts laid together. -/
import Derived.Test.YtmikbldbfnlfjaaGreatDoorCs6
import Derived.Maps.RangeWalk
import Derived.Maps.OwnOps
import Derived.Maps.OwnSet
set_option maxRecDepth 10000
set_option maxHeartbeats 16000000
namespace Go.Proofs.YtmikbldbfnlfjaaGreatDoor
open Go.Proofs.Tryz
open Go.RowKit
variable {j i k size b B c:Nat}{X:List Nat}{w w' W:World}{y x:ByteArray}{D:DataW Value}{l:List Zb}{t:Int×Int}{S:(Int×Int)×ByteArray×Bool}{L all:List Yb}{v:Yb}{F:List ByteArray}{m:Zb}{p:Option Addr}{O:Nat->Prop}{ad:Nat->Addr}
structure Xg where
 n:Int
 k:Int
 L:List ByteArray
def Jg (c:Xg):Int×Int:=if 1<=c.k/\c.k<=c.n/\c.n<=12 then (if (c.L.length:Int)=c.n then Xj c.L else (3,-1)) else (2,-1)
theorem vZ {c:Xg} (h:¬ (1<=c.k/\c.k<=c.n/\c.n<=12)):Jg c=(2,-1):=if_neg h
theorem FM {c:Xg} (h:1<=c.k/\c.k<=c.n/\c.n<=12) (j:¬ (c.L.length:Int)=c.n):Jg c=(3,-1):=by unfold Jg;rw [if_pos h,if_neg j]
theorem wU {c:Xg} (h:1<=c.k/\c.k<=c.n/\c.n<=12) (j:(c.L.length:Int)=c.n):Jg c=Xj c.L:=by unfold Jg;rw [if_pos h,if_pos j]
theorem Xm {c:Xg} (h:¬ 0 < (Jg c).1):(1<=c.k/\c.k<=c.n/\c.n<=12)/\(c.L.length:Int)=c.n/\Jg c=(0,-1)/\(∀ x ∈ c.L,Jo x=true)/\c.L.Nodup:=by
 by_cases j:1<=c.k/\c.k<=c.n/\c.n<=12
 ·by_cases y:(c.L.length:Int)=c.n
  ·rw [wU j y] at h ⊢
   have D:(Xj c.L).1<=0:=by omega
   exact ⟨j,y,(QV D).1,(YP D).1,(YP D).2⟩
  ·rw [FM j y] at h
   exact absurd (by decide) h
 ·rw [vZ j] at h
  exact absurd (by decide) h
def Jh (c:Xg):Nat:=(c.n.toNat+c.k.toNat+1) / 2
theorem Jlu (ps j c:Nat) (q:Option Addr) (U:Nat) (D:List (Int×ByteArray)) (w:World) (G:j < D.length) (M:c < (Ji D j).2.size) (X:w.cell? ⟨ps,0,none⟩=some (.slice q D.length U)) (W:fE w q D) :
 Calls prog 117 (#[.int .i64 (j:Int),.int .i64 (c:Int)] ++ #[.pointer (some ⟨ps,0,none⟩)]) w fun e N=>e=.returned (.int .u8 ((Z2 D j c:Nat):Int))/\N=w:=by
 rcases W with O | ⟨b,o,rfl,_,I⟩
 ·rw [O] at G;simp at G
 obtain ⟨_,Q⟩:=I j G
 have J:=EP (Ji D j).2 c M
 have K:Hid (Z2 D j c=Gf.nth (Zj (Ji D j).2) c):=by show _=_;rfl
 rw [K.out]
 clear I K
 generalize (Ji D j).2=t at Q J M ⊢
 generalize Gf.nth (Zj t) c=y at J ⊢
 go_enter func117,ntmps117
 go_wp2
 go_ret
 exact ⟨rfl,rfl⟩
theorem xP {j:List (Int×ByteArray)} (y:i < j.length):Gf.nth (Xo j) i=(Ji j i).1.toNat:=by
 show (j.map _).getD i 0=(j.getD i _).1.toNat
 rw [List.getD_eq_getElem?_getD,List.getD_eq_getElem?_getD,List.getElem?_map,List.getElem?_eq_getElem y]
 rfl
theorem RM  (G:X.length=k) (I:i < k) (D:j < k):vec (X.map (Xn k)) i j=iY k X i j:=by
 have y:Qh (X.map (Xn k)) i=Xn k (Gf.nth X i):=by
  show (X.map _).getD i []=_
  rw [List.getD_eq_getElem?_getD,List.getElem?_map,List.getElem?_eq_getElem (by omega),Gf.aK X i (by omega)]
  rfl
 show Qm (Gf.nth (Qh (X.map (Xn k)) i) j)=_
 rw [y]
 unfold Xn
 rw [Yq _ _ j D]
 rfl
theorem RN {g n:Nat} {y D G:Nat->Nat} (O:X.length=k) (M:∀ x ∈ X,x < n) (h:w.rowIs g 138 k (fun i=>.slice (some ⟨y (Gf.nth X i),D (Gf.nth X i),none⟩) k (G (Gf.nth X i)))) (N:∀ x,x < n->jU w (some ⟨y x,D x,none⟩) (Xn k x)):QJ w (some ⟨g,0,none⟩) (X.map (Xn k)):=by
 refine Or.inr ⟨g,0,rfl,h.lt,fun i I=>?_⟩
 have j:i < X.length:=by simpa using I
 have J:Qh (X.map (Xn k)) i=Xn k (Gf.nth X i):=by
  show (X.map _).getD i []=_
  rw [List.getD_eq_getElem?_getD,List.getElem?_map,List.getElem?_eq_getElem j,Gf.aK X i j]
  rfl
 have K:Gf.nth X i ∈ X:=by rw [Gf.aK X i j];exact List.getElem_mem _
 rw [J,Nat.zero_add]
 refine ⟨some ⟨y (Gf.nth X i),D (Gf.nth X i),none⟩,G (Gf.nth X i),?_,N _ (M _ K),fun e=>by cases e⟩
 rw [h.cell (by omega)]
 unfold Xn
 rw [Jf]
structure l5 (n k size:Nat) (l:List (Int×ByteArray)):Prop where
 pK:l.any (j4 (n:Int) (Jk k size))=false
 jS:(Qg k l l.length).length=k
theorem l5.at_ {n:Nat} {l:List (Int×ByteArray)} (h:l5 n k size l) {x:Int×ByteArray} (j:x ∈ l):0<=x.1/\x.1 < n/\x.2.size=Jk k size:=by
 have:=List.any_eq_false.1 h.pK x j
 unfold j4 at this
 simp only [Bool.or_eq_true,decide_eq_true_eq,Bool.not_eq_true',decide_eq_false_iff_not] at this
 omega
theorem l5.WE {n:Nat} {l:List (Int×ByteArray)} (h:l5 n k size l):(∀ x ∈ Xo (Qg k l l.length),x < n)/\(Xo (Qg k l l.length)).Nodup/\(Xo (Qg k l l.length)).length=k:=by
 refine ⟨fun x G=>?_,?_,by unfold Xo;rw [List.length_map];exact h.jS⟩
 ·obtain ⟨y,D,rfl⟩:=List.mem_map.1 G
  have:=h.at_ (X9 k l l.length (Nat.le_refl _) y D)
  omega
 ·have I:=sX k l l.length
  have e:Xo (Qg k l l.length)=((Qg k l l.length).map Prod.fst).map Int.toNat:=by
   unfold Xo
   rw [List.map_map]
   rfl
  rw [e]
  refine List.Pairwise.map (R:=fun a b:Int=>a≠b/\0<=a/\0<=b) _ (fun a b j e=>j.1 (by have:=j.2;omega)) (List.Pairwise.imp_of_mem (fun J K j=>?_) I)
  ·obtain ⟨y,D,rfl⟩:=List.mem_map.1 J
   obtain ⟨M,N,rfl⟩:=List.mem_map.1 K
   exact ⟨j,(h.at_ (X9 k l l.length (Nat.le_refl _) y D)).1,(h.at_ (X9 k l l.length (Nat.le_refl _) M N)).1⟩
structure jF (w:World) (b n k size:Nat):Prop where
 c0:w.cell? ⟨b,0,none⟩=some (.int .i64 (n:Int))
 c1:w.cell? ⟨b+1,0,none⟩=some (.int .i64 (k:Int))
 c2:w.cell? ⟨b+1+1,0,none⟩=some (.int .i64 (size:Int))
theorem jF.below {n:Nat} (h:jF w b n k size) (j:Below w.heap.size w w'):jF w' b n k size :=
 ⟨(j.cell (Qf h.c0)).trans h.c0,(j.cell (Qf h.c1)).trans h.c1,(j.cell (Qf h.c2)).trans h.c2⟩
theorem UN (w:World) (n k size:Nat) (t:TypeId):jF (((w.alloc (.cells #[.int .i64 (n:Int)] t)).alloc (.cells #[.int .i64 (k:Int)] t)).alloc (.cells #[.int .i64 (size:Int)] t)) w.heap.size n k size:=by
 have y:(w.alloc (.cells #[.int .i64 (n:Int)] t)).heap.size=w.heap.size+1:=by simp
 have D:((w.alloc (.cells #[.int .i64 (n:Int)] t)).alloc (.cells #[.int .i64 (k:Int)] t)).heap.size=w.heap.size+1+1:=by simp
 have G:Below (w.alloc (.cells #[.int .i64 (n:Int)] t)).heap.size (w.alloc (.cells #[.int .i64 (n:Int)] t)) ((w.alloc (.cells #[.int .i64 (n:Int)] t)).alloc (.cells #[.int .i64 (k:Int)] t)):=(Below.refl _ _).alloc (Nat.le_refl _) _
 have j:Below ((w.alloc (.cells #[.int .i64 (n:Int)] t)).alloc (.cells #[.int .i64 (k:Int)] t)).heap.size ((w.alloc (.cells #[.int .i64 (n:Int)] t)).alloc (.cells #[.int .i64 (k:Int)] t)) (((w.alloc (.cells #[.int .i64 (n:Int)] t)).alloc (.cells #[.int .i64 (k:Int)] t)).alloc (.cells #[.int .i64 (size:Int)] t)):=(Below.refl _ _).alloc (Nat.le_refl _) _
 refine ⟨?_,?_,?_⟩
 ·rw [j.cell (p:=⟨w.heap.size,0,none⟩) (by show w.heap.size < _;omega),G.cell (p:=⟨w.heap.size,0,none⟩) (by show w.heap.size < _;omega),World.cell?_alloc_at _ _ _ _ rfl];rfl
 ·rw [j.cell (p:=⟨w.heap.size+1,0,none⟩) (by show w.heap.size+1 < _;omega),World.cell?_alloc_at _ _ _ _ y.symm];rfl
 ·rw [World.cell?_alloc_at _ _ _ _ D.symm];rfl
theorem PX:(prog.info? 138).map (fun i=>(i.zero,i.size,i.bytes))=some (some (.slice none 0 0),1,24):=by kernel_rfl
theorem LJ (n k size:Nat) (p:Option Addr) (l:List (Int×ByteArray)) (b6:Nat) (z:Addr) (w:World) (a0:1<=k) (g3:k<=n) (hn:n<=12) (n6:size<=1000) (hl:l.length<=1000) (hf:l5 n k size l) (hs:fE w p l)
 (hz:w.cell? ⟨11,0,none⟩=some (.iface 252 (.pointer (some z)))) :
 Calls prog 82 #[.int .i64 (n:Int),.int .i64 (k:Int),.int .i64 (size:Int),.slice p l.length b6] w fun e w'=>e=.returned (.tuple #[.string (gB k size (Qg k l l.length)),.nilIface])/\Below w.heap.size w w':=by
 have q6:=xR (size:=size) a0
 have g4:Hid (∀ x ∈ Qg k l l.length,0<=x.1/\x.1 < n/\x.2.size=Jk k size):=fun x Q=>hf.at_ (X9 k l l.length (Nat.le_refl _) x Q)
 have g5:Hid (l.any (j4 (n:Int) (Jk k size))=false):=hf.pK
 have b1:Hid (size<=k*Jk k size):=FX a0
 have M:Hid ((∀ x ∈ Xo (Qg k l l.length),x < n)/\(Xo (Qg k l l.length)).Nodup/\(Xo (Qg k l l.length)).length=k):=hf.WE
 have a1:Hid ((Qg k l l.length).length=k):=hf.jS
 have g6:Hid (∀ W,fE W p l->Calls prog 113 #[.int .i64 (k:Int),.slice p l.length b6] W fun e w'=>(∃ p' c',e=.returned (.slice p' k c')/\fE w' p' (Qg k l l.length))/\Below W.heap.size W w'):=fun W hW=>by
  have h:=LA k p l b6 W (by omega) hl hW
  rw [a1.out] at h
  exact h
 have g7:Hid (∀ W,Calls prog 116 #[.int .i64 (size:Int),.int .i64 (k:Int)] W fun e w'=>e=.returned (.int .i64 ((Jk k size:Nat):Int))/\w'=W):=fun W=>zM size k W a0 (by omega) (by omega)
 have b7:Hid (gB k size (Qg k l l.length)=Jp (Qi size fun p=>Jl (QY (Xo (Qg k l l.length))) (Z2 (Qg k l l.length)) (p / Jk k size) (p % Jk k size) k)):=by show _=_;rfl
 have g8:Hid (∀ y t W,W.cell? ⟨w.heap.size,0,none⟩=some (.int .i64 (n:Int))->W.cell? ⟨w.heap.size+1,0,none⟩=some (.int .i64 (k:Int))->W.cell? ⟨w.heap.size+1+1,0,none⟩=some (.int .i64 (size:Int))->Calls prog 112 (#[.agg #[.int .i64 y,.string t]] ++ #[.pointer (some ⟨w.heap.size,0,none⟩),.pointer (some ⟨w.heap.size+1,0,none⟩),.pointer (some ⟨w.heap.size+1+1,0,none⟩)]) W fun e Y=>e=.returned (.bool (j4 (n:Int) (Jk k size) (y,t)))/\Below W.heap.size W Y):=fun y t W h0 h1 h2=>WJ w.heap.size (w.heap.size+1) (w.heap.size+1+1) n k size y t W a0 g3 hn n6 h0 h1 h2
 clear hf
 generalize gB k size (Qg k l l.length)=dt at b7 ⊢
 generalize Jk k size=J at *
 generalize Qg k l l.length=D at *
 obtain ⟨U,b2⟩:∃ U,U=(((w.alloc (.cells #[.int .i64 (n:Int)] 3)).alloc (.cells #[.int .i64 (k:Int)] 3)).alloc (.cells #[.int .i64 (size:Int)] 3)):=⟨_,rfl⟩
 have b3:Below w.heap.size w U:=by rw [b2];exact (((Below.refl _ _).alloc (Nat.le_refl _) _).alloc (by simp) _).alloc (by simp;omega) _
 have a7:jF U w.heap.size n k size:=by rw [b2];exact UN w n k size _
 have p0:=a7.c0
 have p1:=a7.c1
 have p2:=a7.c2
 have g9:Hid (jF U w.heap.size n k size):=a7
 have d0:U.cell? ⟨11,0,none⟩=some (.iface 252 (.pointer (some z))):=(b3.cell (p:=⟨11,0,none⟩) (Qf hz)).trans hz
 have HS:=BZ n k size z U a0 g3 hn n6 d0
 have h5:Hid (U=(((w.alloc (.cells #[.int .i64 (n:Int)] 3)).alloc (.cells #[.int .i64 (k:Int)] 3)).alloc (.cells #[.int .i64 (size:Int)] 3))):=b2
 have d1:Hid (Below w.heap.size w U):=b3
 have h6:Hid (fE U p l):=hs.below b3
 have d2:Hid (U.cell? ⟨11,0,none⟩=some (.iface 252 (.pointer (some z)))):=d0
 obtain ⟨i1,h7,h8,h9,i0⟩:=info_parts PX
 have n7:∀ W:World,Sem.run prog (Instr.makeSlice 162 (.int .i64 (k:Int)) (.int .i64 (k:Int))) W=.ok (.slice (some ⟨W.heap.size,0,none⟩) k k) (W.alloc (.cells (madeCells #[.slice none 0 0] k) 138)):=fun W=>run_make_row (P:=prog) 162 138 i1 (.slice none 0 0) underlying162 h7 h8 h9 rfl .i64 .i64 k (by rw [i0];omega) (by omega) W
 clear b2 b3 hz d0 hs h7 h8 h9 i0 a7
 go_enter func82,ntmps82
 go_wp2_with (rw [<- h5.out])
 refine HS.mono ?_
 rintro e Y ⟨⟨gm,rfl,i2⟩,a5⟩
 have q7:U.heap.size<=Y.heap.size:=a5.size
 have a2:=g9.out.below a5
 have i3:Hid (jF Y w.heap.size n k size):=a2
 have q0:=a2.c0
 have q1:=a2.c1
 have q2:=a2.c2
 have i4:Hid (QJ Y (some ⟨gm,0,none⟩) (kK k n)):=i2
 have d3:Hid (Below w.heap.size w Y):=d1.out.trans (a5.mono d1.out.size)
 have d4:Hid (fE Y p l):=h6.out.below a5
 have d5:Hid (Y.cell? ⟨11,0,none⟩=some (.iface 252 (.pointer (some z)))):=(a5.cell (p:=⟨11,0,none⟩) (Qf d2.out)).trans d2.out
 have HA:tK Y 112 #[.pointer (some ⟨w.heap.size,0,none⟩),.pointer (some ⟨w.heap.size+1,0,none⟩),.pointer (some ⟨w.heap.size+1+1,0,none⟩)] l (j4 (n:Int) J):=fun i hi Z h4=>by
  have Q:=g8.out (Ji l i).1 (Ji l i).2 Z ((a2.below h4).c0) ((a2.below h4).c1) ((a2.below h4).c2)
  exact Q
 have HC:=JaT p l b6 112 #[.pointer (some ⟨w.heap.size,0,none⟩),.pointer (some ⟨w.heap.size+1,0,none⟩),.pointer (some ⟨w.heap.size+1+1,0,none⟩)] (j4 (n:Int) J) Y (by omega) d4.out (enters_of func112 (by kernel_rfl) rfl) HA
 rw [g5.out] at HC
 clear HS i2 a5 d1 h5 g9 p0 p1 p2 h6 d2 a2 HA g5 g8
 go_wp2_with fail
 refine HC.mono ?_
 rintro e Z ⟨rfl,a4⟩
 have r0:Y.heap.size<=Z.heap.size:=a4.size
 have d6:Hid (Below w.heap.size w Z):=d3.out.trans (a4.mono d3.out.size)
 have i5:Hid (QJ Z (some ⟨gm,0,none⟩) (kK k n)):=i4.out.below a4
 have d7:Hid (Z.cell? ⟨11,0,none⟩=some (.iface 252 (.pointer (some z)))):=(a4.cell (p:=⟨11,0,none⟩) (Qf d5.out)).trans d5.out
 have d8:=i3.out.below a4
 have i7:Hid (jF Z w.heap.size n k size):=d8
 have i8:=g6.out Z (d4.out.below a4)
 clear q0 q1 q2
 have q1:=d8.c1
 clear HC a4 d3 d4 i4 d5 i3 g6 d8
 go_wp2_with fail
 refine i8.mono ?_
 rintro e K ⟨⟨p5,c5,rfl,i9⟩,d9⟩
 have n8:Z.heap.size<=K.heap.size:=d9.size
 obtain ⟨G,a8⟩:∃ G,G=K.alloc (.cells #[.slice p5 k c5] 123):=⟨_,rfl⟩
 have e0:Below K.heap.size K G:=by rw [a8];exact (Below.refl _ _).alloc (Nat.le_refl _) _
 have n9:K.heap.size < G.heap.size:=by rw [a8];simp
 have a9:Below Z.heap.size Z G:=d9.trans (e0.mono n8)
 have e1:Hid (Below w.heap.size w G):=d6.out.trans (a9.mono d6.out.size)
 have e2:Hid (fE G p5 D):=i9.below e0
 have j0:G.cell? ⟨K.heap.size,0,none⟩=some (.slice p5 k c5):=by rw [a8,World.cell?_alloc_at _ _ _ _ rfl];rfl
 have e3:=i7.out.below a9
 have r1:=e3.c1
 have e4:Hid (G.cell? ⟨11,0,none⟩=some (.iface 252 (.pointer (some z)))):=(a9.cell (p:=⟨11,0,none⟩) (Qf d7.out)).trans d7.out
 obtain ⟨rb,ro,rc,o0,j1⟩:=Jmq (i5.out.below a9) (by omega) a0
 have e5:Hid (∀ i,i < n->G.cell? ⟨gm,i,none⟩=some (.slice (some ⟨rb i,ro i,none⟩) k (rc i))/\jU G (some ⟨rb i,ro i,none⟩) (Xn k i)):=j1
 have j2:Hid (G=K.alloc (.cells #[.slice p5 k c5] 123)):=a8
 have j3:Hid (jF G w.heap.size n k size):=e3
 have j5:Hid (G.cell? ⟨K.heap.size,0,none⟩=some (.slice p5 k c5)):=j0
 clear i8 d9 e0 a9 i9 a8 j1 i5 d7 d6 i7 e3 q1
 rcases e2.out with h0 | ⟨b5,o5,o1,j6,j8⟩
 ·exact absurd a1.out (by rw [h0];simp;omega)
 subst o1
 have e6:(G.alloc (.cells (madeCells #[.slice none 0 0] k) 138)).rowIs G.heap.size 138 k (fun _=>.slice none 0 0):=World.rowIs_made G _ k _
 have e7:Below G.heap.size G (G.alloc (.cells (madeCells #[.slice none 0 0] k) 138)):=(Below.refl _ _).alloc (Nat.le_refl _) _
 have e8:Hid (∀ i,i < D.length->G.cell? ⟨b5,o5+i*2,none⟩=some (.int .i64 (Ji D i).1)/\G.cell? ⟨b5,o5+i*2+1,none⟩=some (.string (Ji D i).2)):=j8
 clear j8
 go_wp2_with (rw [<- j2.out])
 generalize G.alloc (.cells (madeCells #[.slice none 0 0] k) 138)=w7 at e6 e7 ⊢
 have k0:Hid (w7.rowIs (G.heap.size) 138 k (fun _=>.slice none 0 0)):=e6
 have k1:Hid (Below G.heap.size G w7):=e7
 clear e6 e7 n7 r1 j0
 go_loopw [44] (fun x wr=>∃ i:Nat,i<=k/\x=.int .i64 i/\wr.rowIs (G.heap.size) 138 k (fun q=>if q < i then .slice (some ⟨rb (Gf.nth (Xo D) q),ro (Gf.nth (Xo D) q),none⟩) k (rc (Gf.nth (Xo D) q)) else .slice none 0 0)/\Below G.heap.size G wr) (fun x _=>k - (intOf x).toNat)
 case atStart=>exact ⟨0,by omega,rfl,k0.out.congr (fun q _=>by simp),k1.out⟩
 case round =>
  obtain ⟨i,hi,rfl,hR,hB⟩:=hrel
  obtain ⟨I,rfl⟩:∃ I,I=wr:=⟨_,rfl⟩
  have HR:Hid (I.rowIs (G.heap.size) 138 k (fun q=>if q < i then .slice (some ⟨rb (Gf.nth (Xo D) q),ro (Gf.nth (Xo D) q),none⟩) k (rc (Gf.nth (Xo D) q)) else .slice none 0 0)):=hR
  have N:Hid (Below G.heap.size G I):=hB
  have r2:G.heap.size < I.heap.size:=hR.lt
  clear hR hB k0 k1
  by_cases b0:i < k
  ·have hm:Ji D i ∈ D:=sE (by rw [a1.out];exact b0)
   have Q:=g4.out _ hm
   have e9:Gf.nth (Xo D) i=(Ji D i).1.toNat:=xP (by rw [a1.out];exact b0)
   have k2:(Ji D i).1=((Gf.nth (Xo D) i:Nat):Int):=by rw [e9];omega
   have k3:Gf.nth (Xo D) i < n:=by rw [e9];omega
   have q1:I.cell? ⟨b5,o5+i*2,none⟩=some (.int .i64 ((Gf.nth (Xo D) i:Nat):Int)):=by
    rw [N.out.cell (p:=⟨b5,o5+i*2,none⟩) j6,(e8.out i (by rw [a1.out];exact b0)).1,k2]
   have q2:I.cell? ⟨b5,o5+i*2+1,none⟩=some (.string (Ji D i).2):=by
    rw [N.out.cell (p:=⟨b5,o5+i*2+1,none⟩) j6,(e8.out i (by rw [a1.out];exact b0)).2]
   have q3:I.cell? ⟨gm,Gf.nth (Xo D) i,none⟩=some (.slice (some ⟨rb (Gf.nth (Xo D) i),ro (Gf.nth (Xo D) i),none⟩) k (rc (Gf.nth (Xo D) i))):=by
    rw [N.out.cell (p:=⟨gm,Gf.nth (Xo D) i,none⟩) o0,(e5.out _ k3).1]
   have q4:I.cell? ⟨G.heap.size,i,none⟩=some (.slice none 0 0):=by rw [HR.out.cell b0,if_neg (Nat.lt_irrefl _)]
   have q5:I.frozen? ⟨G.heap.size,i,none⟩=false:=HR.out.frozen i
   have o2:Hid (Gf.nth (Xo D) i=Gf.nth (Xo D) i):=by show _=_;rfl
   have r3:gm < I.heap.size:=by have:=N.out.size;omega
   clear e9 k2 Q hm
   generalize k4:Gf.nth (Xo D) i=x at q1 q3 k3
   have o3:Hid (Gf.nth (Xo D) i=x):=k4
   clear k4 o2
   go_wp2
   go_roundw
   case rel =>
    refine ⟨i+1,by omega,by go_num,?_,?_⟩
    ·refine ((HR.out.set i _).alloc _).congr (fun q _=>?_)
     by_cases e:q=i
     ·rw [if_pos e,if_pos (by omega),e,o3.out]
     ·rw [if_neg e]
      by_cases e':q < i
      ·rw [if_pos e',if_pos (by omega)]
      ·rw [if_neg e',if_neg (by omega)]
    ·exact (N.out.setCell (Nat.le_refl _) _).alloc (by simp [World.setCell];exact N.out.size) _
   case measure=>simp [intOf];omega
  ·have o4:i=k:=by omega
   subst o4
   have k5:I.rowIs (G.heap.size) 138 i (fun q=>.slice (some ⟨rb (Gf.nth (Xo D) q),ro (Gf.nth (Xo D) q),none⟩) i (rc (Gf.nth (Xo D) q))):=HR.out.congr (fun q hq=>by rw [if_pos hq])
   have k6:QJ I (some ⟨G.heap.size,0,none⟩) ((Xo D).map (Xn i)):=RN M.out.2.2 M.out.1 k5 (fun x Q=>(e5.out x Q).2.below N.out)
   have k7:I.cell? ⟨11,0,none⟩=some (.iface 252 (.pointer (some z))):=(N.out.cell (p:=⟨11,0,none⟩) (Qf e4.out)).trans e4.out
   have f3:((Xo D).map (Xn i)).length=i:=by rw [List.length_map];exact M.out.2.2
   have hM:jQ ((Xo D).map (Xn i)):=NN a0 (by omega) M.out.2.2
   have l0:(Qh ((Xo D).map (Xn i)) 0).length=i:=by
    have h0:Qh ((Xo D).map (Xn i)) 0=Xn i (Gf.nth (Xo D) 0):=by
     show ((Xo D).map _).getD 0 []=_
     rw [List.getD_eq_getElem?_getD,List.getElem?_map,List.getElem?_eq_getElem (by rw [M.out.2.2];omega),Gf.aK _ 0 (by rw [M.out.2.2];omega)]
     rfl
    rw [h0]
    exact Jf _ _
   have HI:=FJ (some ⟨G.heap.size,0,none⟩) ((Xo D).map (Xn i)) i z I hM (by rw [l0,f3]) (LB i (Xo D)) k6 k7
   have l1:=OX hn M.out.2.2 M.out.2.1 M.out.1 g3
   unfold xQ at HI
   rw [f3] at HI
   have l2:Hid (Lin.n5 i i (vec ((Xo D).map (Xn i))) i):=l1
   have f4:Hid (Below w.heap.size w I):=e1.out.trans (N.out.mono e1.out.size)
   have l3:Hid (jF I w.heap.size n i size):=j3.out.below N.out
   have f5:Hid (I.cell? ⟨K.heap.size,0,none⟩=some (.slice (some ⟨b5,o5,none⟩) i c5)):=(N.out.cell (p:=⟨K.heap.size,0,none⟩) n9).trans j5.out
   have l7:Hid (fE I (some ⟨b5,o5,none⟩) D):=e2.out.below N.out
   clear k5 k6 k7 f3 hM l0 l1 HR N e8 e5 e1 e2 e4 j3 j5 j2
   go_wp2_with fail
   refine HI.mono ?_
   rintro e X ⟨⟨d,hd,o6⟩,a6⟩
   have o7:d=i:=Lin.dY hd l2.out
   rcases o6 with ⟨r4,_⟩ | ⟨_,g2,x,rfl,l8,Q,l9⟩
   ·omega
   have m0:Hid (∀ a b,a < i->b < i->x a b=QY (Xo D) a b):=eN (fun j=>by
    by_cases hj:j < (Xo D).length
    ·have:=M.out.1 (Gf.nth (Xo D) j) (by rw [Gf.aK _ j hj];exact List.getElem_mem _)
     omega
    ·rw [F0 (by omega)];decide) M.out.2.1 M.out.2.2 (by omega) Q (fun a b ha hb=>by
     rw [<- l9 a b ha hb]
     exact Lin.bQ i (fun _ _=>rfl) (fun t ht=>(RM M.out.2.2 ht hb).symm))
   have r5:I.heap.size<=X.heap.size:=a6.size
   have b4:=l3.out.below a6
   have m4:Hid (jF X w.heap.size n i size):=b4
   have s1:=b4.c1
   have s2:=b4.c2
   have f6:X.cell? ⟨K.heap.size,0,none⟩=some (.slice (some ⟨b5,o5,none⟩) D.length c5):=by rw [a1.out];exact (a6.cell (p:=⟨K.heap.size,0,none⟩) (Qf f5.out)).trans f5.out
   have m5:fE X (some ⟨b5,o5,none⟩) D:=l7.out.below a6
   have m6:uI X 117 #[.pointer (some ⟨K.heap.size,0,none⟩)] (Z2 D) i J:=fun j c hj hc O m7=>by
    have a3:j < D.length:=by rw [a1.out];exact hj
    exact Jlu K.heap.size j c _ c5 D O a3 (by rw [(g4.out _ (sE a3)).2.2];exact hc) ((m7.cell (p:=⟨K.heap.size,0,none⟩) (Qf f6)).trans f6) (m5.below m7)
   have m8:=F3 (some ⟨g2,0,none⟩) i i J i x (Z2 D) 117 #[.pointer (some ⟨K.heap.size,0,none⟩)] X a0 (by omega) a0 (by omega) (by omega) Q (fun j c=>EN D j c) l8 (enters_of func117 (by kernel_rfl) rfl) m6
   have f7:Hid (Below w.heap.size w X):=f4.out.trans (a6.mono f4.out.size)
   have o9:Hid (∀ a b,x a b < 256):=Q
   clear HI hd o7 a6 l8 Q l9 f6 m5 m6 f4 l3 f5 l7 l2 b4
   go_wp2_with fail
   refine (g7.out _).mono ?_
   rintro e p3 ⟨rfl,m9⟩
   rw [m9]
   clear m9 p3 g7
   go_wp2_with fail
   refine m8.mono ?_
   rintro e O ⟨rfl,f8,f9⟩
   have a3:(((List.range i).map fun q=>Jp (Qi J fun c=>Jl x (Z2 D) q c i))).length=i:=by simp
   have g0:Lib.join (((List.range i).map fun q=>Jp (Qi J fun c=>Jl x (Z2 D) q c i)).map (·.data.toList)) []=Y2 (gF (fun q c=>Jl x (Z2 D) q c i) J i):=NV (fun q c=>Jl x (Z2 D) q c i) J i
   have r6:i*J<=12*1000:=Nat.mul_le_mul (by omega) (by omega)
   have n0:X.heap.size < O.heap.size:=f8.lt
   have n1:=fun (W:World) (hW:Below O.heap.size O W)=>strings_Join X.heap.size 0 i ((List.range i).map fun q=>Jp (Qi J fun c=>Jl x (Z2 D) q c i)) ⟨#[]⟩ W (fun j y hy=>by
    have n2:j < i:=by
     have:=(List.getElem?_eq_some_iff.1 hy).1
     rw [a3] at this
     exact this
    rw [List.getElem?_map,List.getElem?_range n2] at hy
    have p4:Jp (Qi J fun c=>Jl x (Z2 D) j c i)=y:=Option.some.inj hy
    rw [Nat.zero_add,hW.cell (p:=⟨X.heap.size,j,none⟩) n0,f8.cell n2,<- p4]
    rfl) (Nat.lt_of_lt_of_le n0 hW.size) (by rw [a3];omega) (by rw [a3];exact Nat.le_refl _) (by
    show (Lib.join _ []).length<=_
    rw [g0]
    unfold Y2
    rw [List.length_map,YV]
    omega)
   have HJ:∀ W,Below O.heap.size O W->Calls prog 118 #[.slice (some ⟨X.heap.size,0,none⟩) i i,.string ⟨#[]⟩] W fun e w'=>e=.returned (.string ⟨(Y2 (gF (fun q c=>Jl x (Z2 D) q c i) J i)).toArray⟩)/\Below W.heap.size W w':=fun W hW=>by
    have h:=n1 W hW
    rw [a3,show (⟨#[]⟩:ByteArray).data.toList=[] from rfl,g0] at h
    exact h
   clear n1
   have p6:∀ W,Sem.run prog (Instr.slice 9 (.string ⟨(Y2 (gF (fun q c=>Jl x (Z2 D) q c i) J i)).toArray⟩) none (some (.int .i64 (size:Int))) none) W=.ok (.string dt) W:=fun W=>by
    rw [run_slice_string_h W 9 _ underlying9 .i64 (size:Int) (by omega) (by
     show (size:Int)<=(((Y2 (gF (fun q c=>Jl x (Z2 D) q c i) J i)).toArray.size:Nat):Int)
     unfold Y2
     rw [List.size_toArray,List.length_map,YV]
     have:=b1.out
     omega),Int.toNat_natCast,SZ,OE _ _ _ _ b1.out,b7.out]
    congr 3
    refine YL size _ _ (fun q hq=>?_)
    refine A0 i (fun j hj=>m0.out _ j ?_ hj)
    have hm:=b1.out
    have p7:0 < J:=by
     rcases Nat.eq_zero_or_pos J with e | e
     ·rw [e,Nat.mul_zero] at hm;omega
     ·exact e
    rw [Nat.div_lt_iff_lt_mul p7]
    omega
   have n3:Hid (Below w.heap.size w O):=f7.out.trans (f9.mono f7.out.size)
   have g1:=m4.out.below f9
   have n4:Hid (jF O w.heap.size n i size):=g1
   clear s1 s2
   have s2:=g1.c2
   clear g1 m4
   clear m8 f8 f9 f7 a3 g0 m0 o9 b7 b1
   generalize (⟨(Y2 (gF (fun q c=>Jl x (Z2 D) q c i) J i)).toArray⟩:ByteArray)=st at HJ p6
   have p8:Hid (∀ W,Below O.heap.size O W->Calls prog 118 #[.slice (some ⟨X.heap.size,0,none⟩) i i,.string ⟨#[]⟩] W fun e w'=>e=.returned (.string st)/\w'.cell? ⟨w.heap.size+1+1,0,none⟩=some (.int .i64 (size:Int))/\Below w.heap.size w w'):=fun W hW=>(HJ W hW).mono fun e w' ⟨he,hb⟩=>by
    have h3:Below O.heap.size O w':=hW.trans (hb.mono hW.size)
    exact ⟨he,(n4.out.below h3).c2,n3.out.trans (h3.mono n3.out.size)⟩
   clear HJ n4
   go_wp2
   go_region_with (go_at_call 118;refine (p8.out _ (by first | exact (Below.refl _ _).drew | exact Below.refl _ _)).mono ?_;rintro e r7 ⟨rfl,s3,p9⟩)
   all_goals (go_wp2;go_ret2;exact ⟨rfl,p9⟩)
theorem JcA (l m:List Nat):Jp l ++ Jp m=Jp (l ++ m):=by
 rw [RL,RL,RL]
 apply ByteArray.ext
 simp [Y2]
def H2 (X:List Nat) (j m:Nat):List Nat:=Qi m fun i=>Gf.aQ X i j
theorem JdF (X:List Nat) (j m:Nat):H2 X j (m+1)=H2 X j m ++ [Gf.aQ X m j]:=by simp [H2,Qi,List.range_succ]
theorem JaI (X:List Nat) (j m:Nat):(H2 X j m).length=m:=Jf _ _
theorem Jdb (X:List Nat) (j m:Nat):Gf.Bytes (H2 X j m):=XL _ _ fun _=>Gf.bL _ _ _
theorem JbT (n k size:Nat) (p:Option Addr) (l:List (Int×ByteArray)) (i8:Nat) (w:World) (b0:1<=k) (n4:k<=n) (hn:n<=12) (n6:size<=1000) (hl:l.length<=1000) (ht:∀ i,(Ji l i).2.size<=100000) (hf:l5 n k size l) (hs:fE w p l) :
 Calls prog 72 #[.int .i64 (n:Int),.int .i64 (k:Int),.int .i64 (size:Int),.slice p l.length i8] w fun e w'=>e=.returned (.tuple #[.string (gB k size (Qg k l l.length)),.int .i64 0])/\Below w.heap.size w w':=by
 have n7:=xR (size:=size) b0
 obtain ⟨i0,b2,b3,b4,b5⟩:=info_parts KF
 have b6:=JdM n k size p l i8 w b0 n4 hn n6 hl ht hs
 have i9:Hid (∀ W,Calls prog 89 #[.int .i64 (k:Int),.int .i64 (size:Int)] W fun e w'=>e=.returned (.int .i64 ((Jk k size:Nat):Int))/\w'=W):=fun W=>Ja1 k size W b0 (by omega) (by omega)
 have e7:Hid (∀ x ∈ Qg k l l.length,0<=x.1/\x.1 < n/\x.2.size=Jk k size):=fun x hx=>hf.at_ (X9 k l l.length (Nat.le_refl _) x hx)
 have b7:Hid (size<=k*Jk k size):=FX b0
 have U:Hid ((∀ x ∈ Xo (Qg k l l.length),x < n)/\(Xo (Qg k l l.length)).Nodup/\(Xo (Qg k l l.length)).length=k):=hf.WE
 have a0:Hid ((Qg k l l.length).length=k):=hf.jS
 have e8:Hid (l.any (j4 (n:Int) (Jk k size))=false):=hf.pK
 have d0:Hid (gB k size (Qg k l l.length)=Jp (Qi size fun p=>Jl (QY (Xo (Qg k l l.length))) (Z2 (Qg k l l.length)) (p / Jk k size) (p % Jk k size) k)):=by show _=_;rfl
 unfold Jen at b6
 clear hf hs ht
 generalize gB k size (Qg k l l.length)=dt at d0 ⊢
 generalize Jk k size=G at *
 generalize Qg k l l.length=D at *
 have n8:∀ W:World,Sem.run prog (Instr.makeSlice 138 (.int .i64 (G:Int)) (.int .i64 (G:Int))) W=.ok (.slice (some ⟨W.heap.size,0,none⟩) G G) (W.alloc (.cells (madeCells #[ZM 0] G) 5)):=fun W=>run_make_row (P:=prog) 138 5 i0 (ZM 0) underlying138 b2 b3 b4 rfl .i64 .i64 G (by rw [b5];omega) (by omega) W
 go_enter func72,ntmps72
 go_wp2_with fail
 refine b6.mono ?_
 rintro e N ⟨⟨v,c,rfl,j0⟩,e9⟩
 rcases j0 with ⟨_,_,j1⟩ | ⟨_,_,_,j2⟩ | ⟨j3,_,_,p1,c1,hv,f3⟩
 ·exact absurd j1 (by rw [e8.out];decide)
 ·exact absurd j2 (by rw [a0.out];exact Nat.lt_irrefl _)
 subst j3 hv
 rcases f3 with h0 | ⟨O,X,j5,f4,f5⟩
 ·exact absurd a0.out (by rw [h0];simp;omega)
 subst j5
 have f6:Hid (∀ i,i < D.length->N.cell? ⟨O,X+i*2,none⟩=some (.int .i64 (Ji D i).1)/\N.cell? ⟨O,X+i*2+1,none⟩=some (.string (Ji D i).2)):=f5
 have f7:Hid (Below w.heap.size w N):=e9
 clear b6 e9 f5 e8
 have j6:Hid (Gf.Bytes (Xo D)):=fun j=>by
  by_cases hj:j < (Xo D).length
  ·have:=U.out.1 (Gf.nth (Xo D) j) (by rw [Gf.aK _ j hj];exact List.getElem_mem _)
   omega
  ·rw [F0 (by omega)];decide
 go_wp2
 go_loopw [12,13] (fun v x wr=>∃ i:Nat,i<=k/\x=.int .i64 i/\pA wr N.heap.size 5 v ((Xo D).take i)/\Below N.heap.size N wr) (fun _ x _=>k - (intOf x).toNat)
 case atStart=>exact ⟨0,by omega,rfl,by rw [List.take_zero];exact pA.nil _ _ _,Below.refl _ _⟩
 case round =>
  obtain ⟨i,hi,rfl,hO,hB⟩:=hrel
  obtain ⟨K,rfl⟩:∃ K,K=wr:=⟨_,rfl⟩
  have HO:Hid (pA K N.heap.size 5 u12 ((Xo D).take i)):=hO
  have HB:Hid (Below N.heap.size N K):=hB
  have f8:N.heap.size<=K.heap.size:=hB.size
  have f9:((Xo D).take i).length=i:=by rw [List.length_take,U.out.2.2];omega
  have g0:Hid (((Xo D).take i).length=i):=f9
  clear hO hB f9
  by_cases a5:i < k
  ·have hm:Ji D i ∈ D:=sE (by rw [a0.out];exact a5)
   have hx:=e7.out _ hm
   have d1:Gf.nth (Xo D) i=(Ji D i).1.toNat:=xP (by rw [a0.out];exact a5)
   have g1:(Ji D i).1=((Gf.nth (Xo D) i:Nat):Int):=by rw [d1];omega
   have j8:Gf.nth (Xo D) i < n:=by rw [d1];omega
   have q1:K.cell? ⟨O,X+i*2,none⟩=some (.int .i64 ((Gf.nth (Xo D) i:Nat):Int)):=by
    rw [HB.out.cell (p:=⟨O,X+i*2,none⟩) f4,(f6.out i (by rw [a0.out];exact a5)).1,g1]
   have g2:Hid ((Xo D).take (i+1)=(Xo D).take i ++ [Gf.nth (Xo D) i]):=Gf.PU _ i (by rw [U.out.2.2];exact a5)
   clear d1 g1 hx hm
   generalize Gf.nth (Xo D) i=x at q1 j8 g2
   generalize (Xo D).take i=xs at *
   have n9:xs.length<=12:=by rw [g0.out];omega
   go_wp2_with (first | (at_builtin;refine Jar rfl (.tmp 38) (.tmp 45) 138 rfl N.heap.size 5 i0 underlying138 b2 b3 b4 b5 u12 xs rfl (HO.out.kept (World.grownBy_alloc K _ none) (by cases hv:u12.ownBlock <;> simp)) ⟨K.heap.size,0,none⟩ 1 x rfl (by simp [ZM]) (by omega) (by simp;omega) ?_;intro v1 J hX d2 _))
   have k0:Below N.heap.size N J:=(HB.out.alloc f8 _).grown d2 (by simp;omega) (fun k' d3=>(HO.out.block d3).1)
   go_roundw
   case rel=>exact ⟨i+1,by omega,by go_num,by rw [g2.out];exact hX,k0⟩
   case measure=>simp [intOf];omega
  ·have d4:k=i:=by omega
   subst d4
   have g3:(Xo D).take k=Xo D:=List.take_of_length_le (by rw [U.out.2.2];exact Nat.le_refl _)
   obtain ⟨pX,cX,g4,g5⟩:=(show pA K N.heap.size 5 u12 (Xo D) by rw [<- g3];exact HO.out).seg j6.out
   rw [U.out.2.2] at g4
   subst g4
   have k1:Hid (jU K pX (Xo D)):=g5
   clear g3 g5 HO g0
   go_wp2
   go_loopw [14,15] (fun v x wr=>∃ j:Nat,j<=k/\x=.int .i64 j/\v=.string (Jp (gF (fun q c=>Jl (QY (Xo D)) (Z2 D) q c k) G j))/\Below K.heap.size K wr) (fun _ x _=>k - (intOf x).toNat)
   case atStart=>exact ⟨0,by omega,rfl,rfl,Below.refl _ _⟩
   case round =>
    obtain ⟨j,hj,rfl,rfl,d5⟩:=hrel
    obtain ⟨J,rfl⟩:∃ J,J=wr:=⟨_,rfl⟩
    have a6:Hid (Below K.heap.size K J):=d5
    have k2:K.heap.size<=J.heap.size:=d5.size
    clear d5
    by_cases o0:j < k
    ·go_wp2
     go_loopw [16,17] (fun v x Y=>∃ m:Nat,m<=k/\x=.int .i64 m/\pA Y J.heap.size 5 v (H2 (Xo D) j m)/\Below J.heap.size J Y) (fun _ x _=>k - (intOf x).toNat)
     case atStart=>exact ⟨0,by omega,rfl,pA.nil _ _ _,Below.refl _ _⟩
     case round =>
      obtain ⟨m,hm,rfl,g6,d6⟩:=hrel
      obtain ⟨I,rfl⟩:∃ I,I=wr:=⟨_,rfl⟩
      have a7:Hid (pA I J.heap.size 5 u16 (H2 (Xo D) j m)):=g6
      have a1:Hid (Below J.heap.size J I):=d6
      have k3:J.heap.size<=I.heap.size:=d6.size
      clear g6 d6
      by_cases k4:m < k
      ·have d7:=Jcl pX (Xo D) cX m j I (by omega) (by rw [U.out.2.2];omega) (by rw [U.out.2.2];exact k4) U.out.2.1 ((k1.out.below a6.out).below a1.out)
       rw [U.out.2.2] at d7
       have g7:Hid (H2 (Xo D) j (m+1)=H2 (Xo D) j m ++ [Gf.aQ (Xo D) m j]):=JdF _ _ _
       have o2:(H2 (Xo D) j m).length<=12:=by rw [JaI];omega
       go_wp2_with fail
       refine d7.mono ?_
       rintro e Z ⟨rfl,q,d8⟩
       have g8:Hid (pA Z J.heap.size 5 u16 (H2 (Xo D) j m)):=by rw [d8];exact a7.out.kept (JO I q none) (by cases hv:u16.ownBlock <;> simp)
       have g9:Hid (Below J.heap.size J Z):=by rw [d8];exact below_drewN a1.out q
       have k5:J.heap.size<=Z.heap.size:=g9.out.size
       clear d8 d7 a7 a1
       generalize Gf.aQ (Xo D) m j=y at g7 ⊢
       generalize H2 (Xo D) j m=bl at *
       go_wp2_with (first | (at_builtin;refine Jar rfl (.tmp 62) (.tmp 64) 138 rfl J.heap.size 5 i0 underlying138 b2 b3 b4 b5 u16 bl rfl (g8.out.kept (World.grownBy_alloc Z _ none) (by cases hv:u16.ownBlock <;> simp)) ⟨Z.heap.size,0,none⟩ 1 y rfl (by simp [ZM]) (by omega) (by simp;omega) ?_;intro v1 Q k6 d2 _))
       have k7:Below J.heap.size J Q:=(g9.out.alloc k5 _).grown d2 (by simp;omega) (fun k' d3=>(g8.out.block d3).1)
       go_roundw
       case rel=>exact ⟨m+1,by omega,by go_num,by rw [g7.out];exact k6,k7⟩
       case measure=>simp [intOf];omega
      ·have l0:k=m:=by omega
       subst l0
       obtain ⟨pB,cB,h1,h2⟩:=a7.out.seg (Jdb (Xo D) j k)
       rw [JaI] at h1
       subst h1
       rcases h2.cells with h0 | ⟨bb,ob,l1,l2,h3⟩
       ·exact absurd (congrArg List.length h0) (by rw [JaI];simp;omega)
       subst l1
       have l3:Hid (∀ i,i < k->I.cell? ⟨bb,ob+i,none⟩=some (.int .u8 ((Gf.aQ (Xo D) i j:Nat):Int))):=fun i hi=>by
        rw [h3 i (by rw [JaI];exact hi)]
        unfold H2
        rw [Yq _ _ i hi]
       clear h2 h3 a7
       go_wp2_with fail
       refine (i9.out _).mono ?_
       rintro e l7 ⟨rfl,h4⟩
       rw [h4]
       clear h4 l7
       go_wp2
       have d9:Zo (I.alloc (.cells (madeCells #[ZM 0] G) 5)) I.heap.size 5 I.heap.size G (Qi G (fun c=>if c < 0 then Jl (QY (Xo D)) (Z2 D) j c k else 0)):=by
        have:=Zo.made I I.heap.size 5 G (Nat.le_refl _) (by omega)
        rw [YL G _ (fun c=>if c < 0 then Jl (QY (Xo D)) (Z2 D) j c k else 0) (fun c _=>by rw [if_neg (Nat.not_lt_zero _)])] at this
        exact this
       have e0:Below I.heap.size I (I.alloc (.cells (madeCells #[ZM 0] G) 5)):=(Below.refl _ _).alloc (Nat.le_refl _) _
       generalize I.alloc (.cells (madeCells #[ZM 0] G) 5)=Z at d9 e0 ⊢
       have h5:Hid (Zo Z I.heap.size 5 I.heap.size G (Qi G (fun c=>if c < 0 then Jl (QY (Xo D)) (Z2 D) j c k else 0))):=d9
       have h6:Hid (Below I.heap.size I Z):=e0
       clear d9 e0
       go_loopw [20] (fun x Y=>∃ c:Nat,c<=G/\x=.int .i64 c/\Zo Y I.heap.size 5 I.heap.size G (Qi G (fun d=>if d < c then Jl (QY (Xo D)) (Z2 D) j d k else 0))/\Below I.heap.size I Y) (fun x _=>G - (intOf x).toNat)
       case atStart=>exact ⟨0,by omega,rfl,h5.out,h6.out⟩
       case round =>
        obtain ⟨c,hc,rfl,h7,h8⟩:=hrel
        obtain ⟨Q,rfl⟩:∃ Q,Q=wr:=⟨_,rfl⟩
        have a8:Hid (Zo Q I.heap.size 5 I.heap.size G (Qi G (fun d=>if d < c then Jl (QY (Xo D)) (Z2 D) j d k else 0))):=h7
        have a9:Hid (Below I.heap.size I Q):=h8
        clear h7 h8 h5 h6
        by_cases e1:c < G
        ·go_wp2
         go_loopw [21] (fun x Y=>∃ i:Nat,i<=k/\x=.int .i64 i/\Zo Y I.heap.size 5 I.heap.size G (Qi G (fun d=>if d < c then Jl (QY (Xo D)) (Z2 D) j d k else if d=c then Jl (QY (Xo D)) (Z2 D) j c i else 0))/\Below I.heap.size I Y) (fun x _=>k - (intOf x).toNat)
         case atStart =>
          refine ⟨0,by omega,rfl,?_,a9.out⟩
          rw [YL G _ (fun d=>if d < c then Jl (QY (Xo D)) (Z2 D) j d k else 0) (fun d _=>by by_cases e:d=c <;> simp [e,Jl])]
          exact a8.out
         case round =>
          obtain ⟨i,hi,rfl,h9,i1⟩:=hrel
          obtain ⟨M,rfl⟩:∃ M,M=wr:=⟨_,rfl⟩
          have a2:Hid (Zo M I.heap.size 5 I.heap.size G (Qi G (fun d=>if d < c then Jl (QY (Xo D)) (Z2 D) j d k else if d=c then Jl (QY (Xo D)) (Z2 D) j c i else 0))):=h9
          have a3:Hid (Below I.heap.size I M):=i1
          clear h9 i1 a8 a9
          by_cases i2:i < k
          ·have e2:i < D.length:=by rw [a0.out];exact i2
           have q2:M.cell? ⟨bb,ob+i,none⟩=some (.int .u8 ((Gf.aQ (Xo D) i j:Nat):Int)):=(a3.out.cell (p:=⟨bb,ob+i,none⟩) l2).trans (l3.out i i2)
           have q3:M.cell? ⟨O,X+i*2+1,none⟩=some (.string (Ji D i).2):=by
            rw [a3.out.cell (p:=⟨O,X+i*2+1,none⟩) (by show O < _;omega),a1.out.cell (p:=⟨O,X+i*2+1,none⟩) (by show O < _;omega),a6.out.cell (p:=⟨O,X+i*2+1,none⟩) (by show O < _;omega),HB.out.cell (p:=⟨O,X+i*2+1,none⟩) f4]
            exact (f6.out i e2).2
           have q5:M.cell? ⟨I.heap.size,c,none⟩=some (.int .u8 ((Jl (QY (Xo D)) (Z2 D) j c i:Nat):Int)):=by rw [a2.out.cell c e1 (Jf _ _),Yq _ _ c e1,if_neg (Nat.lt_irrefl _),if_pos rfl]
           have q6:M.frozen? ⟨I.heap.size,c,none⟩=false:=a2.out.free c
           have i3:(Ji D i).2.size=G:=(e7.out _ (sE e2)).2.2
           have e3:=EP (Ji D i).2 c (by rw [i3];exact e1)
           have lx:=Gf.bL (Xo D) i j
           have ly:=xK (Ji D i).2 c
           have ls:Jl (QY (Xo D)) (Z2 D) j c i < 256:=nD (tW _) j c i
           have lm:=Gf.aV lx (Gf.nth (Zj (Ji D i).2) c)
           have a4:Hid (bits .xor .u8 ((Jl (QY (Xo D)) (Z2 D) j c i:Nat):Int) ((Gf.mul (Gf.aQ (Xo D) i j) (Gf.nth (Zj (Ji D i).2) c):Nat):Int)=((Jl (QY (Xo D)) (Z2 D) j c (i+1):Nat):Int)):=by
            show _=_
            rw [u8_xor_nat _ _ ls lm]
            rfl
           have n1:I.heap.size≠bb:=by omega
           have n2:I.heap.size≠O:=by omega
           have e4:Hid (Zo M I.heap.size 5 I.heap.size G (Qi G (fun d=>if d < c then Jl (QY (Xo D)) (Z2 D) j d k else if d=c then Jl (QY (Xo D)) (Z2 D) j c i else 0))):=a2.out
           clear i3 e2
           generalize Jl (QY (Xo D)) (Z2 D) j c i=e5 at q5 ls a4 e4
           generalize Gf.aQ (Xo D) i j=x at q2 lx lm a4
           generalize (Ji D i).2=tt at q3 e3 ly lm a4
           generalize Gf.nth (Zj tt) c=y at e3 ly lm a4
           go_wp2
           refine wp_region_still_tail 20 (by kernel_rfl) (by kernel_rfl) ?_
           simp only [List.take_succ_cons,List.take_zero,List.drop_succ_cons,List.drop_zero]
           repeat still_step
           still_call (JaE x y _ lx ly)
           repeat still_step
           refine wpStill_nil ?_
           rw [a4.out]
           have i4:Hid (Zo (M.drewN 1) I.heap.size 5 I.heap.size G (Qi G (fun d=>if d < c then Jl (QY (Xo D)) (Z2 D) j d k else if d=c then e5 else 0))):=e4.out.drewN 1
           have i5:Hid (Below I.heap.size I (M.drewN 1)):=below_drewN a3.out 1
           have l8:(M.drewN 1).cell? ⟨I.heap.size,c,none⟩=some (.int .u8 (e5:Int)):=q5
           have l9:(M.drewN 1).frozen? ⟨I.heap.size,c,none⟩=false:=q6
           change wpList _ _ _ _ _ (M.drewN 1)
           generalize M.drewN 1=w8 at i4 i5 l8 l9 ⊢
           clear q2 q3 q5 q6 a2 e4 a3 e3
           go_wp2
           go_roundw
           case rel =>
            refine ⟨i+1,by omega,by go_num,?_,i5.out.setCell (Nat.le_refl _) _⟩
            have:=i4.out.set c (Jl (QY (Xo D)) (Z2 D) j c (i+1))
            rw [YL G (fun d=>if d < c then Jl (QY (Xo D)) (Z2 D) j d k else if d=c then Jl (QY (Xo D)) (Z2 D) j c (i+1) else 0) (fun d=>if d=c then Jl (QY (Xo D)) (Z2 D) j c (i+1) else if d < c then Jl (QY (Xo D)) (Z2 D) j d k else if d=c then e5 else 0) (fun d _=>by
             by_cases e:d=c
             ·subst e;rw [if_neg (Nat.lt_irrefl _),if_pos rfl,if_pos rfl]
             ·rw [if_neg e,if_neg e,if_neg e])]
            exact this
           case measure=>simp [intOf];omega
          ·have d4:k=i:=by omega
           subst d4
           go_wp2
           go_roundw
           case rel =>
            refine ⟨c+1,by omega,by go_num,?_,a3.out⟩
            rw [YL G _ (fun d=>if d < c then Jl (QY (Xo D)) (Z2 D) j d k else if d=c then Jl (QY (Xo D)) (Z2 D) j c k else 0) (fun d _=>by
             by_cases e:d < c
             ·rw [if_pos (by omega),if_pos e]
             ·by_cases e':d=c
              ·subst e';rw [if_pos (by omega),if_neg e,if_pos rfl]
              ·rw [if_neg (by omega),if_neg e,if_neg e'])]
            exact a2.out
           case measure=>simp [intOf];omega
        ·have m0:G=c:=by omega
         subst m0
         have e6:Zo Q I.heap.size 5 I.heap.size G (Qi G fun c=>Jl (QY (Xo D)) (Z2 D) j c k):=by
          rw [YL G _ (fun d=>if d < G then Jl (QY (Xo D)) (Z2 D) j d k else 0) (fun d hd=>by rw [if_pos hd])]
          exact a8.out
         have m4:Sem.run prog (convert 138 9 (.slice (some ⟨I.heap.size,0,none⟩) G G)) Q=.ok (.string (Jp (Qi G fun c=>Jl (QY (Xo D)) (Z2 D) j c k))) Q:=by
          have m5:jU Q (some ⟨I.heap.size,0,none⟩) (Qi G fun c=>Jl (QY (Xo D)) (Z2 D) j c k):=⟨XL _ _ (fun d=>nD (tW _) _ _ _),Or.inr ⟨I.heap.size,0,rfl,e6.lt.2,fun d hd=>by
           rw [Jf] at hd
           rw [Nat.zero_add]
           exact e6.cell d hd (Jf _ _)⟩⟩
          have:=WU m5 G
          rw [Jf] at this
          exact this
         have i7:Hid (Jp (gF (fun q c=>Jl (QY (Xo D)) (Z2 D) q c k) G j) ++ Jp (Qi G fun c=>Jl (QY (Xo D)) (Z2 D) j c k)=Jp (gF (fun q c=>Jl (QY (Xo D)) (Z2 D) q c k) G (j+1))):=by
          show _=_
          rw [JcA,Jbm]
         have m6:j*G<=12*1000:=Nat.mul_le_mul (by omega) (by omega)
         have f3:(Jp (gF (fun q c=>Jl (QY (Xo D)) (Z2 D) q c k) G j)).size<=12000:=by rw [xG,YV];omega
         have m7:(Jp (Qi G fun c=>Jl (QY (Xo D)) (Z2 D) j c k)).size<=1000:=by rw [xG,Jf];omega
         have m8:Hid (Below K.heap.size K Q):=a6.out.trans ((a1.out.trans (a9.out.mono k3)).mono k2)
         clear e6 a8 a9 m6
         generalize Jp (Qi G fun c=>Jl (QY (Xo D)) (Z2 D) j c k)=s2 at m4 i7 m7
         generalize Jp (gF (fun q c=>Jl (QY (Xo D)) (Z2 D) q c k) G j)=s1 at *
         go_wp2
         go_roundw
         case rel=>exact ⟨j+1,by omega,by go_num,by rw [<- i7.out],m8.out⟩
         case measure=>simp [intOf];omega
    ·have m9:k=j:=by omega
     subst m9
     have n0:∀ W,Sem.run prog (Instr.slice 9 (.string (Jp (gF (fun q c=>Jl (QY (Xo D)) (Z2 D) q c k) G k))) none (some (.int .i64 (size:Int))) none) W=.ok (.string dt) W:=fun W=>by
      rw [run_slice_string_h W 9 _ underlying9 .i64 (size:Int) (by omega) (by
       rw [xG,YV]
       have:=b7.out
       omega),Int.toNat_natCast,RL,SZ,OE _ _ _ _ b7.out,d0.out]
     have n3:Hid (Below w.heap.size w J):=f7.out.trans ((HB.out.trans (a6.out.mono f8)).mono f7.out.size)
     clear d0 b7
     generalize Jp (gF (fun q c=>Jl (QY (Xo D)) (Z2 D) q c k) G k)=st at n0 ⊢
     go_wp2
     go_ret2
     exact ⟨rfl,n3.out⟩
structure pG (n k:Nat) (S:Int×List (Int×ByteArray)):Prop where
 some_:S.2=[]∨0<=S.1
 le:S.1<=1000
 each:∀ x ∈ S.2,0<=x.1/\x.1 < n/\x.2.size=Jk k S.1.toNat
 one:(S.2.map Prod.fst).Nodup
theorem RV {n:Nat} {S:Int×List (Int×ByteArray)} (v:Yb) (h:pG n k S):pG n k (ZT n k t S v):=by
 by_cases j:v.n=t.1/\v.dT=t.2/\YO n k v=true
 ·have I:=j.2.2
  unfold YO at I
  rw [Bool.and_eq_true] at I
  obtain ⟨c1,c2,c3,c4,c5⟩:=of_decide_eq_true I.2
  by_cases J:S.1 < 0
  ·have M : S.2 = [] := by
    rcases h.some_ with e | e
    ·exact e
    ·omega
   rw [ZO (z:=v.size) j (by rw [if_pos J]),M]
   refine ⟨Or.inr c1,c2,fun x D=>?_,?_⟩
   ·simp at D
    subst D
    exact ⟨c3,c4,c5⟩
   ·simp
  ·rw [ZO (z:=S.1) j (by rw [if_neg J])]
   by_cases G:v.size=S.1/\S.2.any (fun y=>y.1==v.at_)=false
   ·rw [if_pos G]
    refine ⟨Or.inr (by show 0<=S.1;omega),h.le,fun x D=>?_,?_⟩
    ·rcases List.mem_append.1 D with e | e
     ·exact h.each x e
     ·simp at e
      subst e
      exact ⟨c3,c4,by show v.text.size=Jk k S.1.toNat;rw [<- G.1];exact c5⟩
    ·show ((S.2 ++ [(v.at_,v.text)]).map Prod.fst).Nodup
     rw [List.map_append]
     refine List.nodup_append.2 ⟨h.one,by simp,fun a N b K e=>?_⟩
     simp at K
     subst K e
     obtain ⟨y,O,Q⟩:=List.mem_map.1 N
     have:=List.any_eq_false.1 G.2 y O
     exact this (by simp [Q])
   ·rw [if_neg G]
    exact ⟨h.some_,h.le,h.each,h.one⟩
 ·rw [oL j]
  exact h
theorem Jpv (n k:Nat) (t:Int×Int) (L:List Yb):pG n k (Zf n k t L):=by
 have j:∀ (L:List Yb) (S:Int×List (Int×ByteArray)),pG n k S->pG n k (L.foldl (ZT n k t) S):=by
  intro L
  induction L with
  | nil=>intro S h;exact h
  | cons v L ih=>intro S h;exact ih _ (RV v h)
 exact j L _ ⟨Or.inl rfl,by show (-1:Int)<=1000;decide,fun x y=>(by cases y),List.nodup_nil⟩
theorem vD (k:Nat) (l:List (Int×ByteArray)) (J:(l.map Prod.fst).Nodup):∀ i,i<=l.length->Qg k l i=l.take (min k i)
 | 0,_=>by simp [Qg]
 | i+1,hi=>by
  have ih:=vD k l J i (by omega)
  have I:Ji l i=l[i]:=by
   unfold Ji
   rw [List.getD_eq_getElem?_getD,List.getElem?_eq_getElem (by omega)]
   rfl
  by_cases O:i < k
  ·have D:min k i=i:=by omega
   have G:min k (i+1)=i+1:=by omega
   rw [D] at ih
   rw [G,rJ (by rw [ih,List.length_take];omega) (by
    rw [ih,List.any_eq_false]
    intro y K M
    obtain ⟨j,Q,N⟩:=List.mem_take_iff_getElem.1 K
    have U:j < i:=by omega
    have e:l[j].1=l[i].1:=by rw [N,<- I];simpa using M
    have:=(List.getElem_inj (h₀:=by rw [List.length_map];omega) (h₁:=by rw [List.length_map];omega) J).1 (show (l.map Prod.fst)[j]'(by rw [List.length_map];omega)=(l.map Prod.fst)[i]'(by rw [List.length_map];omega) by rw [List.getElem_map,List.getElem_map];exact e)
    omega),ih,I]
   exact (List.take_succ_eq_append_getElem (by omega)).symm
  ·have D:min k i=k:=by omega
   have G:min k (i+1)=k:=by omega
   rw [D] at ih
   rw [G,qH (by rw [ih,List.length_take];omega),ih]
theorem FF {n:Nat}  (I:1<=k) (h:¬ (Zf n k t L).2.length < k):(((Zf n k t L).1.toNat:Nat):Int)=(Zf n k t L).1/\(Zf n k t L).1.toNat<=1000/\l5 n k (Zf n k t L).1.toNat (Zf n k t L).2/\∀ i,(Ji (Zf n k t L).2 i).2.size<=100000:=by
 have j:=Jpv n k t L
 generalize Zf n k t L=S at *
 have J:0<=S.1:=by
  rcases j.some_ with e | e
  ·rw [e] at h;simp at h;omega
  ·exact e
 have K:=j.le
 have M:=xR (size:=S.1.toNat) I
 refine ⟨by omega,by omega,⟨?_,?_⟩,fun i=>?_⟩
 ·rw [List.any_eq_false]
  intro x G y
  obtain ⟨N,O,Q⟩:=j.each x G
  unfold j4 at y
  simp only [Bool.or_eq_true,decide_eq_true_eq,Bool.not_eq_true',decide_eq_false_iff_not] at y
  omega
 ·rw [vD k S.2 j.one _ (Nat.le_refl _),List.length_take]
  omega
 ·by_cases D:i < S.2.length
  ·have e : Ji S.2 i = S.2[i] := by
    unfold Ji
    rw [List.getD_eq_getElem?_getD,List.getElem?_eq_getElem D]
    rfl
   have:=(j.each _ (List.getElem_mem D)).2.2
   rw [e,this]
   omega
  ·unfold Ji
   rw [List.getD_eq_getElem?_getD,List.getElem?_eq_none (by omega)]
   show (0:Nat)<=_
   omega
def XH (n k:Nat) (all:List Yb) (S:(Int×Int)×ByteArray×Bool) (v:Yb):(Int×Int)×ByteArray×Bool :=
 if S.2.2=true/\Qd S.1 (v.n,v.dT)=false then S
 else if (Zf n k (v.n,v.dT) all).2.length < k then S
 else ((v.n,v.dT),gB k (Zf n k (v.n,v.dT) all).1.toNat (Qg k (Zf n k (v.n,v.dT) all).2 (Zf n k (v.n,v.dT) all).2.length),true)
def Ys (n k:Nat) (all L:List Yb):(Int×Int)×ByteArray×Bool:=L.foldl (XH n k all) ((0,0),⟨#[]⟩,false)
theorem OP {n:Nat}  (j:i < L.length):Ys n k all (L.take (i+1))=XH n k all (Ys n k all (L.take i)) (Xd L i):=by
 unfold Ys
 rw [List.take_add_one,Xx j,List.foldl_append]
 rfl
theorem Jkh {n:Nat}  (h:S.2.2=true/\Qd S.1 (v.n,v.dT)=false):XH n k all S v=S:=if_pos h
theorem Jki {n:Nat}  (h:¬ (S.2.2=true/\Qd S.1 (v.n,v.dT)=false)) (j:(Zf n k (v.n,v.dT) all).2.length < k):XH n k all S v=S:=by unfold XH;rw [if_neg h,if_pos j]
theorem S6 {n:Nat}  (h:¬ (S.2.2=true/\Qd S.1 (v.n,v.dT)=false)) (j:¬ (Zf n k (v.n,v.dT) all).2.length < k):XH n k all S v=((v.n,v.dT),gB k (Zf n k (v.n,v.dT) all).1.toNat (Qg k (Zf n k (v.n,v.dT) all).2 (Zf n k (v.n,v.dT) all).2.length),true):=by unfold XH;rw [if_neg h,if_neg j]
def rO:ByteArray:=⟨#[108,111,111,107]⟩
def sW:ByteArray:=⟨#[116,111,108,100]⟩
def JJ:ByteArray:=⟨#[107,101,101,112]⟩
def iS:ByteArray:=⟨#[107,101,112,116]⟩
def O1:ByteArray:=⟨#[115,101,97,108]⟩
def Q7:ByteArray:=⟨#[115,101,97,108,101,100]⟩
def Jrl:ByteArray:=⟨#[108,111,111,107,105,110,103]⟩
def OZ:ByteArray:=⟨#[115,101,97,108,105,110,103]⟩
def K2:ByteArray:=⟨#[107,101,101,112,105,110,103]⟩
def R0:ByteArray:=⟨#[100,111,110,101]⟩
def WT:ByteArray:=⟨#[114,101,102,117,115,101,100]⟩
inductive St where
 | looking | sealing | keeping | done | refused
 deriving DecidableEq
def St.word:St->ByteArray
 | .looking=>Jrl
 | .sealing=>OZ
 | .keeping=>K2
 | .done=>R0
 | .refused=>WT
def St.waits:St->ByteArray
 | .looking=>sW
 | .sealing=>Q7
 | .keeping=>iS
 | _=>⟨#[]⟩
structure Za where
 name:ByteArray
 key:ByteArray
 dT:Int
 op:Int
 config:Int
 c:Xg
 next:Xg
 put:Bool
 aI:Bool
 st:St
 from_:List ByteArray
 L:List (List Yb)
 tag:Int×Int
 text:ByteArray
 found:Bool
def Za.sQ (a:Za) (i:Nat):Yb:=⟨a.tag.1,a.tag.2,(a.text.size:Int),(i:Int),JW a.c.k.toNat a.text i⟩
def Za.send (a:Za) (kind:ByteArray) (j:Bool):List Zb:=(List.range a.c.L.length).map fun i=>⟨a.name,Yc a.c.L i,kind,a.key,a.op,a.config,false,if j then [a.sQ i] else []⟩
def Za.begin (a:Za):List Zb:=if a.aI then (if a.st=.sealing then a.send O1 false else []) else a.send rO false
def Xq (from_:List ByteArray) (L:List (List Yb)):List ByteArray->List (List Yb)
 | []=>[]
 | m :: r=>if Xu from_ m then L.getD (ZJ from_ m) [] :: Xq from_ L r else Xq from_ L r
def Yk (n:Int) (v:Yb):Int:=if n < v.n/\v.n<=1099511627776 then v.n else n
def XF (L:List (List Yb)):Int:=L.flatten.foldl Yk 0
def Za.aM (a:Za) (m:Zb):Bool:=decide (a.st.waits≠⟨#[]⟩/\m.kind=a.st.waits/\m.aP=a.name/\m.key=a.key/\m.op=a.op/\m.config=a.config) && (Xu a.c.L m.from_ && !Xu a.from_ m.from_)
def Za.heard (a:Za) (m:Zb):Za:={ a with from_:=a.from_ ++ [m.from_],L:=a.L ++ [m.L] }
def Za.bR (a:Za):Za:=if a.put then { a with tag:=(XF a.L+1,a.dT),found:=true } else { a with tag:=(Ys a.c.n.toNat a.c.k.toNat (Xq a.from_ a.L a.c.L).flatten (Xq a.from_ a.L a.c.L).flatten).1,text:=(Ys a.c.n.toNat a.c.k.toNat (Xq a.from_ a.L a.c.L).flatten (Xq a.from_ a.L a.c.L).flatten).2.1,found:=(Ys a.c.n.toNat a.c.k.toNat (Xq a.from_ a.L a.c.L).flatten (Xq a.from_ a.L a.c.L).flatten).2.2 }
def Za.keeps (a:Za):Za:=if a.aI then { a with st:=.keeping,from_:=[],L:=[],c:=a.next,config:=a.config+1 } else { a with st:=.keeping,from_:=[],L:=[] }
def Za.aD (a:Za) (m:Zb):Za×List Zb :=
 if a.aM m=false then (a,[])
 else if m.shut=true/\a.st≠.sealing then ({ a with st:=.refused },[])
 else if (a.heard m).from_.length < Jh a.c then (a.heard m,[])
 else if a.st=.keeping then ({ a.heard m with st:=.done },[])
 else if (a.heard m).bR.found=false then ({ (a.heard m).bR with st:=.done },[])
 else ((a.heard m).bR.keeps,(a.heard m).bR.keeps.send JJ true)
def Zm (l:List Yb):Nat:=(l.map fun v=>40+v.text.size).sum
def u5 (m:Zb):Nat:=m.from_.size+m.aP.size+m.kind.size+m.key.size+Zm m.L
theorem Jdo {l:List Yb} (h:i < l.length):Zm (l.take (i+1))=Zm (l.take i)+40+(Xd l i).text.size:=by
 unfold Zm
 rw [List.take_add_one,Xx h]
 simp
 omega
theorem Jeg (l:List Yb) (i:Nat):Zm (l.take i)<=Zm l:=by
 have e:Zm l=Zm (l.take i)+Zm (l.drop i):=by
  unfold Zm
  rw [<- List.sum_append,<- List.map_append,List.take_append_drop]
 omega
theorem Ja3 (l:List Yb):40*l.length<=Zm l:=by
 induction l with
 | nil=>simp [Zm]
 | cons v l ih =>
  unfold Zm at ih ⊢
  rw [List.map_cons,List.sum_cons,List.length_cons]
  omega
theorem Jeh (m:Zb) (p:Option Addr) (c:Nat) (w:World) (X:Ql Ze w p m.L) (hl:u5 m<=9223372036854775807) :
 Calls prog 32 #[Z1 m (.slice p m.L.length c)] w fun e w'=>e=.returned (.int .i64 ((u5 m:Nat):Int))/\Below w.heap.size w w':=by
 obtain ⟨m1,m2,m3,D,I,J,K,j⟩:=m
 unfold Z1
 unfold u5 at hl ⊢
 simp only [] at *
 obtain ⟨y,G⟩:∃ y,y=w.alloc (.cells #[.string m1,.string m2,.string m3,.string D,.int .i64 I,.int .i64 J,.bool K,.slice p j.length c] 59):=⟨_,rfl⟩
 have Q:Hid (y=w.alloc (.cells #[.string m1,.string m2,.string m3,.string D,.int .i64 I,.int .i64 J,.bool K,.slice p j.length c] 59)):=G
 have M:Below w.heap.size w y:=by rw [G];exact (Below.refl _ _).alloc (Nat.le_refl _) _
 have q7:y.cell? ⟨w.heap.size,7,none⟩=some (.slice p j.length c):=by rw [G,World.cell?_alloc_at _ _ _ _ rfl];rfl
 have Y:Hid (Ql Ze y p j):=X.below M
 have Z:Hid (Below w.heap.size w y):=M
 have a8:=Ja3 j
 have a0:Hid (∀ i,Zm (j.take i)<=Zm j):=Jeg j
 have a1:Hid (∀ i,i < j.length->Zm (j.take (i+1))=Zm (j.take i)+40+(Xd j i).text.size):=fun i hi=>Jdo hi
 have a2:Hid (Zm (j.take j.length)=Zm j):=by show _=_;rw [List.take_length]
 have U:Zm (j.take 0)=0:=by simp [Zm]
 have a3:Hid (Zm (j.take 0)=0):=U
 clear G M X U
 go_enter func32,ntmps32
 go_wp2
 rw [show w.alloc (.cells #[.string m1,.string m2,.string m3,.string D,.int .i64 I,.int .i64 J,.bool K,.slice p j.length c] 59)=y from Q.out.symm]
 clear Q
 go_loopw [3,4] (fun x i wr=>∃ k:Nat,k<=j.length/\i=.int .i64 k/\x=.int .i64 ((m1.size+m2.size+m3.size+D.size+Zm (j.take k):Nat):Int)/\wr=y) (fun _ i _=>j.length - (intOf i).toNat)
 case atStart=>exact ⟨0,Nat.zero_le _,rfl,by rw [a3.out];congr 1,rfl⟩
 case round =>
  obtain ⟨k,hk,rfl,rfl,a4⟩:=hrel
  subst a4
  by_cases W:k < j.length
  ·obtain ⟨b,o,a5,a9,c0,c1,c2,c3,c4⟩:=QU Y.out W
   subst a5
   have O:=a1.out k W
   have a6:=a0.out (k+1)
   rw [O] at a6
   have a7:Hid (Zm (j.take (k+1))=Zm (j.take k)+40+(Xd j k).text.size):=O
   clear O
   generalize Xd j k=x at *
   obtain ⟨xn,xw,xs,xa,xt⟩:=x
   simp only [] at *
   generalize Zm (j.take k)=q at *
   have hq:((m1.size+m2.size+m3.size+D.size+q:Nat):Int)=(m1.size:Int)+m2.size+m3.size+D.size+q:=by omega
   generalize hN:m1.size+m2.size+m3.size+D.size+q=N at *
   clear hq
   go_wp2
   go_roundw
   case rel=>exact ⟨k+1,by omega,by go_num,by rw [a7.out];congr 1;omega,trivial⟩
   case measure=>simp [intOf];omega
  ·obtain rfl:k=j.length:=by omega
   rw [a2.out]
   go_wp2
   go_ret
   exact ⟨rfl,Z.out⟩
theorem lM {l:List ByteArray} {s:ByteArray} (h:s ∈ l):ZJ l s < l.length:=by
 unfold ZJ
 exact List.findIdx_lt_length_of_exists ⟨s,h,by simp⟩
def QK (a:Za) (x:ByteArray):List Yb:=a.L.getD (ZJ a.from_ x) []
def Zt (x:Int):Prop:=-9223372036854775808<=x/\x<=9223372036854775807
def Za.small (a:Za) (m:Zb):Prop:=a.L.flatten.length+m.L.length<=1000/\m.from_.size<=6000/\∀ v ∈ m.L,v.text.size<=6000
def Yt (a:Za) (l:List ByteArray):List (List Yb):=l.map fun x=>if Xu a.from_ x then QK a x else []
theorem NH {a:Za} {l:List ByteArray} (h:i < l.length):Yt a (l.take (i+1))=Yt a (l.take i) ++ [if Xu a.from_ (Yc l i) then QK a (Yc l i) else []]:=by
 unfold Yt
 rw [List.take_succ_eq_append_getElem h,List.map_append,Xk l i h]
 rfl
theorem B7 (a:Za):∀ l:List ByteArray,(Yt a l).flatten=(Xq a.from_ a.L l).flatten
 | []=>rfl
 | x :: l=>by
  have ih:=B7 a l
  unfold Yt at ih ⊢
  rw [List.map_cons,List.flatten_cons,ih]
  by_cases h:Xu a.from_ x=true
  ·have j:Xq a.from_ a.L (x :: l)=a.L.getD (ZJ a.from_ x) [] :: Xq a.from_ a.L l:=if_pos h
   rw [if_pos h,j,List.flatten_cons]
   rfl
  ·have j:Xq a.from_ a.L (x :: l)=Xq a.from_ a.L l:=if_neg h
   rw [if_neg h,j,List.nil_append]
theorem GF  (j:y ∈ F):ZJ (F ++ [x]) y=ZJ F y:=by
 unfold ZJ
 rw [List.findIdx_append]
 rw [if_pos (List.findIdx_lt_length_of_exists ⟨y,j,by simp⟩)]
theorem D4  (y:x ∉ F):ZJ (F ++ [x]) x=F.length:=by
 unfold ZJ
 rw [List.findIdx_append]
 have h:List.findIdx (fun z=>decide (z=x)) F=F.length:=by
  rw [List.findIdx_eq_length]
  intro z j
  exact decide_eq_false (fun e=>y (e ▸ j))
 rw [if_neg (by omega)]
 simp
theorem JrW {a:Za} (D:a.from_.length=a.L.length) (j:y ∈ a.from_):QK (a.heard m) y=QK a y:=by
 unfold QK Za.heard
 show (a.L ++ [m.L]).getD (ZJ (a.from_ ++ [m.from_]) y) []=_
 rw [GF j,List.getD_eq_getElem?_getD,List.getD_eq_getElem?_getD,List.getElem?_append_left (by rw [<- D];exact lM j)]
theorem JrX {a:Za} (j:a.from_.length=a.L.length) (y:m.from_ ∉ a.from_):QK (a.heard m) m.from_=m.L:=by
 unfold QK Za.heard
 show (a.L ++ [m.L]).getD (ZJ (a.from_ ++ [m.from_]) m.from_) []=_
 rw [D4 y,j,List.getD_eq_getElem?_getD,List.getElem?_append_right (Nat.le_refl _),Nat.sub_self]
 rfl
theorem vU (G:F.Nodup) (y:i < F.length):ZJ F F[i]=i:=DQ y (Xk F i y) fun j D e=>by
 rw [Xk F j (by omega)] at e
 exact List.pairwise_iff_getElem.1 G j i (by omega) y D e
theorem J4 {a:Za} (K:a.from_.length=a.L.length) (M:a.from_.Nodup) (N:∀ x ∈ a.from_,x ∈ a.c.L) (v:Yb):v ∈ (Yt a a.c.L).flatten↔v ∈ a.L.flatten:=by
 simp only [List.mem_flatten]
 constructor
 ·rintro ⟨l,D,j⟩
  unfold Yt at D
  obtain ⟨x,O,rfl⟩:=List.mem_map.1 D
  by_cases y:Xu a.from_ x=true
  ·rw [if_pos y] at j
   have G:ZJ a.from_ x < a.L.length:=by rw [<- K];exact lM (Zl.1 y)
   refine ⟨QK a x,?_,j⟩
   unfold QK
   rw [List.getD_eq_getElem?_getD,List.getElem?_eq_getElem G]
   exact List.getElem_mem G
  ·rw [if_neg y] at j
   cases j
 ·rintro ⟨l,D,j⟩
  obtain ⟨i,y,rfl⟩:=List.getElem_of_mem D
  have I:i < a.from_.length:=by omega
  have J:a.from_[i] ∈ a.from_:=List.getElem_mem I
  refine ⟨QK a a.from_[i],?_,?_⟩
  ·unfold Yt
   refine List.mem_map.2 ⟨a.from_[i],N _ J,?_⟩
   rw [if_pos (Zl.2 J)]
  ·unfold QK
   rw [vU M I,List.getD_eq_getElem?_getD,List.getElem?_eq_getElem y]
   exact j
theorem YE (a:Za):a.bR.c=a.c/\a.bR.key=a.key/\a.bR.name=a.name/\a.bR.aI=a.aI/\a.bR.dT=a.dT/\a.bR.op=a.op/\a.bR.config=a.config/\a.bR.st=a.st/\a.bR.from_=a.from_/\a.bR.L=a.L/\a.bR.put=a.put:=by
 unfold Za.bR
 split <;> exact ⟨rfl,rfl,rfl,rfl,rfl,rfl,rfl,rfl,rfl,rfl,rfl⟩
theorem tH  (h:x ∈ F):F[ZJ F x]'(lM h)=x:=by
 have:=List.findIdx_getElem (p:=fun z=>decide (z=x)) (xs:=F) (w:=lM h)
 exact of_decide_eq_true this
theorem xO (f:Nat->Nat):∀ (n:Nat) (I:List Nat),I.Nodup->(∀ i ∈ I,i < n)->(I.map f).sum<=((List.range n).map f).sum
 | 0,I,_,h=>by
  cases I with
  | nil=>exact Nat.le_refl _
  | cons i I=>exact absurd (h i (by simp)) (Nat.not_lt_zero _)
 | n+1,I,hn,h=>by
  rw [List.range_succ,List.map_append,List.sum_append]
  by_cases y:n ∈ I
  ·have G:I.Perm (n :: I.erase n):=List.perm_cons_erase y
   have e:(I.map f).sum=f n+((I.erase n).map f).sum:=by
    rw [(G.map f).sum_nat,List.map_cons,List.sum_cons]
   have:=xO f n (I.erase n) (hn.erase n) (fun i j=>by
    have D:=(List.Nodup.mem_erase_iff hn).1 j
    have:=h i D.2
    have:=D.1
    omega)
   simp
   omega
  ·have := xO f n I hn (fun i j => by
    have:=h i j
    have:i≠n:=fun e=>y (e ▸ j)
    omega)
   omega
theorem JrZ (L:List (List Yb)):L.flatten.length=((List.range L.length).map fun i=>(L.getD i []).length).sum:=by
 rw [List.length_flatten]
 congr 1
 refine List.ext_getElem (by simp) fun i j y=>?_
 simp at j
 simp [List.getElem?_eq_getElem j]
theorem AU {a:Za} (U:a.from_.length=a.L.length) (hn:a.from_.Nodup):∀ l:List ByteArray,l.Nodup->∃ I:List Nat,I.Nodup/\(∀ i ∈ I,i < a.L.length)/\(∀ i ∈ I,∃ x ∈ l,x ∈ a.from_/\i=ZJ a.from_ x)/\(Yt a l).flatten.length=(I.map fun i=>(a.L.getD i []).length).sum
 | [],_=>⟨[],List.nodup_nil,(fun i D=>by cases D),(fun i D=>by cases D),rfl⟩
 | x :: l,h=>by
  obtain ⟨W,X⟩:=List.nodup_cons.1 h
  obtain ⟨I,M,N,K,O⟩:=AU U hn l X
  have e:(Yt a (x :: l)).flatten.length=(if Xu a.from_ x then QK a x else []).length+(Yt a l).flatten.length:=by
   unfold Yt
   rw [List.map_cons,List.flatten_cons,List.length_append]
  by_cases D:Xu a.from_ x=true
  ·have J:=Zl.1 D
   refine ⟨ZJ a.from_ x :: I,List.nodup_cons.2 ⟨fun Y=>?_,M⟩,?_,?_,?_⟩
   ·obtain ⟨y,G,Q,Z⟩:=K _ Y
    have ex:a.from_[ZJ a.from_ x]'(lM J)=x:=tH J
    have ey:a.from_[ZJ a.from_ y]'(lM Q)=y:=tH Q
    have:x=y:=by rw [<- ex,<- ey];simp only [Z]
    exact W (this ▸ G)
   ·intro i j
    rcases List.mem_cons.1 j with rfl | j
    ·rw [<- U];exact lM J
    ·exact N i j
   ·intro i j
    rcases List.mem_cons.1 j with rfl | j
    ·exact ⟨x,by simp,J,rfl⟩
    ·obtain ⟨y,G,g⟩:=K i j
     exact ⟨y,by simp [G],g⟩
   ·rw [e,if_pos D,O,List.map_cons,List.sum_cons]
    rfl
  ·refine ⟨I,M,N,fun i j=>?_,?_⟩
   ·obtain ⟨y,G,g⟩:=K i j
    exact ⟨y,by simp [G],g⟩
   ·rw [e,if_neg D,O]
    simp
theorem PH {a:Za} (G:a.from_.length=a.L.length) (J:a.from_.Nodup) {l:List ByteArray} (K:l.Nodup):(Yt a l).flatten.length<=a.L.flatten.length:=by
 obtain ⟨I,j,y,_,D⟩:=AU G J l K
 rw [D,JrZ]
 exact xO _ _ I j y
theorem Jcm:∀ {l:List Yb} {v:Yb},v ∈ l->v.text.size<=Zm l
 | u :: l,v,h=>by
  have e:Zm (u :: l)=40+u.text.size+Zm l:=by unfold Zm;rw [List.map_cons,List.sum_cons]
  rw [e]
  rcases List.mem_cons.1 h with rfl | h
  ·omega
  ·have:=Jcm h
   omega
theorem Jef {a:Za} (h:Zm a.L.flatten+u5 m<=6000):a.small m:=by
 unfold u5 at h
 have y:=Ja3 m.L
 have D:=Ja3 a.L.flatten
 refine ⟨by omega,by omega,fun v j=>?_⟩
 have:=Jcm j
 omega
theorem EM {a:Za} (h:a.small m):m.from_.size<=6000/\m.L.length<=1000/\(∀ v ∈ m.L,v.text.size<=6000)/\a.L.flatten.length<=1000/\(a.heard m).L.flatten.length<=1000:=by
 obtain ⟨D,j,y⟩:=h
 have G:(a.heard m).L.flatten.length=a.L.flatten.length+m.L.length:=by
  show (a.L ++ [m.L]).flatten.length=_
  rw [List.flatten_append,List.length_append]
  simp
 exact ⟨j,by omega,y,by omega,by omega⟩
def pD (B:Nat) (w:World) (p:Option Addr) (l:List Zb):Prop:=∃ j:List (Zb×Lv),j.map Prod.fst=l/\Ql mE w p j/\(∀ x ∈ j,Jn w x/\∀ b o,x.2.1=some ⟨b,o,none⟩->B<=b)/\∀ b o,p=some ⟨b,o,none⟩->B<=b
theorem pD.at_   (h:pD B w p l):mN w p l:=by
 obtain ⟨j,y,D,G,_⟩:=h
 exact ⟨j,y,D,fun x I=>(G x I).1⟩
theorem pD.mono {D:Nat}  (h:pD B w p l) (G:D<=B):pD D w p l:=by
 obtain ⟨I,J,K,j,M⟩:=h
 exact ⟨I,J,K,fun x y=>⟨(j x y).1,fun b o e=>Nat.le_trans G ((j x y).2 b o e)⟩,fun b o e=>Nat.le_trans G (M b o e)⟩
theorem pD.below   (h:pD B w p l) (D:Below w.heap.size w w'):pD B w' p l:=by
 obtain ⟨G,I,J,j,K⟩:=h
 exact ⟨G,I,J.below D,fun x y=>⟨(j x y).1.below D,(j x y).2⟩,K⟩
theorem pD.nJ   (h:pD B w p l) (Q:w.heap.size<=w'.heap.size) (U:∀ k,B<=k->k < w.heap.size->w'.heap[k]?=w.heap[k]?):mN w' p l:=by
 obtain ⟨W,X,Y,Z,h4⟩:=h
 refine ⟨W,X,?_,fun x K=>?_⟩
 ·rcases Y with M | ⟨b,o,D,G,N⟩
  ·exact Or.inl M
  ·exact Or.inr ⟨b,o,D,Nat.lt_of_lt_of_le G Q,fun j x K I u O=>(World.cell?_of_block (a:=⟨b,o+j*mE.k+I,none⟩) (U b (h4 b o D) G)).trans (N j x K I u O)⟩
 ·obtain ⟨J,g2⟩:=Z x K
  refine ⟨J.len,?_,J.room,J.empty⟩
  rcases J.eC with M | ⟨b,o,D,G,N⟩
  ·exact Or.inl M
  ·exact Or.inr ⟨b,o,D,Nat.lt_of_lt_of_le G Q,fun j y hy I u O=>(World.cell?_of_block (a:=⟨b,o+j*Ze.k+I,none⟩) (U b (g2 b o D) G)).trans (N j y hy I u O)⟩
def iU (O:Nat->Prop) (w:World) (p:Option Addr) (l:List Zb):Prop:=∃ j:List (Zb×Lv),j.map Prod.fst=l/\Ql mE w p j/\(∀ x ∈ j,Jn w x/\∀ b o,x.2.1=some ⟨b,o,none⟩->O b)/\∀ b o,p=some ⟨b,o,none⟩->O b
theorem iU.mono {D:Nat->Prop}  (h:iU O w p l) (G:∀ b,O b->D b):iU D w p l:=by
 obtain ⟨I,J,K,j,M⟩:=h
 exact ⟨I,J,K,fun x y=>⟨(j x y).1,fun b o e=>G b ((j x y).2 b o e)⟩,fun b o e=>G b (M b o e)⟩
theorem iU.new   (h:iU O w p l) (j:∀ b,O b->B<=b):pD B w p l:=h.mono j
theorem iU.nil (O:Nat->Prop) (w:World):iU O w none []:=⟨[],rfl,Ql.nil _ _,(fun x j=>by cases j),(fun b o e=>by cases e)⟩
structure QE (c B:Nat) (w:World) (p:Option Addr) (l:List Zb):Prop where
 msgs:iU (fun b=>B<=b/\b < w.heap.size) w p l
 room:l.length<=c
 empty:p=none->l.length=0/\c=0
structure Qp (c:Nat) (O:Nat->Prop) (w:World) (p:Option Addr) (l:List Zb):Prop where
 msgs:iU O w p l
 room:l.length<=c
 empty:p=none->l.length=0/\c=0
theorem QE.n   (h:QE c B w p l):pD B w p l:=h.msgs.new (fun _ j=>j.1)
theorem QE.nil (B:Nat) (w:World):QE 0 B w none []:=⟨iU.nil _ _,Nat.le_refl _,fun _=>⟨rfl,rfl⟩⟩
theorem Qp.nil (O:Nat->Prop) (w:World):Qp 0 O w none []:=⟨iU.nil _ _,Nat.le_refl _,fun _=>⟨rfl,rfl⟩⟩
theorem QE.mono {y:Nat}  (h:QE c B w p l) (D:y<=B):QE c y w p l:=⟨h.msgs.mono (fun _ j=>⟨Nat.le_trans D j.1,j.2⟩),h.room,h.empty⟩
theorem Qp.mono {j:Nat->Prop}  (h:Qp c O w p l) (y:∀ b,O b->j b):Qp c j w p l:=⟨h.msgs.mono y,h.room,h.empty⟩
theorem QE.out   (h:QE c B w p l) (y:∀ b,B<=b->b < w.heap.size->O b):Qp c O w p l:=⟨h.msgs.mono (fun b j=>y b j.1 j.2),h.room,h.empty⟩
theorem Qp.new   (h:Qp c O w p l) (j:∀ b,O b->B<=b):pD B w p l:=h.msgs.new j
section
def Zq (w:World) (B:Nat) (v:Value) (l:List ByteArray):Prop:=JM w B 9 v (l.map Value.string)
theorem Zq.nil (w:World) (B:Nat):Zq w B (.slice none 0 0) []:=JM.nil w B _
theorem Zq.block  {v:Value} {l:List ByteArray} (h:Zq w B v l) (j:v.ownBlock=some k):B<=k/\k < w.heap.size:=JM.block h j
theorem Zq.form  {v:Value} {l:List ByteArray} (h:Zq w B v l):∃ p c,v=.slice p l.length c/\Strs w p l/\l.length<=c/\(p=none->c=0)/\∀ b o,p=some ⟨b,o,none⟩->B<=b/\b < w.heap.size:=by
 have G:=JM.cells h
 have I:w.ownsRow B 9 1 v (l.map Value.string).length (l.map Value.string):=h
 rcases I.2 with ⟨rfl,J⟩ | ⟨g,K,Y,rfl,M,N,j,Z,a0,a1⟩
 ·have e:l=[]:=by simpa using J
  subst e
  exact ⟨none,0,rfl,Or.inl rfl,Nat.le_refl _,fun _=>rfl,fun _ _ h=>by cases h⟩
 ·rw [List.length_map] at j ⊢
  have y:g < w.heap.size:=(Array.getElem?_eq_some_iff.1 N).1
  refine ⟨some ⟨g,0,none⟩,K,rfl,Or.inr ⟨g,0,rfl,y,fun i D=>?_⟩,j,fun h=>(by cases h),fun b o h=>?_⟩
  ·rcases G with ⟨O,_⟩ | ⟨Q,a2,U,_,_,W⟩
   ·cases O
   ·have X : g = Q := by
     have:=congrArg Value.ownBlock U
     simpa [Value.ownBlock] using this
    subst X
    rw [Nat.zero_add,W i (.string (Yc l i)) (by rw [List.getElem?_map,List.getElem?_eq_getElem D,Xk l i D];rfl)]
  ·obtain ⟨rfl,rfl⟩:g=b/\0=o:=by simpa using h
   exact ⟨M,y⟩
section
variable {w:World}
theorem R8 {M:Array Oper} {N:List Oper} {o:Oper} {a:Act} {Q:Exit->Act->World->Prop} (Y:o.guard=none) (s x:Operand)
 (Z:o.op=.call { callee:=.builtin .append,args:=#[s,x],argTypes:=#[22,22] })
 (B:Nat) (v:Value) (l:List ByteArray) (hs:a.eval s=v) (I:Zq w B v l) (q:Option Addr) (r:List ByteArray) (c:Nat) (hx:a.eval x=.slice q r.length c) (hq:Strs w q r) (a7:q=none->r=[]/\c=0) (hl:l.length+r.length<=8796093022208) (a0:B<=w.heap.size)
 (h:∀ D w',Zq w' B D (l ++ r)->Below B w w'->wpList prog M Q N (a.put o.dst D) w'):wpList prog M Q (o :: N) a w:=by
 obtain ⟨O,U,a1,a2,a3⟩:=info_parts (P:=prog) (e:=9) (z:=.string ⟨#[]⟩) (size:=1) (bytes:=16) (by kernel_rfl)
 have a4:∀ D w',w'.ownsRow B 9 1 D ((l.map Value.string).length+r.length) (l.map Value.string ++ r.map Value.string)->w.grownBy w' v.ownBlock->wpList prog M Q N (a.put o.dst D) w':=fun D w' J K=>by
  refine h D w' ?_ ((Below.refl _ _).grown K a0 (fun k hk=>(I.block hk).1))
  unfold Zq JM
  have e:(l.map Value.string ++ r.map Value.string).length=(l.map Value.string).length+r.length:=by simp
  rw [List.map_append,e]
  exact J
 cases q with
 | none =>
  obtain ⟨hr,hc⟩:=a7 rfl
  subst hr hc
  refine wpList_append_own_none Y s x _ Z B 9 O 1 underlying22 U v (l.map Value.string).length (l.map Value.string) hs I hx ?_
  have:=h v w (by rw [List.append_nil];exact I) (Below.refl _ _)
  exact this
 | some ad =>
  refine wpList_append_own w Y s x _ Z B 9 O (.string ⟨#[]⟩) 1 16 underlying22 U a1 a2 a3 rfl (by decide) v (l.map Value.string).length (l.map Value.string) hs I ad r.length c (r.map Value.string) hx (by simp) ?_ ?_ (by rw [List.length_map];unfold maxLen;omega) (by rw [List.length_map];omega) a0 (fun D w' J K _=>a4 D w' J K)
  ·intro j u W
   rw [List.getElem?_map] at W
   obtain ⟨y,X,a5⟩:=Option.map_eq_some_iff.1 W
   have G:j < r.length:=(List.getElem?_eq_some_iff.1 X).1
   rcases hq with h0 | ⟨b,o',hp,_,a6⟩
   ·rw [h0] at G;exact absurd G (Nat.not_lt_zero _)
   ·obtain rfl:ad=⟨b,o',none⟩:=by simpa using hp
    rw [Addr.add_lit,a6 j G,Xk r j G,<- a5,(List.getElem?_eq_some_iff.1 X).2]
  ·intro u hu
   obtain ⟨y,_,rfl⟩:=List.mem_map.1 hu
   rfl
end
end
def iE (c:Xg) (lv:Value):Value:=.agg #[.int .i64 c.n,.int .i64 c.k,lv]
structure Zp (w:World) (ad:Nat->Addr):Prop where
 c1:w.cell? ⟨0,0,none⟩=some (.iface 252 (.pointer (some (ad 1))))
 c2:w.cell? ⟨2,0,none⟩=some (.iface 252 (.pointer (some (ad 2))))
 c3:w.cell? ⟨3,0,none⟩=some (.iface 252 (.pointer (some (ad 3))))
 c4:w.cell? ⟨4,0,none⟩=some (.iface 252 (.pointer (some (ad 4))))
 c5:w.cell? ⟨5,0,none⟩=some (.iface 252 (.pointer (some (ad 5))))
theorem Zp.below  (h:Zp w ad) (j:Below w.heap.size w w'):Zp w' ad where
 c1:=(j.cell (Yl h.c1)).trans h.c1
 c2:=(j.cell (Yl h.c2)).trans h.c2
 c3:=(j.cell (Yl h.c3)).trans h.c3
 c4:=(j.cell (Yl h.c4)).trans h.c4
 c5:=(j.cell (Yl h.c5)).trans h.c5
def Jt5 (c:Xg):Prop:=(-9223372036854775808<=c.n/\c.n<=9223372036854775807)/\-9223372036854775808<=c.k/\c.k<=9223372036854775807
structure Yn (w:World) (c:Xg) (p:Option Addr) (cap:Nat):Prop where
 strs:Strs w p c.L
 room:c.L.length<=cap
 empty:p=none->c.L=[]/\cap=0
 len:c.L.length<=1000
 size:∀ x ∈ c.L,x.size<=1000
 ints:Jt5 c
theorem Yn.below {c:Xg}  (h:Yn w c p j) (y:Below w.heap.size w w'):Yn w' c p j:=⟨h.strs.below y,h.room,h.empty,h.len,h.size,h.ints⟩
theorem Jd.isNil  {j:Value} {at_:Int} (h:Jd w ad j 0 at_):j=.nilIface:=by
 rcases h with ⟨h,_⟩ | ⟨i,_,_,h,_⟩ | ⟨i,_,_,_,h,_⟩
 ·exact h
 ·omega
 ·omega
def Jt (v:Yb):Prop:=(-9223372036854775808<=v.n/\v.n<=9223372036854775807)/\(-9223372036854775808<=v.dT/\v.dT<=9223372036854775807)/\(-9223372036854775808<=v.size/\v.size<=9223372036854775807)/\-9223372036854775808<=v.at_/\v.at_<=9223372036854775807
def pE (v:Yb):Bool:=decide (200 < v.size/\v.size<=1000)
def Jcf (L:List Yb):Nat:=(L.map fun v=>1+v.text.size / 20).sum
theorem Jel  (y:j < L.length):(L.take (j+1)).any pE=((L.take j).any pE || pE (Xd L j)):=by
 rw [List.take_add_one,Xx y,List.any_append]
 simp
theorem Jd6  (y:j < L.length) (h:pE (Xd L j)=true):L.any pE=true:=by
 refine List.any_eq_true.2 ⟨_,?_,h⟩
 have:=Xx y
 exact List.mem_of_getElem? this
def KC:ByteArray:=⟨#[109,111,118,101,114]⟩
structure lN where
 op:Int
 f:Xg
 t:Xg
 config:Int
 key:ByteArray
def lN.fits (b:lN):Prop:=0<=b.op/\0<=b.config/\b.config < 9223372036854775807
def lH (b:lN):Int×Int:=if 0 < (Jg b.f).1 then Jg b.f else if 0 < (Jg b.t).1 then Jg b.t else if Jo b.key=false then (4,-1) else if 0<=b.op/\0<=b.config/\b.config < 9223372036854775807 then (0,-1) else (2,-1)
def lN.mover (b:lN):Za:=⟨KC,b.key,0,b.op,b.config,b.f,b.t,false,true,.sealing,[],[],(0,0),⟨#[]⟩,false⟩
def BQ (y:World->Nat->Nat->(Nat->Prop)->Za->Prop) (ad:Nat->Addr) (b:lN) (B:Nat) (e:Ending) (w':World):Prop :=
 ∃ j,Jd w' ad j (lH b).1 (lH b).2/\((0 < (lH b).1/\e=.returned (.tuple #[.pointer none,j]))∨¬ 0 < (lH b).1/\∃ h S,e=.returned (.tuple #[.pointer (some ⟨h,0,none⟩),j])/\y w' B h S b.mover)
structure Yr (ad:Nat->Addr) (X:World->Prop) (Ck:World->Nat->Nat->(Nat->Prop)->Za->Prop):Prop where
 dH:∀ {w B h S a},Ck w B h S a->∀ k,S k->B<=k/\k < w.heap.size
 aS:∀ {w w' B h S a},Ck w B h S a->Below B w w'->(∀ k,S k->w'.heap[k]?=w.heap[k]?)->Ck w' B h S a
 new:∀ (b:lN) (p:Option Addr) (cap:Nat) (q:Option Addr) (cap2:Nat) (w:World),Yn w b.f p cap->Yn w b.t q cap2->b.key.size<=1000->Zt b.op->Zt b.config->Zp w ad->X w->Calls prog 24 #[.int .i64 b.op,iE b.f (.slice p b.f.L.length cap),iE b.t (.slice q b.t.L.length cap2),.int .i64 b.config,.string b.key] w fun e w'=>BQ Ck ad b w.heap.size e w'/\Below w.heap.size w w'
 begin:∀ {w B h S a},Ck w B h S a->X w->Calls prog 28 #[.pointer (some ⟨h,0,none⟩)] w fun e w'=>(∃ p c,e=.returned (.slice p a.begin.length c)/\pD w.heap.size w' p a.begin)/\∃ S',Ck w' B h S' a/\Yd S S' w w'
 aD:∀ {w B h S a} (x:Zb×Lv),Ck w B h S a->Jn w x->(∀ b o,x.2.1=some ⟨b,o,none⟩->¬ S b)->a.small x.1->(∀ v ∈ x.1.L,Jt v)->(∀ W:World,w.heap.size<=W.heap.size->(∀ k,k < w.heap.size->¬ S k->W.heap[k]?=w.heap[k]?)->Zp W ad/\X W)->Calls prog 29 #[.pointer (some ⟨h,0,none⟩),Z1 x.1 (fI x.2)] w fun e w'=>(∃ p c,e=.returned (.slice p (a.aD x.1).2.length c)/\pD w.heap.size w' p (a.aD x.1).2)/\∃ S',Ck w' B h S' (a.aD x.1).1/\Yd S S' w w'
 state:∀ {w B h S a},Ck w B h S a->Calls prog 30 #[.pointer (some ⟨h,0,none⟩)] w fun e w'=>e=.returned (.string a.st.word)/\Below w.heap.size w w'
 answer:∀ {w B h S a},Ck w B h S a->Calls prog 31 #[.pointer (some ⟨h,0,none⟩)] w fun e w'=>e=.returned (if a.st=.done/\a.found=true then .tuple #[.agg #[.int .i64 a.tag.1,.int .i64 a.tag.2],.string a.text,.bool true] else .tuple #[.agg #[.int .i64 0,.int .i64 0],.string ⟨#[]⟩,.bool false])/\Below w.heap.size w w'
def Xv (x:ByteArray):Lit:=.string x.data.toList
theorem rF (h:Xv x=Xv y):x=y:=by
 unfold Xv at h
 injection h with h
 exact ByteArray.ext (Array.toList_inj.1 h)
theorem qR (x:ByteArray):WideAt.IsKeyLit (Xv x):=trivial
def iW (v:Value):Option (DataW Value×List MemPlace):=some (.held v,[])
theorem kE:Maps.Keyed prog 9:=Maps.string_keyed underlying9
theorem qP (j:x.size<=maxLen):keyOf prog 9 (.string x)=some (Xv x):=WideMaps.keyOf_string_mk underlying9 j
abbrev QX (w:World) (b n:Nat) (D:DataW Value):Prop:=w.ownsMap prog 9 iW b n D
theorem QX.tight {n:Nat} (h:QX w b n D):QX w b (Maps.size D) D:=by
 obtain ⟨j,y,G,F,I,rfl⟩:=h
 refine ⟨j,y,G,F,?_,rfl⟩
 rw [Maps.size_eq,length_sorted]
 simp
theorem YS {α:Type}:∀ {l m:List α},l.Nodup->(∀ x ∈ l,x ∈ m)->l.length<=m.length
 | [],_,_,_=>Nat.zero_le _
 | a :: l,m,hn,hs=>by
  classical
  obtain ⟨D,G⟩:=List.nodup_cons.1 hn
  have j:=hs a (by simp)
  have:=YS (l:=l) (m:=m.erase a) G (fun x y=>(List.mem_erase_of_ne (show x≠a from fun e=>D (e ▸ y))).2 (hs x (by simp [y])))
  rw [List.length_erase_of_mem j] at this
  have:=List.length_pos_of_mem j
  simp only [List.length_cons]
  omega
theorem QX.same {n:Nat} (h:QX w b n D) (J:w'.heap[b]?=w.heap[b]?):QX w' b n D:=by
 obtain ⟨j,y,G,I⟩:=h
 exact ⟨j,y,J.trans G,I⟩
structure jA (w w':World) (b:Nat) (D:DataW Value) (key:ByteArray) (v:Value):Prop where
 own:∃ n,QX w' b n (D.put (Xv key) (.held v))
 grown:w.grownBy w' (some b)
theorem zC {n:Nat} {key:ByteArray} {v:Value} (I:QX w b n D) (Q:n < maxLen) (G:key.size<=maxLen) (j:Below w.heap.size w W) :
 ∃ w',(Instr.mapUpdate 89 (.map (some b)) (.string key) v).run prog W=.ok () w'/\jA w w' b D key v:=by
 have J:b < w.heap.size:=World.ownsMap.lt I
 have K:QX W b n D:=I.same (j.block b J)
 obtain ⟨w',M,N,y⟩:=World.ownsMap.update K kE underlying89 Q (val:=v) (d:=.held v) (ps:=[]) (qP G) rfl
 refine ⟨w',M,⟨_,N⟩,⟨y.os.trans j.os,y.tape.trans j.tape,y.output.trans j.output,Nat.le_trans j.size y.size,fun k G O=>?_⟩⟩
 rw [y.block k (Nat.lt_of_lt_of_le G j.size) O]
 exact j.block k G
theorem FI (b:Nat) (W:World):Sem.run prog (binOp .eql 89 (.map (some b)) (.map none)) W=.ok (.bool false) W:=by kernel_rfl
theorem AD (W:World):Sem.run prog (binOp .eql 89 (.map none) (.map none)) W=.ok (.bool true) W:=by kernel_rfl
theorem xB  (h:Below B w.drew W):Below B w W:=⟨h.os,h.tape,h.output,h.size,h.block⟩
def fU (a:Za):Za×List Zb:=if a.from_.length < Jh a.c then (a,[]) else if a.bR.found=false then ({ a.bR with st:=.done },[]) else (a.bR.keeps,a.bR.keeps.send JJ true)
theorem pW {a:Za} (h:a.aM m=false):a.aD m=(a,[]):=if_pos h
theorem qQ {a:Za} (h:a.aM m=true) (j:m.shut=true) (y:a.st≠.sealing):a.aD m=({ a with st:=.refused },[]):=by
 unfold Za.aD
 rw [if_neg (by rw [h];decide),if_pos ⟨j,y⟩]
theorem H8 {a:Za} (h:a.aM m=true) (y:m.shut=false) (D:a.st=.looking):a.aD m=fU (a.heard m):=by
 unfold Za.aD fU
 rw [if_neg (by rw [h];decide),if_neg (fun e=>by rw [y] at e;cases e.1)]
 by_cases j:(a.heard m).from_.length < Jh a.c
 ·rw [if_pos j]
  exact (if_pos j).symm
 ·rw [if_neg j,if_neg (by rw [D];intro e;cases e)]
  exact (if_neg j).symm
theorem uB {a:Za} (h:a.aM m=true) (y:m.shut=false) (D:a.st=.keeping):a.aD m=(if (a.heard m).from_.length < Jh a.c then a.heard m else { a.heard m with st:=.done },[]):=by
 unfold Za.aD
 rw [if_neg (by rw [h];decide),if_neg (fun e=>by rw [y] at e;cases e.1)]
 by_cases j:(a.heard m).from_.length < Jh a.c
 ·rw [if_pos j,if_pos j]
 ·rw [if_neg j,if_neg j,if_pos D]
end Go.Proofs.YtmikbldbfnlfjaaGreatDoor

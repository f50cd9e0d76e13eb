/- Texts laid together. -/
import Derived.Test.YtmikbldbfnlfjaaGreatDoorCs9
import Derived.DeepKeys4
set_option maxRecDepth 100000
set_option maxHeartbeats 8000000
namespace Go.Proofs.YtmikbldbfnlfjaaGreatDoor
open Go.Proofs.Tryz
open Go.RowKit
variable {w w' W:World}{b n k B:Nat}{c:Xg}{a t:Int×Int}{all L:List Yb}{S:Int×List (Int×ByteArray)}{v:Yb}{y x:Value}{D:DataW Value}{j xs G:Int}{T:TypeId}{row:Option Nat}{p:Option Addr}{LL:List (List Yb)}
theorem Jqd (ad:Nat->Addr) (p:Option Addr) (l:List ByteArray) (c:Nat) (w:World) (D:l.length<=1000) (G:l.length<=c) (I:Strs w p l) (j:Zp w ad) :
 Calls prog 102 #[.slice p l.length c] w fun e w'=>(∃ y,e=.returned y/\Jd w' ad y (Xj l).1 (Xj l).2)/\Below w.heap.size w w':=by
 exact IF ad p l c w D G I ⟨j.c1,j.c3,j.c5⟩
structure k8 (w:World) (b:Nat) (c:Xg) (lv:Value):Prop where
 f0:w.cell? ⟨b,0,none⟩=some (.int .i64 c.n)
 f1:w.cell? ⟨b,1,none⟩=some (.int .i64 c.k)
 f2:w.cell? ⟨b,2,none⟩=some lv
theorem k8.below  {lv:Value} (h:k8 w b c lv) (j:Below w.heap.size w w'):k8 w' b c lv :=
 ⟨(j.cell (Yl h.f0)).trans h.f0,(j.cell (Yl h.f0)).trans h.f1,(j.cell (Yl h.f0)).trans h.f2⟩
theorem AA (w:World) (c:Xg) (lv:Value) (t:TypeId):k8 (w.alloc (.cells #[.int .i64 c.n,.int .i64 c.k,lv] t)) w.heap.size c lv :=
 ⟨by rw [World.cell?_alloc_at _ _ _ _ rfl];rfl,by rw [World.cell?_alloc_at _ _ _ _ rfl];rfl,by rw [World.cell?_alloc_at _ _ _ _ rfl];rfl⟩
theorem qU (ad:Nat->Addr) (c:Xg) (p:Option Addr) (K:Nat) (w:World) (O:Yn w c p K) (hE:Zp w ad) :
 Calls prog 73 #[iE c (.slice p c.L.length K)] w fun e w'=>(∃ I,e=.returned I/\Jd w' ad I (Jg c).1 (Jg c).2)/\Below w.heap.size w w':=by
 obtain ⟨j,Q⟩:∃ j,j=w.alloc (.cells #[.int .i64 c.n,.int .i64 c.k,.slice p c.L.length K] 24):=⟨_,rfl⟩
 have U:Below w.heap.size w j:=by rw [Q];exact (Below.refl _ _).alloc (Nat.le_refl _) _
 have X:k8 j w.heap.size c (.slice p c.L.length K):=by rw [Q];exact AA w c _ _
 have Y:=hE.below U
 have Z:Hid (Calls prog 102 #[.slice p c.L.length K] j fun e w'=>(∃ I,e=.returned I/\Jd w' ad I (Xj c.L).1 (Xj c.L).2)/\Below j.heap.size j w'):=Jqd ad p c.L K j O.len O.room (O.strs.below U) Y
 have a1:Hid (j=w.alloc (.cells #[.int .i64 c.n,.int .i64 c.k,.slice p c.L.length K] 24)):=Q
 have a0:Hid (Below w.heap.size w j):=U
 have M:Hid (∀ W,Calls prog 101 #[.int .i64 c.n,.int .i64 c.k] W fun e w'=>e=.returned (.bool (decide (1<=c.k/\c.k<=c.n/\c.n<=12)))/\w'=W):=fun W=>xC c.n c.k W
 have q1:=Y.c1
 have q2:=Y.c2
 have f0:=X.f0
 have f1:=X.f1
 have f2:=X.f2
 have a4:Hid (∀ W,Jd W ad (.iface 252 (.pointer (some (ad 1)))) 2 (-1)):=fun W=>Jd.b8 1 (by decide)
 have a5:Hid (∀ W,Jd W ad (.iface 252 (.pointer (some (ad 2)))) 3 (-1)):=fun W=>Jd.b8 2 (by decide)
 have a8:=O.len
 unfold iE
 clear Q U X Y hE O
 by_cases y:1<=c.k/\c.k<=c.n/\c.n<=12
 ·have J:Hid (∀ W,Calls prog 101 #[.int .i64 c.n,.int .i64 c.k] W fun e w'=>e=.returned (.bool true)/\w'=W):=fun W=>by have:=M.out W;rw [decide_eq_true y] at this;exact this
  by_cases hn:(c.L.length:Int)=c.n
  ·have D:Hid (Jg c=Xj c.L):=wU y hn
   rw [D.out]
   obtain ⟨n,k,L⟩:=c
   dsimp only at *
   subst hn
   clear M D y
   generalize Xj L=R at *
   go_enter func73,ntmps73
   go_wp2_with fail
   rw [<- a1.out]
   refine (J.out _).mono ?_
   rintro e N ⟨rfl,G⟩
   rw [G]
   clear G N J
   go_wp2_with fail
   refine Z.out.mono ?_
   rintro e w3 ⟨⟨I,rfl,a2⟩,a3⟩
   have a6:Hid (Below w.heap.size w w3):=a0.out.trans (a3.mono a0.out.size)
   have a7:Hid (Jd w3 ad I R.1 R.2):=a2
   clear a2 a3 Z
   go_wp2
   go_ret
   exact ⟨⟨_,rfl,a7.out⟩,a6.out⟩
  ·have D:Hid (Jg c=(3,-1)):=FM y hn
   rw [D.out]
   obtain ⟨n,k,L⟩:=c
   dsimp only at *
   clear M D y Z
   go_enter func73,ntmps73
   go_wp2_with fail
   rw [<- a1.out]
   refine (J.out _).mono ?_
   rintro e N ⟨rfl,G⟩
   rw [G]
   clear G N J
   go_wp2
   go_ret
   exact ⟨⟨_,rfl,a5.out _⟩,a0.out⟩
 ·have D:Hid (Jg c=(2,-1)):=vZ y
  have J:Hid (∀ W,Calls prog 101 #[.int .i64 c.n,.int .i64 c.k] W fun e w'=>e=.returned (.bool false)/\w'=W):=fun W=>by have:=M.out W;rw [decide_eq_false y] at this;exact this
  rw [D.out]
  obtain ⟨n,k,L⟩:=c
  dsimp only at *
  clear M D y Z
  go_enter func73,ntmps73
  go_wp2_with fail
  rw [<- a1.out]
  refine (J.out _).mono ?_
  rintro e N ⟨rfl,G⟩
  rw [G]
  clear G N J
  go_wp2
  go_ret
  exact ⟨⟨_,rfl,a4.out _⟩,a0.out⟩
theorem JlQ (ad:Nat->Addr) (c:Xg) (p:Option Addr) (y:Nat) (w:World) (hc:Yn w c p y) (hE:Zp w ad) :
 Calls prog 105 #[iE c (.slice p c.L.length y)] w fun e w'=>(∃ K,e=.returned (.tuple #[.int .i64 ((if 0 < (Jg c).1 then 0 else Jh c:Nat):Int),K])/\Jd w' ad K (Jg c).1 (Jg c).2)/\Below w.heap.size w w':=by
 obtain ⟨j,N⟩:∃ j,j=w.alloc (.cells #[.int .i64 c.n,.int .i64 c.k,.slice p c.L.length y] 24):=⟨_,rfl⟩
 have O:Below w.heap.size w j:=by rw [N];exact (Below.refl _ _).alloc (Nat.le_refl _) _
 have M:k8 j w.heap.size c (.slice p c.L.length y):=by rw [N];exact AA w c _ _
 have D:=qU ad c p y j (hc.below O) (hE.below O)
 have a0:Hid (j=w.alloc (.cells #[.int .i64 c.n,.int .i64 c.k,.slice p c.L.length y] 24)):=N
 have Q:Hid (Below w.heap.size w j):=O
 have a1:Hid (k8 j w.heap.size c (.slice p c.L.length y)):=M
 have f0:=M.f0
 have f1:=M.f1
 have f2:=M.f2
 unfold iE at D ⊢
 clear N O M hE hc
 by_cases G:0 < (Jg c).1
 ·rw [if_pos G]
  have HP:Hid (0 < (Jg c).1):=G
  clear G
  generalize Jg c=R at *
  obtain ⟨n,k,L⟩:=c
  dsimp only at *
  go_enter func105,ntmps105
  go_wp2_with fail
  rw [<- a0.out]
  refine D.mono ?_
  rintro e U ⟨⟨K,rfl,I⟩,J⟩
  have X:Hid (Below w.heap.size w U):=Q.out.trans (J.mono Q.out.size)
  have a2:Hid (Jd U ad K R.1 R.2):=I
  obtain ⟨et,eu,rfl⟩:=I.some HP.out
  clear I J D
  go_wp2
  go_ret2
  exact ⟨⟨_,rfl,a2.out⟩,X.out⟩
 ·obtain ⟨W,hn,Y,_,_⟩:=Xm G
  rw [if_neg G,Y]
  rw [Y] at D
  have a3:Hid ((c.n+c.k+1) / 2=((Jh c:Nat):Int)):=by
   show _=_
   unfold Jh
   omega
  have a4:1<=c.k:=W.1
  have a5:c.k<=c.n:=W.2.1
  have a6:c.n<=12:=W.2.2
  clear G hn Y W
  generalize Jh c=en at *
  obtain ⟨n,k,L⟩:=c
  dsimp only at *
  go_enter func105,ntmps105
  go_wp2_with fail
  rw [<- a0.out]
  refine D.mono ?_
  rintro e U ⟨⟨K,rfl,I⟩,J⟩
  have X:Hid (Below w.heap.size w U):=Q.out.trans (J.mono Q.out.size)
  have Z:=a1.out.below J
  have g0:=Z.f0
  have g1:=Z.f1
  dsimp only at g0 g1
  obtain rfl:=Jd.isNil I
  clear I J D Z f0 f1 f2
  go_wp2
  go_ret2
  exact ⟨⟨_,by rw [a3.out];rfl,Jd.nil _ _⟩,X.out⟩
theorem W8 (pw ps D j c:Nat) (s:ByteArray) (w:World) (O:j<=1000) (hc:c<=100000) (Q:D<=100000) (hw:w.cell? ⟨pw,0,none⟩=some (.int .i64 (D:Int))) (hs:w.cell? ⟨ps,0,none⟩=some (.string s)) :
 Calls prog 148 (#[.int .i64 (j:Int),.int .i64 (c:Int)] ++ #[.pointer (some ⟨pw,0,none⟩),.pointer (some ⟨ps,0,none⟩)]) w fun e K=>e=.returned (.int .u8 ((gN s D j c:Nat):Int))/\K=w:=by
 have I:j*D<=1000*100000:=Nat.mul_le_mul O Q
 have U:(0:Int)<=(j:Int)*(D:Int):=by rw [<- Int.natCast_mul];omega
 have X:(j:Int)*(D:Int)<=100000000:=by rw [<- Int.natCast_mul];omega
 have Y:IntKind.i64.wrap ((j:Int)*(D:Int))=(j:Int)*(D:Int):=by rw [IntKind.wrap_i64];omega
 have Z:IntKind.i64.wrap ((j:Int)*(D:Int)+(c:Int))=(j:Int)*(D:Int)+(c:Int):=by rw [IntKind.wrap_i64];omega
 by_cases G:j*D+c < s.size
 ·have J:(j:Int)*(D:Int)+(c:Int) < (s.size:Int):=by rw [<- Int.natCast_mul];omega
  have M:(0:Int)<=(j:Int)*(D:Int)+(c:Int):=by omega
  have N:∀ W,Sem.run prog (Instr.index 9 (.string s) (.int .i64 ((j:Int)*(D:Int)+(c:Int)))) W=.ok (.int .u8 ((gN s D j c:Nat):Int)) W:=fun W=>by
   rw [run_index_string W 9 s .i64 _ underlying9,dif_pos ⟨M,J⟩]
   unfold gN
   rw [uD s (j*D+c) G]
   congr 3
  clear G I
  generalize gN s D j c=y at N ⊢
  go_enter func148,ntmps148
  go_wp2
  go_ret
  exact ⟨rfl,rfl⟩
 ·have J:¬ (j:Int)*(D:Int)+(c:Int) < (s.size:Int):=by rw [<- Int.natCast_mul];omega
  rw [VE G]
  clear G I
  go_enter func148,ntmps148
  go_wp2
  go_ret
  exact ⟨rfl,rfl⟩
theorem RO (n k:Nat) (s:ByteArray) (z:Addr) (w:World) (X:1<=k) (e0:k<=n) (hn:n<=12) (hs:s.size<=1000) (hz:w.cell? ⟨11,0,none⟩=some (.iface 252 (.pointer (some z)))) :
 Calls prog 124 #[.int .i64 (n:Int),.int .i64 (k:Int),.string s] w fun e w'=>(∃ g,w.heap.size<=g/\e=.returned (.tuple #[.slice (some ⟨g,0,none⟩) n n,.nilIface])/\ZE w' g n (fR k s))/\Below w.heap.size w w':=by
 have e1:=xR (size:=s.size) X
 obtain ⟨J,N⟩:∃ J,J=w.alloc (.cells #[.string s] 9):=⟨_,rfl⟩
 have Y:Below w.heap.size w J:=by rw [N];exact (Below.refl _ _).alloc (Nat.le_refl _) _
 have d2:J.heap.size=w.heap.size+1:=by rw [N];simp
 have a4:J.cell? ⟨w.heap.size,0,none⟩=some (.string s):=by rw [N,World.cell?_alloc_at _ _ _ _ rfl];rfl
 have HS:=BZ n k s.size z J X e0 hn hs ((Y.cell (p:=⟨11,0,none⟩) (Qf hz)).trans hz)
 have a5:Hid (J=w.alloc (.cells #[.string s] 9)):=N
 have a6:Hid (Below w.heap.size w J):=Y
 have d3:=Jhx n (by omega)
 clear N Y hz
 go_enter func124,ntmps124
 go_wp2_with fail
 rw [<- a5.out]
 refine HS.mono ?_
 rintro e D ⟨⟨gm,rfl,a7⟩,Q⟩
 have e2:J.heap.size<=D.heap.size:=Q.size
 have a8:D.cell? ⟨w.heap.size,0,none⟩=some (.string s):=(Q.cell (p:=⟨w.heap.size,0,none⟩) (by show w.heap.size < _;omega)).trans a4
 have a9:Hid (QJ D (some ⟨gm,0,none⟩) (kK k n)):=a7
 have b0:Hid (Below w.heap.size w D):=a6.out.trans (Q.mono (by omega))
 clear HS a7 Q a6 a5 a4
 have b1:=fun W=>zM s.size k W X (by omega) (by omega)
 have d4:Hid (∀ i,fR k s i=((i:Int),Jp (J7 (fun i j=>Gf.aQ (JB k) j i) (gN s (Jk k s.size)) k (Jk k s.size) i))):=fun i=>rfl
 generalize Jk k s.size=I at *
 go_wp2_with fail
 refine (b1 _).mono ?_
 rintro e d5 ⟨rfl,b2⟩
 rw [b2]
 clear b2 d5 b1
 obtain ⟨G,O⟩:∃ G,G=D.alloc (.cells #[.int .i64 (I:Int)] 3):=⟨_,rfl⟩
 have U:Below D.heap.size D G:=by rw [O];exact (Below.refl _ _).alloc (Nat.le_refl _) _
 have d6:G.heap.size=D.heap.size+1:=by rw [O];simp
 have b3:G.cell? ⟨w.heap.size,0,none⟩=some (.string s):=(U.cell (p:=⟨w.heap.size,0,none⟩) (by show w.heap.size < _;omega)).trans a8
 have b4:G.cell? ⟨D.heap.size,0,none⟩=some (.int .i64 (I:Int)):=by rw [O,World.cell?_alloc_at _ _ _ _ rfl];rfl
 have b5:Hid (Below w.heap.size w G):=b0.out.trans (U.mono (by omega))
 have HT:uI G 148 #[.pointer (some ⟨D.heap.size,0,none⟩),.pointer (some ⟨w.heap.size,0,none⟩)] (gN s I) k I:=fun j c hj hc y h4 =>
  W8 D.heap.size w.heap.size I j c s y (by omega) (by omega) (by omega) ((h4.cell (p:=⟨D.heap.size,0,none⟩) (by show D.heap.size < _;omega)).trans b4) ((h4.cell (p:=⟨w.heap.size,0,none⟩) (by show w.heap.size < _;omega)).trans b3)
 have HR:=F3 (some ⟨gm,0,none⟩) n k I n (fun i j=>Gf.aQ (JB k) j i) (gN s I) 148 #[.pointer (some ⟨D.heap.size,0,none⟩),.pointer (some ⟨w.heap.size,0,none⟩)] G (by omega) (by omega) X (by omega) (by omega) (fun i j=>Gf.bL _ _ _) (fun j c=>DM s I j c) (a9.out.below U) (enters_of func148 (by kernel_rfl) rfl) HT
 have b6:Hid (G=D.alloc (.cells #[.int .i64 (I:Int)] 3)):=O
 have e3:D.heap.size < G.heap.size:=by omega
 have e4:w.heap.size < J.heap.size:=by omega
 clear O U HT a9 b0 a8 d6 d2
 go_wp2_with fail
 rw [<- b6.out]
 refine HR.mono ?_
 rintro e y ⟨rfl,Z,b7⟩
 have d7:Hid (y.rowIs G.heap.size 9 n (fun i=>.string (Jp (J7 (fun i j=>Gf.aQ (JB k) j i) (gN s I) k I i)))):=Z
 have a0:Hid (Below w.heap.size w y):=b5.out.trans (b7.mono (by omega))
 have d8:G.heap.size < y.heap.size:=Z.lt
 clear HR Z b7 b5 b6 b3 b4
 go_wp2
 have a1:=ZE.made y n
 have a2:Below y.heap.size y (y.alloc (.cells (madeCells #[.int .i64 0,.string ⟨#[]⟩] (n*2)) 74)):=(Below.refl _ _).alloc (Nat.le_refl _) _
 generalize y.alloc (.cells (madeCells #[.int .i64 0,.string ⟨#[]⟩] (n*2)) 74)=w5 at a1 a2 ⊢
 have d0:Hid (ZE w5 y.heap.size n (fun _=>(0,⟨#[]⟩))):=a1
 have d1:Hid (Below y.heap.size y w5):=a2
 clear a1 a2 d3
 go_loopw [38] (fun x wr=>∃ i:Nat,i<=n/\x=.int .i64 i/\ZE wr y.heap.size n (fun q=>if q < i then fR k s q else (0,⟨#[]⟩))/\Below y.heap.size y wr) (fun x _=>n - (intOf x).toNat)
 case atStart=>exact ⟨0,by omega,rfl,d0.out.congr (fun q _=>by simp),d1.out⟩
 case round =>
  obtain ⟨i,hi,rfl,hS,hB⟩:=hrel
  obtain ⟨K,rfl⟩:∃ K,K=wr:=⟨_,rfl⟩
  have M:Hid (ZE K y.heap.size n (fun q=>if q < i then fR k s q else (0,⟨#[]⟩))):=hS
  have HB:Hid (Below y.heap.size y K):=hB
  have e5:y.heap.size < K.heap.size:=World.rowIs.lt hS
  clear hS hB d0 d1
  by_cases a3:i < n
  ·have q0 : K.cell? ⟨G.heap.size, i, none⟩ = some (.string (JW k s i)) := by
    rw [HB.out.cell (p:=⟨G.heap.size,i,none⟩) d8,d7.out.cell a3]
    exact congrArg (fun x:Int×ByteArray=>some (Value.string x.2)) (d4.out i).symm
   have q1:K.cell? ⟨y.heap.size,i*2,none⟩=some (.int .i64 0):=by rw [M.out.at_ a3,if_neg (Nat.lt_irrefl _)]
   have q2:K.cell? ⟨y.heap.size,i*2+1,none⟩=some (.string ⟨#[]⟩):=by rw [M.out.text a3,if_neg (Nat.lt_irrefl _)]
   have f1:K.frozen? ⟨y.heap.size,i*2,none⟩=false:=World.rowIs.frozen M.out _
   have f2:K.frozen? ⟨y.heap.size,i*2+1,none⟩=false:=World.rowIs.frozen M.out _
   go_wp2
   go_roundw
   case rel =>
    refine ⟨i+1,by omega,by go_num,?_,?_⟩
    ·refine (M.out.set i (i:Int) (JW k s i)).congr (fun q _=>?_)
     by_cases e:q=i
     ·rw [if_pos e,if_pos (by omega),e]
      rfl
     ·rw [if_neg e]
      by_cases e':q < i
      ·rw [if_pos e',if_pos (by omega)]
      ·rw [if_neg e',if_neg (by omega)]
    ·exact (HB.out.setCell (Nat.le_refl _) _).setCell (Nat.le_refl _) _
   case measure=>simp [intOf];omega
  ·have d9:i=n:=by omega
   subst d9
   go_wp2
   go_ret2
   exact ⟨⟨y.heap.size,by have:=a0.out.size;omega,rfl,M.out.congr (fun q hq=>by rw [if_pos hq])⟩,a0.out.trans (HB.out.mono (a0.out.size))⟩
theorem X8 {b:Int×Int}:Qd a b=true↔a.1 < b.1∨a.1=b.1/\a.2 < b.2:=by simp [Qd]
theorem yQ {b c:Int×Int} (j:Qd a b=true) (y:Qd b c=true):Qd a c=true:=by
 rw [X8] at *
 omega
theorem IL {b:Int×Int} (j:Qd a b=false) (y:Qd b a=false):a=b:=by
 have D:¬ (a.1 < b.1∨a.1=b.1/\a.2 < b.2):=fun h=>by rw [X8.2 h] at j;cases j
 have G:¬ (b.1 < a.1∨b.1=a.1/\b.2 < a.2):=fun h=>by rw [X8.2 h] at y;cases y
 exact Prod.ext (by omega) (by omega)
def Xp (n k:Nat) (all:List Yb) (t:Int×Int):Prop:=k<=(Zf n k t all).2.length
def mP (n k:Nat) (all:List Yb) (t:Int×Int):ByteArray:=gB k (Zf n k t all).1.toNat (Qg k (Zf n k t all).2 (Zf n k t all).2.length)
theorem DG {n k:Nat} {t:Int×Int}:∀ (L:List Yb) (S:Int×List (Int×ByteArray)),(∀ v ∈ L,(v.n,v.dT)≠t)->L.foldl (ZT n k t) S=S
 | [],_,_=>rfl
 | v :: L,S,h=>by
  rw [List.foldl_cons,oL (fun j=>h v (by simp) (Prod.ext j.1 j.2.1))]
  exact DG L S fun u y=>h u (by simp [y])
theorem nZ  (D:1<=k) (h:Xp n k all t):∃ v ∈ all,(v.n,v.dT)=t:=by
 by_cases j:∃ v ∈ all,(v.n,v.dT)=t
 ·exact j
 ·exfalso
  have e:Zf n k t all=(-1,[]):=DG all _ fun v y e=>j ⟨v,y,e⟩
  unfold Xp at h
  rw [e] at h
  simp at h
  omega
structure yX (n k:Nat) (all L:List Yb) (S:(Int×Int)×ByteArray×Bool):Prop where
 no:S.2.2=false->S=((0,0),⟨#[]⟩,false)/\∀ v ∈ L,¬ Xp n k all (v.n,v.dT)
 yes:S.2.2=true->Xp n k all S.1/\S.2.1=mP n k all S.1/\∀ v ∈ L,Xp n k all (v.n,v.dT)->Qd S.1 (v.n,v.dT)=false
theorem RE  {S:(Int×Int)×ByteArray×Bool} (v:Yb) (h:yX n k all L S):yX n k all (L ++ [v]) (XH n k all S v):=by
 by_cases I:S.2.2=true/\Qd S.1 (v.n,v.dT)=false
 ·rw [Jkh I]
  refine ⟨fun j=>(by rw [I.1] at j;cases j),fun j=>⟨(h.yes j).1,(h.yes j).2.1,fun u D G=>?_⟩⟩
  rcases List.mem_append.1 D with e | e
  ·exact (h.yes j).2.2 u e G
  ·rw [List.mem_singleton.1 e];exact I.2
 ·by_cases j:(Zf n k (v.n,v.dT) all).2.length < k
  ·rw [Jki I j]
   have M:¬ Xp n k all (v.n,v.dT):=by unfold Xp;omega
   refine ⟨fun y=>⟨(h.no y).1,fun u D=>?_⟩,fun y=>⟨(h.yes y).1,(h.yes y).2.1,fun u D G=>?_⟩⟩
   ·rcases List.mem_append.1 D with e | e
    ·exact (h.no y).2 u e
    ·rw [List.mem_singleton.1 e];exact M
   ·rcases List.mem_append.1 D with e | e
    ·exact (h.yes y).2.2 u e G
    ·rw [List.mem_singleton.1 e] at G;exact absurd G M
  ·rw [S6 I j]
   have G:Xp n k all (v.n,v.dT):=by unfold Xp;omega
   refine ⟨fun y=>(by cases y),fun _=>⟨G,rfl,fun u D N=>?_⟩⟩
   rcases List.mem_append.1 D with e | e
   ·cases J:S.2.2 with
    | false=>exact absurd N ((h.no J).2 u e)
    | true =>
     have K:Qd S.1 (v.n,v.dT)=true:=by
      cases K:Qd S.1 (v.n,v.dT) with
      | true=>rfl
      | false=>exact absurd ⟨J,K⟩ I
     cases O:Qd (v.n,v.dT) (u.n,u.dT) with
     | false=>rfl
     | true =>
      have:=(h.yes J).2.2 u e N
      rw [yQ K O] at this
      cases this
   ·rw [List.mem_singleton.1 e]
    show Qd (v.n,v.dT) (v.n,v.dT)=false
    simp [Qd]
theorem wG (n k:Nat) (all:List Yb):∀ i,i<=all.length->yX n k all (all.take i) (Ys n k all (all.take i))
 | 0,_=>⟨fun _=>⟨rfl,fun v j=>(by simp at j)⟩,fun h=>(by cases h)⟩
 | i+1,hi=>by
  have ih:=RE (Xd all i) (wG n k all i (by omega))
  rw [OP (by omega)]
  have e:all.take (i+1)=all.take i ++ [Xd all i]:=by rw [List.take_add_one,Xx (by omega)];rfl
  rw [e]
  exact ih
theorem GP  (h:∀ v ∈ all,¬ Xp n k all (v.n,v.dT)):Ys n k all all=((0,0),⟨#[]⟩,false):=by
 have y:=wG n k all all.length (Nat.le_refl _)
 rw [List.take_length] at y
 cases j:(Ys n k all all).2.2 with
 | false=>exact (y.no j).1
 | true =>
  exfalso
  obtain ⟨D,K,M⟩:=y.yes j
  by_cases I:1<=k
  ·obtain ⟨v,J,e⟩:=nZ I D
   exact h v J (by rw [e];exact D)
  ·cases G:all with
   | nil=>rw [G] at j;cases j
   | cons v r=>exact h v (by rw [G];simp) (by unfold Xp;omega)
theorem IS  (M:1<=k) (h:Xp n k all t) (N:∀ u,Xp n k all u->Qd t u=false):Ys n k all all=(t,mP n k all t,true):=by
 have j:=wG n k all all.length (Nat.le_refl _)
 rw [List.take_length] at j
 obtain ⟨v,D,e⟩:=nZ M h
 cases y:(Ys n k all all).2.2 with
 | false=>exact absurd h (by rw [<- e];exact (j.no y).2 v D)
 | true =>
  obtain ⟨J,G,K⟩:=j.yes y
  have I:(Ys n k all all).1=t:=IL (by have:=K v D (by rw [e];exact h);rw [e] at this;exact this) (N _ J)
  rw [I] at G
  exact Prod.ext I (Prod.ext G y)
theorem BR  (L:List Yb):((Zf n k t L).1 < 0↔(Zf n k t L).2=[]):=by
 have I:∀ (L:List Yb) (S:Int×List (Int×ByteArray)),(S.1 < 0↔S.2=[])->((L.foldl (ZT n k t) S).1 < 0↔(L.foldl (ZT n k t) S).2=[]):=by
  intro L
  induction L with
  | nil=>intro S h;exact h
  | cons v L ih =>
   intro S h
   rw [List.foldl_cons]
   refine ih _ ?_
   by_cases D:v.n=t.1/\v.dT=t.2/\YO n k v=true
   ·have G:=D.2.2
    unfold YO at G
    rw [Bool.and_eq_true] at G
    have c1:=(of_decide_eq_true G.2).1
    by_cases y:S.1 < 0
    ·rw [ZO (z:=v.size) D (by rw [if_pos y]),h.1 y]
     simp
     omega
    ·rw [ZO (z:=S.1) D (by rw [if_neg y])]
     have J:S.2≠[]:=fun e=>y (h.2 e)
     constructor
     ·intro j;exact absurd j y
     ·intro j
      dsimp only at j
      split at j
      ·simp at j
      ·exact absurd j J
   ·rw [oL D]
    exact h
 exact I L _ ⟨fun _=>rfl,fun _=>by decide⟩
theorem uX  (L:List Yb) (v:Yb):Zf n k t (L ++ [v])=ZT n k t (Zf n k t L) v:=by
 unfold Zf
 rw [List.foldl_append]
 rfl
section
def iO (t:Int×Int):Value:=.agg #[.int .i64 t.1,.int .i64 t.2]
def YD (t:Int×Int):Lit:=.string (keyBytes [.int .i64 t.1,.int .i64 t.2])
def Jr (t:Int×Int):Prop:=(-9223372036854775808<=t.1/\t.1<=9223372036854775807)/\-9223372036854775808<=t.2/\t.2<=9223372036854775807
theorem PN:laidOutB prog=true:=by kernel_rfl
theorem WK:(46:TypeId) < prog.types.size:=of_decide_eq_true (by kernel_rfl)
theorem JtC:(match prog.underlying 46 with | some (.array _ _) | some (.struct _)=>true | _=>false)=true:=by rw [underlying46]
theorem qN:Maps.Keyed prog 46:=Maps.Keyed.of_law (deep_law_laid PN (m:=3) (by omega) WK (by kernel_rfl) JtC)
theorem ER:prog.keyType 46=true:=by kernel_rfl
theorem yU:prog.cellsOf 46=2:=by kernel_rfl
theorem PF:prog.cellsOf 3=1:=by kernel_rfl
theorem UZ:prog.types.size=283:=by kernel_rfl
theorem uA {a:Int}:(Lit.int .i64 a).wf=true↔-9223372036854775808<=a/\a<=9223372036854775807:=by
 simp [Lit.wf,IntKind.min,IntKind.max,IntKind.bits,IntKind.signed]
theorem Ja9 (m:Nat) (c:Value) (j:List Lit):prog.keyLits (m+1) 3 [c]=some j↔∃ a,c=.int .i64 a/\(Lit.int .i64 a).wf=true/\j=[.int .i64 a]:=by
 constructor
 ·intro h
  cases c <;> simp [Program.keyLits,underlying3] at h
  obtain ⟨⟨rfl,y⟩,rfl⟩:=h
  exact ⟨_,rfl,y,rfl⟩
 ·rintro ⟨a,rfl,h,rfl⟩
  simp [Program.keyLits,underlying3,h]
theorem IX (c0 c1:Value) (J:List Lit):prog.keyLits (prog.types.size+1) 46 [c0,c1]=some J↔∃ a b,c0=.int .i64 a/\c1=.int .i64 b/\(Lit.int .i64 a).wf=true/\(Lit.int .i64 b).wf=true/\J=[.int .i64 a,.int .i64 b]:=by
 obtain ⟨m,K⟩:∃ m,prog.types.size=m+1:=⟨283 - 1,by rw [UZ]⟩
 rw [K]
 unfold Program.keyLits
 rw [underlying46]
 simp only [List.length_cons,List.length_nil,yU,PF,List.mapM_cons,List.mapM_nil,List.drop_zero,List.take_succ_cons,List.take_zero,List.drop_succ_cons]
 constructor
 ·intro h
  cases j:prog.keyLits (m+1) 3 [c0] with
  | none=>simp [j] at h
  | some M =>
   cases y:prog.keyLits (m+1) 3 [c1] with
   | none=>simp [j,y] at h
   | some N =>
    obtain ⟨a,rfl,G,rfl⟩:=(Ja9 m c0 M).1 j
    obtain ⟨b,rfl,I,rfl⟩:=(Ja9 m c1 N).1 y
    simp [j,y] at h
    exact ⟨a,b,rfl,rfl,G,I,h.symm⟩
 ·rintro ⟨a,b,rfl,rfl,G,I,rfl⟩
  simp [(Ja9 m _ _).2 ⟨a,rfl,G,rfl⟩,(Ja9 m _ _).2 ⟨b,rfl,I,rfl⟩]
theorem sO (h:Jr t):keyOf prog 46 (iO t)=some (YD t):=by
 have j:(iO t).formed prog 46=true:=by simp [iO,Value.formed,underlying46,yU]
 have y:=(IX (.int .i64 t.1) (.int .i64 t.2) _).2 ⟨t.1,t.2,rfl,rfl,uA.2 h.1,uA.2 h.2,rfl⟩
 have G:(iO t).cells.toList=[.int .i64 t.1,.int .i64 t.2]:=by simp [iO,Value.cells]
 unfold keyOf
 rw [underlying46]
 simp only [ER,j,Bool.and_self,if_true,G,y]
 rfl
theorem CC {v:Value} {l:Lit} (h:keyOf prog 46 v=some l):∃ t,v=iO t/\l=YD t/\Jr t:=by
 unfold keyOf at h
 rw [underlying46] at h
 simp only [ER,Bool.true_and] at h
 split at h
 ·rename_i j
  obtain ⟨y,G,rfl⟩:=Option.map_eq_some_iff.1 h
  cases v <;> simp [Value.formed,underlying46,yU] at j
  rename_i I
  obtain ⟨J⟩:=I
  match J,j with
  | [c0,c1],_ =>
   have K:prog.keyLits (prog.types.size+1) 46 [c0,c1]=some y:=by simpa [Value.cells] using G
   obtain ⟨a,b,rfl,rfl,M,N,rfl⟩:=(IX c0 c1 y).1 K
   exact ⟨(a,b),rfl,rfl,uA.1 M,uA.1 N⟩
 ·cases h
theorem xX {u:Int×Int} (j:Jr t) (y:Jr u) (h:YD t=YD u):t=u:=by
 have:=qN.inj (sO j) (by rw [h];exact sO y)
 unfold iO at this
 simp at this
 exact Prod.ext this.1 this.2
theorem D6 (t:Int×Int):WideAt.IsKeyLit (YD t):=trivial
def YR:Value->Option (DataW Value×List MemPlace)
 | .agg ⟨[.int .i64 z,.slice p n c]⟩=>some (.held (.agg #[.int .i64 z,.slice p n c]),[])
 | _=>none
def X7 (x:Int×Option Addr×Nat×Nat):Value:=.agg #[.int .i64 x.1,.slice x.2.1 x.2.2.1 x.2.2.2]
theorem zY (x:Int×Option Addr×Nat×Nat):YR (X7 x)=some (.held (X7 x),[]):=rfl
theorem FP {v:Value} {y:DataW Value×List MemPlace} (h:YR v=some y):∃ x,v=X7 x/\y=(.held (X7 x),[]):=by
 unfold YR at h
 split at h
 ·rename_i z p n c
  injection h with h
  exact ⟨(z,p,n,c),rfl,h.symm⟩
 ·cases h
abbrev sR (w:World) (b m:Nat) (D:DataW Value):Prop:=w.ownsMap prog 46 YR b m D
theorem sR.same  (h:sR w b n D) (J:w'.heap[b]?=w.heap[b]?):sR w' b n D:=by
 obtain ⟨j,y,G,I⟩:=h
 exact ⟨j,y,J.trans G,I⟩
theorem rZ {r j:Nat} {left:Lit->Bool} (h:w.ranges prog 46 YR b r n D left j) (U:w'.heap[b]?=w.heap[b]?) (W:w'.heap[r]?=w.heap[r]?):w'.ranges prog 46 YR b r n D left j:=by
 obtain ⟨y,G,I,J,c0,K,F,M,N,O,Q⟩:=h
 exact ⟨y,G,I,J,c0,U.trans K,F,M,N,W.trans O,Q⟩
structure Y1 (w:World) (B b n k:Nat) (L:List Yb) (D:DataW Value) (row:Int×Int->Value) (eK:Int×Int->Nat):Prop where
 map:∃ m,m<=L.length/\sR w b m D
 aO:B<=b
 has:∀ t,Jr t->Maps.has D (YD t)=decide ((Zf n k t L).2≠[])
 at_:∀ t,Jr t->(Zf n k t L).2≠[]->∀ z,D.atKey (YD t) z=.held (.agg #[.int .i64 (Zf n k t L).1,row t])
 own:∀ t,Jr t->w.ownsRow B 74 2 (row t) (Zf n k t L).2.length (Js (Zf n k t L).2)
 eB:∀ t,Jr t->(Zf n k t L).2=[]->row t=.slice none 0 0
 eA:∀ t,Jr t->(Zf n k t L).2≠[]->(row t).ownBlock=some (eK t)/\eK t≠b
 apart:∀ t u,Jr t->Jr u->(Zf n k t L).2≠[]->(Zf n k u L).2≠[]->t≠u->eK t≠eK u
variable {w w':World} {B b n k:Nat} {L:List Yb} {D:DataW Value} {row:Int×Int->Value} {eK:Int×Int->Nat}
theorem Y1.lt (h:Y1 w B b n k L D row eK):b < w.heap.size:=by
 obtain ⟨m,_,j⟩:=h.map
 exact World.ownsMap.lt j
theorem Y1.below (h:Y1 w B b n k L D row eK) (j:Below w.heap.size w w'):Y1 w' B b n k L D row eK:=by
 obtain ⟨m,y,G⟩:=h.map
 refine ⟨⟨m,y,G.same (j.block b h.lt)⟩,h.aO,h.has,h.at_,fun t I=>World.ownsRow.kept (row:=none) (h.own t I) (QD j none) (by cases (row t).ownBlock <;> simp),h.eB,h.eA,h.apart⟩
theorem W5 (w:World) (n k:Nat):Y1 (w.alloc (.map #[] 0)) w.heap.size w.heap.size n k [] (.map []) (fun _=>.slice none 0 0) (fun _=>0):=by
 refine ⟨⟨0,Nat.le_refl _,World.ownsMap_made w _ _ _⟩,Nat.le_refl _,fun t _=>rfl,fun t _ h=>absurd rfl h,fun t _=>World.ownsRow_nil _ _ _ _,fun _ _ _=>rfl,fun t _ h=>absurd rfl h,fun t _ _ _ h=>absurd rfl h⟩
def kH (S:Int×List (Int×ByteArray)):Int:=if S.2=[] then 0 else S.1
theorem Y1.look (h:Y1 w B b n k L D row eK) (y:Jr t):(Instr.lookup 140 (.map (some b)) (iO t) false).run prog w=.ok (.agg #[.int .i64 (kH (Zf n k t L)),row t]) w:=by
 have G:(zeroValue 143).run prog w=.ok (X7 (0,none,0,0)) w:=by kernel_rfl
 obtain ⟨m,_,I⟩:=h.map
 obtain ⟨v,ps,J,K⟩:=World.ownsMap.lookup I qN underlying140 G (zd:=.held (X7 (0,none,0,0))) (zp:=[]) (zY _) (sO y)
 rw [J]
 obtain ⟨x,rfl,M⟩:=FP K
 have e:D.atKey (YD t) (.held (X7 (0,none,0,0)))=.held (X7 x):=congrArg Prod.fst M
 unfold kH
 by_cases j:(Zf n k t L).2=[]
 ·rw [Maps.atKey_of_not_has (by rw [h.has t y];simp [j])] at e
  injection e with e
  rw [if_pos j,h.eB t y j,<- e]
  rfl
 ·rw [h.at_ t y j] at e
  injection e with e
  rw [if_neg j,e]
theorem yP {w:World} {B:Nat} {v:Value} {l:List (Int×ByteArray)} (h:w.ownsRow B T 2 v l.length (Js l)) (I:l≠[]):∃ g,v.ownBlock=some g/\B<=g/\g < w.heap.size:=by
 rcases h.2 with ⟨_,j⟩ | ⟨g,J,K,rfl,y,G,_⟩
 ·exact absurd (List.length_eq_zero_iff.1 j) I
 ·exact ⟨g,rfl,y,(Array.getElem?_eq_some_iff.1 G).1⟩
theorem Y1.pass (h:Y1 w B b n k L D row eK) (G:YO n k v=false):Y1 w B b n k (L ++ [v]) D row eK:=by
 have e:∀ t,Zf n k t (L ++ [v])=Zf n k t L:=fun t=>by rw [uX,oL (fun j=>by rw [G] at j;cases j.2.2)]
 obtain ⟨m,I,y⟩:=h.map
 refine ⟨⟨m,by rw [List.length_append];omega,y⟩,h.aO,?_,?_,?_,?_,?_,?_⟩
 ·intro t;rw [e];exact h.has t
 ·intro t;rw [e];exact h.at_ t
 ·intro t;rw [e];exact h.own t
 ·intro t;rw [e];exact h.eB t
 ·intro t;rw [e];exact h.eA t
 ·intro t u;rw [e,e];exact h.apart t u
theorem WG {n k:Nat}  (y:S.1 < 0↔S.2=[]) (G:v.n=t.1/\v.dT=t.2/\YO n k v=true):(ZT n k t S v).2≠[]:=by
 by_cases j:S.1 < 0
 ·rw [ZO (z:=v.size) G (by rw [if_pos j]),y.1 j]
  simp
 ·rw [ZO (z:=S.1) G (by rw [if_neg j])]
  have I:S.2≠[]:=fun e=>j (y.2 e)
  try dsimp only
  split
  ·simp
  ·exact I
theorem Y1.put (h:Y1 w B b n k L D row eK) (hc:YO n k v=true) (M:Jr (v.n,v.dT)) (hB:B<=w.heap.size) {Z:World} {a0:Value} {S':Int×List (Int×ByteArray)} (hS:S'=ZT n k (v.n,v.dT) (Zf n k (v.n,v.dT) L) v)
 (a2:w.grownBy Z (row (v.n,v.dT)).ownBlock) (b0:Z.ownsRow B 74 2 a0 S'.2.length (Js S'.2)) (b1:a0.ownBlock=(row (v.n,v.dT)).ownBlock∨∃ g,a0.ownBlock=some g/\w.heap.size<=g) (d4:∃ p c,a0=.slice p S'.2.length c) (d8:L.length < 1000000) :
 ∃ X,(Instr.mapUpdate 140 (.map (some b)) (iO (v.n,v.dT)) (.agg #[.int .i64 S'.1,a0])).run prog Z=.ok () X/\Below B w X/\∃ D' b2 b3,Y1 X B b n k (L ++ [v]) D' b2 b3:=by
 obtain ⟨m,hm,h3⟩:=h.map
 have a3:S'.2≠[]:=by rw [hS];exact WG (BR L) ⟨rfl,rfl,hc⟩
 have a6:some b≠(row (v.n,v.dT)).ownBlock:=by
  by_cases J:(Zf n k (v.n,v.dT) L).2=[]
  ·rw [h.eB _ M J];simp [Value.ownBlock]
  ·obtain ⟨N,K⟩:=h.eA _ M J
   rw [N]
   simp
   exact fun e=>K e.symm
 obtain ⟨p,c,rfl⟩:=d4
 have b4:sR Z b m D:=World.ownsMap.kept h3 a2 a6
 obtain ⟨X,b5,b6,a4⟩:=World.ownsMap.update b4 qN underlying140 (by show m < maxLen;unfold maxLen;omega) (sO M) (zY (S'.1,p,S'.2.length,c))
 have b7:=a2.size
 have d0:Below B w X:=by
  have d1:Below B w Z:=(Below.refl _ _).grown a2 hB (fun j Y=>by
   by_cases J:(Zf n k (v.n,v.dT) L).2=[]
   ·rw [h.eB _ M J] at Y;cases Y
   ·obtain ⟨g,N,K,_⟩:=yP (h.own _ M) J
    rw [N] at Y
    cases Y
    exact K)
  exact d1.trans ((Below.refl _ _).grown a4 (Nat.le_trans hB b7) (fun j Y=>by cases Y;exact h.aO))
 obtain ⟨g',Q,d5,d6⟩:=yP b0 a3
 have a7:g'≠b:=by
  rcases b1 with e | ⟨g,N,K⟩
  ·rw [Q] at e
   exact fun K=>a6 (by rw [<- e,K])
  ·rw [Q] at N
   cases N
   have:=h.lt
   omega
 have N:Zf n k (v.n,v.dT) (L ++ [v])=S':=by rw [uX,hS]
 have K:∀ u,u≠(v.n,v.dT)->Zf n k u (L ++ [v])=Zf n k u L:=fun u G=>by rw [uX,oL (fun hh=>G (Prod.ext hh.1.symm hh.2.1.symm))]
 refine ⟨X,b5,d0,D.put (YD (v.n,v.dT)) (.held (X7 (S'.1,p,S'.2.length,c))),fun u=>if u=(v.n,v.dT) then .slice p S'.2.length c else row u,fun u=>if u=(v.n,v.dT) then g' else eK u,⟨⟨m+1,by rw [List.length_append,List.length_singleton];omega,b6⟩,h.aO,?_,?_,?_,?_,?_,?_⟩⟩
 ·intro u G
  by_cases e:u=(v.n,v.dT)
  ·rw [e,Maps.has_put_same (World.ownsMap.isMap h3) (D6 _),N]
   simp [a3]
  ·rw [Maps.has_put_other (fun I=>e (xX G M I)),K u e]
   exact h.has u G
 ·intro u G J z
  by_cases e:u=(v.n,v.dT)
  ·subst e
   rw [Maps.atKey_put_same (World.ownsMap.isMap h3) (D6 _),N,if_pos rfl]
   rfl
  ·rw [K u e] at J ⊢
   rw [Maps.atKey_put_other (fun I=>e (xX G M I)),if_neg e]
   exact h.at_ u G J z
 ·intro u G
  try dsimp only
  by_cases e:u=(v.n,v.dT)
  ·subst e
   rw [N,if_pos rfl]
   refine World.ownsRow.kept b0 a4 ?_
   rw [Q]
   refine Or.inr fun e=>a7 ?_
   injection e
  ·rw [K u e,if_neg e]
   have d2:Z.ownsRow B 74 2 (row u) (Zf n k u L).2.length (Js (Zf n k u L).2):=by
    refine World.ownsRow.kept (h.own u G) a2 ?_
    by_cases O:(Zf n k u L).2=[]
    ·rw [h.eB u G O];exact Or.inl rfl
    ·refine Or.inr ?_
     rw [(h.eA u G O).1]
     by_cases U:(Zf n k (v.n,v.dT) L).2=[]
     ·rw [h.eB _ M U];simp [Value.ownBlock]
     ·rw [(h.eA _ M U).1]
      intro I
      injection I with I
      exact h.apart u _ G M O U e I
   refine World.ownsRow.kept d2 a4 ?_
   by_cases O:(Zf n k u L).2=[]
   ·rw [h.eB u G O];exact Or.inl rfl
   ·refine Or.inr ?_
    rw [(h.eA u G O).1]
    intro I
    injection I with I
    exact (h.eA u G O).2 I
 ·intro u G J
  try dsimp only
  by_cases e:u=(v.n,v.dT)
  ·subst e
   rw [N] at J
   exact absurd J a3
  ·rw [K u e] at J
   rw [if_neg e]
   exact h.eB u G J
 ·intro u G J
  try dsimp only
  by_cases e:u=(v.n,v.dT)
  ·subst e
   rw [if_pos rfl,if_pos rfl]
   exact ⟨Q,a7⟩
  ·rw [K u e] at J
   rw [if_neg e,if_neg e]
   exact h.eA u G J
 ·intro u x G hx O a1 a8
  try dsimp only
  have a9:∀ y,Jr y->y≠(v.n,v.dT)->(Zf n k y L).2≠[]->eK y≠g':=fun y hy d3 a5 e=>by
   obtain ⟨g,q1,q2,q3⟩:=yP (h.own y hy) a5
   rw [(h.eA y hy a5).1] at q1
   injection q1 with q1
   rcases b1 with I | ⟨g2,I,d7⟩
   ·by_cases U:(Zf n k (v.n,v.dT) L).2=[]
    ·rw [h.eB _ M U,Q] at I;cases I
    ·rw [Q,(h.eA _ M U).1] at I
     injection I with I
     exact h.apart y _ hy M a5 U d3 (e.trans I)
   ·rw [Q] at I
    injection I with I
    omega
  by_cases eu:u=(v.n,v.dT)
  ·have W:x≠(v.n,v.dT):=fun e=>a8 (eu.trans e.symm)
   rw [if_pos eu,if_neg W]
   rw [K x W] at a1
   exact fun e=>a9 x hx W a1 e.symm
  ·rw [K u eu] at O
   rw [if_neg eu]
   by_cases W:x=(v.n,v.dT)
   ·rw [if_pos W]
    exact a9 u G eu O
   ·rw [K x W] at a1
    rw [if_neg W]
    exact h.apart u x G hx O a1 a8
end
theorem Jql (g:Nat) (x y:Int) (t:ByteArray) (w:World) (D:w.cell? ⟨g,3,none⟩=some (.int .i64 x)) :
 Calls prog 131 (#[.agg #[.int .i64 y,.string t]] ++ #[.pointer (some ⟨g,0,none⟩)]) w fun e j=>e=.returned (.bool (y==x))/\Below w.heap.size w j:=by
 have G:=Qf D
 go_enter func131,ntmps131
 go_wp2
 go_ret
 exact ⟨rfl,(Below.refl _ _).alloc (Nat.le_refl _) _⟩
def iP (z:Int) (S:List (Int×ByteArray)) (v:Yb):Int:=if S=[] then v.size else z
def XN (z:Int) (S:List (Int×ByteArray)) (v:Yb):List (Int×ByteArray):=if v.size=iP z S v/\S.any (fun y=>y.1==v.at_)=false then S ++ [(v.at_,v.text)] else S
theorem Jqm   (D:S.1 < 0↔S.2=[]) (G:v.n=t.1/\v.dT=t.2/\YO n k v=true):ZT n k t S v=(iP (kH S) S.2 v,XN (kH S) S.2 v):=by
 by_cases j:S.1 < 0
 ·have e:S.2=[]:=D.1 j
  rw [ZO (z:=v.size) G (by rw [if_pos j])]
  unfold XN iP
  rw [e]
  simp
 ·have y:S.2≠[]:=fun e=>j (D.2 e)
  rw [ZO (z:=S.1) G (by rw [if_neg j])]
  unfold XN iP kH
  rw [if_neg y,if_neg y]
structure YK (w:World) (b:Nat) (x y:Value):Prop where
 c0:w.cell? ⟨b,0,none⟩=some x
 c1:w.cell? ⟨b,1,none⟩=some y
 f0:w.frozen? ⟨b,0,none⟩=false
 f1:w.frozen? ⟨b,1,none⟩=false
theorem YK.below  (h:YK w b x y) (D:Below w.heap.size w w'):YK w' b x y :=
 have j:=Qf h.c0
 ⟨(D.cell (p:=⟨b,0,none⟩) j).trans h.c0,(D.cell (p:=⟨b,1,none⟩) j).trans h.c1,(D.frozen (p:=⟨b,0,none⟩) j).trans h.f0,(D.frozen (p:=⟨b,1,none⟩) j).trans h.f1⟩
theorem YK.grown   (h:YK w b x y) (j:w.grownBy w' row) (D:some b≠row):YK w' b x y :=
 have e:=j.block b (Qf h.c0) D
 ⟨(World.cell?_of_block (a:=⟨b,0,none⟩) e).trans h.c0,(World.cell?_of_block (a:=⟨b,1,none⟩) e).trans h.c1,(World.frozen?_of_block (a:=⟨b,0,none⟩) e).trans h.f0,(World.frozen?_of_block (a:=⟨b,1,none⟩) e).trans h.f1⟩
theorem YK.eJ  (h:YK w b x y) (v:Value):YK (w.setCell ⟨b,0,none⟩ v) b v y :=
 ⟨World.cell?_setCell_same _ _ _ h.c0,(World.cell?_setCell_other _ _ _ _ (fun e=>by have j:(0:Nat)=1:=congrArg Addr.off e;omega)).trans h.c1,by simp [h.f0],by simp [h.f1]⟩
theorem YK.eM  (h:YK w b x y) (v:Value):YK (w.setCell ⟨b,1,none⟩ v) b x v :=
 ⟨(World.cell?_setCell_other _ _ _ _ (fun e=>by have j:(1:Nat)=0:=congrArg Addr.off e;omega)).trans h.c0,World.cell?_setCell_same _ _ _ h.c1,by simp [h.f0],by simp [h.f1]⟩
theorem YK.other  (h:YK w b x y) (a:Addr) (v:Value) (j:b≠a.block):YK (w.setCell a v) b x y :=
 ⟨(World.cell?_setCell_other _ _ _ _ (fun e=>j (congrArg Addr.block e).symm)).trans h.c0,(World.cell?_setCell_other _ _ _ _ (fun e=>j (congrArg Addr.block e).symm)).trans h.c1,by simp [h.f0],by simp [h.f1]⟩
theorem pT  (h:w.grownBy W row) (a:Addr) (v:Value) (D:w.heap.size<=a.block):w.grownBy (W.setCell a v) row :=
 ⟨h.os,h.tape,h.output,by simp [World.setCell];exact h.size,fun k j y=>(Below.heap_setCell W a v k (by omega)).trans (h.block k j y)⟩
theorem oM  {row:Value} {xs:List Value} (h:w.ownsRow B T 2 row n xs) (a:Addr) (v:Value) (y:row.ownBlock≠some a.block):(w.setCell a v).ownsRow B T 2 row n xs :=
 World.ownsRow.kept (row:=some a.block) h ⟨rfl,rfl,rfl,by simp [World.setCell],fun k _ j=>Below.heap_setCell w a v k (fun e=>j (by rw [e]))⟩ (Or.inr y)
theorem SJ (l:List (Int×ByteArray)) (x:Int×ByteArray):Js (l ++ [x])=Js l ++ [.int .i64 x.1,.string x.2]:=by simp [Js]
structure V3 (w:World) (b:Nat) (xs xa:Int) (xt:ByteArray):Prop where
 c2:w.cell? ⟨b,2,none⟩=some (.int .i64 xs)
 c3:w.cell? ⟨b,3,none⟩=some (.int .i64 xa)
 c4:w.cell? ⟨b,4,none⟩=some (.string xt)
theorem V3.block  {y:ByteArray} (h:V3 w b xs j y) (e:w'.heap[b]?=w.heap[b]?):V3 w' b xs j y :=
 ⟨(World.cell?_of_block (a:=⟨b,2,none⟩) e).trans h.c2,(World.cell?_of_block (a:=⟨b,3,none⟩) e).trans h.c3,(World.cell?_of_block (a:=⟨b,4,none⟩) e).trans h.c4⟩
theorem V3.below  {y:ByteArray} (h:V3 w b xs j y) (D:Below w.heap.size w w'):V3 w' b xs j y:=h.block (D.block b (Qf h.c2))
structure iB (w W:World) (B:Nat) (p:Option Addr) (S:List (Int×ByteArray)) (c:Nat) (zv xs xa:Int) (xt:ByteArray):Prop where
 A:YK W w.heap.size (.int .i64 zv) (.slice p S.length c)
 V:V3 W (w.heap.size+1) xs xa xt
 R:YK W (w.heap.size+1+1) (.int .i64 0) (.slice none 0 0)
 own:W.ownsRow B 74 2 (.slice p S.length c) S.length (Js S)
 g:Below w.heap.size w W
 sz:w.heap.size+1+1+1<=W.heap.size
theorem iB.below {y:World}  {S:List (Int×ByteArray)} {c:Nat} {D:Int} {I:ByteArray} (h:iB w W B p S c D xs G I) (j:Below W.heap.size W y):iB w y B p S c D xs G I :=
 ⟨h.A.below j,h.V.below j,h.R.below j,World.ownsRow.kept (row:=none) h.own (QD j none) (by cases (Value.slice p S.length c).ownBlock <;> simp),h.g.trans (j.mono h.g.size),Nat.le_trans h.sz j.size⟩
theorem iB.vO  {S:List (Int×ByteArray)} {c:Nat} {y:ByteArray} (h:iB w W B p S c G xs j y) (I:∀ g,(Value.slice p S.length c).ownBlock=some g->g < w.heap.size) (D:Int):iB w (W.setCell ⟨w.heap.size,0,none⟩ (.int .i64 D)) B p S c D xs j y :=
 ⟨h.A.eJ _,h.V.block (Below.heap_setCell W _ _ _ (by show w.heap.size+1≠w.heap.size;omega)),h.R.other _ _ (by show w.heap.size+1+1≠w.heap.size;omega),oM h.own _ _ (fun e=>by have:=I _ e;simp at this),h.g.setCell (Nat.le_refl _) _,by simpa [World.setCell] using h.sz⟩
def q8 (B:Nat) (z:Int) (S:List (Int×ByteArray)) (v:Yb) (row:Value) (w:World) (e:Ending) (w':World):Prop :=
 ∃ j,e=.returned (.agg #[.int .i64 (iP z S v),j])/\w'.ownsRow B 74 2 j (XN z S v).length (Js (XN z S v))/\w.grownBy w' row.ownBlock/\(j.ownBlock=row.ownBlock∨∃ g,j.ownBlock=some g/\w.heap.size<=g)/\∃ p c,j=.slice p (XN z S v).length c
theorem Jr1 (z:Int) (S:List (Int×ByteArray)) (row:Value) (v:Yb) (B:Nat) (w:World) (hl:S.length<=1000) (e7:w.ownsRow B 74 2 row S.length (Js S)) (hB:B<=w.heap.size) :
 Calls prog 108 #[.agg #[.int .i64 z,row],.agg #[.int .i64 v.n,.int .i64 v.dT,.int .i64 v.size,.int .i64 v.at_,.string v.text]] w (q8 B z S v row w):=by
 obtain ⟨i1,g0,g1,g2,g3⟩:=info_parts vH
 obtain ⟨p,c,rfl,h9⟩:=nL e7
 have g4:∀ g,(Value.slice p S.length c).ownBlock=some g->g < w.heap.size:=fun g hg=>(World.ownsRow.lt e7 g hg).2
 obtain ⟨K,M,xs,D,G⟩:=v
 have i0:∃ N,N=((w.alloc (.cells #[.int .i64 z,.slice p S.length c] 143)).alloc (.cells #[.int .i64 K,.int .i64 M,.int .i64 xs,.int .i64 D,.string G] 76)).alloc (.cells #[.int .i64 0,.slice none 0 0] 143)/\iB w N B p S c z xs D G:=by
  obtain ⟨w1,d8⟩:∃ w1,w1=w.alloc (.cells #[.int .i64 z,.slice p S.length c] 143):=⟨_,rfl⟩
  obtain ⟨w2,d9⟩:∃ w2,w2=w1.alloc (.cells #[.int .i64 K,.int .i64 M,.int .i64 xs,.int .i64 D,.string G] 76):=⟨_,rfl⟩
  obtain ⟨N,b2⟩:∃ N,N=w2.alloc (.cells #[.int .i64 0,.slice none 0 0] 143):=⟨_,rfl⟩
  have e1:w1.heap.size=w.heap.size+1:=by rw [d8];simp
  have e2:w2.heap.size=w.heap.size+1+1:=by rw [d9,<- e1];simp
  have e3:N.heap.size=w.heap.size+1+1+1:=by rw [b2,<- e2];simp
  have g5:Below w.heap.size w w1:=by rw [d8];exact (Below.refl _ _).alloc (Nat.le_refl _) _
  have g6:Below w1.heap.size w1 w2:=by rw [d9];exact (Below.refl _ _).alloc (Nat.le_refl _) _
  have g7:Below w2.heap.size w2 N:=by rw [b2];exact (Below.refl _ _).alloc (Nat.le_refl _) _
  have g8:Below w1.heap.size w1 N:=g6.trans (g7.mono g6.size)
  have g9:Below w.heap.size w N:=g5.trans (g8.mono g5.size)
  have i2:YK w1 w.heap.size (.int .i64 z) (.slice p S.length c):=by
   rw [d8]
   exact ⟨by rw [World.cell?_alloc_at _ _ _ _ rfl];rfl,by rw [World.cell?_alloc_at _ _ _ _ rfl];rfl,World.frozen?_alloc_at _ _ _ _ rfl,World.frozen?_alloc_at _ _ _ _ rfl⟩
  have hR:YK N (w.heap.size+1+1) (.int .i64 0) (.slice none 0 0):=by
   rw [b2]
   exact ⟨by rw [World.cell?_alloc_at _ _ _ _ e2.symm];rfl,by rw [World.cell?_alloc_at _ _ _ _ e2.symm];rfl,World.frozen?_alloc_at _ _ _ _ e2.symm,World.frozen?_alloc_at _ _ _ _ e2.symm⟩
  have i3:V3 w2 (w.heap.size+1) xs D G:=by
   rw [d9]
   exact ⟨by rw [World.cell?_alloc_at _ _ _ _ e1.symm];rfl,by rw [World.cell?_alloc_at _ _ _ _ e1.symm];rfl,by rw [World.cell?_alloc_at _ _ _ _ e1.symm];rfl⟩
  exact ⟨N,by rw [b2,d9,d8],i2.below g8,i3.below g7,hR,World.ownsRow.kept (row:=none) e7 (QD g9 none) (by cases (Value.slice p S.length c).ownBlock <;> simp),g9,by omega⟩
 obtain ⟨N,b2,h0⟩:=i0
 have a9:Hid (N=((w.alloc (.cells #[.int .i64 z,.slice p S.length c] 143)).alloc (.cells #[.int .i64 K,.int .i64 M,.int .i64 xs,.int .i64 D,.string G] 76)).alloc (.cells #[.int .i64 0,.slice none 0 0] 143)):=b2
 have a2:Hid (iB w N B p S c z xs D G):=h0
 have b5:Hid (∀ g,(Value.slice p S.length c).ownBlock=some g->g < w.heap.size):=g4
 have d0:Hid (∀ W O,iB w W B p S c O xs D G->Calls prog 111 #[.slice p S.length c,.func (.func 131) #[] #[.pointer (some ⟨w.heap.size+1,0,none⟩)]] W fun e w'=>e=.returned (.bool (S.any fun y=>y.1==D))/\Below W.heap.size W w'):=fun W O Q=>by
  obtain ⟨p',c',h2,i4⟩:=nL Q.own
  simp at h2
  obtain ⟨rfl,rfl⟩:=h2
  exact JaT p S c 131 #[.pointer (some ⟨w.heap.size+1,0,none⟩)] (fun y=>y.1==D) W (by omega) i4 (enters_of func131 (by kernel_rfl) rfl) (fun i hi w1 h1=>Jql (w.heap.size+1) D (Ji S i).1 (Ji S i).2 w1 (Q.V.below h1).c3)
 have b6:Hid (∀ W O,iB w W B p S c O xs D G->iP z S ⟨K,M,xs,D,G⟩=O->XN z S ⟨K,M,xs,D,G⟩=S->q8 B z S ⟨K,M,xs,D,G⟩ (.slice p S.length c) w (.returned (.agg #[.int .i64 O,.slice p S.length c])) ((W.setCell ⟨w.heap.size+1+1,0,none⟩ (.int .i64 O)).setCell ⟨w.heap.size+1+1,1,none⟩ (.slice p S.length c))):=fun W O Q hz hs=>by
  refine ⟨.slice p S.length c,by rw [hz],?_,?_,Or.inl rfl,p,c,by rw [hs]⟩
  ·rw [hs]
   exact oM (oM Q.own _ _ (fun e=>by have:w.heap.size+1+1 < w.heap.size:=b5.out _ e;omega)) _ _ (fun e=>by have:w.heap.size+1+1 < w.heap.size:=b5.out _ e;omega)
  ·exact pT (pT (QD Q.g _) _ _ (by show w.heap.size<=w.heap.size+1+1;omega)) _ _ (by show w.heap.size<=w.heap.size+1+1;omega)
 have e0:Hid (∀ W O v6 J,iB w W B p S c O xs D G->iP z S ⟨K,M,xs,D,G⟩=O->XN z S ⟨K,M,xs,D,G⟩=S ++ [(D,G)]->J.ownsRow B 74 2 v6 (S.length+1) (Js S ++ [.int .i64 D,.string G])->W.grownBy J (Value.slice p S.length c).ownBlock->(v6.ownBlock=(Value.slice p S.length c).ownBlock∨v6.ownBlock=some W.heap.size) ->
  (∃ p6 c6,v6=.slice p6 (S.length+1) c6)/\YK J w.heap.size (.int .i64 O) (.slice p S.length c)/\YK J (w.heap.size+1+1) (.int .i64 0) (.slice none 0 0)/\q8 B z S ⟨K,M,xs,D,G⟩ (.slice p S.length c) w (.returned (.agg #[.int .i64 O,v6])) (((J.setCell ⟨w.heap.size,1,none⟩ v6).setCell ⟨w.heap.size+1+1,0,none⟩ (.int .i64 O)).setCell ⟨w.heap.size+1+1,1,none⟩ v6)):=fun W O v6 J Q hz hs hO hg h3=>by
  have h4:(S ++ [(D,G)]).length=S.length+1:=by simp
  have h5:J.ownsRow B 74 2 v6 (S ++ [(D,G)]).length (Js (S ++ [(D,G)])):=by rw [SJ,h4];exact hO
  obtain ⟨p6,c6,h6,_⟩:=nL h5
  have i5:some w.heap.size≠(Value.slice p S.length c).ownBlock:=fun e=>by have:=b5.out _ e.symm;omega
  have i7:some (w.heap.size+1+1)≠(Value.slice p S.length c).ownBlock:=fun e=>by have:=b5.out _ e.symm;omega
  have j1:=Q.sz
  have hv:∀ q,q=w.heap.size∨q=w.heap.size+1+1->v6.ownBlock≠some q:=fun q hq e=>by
   rcases h3 with h | h
   ·rw [h] at e
    have:=b5.out _ e
    omega
   ·rw [h] at e
    injection e with e
    omega
  refine ⟨⟨p6,c6,by rw [h6,h4]⟩,Q.A.grown hg i5,Q.R.grown hg i7,v6,by rw [hz],?_,?_,?_,p6,c6,by rw [hs];exact h6⟩
  ·rw [hs]
   exact oM (oM (oM h5 _ _ (hv _ (Or.inl rfl))) _ _ (hv _ (Or.inr rfl))) _ _ (hv _ (Or.inr rfl))
  ·have i8:w.grownBy J (Value.slice p S.length c).ownBlock:=⟨hg.os.trans Q.g.os,hg.tape.trans Q.g.tape,hg.output.trans Q.g.output,Nat.le_trans Q.g.size hg.size,fun k hk i9=>(hg.block k (Nat.lt_of_lt_of_le hk Q.g.size) i9).trans (Q.g.block k hk)⟩
   exact pT (pT (pT i8 _ _ (Nat.le_refl _)) _ _ (by show w.heap.size<=w.heap.size+1+1;omega)) _ _ (by show w.heap.size<=w.heap.size+1+1;omega)
  ·rcases h3 with h | h
   ·exact Or.inl h
   ·exact Or.inr ⟨_,h,by omega⟩
 have h7:B<=w.heap.size:=hB
 clear b2 h0 h9 e7 g4 hB
 have a0:=a2.out.A.c0
 have a1:=a2.out.A.c1
 have e4:=a2.out.A.f0
 have v2:=a2.out.V.c2
 by_cases hS:S=[]
 ·have HZ:Hid (iP z S ⟨K,M,xs,D,G⟩=xs):=by show iP _ _ _=_;unfold iP;rw [if_pos hS]
  have HY:Hid (XN z S ⟨K,M,xs,D,G⟩=S ++ [(D,G)]):=by
   show XN _ _ _=_
   unfold XN
   rw [HZ.out,if_pos ⟨rfl,by rw [hS];rfl⟩]
  have HN:Hid (S.any (fun y=>y.1==D)=false):=by show _=_;rw [hS];rfl
  rw [HN.out] at d0
  have e5:(S.length:Int)=0:=by rw [hS];rfl
  have b0:((S.length:Int)==0)=true:=by rw [e5];rfl
  have d2:Hid (iB w (N.setCell ⟨w.heap.size,0,none⟩ (.int .i64 xs)) B p S c xs xs D G):=a2.out.vO b5.out xs
  have a6:=d0.out _ _ d2.out
  obtain ⟨w4,e8⟩:∃ w4,w4=N.setCell ⟨w.heap.size,0,none⟩ (.int .i64 xs):=⟨_,rfl⟩
  rw [<- e8] at a6 d2
  have h8:Hid (w4=N.setCell ⟨w.heap.size,0,none⟩ (.int .i64 xs)):=e8
  have d1:=d2.out.A.c1
  clear e8 hS e5 HN
  go_enter func108,ntmps108
  go_wp2_with (first | rw [<- a9.out] | rw [<- h8.out])
  refine a6.mono ?_
  rintro e U ⟨rfl,a4⟩
  have I:=d2.out.below a4
  clear a0 a1 e4 v2 d1 a4 a6 d0 a2 d2 a9 h8 b6
  have a0:=I.A.c0
  have a1:=I.A.c1
  have v2:=I.V.c2
  have v3:=I.V.c3
  have v4:=I.V.c4
  obtain ⟨J,a7⟩:∃ J,J=U.alloc (.cells #[.int .i64 D,.string G] 74):=⟨_,rfl⟩
  have b3:Hid (iB w J B p S c xs xs D G):=by show iB _ _ _ _ _ _ _ _ _ _;rw [a7];exact I.below ((Below.refl _ _).alloc (Nat.le_refl _) _)
  have e9:Hid (∀ (j:Nat) (u:Value),[Value.int .i64 D,Value.string G][j]?=some u->J.cell? ((⟨U.heap.size,0,none⟩:Addr).add j)=some u):=fun j u X=>by
   rw [a7,Addr.add_lit]
   match j,X with
   | 0,X=>(simp at X;subst X;rw [World.cell?_alloc_at _ _ _ _ rfl];rfl)
   | 1,X=>(simp at X;subst X;rw [World.cell?_alloc_at _ _ _ _ rfl];rfl)
  have f3:Hid (B<=J.heap.size):=Nat.le_trans h7 b3.out.g.size
  have f4:Hid (J=U.alloc (.cells #[.int .i64 D,.string G] 74)):=a7
  have f5:Hid (J.ownsRow B 74 2 (.slice p S.length c) S.length (Js S)):=b3.out.own
  clear a7 I
  go_wp2_with (first | rw [<- f4.out] | (at_builtin;refine EW rfl (.tmp 27) (.tmp 30) 123 rfl B 74 i1 (.agg #[.int .i64 0,.string ⟨#[]⟩]) 2 24 underlying123 g0 g1 g2 g3 rfl (by decide) (.slice p S.length c) S.length (Js S) rfl f5.out ⟨U.heap.size,0,none⟩ 1 1 [.int .i64 D,.string G] rfl rfl e9.out (fun u hu=>by simp at hu;rcases hu with rfl | rfl <;> rfl) (by unfold maxLen;omega) (by omega) f3.out (by decide) ?_;intro v7 w7 d3 d4 d5;obtain ⟨⟨Y,c7,f6⟩,a5,d6,d7⟩:=e0.out J xs v7 w7 b3.out HZ.out HY.out d3 d4 d5;subst f6;have a8:Hid (q8 B z S ⟨K,M,xs,D,G⟩ (.slice p S.length c) w (.returned (.agg #[.int .i64 xs,.slice Y (S.length+1) c7])) (((w7.setCell ⟨w.heap.size,1,none⟩ (.slice Y (S.length+1) c7)).setCell ⟨w.heap.size+1+1,0,none⟩ (.int .i64 xs)).setCell ⟨w.heap.size+1+1,1,none⟩ (.slice Y (S.length+1) c7))):=d7;have b4:=a5.eM (.slice Y (S.length+1) c7);have a3:=d6.other ⟨w.heap.size,1,none⟩ (.slice Y (S.length+1) c7) (by show w.heap.size+1+1≠w.heap.size;omega);have Z:=(a3.eJ (.int .i64 xs)).eM (.slice Y (S.length+1) c7);have a0:=a5.c0;have a1:=a5.c1;have j0:=a5.f1;have m0:=b4.c0;have m1:=b4.c1;have r0:=a3.c0;have r1:=a3.c1;have f7:=a3.f0;have f8:=a3.f1;have k0:=Z.c0;have k1:=Z.c1;clear d3 d4 d5 a5 d6 d7 b4 a3 Z))
  exact bodyPost_ret (v:=.agg #[.int .i64 xs,.slice Y (S.length+1) c7]) (by simp [results,results108,go_sem,k0,k1]) rfl a8.out
 ·have HZ:Hid (iP z S ⟨K,M,xs,D,G⟩=z):=by show iP _ _ _=_;unfold iP;rw [if_neg hS]
  have e5:¬ (S.length:Int)=0:=fun h=>hS (List.length_eq_zero_iff.1 (by omega))
  have b0:((S.length:Int)==0)=false:=by rw [beq_eq_false_iff_ne];exact e5
  have a6:=d0.out _ _ a2.out
  have b7:Hid (XN z S ⟨K,M,xs,D,G⟩=if xs=z/\S.any (fun y=>y.1==D)=false then S ++ [(D,G)] else S):=by show XN _ _ _=_;unfold XN;rw [HZ.out]
  clear hS d0
  generalize (S.any fun y=>y.1==D)=th at *
  cases th with
  | true =>
   have HY:Hid (XN z S ⟨K,M,xs,D,G⟩=S):=by show XN _ _ _=_;rw [b7.out,if_neg (fun h=>by cases h.2)]
   clear b7 e0
   go_enter func108,ntmps108
   go_wp2_with (rw [<- a9.out])
   refine a6.mono ?_
   rintro e U ⟨rfl,a4⟩
   have I:=a2.out.below a4
   clear a0 a1 e4 v2 a4 a6 a2 a9
   have a8:=b6.out U z I HZ.out HY.out
   have Z:=(I.R.eJ (.int .i64 z)).eM (.slice p S.length c)
   have a0:=I.A.c0
   have a1:=I.A.c1
   have r0:=I.R.c0
   have r1:=I.R.c1
   have f7:=I.R.f0
   have f8:=I.R.f1
   have k0:=Z.c0
   have k1:=Z.c1
   have f9:Hid (q8 B z S ⟨K,M,xs,D,G⟩ (.slice p S.length c) w (.returned (.agg #[.int .i64 z,.slice p S.length c])) ((U.setCell ⟨w.heap.size+1+1,0,none⟩ (.int .i64 z)).setCell ⟨w.heap.size+1+1,1,none⟩ (.slice p S.length c))):=a8
   clear I Z a8 b6
   go_wp2
   exact bodyPost_ret (v:=.agg #[.int .i64 z,.slice p S.length c]) (by simp [results,results108,go_sem,k0,k1]) rfl f9.out
  | false =>
   by_cases e6:xs=z
   ·have HY:Hid (XN z S ⟨K,M,xs,D,G⟩=S ++ [(D,G)]):=by show XN _ _ _=_;rw [b7.out,if_pos ⟨e6,rfl⟩]
    clear b7 b6
    subst e6
    have b1:(xs==xs)=true:=beq_self_eq_true xs
    go_enter func108,ntmps108
    go_wp2_with (rw [<- a9.out])
    refine a6.mono ?_
    rintro e U ⟨rfl,a4⟩
    have I:=a2.out.below a4
    clear a0 a1 e4 v2 a4 a6 a2 a9
    have a0:=I.A.c0
    have a1:=I.A.c1
    have v2:=I.V.c2
    have v3:=I.V.c3
    have v4:=I.V.c4
    obtain ⟨J,a7⟩:∃ J,J=U.alloc (.cells #[.int .i64 D,.string G] 74):=⟨_,rfl⟩
    have b3:Hid (iB w J B p S c xs xs D G):=by show iB _ _ _ _ _ _ _ _ _ _;rw [a7];exact I.below ((Below.refl _ _).alloc (Nat.le_refl _) _)
    have e9:Hid (∀ (j:Nat) (u:Value),[Value.int .i64 D,Value.string G][j]?=some u->J.cell? ((⟨U.heap.size,0,none⟩:Addr).add j)=some u):=fun j u X=>by
     rw [a7,Addr.add_lit]
     match j,X with
     | 0,X=>(simp at X;subst X;rw [World.cell?_alloc_at _ _ _ _ rfl];rfl)
     | 1,X=>(simp at X;subst X;rw [World.cell?_alloc_at _ _ _ _ rfl];rfl)
    have f3:Hid (B<=J.heap.size):=Nat.le_trans h7 b3.out.g.size
    have f4:Hid (J=U.alloc (.cells #[.int .i64 D,.string G] 74)):=a7
    have f5:Hid (J.ownsRow B 74 2 (.slice p S.length c) S.length (Js S)):=b3.out.own
    clear a7 I
    go_wp2_with (first | rw [<- f4.out] | (at_builtin;refine EW rfl (.tmp 27) (.tmp 30) 123 rfl B 74 i1 (.agg #[.int .i64 0,.string ⟨#[]⟩]) 2 24 underlying123 g0 g1 g2 g3 rfl (by decide) (.slice p S.length c) S.length (Js S) rfl f5.out ⟨U.heap.size,0,none⟩ 1 1 [.int .i64 D,.string G] rfl rfl e9.out (fun u hu=>by simp at hu;rcases hu with rfl | rfl <;> rfl) (by unfold maxLen;omega) (by omega) f3.out (by decide) ?_;intro v7 w7 d3 d4 d5;obtain ⟨⟨Y,c7,f6⟩,a5,d6,d7⟩:=e0.out J xs v7 w7 b3.out HZ.out HY.out d3 d4 d5;subst f6;have a8:Hid (q8 B xs S ⟨K,M,xs,D,G⟩ (.slice p S.length c) w (.returned (.agg #[.int .i64 xs,.slice Y (S.length+1) c7])) (((w7.setCell ⟨w.heap.size,1,none⟩ (.slice Y (S.length+1) c7)).setCell ⟨w.heap.size+1+1,0,none⟩ (.int .i64 xs)).setCell ⟨w.heap.size+1+1,1,none⟩ (.slice Y (S.length+1) c7))):=d7;have b4:=a5.eM (.slice Y (S.length+1) c7);have a3:=d6.other ⟨w.heap.size,1,none⟩ (.slice Y (S.length+1) c7) (by show w.heap.size+1+1≠w.heap.size;omega);have Z:=(a3.eJ (.int .i64 xs)).eM (.slice Y (S.length+1) c7);have a0:=a5.c0;have a1:=a5.c1;have j0:=a5.f1;have m0:=b4.c0;have m1:=b4.c1;have r0:=a3.c0;have r1:=a3.c1;have f7:=a3.f0;have f8:=a3.f1;have k0:=Z.c0;have k1:=Z.c1;clear d3 d4 d5 a5 d6 d7 b4 a3 Z))
    exact bodyPost_ret (v:=.agg #[.int .i64 xs,.slice Y (S.length+1) c7]) (by simp [results,results108,go_sem,k0,k1]) rfl a8.out
   ·have HY:Hid (XN z S ⟨K,M,xs,D,G⟩=S):=by show XN _ _ _=_;rw [b7.out,if_neg (fun h=>e6 h.1)]
    have b1:(xs==z)=false:=by rw [beq_eq_false_iff_ne];exact e6
    clear b7 e0
    go_enter func108,ntmps108
    go_wp2_with (rw [<- a9.out])
    refine a6.mono ?_
    rintro e U ⟨rfl,a4⟩
    have I:=a2.out.below a4
    clear a0 a1 e4 v2 a4 a6 a2 a9
    have a8:=b6.out U z I HZ.out HY.out
    have Z:=(I.R.eJ (.int .i64 z)).eM (.slice p S.length c)
    have a0:=I.A.c0
    have a1:=I.A.c1
    have v2:=I.V.c2
    have r0:=I.R.c0
    have r1:=I.R.c1
    have f7:=I.R.f0
    have f8:=I.R.f1
    have k0:=Z.c0
    have k1:=Z.c1
    have f9:Hid (q8 B z S ⟨K,M,xs,D,G⟩ (.slice p S.length c) w (.returned (.agg #[.int .i64 z,.slice p S.length c])) ((U.setCell ⟨w.heap.size+1+1,0,none⟩ (.int .i64 z)).setCell ⟨w.heap.size+1+1,1,none⟩ (.slice p S.length c))):=a8
    clear I Z a8 b6
    go_wp2
    exact bodyPost_ret (v:=.agg #[.int .i64 z,.slice p S.length c]) (by simp [results,results108,go_sem,k0,k1]) rfl f9.out
theorem JqV (a b:Int):YM a b=k9 a b:=by
 unfold YM k9
 by_cases j:0<=a <;> by_cases y:a<=1099511627776 <;> by_cases D:0<=b <;> by_cases G:b<=1099511627776 <;> simp [j,y,D,G]
theorem T8 (n k:Nat) (v:Yb):YO n k v=(YM v.n v.dT && gS n k v.size v.at_ v.text):=by
 rw [JqV]
 rfl
theorem JhR {j:Nat} (h:j < L.length):L.take (j+1)=L.take j ++ [Xd L j]:=by rw [List.take_add_one,Xx h];rfl
def ZN (w:World) (B b n k:Nat) (L:List Yb):Prop:=∃ D row eK,Y1 w B b n k L D row eK
theorem ZN.below  (h:ZN w B b n k L) (j:Below w.heap.size w w'):ZN w' B b n k L:=by
 obtain ⟨D,row,eK,h⟩:=h
 exact ⟨D,row,eK,h.below j⟩
theorem ZN.pass   (h:ZN w B b n k L) (j:YO n k v=false):ZN w B b n k (L ++ [v]):=by
 obtain ⟨D,row,eK,h⟩:=h
 exact ⟨D,row,eK,h.pass j⟩
theorem ZN.step   (h:ZN w B b n k L) (O:YO n k v=true) (I:Jr (v.n,v.dT)) (hl:L.length<=1000) :
 ∃ (y:Value) (sz:Int),(∀ W,Below w.heap.size w W->(Instr.lookup 140 (.map (some b)) (.agg #[.int .i64 v.n,.int .i64 v.dT]) false).run prog W=.ok (.agg #[.int .i64 sz,y]) W)/\(∀ g,y.ownBlock=some g->g < w.heap.size) /\
  ∀ W,Below w.heap.size w W->Calls prog 108 #[.agg #[.int .i64 sz,y],.agg #[.int .i64 v.n,.int .i64 v.dT,.int .i64 v.size,.int .i64 v.at_,.string v.text]] W fun e J=>∃ N j,e=.returned N/\W.grownBy J y.ownBlock/\(Instr.mapUpdate 140 (.map (some b)) (.agg #[.int .i64 v.n,.int .i64 v.dT]) N).run prog J=.ok () j/\Below B W j/\ZN j B b n k (L ++ [v]):=by
 obtain ⟨D,row,eK,h⟩:=h
 have Q:=W0 (n:=n) (k:=k) (t:=(v.n,v.dT)) L L.length
 rw [List.take_length] at Q
 have U:=Jqm (BR (n:=n) (k:=k) (t:=(v.n,v.dT)) L) (v:=v) (⟨rfl,rfl,O⟩:v.n=((v.n,v.dT):Int×Int).1/\v.dT=((v.n,v.dT):Int×Int).2/\YO n k v=true)
 refine ⟨row (v.n,v.dT),kH (Zf n k (v.n,v.dT) L),fun W K=>(h.below K).look I,fun g G=>(World.ownsRow.lt (h.own _ I) g G).2,fun W K=>?_⟩
 have M:=h.below K
 have hB:B<=W.heap.size:=Nat.le_trans h.aO (Nat.le_of_lt M.lt)
 refine (Jr1 (kH (Zf n k (v.n,v.dT) L)) (Zf n k (v.n,v.dT) L).2 (row (v.n,v.dT)) v B W (by omega) (M.own _ I) hB).mono ?_
 rintro e J ⟨a2,rfl,X,G,Y,Z⟩
 obtain ⟨j,a0,a1,D',r',b',hT⟩:=M.put O I hB U.symm G X Y Z (by omega)
 exact ⟨_,j,rfl,G,a0,a1,D',r',b',hT⟩
theorem Jo9 (n k:Nat) (p0:Option Addr) (l0 c0:Nat) (p:Option Addr) (LL:List (List Yb)) (m4:Nat) (w:World) (m5:1<=k) (m6:k<=n) (hn:n<=12) (hl:LL.length<=1000) (n4:LL.flatten.length<=1000) (hL:eU w p LL) (i4:∀ v ∈ LL.flatten,Jr (v.n,v.dT)) :
 Calls prog 80 #[.agg #[.int .i64 (n:Int),.int .i64 (k:Int),.slice p0 l0 c0],.slice p LL.length m4] w fun e w'=>(∃ b,e=.returned (.map (some b))/\ZN w' (w.heap.size+1) b n k LL.flatten)/\Below w.heap.size w w':=by
 obtain ⟨y,a4⟩:∃ y,y=w.alloc (.cells #[.int .i64 (n:Int),.int .i64 (k:Int),.slice p0 l0 c0] 24):=⟨_,rfl⟩
 have e0:y.heap.size=w.heap.size+1:=by rw [a4];simp
 have b1:Below w.heap.size w y:=by rw [a4];exact (Below.refl _ _).alloc (Nat.le_refl _) _
 have f0:y.cell? ⟨w.heap.size,0,none⟩=some (.int .i64 (n:Int)):=by rw [a4,World.cell?_alloc_at _ _ _ _ rfl];rfl
 have f1:y.cell? ⟨w.heap.size,1,none⟩=some (.int .i64 (k:Int)):=by rw [a4,World.cell?_alloc_at _ _ _ _ rfl];rfl
 obtain ⟨w1,b2⟩:∃ w1,w1=y.alloc (.map #[] 0):=⟨_,rfl⟩
 have d9:Hid (ZN w1 y.heap.size y.heap.size n k []):=by show ZN _ _ _ _ _ _;rw [b2];exact ⟨_,_,_,W5 y n k⟩
 have e8:Below y.heap.size y w1:=by rw [b2];exact (Below.refl _ _).alloc (Nat.le_refl _) _
 have e9:Hid (Below y.heap.size y w1):=e8
 have i5:Hid (y=w.alloc (.cells #[.int .i64 (n:Int),.int .i64 (k:Int),.slice p0 l0 c0] 24)):=a4
 have b3:Hid (∀ W,Below y.heap.size y W->W.cell? ⟨w.heap.size,0,none⟩=some (.int .i64 (n:Int))/\W.cell? ⟨w.heap.size,1,none⟩=some (.int .i64 (k:Int))/\eU W p LL/\Below w.heap.size w W):=fun W J=>by
  have a0:w.heap.size < y.heap.size:=by omega
  exact ⟨(J.cell (p:=⟨w.heap.size,0,none⟩) a0).trans f0,(J.cell (p:=⟨w.heap.size,1,none⟩) a0).trans f1,(hL.below b1).below J,b1.trans (J.mono b1.size)⟩
 have m7:Hid (y.heap.size=w.heap.size+1):=e0
 have f3:Hid (∀ v ∈ LL.flatten,Jr (v.n,v.dT)):=i4
 have f4:Hid (∀ i,i < LL.length->(LL.take (i+1)).flatten=(LL.take i).flatten ++ LL.getD i []):=fun i hi=>JfJ hi
 have f5:Hid (∀ i,(LL.take i).flatten.length<=LL.flatten.length):=fun i=>OG LL i
 have f6:Hid (LL.take LL.length=LL):=List.take_length
 rw [<- e0]
 obtain ⟨b,hb⟩:∃ b,b=y.heap.size:=⟨_,rfl⟩
 have f7:Hid (b=y.heap.size):=hb
 have i7:(Instr.makeMap 140 none).run prog y=.ok (.map (some b)) w1:=by rw [hb,b2];kernel_rfl
 rw [<- hb] at d9
 have m8:Hid (w.heap.size+1=b):=by show _=_;rw [hb,e0]
 clear a4 b2 b1 e8 f0 f1 e0 hL i4 hb
 go_enter func80,ntmps80
 go_wp2_with (rw [<- i5.out])
 clear i7
 go_loopw [13] (fun x wr=>∃ i:Nat,i<=LL.length/\x=.int .i64 i/\ZN wr b b n k (LL.take i).flatten/\Below y.heap.size y wr) (fun x _=>LL.length - (intOf x).toNat)
 case atStart=>exact ⟨0,Nat.zero_le _,rfl,d9.out,e9.out⟩
 case round =>
  obtain ⟨i,hi,rfl,hT,hB⟩:=hrel
  obtain ⟨w2,rfl⟩:∃ w2,w2=wr:=⟨_,rfl⟩
  have b4:Hid (ZN w2 b b n k (LL.take i).flatten):=hT
  have e1:Hid (Below y.heap.size y w2):=hB
  clear hT hB d9 e9
  by_cases a5:i < LL.length
  ·have f8:Hid ((LL.take (i+1)).flatten=(LL.take i).flatten ++ LL.getD i []):=f4.out i a5
   have m9:(LL.take i).flatten.length+(LL.getD i []).length<=1000:=by
    have h1:=f5.out (i+1)
    rw [f8.out,List.length_append] at h1
    omega
   have i8:Hid (∀ v ∈ LL.getD i [],Jr (v.n,v.dT)):=fun v hv=>f3.out v (by
    rw [<- f6.out]
    rw [List.getD_eq_getElem?_getD,List.getElem?_eq_getElem a5] at hv
    rw [List.take_length]
    exact List.mem_flatten.2 ⟨_,List.getElem_mem a5,hv⟩)
   rcases (b3.out y (Below.refl _ _)).2.2.1 with h0 | ⟨bl,ol,e2,i9,f9⟩
   ·rw [h0] at a5;simp at a5
   obtain ⟨q,cq,g2,g3,n2,j0⟩:=f9 i a5
   have j1:Hid (∀ W,Below y.heap.size y W->Ql Ze W q (LL.getD i [])):=fun W J=>g3.below J
   have j2:w2.cell? ⟨bl,ol+i,none⟩=some (.slice q (LL.getD i []).length cq):=(e1.out.cell (p:=⟨bl,ol+i,none⟩) i9).trans g2
   subst e2
   clear f9 g3 j0 g2 f4 f5 f3
   generalize LL.getD i []=D at *
   generalize (LL.take i).flatten=X at *
   go_wp2
   go_loopw [19] (fun x wr=>∃ j:Nat,j<=D.length/\x=.int .i64 j/\ZN wr b b n k (X ++ D.take j)/\Below y.heap.size y wr) (fun x _=>D.length - (intOf x).toNat)
   case atStart=>exact ⟨0,Nat.zero_le _,rfl,by rw [List.take_zero,List.append_nil];exact b4.out,e1.out⟩
   case round =>
    obtain ⟨j,hj,rfl,hT,hB⟩:=hrel
    have hR:=j1.out wr hB
    obtain ⟨G,rfl⟩:∃ G,G=wr:=⟨_,rfl⟩
    have b5:Hid (ZN G b b n k (X ++ D.take j)):=hT
    have b6:Hid (Below y.heap.size y G):=hB
    have g4:Hid (Ql Ze G q D):=hR
    clear hT hB hR b4 j2
    by_cases e3:j < D.length
    ·have g5:Hid (D.take (j+1)=D.take j ++ [Xd D j]):=JhR e3
     have g6:Jr ((Xd D j).n,(Xd D j).dT):=i8.out _ (by have:=Xx e3;exact List.mem_of_getElem? this)
     obtain ⟨b',o',e2,n3,d0,d1,d2,d3,d4⟩:=QU g4.out e3
     subst e2
     have j3:(X ++ D.take j).length<=1000:=by rw [List.length_append,List.length_take];omega
     have a1:Hid (YO n k (Xd D j)=(YM (Xd D j).n (Xd D j).dT && gS n k (Xd D j).size (Xd D j).at_ (Xd D j).text)):=T8 n k _
     have e4:Hid (Jr ((Xd D j).n,(Xd D j).dT)):=g6
     have e5:Hid (∀ W,ZN W b b n k ((X ++ D.take j) ++ [Xd D j])->ZN W b b n k (X ++ D.take (j+1))):=fun W h=>by rw [g5.out,<- List.append_assoc];exact h
     clear g6 g5
     generalize Xd D j=x at *
     generalize X ++ D.take j=e6 at *
     obtain ⟨K,M,xs,N,O⟩:=x
     dsimp only at d0 d1 d2 d3 d4 a1 e4
     obtain ⟨I,b7⟩:∃ I,I=G.alloc (.cells #[.int .i64 K,.int .i64 M,.int .i64 xs,.int .i64 N,.string O] 76):=⟨_,rfl⟩
     have a2:Below G.heap.size G I:=by rw [b7];exact (Below.refl _ _).alloc (Nat.le_refl _) _
     have a3:Hid (I.cell? ⟨G.heap.size,0,none⟩=some (.int .i64 K)/\I.cell? ⟨G.heap.size,1,none⟩=some (.int .i64 M)/\I.cell? ⟨G.heap.size,2,none⟩=some (.int .i64 xs)/\I.cell? ⟨G.heap.size,3,none⟩=some (.int .i64 N)/\I.cell? ⟨G.heap.size,4,none⟩=some (.string O)):=by
      rw [b7]
      exact ⟨by rw [World.cell?_alloc_at _ _ _ _ rfl];rfl,by rw [World.cell?_alloc_at _ _ _ _ rfl];rfl,by rw [World.cell?_alloc_at _ _ _ _ rfl];rfl,by rw [World.cell?_alloc_at _ _ _ _ rfl];rfl,by rw [World.cell?_alloc_at _ _ _ _ rfl];rfl⟩
     have g7:Hid (I=G.alloc (.cells #[.int .i64 K,.int .i64 M,.int .i64 xs,.int .i64 N,.string O] 76)):=b7
     have g8:Hid (Below y.heap.size y I):=b6.out.trans (a2.mono b6.out.size)
     have g9:Hid (ZN I b b n k e6):=b5.out.below a2
     have d5:Hid (YO n k ⟨K,M,xs,N,O⟩=true->∃ (Y:Value) (sz:Int),(∀ W,Below I.heap.size I W->(Instr.lookup 140 (.map (some b)) (.agg #[.int .i64 K,.int .i64 M]) false).run prog W=.ok (.agg #[.int .i64 sz,Y]) W)/\(∀ g,Y.ownBlock=some g->g < G.heap.size)/\∀ W,Below I.heap.size I W->Calls prog 108 #[.agg #[.int .i64 sz,Y],.agg #[.int .i64 K,.int .i64 M,.int .i64 xs,.int .i64 N,.string O]] W fun e w7=>∃ rv Q,e=.returned rv/\W.grownBy w7 Y.ownBlock/\(Instr.mapUpdate 140 (.map (some b)) (.agg #[.int .i64 K,.int .i64 M]) rv).run prog w7=.ok () Q/\Below b W Q/\ZN Q b b n k (e6 ++ [⟨K,M,xs,N,O⟩])):=fun hc=>by
      obtain ⟨Y,sz,h1,h2,h3⟩:=b5.out.step hc e4.out j3
      exact ⟨Y,sz,fun W J=>h1 W (a2.trans (J.mono a2.size)),h2,fun W J=>h3 W (a2.trans (J.mono a2.size))⟩
     have d6:Hid (∀ W,Calls prog 57 #[.agg #[.int .i64 K,.int .i64 M]] W fun e w'=>e=.returned (.bool (YM K M))/\Below W.heap.size W w'):=fun W=>wI K M W
     have a8:Hid (∀ W,Calls prog 107 #[.int .i64 (n:Int),.int .i64 (k:Int),.int .i64 xs,.agg #[.int .i64 N,.string O]] W fun e w'=>e=.returned (.bool (gS n k xs N O))/\Below W.heap.size W w'):=fun W=>I1 n k xs N O W m5 m6 hn
     have Z:Hid (∀ W,Below I.heap.size I W->((W.cell? ⟨w.heap.size,0,none⟩=some (.int .i64 (n:Int))/\W.cell? ⟨w.heap.size,1,none⟩=some (.int .i64 (k:Int)))/\(W.cell? ⟨G.heap.size,0,none⟩=some (.int .i64 K)/\W.cell? ⟨G.heap.size,1,none⟩=some (.int .i64 M)/\W.cell? ⟨G.heap.size,2,none⟩=some (.int .i64 xs)/\W.cell? ⟨G.heap.size,3,none⟩=some (.int .i64 N)/\W.cell? ⟨G.heap.size,4,none⟩=some (.string O)))/\ZN W b b n k e6/\Below y.heap.size y W):=fun W J=>by
      have a0:=Qf a3.out.1
      have h0:Below y.heap.size y W:=g8.out.trans (J.mono g8.out.size)
      exact ⟨⟨⟨(b3.out W h0).1,(b3.out W h0).2.1⟩,(J.cell (p:=⟨G.heap.size,0,none⟩) a0).trans a3.out.1,(J.cell (p:=⟨G.heap.size,1,none⟩) a0).trans a3.out.2.1,(J.cell (p:=⟨G.heap.size,2,none⟩) a0).trans a3.out.2.2.1,(J.cell (p:=⟨G.heap.size,3,none⟩) a0).trans a3.out.2.2.2.1,(J.cell (p:=⟨G.heap.size,4,none⟩) a0).trans a3.out.2.2.2.2⟩,g9.out.below J,h0⟩
     obtain ⟨⟨⟨g0,g1⟩,k0,k1,k2,k3,k4⟩,_⟩:=Z.out I (Below.refl _ _)
     clear b7 a2 b6 b5 g4 a3 g9 e4
     generalize YM K M=tg at *
     generalize gS n k xs N O=ft at *
     cases tg with
     | false =>
      have HC:Hid (YO n k ⟨K,M,xs,N,O⟩=false):=a1.out
      clear a1 a8 d5
      go_wp2_with (first | rw [<- g7.out] | fail)
      refine (d6.out _).mono ?_
      rintro e w5 ⟨rfl,a6⟩
      obtain ⟨_,h5,h6⟩:=Z.out w5 a6
      have j5:Hid (ZN w5 b b n k (X ++ D.take (j+1))):=e5.out w5 (h5.pass HC.out)
      have j6:Hid (Below y.heap.size y w5):=h6
      clear h5 h6 a6 d6 Z
      go_wp2
      go_roundw
      case rel=>exact ⟨j+1,by omega,by go_num,j5.out,j6.out⟩
      case measure=>simp [intOf];omega
     | true =>
      go_wp2_with (first | rw [<- g7.out] | fail)
      refine (d6.out _).mono ?_
      rintro e w5 ⟨rfl,a6⟩
      have a9:Hid (Below I.heap.size I w5):=a6
      clear g0 g1 k0 k1 k2 k3 k4
      obtain ⟨⟨⟨g0,g1⟩,k0,k1,k2,k3,k4⟩,_⟩:=Z.out w5 a6
      clear a6 d6 d0 d1 d2 d3 d4
      cases ft with
      | false =>
       have HC:Hid (YO n k ⟨K,M,xs,N,O⟩=false):=a1.out
       clear a1 d5
       go_wp2_with fail
       refine (a8.out _).mono ?_
       rintro e U ⟨rfl,b0⟩
       obtain ⟨_,d7,d8⟩:=Z.out U (a9.out.trans (b0.mono a9.out.size))
       have j8:Hid (ZN U b b n k (X ++ D.take (j+1))):=e5.out U (d7.pass HC.out)
       have k5:Hid (Below y.heap.size y U):=d8
       clear d7 d8 b0 a8 Z
       go_wp2
       go_roundw
       case rel=>exact ⟨j+1,by omega,by go_num,j8.out,k5.out⟩
       case measure=>simp [intOf];omega
      | true =>
       have HC:Hid (YO n k ⟨K,M,xs,N,O⟩=true):=a1.out
       clear a1
       go_wp2_with fail
       refine (a8.out _).mono ?_
       rintro e U ⟨rfl,b0⟩
       have a7:Below I.heap.size I U:=a9.out.trans (b0.mono a9.out.size)
       clear g0 g1 k0 k1 k2 k3 k4
       obtain ⟨⟨⟨g0,g1⟩,k0,k1,k2,k3,k4⟩,d7,d8⟩:=Z.out U a7
       obtain ⟨Y,sz,e7,h7,h8⟩:=d5.out HC.out
       have k6:Hid (∀ W,Below U.heap.size U W->Calls prog 108 #[.agg #[.int .i64 sz,Y],.agg #[.int .i64 K,.int .i64 M,.int .i64 xs,.int .i64 N,.string O]] W fun e w7=>∃ rv Q,e=.returned rv/\(w7.cell? ⟨G.heap.size,0,none⟩=some (.int .i64 K)/\w7.cell? ⟨G.heap.size,1,none⟩=some (.int .i64 M))/\(Instr.mapUpdate 140 (.map (some b)) (.agg #[.int .i64 K,.int .i64 M]) rv).run prog w7=.ok () Q/\Below y.heap.size y Q/\ZN Q b b n k (X ++ D.take (j+1))):=fun W J=>by
        have h4:Below I.heap.size I W:=a7.trans (J.mono a7.size)
        refine (h8 W h4).mono ?_
        rintro e w7 ⟨rv,Q,rfl,hg,h9,i0,k7⟩
        obtain ⟨⟨_,q0,q1,_⟩,_,l3⟩:=Z.out W h4
        have l7:some G.heap.size≠Y.ownBlock:=fun e=>by have:=h7 _ e.symm;omega
        have i1:=hg.block G.heap.size (Qf q0) l7
        refine ⟨rv,Q,rfl,⟨(World.cell?_of_block (a:=⟨G.heap.size,0,none⟩) i1).trans q0,(World.cell?_of_block (a:=⟨G.heap.size,1,none⟩) i1).trans q1⟩,h9,?_,e5.out Q k7⟩
        rw [f7.out] at i0
        exact l3.trans i0
       have l1:=e7 U a7
       have l2:=e7 U.drew a7.drew
       clear d7 d8 b0 a7 a8 Z e7 h8 h7 d5 a9
       go_wp2
       go_region_with (go_at_call 108;refine (k6.out _ (by first | exact (Below.refl _ _).drew | exact Below.refl _ _)).mono ?_;rintro e w7 ⟨rv,Q,rfl,⟨n0,n1⟩,h9,l8,l9⟩)
       all_goals (go_wp2;go_roundw)
       all_goals (first | exact ⟨j+1,by omega,by go_num,l9,l8⟩ | (simp [intOf];omega))
    ·have i2:D.take j=D:=List.take_of_length_le (by omega)
     have m0:Hid ((LL.take (i+1)).flatten=X ++ D.take j):=by show _=_;rw [f8.out,i2]
     clear i2
     go_wp2
     go_roundw
     case rel=>exact ⟨i+1,by omega,by go_num,by rw [m0.out];exact b5.out,b6.out⟩
     case measure=>simp [intOf];omega
  ·have i3:i=LL.length:=by omega
   have HF:Hid ((LL.take i).flatten=LL.flatten):=by show _=_;rw [i3,f6.out]
   rw [HF.out] at b4
   clear i3
   go_wp2
   go_ret
   exact ⟨⟨_,rfl,by rw [<- f7.out];exact b4.out⟩,(b3.out w2 e1.out).2.2.2⟩
def jH (c:Xg) (LL:List (List Yb)):Int×Int:=if 0 < (Jg c).1 then Jg c else if c.n < (LL.length:Int) then (3,-1) else (0,-1)
def jB (c:Xg) (LL:List (List Yb)):(Int×Int)×ByteArray×Bool:=if 0 < (jH c LL).1 then ((0,0),⟨#[]⟩,false) else Ys c.n.toNat c.k.toNat LL.flatten LL.flatten
theorem P0  (h:0 < (Jg c).1):jH c LL=Jg c/\jB c LL=((0,0),⟨#[]⟩,false):=by
 have e:jH c LL=Jg c:=if_pos h
 exact ⟨e,by unfold jB;rw [e,if_pos h]⟩
theorem LD  (h:¬ 0 < (Jg c).1) (j:c.n < (LL.length:Int)):jH c LL=(3,-1)/\jB c LL=((0,0),⟨#[]⟩,false):=by
 have e:jH c LL=(3,-1):=by unfold jH;rw [if_neg h,if_pos j]
 exact ⟨e,by unfold jB;rw [e];rfl⟩
theorem CM  (h:¬ 0 < (Jg c).1) (j:¬ c.n < (LL.length:Int)):jH c LL=(0,-1)/\jB c LL=Ys c.n.toNat c.k.toNat LL.flatten LL.flatten:=by
 have e:jH c LL=(0,-1):=by unfold jH;rw [if_neg h,if_neg j]
 exact ⟨e,by unfold jB;rw [e];rfl⟩
theorem Jd.setInt {ad:Nat->Addr} {G:Value} {c at_:Int} {z:Int} (h:Jd w ad G c at_) (N:w.cell? ⟨b,1,none⟩=Option.some (Value.int .i64 z)) (i:Nat) (v:Value):Jd (w.setCell ⟨b,i,none⟩ v) ad G c at_:=by
 rcases h with h | h | ⟨k,y,I,J,K,M,j⟩
 ·exact Or.inl h
 ·exact Or.inr (Or.inl h)
 ·have D : y ≠ b := fun e => by
   subst e
   rw [N] at j
   cases j
  exact Or.inr (Or.inr ⟨k,y,I,J,K,(World.cell?_setCell_other _ _ _ _ (fun e=>D (congrArg Addr.block e).symm)).trans M,(World.cell?_setCell_other _ _ _ _ (fun e=>D (congrArg Addr.block e).symm)).trans j⟩)
structure IK (w:World) (l:List ByteArray) (p:Option Addr) (cap:Nat):Prop where
 strs:Strs w p l
 room:l.length<=cap
 empty:p=none->l=[]/\cap=0
 len:l.length<=maxLen
 size:∀ x ∈ l,x.size<=maxLen
theorem O0 (c:Int) (w:World):Calls prog 27 #[.int .i64 c] w fun e w'=>e=.returned (.agg #[.int .i64 c,.int .i64 (-1)])/\Below w.heap.size w w':=by
 go_enter func27,ntmps27
 go_wp2
 refine bodyPost_ret (v:=.agg #[.int .i64 c,.int .i64 (-1)]) (by simp [results,results27,go_sem]) rfl ⟨rfl,?_⟩
 exact (Below.refl _ _).alloc (Nat.le_refl _) _
theorem Jec (w:World):Calls prog 77 #[] w fun e w'=>e=.returned (.agg #[.int .i64 0,.int .i64 (-1)])/\Below w.heap.size w w':=by
 go_enter func77,ntmps77
 go_wp2
 refine bodyPost_ret (v:=.agg #[.int .i64 0,.int .i64 (-1)]) (by simp [results,results77,go_sem]) rfl ⟨rfl,?_⟩
 exact (Below.refl _ _).alloc (Nat.le_refl _) _
theorem Jbn (w:World) (t:TypeId) (j:World) (D:Below (w.alloc (.cells #[.int .i64 0,.int .i64 0] t)).heap.size (w.alloc (.cells #[.int .i64 0,.int .i64 0] t)) j) :
 j.cell? ⟨w.heap.size,0,none⟩=some (.int .i64 0)/\j.cell? ⟨w.heap.size,1,none⟩=some (.int .i64 0)/\j.frozen? ⟨w.heap.size,0,none⟩=false/\j.frozen? ⟨w.heap.size,1,none⟩=false:=by
 have y:w.heap.size < (w.alloc (.cells #[.int .i64 0,.int .i64 0] t)).heap.size:=by simp
 refine ⟨(D.cell (p:=⟨w.heap.size,0,none⟩) y).trans ?_,(D.cell (p:=⟨w.heap.size,1,none⟩) y).trans ?_,(D.frozen (p:=⟨w.heap.size,0,none⟩) y).trans ?_,(D.frozen (p:=⟨w.heap.size,1,none⟩) y).trans ?_⟩
 ·rw [World.cell?_alloc_at _ _ _ _ rfl];rfl
 ·rw [World.cell?_alloc_at _ _ _ _ rfl];rfl
 ·unfold World.frozen?;rw [heap_alloc_new];rfl
 ·unfold World.frozen?;rw [heap_alloc_new];rfl
theorem Jbc {j:World} {t:TypeId} (y:Below (w.alloc (.cells #[.int .i64 0,.int .i64 0] t)).heap.size (w.alloc (.cells #[.int .i64 0,.int .i64 0] t)) j):Below w.heap.size w j :=
 ((Below.refl _ w).alloc (Nat.le_refl _) _).trans (y.mono (by simp))
theorem JaV {j:World} (y:Below w.heap.size w j) (a b:Value):Below w.heap.size w ((j.setCell ⟨w.heap.size,0,none⟩ a).setCell ⟨w.heap.size,1,none⟩ b):=by
 refine (y.setCell ?_ _).setCell ?_ _ <;> exact Nat.le_refl _
theorem JbJ (p:Option Addr) (l:List ByteArray) (c:Nat) (w:World) (J:l.length<=1000000) (h:l.length < 1∨16 < l.length) :
 Calls prog 54 #[.slice p l.length c] w fun e w'=>e=.returned (.agg #[.int .i64 2,.int .i64 (-1)])/\Below w.heap.size w w':=by
 rcases h with h | h
 ·go_enter func54,ntmps54
  go_wp2_with fail
  refine (O0 2 _).mono ?_
  rintro e y ⟨rfl,j⟩
  obtain ⟨D,G,f1,f2⟩:=Jbn w _ y j
  have I:Hid (Below w.heap.size w y):=Jbc j
  clear j
  go_wp2
  refine bodyPost_ret (v:=.agg #[.int .i64 2,.int .i64 (-1)]) (by simp [results,results54,go_sem,D,G]) rfl ⟨rfl,JaV I.out _ _⟩
 ·go_enter func54,ntmps54
  go_wp2_with fail
  refine (O0 2 _).mono ?_
  rintro e y ⟨rfl,j⟩
  obtain ⟨D,G,f1,f2⟩:=Jbn w _ y j
  have I:Hid (Below w.heap.size w y):=Jbc j
  clear j
  go_wp2
  refine bodyPost_ret (v:=.agg #[.int .i64 2,.int .i64 (-1)]) (by simp [results,results54,go_sem,D,G]) rfl ⟨rfl,JaV I.out _ _⟩
theorem JbY (p:Option Addr) (l:List ByteArray) (c:Nat) (w:World) (h1:¬ l.length < 1) (h2:¬ 16 < l.length) (hc:l.length<=c) (ht:∀ x ∈ l,x.size<=1000000) (hs:Strs w p l) :
 Calls prog 54 #[.slice p l.length c] w fun e w'=>e=.returned (.agg #[.int .i64 (XO l 0 l.length).1,.int .i64 (XO l 0 l.length).2])/\Below w.heap.size w w':=by
 have Y:Hid (∀ i,i < l.length->(Yc l i).size<=1000000):=fun i hi=>ht _ (oQ hi)
 have HS:Hid (Strs w p l):=hs
 have g1:decide ((l.length:Int) < 1)=false:=decide_eq_false (by omega)
 have g2:decide (16 < (l.length:Int))=false:=decide_eq_false (by omega)
 obtain ⟨b,o,rfl⟩:∃ b o,p=some ⟨b,o,none⟩:=by
  rcases hs with h0 | ⟨b,o,hp,_⟩
  ·rw [h0] at h1;exact absurd (by decide) h1
  ·exact ⟨b,o,hp⟩
 clear hs ht
 obtain ⟨R,hR⟩:∃ R,R=XO l 0 l.length:=⟨_,rfl⟩
 rw [<- hR]
 have HR:Hid (R=XO l 0 l.length):=hR
 clear hR
 go_enter func54,ntmps54
 go_wp2
 have a5:Hid (Below (w.alloc (.cells #[.int .i64 0,.int .i64 0] 39)).heap.size (w.alloc (.cells #[.int .i64 0,.int .i64 0] 39)) (w.alloc (.cells #[.int .i64 0,.int .i64 0] 39))):=Below.refl _ _
 have HK:Hid (∀ j,Below (w.alloc (.cells #[.int .i64 0,.int .i64 0] 39)).heap.size (w.alloc (.cells #[.int .i64 0,.int .i64 0] 39)) j->(j.cell? ⟨w.heap.size,0,none⟩=some (.int .i64 0)/\j.cell? ⟨w.heap.size,1,none⟩=some (.int .i64 0)/\j.frozen? ⟨w.heap.size,0,none⟩=false/\j.frozen? ⟨w.heap.size,1,none⟩=false)/\Below w.heap.size w j):=fun j h=>⟨Jbn w _ j h,Jbc h⟩
 generalize w.alloc (.cells #[.int .i64 0,.int .i64 0] 39)=w0 at a5 HK ⊢
 go_loopw [3] (fun x j=>∃ i:Nat,i<=l.length/\x=.int .i64 i/\XO l i (l.length - i)=R/\Below w0.heap.size w0 j) (fun x _=>l.length - (intOf x).toNat)
 case atStart=>exact ⟨0,Nat.zero_le _,rfl,HR.out.symm,a5.out⟩
 case round =>
  obtain ⟨i,hi,rfl,a6,a0⟩:=hrel
  obtain ⟨y,rfl⟩:∃ y,y=wr:=⟨_,rfl⟩
  have G:Hid (XO l i (l.length - i)=R):=a6
  have a1:Hid (Below w0.heap.size w0 y):=a0
  obtain ⟨⟨q1,q2,f1,f2⟩,Q⟩:=HK.out y a0
  have a7:Hid (Below w.heap.size w y):=Q
  have a2:Hid (Strs y (some ⟨b,o,none⟩) l):=HS.out.below Q
  clear a6 a0 Q HR
  by_cases Z:i < l.length
  ·have q3 : y.cell? ⟨b, o + i, none⟩ = some (.string (Yc l i)) := by
    rcases a2.out with h0 | ⟨b',o',hp,_,a9⟩
    ·rw [h0] at Z;exact absurd Z (Nat.not_lt_zero _)
    ·obtain ⟨rfl,rfl⟩:b=b'/\o=o':=by simpa using hp
     exact a9 i Z
   have D:Hid (∀ W,Calls prog 26 #[.string (Yc l i)] W fun e w'=>e=.returned (.bool (Jo (Yc l i)))/\w'=W):=fun W=>R1 _ W (Y.out i Z)
   have U:Hid ((l.take i).length=i):=by show _=_;rw [List.length_take];omega
   have N:Hid (XO l i (l.length - i)=if Yu l i=0 then XO l (i+1) (l.length - (i+1)) else (((Yu l i:Nat):Int),(i:Int))):=by
    show _=_
    rw [show l.length - i=(l.length - (i+1))+1 by omega]
    rfl
   by_cases I:Jo (Yc l i)=true
   ·by_cases O:Yc l i ∈ l.take i
    ·have K : Hid (R = (6, (i : Int))) := by
      show _=_
      rw [<- G.out,N.out,TL I O,if_neg (by decide)]
      rfl
     have X:Hid (∀ W,Strs W (some ⟨b,o,none⟩) (l.take i)->Calls prog 46 #[.slice (some ⟨b,o,none⟩) (l.take i).length c,.string (Yc l i)] W fun e w'=>e=.returned (.int .i64 ((ZJ (l.take i) (Yc l i):Nat):Int))/\w'=W):=fun W hW=>ML _ _ c _ W (by rw [List.length_take];omega) hW O
     rw [I] at D
     rw [U.out] at X
     have a3:Hid (Strs y (some ⟨b,o,none⟩) (l.take i)):=a2.out.take i
     clear G N Y U I O
     generalize ZJ (l.take i) (Yc l i)=k at *
     generalize Yc l i=t at *
     go_wp2_with fail
     refine (D.out _).mono ?_
     rintro e M ⟨rfl,J⟩
     rw [J]
     clear J M D
     go_wp2
     go_quiet ((go_at_call 46;exact Calls.quiet_of_same (X.out _ (a3.out.drewN _))))
     go_wp2
     refine bodyPost_ret (v:=.agg #[.int .i64 R.1,.int .i64 R.2]) (by rw [K.out];simp [results,results54,go_sem,q1,q2]) rfl ⟨rfl,?_⟩
     exact JaV (below_drewN a7.out _) _ _
    ·have K : Hid (XO l (i + 1) (l.length - (i + 1)) = R) := by
      show _=_
      rw [<- G.out,N.out,ET I O,if_pos rfl]
     have X:Hid (∀ W,Strs W (some ⟨b,o,none⟩) (l.take i)->Calls prog 46 #[.slice (some ⟨b,o,none⟩) (l.take i).length c,.string (Yc l i)] W fun e w'=>e=.returned (.int .i64 (-1))/\w'=W):=fun W hW=>O5 _ _ c _ W (by rw [List.length_take];omega) hW O
     rw [I] at D
     rw [U.out] at X
     have a3:Hid (Strs y (some ⟨b,o,none⟩) (l.take i)):=a2.out.take i
     clear G N Y U I O
     generalize Yc l i=t at *
     go_wp2_with fail
     refine (D.out _).mono ?_
     rintro e M ⟨rfl,J⟩
     rw [J]
     clear J M D
     go_wp2
     go_quiet ((go_at_call 46;exact Calls.quiet_of_same (X.out _ (a3.out.drewN _))))
     go_wp2
     go_roundw
     case rel=>exact ⟨i+1,by omega,by go_num,K.out,below_drewN a1.out _⟩
     case measure=>simp [intOf];omega
   ·have a4:Jo (Yc l i)=false:=Bool.eq_false_iff.2 I
    have K:Hid (R=(4,(i:Int))):=by
     show _=_
     rw [<- G.out,N.out,Jj1 a4,if_neg (by decide)]
     rfl
    rw [a4] at D
    clear G N Y U I a4
    generalize Yc l i=t at *
    go_wp2_with fail
    refine (D.out _).mono ?_
    rintro e M ⟨rfl,J⟩
    rw [J]
    clear J M D
    go_wp2
    refine bodyPost_ret (v:=.agg #[.int .i64 R.1,.int .i64 R.2]) (by rw [K.out];simp [results,results54,go_sem,q1,q2]) rfl ⟨rfl,?_⟩
    exact JaV a7.out _ _
  ·have b0:i=l.length:=by omega
   subst b0
   have K:Hid (R=(0,-1)):=by
    show _=_
    rw [<- G.out,Nat.sub_self]
    rfl
   clear G
   go_wp2_with fail
   refine (Jec _).mono ?_
   rintro e M ⟨rfl,a8⟩
   obtain ⟨⟨r1,r2,e1,e2⟩,Q⟩:=HK.out M (a1.out.trans (a8.mono a1.out.size))
   clear q1 q2 f1 f2 a8
   go_wp2
   refine bodyPost_ret (v:=.agg #[.int .i64 R.1,.int .i64 R.2]) (by rw [K.out];simp [results,results54,go_sem,r1,r2]) rfl ⟨rfl,?_⟩
   exact JaV Q _ _
theorem Jcc (p:Option Addr) (l:List ByteArray) (c:Nat) (w:World) (j:l.length<=1000000) (y:l.length<=c) (D:∀ x ∈ l,x.size<=1000000) (G:Strs w p l) :
 Calls prog 54 #[.slice p l.length c] w fun e w'=>e=.returned (.agg #[.int .i64 (Xj l).1,.int .i64 (Xj l).2])/\Below w.heap.size w w':=by
 by_cases h:l.length < 1∨16 < l.length
 ·rw [E7 h]
  exact JbJ p l c w j h
 ·rw [AB (by omega) (by omega)]
  exact JbY p l c w (by omega) (by omega) y D G
end Go.Proofs.YtmikbldbfnlfjaaGreatDoor

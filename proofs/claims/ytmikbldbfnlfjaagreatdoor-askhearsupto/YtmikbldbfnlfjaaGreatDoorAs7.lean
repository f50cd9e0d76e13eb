/- Texts laid together. -/
import Derived.Test.YtmikbldbfnlfjaaGreatDoorAs6
set_option maxRecDepth 10000
set_option maxHeartbeats 16000000
namespace Go.Proofs.YtmikbldbfnlfjaaGreatDoor
open Go.Proofs.Tryz
open Go.RowKit
variable {i k size B c:Nat}{X:List Nat}{w w':World}{l:List Zb}{p:Option Addr}{O:Nat->Prop}{v:Value}
theorem Jlu (ps j c:Nat) (q:Option Addr) (U:Nat) (D:List (Int×ByteArray)) (w:World) (G:j < D.length) (M:c < (Ji D j).2.size) (X:w.cell? ⟨ps,0,none⟩=some (.slice q D.length U)) (W:fE w q D) :
 Calls prog 117 (#[.int .i64 (j:Int),.int .i64 (c:Int)] ++ #[.pointer (some ⟨ps,0,none⟩)]) w fun e N=>e=.returned (.int .u8 ((Z2 D j c:Nat):Int))/\N=w:=by
 rcases W with O | ⟨b,o,rfl,_,I⟩
 ·rw [O] at G;simp at G
 obtain ⟨_,Q⟩:=I j G
 have J:=EP (Ji D j).2 c M
 have K:Hid (Z2 D j c=Gf.nth (Zj (Ji D j).2) c):=by show _=_;rfl
 rw [K.out]
 clear I K
 generalize (Ji D j).2=t at Q J M ⊢
 generalize Gf.nth (Zj t) c=y at J ⊢
 go_enter func117,ntmps117
 go_wp2
 go_ret
 exact ⟨rfl,rfl⟩
theorem xP {j:List (Int×ByteArray)} (y:i < j.length):Gf.nth (Xo j) i=(Ji j i).1.toNat:=by
 show (j.map _).getD i 0=(j.getD i _).1.toNat
 rw [List.getD_eq_getElem?_getD,List.getD_eq_getElem?_getD,List.getElem?_map,List.getElem?_eq_getElem y]
 rfl
theorem RM  (G:X.length=k) {j:Nat} (I:i < k) (D:j < k):vec (X.map (Xn k)) i j=iY k X i j:=by
 have y:Qh (X.map (Xn k)) i=Xn k (Gf.nth X i):=by
  show (X.map _).getD i []=_
  rw [List.getD_eq_getElem?_getD,List.getElem?_map,List.getElem?_eq_getElem (by omega),Gf.aK X i (by omega)]
  rfl
 show Qm (Gf.nth (Qh (X.map (Xn k)) i) j)=_
 rw [y]
 unfold Xn
 rw [Yq _ _ j D]
 rfl
theorem RN {g n:Nat} {y D G:Nat->Nat} (O:X.length=k) (M:∀ x ∈ X,x < n) (h:w.rowIs g 138 k (fun i=>.slice (some ⟨y (Gf.nth X i),D (Gf.nth X i),none⟩) k (G (Gf.nth X i)))) (N:∀ x,x < n->jU w (some ⟨y x,D x,none⟩) (Xn k x)):QJ w (some ⟨g,0,none⟩) (X.map (Xn k)):=by
 refine Or.inr ⟨g,0,rfl,h.lt,fun i I=>?_⟩
 have j:i < X.length:=by simpa using I
 have J:Qh (X.map (Xn k)) i=Xn k (Gf.nth X i):=by
  show (X.map _).getD i []=_
  rw [List.getD_eq_getElem?_getD,List.getElem?_map,List.getElem?_eq_getElem j,Gf.aK X i j]
  rfl
 have K:Gf.nth X i ∈ X:=by rw [Gf.aK X i j];exact List.getElem_mem _
 rw [J,Nat.zero_add]
 refine ⟨some ⟨y (Gf.nth X i),D (Gf.nth X i),none⟩,G (Gf.nth X i),?_,N _ (M _ K),fun e=>by cases e⟩
 rw [h.cell (by omega)]
 unfold Xn
 rw [Jf]
structure l5 (n k size:Nat) (l:List (Int×ByteArray)):Prop where
 pK:l.any (j4 (n:Int) (Jk k size))=false
 jS:(Qg k l l.length).length=k
theorem l5.at_ {n:Nat} {l:List (Int×ByteArray)} (h:l5 n k size l) {x:Int×ByteArray} (j:x ∈ l):0<=x.1/\x.1 < n/\x.2.size=Jk k size:=by
 have:=List.any_eq_false.1 h.pK x j
 unfold j4 at this
 simp only [Bool.or_eq_true,decide_eq_true_eq,Bool.not_eq_true',decide_eq_false_iff_not] at this
 omega
theorem l5.WE {n:Nat} {l:List (Int×ByteArray)} (h:l5 n k size l):(∀ x ∈ Xo (Qg k l l.length),x < n)/\(Xo (Qg k l l.length)).Nodup/\(Xo (Qg k l l.length)).length=k:=by
 refine ⟨fun x G=>?_,?_,by unfold Xo;rw [List.length_map];exact h.jS⟩
 ·obtain ⟨y,D,rfl⟩:=List.mem_map.1 G
  have:=h.at_ (X9 k l l.length (Nat.le_refl _) y D)
  omega
 ·have I:=sX k l l.length
  have e:Xo (Qg k l l.length)=((Qg k l l.length).map Prod.fst).map Int.toNat:=by
   unfold Xo
   rw [List.map_map]
   rfl
  rw [e]
  refine List.Pairwise.map (R:=fun a b:Int=>a≠b/\0<=a/\0<=b) _ (fun a b j e=>j.1 (by have:=j.2;omega)) (List.Pairwise.imp_of_mem (fun J K j=>?_) I)
  ·obtain ⟨y,D,rfl⟩:=List.mem_map.1 J
   obtain ⟨M,N,rfl⟩:=List.mem_map.1 K
   exact ⟨j,(h.at_ (X9 k l l.length (Nat.le_refl _) y D)).1,(h.at_ (X9 k l l.length (Nat.le_refl _) M N)).1⟩
structure jF (w:World) (b n k size:Nat):Prop where
 c0:w.cell? ⟨b,0,none⟩=some (.int .i64 (n:Int))
 c1:w.cell? ⟨b+1,0,none⟩=some (.int .i64 (k:Int))
 c2:w.cell? ⟨b+1+1,0,none⟩=some (.int .i64 (size:Int))
theorem jF.below {b n:Nat} (h:jF w b n k size) (j:Below w.heap.size w w'):jF w' b n k size :=
 ⟨(j.cell (Qf h.c0)).trans h.c0,(j.cell (Qf h.c1)).trans h.c1,(j.cell (Qf h.c2)).trans h.c2⟩
theorem UN (w:World) (n k size:Nat) (t:TypeId):jF (((w.alloc (.cells #[.int .i64 (n:Int)] t)).alloc (.cells #[.int .i64 (k:Int)] t)).alloc (.cells #[.int .i64 (size:Int)] t)) w.heap.size n k size:=by
 have y:(w.alloc (.cells #[.int .i64 (n:Int)] t)).heap.size=w.heap.size+1:=by simp
 have D:((w.alloc (.cells #[.int .i64 (n:Int)] t)).alloc (.cells #[.int .i64 (k:Int)] t)).heap.size=w.heap.size+1+1:=by simp
 have G:Below (w.alloc (.cells #[.int .i64 (n:Int)] t)).heap.size (w.alloc (.cells #[.int .i64 (n:Int)] t)) ((w.alloc (.cells #[.int .i64 (n:Int)] t)).alloc (.cells #[.int .i64 (k:Int)] t)):=(Below.refl _ _).alloc (Nat.le_refl _) _
 have j:Below ((w.alloc (.cells #[.int .i64 (n:Int)] t)).alloc (.cells #[.int .i64 (k:Int)] t)).heap.size ((w.alloc (.cells #[.int .i64 (n:Int)] t)).alloc (.cells #[.int .i64 (k:Int)] t)) (((w.alloc (.cells #[.int .i64 (n:Int)] t)).alloc (.cells #[.int .i64 (k:Int)] t)).alloc (.cells #[.int .i64 (size:Int)] t)):=(Below.refl _ _).alloc (Nat.le_refl _) _
 refine ⟨?_,?_,?_⟩
 ·rw [j.cell (p:=⟨w.heap.size,0,none⟩) (by show w.heap.size < _;omega),G.cell (p:=⟨w.heap.size,0,none⟩) (by show w.heap.size < _;omega),World.cell?_alloc_at _ _ _ _ rfl];rfl
 ·rw [j.cell (p:=⟨w.heap.size+1,0,none⟩) (by show w.heap.size+1 < _;omega),World.cell?_alloc_at _ _ _ _ y.symm];rfl
 ·rw [World.cell?_alloc_at _ _ _ _ D.symm];rfl
theorem PX:(prog.info? 138).map (fun i=>(i.zero,i.size,i.bytes))=some (some (.slice none 0 0),1,24):=by kernel_rfl
theorem LJ (n k size:Nat) (p:Option Addr) (l:List (Int×ByteArray)) (b6:Nat) (z:Addr) (w:World) (a0:1<=k) (g3:k<=n) (hn:n<=12) (n6:size<=1000) (hl:l.length<=1000) (hf:l5 n k size l) (hs:fE w p l)
 (hz:w.cell? ⟨11,0,none⟩=some (.iface 252 (.pointer (some z)))) :
 Calls prog 82 #[.int .i64 (n:Int),.int .i64 (k:Int),.int .i64 (size:Int),.slice p l.length b6] w fun e w'=>e=.returned (.tuple #[.string (gB k size (Qg k l l.length)),.nilIface])/\Below w.heap.size w w':=by
 have q7:=xR (size:=size) a0
 have g4:Hid (∀ x ∈ Qg k l l.length,0<=x.1/\x.1 < n/\x.2.size=Jk k size):=fun x Q=>hf.at_ (X9 k l l.length (Nat.le_refl _) x Q)
 have g5:Hid (l.any (j4 (n:Int) (Jk k size))=false):=hf.pK
 have b1:Hid (size<=k*Jk k size):=FX a0
 have M:Hid ((∀ x ∈ Xo (Qg k l l.length),x < n)/\(Xo (Qg k l l.length)).Nodup/\(Xo (Qg k l l.length)).length=k):=hf.WE
 have a1:Hid ((Qg k l l.length).length=k):=hf.jS
 have g6:Hid (∀ W,fE W p l->Calls prog 113 #[.int .i64 (k:Int),.slice p l.length b6] W fun e w'=>(∃ p' c',e=.returned (.slice p' k c')/\fE w' p' (Qg k l l.length))/\Below W.heap.size W w'):=fun W hW=>by
  have h:=LA k p l b6 W (by omega) hl hW
  rw [a1.out] at h
  exact h
 have g7:Hid (∀ W,Calls prog 116 #[.int .i64 (size:Int),.int .i64 (k:Int)] W fun e w'=>e=.returned (.int .i64 ((Jk k size:Nat):Int))/\w'=W):=fun W=>zM size k W a0 (by omega) (by omega)
 have b7:Hid (gB k size (Qg k l l.length)=Jp (Qi size fun p=>Jl (QY (Xo (Qg k l l.length))) (Z2 (Qg k l l.length)) (p / Jk k size) (p % Jk k size) k)):=by show _=_;rfl
 have g8:Hid (∀ y t W,W.cell? ⟨w.heap.size,0,none⟩=some (.int .i64 (n:Int))->W.cell? ⟨w.heap.size+1,0,none⟩=some (.int .i64 (k:Int))->W.cell? ⟨w.heap.size+1+1,0,none⟩=some (.int .i64 (size:Int))->Calls prog 112 (#[.agg #[.int .i64 y,.string t]] ++ #[.pointer (some ⟨w.heap.size,0,none⟩),.pointer (some ⟨w.heap.size+1,0,none⟩),.pointer (some ⟨w.heap.size+1+1,0,none⟩)]) W fun e Y=>e=.returned (.bool (j4 (n:Int) (Jk k size) (y,t)))/\Below W.heap.size W Y):=fun y t W h0 h1 h2=>WJ w.heap.size (w.heap.size+1) (w.heap.size+1+1) n k size y t W a0 g3 hn n6 h0 h1 h2
 clear hf
 generalize gB k size (Qg k l l.length)=dt at b7 ⊢
 generalize Jk k size=J at *
 generalize Qg k l l.length=D at *
 obtain ⟨U,b2⟩:∃ U,U=(((w.alloc (.cells #[.int .i64 (n:Int)] 3)).alloc (.cells #[.int .i64 (k:Int)] 3)).alloc (.cells #[.int .i64 (size:Int)] 3)):=⟨_,rfl⟩
 have b3:Below w.heap.size w U:=by rw [b2];exact (((Below.refl _ _).alloc (Nat.le_refl _) _).alloc (by simp) _).alloc (by simp;omega) _
 have a7:jF U w.heap.size n k size:=by rw [b2];exact UN w n k size _
 have p0:=a7.c0
 have p1:=a7.c1
 have p2:=a7.c2
 have g9:Hid (jF U w.heap.size n k size):=a7
 have d0:U.cell? ⟨11,0,none⟩=some (.iface 252 (.pointer (some z))):=(b3.cell (p:=⟨11,0,none⟩) (Qf hz)).trans hz
 have HS:=BZ n k size z U a0 g3 hn n6 d0
 have h5:Hid (U=(((w.alloc (.cells #[.int .i64 (n:Int)] 3)).alloc (.cells #[.int .i64 (k:Int)] 3)).alloc (.cells #[.int .i64 (size:Int)] 3))):=b2
 have d1:Hid (Below w.heap.size w U):=b3
 have h6:Hid (fE U p l):=hs.below b3
 have d2:Hid (U.cell? ⟨11,0,none⟩=some (.iface 252 (.pointer (some z)))):=d0
 obtain ⟨i1,h7,h8,h9,i0⟩:=info_parts PX
 have n7:∀ W:World,Sem.run prog (Instr.makeSlice 162 (.int .i64 (k:Int)) (.int .i64 (k:Int))) W=.ok (.slice (some ⟨W.heap.size,0,none⟩) k k) (W.alloc (.cells (madeCells #[.slice none 0 0] k) 138)):=fun W=>run_make_row (P:=prog) 162 138 i1 (.slice none 0 0) underlying162 h7 h8 h9 rfl .i64 .i64 k (by rw [i0];omega) (by omega) W
 clear b2 b3 hz d0 hs h7 h8 h9 i0 a7
 go_enter func82,ntmps82
 go_wp2_with (rw [<- h5.out])
 refine HS.mono ?_
 rintro e Y ⟨⟨gm,rfl,i2⟩,a5⟩
 have r0:U.heap.size<=Y.heap.size:=a5.size
 have a2:=g9.out.below a5
 have i3:Hid (jF Y w.heap.size n k size):=a2
 have q0:=a2.c0
 have q1:=a2.c1
 have q2:=a2.c2
 have i4:Hid (QJ Y (some ⟨gm,0,none⟩) (kK k n)):=i2
 have d3:Hid (Below w.heap.size w Y):=d1.out.trans (a5.mono d1.out.size)
 have d4:Hid (fE Y p l):=h6.out.below a5
 have d5:Hid (Y.cell? ⟨11,0,none⟩=some (.iface 252 (.pointer (some z)))):=(a5.cell (p:=⟨11,0,none⟩) (Qf d2.out)).trans d2.out
 have HA:tK Y 112 #[.pointer (some ⟨w.heap.size,0,none⟩),.pointer (some ⟨w.heap.size+1,0,none⟩),.pointer (some ⟨w.heap.size+1+1,0,none⟩)] l (j4 (n:Int) J):=fun i hi Z h4=>by
  have Q:=g8.out (Ji l i).1 (Ji l i).2 Z ((a2.below h4).c0) ((a2.below h4).c1) ((a2.below h4).c2)
  exact Q
 have HC:=JaP p l b6 112 #[.pointer (some ⟨w.heap.size,0,none⟩),.pointer (some ⟨w.heap.size+1,0,none⟩),.pointer (some ⟨w.heap.size+1+1,0,none⟩)] (j4 (n:Int) J) Y (by omega) d4.out (enters_of func112 (by kernel_rfl) rfl) HA
 rw [g5.out] at HC
 clear HS i2 a5 d1 h5 g9 p0 p1 p2 h6 d2 a2 HA g5 g8
 go_wp2_with fail
 refine HC.mono ?_
 rintro e Z ⟨rfl,a4⟩
 have r2:Y.heap.size<=Z.heap.size:=a4.size
 have d6:Hid (Below w.heap.size w Z):=d3.out.trans (a4.mono d3.out.size)
 have i5:Hid (QJ Z (some ⟨gm,0,none⟩) (kK k n)):=i4.out.below a4
 have d7:Hid (Z.cell? ⟨11,0,none⟩=some (.iface 252 (.pointer (some z)))):=(a4.cell (p:=⟨11,0,none⟩) (Qf d5.out)).trans d5.out
 have d8:=i3.out.below a4
 have i7:Hid (jF Z w.heap.size n k size):=d8
 have i8:=g6.out Z (d4.out.below a4)
 clear q0 q1 q2
 have q1:=d8.c1
 clear HC a4 d3 d4 i4 d5 i3 g6 d8
 go_wp2_with fail
 refine i8.mono ?_
 rintro e K ⟨⟨p5,c5,rfl,i9⟩,d9⟩
 have n8:Z.heap.size<=K.heap.size:=d9.size
 obtain ⟨G,a8⟩:∃ G,G=K.alloc (.cells #[.slice p5 k c5] 123):=⟨_,rfl⟩
 have e0:Below K.heap.size K G:=by rw [a8];exact (Below.refl _ _).alloc (Nat.le_refl _) _
 have o0:K.heap.size < G.heap.size:=by rw [a8];simp
 have a9:Below Z.heap.size Z G:=d9.trans (e0.mono n8)
 have e1:Hid (Below w.heap.size w G):=d6.out.trans (a9.mono d6.out.size)
 have e2:Hid (fE G p5 D):=i9.below e0
 have j0:G.cell? ⟨K.heap.size,0,none⟩=some (.slice p5 k c5):=by rw [a8,World.cell?_alloc_at _ _ _ _ rfl];rfl
 have e3:=i7.out.below a9
 have r1:=e3.c1
 have e4:Hid (G.cell? ⟨11,0,none⟩=some (.iface 252 (.pointer (some z)))):=(a9.cell (p:=⟨11,0,none⟩) (Qf d7.out)).trans d7.out
 obtain ⟨rb,ro,rc,o1,j1⟩:=Jmq (i5.out.below a9) (by omega) a0
 have e5:Hid (∀ i,i < n->G.cell? ⟨gm,i,none⟩=some (.slice (some ⟨rb i,ro i,none⟩) k (rc i))/\jU G (some ⟨rb i,ro i,none⟩) (Xn k i)):=j1
 have j2:Hid (G=K.alloc (.cells #[.slice p5 k c5] 123)):=a8
 have j3:Hid (jF G w.heap.size n k size):=e3
 have j5:Hid (G.cell? ⟨K.heap.size,0,none⟩=some (.slice p5 k c5)):=j0
 clear i8 d9 e0 a9 i9 a8 j1 i5 d7 d6 i7 e3 q1
 rcases e2.out with h0 | ⟨b5,o5,o2,j6,j8⟩
 ·exact absurd a1.out (by rw [h0];simp;omega)
 subst o2
 have e6:(G.alloc (.cells (madeCells #[.slice none 0 0] k) 138)).rowIs G.heap.size 138 k (fun _=>.slice none 0 0):=World.rowIs_made G _ k _
 have e7:Below G.heap.size G (G.alloc (.cells (madeCells #[.slice none 0 0] k) 138)):=(Below.refl _ _).alloc (Nat.le_refl _) _
 have e8:Hid (∀ i,i < D.length->G.cell? ⟨b5,o5+i*2,none⟩=some (.int .i64 (Ji D i).1)/\G.cell? ⟨b5,o5+i*2+1,none⟩=some (.string (Ji D i).2)):=j8
 clear j8
 go_wp2_with (rw [<- j2.out])
 generalize G.alloc (.cells (madeCells #[.slice none 0 0] k) 138)=w7 at e6 e7 ⊢
 have k0:Hid (w7.rowIs (G.heap.size) 138 k (fun _=>.slice none 0 0)):=e6
 have k1:Hid (Below G.heap.size G w7):=e7
 clear e6 e7 n7 r1 j0
 go_loopw [44] (fun x wr=>∃ i:Nat,i<=k/\x=.int .i64 i/\wr.rowIs (G.heap.size) 138 k (fun q=>if q < i then .slice (some ⟨rb (Gf.nth (Xo D) q),ro (Gf.nth (Xo D) q),none⟩) k (rc (Gf.nth (Xo D) q)) else .slice none 0 0)/\Below G.heap.size G wr) (fun x _=>k - (intOf x).toNat)
 case atStart=>exact ⟨0,by omega,rfl,k0.out.congr (fun q _=>by simp),k1.out⟩
 case round =>
  obtain ⟨i,hi,rfl,hR,hB⟩:=hrel
  obtain ⟨I,rfl⟩:∃ I,I=wr:=⟨_,rfl⟩
  have HR:Hid (I.rowIs (G.heap.size) 138 k (fun q=>if q < i then .slice (some ⟨rb (Gf.nth (Xo D) q),ro (Gf.nth (Xo D) q),none⟩) k (rc (Gf.nth (Xo D) q)) else .slice none 0 0)):=hR
  have N:Hid (Below G.heap.size G I):=hB
  have r3:G.heap.size < I.heap.size:=hR.lt
  clear hR hB k0 k1
  by_cases b0:i < k
  ·have hm:Ji D i ∈ D:=sE (by rw [a1.out];exact b0)
   have Q:=g4.out _ hm
   have e9:Gf.nth (Xo D) i=(Ji D i).1.toNat:=xP (by rw [a1.out];exact b0)
   have k2:(Ji D i).1=((Gf.nth (Xo D) i:Nat):Int):=by rw [e9];omega
   have k3:Gf.nth (Xo D) i < n:=by rw [e9];omega
   have q1:I.cell? ⟨b5,o5+i*2,none⟩=some (.int .i64 ((Gf.nth (Xo D) i:Nat):Int)):=by
    rw [N.out.cell (p:=⟨b5,o5+i*2,none⟩) j6,(e8.out i (by rw [a1.out];exact b0)).1,k2]
   have q2:I.cell? ⟨b5,o5+i*2+1,none⟩=some (.string (Ji D i).2):=by
    rw [N.out.cell (p:=⟨b5,o5+i*2+1,none⟩) j6,(e8.out i (by rw [a1.out];exact b0)).2]
   have q3:I.cell? ⟨gm,Gf.nth (Xo D) i,none⟩=some (.slice (some ⟨rb (Gf.nth (Xo D) i),ro (Gf.nth (Xo D) i),none⟩) k (rc (Gf.nth (Xo D) i))):=by
    rw [N.out.cell (p:=⟨gm,Gf.nth (Xo D) i,none⟩) o1,(e5.out _ k3).1]
   have q4:I.cell? ⟨G.heap.size,i,none⟩=some (.slice none 0 0):=by rw [HR.out.cell b0,if_neg (Nat.lt_irrefl _)]
   have q5:I.frozen? ⟨G.heap.size,i,none⟩=false:=HR.out.frozen i
   have o3:Hid (Gf.nth (Xo D) i=Gf.nth (Xo D) i):=by show _=_;rfl
   have r4:gm < I.heap.size:=by have:=N.out.size;omega
   clear e9 k2 Q hm
   generalize k4:Gf.nth (Xo D) i=x at q1 q3 k3
   have o4:Hid (Gf.nth (Xo D) i=x):=k4
   clear k4 o3
   go_wp2
   go_roundw
   case rel =>
    refine ⟨i+1,by omega,by go_num,?_,?_⟩
    ·refine ((HR.out.set i _).alloc _).congr (fun q _=>?_)
     by_cases e:q=i
     ·rw [if_pos e,if_pos (by omega),e,o4.out]
     ·rw [if_neg e]
      by_cases e':q < i
      ·rw [if_pos e',if_pos (by omega)]
      ·rw [if_neg e',if_neg (by omega)]
    ·exact (N.out.setCell (Nat.le_refl _) _).alloc (by simp [World.setCell];exact N.out.size) _
   case measure=>simp [intOf];omega
  ·have o6:i=k:=by omega
   subst o6
   have k6:I.rowIs (G.heap.size) 138 i (fun q=>.slice (some ⟨rb (Gf.nth (Xo D) q),ro (Gf.nth (Xo D) q),none⟩) i (rc (Gf.nth (Xo D) q))):=HR.out.congr (fun q hq=>by rw [if_pos hq])
   have k7:QJ I (some ⟨G.heap.size,0,none⟩) ((Xo D).map (Xn i)):=RN M.out.2.2 M.out.1 k6 (fun x Q=>(e5.out x Q).2.below N.out)
   have l0:I.cell? ⟨11,0,none⟩=some (.iface 252 (.pointer (some z))):=(N.out.cell (p:=⟨11,0,none⟩) (Qf e4.out)).trans e4.out
   have f3:((Xo D).map (Xn i)).length=i:=by rw [List.length_map];exact M.out.2.2
   have hM:jQ ((Xo D).map (Xn i)):=NN a0 (by omega) M.out.2.2
   have l1:(Qh ((Xo D).map (Xn i)) 0).length=i:=by
    have h0:Qh ((Xo D).map (Xn i)) 0=Xn i (Gf.nth (Xo D) 0):=by
     show ((Xo D).map _).getD 0 []=_
     rw [List.getD_eq_getElem?_getD,List.getElem?_map,List.getElem?_eq_getElem (by rw [M.out.2.2];omega),Gf.aK _ 0 (by rw [M.out.2.2];omega)]
     rfl
    rw [h0]
    exact Jf _ _
   have HI:=FJ (some ⟨G.heap.size,0,none⟩) ((Xo D).map (Xn i)) i z I hM (by rw [l1,f3]) (LB i (Xo D)) k7 l0
   have l2:=OX hn M.out.2.2 M.out.2.1 M.out.1 g3
   unfold xQ at HI
   rw [f3] at HI
   have l3:Hid (Lin.eS i i (vec ((Xo D).map (Xn i))) i):=l2
   have f4:Hid (Below w.heap.size w I):=e1.out.trans (N.out.mono e1.out.size)
   have l7:Hid (jF I w.heap.size n i size):=j3.out.below N.out
   have f5:Hid (I.cell? ⟨K.heap.size,0,none⟩=some (.slice (some ⟨b5,o5,none⟩) i c5)):=(N.out.cell (p:=⟨K.heap.size,0,none⟩) o0).trans j5.out
   have l8:Hid (fE I (some ⟨b5,o5,none⟩) D):=e2.out.below N.out
   clear k6 k7 l0 f3 hM l1 l2 HR N e8 e5 e1 e2 e4 j3 j5 j2
   go_wp2_with fail
   refine HI.mono ?_
   rintro e X ⟨⟨d,hd,o7⟩,a6⟩
   have o9:d=i:=Lin.dY hd l3.out
   rcases o7 with ⟨r5,_⟩ | ⟨_,g2,x,rfl,l9,Q,m0⟩
   ·omega
   have m4:Hid (∀ a b,a < i->b < i->x a b=QY (Xo D) a b):=eN (fun j=>by
    by_cases hj:j < (Xo D).length
    ·have:=M.out.1 (Gf.nth (Xo D) j) (by rw [Gf.aK _ j hj];exact List.getElem_mem _)
     omega
    ·rw [F0 (by omega)];decide) M.out.2.1 M.out.2.2 (by omega) Q (fun a b ha hb=>by
     rw [<- m0 a b ha hb]
     exact Lin.bQ i (fun _ _=>rfl) (fun t ht=>(RM M.out.2.2 ht hb).symm))
   have r6:I.heap.size<=X.heap.size:=a6.size
   have b4:=l7.out.below a6
   have m5:Hid (jF X w.heap.size n i size):=b4
   have s1:=b4.c1
   have s2:=b4.c2
   have f6:X.cell? ⟨K.heap.size,0,none⟩=some (.slice (some ⟨b5,o5,none⟩) D.length c5):=by rw [a1.out];exact (a6.cell (p:=⟨K.heap.size,0,none⟩) (Qf f5.out)).trans f5.out
   have m6:fE X (some ⟨b5,o5,none⟩) D:=l8.out.below a6
   have m7:uI X 117 #[.pointer (some ⟨K.heap.size,0,none⟩)] (Z2 D) i J:=fun j c hj hc O m8=>by
    have a3:j < D.length:=by rw [a1.out];exact hj
    exact Jlu K.heap.size j c _ c5 D O a3 (by rw [(g4.out _ (sE a3)).2.2];exact hc) ((m8.cell (p:=⟨K.heap.size,0,none⟩) (Qf f6)).trans f6) (m6.below m8)
   have m9:=F3 (some ⟨g2,0,none⟩) i i J i x (Z2 D) 117 #[.pointer (some ⟨K.heap.size,0,none⟩)] X a0 (by omega) a0 (by omega) (by omega) Q (fun j c=>EN D j c) l9 (enters_of func117 (by kernel_rfl) rfl) m7
   have f7:Hid (Below w.heap.size w X):=f4.out.trans (a6.mono f4.out.size)
   have p3:Hid (∀ a b,x a b < 256):=Q
   clear HI hd o9 a6 l9 Q m0 f6 m6 m7 f4 l7 f5 l8 l3 b4
   go_wp2_with fail
   refine (g7.out _).mono ?_
   rintro e p4 ⟨rfl,n0⟩
   rw [n0]
   clear n0 p4 g7
   go_wp2_with fail
   refine m9.mono ?_
   rintro e O ⟨rfl,f8,f9⟩
   have a3:(((List.range i).map fun q=>Jp (Qi J fun c=>Jl x (Z2 D) q c i))).length=i:=by simp
   have g0:Lib.join (((List.range i).map fun q=>Jp (Qi J fun c=>Jl x (Z2 D) q c i)).map (·.data.toList)) []=Y2 (gF (fun q c=>Jl x (Z2 D) q c i) J i):=NV (fun q c=>Jl x (Z2 D) q c i) J i
   have r7:i*J<=12*1000:=Nat.mul_le_mul (by omega) (by omega)
   have n1:X.heap.size < O.heap.size:=f8.lt
   have n2:=fun (W:World) (hW:Below O.heap.size O W)=>strings_Join X.heap.size 0 i ((List.range i).map fun q=>Jp (Qi J fun c=>Jl x (Z2 D) q c i)) ⟨#[]⟩ W (fun j y hy=>by
    have n3:j < i:=by
     have:=(List.getElem?_eq_some_iff.1 hy).1
     rw [a3] at this
     exact this
    rw [List.getElem?_map,List.getElem?_range n3] at hy
    have p6:Jp (Qi J fun c=>Jl x (Z2 D) j c i)=y:=Option.some.inj hy
    rw [Nat.zero_add,hW.cell (p:=⟨X.heap.size,j,none⟩) n1,f8.cell n3,<- p6]
    rfl) (Nat.lt_of_lt_of_le n1 hW.size) (by rw [a3];omega) (by rw [a3];exact Nat.le_refl _) (by
    show (Lib.join _ []).length<=_
    rw [g0]
    unfold Y2
    rw [List.length_map,YV]
    omega)
   have HJ:∀ W,Below O.heap.size O W->Calls prog 118 #[.slice (some ⟨X.heap.size,0,none⟩) i i,.string ⟨#[]⟩] W fun e w'=>e=.returned (.string ⟨(Y2 (gF (fun q c=>Jl x (Z2 D) q c i) J i)).toArray⟩)/\Below W.heap.size W w':=fun W hW=>by
    have h:=n2 W hW
    rw [a3,show (⟨#[]⟩:ByteArray).data.toList=[] from rfl,g0] at h
    exact h
   clear n2
   have p7:∀ W,Sem.run prog (Instr.slice 9 (.string ⟨(Y2 (gF (fun q c=>Jl x (Z2 D) q c i) J i)).toArray⟩) none (some (.int .i64 (size:Int))) none) W=.ok (.string dt) W:=fun W=>by
    rw [run_slice_string_h W 9 _ underlying9 .i64 (size:Int) (by omega) (by
     show (size:Int)<=(((Y2 (gF (fun q c=>Jl x (Z2 D) q c i) J i)).toArray.size:Nat):Int)
     unfold Y2
     rw [List.size_toArray,List.length_map,YV]
     have:=b1.out
     omega),Int.toNat_natCast,SZ,OE _ _ _ _ b1.out,b7.out]
    congr 3
    refine YL size _ _ (fun q hq=>?_)
    refine A0 i (fun j hj=>m4.out _ j ?_ hj)
    have hm:=b1.out
    have p8:0 < J:=by
     rcases Nat.eq_zero_or_pos J with e | e
     ·rw [e,Nat.mul_zero] at hm;omega
     ·exact e
    rw [Nat.div_lt_iff_lt_mul p8]
    omega
   have n4:Hid (Below w.heap.size w O):=f7.out.trans (f9.mono f7.out.size)
   have g1:=m5.out.below f9
   have n5:Hid (jF O w.heap.size n i size):=g1
   clear s1 s2
   have s2:=g1.c2
   clear g1 m5
   clear m9 f8 f9 f7 a3 g0 m4 p3 b7 b1
   generalize (⟨(Y2 (gF (fun q c=>Jl x (Z2 D) q c i) J i)).toArray⟩:ByteArray)=st at HJ p7
   have p9:Hid (∀ W,Below O.heap.size O W->Calls prog 118 #[.slice (some ⟨X.heap.size,0,none⟩) i i,.string ⟨#[]⟩] W fun e w'=>e=.returned (.string st)/\w'.cell? ⟨w.heap.size+1+1,0,none⟩=some (.int .i64 (size:Int))/\Below w.heap.size w w'):=fun W hW=>(HJ W hW).mono fun e w' ⟨he,hb⟩=>by
    have h3:Below O.heap.size O w':=hW.trans (hb.mono hW.size)
    exact ⟨he,(n5.out.below h3).c2,n4.out.trans (h3.mono n4.out.size)⟩
   clear HJ n5
   go_wp2
   go_region_with (go_at_call 118;refine (p9.out _ (by first | exact (Below.refl _ _).drew | exact Below.refl _ _)).mono ?_;rintro e s4 ⟨rfl,s3,q6⟩)
   all_goals (go_wp2;go_ret2;exact ⟨rfl,q6⟩)
theorem Jcy (l m:List Nat):Jp l ++ Jp m=Jp (l ++ m):=by
 rw [RL,RL,RL]
 apply ByteArray.ext
 simp [Y2]
def r9 (X:List Nat) (j m:Nat):List Nat:=Qi m fun i=>Gf.aQ X i j
theorem Jdz (X:List Nat) (j m:Nat):r9 X j (m+1)=r9 X j m ++ [Gf.aQ X m j]:=by simp [r9,Qi,List.range_succ]
theorem JaG (X:List Nat) (j m:Nat):(r9 X j m).length=m:=Jf _ _
theorem Jc7 (X:List Nat) (j m:Nat):Gf.Bytes (r9 X j m):=XL _ _ fun _=>Gf.bL _ _ _
theorem JbN (n k size:Nat) (p:Option Addr) (l:List (Int×ByteArray)) (i8:Nat) (w:World) (b0:1<=k) (n5:k<=n) (hn:n<=12) (n6:size<=1000) (hl:l.length<=1000) (ht:∀ i,(Ji l i).2.size<=100000) (hf:l5 n k size l) (hs:fE w p l) :
 Calls prog 72 #[.int .i64 (n:Int),.int .i64 (k:Int),.int .i64 (size:Int),.slice p l.length i8] w fun e w'=>e=.returned (.tuple #[.string (gB k size (Qg k l l.length)),.int .i64 0])/\Below w.heap.size w w':=by
 have n7:=xR (size:=size) b0
 obtain ⟨i0,b2,b3,b4,b5⟩:=info_parts KF
 have b6:=JdC n k size p l i8 w b0 n5 hn n6 hl ht hs
 have i9:Hid (∀ W,Calls prog 89 #[.int .i64 (k:Int),.int .i64 (size:Int)] W fun e w'=>e=.returned (.int .i64 ((Jk k size:Nat):Int))/\w'=W):=fun W=>JaY k size W b0 (by omega) (by omega)
 have e7:Hid (∀ x ∈ Qg k l l.length,0<=x.1/\x.1 < n/\x.2.size=Jk k size):=fun x hx=>hf.at_ (X9 k l l.length (Nat.le_refl _) x hx)
 have b7:Hid (size<=k*Jk k size):=FX b0
 have U:Hid ((∀ x ∈ Xo (Qg k l l.length),x < n)/\(Xo (Qg k l l.length)).Nodup/\(Xo (Qg k l l.length)).length=k):=hf.WE
 have a0:Hid ((Qg k l l.length).length=k):=hf.jS
 have e8:Hid (l.any (j4 (n:Int) (Jk k size))=false):=hf.pK
 have d0:Hid (gB k size (Qg k l l.length)=Jp (Qi size fun p=>Jl (QY (Xo (Qg k l l.length))) (Z2 (Qg k l l.length)) (p / Jk k size) (p % Jk k size) k)):=by show _=_;rfl
 unfold Jeo at b6
 clear hf hs ht
 generalize gB k size (Qg k l l.length)=dt at d0 ⊢
 generalize Jk k size=G at *
 generalize Qg k l l.length=D at *
 have n8:∀ W:World,Sem.run prog (Instr.makeSlice 138 (.int .i64 (G:Int)) (.int .i64 (G:Int))) W=.ok (.slice (some ⟨W.heap.size,0,none⟩) G G) (W.alloc (.cells (madeCells #[ZM 0] G) 5)):=fun W=>run_make_row (P:=prog) 138 5 i0 (ZM 0) underlying138 b2 b3 b4 rfl .i64 .i64 G (by rw [b5];omega) (by omega) W
 go_enter func72,ntmps72
 go_wp2_with fail
 refine b6.mono ?_
 rintro e N ⟨⟨v,c,rfl,j0⟩,e9⟩
 rcases j0 with ⟨_,_,j1⟩ | ⟨_,_,_,j2⟩ | ⟨j3,_,_,p1,c1,hv,f3⟩
 ·exact absurd j1 (by rw [e8.out];decide)
 ·exact absurd j2 (by rw [a0.out];exact Nat.lt_irrefl _)
 subst j3 hv
 rcases f3 with h0 | ⟨O,X,j5,f4,f5⟩
 ·exact absurd a0.out (by rw [h0];simp;omega)
 subst j5
 have f6:Hid (∀ i,i < D.length->N.cell? ⟨O,X+i*2,none⟩=some (.int .i64 (Ji D i).1)/\N.cell? ⟨O,X+i*2+1,none⟩=some (.string (Ji D i).2)):=f5
 have f7:Hid (Below w.heap.size w N):=e9
 clear b6 e9 f5 e8
 have j6:Hid (Gf.Bytes (Xo D)):=fun j=>by
  by_cases hj:j < (Xo D).length
  ·have:=U.out.1 (Gf.nth (Xo D) j) (by rw [Gf.aK _ j hj];exact List.getElem_mem _)
   omega
  ·rw [F0 (by omega)];decide
 go_wp2
 go_loopw [12,13] (fun v x wr=>∃ i:Nat,i<=k/\x=.int .i64 i/\hY wr N.heap.size 5 v ((Xo D).take i)/\Below N.heap.size N wr) (fun _ x _=>k - (intOf x).toNat)
 case atStart=>exact ⟨0,by omega,rfl,by rw [List.take_zero];exact hY.nil _ _ _,Below.refl _ _⟩
 case round =>
  obtain ⟨i,hi,rfl,hO,hB⟩:=hrel
  obtain ⟨K,rfl⟩:∃ K,K=wr:=⟨_,rfl⟩
  have HO:Hid (hY K N.heap.size 5 u12 ((Xo D).take i)):=hO
  have HB:Hid (Below N.heap.size N K):=hB
  have f8:N.heap.size<=K.heap.size:=hB.size
  have f9:((Xo D).take i).length=i:=by rw [List.length_take,U.out.2.2];omega
  have g0:Hid (((Xo D).take i).length=i):=f9
  clear hO hB f9
  by_cases a5:i < k
  ·have hm:Ji D i ∈ D:=sE (by rw [a0.out];exact a5)
   have hx:=e7.out _ hm
   have d1:Gf.nth (Xo D) i=(Ji D i).1.toNat:=xP (by rw [a0.out];exact a5)
   have g1:(Ji D i).1=((Gf.nth (Xo D) i:Nat):Int):=by rw [d1];omega
   have j8:Gf.nth (Xo D) i < n:=by rw [d1];omega
   have q1:K.cell? ⟨O,X+i*2,none⟩=some (.int .i64 ((Gf.nth (Xo D) i:Nat):Int)):=by
    rw [HB.out.cell (p:=⟨O,X+i*2,none⟩) f4,(f6.out i (by rw [a0.out];exact a5)).1,g1]
   have g2:Hid ((Xo D).take (i+1)=(Xo D).take i ++ [Gf.nth (Xo D) i]):=Gf.PU _ i (by rw [U.out.2.2];exact a5)
   clear d1 g1 hx hm
   generalize Gf.nth (Xo D) i=x at q1 j8 g2
   generalize (Xo D).take i=xs at *
   have o0:xs.length<=12:=by rw [g0.out];omega
   go_wp2_with (first | (at_builtin;refine Jak rfl (.tmp 38) (.tmp 45) 138 rfl N.heap.size 5 i0 underlying138 b2 b3 b4 b5 u12 xs rfl (HO.out.kept (World.grownBy_alloc K _ none) (by cases hv:u12.ownBlock <;> simp)) ⟨K.heap.size,0,none⟩ 1 x rfl (by simp [ZM]) (by omega) (by simp;omega) ?_;intro v1 J hX d2 _))
   have k0:Below N.heap.size N J:=(HB.out.alloc f8 _).grown d2 (by simp;omega) (fun k' d3=>(HO.out.block d3).1)
   go_roundw
   case rel=>exact ⟨i+1,by omega,by go_num,by rw [g2.out];exact hX,k0⟩
   case measure=>simp [intOf];omega
  ·have d4:k=i:=by omega
   subst d4
   have g3:(Xo D).take k=Xo D:=List.take_of_length_le (by rw [U.out.2.2];exact Nat.le_refl _)
   obtain ⟨pX,cX,g4,g5⟩:=(show hY K N.heap.size 5 u12 (Xo D) by rw [<- g3];exact HO.out).seg j6.out
   rw [U.out.2.2] at g4
   subst g4
   have k1:Hid (jU K pX (Xo D)):=g5
   clear g3 g5 HO g0
   go_wp2
   go_loopw [14,15] (fun v x wr=>∃ j:Nat,j<=k/\x=.int .i64 j/\v=.string (Jp (gF (fun q c=>Jl (QY (Xo D)) (Z2 D) q c k) G j))/\Below K.heap.size K wr) (fun _ x _=>k - (intOf x).toNat)
   case atStart=>exact ⟨0,by omega,rfl,rfl,Below.refl _ _⟩
   case round =>
    obtain ⟨j,hj,rfl,rfl,d5⟩:=hrel
    obtain ⟨J,rfl⟩:∃ J,J=wr:=⟨_,rfl⟩
    have a6:Hid (Below K.heap.size K J):=d5
    have k2:K.heap.size<=J.heap.size:=d5.size
    clear d5
    by_cases o2:j < k
    ·go_wp2
     go_loopw [16,17] (fun v x Y=>∃ m:Nat,m<=k/\x=.int .i64 m/\hY Y J.heap.size 5 v (r9 (Xo D) j m)/\Below J.heap.size J Y) (fun _ x _=>k - (intOf x).toNat)
     case atStart=>exact ⟨0,by omega,rfl,hY.nil _ _ _,Below.refl _ _⟩
     case round =>
      obtain ⟨m,hm,rfl,g6,d6⟩:=hrel
      obtain ⟨I,rfl⟩:∃ I,I=wr:=⟨_,rfl⟩
      have a7:Hid (hY I J.heap.size 5 u16 (r9 (Xo D) j m)):=g6
      have a1:Hid (Below J.heap.size J I):=d6
      have k3:J.heap.size<=I.heap.size:=d6.size
      clear g6 d6
      by_cases k4:m < k
      ·have d7:=Jca pX (Xo D) cX m j I (by omega) (by rw [U.out.2.2];omega) (by rw [U.out.2.2];exact k4) U.out.2.1 ((k1.out.below a6.out).below a1.out)
       rw [U.out.2.2] at d7
       have g7:Hid (r9 (Xo D) j (m+1)=r9 (Xo D) j m ++ [Gf.aQ (Xo D) m j]):=Jdz _ _ _
       have o3:(r9 (Xo D) j m).length<=12:=by rw [JaG];omega
       go_wp2_with fail
       refine d7.mono ?_
       rintro e Z ⟨rfl,q,d8⟩
       have g8:Hid (hY Z J.heap.size 5 u16 (r9 (Xo D) j m)):=by rw [d8];exact a7.out.kept (JO I q none) (by cases hv:u16.ownBlock <;> simp)
       have g9:Hid (Below J.heap.size J Z):=by rw [d8];exact below_drewN a1.out q
       have k6:J.heap.size<=Z.heap.size:=g9.out.size
       clear d8 d7 a7 a1
       generalize Gf.aQ (Xo D) m j=y at g7 ⊢
       generalize r9 (Xo D) j m=bl at *
       go_wp2_with (first | (at_builtin;refine Jak rfl (.tmp 62) (.tmp 64) 138 rfl J.heap.size 5 i0 underlying138 b2 b3 b4 b5 u16 bl rfl (g8.out.kept (World.grownBy_alloc Z _ none) (by cases hv:u16.ownBlock <;> simp)) ⟨Z.heap.size,0,none⟩ 1 y rfl (by simp [ZM]) (by omega) (by simp;omega) ?_;intro v1 Q k7 d2 _))
       have l0:Below J.heap.size J Q:=(g9.out.alloc k6 _).grown d2 (by simp;omega) (fun k' d3=>(g8.out.block d3).1)
       go_roundw
       case rel=>exact ⟨m+1,by omega,by go_num,by rw [g7.out];exact k7,l0⟩
       case measure=>simp [intOf];omega
      ·have l1:k=m:=by omega
       subst l1
       obtain ⟨pB,cB,h1,h2⟩:=a7.out.seg (Jc7 (Xo D) j k)
       rw [JaG] at h1
       subst h1
       rcases h2.cells with h0 | ⟨bb,ob,l2,l3,h3⟩
       ·exact absurd (congrArg List.length h0) (by rw [JaG];simp;omega)
       subst l2
       have l7:Hid (∀ i,i < k->I.cell? ⟨bb,ob+i,none⟩=some (.int .u8 ((Gf.aQ (Xo D) i j:Nat):Int))):=fun i hi=>by
        rw [h3 i (by rw [JaG];exact hi)]
        unfold r9
        rw [Yq _ _ i hi]
       clear h2 h3 a7
       go_wp2_with fail
       refine (i9.out _).mono ?_
       rintro e l8 ⟨rfl,h4⟩
       rw [h4]
       clear h4 l8
       go_wp2
       have d9:Zo (I.alloc (.cells (madeCells #[ZM 0] G) 5)) I.heap.size 5 I.heap.size G (Qi G (fun c=>if c < 0 then Jl (QY (Xo D)) (Z2 D) j c k else 0)):=by
        have:=Zo.made I I.heap.size 5 G (Nat.le_refl _) (by omega)
        rw [YL G _ (fun c=>if c < 0 then Jl (QY (Xo D)) (Z2 D) j c k else 0) (fun c _=>by rw [if_neg (Nat.not_lt_zero _)])] at this
        exact this
       have e0:Below I.heap.size I (I.alloc (.cells (madeCells #[ZM 0] G) 5)):=(Below.refl _ _).alloc (Nat.le_refl _) _
       generalize I.alloc (.cells (madeCells #[ZM 0] G) 5)=Z at d9 e0 ⊢
       have h5:Hid (Zo Z I.heap.size 5 I.heap.size G (Qi G (fun c=>if c < 0 then Jl (QY (Xo D)) (Z2 D) j c k else 0))):=d9
       have h6:Hid (Below I.heap.size I Z):=e0
       clear d9 e0
       go_loopw [20] (fun x Y=>∃ c:Nat,c<=G/\x=.int .i64 c/\Zo Y I.heap.size 5 I.heap.size G (Qi G (fun d=>if d < c then Jl (QY (Xo D)) (Z2 D) j d k else 0))/\Below I.heap.size I Y) (fun x _=>G - (intOf x).toNat)
       case atStart=>exact ⟨0,by omega,rfl,h5.out,h6.out⟩
       case round =>
        obtain ⟨c,hc,rfl,h7,h8⟩:=hrel
        obtain ⟨Q,rfl⟩:∃ Q,Q=wr:=⟨_,rfl⟩
        have a8:Hid (Zo Q I.heap.size 5 I.heap.size G (Qi G (fun d=>if d < c then Jl (QY (Xo D)) (Z2 D) j d k else 0))):=h7
        have a9:Hid (Below I.heap.size I Q):=h8
        clear h7 h8 h5 h6
        by_cases e1:c < G
        ·go_wp2
         go_loopw [21] (fun x Y=>∃ i:Nat,i<=k/\x=.int .i64 i/\Zo Y I.heap.size 5 I.heap.size G (Qi G (fun d=>if d < c then Jl (QY (Xo D)) (Z2 D) j d k else if d=c then Jl (QY (Xo D)) (Z2 D) j c i else 0))/\Below I.heap.size I Y) (fun x _=>k - (intOf x).toNat)
         case atStart =>
          refine ⟨0,by omega,rfl,?_,a9.out⟩
          rw [YL G _ (fun d=>if d < c then Jl (QY (Xo D)) (Z2 D) j d k else 0) (fun d _=>by by_cases e:d=c <;> simp [e,Jl])]
          exact a8.out
         case round =>
          obtain ⟨i,hi,rfl,h9,i1⟩:=hrel
          obtain ⟨M,rfl⟩:∃ M,M=wr:=⟨_,rfl⟩
          have a2:Hid (Zo M I.heap.size 5 I.heap.size G (Qi G (fun d=>if d < c then Jl (QY (Xo D)) (Z2 D) j d k else if d=c then Jl (QY (Xo D)) (Z2 D) j c i else 0))):=h9
          have a3:Hid (Below I.heap.size I M):=i1
          clear h9 i1 a8 a9
          by_cases i2:i < k
          ·have e2:i < D.length:=by rw [a0.out];exact i2
           have q2:M.cell? ⟨bb,ob+i,none⟩=some (.int .u8 ((Gf.aQ (Xo D) i j:Nat):Int)):=(a3.out.cell (p:=⟨bb,ob+i,none⟩) l3).trans (l7.out i i2)
           have q3:M.cell? ⟨O,X+i*2+1,none⟩=some (.string (Ji D i).2):=by
            rw [a3.out.cell (p:=⟨O,X+i*2+1,none⟩) (by show O < _;omega),a1.out.cell (p:=⟨O,X+i*2+1,none⟩) (by show O < _;omega),a6.out.cell (p:=⟨O,X+i*2+1,none⟩) (by show O < _;omega),HB.out.cell (p:=⟨O,X+i*2+1,none⟩) f4]
            exact (f6.out i e2).2
           have q5:M.cell? ⟨I.heap.size,c,none⟩=some (.int .u8 ((Jl (QY (Xo D)) (Z2 D) j c i:Nat):Int)):=by rw [a2.out.cell c e1 (Jf _ _),Yq _ _ c e1,if_neg (Nat.lt_irrefl _),if_pos rfl]
           have q6:M.frozen? ⟨I.heap.size,c,none⟩=false:=a2.out.free c
           have i3:(Ji D i).2.size=G:=(e7.out _ (sE e2)).2.2
           have e3:=EP (Ji D i).2 c (by rw [i3];exact e1)
           have lx:=Gf.bL (Xo D) i j
           have ly:=xK (Ji D i).2 c
           have ls:Jl (QY (Xo D)) (Z2 D) j c i < 256:=nD (tW _) j c i
           have lm:=Gf.aV lx (Gf.nth (Zj (Ji D i).2) c)
           have a4:Hid (bits .xor .u8 ((Jl (QY (Xo D)) (Z2 D) j c i:Nat):Int) ((Gf.mul (Gf.aQ (Xo D) i j) (Gf.nth (Zj (Ji D i).2) c):Nat):Int)=((Jl (QY (Xo D)) (Z2 D) j c (i+1):Nat):Int)):=by
            show _=_
            rw [u8_xor_nat _ _ ls lm]
            rfl
           have n1:I.heap.size≠bb:=by omega
           have n2:I.heap.size≠O:=by omega
           have e4:Hid (Zo M I.heap.size 5 I.heap.size G (Qi G (fun d=>if d < c then Jl (QY (Xo D)) (Z2 D) j d k else if d=c then Jl (QY (Xo D)) (Z2 D) j c i else 0))):=a2.out
           clear i3 e2
           generalize Jl (QY (Xo D)) (Z2 D) j c i=e5 at q5 ls a4 e4
           generalize Gf.aQ (Xo D) i j=x at q2 lx lm a4
           generalize (Ji D i).2=tt at q3 e3 ly lm a4
           generalize Gf.nth (Zj tt) c=y at e3 ly lm a4
           go_wp2
           refine wp_region_still_tail 20 (by kernel_rfl) (by kernel_rfl) ?_
           simp only [List.take_succ_cons,List.take_zero,List.drop_succ_cons,List.drop_zero]
           repeat still_step
           still_call (O0 x y _ lx ly)
           repeat still_step
           refine wpStill_nil ?_
           rw [a4.out]
           have i4:Hid (Zo (M.drewN 1) I.heap.size 5 I.heap.size G (Qi G (fun d=>if d < c then Jl (QY (Xo D)) (Z2 D) j d k else if d=c then e5 else 0))):=e4.out.drewN 1
           have i5:Hid (Below I.heap.size I (M.drewN 1)):=below_drewN a3.out 1
           have l9:(M.drewN 1).cell? ⟨I.heap.size,c,none⟩=some (.int .u8 (e5:Int)):=q5
           have m0:(M.drewN 1).frozen? ⟨I.heap.size,c,none⟩=false:=q6
           change wpList _ _ _ _ _ (M.drewN 1)
           generalize M.drewN 1=w8 at i4 i5 l9 m0 ⊢
           clear q2 q3 q5 q6 a2 e4 a3 e3
           go_wp2
           go_roundw
           case rel =>
            refine ⟨i+1,by omega,by go_num,?_,i5.out.setCell (Nat.le_refl _) _⟩
            have:=i4.out.set c (Jl (QY (Xo D)) (Z2 D) j c (i+1))
            rw [YL G (fun d=>if d < c then Jl (QY (Xo D)) (Z2 D) j d k else if d=c then Jl (QY (Xo D)) (Z2 D) j c (i+1) else 0) (fun d=>if d=c then Jl (QY (Xo D)) (Z2 D) j c (i+1) else if d < c then Jl (QY (Xo D)) (Z2 D) j d k else if d=c then e5 else 0) (fun d _=>by
             by_cases e:d=c
             ·subst e;rw [if_neg (Nat.lt_irrefl _),if_pos rfl,if_pos rfl]
             ·rw [if_neg e,if_neg e,if_neg e])]
            exact this
           case measure=>simp [intOf];omega
          ·have d4:k=i:=by omega
           subst d4
           go_wp2
           go_roundw
           case rel =>
            refine ⟨c+1,by omega,by go_num,?_,a3.out⟩
            rw [YL G _ (fun d=>if d < c then Jl (QY (Xo D)) (Z2 D) j d k else if d=c then Jl (QY (Xo D)) (Z2 D) j c k else 0) (fun d _=>by
             by_cases e:d < c
             ·rw [if_pos (by omega),if_pos e]
             ·by_cases e':d=c
              ·subst e';rw [if_pos (by omega),if_neg e,if_pos rfl]
              ·rw [if_neg (by omega),if_neg e,if_neg e'])]
            exact a2.out
           case measure=>simp [intOf];omega
        ·have m4:G=c:=by omega
         subst m4
         have e6:Zo Q I.heap.size 5 I.heap.size G (Qi G fun c=>Jl (QY (Xo D)) (Z2 D) j c k):=by
          rw [YL G _ (fun d=>if d < G then Jl (QY (Xo D)) (Z2 D) j d k else 0) (fun d hd=>by rw [if_pos hd])]
          exact a8.out
         have m5:Sem.run prog (convert 138 9 (.slice (some ⟨I.heap.size,0,none⟩) G G)) Q=.ok (.string (Jp (Qi G fun c=>Jl (QY (Xo D)) (Z2 D) j c k))) Q:=by
          have m6:jU Q (some ⟨I.heap.size,0,none⟩) (Qi G fun c=>Jl (QY (Xo D)) (Z2 D) j c k):=⟨XL _ _ (fun d=>nD (tW _) _ _ _),Or.inr ⟨I.heap.size,0,rfl,e6.lt.2,fun d hd=>by
           rw [Jf] at hd
           rw [Nat.zero_add]
           exact e6.cell d hd (Jf _ _)⟩⟩
          have:=WU m6 G
          rw [Jf] at this
          exact this
         have i7:Hid (Jp (gF (fun q c=>Jl (QY (Xo D)) (Z2 D) q c k) G j) ++ Jp (Qi G fun c=>Jl (QY (Xo D)) (Z2 D) j c k)=Jp (gF (fun q c=>Jl (QY (Xo D)) (Z2 D) q c k) G (j+1))):=by
          show _=_
          rw [Jcy,Jbk]
         have m7:j*G<=12*1000:=Nat.mul_le_mul (by omega) (by omega)
         have f3:(Jp (gF (fun q c=>Jl (QY (Xo D)) (Z2 D) q c k) G j)).size<=12000:=by rw [xG,YV];omega
         have m8:(Jp (Qi G fun c=>Jl (QY (Xo D)) (Z2 D) j c k)).size<=1000:=by rw [xG,Jf];omega
         have m9:Hid (Below K.heap.size K Q):=a6.out.trans ((a1.out.trans (a9.out.mono k3)).mono k2)
         clear e6 a8 a9 m7
         generalize Jp (Qi G fun c=>Jl (QY (Xo D)) (Z2 D) j c k)=s2 at m5 i7 m8
         generalize Jp (gF (fun q c=>Jl (QY (Xo D)) (Z2 D) q c k) G j)=s1 at *
         go_wp2
         go_roundw
         case rel=>exact ⟨j+1,by omega,by go_num,by rw [<- i7.out],m9.out⟩
         case measure=>simp [intOf];omega
    ·have n0:k=j:=by omega
     subst n0
     have n3:∀ W,Sem.run prog (Instr.slice 9 (.string (Jp (gF (fun q c=>Jl (QY (Xo D)) (Z2 D) q c k) G k))) none (some (.int .i64 (size:Int))) none) W=.ok (.string dt) W:=fun W=>by
      rw [run_slice_string_h W 9 _ underlying9 .i64 (size:Int) (by omega) (by
       rw [xG,YV]
       have:=b7.out
       omega),Int.toNat_natCast,RL,SZ,OE _ _ _ _ b7.out,d0.out]
     have n4:Hid (Below w.heap.size w J):=f7.out.trans ((HB.out.trans (a6.out.mono f8)).mono f7.out.size)
     clear d0 b7
     generalize Jp (gF (fun q c=>Jl (QY (Xo D)) (Z2 D) q c k) G k)=st at n3 ⊢
     go_wp2
     go_ret2
     exact ⟨rfl,n4.out⟩
def Xi (l:List Yb):Nat:=(l.map fun v=>40+v.text.size).sum
def nR (m:Zb):Nat:=m.from_.size+m.aP.size+m.kind.size+m.key.size+Xi m.L
theorem Jdf {l:List Yb} (h:i < l.length):Xi (l.take (i+1))=Xi (l.take i)+40+(Xd l i).text.size:=by
 unfold Xi
 rw [List.take_add_one,Xx h]
 simp
 omega
theorem Jeg (l:List Yb) (i:Nat):Xi (l.take i)<=Xi l:=by
 have e:Xi l=Xi (l.take i)+Xi (l.drop i):=by
  unfold Xi
  rw [<- List.sum_append,<- List.map_append,List.take_append_drop]
 omega
theorem WZ (l:List Yb):40*l.length<=Xi l:=by
 induction l with
 | nil=>simp [Xi]
 | cons v l ih =>
  unfold Xi at ih ⊢
  rw [List.map_cons,List.sum_cons,List.length_cons]
  omega
theorem Jeh (m:Zb) (p:Option Addr) (c:Nat) (w:World) (X:Ql Ze w p m.L) (hl:nR m<=9223372036854775807) :
 Calls prog 32 #[Z1 m (.slice p m.L.length c)] w fun e w'=>e=.returned (.int .i64 ((nR m:Nat):Int))/\Below w.heap.size w w':=by
 obtain ⟨m1,m2,m3,D,I,J,K,j⟩:=m
 unfold Z1
 unfold nR at hl ⊢
 simp only [] at *
 obtain ⟨y,G⟩:∃ y,y=w.alloc (.cells #[.string m1,.string m2,.string m3,.string D,.int .i64 I,.int .i64 J,.bool K,.slice p j.length c] 59):=⟨_,rfl⟩
 have Q:Hid (y=w.alloc (.cells #[.string m1,.string m2,.string m3,.string D,.int .i64 I,.int .i64 J,.bool K,.slice p j.length c] 59)):=G
 have M:Below w.heap.size w y:=by rw [G];exact (Below.refl _ _).alloc (Nat.le_refl _) _
 have q7:y.cell? ⟨w.heap.size,7,none⟩=some (.slice p j.length c):=by rw [G,World.cell?_alloc_at _ _ _ _ rfl];rfl
 have Y:Hid (Ql Ze y p j):=X.below M
 have Z:Hid (Below w.heap.size w y):=M
 have a8:=WZ j
 have a0:Hid (∀ i,Xi (j.take i)<=Xi j):=Jeg j
 have a1:Hid (∀ i,i < j.length->Xi (j.take (i+1))=Xi (j.take i)+40+(Xd j i).text.size):=fun i hi=>Jdf hi
 have a2:Hid (Xi (j.take j.length)=Xi j):=by show _=_;rw [List.take_length]
 have U:Xi (j.take 0)=0:=by simp [Xi]
 have a3:Hid (Xi (j.take 0)=0):=U
 clear G M X U
 go_enter func32,ntmps32
 go_wp2
 rw [show w.alloc (.cells #[.string m1,.string m2,.string m3,.string D,.int .i64 I,.int .i64 J,.bool K,.slice p j.length c] 59)=y from Q.out.symm]
 clear Q
 go_loopw [3,4] (fun x i wr=>∃ k:Nat,k<=j.length/\i=.int .i64 k/\x=.int .i64 ((m1.size+m2.size+m3.size+D.size+Xi (j.take k):Nat):Int)/\wr=y) (fun _ i _=>j.length - (intOf i).toNat)
 case atStart=>exact ⟨0,Nat.zero_le _,rfl,by rw [a3.out];congr 1,rfl⟩
 case round =>
  obtain ⟨k,hk,rfl,rfl,a4⟩:=hrel
  subst a4
  by_cases W:k < j.length
  ·obtain ⟨b,o,a5,a9,c0,c1,c2,c3,c4⟩:=QU Y.out W
   subst a5
   have O:=a1.out k W
   have a6:=a0.out (k+1)
   rw [O] at a6
   have a7:Hid (Xi (j.take (k+1))=Xi (j.take k)+40+(Xd j k).text.size):=O
   clear O
   generalize Xd j k=x at *
   obtain ⟨xn,xw,xs,xa,xt⟩:=x
   simp only [] at *
   generalize Xi (j.take k)=q at *
   have hq:((m1.size+m2.size+m3.size+D.size+q:Nat):Int)=(m1.size:Int)+m2.size+m3.size+D.size+q:=by omega
   generalize hN:m1.size+m2.size+m3.size+D.size+q=N at *
   clear hq
   go_wp2
   go_roundw
   case rel=>exact ⟨k+1,by omega,by go_num,by rw [a7.out];congr 1;omega,trivial⟩
   case measure=>simp [intOf];omega
  ·obtain rfl:k=j.length:=by omega
   rw [a2.out]
   go_wp2
   go_ret
   exact ⟨rfl,Z.out⟩
def pD (B:Nat) (w:World) (p:Option Addr) (l:List Zb):Prop:=∃ j:List (Zb×Lv),j.map Prod.fst=l/\Ql mE w p j/\(∀ x ∈ j,Jn w x/\∀ b o,x.2.1=some ⟨b,o,none⟩->B<=b)/\∀ b o,p=some ⟨b,o,none⟩->B<=b
theorem pD.at_   (h:pD B w p l):mN w p l:=by
 obtain ⟨j,y,D,G,_⟩:=h
 exact ⟨j,y,D,fun x I=>(G x I).1⟩
theorem pD.mono {D:Nat}  (h:pD B w p l) (G:D<=B):pD D w p l:=by
 obtain ⟨I,J,K,j,M⟩:=h
 exact ⟨I,J,K,fun x y=>⟨(j x y).1,fun b o e=>Nat.le_trans G ((j x y).2 b o e)⟩,fun b o e=>Nat.le_trans G (M b o e)⟩
theorem pD.below   (h:pD B w p l) (D:Below w.heap.size w w'):pD B w' p l:=by
 obtain ⟨G,I,J,j,K⟩:=h
 exact ⟨G,I,J.below D,fun x y=>⟨(j x y).1.below D,(j x y).2⟩,K⟩
theorem pD.nJ   (h:pD B w p l) (Q:w.heap.size<=w'.heap.size) (U:∀ k,B<=k->k < w.heap.size->w'.heap[k]?=w.heap[k]?):mN w' p l:=by
 obtain ⟨W,X,Y,Z,h4⟩:=h
 refine ⟨W,X,?_,fun x K=>?_⟩
 ·rcases Y with M | ⟨b,o,D,G,N⟩
  ·exact Or.inl M
  ·exact Or.inr ⟨b,o,D,Nat.lt_of_lt_of_le G Q,fun j x K I u O=>(World.cell?_of_block (a:=⟨b,o+j*mE.k+I,none⟩) (U b (h4 b o D) G)).trans (N j x K I u O)⟩
 ·obtain ⟨J,g2⟩:=Z x K
  refine ⟨J.len,?_,J.room,J.empty⟩
  rcases J.eC with M | ⟨b,o,D,G,N⟩
  ·exact Or.inl M
  ·exact Or.inr ⟨b,o,D,Nat.lt_of_lt_of_le G Q,fun j y hy I u O=>(World.cell?_of_block (a:=⟨b,o+j*Ze.k+I,none⟩) (U b (g2 b o D) G)).trans (N j y hy I u O)⟩
def iU (O:Nat->Prop) (w:World) (p:Option Addr) (l:List Zb):Prop:=∃ j:List (Zb×Lv),j.map Prod.fst=l/\Ql mE w p j/\(∀ x ∈ j,Jn w x/\∀ b o,x.2.1=some ⟨b,o,none⟩->O b)/\∀ b o,p=some ⟨b,o,none⟩->O b
theorem iU.mono {D:Nat->Prop}  (h:iU O w p l) (G:∀ b,O b->D b):iU D w p l:=by
 obtain ⟨I,J,K,j,M⟩:=h
 exact ⟨I,J,K,fun x y=>⟨(j x y).1,fun b o e=>G b ((j x y).2 b o e)⟩,fun b o e=>G b (M b o e)⟩
theorem iU.new   (h:iU O w p l) (j:∀ b,O b->B<=b):pD B w p l:=h.mono j
theorem iU.nil (O:Nat->Prop) (w:World):iU O w none []:=⟨[],rfl,Ql.nil _ _,(fun x j=>by cases j),(fun b o e=>by cases e)⟩
structure QE (c B:Nat) (w:World) (p:Option Addr) (l:List Zb):Prop where
 msgs:iU (fun b=>B<=b/\b < w.heap.size) w p l
 room:l.length<=c
 empty:p=none->l.length=0/\c=0
structure Qp (c:Nat) (O:Nat->Prop) (w:World) (p:Option Addr) (l:List Zb):Prop where
 msgs:iU O w p l
 room:l.length<=c
 empty:p=none->l.length=0/\c=0
theorem QE.n   (h:QE c B w p l):pD B w p l:=h.msgs.new (fun _ j=>j.1)
theorem Qp.nil (O:Nat->Prop) (w:World):Qp 0 O w none []:=⟨iU.nil _ _,Nat.le_refl _,fun _=>⟨rfl,rfl⟩⟩
theorem QE.mono {y:Nat}  (h:QE c B w p l) (D:y<=B):QE c y w p l:=⟨h.msgs.mono (fun _ j=>⟨Nat.le_trans D j.1,j.2⟩),h.room,h.empty⟩
theorem Qp.mono {j:Nat->Prop}  (h:Qp c O w p l) (y:∀ b,O b->j b):Qp c j w p l:=⟨h.msgs.mono y,h.room,h.empty⟩
theorem QE.out   (h:QE c B w p l) (y:∀ b,B<=b->b < w.heap.size->O b):Qp c O w p l:=⟨h.msgs.mono (fun b j=>y b j.1 j.2),h.room,h.empty⟩
theorem Qp.new   (h:Qp c O w p l) (j:∀ b,O b->B<=b):pD B w p l:=h.msgs.new j
section
def Zq (w:World) (B:Nat) (v:Value) (l:List ByteArray):Prop:=JM w B 9 v (l.map Value.string)
theorem Zq.nil (w:World) (B:Nat):Zq w B (.slice none 0 0) []:=JM.nil w B _
theorem Zq.block  {l:List ByteArray} (h:Zq w B v l) (j:v.ownBlock=some k):B<=k/\k < w.heap.size:=JM.block h j
theorem Zq.form  {l:List ByteArray} (h:Zq w B v l):∃ p c,v=.slice p l.length c/\Strs w p l/\l.length<=c/\(p=none->c=0)/\∀ b o,p=some ⟨b,o,none⟩->B<=b/\b < w.heap.size:=by
 have G:=JM.cells h
 have I:w.ownsRow B 9 1 v (l.map Value.string).length (l.map Value.string):=h
 rcases I.2 with ⟨rfl,J⟩ | ⟨g,K,Y,rfl,M,N,j,Z,a0,a1⟩
 ·have e:l=[]:=by simpa using J
  subst e
  exact ⟨none,0,rfl,Or.inl rfl,Nat.le_refl _,fun _=>rfl,fun _ _ h=>by cases h⟩
 ·rw [List.length_map] at j ⊢
  have y:g < w.heap.size:=(Array.getElem?_eq_some_iff.1 N).1
  refine ⟨some ⟨g,0,none⟩,K,rfl,Or.inr ⟨g,0,rfl,y,fun i D=>?_⟩,j,fun h=>(by cases h),fun b o h=>?_⟩
  ·rcases G with ⟨O,_⟩ | ⟨Q,a2,U,_,_,W⟩
   ·cases O
   ·have X : g = Q := by
     have:=congrArg Value.ownBlock U
     simpa [Value.ownBlock] using this
    subst X
    rw [Nat.zero_add,W i (.string (Yc l i)) (by rw [List.getElem?_map,List.getElem?_eq_getElem D,Xk l i D];rfl)]
  ·obtain ⟨rfl,rfl⟩:g=b/\0=o:=by simpa using h
   exact ⟨M,y⟩
section
variable {w:World}
theorem R8 {M:Array Oper} {N:List Oper} {o:Oper} {a:Act} {Q:Exit->Act->World->Prop} (Y:o.guard=none) (s x:Operand)
 (Z:o.op=.call { callee:=.builtin .append,args:=#[s,x],argTypes:=#[22,22] })
 (B:Nat) (v:Value) (l:List ByteArray) (hs:a.eval s=v) (I:Zq w B v l) (q:Option Addr) (r:List ByteArray) (c:Nat) (hx:a.eval x=.slice q r.length c) (hq:Strs w q r) (a7:q=none->r=[]/\c=0) (hl:l.length+r.length<=8796093022208) (a0:B<=w.heap.size)
 (h:∀ D w',Zq w' B D (l ++ r)->Below B w w'->wpList prog M Q N (a.put o.dst D) w'):wpList prog M Q (o :: N) a w:=by
 obtain ⟨O,U,a1,a2,a3⟩:=info_parts (P:=prog) (e:=9) (z:=.string ⟨#[]⟩) (size:=1) (bytes:=16) (by kernel_rfl)
 have a4:∀ D w',w'.ownsRow B 9 1 D ((l.map Value.string).length+r.length) (l.map Value.string ++ r.map Value.string)->w.grownBy w' v.ownBlock->wpList prog M Q N (a.put o.dst D) w':=fun D w' J K=>by
  refine h D w' ?_ ((Below.refl _ _).grown K a0 (fun k hk=>(I.block hk).1))
  unfold Zq JM
  have e:(l.map Value.string ++ r.map Value.string).length=(l.map Value.string).length+r.length:=by simp
  rw [List.map_append,e]
  exact J
 cases q with
 | none =>
  obtain ⟨hr,hc⟩:=a7 rfl
  subst hr hc
  refine wpList_append_own_none Y s x _ Z B 9 O 1 underlying22 U v (l.map Value.string).length (l.map Value.string) hs I hx ?_
  have:=h v w (by rw [List.append_nil];exact I) (Below.refl _ _)
  exact this
 | some ad =>
  refine wpList_append_own w Y s x _ Z B 9 O (.string ⟨#[]⟩) 1 16 underlying22 U a1 a2 a3 rfl (by decide) v (l.map Value.string).length (l.map Value.string) hs I ad r.length c (r.map Value.string) hx (by simp) ?_ ?_ (by rw [List.length_map];unfold maxLen;omega) (by rw [List.length_map];omega) a0 (fun D w' J K _=>a4 D w' J K)
  ·intro j u W
   rw [List.getElem?_map] at W
   obtain ⟨y,X,a5⟩:=Option.map_eq_some_iff.1 W
   have G:j < r.length:=(List.getElem?_eq_some_iff.1 X).1
   rcases hq with h0 | ⟨b,o',hp,_,a6⟩
   ·rw [h0] at G;exact absurd G (Nat.not_lt_zero _)
   ·obtain rfl:ad=⟨b,o',none⟩:=by simpa using hp
    rw [Addr.add_lit,a6 j G,Xk r j G,<- a5,(List.getElem?_eq_some_iff.1 X).2]
  ·intro u hu
   obtain ⟨y,_,rfl⟩:=List.mem_map.1 hu
   rfl
end
end
theorem BL (p:Option Addr) (l:List ByteArray) (c:Nat) (s:ByteArray) (w:World) (W:l.length<=1000000) (J:Strs w p l) (h:s ∉ l) :
 Calls prog 46 #[.slice p l.length c,.string s] w fun e w'=>e=.returned (.int .i64 (-1))/\w'=w:=by
 have G:Hid (s ∉ l):=h
 clear h
 go_enter func46,ntmps46
 go_wp2
 go_loop [5] (fun x=>∃ i:Nat,i<=l.length/\x=.int .i64 i) (fun x=>l.length - (intOf x).toNat)
 case atStart=>exact ⟨0,Nat.zero_le _,rfl⟩
 case round =>
  obtain ⟨i,K,rfl⟩:=hrel
  by_cases j:i < l.length
  ·rcases J with I | ⟨b,o,rfl,M,D⟩
   ·rw [I] at j;exact absurd j (Nat.not_lt_zero _)
   have N:=D i j
   have y:Yc l i≠s:=fun e=>G.out (e ▸ oQ j)
   have O:=XT y
   have Q:=YT y
   have U:=Y8 y
   clear y D
   generalize Yc l i=t at *
   go_wp2
   go_round
   case rel=>exact ⟨i+1,by omega,by go_num⟩
   case measure=>simp [intOf];omega
  ·go_wp2
   go_ret
   exact ⟨rfl,rfl⟩
theorem wS (p:Option Addr) (l:List ByteArray) (c:Nat) (s:ByteArray) (w:World) (hl:l.length<=1000000) (Z:Strs w p l) (h:s ∈ l) :
 Calls prog 46 #[.slice p l.length c,.string s] w fun e w'=>e=.returned (.int .i64 ((ZJ l s:Nat):Int))/\w'=w:=by
 have O:Hid (s ∈ l):=h
 clear h
 go_enter func46,ntmps46
 go_wp2
 go_loop [5] (fun x=>∃ i:Nat,i<=l.length/\x=.int .i64 i/\∀ j,j < i->Yc l j≠s) (fun x=>l.length - (intOf x).toNat)
 case atStart=>exact ⟨0,Nat.zero_le _,rfl,fun j G=>absurd G (Nat.not_lt_zero _)⟩
 case round =>
  obtain ⟨i,hi,rfl,J⟩:=hrel
  have I:Hid (∀ j,j < i->Yc l j≠s):=J
  clear J
  have D:i < l.length:=by
   rcases Nat.lt_or_ge i l.length with h | h
   ·exact h
   ·obtain ⟨j,G,e⟩:=tF O.out
    exact absurd e (I.out j (by omega))
  rcases Z with Q | ⟨b,o,rfl,a0,K⟩
  ·rw [Q] at D;exact absurd D (Nat.not_lt_zero _)
  have U:=K i D
  have M:Hid (Yc l i=Yc l i):=by show _=_;rfl
  clear K
  by_cases y:Yc l i=s
  ·have W:Hid (ZJ l s=i):=DQ D y I.out
   rw [y] at U
   clear y M
   go_wp2
   go_ret
   exact ⟨by rw [W.out];rfl,rfl⟩
  ·have X:Hid (Yc l i≠s):=y
   have h1:=XT y
   have h2:=YT y
   have h3:=Y8 y
   clear y M
   generalize N:Yc l i=t at *
   have Y:Hid (Yc l i=t):=N
   clear N
   go_wp2
   go_round
   case rel=>exact ⟨i+1,by omega,by go_num,fun j G=>by
    rcases Nat.lt_or_ge j i with h | h
    ·exact I.out j h
    ·obtain rfl:j=i:=by omega
     rw [Y.out];exact X.out⟩
   case measure=>simp [intOf];omega
theorem JbO (s:ByteArray) (w:World) (hs:s.size<=1000000) :
 Calls prog 26 #[.string s] w fun e w'=>e=.returned (.bool (Jo s))/\w'=w:=by
 by_cases h1:s.size < 1
 ·have J:Hid (Jo s=false):=CT (by omega)
  rw [J.out]
  go_enter func26,ntmps26
  go_wp2
  go_ret
  exact ⟨rfl,rfl⟩
 by_cases h2:16 < s.size
 ·have J:Hid (Jo s=false):=CT (by omega)
  rw [J.out]
  go_enter func26,ntmps26
  go_wp2
  go_ret
  exact ⟨rfl,rfl⟩
 have g1:decide ((s.size:Int) < 1)=false:=decide_eq_false (by omega)
 have g2:decide (16 < (s.size:Int))=false:=decide_eq_false (by omega)
 have U:Hid (∀ j,j < s.size->Xr (Gf.nth (Zj s) j)=false->Jo s=false):=fun j I h=>Jeu I h
 have HT:Hid ((∀ j,j < s.size->Xr (Gf.nth (Zj s) j)=true)->Jo s=true):=fun h=>Jet (by omega) (by omega) h
 generalize Jo s=r at *
 go_enter func26,ntmps26
 go_wp2
 go_loop [3] (fun x=>∃ i:Nat,i<=s.size/\x=.int .i64 i/\∀ j,j < i->Xr (Gf.nth (Zj s) j)=true) (fun x=>s.size - (intOf x).toNat)
 case atStart=>exact ⟨0,Nat.zero_le _,rfl,fun j I=>absurd I (Nat.not_lt_zero _)⟩
 case round =>
  obtain ⟨i,hi,rfl,W⟩:=hrel
  have K:Hid (∀ j,j < i->Xr (Gf.nth (Zj s) j)=true):=W
  clear W
  by_cases X:i < s.size
  ·have a1:=EP s i X
   have hy:=xK s i
   have M:Hid (Xr (Gf.nth (Zj s) i)=false->r=false):=fun h=>U.out i X h
   have N:Hid (Xr (Gf.nth (Zj s) i)=true->∀ j,j < i+1->Xr (Gf.nth (Zj s) j)=true):=fun h j I=>by
    rcases Nat.lt_or_ge j i with Y | Y
    ·exact K.out j Y
    ·obtain rfl:j=i:=by omega
     exact h
   clear U K
   generalize Gf.nth (Zj s) i=y at *
   rcases (show (97<=y/\y<=122)∨(48<=y/\y<=57)∨y=45∨122 < y∨(57 < y/\y < 97)∨(y < 48/\y≠45) by omega) with D | D | D | D | D | D
   ·have G:Hid (Xr y=true):=by show _=_;simp [Xr,D]
    obtain ⟨O,Q⟩:=D
    go_wp2
    go_round
    case rel=>exact ⟨i+1,by omega,by go_num,N.out G.out⟩
    case measure=>simp [intOf];omega
   ·have G:Hid (Xr y=true):=by show _=_;simp [Xr,D]
    obtain ⟨O,Q⟩:=D
    go_wp2
    go_round
    case rel=>exact ⟨i+1,by omega,by go_num,N.out G.out⟩
    case measure=>simp [intOf];omega
   ·have G:Hid (Xr y=true):=by show _=_;simp [Xr,D]
    subst D
    go_wp2
    go_round
    case rel=>exact ⟨i+1,by omega,by go_num,N.out G.out⟩
    case measure=>simp [intOf];omega
   ·have G : Hid (r = false) := M.out (by
     unfold Xr
     rw [decide_eq_false (by omega),decide_eq_false (by omega),decide_eq_false (by omega)]
     rfl)
    have d1:decide ((y:Int)<=122)=false:=decide_eq_false (by omega)
    have d2:decide ((y:Int)<=57)=false:=decide_eq_false (by omega)
    have Z:((y:Int)==45)=false:=by
     rw [beq_eq_false_iff_ne]
     omega
    go_wp2
    go_ret
    exact ⟨by rw [G.out];rfl,rfl⟩
   ·have G : Hid (r = false) := M.out (by
     unfold Xr
     rw [decide_eq_false (by omega),decide_eq_false (by omega),decide_eq_false (by omega)]
     rfl)
    obtain ⟨O,Q⟩:=D
    have d2:decide ((y:Int)<=57)=false:=decide_eq_false (by omega)
    have Z:((y:Int)==45)=false:=by
     rw [beq_eq_false_iff_ne]
     omega
    go_wp2
    go_ret
    exact ⟨by rw [G.out];rfl,rfl⟩
   ·have G : Hid (r = false) := M.out (by
     unfold Xr
     rw [decide_eq_false (by omega),decide_eq_false (by omega),decide_eq_false (by omega)]
     rfl)
    obtain ⟨O,Q⟩:=D
    have Z:((y:Int)==45)=false:=by
     rw [beq_eq_false_iff_ne]
     omega
    go_wp2
    go_ret
    exact ⟨by rw [G.out];rfl,rfl⟩
  ·have a0:i=s.size:=by omega
   subst a0
   have HR:Hid (r=true):=HT.out K.out
   go_wp2
   go_ret
   exact ⟨by rw [HR.out];rfl,rfl⟩
end Go.Proofs.YtmikbldbfnlfjaaGreatDoor

/- Texts laid together. -/
import Derived.Test.YtmikbldbfnlfjaaGreatDoorCs10
set_option maxRecDepth 10000
set_option maxHeartbeats 16000000
namespace Go.Proofs.YtmikbldbfnlfjaaGreatDoor
open Go.Proofs.Tryz
open Go.RowKit
variable {j D:Array Value}{a':Za}
theorem Jce {w j:World} (y:Below w.heap.size w j) (a b:Value):Below w.heap.size w ((j.setCell ⟨w.heap.size+1,0,none⟩ a).setCell ⟨w.heap.size+1,1,none⟩ b) :=
 (y.setCell (p:=⟨w.heap.size+1,0,none⟩) (by show w.heap.size<=w.heap.size+1;omega) _).setCell (p:=⟨w.heap.size+1,1,none⟩) (by show w.heap.size<=w.heap.size+1;omega) _
theorem D0 (c:Xg) (p:Option Addr) (y:Nat) (w:World) (hc:Yn w c p y) :
 Calls prog 25 #[iE c (.slice p c.L.length y)] w fun e w'=>e=.returned (.agg #[.int .i64 (Jg c).1,.int .i64 (Jg c).2])/\Below w.heap.size w w':=by
 obtain ⟨hs,a7,a9,b0,a8,a2⟩:=hc
 obtain ⟨j,M⟩:∃ j,j=(w.alloc (.cells #[.int .i64 c.n,.int .i64 c.k,.slice p c.L.length y] 24)).alloc (.cells #[.int .i64 0,.int .i64 0] 39):=⟨_,rfl⟩
 have a3:Hid (j=(w.alloc (.cells #[.int .i64 c.n,.int .i64 c.k,.slice p c.L.length y] 24)).alloc (.cells #[.int .i64 0,.int .i64 0] 39)):=M
 have O:(w.alloc (.cells #[.int .i64 c.n,.int .i64 c.k,.slice p c.L.length y] 24)).heap.size=w.heap.size+1:=by simp
 have Q:Below w.heap.size w j:=by rw [M];exact ((Below.refl _ _).alloc (Nat.le_refl _) _).alloc (by rw [O];omega) _
 have U:j.heap[w.heap.size]?=some (.cells #[.int .i64 c.n,.int .i64 c.k,.slice p c.L.length y] 24 (0,0)):=by
  rw [M,heap_alloc_old _ _ (by rw [O];omega)]
  exact heap_alloc_new _ _
 have X:j.heap[w.heap.size+1]?=some (.cells #[.int .i64 0,.int .i64 0] 39 (0,0)):=by
  rw [M,<- O]
  exact heap_alloc_new _ _
 have a1:=(Array.getElem?_eq_some_iff.1 X).1
 have a4:Hid (∀ W,Below j.heap.size j W->W.cell? ⟨w.heap.size+1,0,none⟩=some (.int .i64 0)/\W.cell? ⟨w.heap.size+1,1,none⟩=some (.int .i64 0)/\(∀ i,W.frozen? ⟨w.heap.size+1,i,none⟩=false)/\Below w.heap.size w W):=fun W hW=>by
  have hy:=(hW.block _ a1).trans X
  exact ⟨by simp [World.cell?,hy],by simp [World.cell?,hy],fun i=>by simp [World.frozen?,hy],Q.trans (hW.mono Q.size)⟩
 have q0:j.cell? ⟨w.heap.size,0,none⟩=some (.int .i64 c.n):=by simp [World.cell?,U]
 have q1:j.cell? ⟨w.heap.size,1,none⟩=some (.int .i64 c.k):=by simp [World.cell?,U]
 have q2:j.cell? ⟨w.heap.size,2,none⟩=some (.slice p c.L.length y):=by simp [World.cell?,U]
 have a5:Hid (∀ (x:Int) (W:World),Calls prog 27 #[.int .i64 x] W fun e w'=>e=.returned (.agg #[.int .i64 x,.int .i64 (-1)])/\Below W.heap.size W w'):=fun x W=>O0 x W
 by_cases D:1<=c.k/\c.k<=c.n/\c.n<=12
 ·have N:Hid (Calls prog 53 #[.int .i64 c.n,.int .i64 c.k] j fun e w'=>e=.returned (.bool true)/\w'=j):=Jbi c.n c.k j D.1 D.2.1 D.2.2
  by_cases Y:(c.L.length:Int)=c.n
  ·have a6:Hid (Calls prog 54 #[.slice p c.L.length y] j fun e w'=>e=.returned (.agg #[.int .i64 (Xj c.L).1,.int .i64 (Xj c.L).2])/\Below j.heap.size j w'):=Jcc p c.L y j (by omega) a7 (fun x hx=>by have:=a8 x hx;omega) (hs.below Q)
   rw [wU D Y]
   clear M Q U X a1 O hs a2 a5
   generalize Xj c.L=F at *
   obtain ⟨Z,ck,L⟩:=c
   obtain ⟨F1,F2⟩:=F
   unfold iE
   simp only [] at *
   have d1:((L.length:Int)==Z)=true:=by simpa using Y
   go_enter func25,ntmps25
   go_wp2_with fail
   rw [<- a3.out]
   refine N.out.mono ?_
   rintro e w2 ⟨rfl,G⟩
   rw [G]
   clear G w2 N
   go_wp2_with fail
   refine a6.out.mono ?_
   rintro e I ⟨rfl,J⟩
   obtain ⟨z0,z1,z2,K⟩:=a4.out I J
   have a0:Hid (Below w.heap.size w I):=K
   clear J K a6
   go_wp2
   refine bodyPost_ret (v:=.agg #[.int .i64 F1,.int .i64 F2]) (by simp [results,results25,go_sem,z0,z1]) rfl ⟨rfl,Jce a0.out _ _⟩
  ·rw [FM D Y]
   clear M Q U X a1 O hs a2
   obtain ⟨Z,ck,L⟩:=c
   unfold iE
   simp only [] at *
   have d1:((L.length:Int)==Z)=false:=by simpa using Y
   have d2:((L.length:Int) != Z)=true:=by simpa using Y
   go_enter func25,ntmps25
   go_wp2_with fail
   rw [<- a3.out]
   refine N.out.mono ?_
   rintro e w2 ⟨rfl,G⟩
   rw [G]
   clear G w2 N
   go_wp2_with fail
   refine (a5.out 3 j).mono ?_
   rintro e I ⟨rfl,J⟩
   obtain ⟨z0,z1,z2,K⟩:=a4.out I J
   have a0:Hid (Below w.heap.size w I):=K
   clear J K
   go_wp2
   refine bodyPost_ret (v:=.agg #[.int .i64 3,.int .i64 (-1)]) (by simp [results,results25,go_sem,z0,z1]) rfl ⟨rfl,Jce a0.out _ _⟩
 ·have N:Hid (Calls prog 53 #[.int .i64 c.n,.int .i64 c.k] j fun e w'=>e=.returned (.bool false)/\w'=j):=JcJ c.n c.k j D
  rw [vZ D]
  clear M Q U X a1 O hs a2 D
  obtain ⟨Z,ck,L⟩:=c
  unfold iE
  simp only [] at *
  go_enter func25,ntmps25
  go_wp2_with fail
  rw [<- a3.out]
  refine N.out.mono ?_
  rintro e w2 ⟨rfl,G⟩
  rw [G]
  clear G w2 N
  go_wp2_with fail
  refine (a5.out 2 j).mono ?_
  rintro e I ⟨rfl,J⟩
  obtain ⟨z0,z1,z2,K⟩:=a4.out I J
  have a0:Hid (Below w.heap.size w I):=K
  clear J K
  go_wp2
  refine bodyPost_ret (v:=.agg #[.int .i64 2,.int .i64 (-1)]) (by simp [results,results25,go_sem,z0,z1]) rfl ⟨rfl,Jce a0.out _ _⟩
theorem Jau (c:Xg) (lv:Value) (W:∃ p n d,lv=.slice p n d) (w:World) (h:1<=c.k/\c.k<=c.n/\c.n<=12) :
 Calls prog 47 #[iE c lv] w fun e w'=>e=.returned (.int .i64 ((Jh c:Nat):Int))/\Below w.heap.size w w':=by
 obtain ⟨p,I,d,rfl⟩:=W
 obtain ⟨j,y⟩:∃ j,j=w.alloc (.cells #[.int .i64 c.n,.int .i64 c.k,.slice p I d] 24):=⟨_,rfl⟩
 have J:Hid (j=w.alloc (.cells #[.int .i64 c.n,.int .i64 c.k,.slice p I d] 24)):=y
 have M:Hid (Below w.heap.size w j):=by rw [y];exact (Below.refl _ _).alloc (Nat.le_refl _) _
 have X:j.cell? ⟨w.heap.size,0,none⟩=some (.int .i64 c.n):=by rw [y,World.cell?_alloc_at _ _ _ _ rfl];rfl
 have Y:j.cell? ⟨w.heap.size,1,none⟩=some (.int .i64 c.k):=by rw [y,World.cell?_alloc_at _ _ _ _ rfl];rfl
 have K:Hid (Jh c=(c.n.toNat+c.k.toNat+1) / 2):=by show _=_;rfl
 generalize Jh c=E at *
 obtain ⟨N,O,L⟩:=c
 unfold iE
 simp only [] at *
 obtain ⟨D,rfl⟩:=Int.eq_ofNat_of_zero_le (show 0<=N by omega)
 obtain ⟨G,rfl⟩:=Int.eq_ofNat_of_zero_le (show 0<=O by omega)
 have Z:E=(D+G+1) / 2:=K.out
 clear y K
 go_enter func47,ntmps47
 go_wp2
 rw [show w.alloc (.cells #[.int .i64 (D:Int),.int .i64 (G:Int),.slice p I d] 24)=j from J.out.symm]
 clear J
 have a0:D<=12:=by omega
 have a1:G<=12:=by omega
 go_loopw [3] (fun x wr=>∃ i:Nat,i<=E/\x=.int .i64 i/\wr=j) (fun x _=>E - (intOf x).toNat)
 case atStart=>exact ⟨0,Nat.zero_le _,rfl,rfl⟩
 case round =>
  obtain ⟨i,hi,rfl,Q⟩:=hrel
  subst Q
  by_cases a2:i < E
  ·have U:decide (2*(i:Int) < (D:Int)+(G:Int))=true:=decide_eq_true (by omega)
   go_wp2
   go_roundw
   case rel=>exact ⟨i+1,by omega,by go_num,trivial⟩
   case measure=>simp [intOf];omega
  ·obtain rfl:i=E:=by omega
   have U:decide (2*(i:Int) < (D:Int)+(G:Int))=false:=decide_eq_false (by omega)
   go_wp2
   go_ret
   exact ⟨rfl,M.out⟩
section
variable {w w':World} {B:Nat} {S:Nat->Prop} {ab:Nat} {a:Za} {mv nv fv lv:Value} {vs:List Value}
structure x6 (ab:Nat) (cs:Array Value) (w w':World):Prop where
 os:w'.os=w.os
 tape:w'.tape=w.tape
 output:w'.output=w.output
 size:w'.heap.size=w.heap.size
 eK:w'.heap[ab]?=some (.cells cs 48 (0,0))
 cW:∀ k,k≠ab->w'.heap[k]?=w.heap[k]?
theorem x6.refl (y:w.heap[ab]?=some (.cells j 48 (0,0))):x6 ab j w w:=⟨rfl,rfl,rfl,rfl,y,fun _ _=>rfl⟩
theorem x6.set (j:x6 ab D w w') (i:Nat) (v:Value):x6 ab (D.setIfInBounds i v) w (w'.setCell ⟨ab,i,none⟩ v):=⟨j.os,j.tape,j.output,by simpa [World.setCell] using j.size,V0 j.eK i v,fun k y=>(Below.heap_setCell w' _ v k y).trans (j.cW k y)⟩
theorem x6.nJ (j:x6 ab D w w') (G:S ab):Yd S S w w':=⟨j.os,j.tape,j.output,Nat.le_of_eq j.size.symm,fun k _ y=>j.cW k (fun e=>y (e ▸ G)),fun _ h=>Or.inl h⟩
theorem Qa.written (h:Qa w B S ab a mv nv fv lv vs) (j:x6 ab (Jy a' mv nv fv lv) w w') (I:a'.c.L=a.c.L) (J:a'.next.L=a.next.L) (K:a'.from_=a.from_) (M:a'.L=a.L):Qa w' B S ab a' mv nv fv lv vs:=by
 have D:Below B w w':=⟨j.os,j.tape,j.output,Nat.le_of_eq j.size.symm,fun k y=>j.cW k (fun e=>by have:=(h.aO ab h.self).1;omega)⟩
 exact ⟨j.eK,by rw [I];exact h.mem.hY D,by rw [J];exact h.rD.hY D,by rw [K];exact JaN h.from_ fun k y=>j.cW k (h.sF k y).2,by rw [M];exact JaB h.told (Nat.le_of_eq j.size.symm) (fun k y=>j.cW k (h.sL k y).2.1) (fun x G k y=>j.cW k (h.sV x G k y).2.1),h.self,h.sF,h.sL,h.sV,fun k y=>⟨(h.aO k y).1,by rw [j.size];exact (h.aO k y).2⟩⟩
theorem Ja {T:TypeId} (y:w.heap[ab]?=some (.cells j T (0,0))) (i:Nat):w.cell? ⟨ab,i,none⟩=j[i]?/\w.frozen? ⟨ab,i,none⟩=false:=⟨by simp [World.cell?,y],by simp [World.frozen?,y]⟩
theorem Jbu {w:World} {b:Nat} {j y D G:Value} (I:w.cell? ⟨b,0,none⟩=some D) (J:w.cell? ⟨b,1,none⟩=some G):((w.setCell ⟨b,0,none⟩ j).setCell ⟨b,1,none⟩ y).cell? ⟨b,0,none⟩=some j/\((w.setCell ⟨b,0,none⟩ j).setCell ⟨b,1,none⟩ y).cell? ⟨b,1,none⟩=some y:=by
 refine ⟨?_,?_⟩ <;> simp [go_sem,I,J]
theorem JbA (j:a'.name=a.name) (y:a'.key=a.key) (D:a'.dT=a.dT) (G:a'.op=a.op) (I:a'.config=a.config) (J:a'.c=a.c) (K:a'.next=a.next) (M:a'.put=a.put) (N:a'.aI=a.aI) :
 (((((Jy a mv nv fv lv).setIfInBounds 16 (.int .i64 a'.tag.1)).setIfInBounds 17 (.int .i64 a'.tag.2)).setIfInBounds 18 (.string a'.text)).setIfInBounds 19 (.bool a'.found)).setIfInBounds 13 (.string a'.st.word)=Jy a' mv nv fv lv:=by
 unfold Jy
 rw [j,y,D,G,I,J,K,M,N]
 simp only [List.setIfInBounds_toArray,List.set_cons_zero,List.set_cons_succ]
end
section
variable {w w':World} {B:Nat} {S:Nat->Prop} {ab:Nat} {a:Za} {mv nv fv lv:Value} {vs:List Value}
theorem Qa.rH (h:Qa w B S ab a mv nv fv lv vs) (y:x6 ab (Jy a' nv nv (.slice none 0 0) (.slice none 0 0)) w w') (J:a'.c.L=a.next.L) (K:a'.next.L=a.next.L) (M:a'.from_=[]) (N:a'.L=[]):Qa w' B S ab a' nv nv (.slice none 0 0) (.slice none 0 0) []:=by
 have D:Below B w w':=⟨y.os,y.tape,y.output,Nat.le_of_eq y.size.symm,fun k j=>y.cW k (fun e=>by have:=(h.aO ab h.self).1;omega)⟩
 exact ⟨y.eK,by rw [J];exact h.rD.hY D,by rw [K];exact h.rD.hY D,by rw [M];exact Zq.nil _ _,by rw [N];exact ⟨JM.nil _ _ _,rfl,fun i G=>absurd G (Nat.not_lt_zero _)⟩,h.self,(fun k j=>by cases j),(fun k j=>by cases j),(fun v I=>by cases I),fun k j=>⟨(h.aO k j).1,by rw [y.size];exact (h.aO k j).2⟩⟩
theorem JbB (j:a'.name=a.name) (y:a'.key=a.key) (D:a'.dT=a.dT) (G:a'.op=a.op) (I:a'.c=a.next) (J:a'.next=a.next) (K:a'.put=a.put) (M:a'.aI=a.aI) :
 (((((((((((Jy a mv nv fv lv).setIfInBounds 16 (.int .i64 a'.tag.1)).setIfInBounds 17 (.int .i64 a'.tag.2)).setIfInBounds 18 (.string a'.text)).setIfInBounds 19 (.bool a'.found)).setIfInBounds 13 (.string a'.st.word)).setIfInBounds 14 (.slice none 0 0)).setIfInBounds 15 (.slice none 0 0)).setIfInBounds 5 (.int .i64 a.next.n)).setIfInBounds 6 (.int .i64 a.next.k)).setIfInBounds 7 nv).setIfInBounds 4 (.int .i64 a'.config)=Jy a' nv nv (.slice none 0 0) (.slice none 0 0):=by
 unfold Jy
 rw [j,y,D,G,I,J,K,M]
 simp only [List.setIfInBounds_toArray,List.set_cons_zero,List.set_cons_succ]
end
theorem Jcg (s:ByteArray) (k y i c:Nat):∀ j,X3 (Zj s) k y i c j=Jl (fun i j=>Gf.aQ (JB k) j i) (gN s y) i c j
 | 0=>rfl
 | j+1=>by
  show (if j*y+c < (Zj s).length then X3 (Zj s) k y i c j ^^^ _ else X3 (Zj s) k y i c j)=Jl _ _ i c j ^^^ Gf.mul _ (gN s y j c)
  rw [Jcg s k y i c j]
  have D:(Zj s).length=s.size:=by simp [Zj]
  by_cases h:j*y+c < s.size
  ·rw [if_pos (by omega)]
   rfl
  ·rw [if_neg (by omega),VE h,Gf.mul_zero,Nat.xor_zero]
theorem Jer (k:Nat) (s:ByteArray) (i:Nat):Jp (wS (Zj s) k (Jk k s.size) i)=JW k s i:=by
 unfold JW wS J7
 rw [YL _ _ _ (fun c _=>Jcg s k (Jk k s.size) i c k)]
theorem Jcv (l:List (Nat×List Nat)):R2 l=Js (l.map fun x=>((x.1:Int),Jp x.2)):=by
 unfold R2 Js
 rw [List.flatMap_map]
theorem JaH (n k:Nat) (s:ByteArray):(H3 n k s).length=n:=by simp [H3]
theorem JcI (n k:Nat) (s:ByteArray) (w:World) (I:1<=k) (J:k<=n) (K:n<=12) (M:s.size<=3000) :
 Calls prog 65 #[.int .i64 (n:Int),.int .i64 (k:Int),.string s] w fun e w'=>(∃ p c,e=.returned (.slice p n c)/\fE w' p (H3 n k s))/\Below w.heap.size w w':=by
 refine (JcP n k s w I J K M).mono ?_
 rintro e w' ⟨⟨v,rfl,j⟩,y⟩
 refine ⟨?_,y⟩
 unfold L1 at j
 rw [Jcv,List.map_map,List.length_map,List.length_range] at j
 have D:(List.range n).map ((fun x:Nat×List Nat=>((x.1:Int),Jp x.2)) ∘ fun i=>(i,wS (Zj s) k (Jk k s.size) i))=H3 n k s:=by
  unfold H3
  refine List.map_congr_left fun i _=>?_
  show ((i:Int),Jp (wS (Zj s) k (Jk k s.size) i))=fR k s i
  rw [Jer]
  rfl
 rw [D] at j
 have G:w'.ownsRow w.heap.size 74 2 v (H3 n k s).length (Js (H3 n k s)):=by rw [JaH];exact j
 obtain ⟨p,c,rfl,h⟩:=nL G
 exact ⟨p,c,by rw [JaH],h⟩
section
variable {w w':World} {B:Nat} {S:Nat->Prop} {ab:Nat} {a:Za} {mv nv fv lv:Value} {vs:List Value}
theorem Jcp (h:Qa w B S ab a mv nv fv lv vs) (kind:ByteArray) (n k:Nat) (j8:a.c.n=(n:Int)) (b7:a.c.k=(k:Int)) (o0:1<=k) (o1:k<=n) (hn:n<=12) (k0:a.c.L.length=n) (k1:a.text.size<=3000):Calls prog 43 #[.pointer (some ⟨ab,0,none⟩),.string kind,.bool true] w fun e w'=>(∃ p c,e=.returned (.slice p (a.send kind true).length c)/\mN w' p (a.send kind true))/\Below w.heap.size w w':=by
 obtain ⟨i1,k2,k3,k4,k5⟩:=info_parts JeJ
 have d2:Hid (Qa w B S ab a mv nv fv lv vs):=h
 obtain ⟨mp,mc,k6,d5,o2,o3,k7⟩:=h.mem.at_
 subst k6
 have o4:ab < w.heap.size:=(h.aO ab h.self).2
 have a7:Hid (∀ W,Below w.heap.size w W->(W.cell? ⟨ab,0,none⟩=some (.string a.name)/\W.cell? ⟨ab,1,none⟩=some (.string a.key)/\W.cell? ⟨ab,3,none⟩=some (.int .i64 a.op)/\W.cell? ⟨ab,4,none⟩=some (.int .i64 a.config)/\W.cell? ⟨ab,7,none⟩=some (.slice mp a.c.L.length mc))/\(W.cell? ⟨ab,16,none⟩=some (.int .i64 a.tag.1)/\W.cell? ⟨ab,17,none⟩=some (.int .i64 a.tag.2)/\W.cell? ⟨ab,18,none⟩=some (.string a.text))/\Strs W mp a.c.L):=fun W hW=>by
  have Z:=d2.out.below hW
  exact ⟨⟨Z.cell 0,Z.cell 1,Z.cell 3,Z.cell 4,Z.cell 7⟩,⟨Z.cell 16,Z.cell 17,Z.cell 18⟩,d5.below hW⟩
 have c5:w.cell? ⟨ab,5,none⟩=some (.int .i64 (n:Int)):=by rw [<- j8];exact h.cell 5
 have c6:w.cell? ⟨ab,6,none⟩=some (.int .i64 (k:Int)):=by rw [<- b7];exact h.cell 6
 have l0:w.cell? ⟨ab,18,none⟩=some (.string a.text):=h.cell 18
 have l1:Hid (a.c.L.length=n):=k0
 have hl:a.c.L.length<=12:=by omega
 have d6:Hid ((a.send kind true).length=a.c.L.length):=by show _=_;rw [Jbv,List.length_map,List.length_range]
 have d8:Hid (∀ i,a.msg kind true i=⟨a.name,Yc a.c.L i,kind,a.key,a.op,a.config,false,[⟨a.tag.1,a.tag.2,(a.text.size:Int),(i:Int),JW k a.text i⟩]⟩):=fun i=>by
  have hk:a.c.k.toNat=k:=by rw [b7];rfl
  unfold Za.msg Za.sQ
  rw [hk]
  rfl
 have l2:Hid (a.send kind true=(List.range a.c.L.length).map (a.msg kind true)):=Jbv a kind true
 have d9:Hid (∀ W,Below w.heap.size w W->Calls prog 65 #[.int .i64 (n:Int),.int .i64 (k:Int),.string a.text] W fun e w'=>(∃ p c,e=.returned (.slice p n c)/\fE w' p (H3 n k a.text))/\Below w.heap.size w w'):=fun W hW=>(JcI n k a.text W o0 o1 hn k1).mono fun e w' ⟨h1,h2⟩=>⟨h1,hW.trans (h2.mono hW.size)⟩
 rw [d6.out]
 clear h d5 k7 j8 b7 k0
 go_enter func43,ntmps43
 go_wp2
 refine wp_region_still_tail 14 (by kernel_rfl) (by kernel_rfl) ?_
 simp only [List.take_succ_cons,List.take_zero,List.drop_succ_cons,List.drop_zero]
 still_step
 still_step
 still_step
 still_step
 still_step
 still_step
 still_step
 still_step
 still_step
 still_step
 still_step
 still_step
 still_step
 still_step
 refine wpStill_nil ?_
 have e2:=d9.out w.drew (Below.refl _ _).drew
 clear d9
 go_wp2_with (go_at_call 65;refine e2.mono ?_;rintro e J ⟨⟨sp,sc,rfl,e3⟩,a8⟩;have c7:=(a7.out J a8).1.2.2.2.2)
 have e4:Hid (fE J sp (H3 n k a.text)):=e3
 have e5:Hid (Below w.heap.size w J):=a8
 clear e3 a8 e2 c5 c6 l0
 go_loopw [8,9] (fun v x wr=>∃ i:Nat,i<=a.c.L.length/\x=.int .i64 i/\(∃ G,G.map Prod.fst=(List.range i).map (a.msg kind true)/\J1 59 J.heap.size wr v G)/\Below J.heap.size J wr) (fun _ x _=>a.c.L.length - (intOf x).toNat)
 case atStart=>exact ⟨0,Nat.zero_le _,rfl,⟨[],rfl,Zc.nil _ _ _,fun x hx=>by cases hx⟩,Below.refl _ _⟩
 case round =>
  obtain ⟨i,hi,rfl,⟨G,a9,hO⟩,hB⟩:=hrel
  obtain ⟨y,rfl⟩:∃ y,y=wr:=⟨_,rfl⟩
  obtain ⟨pv,cv,rfl,e6,o5,l3,_⟩:=hO.1.form
  have e7:G.length=i:=by have:=congrArg List.length a9;simpa using this
  have o6:G.length<=12:=by omega
  have e8:Hid (G.map Prod.fst=(List.range i).map (a.msg kind true)):=a9
  have HO:Hid (J1 59 J.heap.size y (.slice pv G.length cv) G):=hO
  have HB:Hid (Below J.heap.size J y):=hB
  have b0:Hid (Below w.heap.size w y):=e5.out.trans (hB.mono e5.out.size)
  have l7:Hid (Ql mE y pv G):=e6
  have l8:Hid (G.length=i):=e7
  obtain ⟨⟨d0,d1,d3,d4,d7⟩,⟨e9,f3,f4⟩,l9⟩:=a7.out y b0.out
  have o7:w.heap.size<=y.heap.size:=b0.out.size
  clear hO e6 l3 c7 a9 e7
  by_cases a4:i < a.c.L.length
  ·rcases l9 with h0 | ⟨b,o,m0,o9,f5⟩
   ·rw [h0] at a4;exact absurd a4 (Nat.not_lt_zero _)
   have q1:=f5 i a4
   have f6:i < n:=by rw [<- l1.out];exact a4
   rcases (e4.out.below hB) with h0 | ⟨sb,so,m4,f7,f8⟩
   ·have:(H3 n k a.text).length=0:=by rw [h0];rfl
    rw [JaH] at this
    omega
   obtain ⟨s0,s1⟩:=f8 i (by rw [JaH];exact f6)
   rw [Jeu f6] at s0 s1
   dsimp only at s0 s1
   have HT:Hid ((List.range (i+1)).map (a.msg kind true)=(List.range i).map (a.msg kind true) ++ [a.msg kind true i]):=Ja6 _ i
   have m5:Hid (a.msg kind true i=⟨a.name,Yc a.c.L i,kind,a.key,a.op,a.config,false,[⟨a.tag.1,a.tag.2,(a.text.size:Int),(i:Int),JW k a.text i⟩]⟩):=d8.out i
   have b1:ab < y.heap.size:=by omega
   subst m0 m4
   have p0:Hid (a.text.size<=3000):=k1
   clear f5 hB f8 e4 a7 d8 l7 d2 d6
   generalize Yc a.c.L i=t at *
   generalize JW k a.text i=O at *
   generalize a.name=nm at *
   generalize a.key=K at *
   generalize a.op=M at *
   generalize a.config=N at *
   generalize a.tag.1=Q at *
   generalize a.tag.2=U at *
   generalize a.text=tx at *
   go_wp2
   go_cut [10] from 27 to 83 (fun v W=>v=.pointer (some ⟨y.heap.size,0,none⟩)/\W=(y.alloc (.cells #[.string nm,.string t,.string kind,.string K,.int .i64 M,.int .i64 N,.bool false,.slice none 0 0] 59)).drew)
   case first =>
    go_region
    all_goals (go_wp2_with fail;go_meet)
    all_goals exact ⟨rfl,rfl⟩
   case rest =>
    obtain ⟨rfl,a5⟩:=hcut
    obtain ⟨D,rfl⟩:∃ D,D=wc:=⟨_,rfl⟩
    have a1:D=(y.alloc (.cells #[.string nm,.string t,.string kind,.string K,.int .i64 M,.int .i64 N,.bool false,.slice none 0 0] 59)).drew:=a5
    clear a5
    have a0:Below y.heap.size y D:=by rw [a1];exact ((Below.refl _ _).alloc (Nat.le_refl _) _).drew
    have f9:∀ j u,(#[Value.string nm,.string t,.string kind,.string K,.int .i64 M,.int .i64 N,.bool false,.slice none 0 0])[j]?=some u->D.cell? ⟨y.heap.size,j,none⟩=some u:=fun j u hj=>by
     rw [a1]
     show (y.alloc _).cell? ⟨y.heap.size,j,none⟩=some u
     rw [World.cell?_alloc_at _ _ _ _ rfl]
     exact hj
    have g8:D.heap[y.heap.size]?=some (.cells #[.string nm,.string t,.string kind,.string K,.int .i64 M,.int .i64 N,.bool false,.slice none 0 0] 59 (0,0)):=by
     rw [a1]
     show (y.heap.push _)[y.heap.size]?=_
     simp
    have g9:∀ j,D.frozen? ⟨y.heap.size,j,none⟩=false:=fun j=>by
     rw [a1]
     show (y.alloc _).frozen? ⟨y.heap.size,j,none⟩=false
     exact World.frozen?_alloc_at _ _ _ _ rfl
    have h3:D.heap.size=y.heap.size+1:=by rw [a1];show (y.alloc _).heap.size=_;simp
    have m7:=f9 7 _ rfl
    have h4:=g9 7
    have m6:D.cell? ⟨ab,16,none⟩=some (.int .i64 Q):=(a0.cell (p:=⟨ab,16,none⟩) b1).trans e9
    have m8:D.cell? ⟨ab,17,none⟩=some (.int .i64 U):=(a0.cell (p:=⟨ab,17,none⟩) b1).trans f3
    have m9:D.cell? ⟨ab,18,none⟩=some (.string tx):=(a0.cell (p:=⟨ab,18,none⟩) b1).trans f4
    have z0:D.cell? ⟨sb,so+i*2,none⟩=some (.int .i64 (i:Int)):=(a0.cell (p:=⟨sb,so+i*2,none⟩) f7).trans s0
    have z1:D.cell? ⟨sb,so+i*2+1,none⟩=some (.string O):=(a0.cell (p:=⟨sb,so+i*2+1,none⟩) f7).trans s1
    obtain ⟨w5,h5⟩:∃ w5,w5=((D.setCell ⟨y.heap.size,7,none⟩ (.slice (some ⟨D.heap.size,0,none⟩) 1 1)).alloc (.cells #[.int .i64 Q,.int .i64 U,.int .i64 (tx.size:Int),.int .i64 (i:Int),.string O] 76)).drew:=⟨_,rfl⟩
    have h6:Hid (D.heap.size=y.heap.size+1):=h3
    have b2:Hid (Below y.heap.size y D):=a0
    have h7:Hid (D.heap[y.heap.size]?=some (.cells #[.string nm,.string t,.string kind,.string K,.int .i64 M,.int .i64 N,.bool false,.slice none 0 0] 59 (0,0))):=g8
    have a2:Hid (w5=((D.setCell ⟨y.heap.size,7,none⟩ (.slice (some ⟨D.heap.size,0,none⟩) 1 1)).alloc (.cells #[.int .i64 Q,.int .i64 U,.int .i64 (tx.size:Int),.int .i64 (i:Int),.string O] 76)).drew):=h5
    have h8:y.heap.size < D.heap.size:=by omega
    have n0:(D.alloc (.cells #[.int .i64 Q,.int .i64 U,.int .i64 (tx.size:Int),.int .i64 (i:Int),.string O] 76)).cell? ⟨y.heap.size,7,none⟩=some (.slice none 0 0):=(Below.cell ((Below.refl D.heap.size D).alloc (Nat.le_refl _) _) (p:=⟨y.heap.size,7,none⟩) h8).trans m7
    have n1:(D.alloc (.cells #[.int .i64 Q,.int .i64 U,.int .i64 (tx.size:Int),.int .i64 (i:Int),.string O] 76)).frozen? ⟨y.heap.size,7,none⟩=false:=(Below.frozen ((Below.refl D.heap.size D).alloc (Nat.le_refl _) _) (p:=⟨y.heap.size,7,none⟩) h8).trans h4
    clear a1 h5 a0 f9 g9 g8 h3 d0 d1 d3 d4 d7 e9 f3 f4 s0 s1 q1
    go_wp2
    go_cut [] from 27 to 83 (fun W=>W=w5)
    case first =>
     go_region
     all_goals (go_wp2_with fail;go_meet)
     all_goals (rw [a2.out])
    case rest =>
     have a5:=hcut
     obtain ⟨I,rfl⟩:∃ I,I=wc:=⟨_,rfl⟩
     subst a5
     have h9:I.heap.size=D.heap.size+1:=by rw [a2.out];show ((D.setCell _ _).alloc _).heap.size=_;simp [World.setCell]
     have b3:Below y.heap.size y I:=by
      rw [a2.out]
      exact ((b2.out.setCell (Nat.le_refl _) _).alloc (by have:=b2.out.size;simpa [World.setCell] using this) _).drew
     have i0:I.heap[y.heap.size]?=some (.cells #[.string nm,.string t,.string kind,.string K,.int .i64 M,.int .i64 N,.bool false,.slice (some ⟨D.heap.size,0,none⟩) 1 1] 59 (0,0)):=by
      rw [a2.out]
      show ((D.setCell _ _).alloc _).heap[y.heap.size]?=_
      rw [Below.heap_alloc _ _ _ (by simp [World.setCell];have:=h6.out;omega)]
      exact (V0 h7.out 7 _).trans rfl
     have i2:∀ j u,(Ze.enc ⟨Q,U,(tx.size:Int),(i:Int),O⟩)[j]?=some u->I.cell? ⟨D.heap.size,j,none⟩=some u:=fun j u hj=>by
      rw [a2.out]
      show ((D.setCell _ _).alloc _).cell? ⟨D.heap.size,j,none⟩=some u
      rw [World.cell?_alloc_at _ _ _ _ (by simp [World.setCell])]
      simpa [Ze,JL] using hj
     have i3:Jn I (⟨nm,t,kind,K,M,N,false,[⟨Q,U,(tx.size:Int),(i:Int),O⟩]⟩,(some ⟨D.heap.size,0,none⟩,1,1)):=⟨rfl,Or.inr ⟨D.heap.size,0,rfl,by omega,fun j x hx jj u hu=>by
      match j,hx with
      | 0,hx =>
       obtain rfl:(⟨Q,U,(tx.size:Int),(i:Int),O⟩:Yb)=x:=by simpa using hx
       simpa using i2 jj u hu⟩,Nat.le_refl _,fun e=>by cases e⟩
     have Y:∀ j u,(#[.string nm,.string t,.string kind,.string K,.int .i64 M,.int .i64 N,.bool false,.slice (some ⟨D.heap.size,0,none⟩) 1 1]:Array Value)[j]?=some u->I.cell? ⟨y.heap.size,j,none⟩=some u:=fun j u hj=>by simpa [World.cell?,i0] using hj
     have g0:=Y 0 _ rfl
     have g1:=Y 1 _ rfl
     have g2:=Y 2 _ rfl
     have g3:=Y 3 _ rfl
     have g4:=Y 4 _ rfl
     have g5:=Y 5 _ rfl
     have g6:=Y 6 _ rfl
     have g7:=Y 7 _ rfl
     obtain ⟨X,a3⟩:∃ X,X=I.alloc (.cells #[.string nm,.string t,.string kind,.string K,.int .i64 M,.int .i64 N,.bool false,.slice (some ⟨D.heap.size,0,none⟩) 1 1] 59):=⟨_,rfl⟩
     have b4:Below I.heap.size I X:=by rw [a3];exact (Below.refl _ _).alloc (Nat.le_refl _) _
     have a6:Below y.heap.size y X:=b3.trans (b4.mono b3.size)
     have i4:Hid (X=I.alloc (.cells #[.string nm,.string t,.string kind,.string K,.int .i64 M,.int .i64 N,.bool false,.slice (some ⟨D.heap.size,0,none⟩) 1 1] 59)):=a3
     have i5:Hid (X.ownsRow J.heap.size 59 8 (.slice pv G.length cv) G.length (Qb mE G)):=(HO.out.kept a6).1
     have i7:Hid (∀ j u,(mE.enc (⟨nm,t,kind,K,M,N,false,[⟨Q,U,(tx.size:Int),(i:Int),O⟩]⟩,(some ⟨D.heap.size,0,none⟩,1,1)))[j]?=some u->X.cell? ((⟨I.heap.size,0,none⟩:Addr).add j)=some u):=fun j u hj=>by
      have e:X.cell? ⟨I.heap.size,j,none⟩=some u:=by
       rw [a3,World.cell?_alloc_at _ _ _ _ rfl]
       simpa [mE,Jw] using hj
      by_cases e0:j=0
      ·subst e0;simpa [Addr.add] using e
      ·simpa [Addr.add,e0] using e
     have i8:Hid (Jn X (⟨nm,t,kind,K,M,N,false,[⟨Q,U,(tx.size:Int),(i:Int),O⟩]⟩,(some ⟨D.heap.size,0,none⟩,1,1))):=i3.below b4
     have b5:Hid (Below y.heap.size y X):=a6
     have n2:Hid (I.heap.size=D.heap.size+1):=h9
     have i9:Hid (J.heap.size<=X.heap.size/\X.heap.size=I.heap.size+1):=⟨Nat.le_trans HB.out.size a6.size,by rw [a3];simp⟩
     clear h9 b3 i0 i2 i3 Y a3 b4 a6 a2 b2 h7 m7 h4 n0 n1 m6 m8 m9 z0 z1
     go_wp2_with (first | rw [<- i4.out] | (at_builtin;refine EW rfl (.tmp 80) (.tmp 82) 27 rfl J.heap.size 59 i1 (.agg #[.string ⟨#[]⟩,.string ⟨#[]⟩,.string ⟨#[]⟩,.string ⟨#[]⟩,.int .i64 0,.int .i64 0,.bool false,.slice none 0 0]) 8 112 underlying27 k2 k3 k4 k5 rfl (by decide) (.slice pv G.length cv) G.length (Qb mE G) rfl i5.out ⟨I.heap.size,0,none⟩ 1 1 (mE.enc (⟨nm,t,kind,K,M,N,false,[⟨Q,U,(tx.size:Int),(i:Int),O⟩]⟩,(some ⟨D.heap.size,0,none⟩,1,1))) rfl rfl i7.out (mE.one _) (by unfold maxLen;omega) (by omega) i9.out.1 (by decide) ?_;intro v7 w7 j0 b6 j1))
     have j2:Zc mE 59 w7 J.heap.size v7 (G ++ [(⟨nm,t,kind,K,M,N,false,[⟨Q,U,(tx.size:Int),(i:Int),O⟩]⟩,(some ⟨D.heap.size,0,none⟩,1,1))]):=by
      unfold Zc
      rw [Qj,qK,List.length_append]
      exact j0
     have n3:Hid (J1 59 J.heap.size w7 v7 (G ++ [(⟨nm,t,kind,K,M,N,false,[⟨Q,U,(tx.size:Int),(i:Int),O⟩]⟩,(some ⟨D.heap.size,0,none⟩,1,1))])):=HO.out.snoc HB.out.size b5.out i8.out (fun b' o' e=>by
      have e1:=congrArg Addr.block (Option.some.inj e)
      have:=i9.out.2;have:=n2.out;have:=h6.out
      exact ⟨by simp at e1;omega,by simp at e1;omega⟩) j2 b6 j1
     have n4:Hid (Below J.heap.size J w7):=(HB.out.trans (b5.out.mono HB.out.size)).grown b6 (by have:=HB.out.size;have:=b5.out.size;omega) (fun k' n6=>(HO.out.1.block n6).1)
     have n7:Hid ((G ++ [((⟨nm,t,kind,K,M,N,false,[⟨Q,U,(tx.size:Int),(i:Int),O⟩]⟩:Zb),((some ⟨D.heap.size,0,none⟩,1,1):Lv))]).map Prod.fst=(List.range (i+1)).map (a.msg kind true)):=by
      show _=_
      rw [List.map_append,e8.out,HT.out,m5.out]
      rfl
     clear j0 j2 b6 j1 i5 i7 i8 i4 g0 g1 g2 g3 g4 g5 g6 g7
     go_wp2
     go_roundw
     case rel=>exact ⟨i+1,by omega,by go_num,⟨_,n7.out,n3.out⟩,n4.out⟩
     case measure=>simp [intOf];omega
  ·have j3:i=a.c.L.length:=by omega
   obtain ⟨p6,c6,j5,j6⟩:=HO.out.at_
   have n8:Hid (mN y p6 (G.map Prod.fst)):=j6.at_
   have n9:Hid (Value.slice pv G.length cv=.slice p6 G.length c6):=j5
   clear j5 j6
   go_wp2
   go_ret
   refine ⟨⟨p6,c6,?_,?_⟩,b0.out⟩
   ·rw [n9.out,l8.out,j3]
    rfl
   ·have:=n8.out
    rw [e8.out,j3,<- l2.out] at this
    exact this
end
section
variable {w w':World} {B:Nat} {S:Nat->Prop} {ab:Nat} {a:Za} {mv nv fv lv:Value} {vs:List Value}
theorem Jdl (h:Qa w B S ab a mv nv fv lv vs) (x:Zb×Lv) (hl:a.c.L.length<=1000) (Q0:a.from_.length<=900) (j2:a.aM x.1=true) (M6:x.1.shut=false) (B0:a.st=.sealing) (B2:a.put=false) (B3:a.aI=true) (B5:(a.next.L.length:Int)=a.next.n/\1<=a.next.k/\a.next.k<=a.next.n/\a.next.n<=12) (B8:0<=a.config/\a.config < 9223372036854775807) (B9:a.from_.length=a.L.length) (C0:(a.c.L.length:Int)=a.c.n) (C1:a.text.size<=1000) (C2:(a.heard x.1).L.flatten.length<=1000) (C4:(Xq (a.heard x.1).from_ (a.heard x.1).L a.c.L).flatten.length<=1000) (C5:Jh a.c<=a.from_.length+1) (p2:1<=a.c.k/\a.c.k<=a.c.n/\a.c.n<=12) (L0:a.L.length<=900) (Q1:x.1.L.length<=1000) (M8:x.2.2.1=x.1.L.length) (C9:x.2.1=none->x.1.L=[]/\x.2.2.2=0) (D1:∀ W:World,w.heap.size<=W.heap.size->(∀ k,k < w.heap.size->¬ S k->W.heap[k]?=w.heap[k]?)->Ql Ze W x.2.1 x.1.L):Calls prog 20 #[.pointer (some ⟨ab,0,none⟩),.agg #[.string x.1.from_,.string x.1.aP,.string x.1.kind,.string x.1.key,.int .i64 x.1.op,.int .i64 x.1.config,.bool x.1.shut,.slice x.2.1 x.2.2.1 x.2.2.2]] w fun e w'=>(∃ p c,e=.returned (.slice p (fU (a.heard x.1)).2.length c)/\mN w' p (fU (a.heard x.1)).2)/\∃ S' D5 D7 D8 D9,Qa w' B S' ab (fU (a.heard x.1)).1 D5 nv D7 D8 D9/\Yd S S' w w':=by
 have p5:Hid ((a.heard x.1).put=false):=B2
 have j3:Hid ((a.heard x.1).aI=true):=B3
 have E0:Hid (((a.heard x.1).next.L.length:Int)=(a.heard x.1).next.n/\1<=(a.heard x.1).next.k/\(a.heard x.1).next.k<=(a.heard x.1).next.n/\(a.heard x.1).next.n<=12):=B5
 have E4:Hid (0<=(a.heard x.1).config/\(a.heard x.1).config < 9223372036854775807):=B8
 have E5:Hid ((a.heard x.1).next=a.next):=by show _=_;rfl
 have F1:Hid ((a.heard x.1).st=.sealing):=B0
 have p7:Hid ((a.heard x.1).L.flatten.length<=1000):=C2
 have g9:Hid ((a.heard x.1).from_.length=(a.heard x.1).L.length/\(a.heard x.1).from_.length<=1000/\(a.heard x.1).L.length<=1000):=⟨by show (a.from_ ++ [x.1.from_]).length=(a.L ++ [x.1.L]).length;simp [B9],by show (a.from_ ++ [x.1.from_]).length<=1000;simp;omega,by show (a.L ++ [x.1.L]).length<=1000;simp;omega⟩
 have p9:Hid ((a.heard x.1).text.size<=1000):=C1
 have h4:Hid (¬ (a.heard x.1).from_.length < Jh (a.heard x.1).c):=by show ¬ (a.from_ ++ [x.1.from_]).length < Jh a.c;simp;omega
 have j5:Hid (((a.heard x.1).c.L.length:Int)=(a.heard x.1).c.n/\1<=(a.heard x.1).c.k/\(a.heard x.1).c.k<=(a.heard x.1).c.n/\(a.heard x.1).c.n<=12):=⟨C0,p2⟩
 have q0:Hid ((a.heard x.1).L.length=a.L.length+1/\(a.heard x.1).c=a.c):=⟨by show (a.L ++ [x.1.L]).length=_;simp,rfl⟩
 have j6:Hid ((Xq (a.heard x.1).from_ (a.heard x.1).L (a.heard x.1).c.L).flatten.length<=1000):=C4
 clear B2 B3 B5 B8 B9 C0 C1 C2 C4
 obtain ⟨i0,F2,F5,F6,F7⟩:=info_parts (P:=prog) (e:=9) (z:=.string ⟨#[]⟩) (size:=1) (bytes:=16) (by kernel_rfl)
 obtain ⟨j0,F8,F9,G0,G1⟩:=info_parts VU
 obtain ⟨mp,G,G2,q4,M9,G3,G8⟩:=h.mem.at_
 obtain ⟨Q,U,G9,_⟩:=h.rD.at_
 obtain ⟨fp,fc,H0,q5,N3,H1,_⟩:=h.from_.form
 have H4:Hid (Qa w B S ab a mv nv fv lv vs):=h
 subst G2 H0 G9
 obtain ⟨⟨m1,m2,m3,m4,m5,m6,m7,K⟩,lp,ln,lc⟩:=x
 dsimp only at *
 subst M6
 subst M8
 obtain ⟨J,a2⟩:∃ J,J=w.alloc (.cells #[.string m1,.string m2,.string m3,.string m4,.int .i64 m5,.int .i64 m6,.bool false,.slice lp K.length lc] 59):=⟨_,rfl⟩
 have d9:Below w.heap.size w J:=by rw [a2];exact (Below.refl _ _).alloc (Nat.le_refl _) _
 have a4:=h.below d9
 have q6:=U1 a4
 have c0:J.cell? ⟨ab,0,none⟩=some (.string a.name):=a4.cell 0
 have c1:J.cell? ⟨ab,1,none⟩=some (.string a.key):=a4.cell 1
 have c3:J.cell? ⟨ab,3,none⟩=some (.int .i64 a.op):=a4.cell 3
 have c4:J.cell? ⟨ab,4,none⟩=some (.int .i64 a.config):=a4.cell 4
 have c7:J.cell? ⟨ab,7,none⟩=some (.slice mp a.c.L.length G):=a4.cell 7
 have a7:J.cell? ⟨ab,14,none⟩=some (.slice fp a.from_.length fc):=a4.cell 14
 have d0:J.cell? ⟨w.heap.size,0,none⟩=some (.string m1):=by rw [a2,World.cell?_alloc_at _ _ _ _ rfl];rfl
 have d1:J.cell? ⟨w.heap.size,1,none⟩=some (.string m2):=by rw [a2,World.cell?_alloc_at _ _ _ _ rfl];rfl
 have d2:J.cell? ⟨w.heap.size,2,none⟩=some (.string m3):=by rw [a2,World.cell?_alloc_at _ _ _ _ rfl];rfl
 have d3:J.cell? ⟨w.heap.size,3,none⟩=some (.string m4):=by rw [a2,World.cell?_alloc_at _ _ _ _ rfl];rfl
 have d4:J.cell? ⟨w.heap.size,4,none⟩=some (.int .i64 m5):=by rw [a2,World.cell?_alloc_at _ _ _ _ rfl];rfl
 have d5:J.cell? ⟨w.heap.size,5,none⟩=some (.int .i64 m6):=by rw [a2,World.cell?_alloc_at _ _ _ _ rfl];rfl
 have q7:Hid (∀ W,Below J.heap.size J W->Strs W mp a.c.L):=fun W X=>(q4.below d9).below X
 have r0:Hid (∀ W,Below J.heap.size J W->Strs W fp a.from_):=fun W X=>(q5.below d9).below X
 have H5:Hid (J=w.alloc (.cells #[.string m1,.string m2,.string m3,.string m4,.int .i64 m5,.int .i64 m6,.bool false,.slice lp K.length lc] 59)):=a2
 have r1:Hid (Below w.heap.size w J):=d9
 have d6:J.cell? ⟨w.heap.size,6,none⟩=some (.bool false):=by rw [a2,World.cell?_alloc_at _ _ _ _ rfl];rfl
 have d7:J.cell? ⟨w.heap.size,7,none⟩=some (.slice lp K.length lc):=by rw [a2,World.cell?_alloc_at _ _ _ _ rfl];rfl
 have N6:J.heap.size=w.heap.size+1:=by rw [a2];simp
 have H6:Hid (Qa J B S ab a (.slice mp a.c.L.length G) (.slice Q a.next.L.length U) (.slice fp a.from_.length fc) lv vs):=a4
 have r2:Hid (∀ W:World,w.heap.size<=W.heap.size->(∀ k,k < w.heap.size->¬ S k->W.heap[k]?=w.heap[k]?)->Ql Ze W lp K):=D1
 have H7:Hid (lp=none->K=[]/\lc=0):=C9
 have j8:Hid (Jh a.c<=a.from_.length+1):=C5
 have N7:Hid (a.st.word=⟨#[115,101,97,108,105,110,103]⟩):=by show _=_;rw [B0];rfl
 have r3:Hid (1<=a.c.k/\a.c.k<=a.c.n/\a.c.n<=12):=p2
 obtain ⟨g0,g1,g2,g3,g4,g5,g6,g7⟩:a.st.waits≠⟨#[]⟩/\m3=a.st.waits/\m2=a.name/\m4=a.key/\m5=a.op/\m6=a.config/\m1 ∈ a.c.L/\m1 ∉ a.from_:=by
  unfold Za.aM at j2
  rw [Bool.and_eq_true,Bool.and_eq_true] at j2
  obtain ⟨q1,q2,q3⟩:=j2
  have b6:=of_decide_eq_true q1
  exact ⟨b6.1,b6.2.1,b6.2.2.1,b6.2.2.2.1,b6.2.2.2.2.1,b6.2.2.2.2.2,Zl.1 q2,fun hm=>by rw [Zl.2 hm] at q3;cases q3⟩
 have r4:Hid (∀ W,Below J.heap.size J W->Calls prog 46 #[.slice mp a.c.L.length G,.string m1] W fun e w'=>e=.returned (.int .i64 ((ZJ a.c.L m1:Nat):Int))/\w'=W):=fun W X=>ML mp a.c.L G m1 W (by omega) (q7.out W X) g6
 have r5:Hid (∀ W,Below J.heap.size J W->Calls prog 46 #[.slice fp a.from_.length fc,.string m1] W fun e w'=>e=.returned (.int .i64 (-1))/\w'=W):=fun W X=>O5 fp a.from_ fc m1 W (by omega) (r0.out W X) g7
 clear h q4 G8 q5 H1 G3 d9 a2 a4 j2 q7 r0 D1 C9 C5 p2 g6 g7
 generalize ZJ a.c.L m1=j1 at *
 have n1:decide ((j1:Int) < 0)=false:=decide_eq_false (by omega)
 have t0:=XT g0
 have u0:=YT g0
 have v0:=Y8 g0
 have e0:(⟨#[]⟩:ByteArray).toList=[]:=by decide +kernel
 rw [e0] at t0 u0
 subst g1 g2 g3 g4 g5
 generalize a.st.waits=wt at *
 clear g0
 go_enter func20,ntmps20
 go_wp2_with (first | rw [<- H5.out] | fail)
 refine q6.mono ?_
 rintro e w2 ⟨rfl,r6⟩
 rw [r6]
 clear r6 w2 q6
 go_wp2
 go_quiet (fail)
 generalize a8:World.drewN J _=wq
 have H9:wq.cell? ⟨ab,7,none⟩=some (.slice mp a.c.L.length G):=by rw [<- a8];exact c7
 have r7:wq.cell? ⟨ab,14,none⟩=some (.slice fp a.from_.length fc):=by rw [<- a8];exact a7
 have s1:wq.cell? ⟨w.heap.size,0,none⟩=some (.string m1):=by rw [<- a8];exact d0
 have s2:wq.cell? ⟨w.heap.size,6,none⟩=some (.bool false):=by rw [<- a8];exact d6
 have s3:wq.cell? ⟨w.heap.size,7,none⟩=some (.slice lp K.length lc):=by rw [<- a8];exact d7
 have h5:Below J.heap.size J wq:=by rw [<- a8];exact below_drewN (Below.refl _ _) _
 clear a8 c0 c1 c3 c4 c7 a7 d0 d1 d2 d3 d4 d5 d6 d7
 go_wp2
 go_quiet (first | (go_at_call 46;with_reducible exact Calls.quiet_of_same (r4.out _ (below_drewN h5 _))) | (go_at_call 46;with_reducible exact Calls.quiet_of_same (r5.out _ (below_drewN h5 _))))
 generalize b7:World.drewN wq _=wr
 have I0:wr.cell? ⟨ab,14,none⟩=some (.slice fp a.from_.length fc):=by rw [<- b7];exact r7
 have s4:wr.cell? ⟨w.heap.size,0,none⟩=some (.string m1):=by rw [<- b7];exact s1
 have I2:wr.cell? ⟨w.heap.size,6,none⟩=some (.bool false):=by rw [<- b7];exact s2
 have s5:wr.cell? ⟨w.heap.size,7,none⟩=some (.slice lp K.length lc):=by rw [<- b7];exact s3
 have s6:Below J.heap.size J wr:=by rw [<- b7];exact below_drewN h5 _
 have k5:Hid (Below J.heap.size J wr):=s6
 clear b7 H9 r7 s1 s2 s3 h5 s6 r4 r5 n1 t0 u0 v0 e0
 go_wp2
 have a9:Below wr.heap.size wr (wr.alloc (.cells #[.string m1] 9)):=(Below.refl _ _).alloc (Nat.le_refl _) _
 have s7:=k5.out.size
 have h6:Hid (Below J.heap.size J ((wr.alloc (.cells #[.string m1] 9)).drew)):=(k5.out.trans (a9.mono s7)).drew
 have a5:Hid (Qa ((wr.alloc (.cells #[.string m1] 9)).drew) B S ab a (.slice mp a.c.L.length G) (.slice Q a.next.L.length U) (.slice fp a.from_.length fc) lv vs):=H6.out.below h6.out
 have I3:(wr.alloc (.cells #[.string m1] 9)).cell? ⟨ab,14,none⟩=some (.slice fp a.from_.length fc):=a5.out.cell 14
 have I4:(wr.alloc (.cells #[.string m1] 9)).cell? ⟨w.heap.size,0,none⟩=some (.string m1):=(a9.cell (p:=⟨w.heap.size,0,none⟩) (by show w.heap.size < wr.heap.size;omega)).trans s4
 have s8:(wr.alloc (.cells #[.string m1] 9)).cell? ⟨w.heap.size,7,none⟩=some (.slice lp K.length lc):=(a9.cell (p:=⟨w.heap.size,7,none⟩) (by show w.heap.size < wr.heap.size;omega)).trans s5
 have e4:Hid ((wr.alloc (.cells #[.string m1] 9)).cell? ⟨wr.heap.size,0,none⟩=some (.string m1)):=by show _=_;rw [World.cell?_alloc_at _ _ _ _ rfl];rfl
 have s9:Hid (((wr.alloc (.cells #[.string m1] 9)).drew).cell? ⟨w.heap.size,7,none⟩=some (.slice lp K.length lc)):=s8
 clear a9 s8 s5 I2
 have t3:Hid (∀ v w3,JM w3 B 9 v (a.from_.map Value.string ++ [.string m1])->((wr.alloc (.cells #[.string m1] 9)).drew).grownBy w3 (Value.slice fp a.from_.length fc).ownBlock->(v.ownBlock=(Value.slice fp a.from_.length fc).ownBlock∨v.ownBlock=some ((wr.alloc (.cells #[.string m1] 9)).drew).heap.size)->∃ I c3,v=.slice I (a.from_.length+1) c3/\Qa (w3.setCell ⟨ab,14,none⟩ (.slice I (a.from_.length+1) c3)) B (fun k=>S k∨(Value.slice I (a.from_.length+1) c3).ownBlock=some k) ab { a with from_:=a.from_ ++ [m1] } (.slice mp a.c.L.length G) (.slice Q a.next.L.length U) (.slice I (a.from_.length+1) c3) lv vs/\Yd S (fun k=>S k∨(Value.slice I (a.from_.length+1) c3).ownBlock=some k) w (w3.setCell ⟨ab,14,none⟩ (.slice I (a.from_.length+1) c3))/\w3.frozen? ⟨ab,14,none⟩=false/\w3.cell? ⟨ab,14,none⟩=some (.slice fp a.from_.length fc)/\(w3.setCell ⟨ab,14,none⟩ (.slice I (a.from_.length+1) c3)).cell? ⟨w.heap.size,7,none⟩=some (.slice lp K.length lc)):=fun v w3 h7 e5 h8=>by
  have t4:Zq w3 B v (a.from_ ++ [m1]):=by unfold Zq;rw [List.map_append];exact h7
  obtain ⟨I,c3,t5,_⟩:=t4.form
  rw [List.length_append,List.length_singleton] at t5
  subst t5
  have HF:=a5.out.from t4 e5 h8
  have t6:=(e5.block ab (a5.out.aO ab a5.out.self).2 (fun e=>(a5.out.sF ab e.symm).2 rfl)).trans a5.out.eK
  have I5:Below w.heap.size w ((wr.alloc (.cells #[.string m1] 9)).drew):=r1.out.trans (h6.out.mono r1.out.size)
  have I6:¬ S w.heap.size:=fun hs=>by have:=(H4.out.aO _ hs).2;omega
  exact ⟨I,c3,rfl,HF.1,(Yd.aJ I5).trans HF.2,by simp [World.frozen?,t6],by simp [World.cell?,t6,Jy],(World.cell?_of_block (a:=⟨w.heap.size,7,none⟩) (HF.2.block w.heap.size (by have:=h6.out.size;omega) I6)).trans s9.out⟩
 clear s9
 go_cut [6] from 93 to 100 (fun v w3=>∃ I c3,v=.slice I (a.from_.length+1) c3/\Qa (w3.setCell ⟨ab,14,none⟩ (.slice I (a.from_.length+1) c3)) B (fun k=>S k∨(Value.slice I (a.from_.length+1) c3).ownBlock=some k) ab { a with from_:=a.from_ ++ [m1] } (.slice mp a.c.L.length G) (.slice Q a.next.L.length U) (.slice I (a.from_.length+1) c3) lv vs/\Yd S (fun k=>S k∨(Value.slice I (a.from_.length+1) c3).ownBlock=some k) w (w3.setCell ⟨ab,14,none⟩ (.slice I (a.from_.length+1) c3))/\w3.frozen? ⟨ab,14,none⟩=false/\w3.cell? ⟨ab,14,none⟩=some (.slice fp a.from_.length fc)/\(w3.setCell ⟨ab,14,none⟩ (.slice I (a.from_.length+1) c3)).cell? ⟨w.heap.size,7,none⟩=some (.slice lp K.length lc))
 case first =>
  go_region_law (refine X2 rfl (.tmp 96) (.tmp 99) 22 rfl B 9 i0 (.string ⟨#[]⟩) 16 underlying22 F2 F5 rfl F6 F7 (by decide) (.slice fp a.from_.length fc) (a.from_.map Value.string) (by simp [Act.eval]) a5.out.from_ ⟨wr.heap.size,0,none⟩ 1 (.string m1) rfl (by simp [Act.eval]) e4.out (by rw [List.length_map];omega) a5.out.vP ?_;intro v3 w3 h7 e5 h8;have I7:Hid _:=t3.out v3 w3 h7 e5 h8;clear h7 e5 h8)
  all_goals (go_wp2_with fail;go_meet)
  all_goals exact I7.out
 case rest =>
  obtain ⟨I,c3,rfl,k6,k7,e6,a7,t7⟩:=hcut
  clear t3 e4 I3 I4 I0 s4 h6 a5 k5 s7
  obtain ⟨Y,l0⟩:∃ Y,Y=wc.setCell ⟨ab,14,none⟩ (.slice I (a.from_.length+1) c3):=⟨_,rfl⟩
  rw [<- l0] at k6 k7 t7
  have t8:Hid (Y=wc.setCell ⟨ab,14,none⟩ (.slice I (a.from_.length+1) c3)):=l0
  have h9:Hid (Qa Y B (fun k=>S k∨(Value.slice I (a.from_.length+1) c3).ownBlock=some k) ab { a with from_:=a.from_ ++ [m1] } (.slice mp a.c.L.length G) (.slice Q a.next.L.length U) (.slice I (a.from_.length+1) c3) lv vs):=k6
  have i1:Hid (Yd S (fun k=>S k∨(Value.slice I (a.from_.length+1) c3).ownBlock=some k) w Y):=k7
  clear l0 k6 k7
  go_wp2
  rw [<- t8.out]
  have e7:Y.cell? ⟨ab,15,none⟩=some lv:=h9.out.cell 15
  have i2:Hid (Qa Y.drew B (fun k=>S k∨(Value.slice I (a.from_.length+1) c3).ownBlock=some k) ab { a with from_:=a.from_ ++ [m1] } (.slice mp a.c.L.length G) (.slice Q a.next.L.length U) (.slice I (a.from_.length+1) c3) lv vs):=h9.out.below (Below.refl _ _).drew
  have t9:Hid (Ql Ze Y.drew lp K):=r2.out _ i1.out.size (fun k hk hs=>i1.out.block k hk hs)
  have u1:Hid (∀ v6 w6,Zc Ze 76 w6 Y.heap.size v6 ([] ++ K)->Below Y.heap.size Y.drew w6->∃ p6 c6,v6=.slice p6 K.length c6/\w6.cell? ⟨ab,15,none⟩=some lv/\(w6.alloc (.cells #[.slice p6 K.length c6] 55)).cell? ⟨ab,15,none⟩=some lv/\JM (w6.alloc (.cells #[.slice p6 K.length c6] 55)) B 55 lv vs/\B<=(w6.alloc (.cells #[.slice p6 K.length c6] 55)).heap.size/\(∀ v w8,JM w8 B 55 v (vs ++ [.slice p6 K.length c6])->(w6.alloc (.cells #[.slice p6 K.length c6] 55)).grownBy w8 lv.ownBlock->(v.ownBlock=lv.ownBlock∨v.ownBlock=some (w6.alloc (.cells #[.slice p6 K.length c6] 55)).heap.size)->∃ p8 c8 S2 b0,v=.slice p8 (a.L.length+1) c8/\Qa (w8.setCell ⟨ab,15,none⟩ (.slice p8 (a.L.length+1) c8)) B S2 ab (a.heard ⟨m1,a.name,wt,a.key,a.op,a.config,false,K⟩) (.slice mp a.c.L.length G) (.slice Q a.next.L.length U) (.slice I (a.from_.length+1) c3) (.slice p8 (a.L.length+1) c8) b0/\Yd S S2 w (w8.setCell ⟨ab,15,none⟩ (.slice p8 (a.L.length+1) c8))/\w8.frozen? ⟨ab,15,none⟩=false/\w8.cell? ⟨ab,15,none⟩=some lv)):=fun v6 w6 d8 i3=>by
   rw [List.nil_append] at d8
   obtain ⟨p6,c6,rfl,_⟩:=d8.form
   have u2:Below Y.drew.heap.size Y.drew w6:=i3
   have u3:=i2.out.below u2
   have b1:=u3.below ((Below.refl _ _).alloc (Nat.le_refl _) (.cells #[.slice p6 K.length c6] 55))
   refine ⟨p6,c6,rfl,u3.cell 15,b1.cell 15,b1.told.1,b1.vP,fun v w8 hv hg i4=>?_⟩
   have HF:=i2.out.list (r:=.slice p6 K.length c6) (row:=K) d8 u2 hv hg i4
   have I8:=b1.aO ab b1.self
   have u6:=(hg.block ab I8.2 (fun e=>(b1.sL ab e.symm).2.1 rfl)).trans b1.eK
   have I9:vs.length=a.L.length:=i2.out.told.2.1
   rcases hv.cells with ⟨_,h0⟩ | ⟨g,N8,u7,_⟩
   ·exact absurd h0 (by simp)
   rw [List.length_append,List.length_singleton,I9] at u7
   subst u7
   exact ⟨_,_,_,_,rfl,HF.1,((i1.out.trans (Yd.aJ (Below.refl _ _).drew)).trans HF.2),by simp [World.frozen?,u6],by simp [World.cell?,u6,Jy]⟩
  have J2:Hid (vs.length=a.L.length):=h9.out.told.2.1
  go_cut [8] from 105 to 114 (fun v w8=>∃ p8 c8 S2 b0,v=.slice p8 (a.L.length+1) c8/\Qa (w8.setCell ⟨ab,15,none⟩ (.slice p8 (a.L.length+1) c8)) B S2 ab (a.heard ⟨m1,a.name,wt,a.key,a.op,a.config,false,K⟩) (.slice mp a.c.L.length G) (.slice Q a.next.L.length U) (.slice I (a.from_.length+1) c3) (.slice p8 (a.L.length+1) c8) b0/\Yd S S2 w (w8.setCell ⟨ab,15,none⟩ (.slice p8 (a.L.length+1) c8))/\w8.frozen? ⟨ab,15,none⟩=false/\w8.cell? ⟨ab,15,none⟩=some lv)
  case first =>
   go_region_law (first | (refine Jak (E:=Ze) rfl (.tmp 109) (.tmp 111) 55 76 rfl (.agg #[.int .i64 0,.int .i64 0,.int .i64 0,.int .i64 0,.string ⟨#[]⟩]) 48 underlying55 qS rfl Y.heap.size (.slice none 0 0) [] (by simp [Act.eval]) (Zc.nil _ _ _) lp K lc (by simp [Act.eval]) t9.out H7.out (by unfold maxLen;simp;omega) (by simp;omega) (Nat.le_refl _) ?_;intro v6 w6 d8 i3;obtain ⟨p6,c6,J3,N9,O8,u8,u9,v4⟩:=u1.out v6 w6 d8 i3;subst J3;have v5:Hid (JM (w6.alloc (.cells #[.slice p6 K.length c6] 55)) B 55 lv vs):=u8;have v7:Hid (B<=(w6.alloc (.cells #[.slice p6 K.length c6] 55)).heap.size):=u9;have v9:Hid _:=v4;clear d8 i3 u8 u9 v4) | (refine X2 rfl (.tmp 108) (.tmp 113) 44 rfl B 55 j0 (.slice none 0 0) 24 underlying44 F8 F9 rfl G0 G1 (by decide) lv vs (by simp [Act.eval]) v5.out ⟨w6.heap.size,0,none⟩ 1 (.slice p6 K.length c6) rfl (by simp [Act.eval]) (by rw [World.cell?_alloc_at _ _ _ _ rfl];rfl) (by have:=J2.out;omega) v7.out ?_;intro v8 w8 w0 w7 i4;have J5:Hid _:=v9.out v8 w8 w0 w7 i4;clear w0 w7 i4 v9 v5 v7))
   all_goals (go_wp2_with fail;go_meet)
   all_goals exact J5.out
  case rest =>
   obtain ⟨p8,c8,S2,b0,rfl,l1,l2,e8,J8⟩:=hcut
   clear u1 t9 r2 i2 h9 i1 t8 e7 t7 e6 a7
   obtain ⟨Z,l3⟩:∃ Z,Z=wc.setCell ⟨ab,15,none⟩ (.slice p8 (a.L.length+1) c8):=⟨_,rfl⟩
   rw [<- l3] at l1 l2
   have x0:Hid (Z=wc.setCell ⟨ab,15,none⟩ (.slice p8 (a.L.length+1) c8)):=l3
   have l7:Hid (Qa Z B S2 ab (a.heard ⟨m1,a.name,wt,a.key,a.op,a.config,false,K⟩) (.slice mp a.c.L.length G) (.slice Q a.next.L.length U) (.slice I (a.from_.length+1) c3) (.slice p8 (a.L.length+1) c8) b0):=l1
   have x1:Hid (Yd S S2 w Z):=l2
   have l8:Hid (∀ W,Below Z.heap.size Z W->(W.cell? ⟨ab,14,none⟩=some (.slice I (a.from_.length+1) c3)/\W.cell? ⟨ab,5,none⟩=some (.int .i64 a.c.n)/\W.cell? ⟨ab,6,none⟩=some (.int .i64 a.c.k)/\W.cell? ⟨ab,7,none⟩=some (.slice mp a.c.L.length G)/\Below Z.heap.size Z W)):=fun W X=>by
    have O:=l7.out.below X
    exact ⟨O.cell 14,O.cell 5,O.cell 6,O.cell 7,X⟩
   have x2:Hid (∀ W,(W.cell? ⟨ab,14,none⟩=some (.slice I (a.from_.length+1) c3)/\W.cell? ⟨ab,5,none⟩=some (.int .i64 a.c.n)/\W.cell? ⟨ab,6,none⟩=some (.int .i64 a.c.k)/\W.cell? ⟨ab,7,none⟩=some (.slice mp a.c.L.length G)/\Below Z.heap.size Z W)->Calls prog 47 #[.agg #[.int .i64 a.c.n,.int .i64 a.c.k,(.slice mp a.c.L.length G)]] W fun e w'=>e=.returned (.int .i64 ((Jh a.c:Nat):Int))/\(w'.cell? ⟨ab,14,none⟩=some (.slice I (a.from_.length+1) c3)/\w'.cell? ⟨ab,5,none⟩=some (.int .i64 a.c.n)/\w'.cell? ⟨ab,6,none⟩=some (.int .i64 a.c.k)/\w'.cell? ⟨ab,7,none⟩=some (.slice mp a.c.L.length G)/\Below Z.heap.size Z w')):=fun W X=>(Jau a.c (.slice mp a.c.L.length G) ⟨_,_,_,rfl⟩ W r3.out).mono fun e w' hp=>⟨hp.1,l8.out w' (X.2.2.2.2.trans (hp.2.mono X.2.2.2.2.size))⟩
   have J9:decide (((a.from_.length+1:Nat):Int) < ((Jh a.c:Nat):Int))=false:=decide_eq_false (by have:=j8.out;omega)
   have K3:Hid (¬ ((a.from_.length+1:Nat):Int) < ((Jh a.c:Nat):Int)):=by show ¬ _ < _;have:=j8.out;omega
   generalize Jh a.c=en at *
   clear l3 l1 l2 r3 j8
   go_wp2
   rw [<- x0.out]
   go_cut [129] from 119 to 129 (fun v W=>v=.bool false/\Below Z.heap.size Z W)
   case first =>
    go_region_held3 (fun W=>(W.cell? ⟨ab,14,none⟩=some (.slice I (a.from_.length+1) c3)/\W.cell? ⟨ab,5,none⟩=some (.int .i64 a.c.n)/\W.cell? ⟨ab,6,none⟩=some (.int .i64 a.c.k)/\W.cell? ⟨ab,7,none⟩=some (.slice mp a.c.L.length G)/\Below Z.heap.size Z W)) (first | assumption | exact l8.out _ (Below.refl _ _).drew) (first | (go_at_call 47;refine (x2.out _ (by assumption)).mono ?_;rintro e P1 ⟨rfl,K5⟩))
    all_goals (go_wp2_with fail;go_meet)
    all_goals exact ⟨by first | rfl | (rw [J9]) | simpa using K3.out,(by first | assumption | exact hSs.2.2.2.2 | exact K5.2.2.2.2)⟩
   case rest =>
    obtain ⟨rfl,x4⟩:=hcut
    have l9:Hid (Below Z.heap.size Z wc):=x4
    clear x4 x2 l8 x0 e8 J8
    have y:=l7.out.below l9.out
    have K7:Hid (a.heard ⟨m1,a.name,wt,a.key,a.op,a.config,false,K⟩=a.heard ⟨m1,a.name,wt,a.key,a.op,a.config,false,K⟩):=by show _=_;rfl
    generalize x5:a.heard ⟨m1,a.name,wt,a.key,a.op,a.config,false,K⟩=j at *
    have e9:Hid (Qa wc B S2 ab j (.slice mp a.c.L.length G) (.slice Q a.next.L.length U) (.slice I (a.from_.length+1) c3) (.slice p8 (a.L.length+1) c8) b0):=y
    have K8:Hid (Yd S S2 w wc):=x1.out.trans (Yd.aJ l9.out)
    obtain ⟨lq,b2,m0,x7⟩:=y.told.wO
    have K9:lq=p8/\b2=c8:=by injection m0 with e1 e2 e3;exact ⟨e1.symm,e3.symm⟩
    obtain ⟨rfl,rfl⟩:=K9
    have y2:wc.cell? ⟨ab,13,none⟩=some (.string ⟨#[115,101,97,108,105,110,103]⟩):=by rw [y.cell 13];show some (Value.string j.st.word)=_;rw [F1.out];rfl
    have x8:wc.cell? ⟨ab,11,none⟩=some (.bool false):=by rw [y.cell 11];show some (Value.bool j.put)=_;rw [p5.out]
    have m8:wc.cell? ⟨ab,12,none⟩=some (.bool true):=by rw [y.cell 12];show some (Value.bool j.aI)=_;rw [j3.out]
    have c2:wc.cell? ⟨ab,2,none⟩=some (.int .i64 j.dT):=y.cell 2
    have a7:wc.cell? ⟨ab,14,none⟩=some (.slice I (a.from_.length+1) c3):=y.cell 14
    have e7:wc.cell? ⟨ab,15,none⟩=some (.slice lq j.L.length b2):=by rw [y.cell 15,<- m0];rfl
    have m9:wc.cell? ⟨ab,16,none⟩=some (.int .i64 j.tag.1):=y.cell 16
    have n0:wc.cell? ⟨ab,17,none⟩=some (.int .i64 j.tag.2):=y.cell 17
    have n2:wc.cell? ⟨ab,18,none⟩=some (.string j.text):=y.cell 18
    have n3:wc.cell? ⟨ab,19,none⟩=some (.bool j.found):=y.cell 19
    have n4:wc.frozen? ⟨ab,13,none⟩=false:=y.free 13
    have e6:wc.frozen? ⟨ab,14,none⟩=false:=y.free 14
    have e8:wc.frozen? ⟨ab,15,none⟩=false:=y.free 15
    have n6:wc.frozen? ⟨ab,16,none⟩=false:=y.free 16
    have n7:wc.frozen? ⟨ab,17,none⟩=false:=y.free 17
    have n8:wc.frozen? ⟨ab,18,none⟩=false:=y.free 18
    have n9:wc.frozen? ⟨ab,19,none⟩=false:=y.free 19
    have P2:Hid (eU wc lq j.L):=x7
    have y3:Hid (a.heard ⟨m1,a.name,wt,a.key,a.op,a.config,false,K⟩=j):=x5
    obtain ⟨D,rfl⟩:∃ D,D=wc:=⟨_,rfl⟩
    obtain ⟨T,hT⟩:∃ T,T=Ys j.c.n.toNat j.c.k.toNat (Xq j.from_ j.L j.c.L).flatten (Xq j.from_ j.L j.c.L).flatten:=⟨_,rfl⟩
    obtain ⟨k1,k2,k3,k4⟩:=j5.out
    have y4:T.2.1.size<=1000:=by rw [hT];exact y9 (by omega) _ _ (by decide)
    have y5:j.bR={ j with tag:=T.1,text:=T.2.1,found:=T.2.2 }:=by unfold Za.bR;rw [p5.out,if_neg (by decide),hT]
    obtain ⟨LL,f3⟩:∃ LL,LL=Xq j.from_ j.L j.c.L:=⟨_,rfl⟩
    have L0:LL.length<=12:=by rw [f3];have:=Ja2 j.from_ j.L j.c.L;omega
    have L3:LL.flatten.length<=1000:=by rw [f3];exact j6.out
    obtain ⟨M,N,tx,fd,i5⟩:∃ M N tx fd,T=((M,N),tx,fd):=⟨T.1.1,T.1.2,T.2.1,T.2.2,rfl⟩
    have HS:Hid (∀ W:World,Below D.heap.size D W->(W.cell? ⟨ab,5,none⟩=some (.int .i64 j.c.n)/\W.cell? ⟨ab,6,none⟩=some (.int .i64 j.c.k)/\W.cell? ⟨ab,7,none⟩=some (.slice mp a.c.L.length G)/\Below D.heap.size D W)):=fun W X=>by
     have O:=e9.out.below X
     exact ⟨O.cell 5,O.cell 6,O.cell 7,X⟩
    have y6:=HS.out D.drew (Below.refl _ _).drew
    have y7:=HS.out (D.alloc (.cells #[.int .i64 0,.int .i64 0] 46)).drew (((Below.refl _ _).alloc (Nat.le_refl _) _).drew)
    have o2:∀ W,Below D.heap.size D W->Calls prog 49 #[.pointer (some ⟨ab,0,none⟩)] W fun e w'=>(∃ p c,e=.returned (.slice p LL.length c)/\eU w' p LL)/\Below W.heap.size W w':=fun W X=>by rw [f3];exact Jck (e9.out.below X) (by omega) (by have:=g9.out;omega) g9.out.1
    have i7:∀ W,Below D.heap.size D W->∀ p c,eU W p LL->Calls prog 48 #[.agg #[.int .i64 j.c.n,.int .i64 j.c.k,(.slice mp a.c.L.length G)],.slice p LL.length c] W fun e w'=>e=.returned (.tuple #[.agg #[.int .i64 M,.int .i64 N],.string tx,.bool fd])/\Below W.heap.size W w':=fun W X p c hv=>by
     have hb:=Jcj j.c.n.toNat j.c.k.toNat mp a.c.L.length G p LL c W (by omega) (by omega) (by omega) (by omega) L3 hv
     have e1:((j.c.n.toNat:Nat):Int)=j.c.n:=by omega
     have e2:((j.c.k.toNat:Nat):Int)=j.c.k:=by omega
     rw [e1,e2] at hb
     have e3:Ys j.c.n.toNat j.c.k.toNat LL.flatten LL.flatten=((M,N),tx,fd):=by rw [f3,<- hT];exact i5
     rw [e3] at hb
     exact hb
    have y8:Hid (Calls prog 49 #[.pointer (some ⟨ab,0,none⟩)] D.drew fun e w'=>∃ p c,e=.returned (.slice p LL.length c)/\Hid (eU w' p LL)/\(w'.cell? ⟨ab,5,none⟩=some (.int .i64 j.c.n)/\w'.cell? ⟨ab,6,none⟩=some (.int .i64 j.c.k)/\w'.cell? ⟨ab,7,none⟩=some (.slice mp a.c.L.length G)/\Below D.heap.size D w')):=(o2 _ (Below.refl _ _).drew).mono fun e w' O=>by
     obtain ⟨⟨p,c,h1,h2⟩,h3⟩:=O
     exact ⟨p,c,h1,h2,HS.out w' ((Below.refl _ D).drew.trans h3)⟩
    have o3:D.heap.size < (D.alloc (.cells #[.int .i64 0,.int .i64 0] 46)).drew.heap.size:=by show D.heap.size < (D.alloc _).heap.size;simp
    have z0:(D.alloc (.cells #[.int .i64 0,.int .i64 0] 46)).drew.heap[D.heap.size]?=some (.cells #[.int .i64 0,.int .i64 0] 46 (0,0)):=by
     show (D.heap.push _)[D.heap.size]?=_
     simp
    have z1:Hid (Calls prog 49 #[.pointer (some ⟨ab,0,none⟩)] (D.alloc (.cells #[.int .i64 0,.int .i64 0] 46)).drew fun e w'=>∃ p c,e=.returned (.slice p LL.length c)/\Hid (eU w' p LL/\w'.heap[D.heap.size]?=some (.cells #[.int .i64 0,.int .i64 0] 46 (0,0)))/\(w'.cell? ⟨ab,5,none⟩=some (.int .i64 j.c.n)/\w'.cell? ⟨ab,6,none⟩=some (.int .i64 j.c.k)/\w'.cell? ⟨ab,7,none⟩=some (.slice mp a.c.L.length G)/\Below D.heap.size D w')):=(o2 _ (((Below.refl _ _).alloc (Nat.le_refl _) _).drew)).mono fun e w' O=>by
     obtain ⟨⟨p,c,h1,h2⟩,h3⟩:=O
     exact ⟨p,c,h1,⟨h2,(h3.block _ o3).trans z0⟩,HS.out w' ((((Below.refl _ D).alloc (Nat.le_refl _) _).drew).trans (h3.mono (Nat.le_of_lt o3)))⟩
    have e4:Hid (∀ W p c,Hid (eU W p LL)->(W.cell? ⟨ab,5,none⟩=some (.int .i64 j.c.n)/\W.cell? ⟨ab,6,none⟩=some (.int .i64 j.c.k)/\W.cell? ⟨ab,7,none⟩=some (.slice mp a.c.L.length G)/\Below D.heap.size D W)->Calls prog 48 #[.agg #[.int .i64 j.c.n,.int .i64 j.c.k,(.slice mp a.c.L.length G)],.slice p LL.length c] W fun e w'=>e=.returned (.tuple #[.agg #[.int .i64 M,.int .i64 N],.string tx,.bool fd])/\(w'.cell? ⟨ab,5,none⟩=some (.int .i64 j.c.n)/\w'.cell? ⟨ab,6,none⟩=some (.int .i64 j.c.k)/\w'.cell? ⟨ab,7,none⟩=some (.slice mp a.c.L.length G)/\Below D.heap.size D w')):=fun W p c hV hS=>(i7 W hS.2.2.2 p c hV.out).mono fun e w' O=>⟨O.1,HS.out w' (hS.2.2.2.trans (O.2.mono hS.2.2.2.size))⟩
    have z2:Hid (∀ W p c,Hid (eU W p LL)->(W.cell? ⟨ab,5,none⟩=some (.int .i64 j.c.n)/\W.cell? ⟨ab,6,none⟩=some (.int .i64 j.c.k)/\W.cell? ⟨ab,7,none⟩=some (.slice mp a.c.L.length G)/\Below D.heap.size D W)->Calls prog 48 #[.agg #[.int .i64 j.c.n,.int .i64 j.c.k,(.slice mp a.c.L.length G)],.slice p LL.length c] (W.alloc (.cells #[.int .i64 0,.int .i64 0] 46)) fun e w'=>e=.returned (.tuple #[.agg #[.int .i64 M,.int .i64 N],.string tx,.bool fd])/\(w'.cell? ⟨ab,5,none⟩=some (.int .i64 j.c.n)/\w'.cell? ⟨ab,6,none⟩=some (.int .i64 j.c.k)/\w'.cell? ⟨ab,7,none⟩=some (.slice mp a.c.L.length G)/\Below D.heap.size D w')/\(w'.cell? ⟨W.heap.size,0,none⟩=some (.int .i64 0)/\w'.cell? ⟨W.heap.size,1,none⟩=some (.int .i64 0)/\w'.frozen? ⟨W.heap.size,0,none⟩=false/\w'.frozen? ⟨W.heap.size,1,none⟩=false)/\Hid (D.heap.size<=W.heap.size)):=fun W p c hV hS=>by
     have a9:Below W.heap.size W (W.alloc (.cells #[.int .i64 0,.int .i64 0] 46)):=(Below.refl _ _).alloc (Nat.le_refl _) _
     have o4:=hS.2.2.2.trans (a9.mono hS.2.2.2.size)
     refine (i7 _ o4 p c (hV.out.below a9)).mono fun e w' O=>?_
     have a6:w'.heap[W.heap.size]?=some (.cells #[.int .i64 0,.int .i64 0] 46 (0,0)):=(O.2.block _ (by simp)).trans (by show (W.heap.push _)[W.heap.size]?=_;simp)
     exact ⟨O.1,HS.out w' (o4.trans (O.2.mono o4.size)),⟨(Ja a6 0).1,(Ja a6 1).1,(Ja a6 0).2,(Ja a6 1).2⟩,hS.2.2.2.size⟩
    have z3:Hid (∀ W p c,Hid (eU W p LL/\W.heap[D.heap.size]?=some (.cells #[.int .i64 0,.int .i64 0] 46 (0,0)))->(W.cell? ⟨ab,5,none⟩=some (.int .i64 j.c.n)/\W.cell? ⟨ab,6,none⟩=some (.int .i64 j.c.k)/\W.cell? ⟨ab,7,none⟩=some (.slice mp a.c.L.length G)/\Below D.heap.size D W)->Calls prog 48 #[.agg #[.int .i64 j.c.n,.int .i64 j.c.k,(.slice mp a.c.L.length G)],.slice p LL.length c] W fun e w'=>e=.returned (.tuple #[.agg #[.int .i64 M,.int .i64 N],.string tx,.bool fd])/\(w'.cell? ⟨ab,5,none⟩=some (.int .i64 j.c.n)/\w'.cell? ⟨ab,6,none⟩=some (.int .i64 j.c.k)/\w'.cell? ⟨ab,7,none⟩=some (.slice mp a.c.L.length G)/\Below D.heap.size D w')/\(w'.cell? ⟨D.heap.size,0,none⟩=some (.int .i64 0)/\w'.cell? ⟨D.heap.size,1,none⟩=some (.int .i64 0)/\w'.frozen? ⟨D.heap.size,0,none⟩=false/\w'.frozen? ⟨D.heap.size,1,none⟩=false)):=fun W p c hV hS=>by
     refine (i7 W hS.2.2.2 p c hV.out.1).mono fun e w' O=>?_
     have L5:D.heap.size < W.heap.size:=by
      rcases Nat.lt_or_ge D.heap.size W.heap.size with h' | h'
      ·exact h'
      ·have:=hV.out.2;rw [Array.getElem?_eq_none h'] at this;cases this
     have a6:=(O.2.block _ L5).trans hV.out.2
     exact ⟨O.1,HS.out w' (hS.2.2.2.trans (O.2.mono hS.2.2.2.size)),(Ja a6 0).1,(Ja a6 1).1,(Ja a6 0).2,(Ja a6 1).2⟩
    have z4:Hid (T=((M,N),tx,fd)):=i5
    have z5:Hid (j.bR={ j with tag:=T.1,text:=T.2.1,found:=T.2.2 }):=y5
    have L6:Hid (tx.size<=1000):=by have:=y4;rw [i5] at this;exact this
    clear y x5 m0 x7 K7 l7 x1 l9 o2 o3 z0 i7 hT f3 y4 y5 i5 k1 k2 k3 k4 a7 e7 m9 n0 n2 n3 c2 n4 e6 e8 n6 n7 n8 n9 m8
    go_wp2
    go_cut [13,14,15] from 196 to 206 (fun v1 v2 v3 W=>∃ tb,v1=.pointer (some ⟨tb,0,none⟩)/\v2=.string tx/\v3=.bool fd/\(W.cell? ⟨tb,0,none⟩=some (.int .i64 M)/\W.cell? ⟨tb,1,none⟩=some (.int .i64 N))/\Below D.heap.size D W/\D.heap.size<=tb)
    case first =>
     go_region_held3 (fun W=>(W.cell? ⟨ab,5,none⟩=some (.int .i64 j.c.n)/\W.cell? ⟨ab,6,none⟩=some (.int .i64 j.c.k)/\W.cell? ⟨ab,7,none⟩=some (.slice mp a.c.L.length G)/\Below D.heap.size D W)) (first | with_reducible assumption | with_reducible exact y6 | with_reducible exact y7 | (with_reducible exact HS.out _ (o5.2.2.2.alloc o5.2.2.2.size _)) | (with_reducible exact HS.out _ (a3.2.2.2.alloc a3.2.2.2.size _)) | exact HS.out _ ((a3.2.2.2.setCell (by first | exact Nat.le_refl _ | exact f8.out) _).setCell (by first | exact Nat.le_refl _ | exact f8.out) _)) (first | (go_at_call 49;with_reducible refine y8.out.mono ?_;rintro e Y ⟨p4,c4,rfl,L8,o5⟩) | (go_at_call 49;with_reducible refine z1.out.mono ?_;rintro e Y ⟨p4,c4,rfl,L8,o5⟩) | (go_at_call 48;with_reducible refine (z3.out Y p4 c4 (by with_reducible assumption) (by with_reducible assumption)).mono ?_;rintro e w5 ⟨rfl,a3,k0,k1,y0,y1⟩) | (go_at_call 48;with_reducible refine (e4.out Y p4 c4 (by with_reducible assumption) (by with_reducible assumption)).mono ?_;rintro e w5 ⟨rfl,a3⟩) | (go_at_call 48;with_reducible refine (z2.out Y p4 c4 (by with_reducible assumption) (by with_reducible assumption)).mono ?_;rintro e w5 ⟨rfl,a3,⟨k0,k1,y0,y1⟩,f8⟩))
     all_goals (go_wp2_with fail;go_meet)
     all_goals first
      | exact ⟨_,rfl,rfl,rfl,⟨by rw [World.cell?_alloc_at _ _ _ _ rfl];rfl,by rw [World.cell?_alloc_at _ _ _ _ rfl];rfl⟩,a3.2.2.2.alloc a3.2.2.2.size _,a3.2.2.2.size⟩
      | exact ⟨_,rfl,rfl,rfl,Jbu k0 k1,(a3.2.2.2.setCell (Nat.le_refl _) _).setCell (Nat.le_refl _) _,Nat.le_refl _⟩
      | exact ⟨_,rfl,rfl,rfl,Jbu k0 k1,(a3.2.2.2.setCell f8.out _).setCell f8.out _,f8.out⟩
    case rest =>
     obtain ⟨tb,rfl,rfl,rfl,⟨o0,o1⟩,i8,z6⟩:=hcut
     have y:=e9.out.below i8
     have i9:=K8.out.trans (Yd.aJ i8)
     have m8:wc.cell? ⟨ab,12,none⟩=some (.bool true):=by rw [y.cell 12];show some (Value.bool j.aI)=_;rw [j3.out]
     have y2:wc.cell? ⟨ab,13,none⟩=some (.string j.st.word):=y.cell 13
     have a7:wc.cell? ⟨ab,14,none⟩=some (.slice I (a.from_.length+1) c3):=y.cell 14
     have e7:wc.cell? ⟨ab,15,none⟩=some (.slice lq (a.L.length+1) b2):=y.cell 15
     have m9:wc.cell? ⟨ab,16,none⟩=some (.int .i64 j.tag.1):=y.cell 16
     have n0:wc.cell? ⟨ab,17,none⟩=some (.int .i64 j.tag.2):=y.cell 17
     have n2:wc.cell? ⟨ab,18,none⟩=some (.string j.text):=y.cell 18
     have n3:wc.cell? ⟨ab,19,none⟩=some (.bool j.found):=y.cell 19
     have n4:wc.frozen? ⟨ab,13,none⟩=false:=y.free 13
     have e6:wc.frozen? ⟨ab,14,none⟩=false:=y.free 14
     have e8:wc.frozen? ⟨ab,15,none⟩=false:=y.free 15
     have n6:wc.frozen? ⟨ab,16,none⟩=false:=y.free 16
     have n7:wc.frozen? ⟨ab,17,none⟩=false:=y.free 17
     have n8:wc.frozen? ⟨ab,18,none⟩=false:=y.free 18
     have n9:wc.frozen? ⟨ab,19,none⟩=false:=y.free 19
     have L9:tb≠ab:=by have:=(e9.out.aO ab e9.out.self).2;omega
     have P4:ab≠tb:=fun e=>L9 e.symm
     clear y8 z1 e4 z2 z3 y6 y7 x8
     cases fd with
     | false =>
      have b3:j.bR={ j with tag:=(M,N),text:=tx,found:=false }:=by rw [z5.out,z4.out]
      have f9:fU j=({ j with tag:=(M,N),text:=tx,found:=false,st:=.done },[]):=by
       unfold fU
       rw [if_neg h4.out,if_pos (by rw [b3]),b3]
      have o6:Hid (fU j=({ j with tag:=(M,N),text:=tx,found:=false,st:=.done },[])):=f9
      obtain ⟨a0,b4⟩:∃ a0,a0=((((wc.setCell ⟨ab,16,none⟩ (.int .i64 M)).setCell ⟨ab,17,none⟩ (.int .i64 N)).setCell ⟨ab,18,none⟩ (.string tx)).setCell ⟨ab,19,none⟩ (.bool false)).setCell ⟨ab,13,none⟩ (.string ⟨#[100,111,110,101]⟩):=⟨_,rfl⟩
      have g8:=JbA (a:=j) (mv:=(.slice mp a.c.L.length G)) (nv:=(.slice Q a.next.L.length U)) (fv:=(.slice I (a.from_.length+1) c3)) (lv:=(.slice lq (a.L.length+1) b2)) (a':={ j with tag:=(M,N),text:=tx,found:=false,st:=.done }) rfl rfl rfl rfl rfl rfl rfl rfl rfl
      have b5:x6 ab (Jy { j with tag:=(M,N),text:=tx,found:=false,st:=.done } (.slice mp a.c.L.length G) (.slice Q a.next.L.length U) (.slice I (a.from_.length+1) c3) (.slice lq (a.L.length+1) b2)) wc a0:=by rw [b4];exact g8 ▸ ((((((x6.refl y.eK).set 16 (.int .i64 M)).set 17 (.int .i64 N)).set 18 (.string tx)).set 19 (.bool false)).set 13 (.string ⟨#[100,111,110,101]⟩))
      have o7:Hid (Qa a0 B S2 ab { j with tag:=(M,N),text:=tx,found:=false,st:=.done } (.slice mp a.c.L.length G) (.slice Q a.next.L.length U) (.slice I (a.from_.length+1) c3) (.slice lq (a.L.length+1) b2) b0):=y.written (a':={ j with tag:=(M,N),text:=tx,found:=false,st:=.done }) b5 rfl rfl rfl rfl
      have o9:Hid (Yd S S2 w a0):=i9.trans (b5.nJ y.self)
      have p0:Hid (a0=((((wc.setCell ⟨ab,16,none⟩ (.int .i64 M)).setCell ⟨ab,17,none⟩ (.int .i64 N)).setCell ⟨ab,18,none⟩ (.string tx)).setCell ⟨ab,19,none⟩ (.bool false)).setCell ⟨ab,13,none⟩ (.string ⟨#[100,111,110,101]⟩)):=b4
      clear b4 b5 g8 y i9 i8 f9 b3 p7 g9 p9 h4 j5 q0 j6 z6
      go_wp2_with (first | rw [<- p0.out] | fail)
      go_ret
      rw [y3.out,o6.out]
      exact ⟨⟨none,0,rfl,mN.nil _ _⟩,S2,_,_,_,_,o7.out,o9.out⟩
     | true =>
      have b3:j.bR={ j with tag:=(M,N),text:=tx,found:=true }:=by rw [z5.out,z4.out]
      have z7:j.bR.keeps=({ j with tag:=(M,N),text:=tx,found:=true,st:=.keeping,from_:=[],L:=[],c:=j.next,config:=j.config+1 }:Za):=by rw [b3];unfold Za.keeps;show (if j.aI=true then _ else _)=_;rw [j3.out];rfl
      have f9:fU j=({ j with tag:=(M,N),text:=tx,found:=true,st:=.keeping,from_:=[],L:=[],c:=j.next,config:=j.config+1 },Za.send ({ j with tag:=(M,N),text:=tx,found:=true,st:=.keeping,from_:=[],L:=[],c:=j.next,config:=j.config+1 }:Za) JJ true):=by
       unfold fU
       rw [if_neg h4.out,if_neg (by rw [b3];intro e;cases e),z7]
      have o6:Hid (fU j=({ j with tag:=(M,N),text:=tx,found:=true,st:=.keeping,from_:=[],L:=[],c:=j.next,config:=j.config+1 },Za.send ({ j with tag:=(M,N),text:=tx,found:=true,st:=.keeping,from_:=[],L:=[],c:=j.next,config:=j.config+1 }:Za) JJ true)):=f9
      have M2:j.next.L.length=a.next.L.length:=by rw [E5.out]
      obtain ⟨a0,b4⟩:∃ a0,a0=(((((((((((wc.setCell ⟨ab,16,none⟩ (.int .i64 M)).setCell ⟨ab,17,none⟩ (.int .i64 N)).setCell ⟨ab,18,none⟩ (.string tx)).setCell ⟨ab,19,none⟩ (.bool true)).setCell ⟨ab,13,none⟩ (.string ⟨#[107,101,101,112,105,110,103]⟩)).setCell ⟨ab,14,none⟩ (.slice none 0 0)).setCell ⟨ab,15,none⟩ (.slice none 0 0)).setCell ⟨ab,5,none⟩ (.int .i64 j.next.n)).setCell ⟨ab,6,none⟩ (.int .i64 j.next.k)).setCell ⟨ab,7,none⟩ (.slice Q a.next.L.length U)).setCell ⟨ab,4,none⟩ (.int .i64 (j.config+1))):=⟨_,rfl⟩
      have g8:=JbB (a:=j) (mv:=(.slice mp a.c.L.length G)) (nv:=(.slice Q a.next.L.length U)) (fv:=(.slice I (a.from_.length+1) c3)) (lv:=(.slice lq (a.L.length+1) b2)) (a':={ j with tag:=(M,N),text:=tx,found:=true,st:=.keeping,from_:=[],L:=[],c:=j.next,config:=j.config+1 }) rfl rfl rfl rfl rfl rfl rfl rfl
      have b5:x6 ab (Jy { j with tag:=(M,N),text:=tx,found:=true,st:=.keeping,from_:=[],L:=[],c:=j.next,config:=j.config+1 } (.slice Q a.next.L.length U) (.slice Q a.next.L.length U) (.slice none 0 0) (.slice none 0 0)) wc a0:=by rw [b4];exact g8 ▸ ((((((((((((x6.refl y.eK).set 16 (.int .i64 M)).set 17 (.int .i64 N)).set 18 (.string tx)).set 19 (.bool true)).set 13 (.string ⟨#[107,101,101,112,105,110,103]⟩)).set 14 (.slice none 0 0)).set 15 (.slice none 0 0)).set 5 (.int .i64 j.next.n)).set 6 (.int .i64 j.next.k)).set 7 (.slice Q a.next.L.length U)).set 4 (.int .i64 (j.config+1)))
      have p1:=y.rH (a':={ j with tag:=(M,N),text:=tx,found:=true,st:=.keeping,from_:=[],L:=[],c:=j.next,config:=j.config+1 }) b5 rfl rfl rfl rfl
      obtain ⟨k1,k2,k3,k4⟩:=E0.out
      have z9:=Jcp p1 ⟨#[107,101,101,112]⟩ j.next.n.toNat j.next.k.toNat (by show j.next.n=_;omega) (by show j.next.k=_;omega) (by omega) (by omega) (by omega) (by show j.next.L.length=_;omega) (by show tx.size<=3000;have:=L6.out;omega)
      have o7:Hid (Qa a0 B S2 ab { j with tag:=(M,N),text:=tx,found:=true,st:=.keeping,from_:=[],L:=[],c:=j.next,config:=j.config+1 } (.slice Q a.next.L.length U) (.slice Q a.next.L.length U) (.slice none 0 0) (.slice none 0 0) []):=p1
      have c4:wc.cell? ⟨ab,4,none⟩=some (.int .i64 j.config):=y.cell 4
      have c5:wc.cell? ⟨ab,5,none⟩=some (.int .i64 j.c.n):=y.cell 5
      have c6:wc.cell? ⟨ab,6,none⟩=some (.int .i64 j.c.k):=y.cell 6
      have c7:wc.cell? ⟨ab,7,none⟩=some (.slice mp a.c.L.length G):=y.cell 7
      have c8:wc.cell? ⟨ab,8,none⟩=some (.int .i64 j.next.n):=y.cell 8
      have c9:wc.cell? ⟨ab,9,none⟩=some (.int .i64 j.next.k):=y.cell 9
      have wH:wc.cell? ⟨ab,10,none⟩=some (.slice Q a.next.L.length U):=y.cell 10
      have f4:wc.frozen? ⟨ab,4,none⟩=false:=y.free 4
      have f5:wc.frozen? ⟨ab,5,none⟩=false:=y.free 5
      have f6:wc.frozen? ⟨ab,6,none⟩=false:=y.free 6
      have f7:wc.frozen? ⟨ab,7,none⟩=false:=y.free 7
      obtain ⟨P7,P9⟩:=E4.out
      have o9:Hid (Yd S S2 w a0):=i9.trans (b5.nJ y.self)
      have p0:Hid (a0=(((((((((((wc.setCell ⟨ab,16,none⟩ (.int .i64 M)).setCell ⟨ab,17,none⟩ (.int .i64 N)).setCell ⟨ab,18,none⟩ (.string tx)).setCell ⟨ab,19,none⟩ (.bool true)).setCell ⟨ab,13,none⟩ (.string ⟨#[107,101,101,112,105,110,103]⟩)).setCell ⟨ab,14,none⟩ (.slice none 0 0)).setCell ⟨ab,15,none⟩ (.slice none 0 0)).setCell ⟨ab,5,none⟩ (.int .i64 j.next.n)).setCell ⟨ab,6,none⟩ (.int .i64 j.next.k)).setCell ⟨ab,7,none⟩ (.slice Q a.next.L.length U)).setCell ⟨ab,4,none⟩ (.int .i64 (j.config+1)))):=b4
      clear b4 b5 g8 y p1 i9 i8 f9 b3 z7 p7 g9 p9 h4 j5 q0 j6 z6 k1 k2 k3 k4 M2
      go_wp2_with (first | rw [<- p0.out] | fail)
      refine z9.mono ?_
      rintro e A1 ⟨⟨A2,M3,rfl,A5⟩,A6⟩
      have M5:Hid (mN A1 A2 (Za.send ({ j with tag:=(M,N),text:=tx,found:=true,st:=.keeping,from_:=[],L:=[],c:=j.next,config:=j.config+1 }:Za) JJ true)):=A5
      have A9:Hid (Below a0.heap.size a0 A1):=A6
      clear A5 A6 z9 m8 y2 a7 e7 m9 n0 n2 n3 n4 e6 e8 n6 n7 n8 n9 c4 c5 c6 c7 c8 c9 wH f4 f5 f6 f7
      go_wp2
      go_ret
      rw [y3.out,o6.out]
      exact ⟨⟨A2,M3,rfl,M5.out⟩,S2,_,_,_,_,o7.out.below A9.out,o9.out.trans (Yd.aJ A9.out)⟩
end
end Go.Proofs.YtmikbldbfnlfjaaGreatDoor

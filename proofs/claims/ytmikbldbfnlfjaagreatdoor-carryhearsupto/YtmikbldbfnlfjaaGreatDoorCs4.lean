/- Texts laid together. -/
import Derived.Test.YtmikbldbfnlfjaaGreatDoorCs3
import Derived.Deep.RegionWith
import Derived.Deep.CutRange
set_option maxRecDepth 10000
set_option maxHeartbeats 8000000
namespace Go.Proofs.YtmikbldbfnlfjaaGreatDoor
open Go.Proofs.Tryz
open Go.RowKit
variable {w:World}{M:List (List Nat)}{i j n:Nat}{v:Nat->Nat->Lin.F}
theorem QJ.at {p:Option Addr} (h:QJ w p M) (K:i < M.length) (N:j < (Qh M i).length) :
 ∃ b o y D c,p=some ⟨b,o,none⟩/\w.cell? ⟨b,o+i,none⟩=some (.slice (some ⟨y,D,none⟩) (Qh M i).length c)/\w.cell? ⟨y,D+j,none⟩=some (.int .u8 ((Gf.nth (Qh M i) j:Nat):Int)):=by
 obtain ⟨b,o,y,D,c,G,_,_,I,J⟩:=h.row K (by omega)
 exact ⟨b,o,y,D,c,G,I,J j N⟩
theorem BJ (i j:Nat) (w:World):Calls prog 140 #[.int .i64 (i:Int),.int .i64 (j:Int)] w fun e w'=>e=.returned (.int .u8 ((if i=j then 1 else 0:Nat):Int))/\w'=w:=by
 by_cases e:i=j
 ·subst e
  rw [if_pos rfl]
  go_enter func140,ntmps140
  go_wp2
  go_ret
  exact ⟨rfl,rfl⟩
 ·have y:((i:Int)==(j:Int))=false:=by simp;omega
  rw [if_neg e]
  clear e
  go_enter func140,ntmps140
  go_wp2
  go_ret
  exact ⟨rfl,rfl⟩
theorem UM (ps I i j y N:Nat) (p:Option Addr) (M:List (List Nat)) (w:World) (O:i < M.length) (X:j < 2*y) (D:(Qh M i).length=y) (Y:y<=1000) (Z:w.cell? ⟨ps,0,none⟩=some (.int .i64 (y:Int))) (hp:w.cell? ⟨I,0,none⟩=some (.slice p M.length N)) (h:QJ w p M) :
 Calls prog 139 #[.int .i64 (i:Int),.int .i64 (j:Int),.pointer (some ⟨ps,0,none⟩),.pointer (some ⟨I,0,none⟩)] w fun e w'=>e=.returned (.int .u8 (((if j < y then Gf.nth (Qh M i) j else if i=j - y then 1 else 0:Nat)):Int))/\Below w.heap.size w w':=by
 by_cases G:j < y
 ·obtain ⟨b,o,Q,U,c,rfl,J,W⟩:=h.at O (by rw [D];exact G)
  rw [D] at J
  rw [if_pos G]
  clear D h
  go_enter func139,ntmps139
  go_wp2
  go_ret
  exact ⟨rfl,Below.refl _ _⟩
 ·rw [if_neg G]
  have K:((j:Int) - (y:Int))=((j - y:Nat):Int):=by omega
  clear D h
  go_enter func139,ntmps139
  go_wp2_with (go_at_call 140;first | (rw [K];refine (BJ i (j - y) _).mono ?_;rintro e w' ⟨rfl,rfl⟩) | (refine (BJ i (j - y) _).mono ?_;rintro e w' ⟨rfl,rfl⟩))
  all_goals (go_ret;exact ⟨rfl,Below.refl _ _⟩)
theorem JlF (D ps i j y G r n:Nat) (I:Nat->Nat) (x:Nat) (w:World) (J:i < r) (K:y+j < n) (M:n<=1000) (N:w.cell? ⟨D,0,none⟩=some (.slice (some ⟨G,0,none⟩) r r)) (O:w.cell? ⟨ps,0,none⟩=some (.int .i64 (y:Int))) (Q:w.cell? ⟨G,i,none⟩=some (.slice (some ⟨I i,0,none⟩) n n)) (U:w.cell? ⟨I i,y+j,none⟩=some (.int .u8 (x:Int))) :
 Calls prog 142 #[.int .i64 (i:Int),.int .i64 (j:Int),.pointer (some ⟨D,0,none⟩),.pointer (some ⟨ps,0,none⟩)] w fun e w'=>e=.returned (.int .u8 (x:Int))/\Below w.heap.size w w':=by
 go_enter func142,ntmps142
 go_wp2
 go_quiet (fail)
 go_wp2
 go_ret
 exact ⟨rfl,below_drewN (Below.refl _ _) _⟩
theorem WM (D G I J i j l Q U:Nat) (a b:Option Addr) (A B:List (List Nat)) (w:World) (W:i < A.length) (X:l < (Qh A i).length) (Y:l < B.length) (Z:j < (Qh B l).length) (hA:w.cell? ⟨D,0,none⟩=some (.slice a A.length Q)) (hB:w.cell? ⟨I,0,none⟩=some (.slice b B.length U)) (hI:w.cell? ⟨G,0,none⟩=some (.int .i64 (i:Int))) (hJ:w.cell? ⟨J,0,none⟩=some (.int .i64 (j:Int))) (K:QJ w a A) (M:QJ w b B) (bA:QR A) (bB:QR B) :
 Calls prog 174 #[.int .i64 (l:Int),.pointer (some ⟨D,0,none⟩),.pointer (some ⟨G,0,none⟩),.pointer (some ⟨I,0,none⟩),.pointer (some ⟨J,0,none⟩)] w fun e w'=>e=.returned (.int .u8 ((Gf.mul (Gf.nth (Qh A i) l) (Gf.nth (Qh B l) j):Nat):Int))/\Below w.heap.size w w':=by
 obtain ⟨a1,a2,a3,a4,a5,rfl,a6,a7⟩:=K.at W X
 obtain ⟨b1,b2,b3,b4,b5,rfl,b6,b7⟩:=M.at Y Z
 have N:=bA i l
 have O:=bB l j
 clear K M
 generalize Gf.nth (Qh A i) l=x at *
 generalize Gf.nth (Qh B l) j=y at *
 go_enter func174,ntmps174
 go_wp2
 go_quiet ((go_at_call 144;exact Calls.quiet_of_same (S5 x y _ N O)))
 go_wp2
 go_ret
 exact ⟨rfl,below_drewN (Below.refl _ _) _⟩
theorem JrC (n:Nat) (w:World) (G:n < 2 ^ 62):Calls prog 157 #[.int .i64 (n:Int)] w fun e w'=>e=.returned (.bool (decide (1<=n/\n<=16)))/\w'=w:=by
 by_cases y:1<=n
 ·by_cases D:n<=16
  ·have j:Hid (decide (1<=n/\n<=16)=true):=decide_eq_true ⟨y,D⟩
   go_enter func157,ntmps157
   go_wp2
   go_ret
   exact ⟨sB ((decide_eq_true (by omega)).trans j.out.symm),rfl⟩
  ·have j:Hid (decide (1<=n/\n<=16)=false):=decide_eq_false (fun h=>D h.2)
   go_enter func157,ntmps157
   go_wp2
   go_ret
   exact ⟨sB ((decide_eq_false (by omega)).trans j.out.symm),rfl⟩
 ·rw [decide_eq_false (fun h=>y h.1:¬ (1<=n/\n<=16))]
  go_enter func157,ntmps157
  go_wp2
  go_ret
  exact ⟨rfl,rfl⟩
theorem E9 (n:Nat) (w:World) (j:1<=n) (y:n<=16):Calls prog 157 #[.int .i64 (n:Int)] w fun e w'=>e=.returned (.bool true)/\w'=w:=by
 have:=JrC n w (by omega)
 rw [decide_eq_true (⟨j,y⟩:1<=n/\n<=16)] at this
 exact this
theorem wW (p:Option Addr) (M:List (List Nat)) (Z:Nat) (w:World) (y:jQ M) (h:QJ w p M) :
 Calls prog 137 #[.slice p M.length Z] w fun e w'=>e=.returned .nilIface/\w'=w:=by
 have N:Hid (jQ M):=y
 have D:1<=M.length:=y.1
 have O:M.length<=16:=y.2.1
 have Q:1<=(Qh M 0).length:=(y.2.2 0 (by omega)).1
 have U:(Qh M 0).length<=16:=(y.2.2 0 (by omega)).2.1
 clear y
 rcases h with h | ⟨b,o,rfl,hb,G⟩
 ·rw [h] at D;simp at D
 obtain ⟨W,c0,I,_⟩:=G 0 (by omega)
 have a0:w.cell? ⟨b,o,none⟩=some (.slice W (Qh M 0).length c0):=I
 have X:Hid (∀ i,i < M.length->∃ q c,w.cell? ⟨b,o+i,none⟩=some (.slice q (Qh M 0).length c)):=fun i J=>by
  obtain ⟨q,c,K,_⟩:=G i J
  rw [(N.out.2.2 i J).2.2] at K
  exact ⟨q,c,K⟩
 clear G I
 generalize (Qh M 0).length=n at *
 go_enter func137,ntmps137
 go_wp2_with (first | (go_at_call 157;with_reducible refine (E9 M.length _ D O).mono ?_;rintro e w' ⟨rfl,rfl⟩) | (go_at_call 157;refine (E9 n _ Q U).mono ?_;rintro e w' ⟨rfl,rfl⟩))
 go_loop [20] (fun j=>∃ k:Nat,k<=M.length/\j=.int .i64 k) (fun j=>M.length - (intOf j).toNat)
 case atStart=>exact ⟨0,by omega,rfl⟩
 case round =>
  obtain ⟨k,hk,rfl⟩:=hrel
  by_cases Y:k < M.length
  ·obtain ⟨q,c,hq⟩:=X.out k Y
   go_wp2
   go_round
   case rel=>exact ⟨k+1,by omega,by go_num⟩
   case measure=>simp [intOf];omega
  ·go_wp2
   go_ret
   exact ⟨rfl,rfl⟩
theorem FC (j:jQ M) (y:i < M.length):(Qh M i).length=(Qh M 0).length:=(j.2.2 i y).2.2
theorem R7 (G D i j W N:Nat) (a b:Option Addr) (A B:List (List Nat)) (w:World) (hA:jQ A) (hB:jQ B) (hk:(Qh A 0).length=B.length) (hi:i < A.length) (hj:j < (Qh B 0).length) (X:w.cell? ⟨G,0,none⟩=some (.slice a A.length W)) (Y:w.cell? ⟨D,0,none⟩=some (.slice b B.length N)) (mA:QJ w a A) (mB:QJ w b B) (O:QR A) (bB:QR B) :
 Calls prog 172 #[.int .i64 (i:Int),.int .i64 (j:Int),.pointer (some ⟨D,0,none⟩),.pointer (some ⟨G,0,none⟩)] w fun e w'=>e=.returned (.int .u8 ((jM A B i j B.length:Nat):Int))/\Below w.heap.size w w':=by
 have l2:B.length<=16:=hB.2.1
 have ha:=Qf X
 have hb:=Qf Y
 obtain ⟨y,I⟩:∃ y,y=(w.alloc (.cells #[.int .i64 (i:Int)] 3)).alloc (.cells #[.int .i64 (j:Int)] 3):=⟨_,rfl⟩
 have K:Below w.heap.size w y:=by rw [I];exact ((Below.refl _ _).alloc (Nat.le_refl _) _).alloc (by simp) _
 have a5:y.heap.size=w.heap.size+2:=by rw [I];simp
 have Z:y.cell? ⟨w.heap.size,0,none⟩=some (.int .i64 (i:Int)):=by rw [I,World.cell?_alloc_past _ _ _ (by simp),World.cell?_alloc_at _ _ _ _ rfl];rfl
 have a0:y.cell? ⟨w.heap.size+1,0,none⟩=some (.int .i64 (j:Int)):=by rw [I,World.cell?_alloc_at _ _ _ _ (by simp)];rfl
 have a1:y.cell? ⟨G,0,none⟩=some (.slice a A.length W):=(K.cell (p:=⟨G,0,none⟩) ha).trans X
 have Q:y.cell? ⟨D,0,none⟩=some (.slice b B.length N):=(K.cell (p:=⟨D,0,none⟩) hb).trans Y
 have a6:((w.alloc (.cells #[.int .i64 (i:Int)] 3)).alloc (.cells #[.int .i64 (j:Int)] 3)).cell? ⟨D,0,none⟩=some (.slice b B.length N):=by rw [<- I];exact Q
 have HC:Hid (∀ l,l < B.length->∀ J,Below y.heap.size y J->Calls prog 174 (#[.int .i64 (l:Int)] ++ #[.pointer (some ⟨G,0,none⟩),.pointer (some ⟨w.heap.size,0,none⟩),.pointer (some ⟨D,0,none⟩),.pointer (some ⟨w.heap.size+1,0,none⟩)]) J fun e w3=>e=.returned (.int .u8 ((Gf.mul (Gf.nth (Qh A i) l) (Gf.nth (Qh B l) j):Nat):Int))/\Below J.heap.size J w3):=by
  intro l U J M
  exact WM G w.heap.size D (w.heap.size+1) i j l W N a b A B J hi (by rw [FC hA hi,hk];exact U) U (by rw [FC hB U];exact hj) ((M.cell (p:=⟨G,0,none⟩) (by show G < _;omega)).trans a1) ((M.cell (p:=⟨D,0,none⟩) (by show D < _;omega)).trans Q) ((M.cell (p:=⟨w.heap.size,0,none⟩) (by show w.heap.size < _;omega)).trans Z) ((M.cell (p:=⟨w.heap.size+1,0,none⟩) (by show w.heap.size+1 < _;omega)).trans a0) ((mA.below K).below M) ((mB.below K).below M) O bB
 have HS:=JsH B.length (fun l=>Gf.mul (Gf.nth (Qh A i) l) (Gf.nth (Qh B l) j)) 174 #[.pointer (some ⟨G,0,none⟩),.pointer (some ⟨w.heap.size,0,none⟩),.pointer (some ⟨D,0,none⟩),.pointer (some ⟨w.heap.size+1,0,none⟩)] y (by omega) (fun l=>Gf.aV (O i l) _) (enters_of func174 (by kernel_rfl) rfl) (jM A B i j) rfl (fun _=>rfl) (o8 A B O i j) HC.out
 have a2:Hid (y=(w.alloc (.cells #[.int .i64 (i:Int)] 3)).alloc (.cells #[.int .i64 (j:Int)] 3)):=I
 have a3:Hid (Below w.heap.size w y):=K
 clear hA hB hk I K Z a0 a1 Q mA mB X Y O bB HC
 go_enter func172,ntmps172
 go_wp2_with (go_at_call 173;rw [<- a2.out];refine HS.mono ?_;rintro e J ⟨rfl,a4⟩)
 go_ret
 exact ⟨rfl,a3.out.trans (a4.mono (by omega))⟩
theorem RK (a b:Option Addr) (A B:List (List Nat)) (G I:Nat) (w:World) (Z:jQ A) (hB:jQ B) (hk:(Qh A 0).length=B.length) (bA:QR A) (bB:QR B) (mA:QJ w a A) (mB:QJ w b B) :
 Calls prog 156 #[.slice a A.length G,.slice b B.length I] w fun e w'=>(∃ M,e=.returned (.tuple #[.slice (some ⟨M,0,none⟩) A.length A.length,.nilIface])/\QJ w' (some ⟨M,0,none⟩) (xW A B A.length))/\Below w.heap.size w w':=by
 have d6:1<=A.length:=Z.1
 have d7:A.length<=16:=Z.2.1
 have d8:1<=B.length:=hB.1
 have d9:B.length<=16:=hB.2.1
 have e0:1<=(Qh B 0).length:=(hB.2.2 0 (by omega)).1
 have e1:(Qh B 0).length<=16:=(hB.2.2 0 (by omega)).2.1
 have HA:Hid (jQ A):=Z
 have a8:Hid (jQ B):=hB
 have BA:Hid (QR A):=bA
 have BB:Hid (QR B):=bB
 obtain ⟨y,J⟩:∃ y,y=(w.alloc (.cells #[.slice a A.length G] 162)).alloc (.cells #[.slice b B.length I] 162):=⟨_,rfl⟩
 have N:Below w.heap.size w y:=by rw [J];exact ((Below.refl _ _).alloc (Nat.le_refl _) _).alloc (by simp) _
 have e2:y.heap.size=w.heap.size+2:=by rw [J];simp
 have a9:y.cell? ⟨w.heap.size,0,none⟩=some (.slice a A.length G):=by rw [J,World.cell?_alloc_past _ _ _ (by simp),World.cell?_alloc_at _ _ _ _ rfl];rfl
 have b0:y.cell? ⟨w.heap.size+1,0,none⟩=some (.slice b B.length I):=by rw [J,World.cell?_alloc_at _ _ _ _ (by simp)];rfl
 have a0:Hid (QJ y a A):=mA.below N
 have a6:Hid (QJ y b B):=mB.below N
 have HK:Hid ((Qh A 0).length=B.length):=hk
 have d0:Hid (∀ W:World,Below y.heap.size y W->∀ i j,i < A.length->j < (Qh B 0).length->∀ D,Below W.heap.size W D->Calls prog 172 (#[.int .i64 (i:Int),.int .i64 (j:Int)] ++ #[.pointer (some ⟨w.heap.size+1,0,none⟩),.pointer (some ⟨w.heap.size,0,none⟩)]) D fun e K=>e=.returned (.int .u8 ((jM A B i j B.length:Nat):Int))/\Below D.heap.size D K):=by
  intro W hW i j hi hj D h2
  have O:Below y.heap.size y D:=hW.trans (h2.mono hW.size)
  exact R7 w.heap.size (w.heap.size+1) i j G I a b A B D HA.out a8.out HK.out hi hj ((O.cell (p:=⟨w.heap.size,0,none⟩) (by show w.heap.size < _;omega)).trans a9) ((O.cell (p:=⟨w.heap.size+1,0,none⟩) (by show w.heap.size+1 < _;omega)).trans b0) (a0.out.below O) (a6.out.below O) BA.out BB.out
 obtain ⟨a1,a2,a3,a4,a5,rfl,e3,_,a7,_⟩:=a0.out.row (i:=0) (by omega) (by rw [hk];omega)
 obtain ⟨Q,U,b3,b4,b5,rfl,e4,_,b6,_⟩:=a6.out.row (i:=0) (by omega) (by omega)
 rw [hk] at a7
 have cA:y.cell? ⟨a1,a2,none⟩=some (.slice (some ⟨a3,a4,none⟩) B.length a5):=a7
 have cB:y.cell? ⟨Q,U,none⟩=some (.slice (some ⟨b3,b4,none⟩) (Qh B 0).length b5):=b6
 have d1:Hid (Below w.heap.size w y):=N
 have d2:Hid (y=(w.alloc (.cells #[.slice (some ⟨a1,a2,none⟩) A.length G] 162)).alloc (.cells #[.slice (some ⟨Q,U,none⟩) B.length I] 162)):=J
 have ia:(0:Int) < (A.length:Int):=by omega
 have ib:(0:Int) < (B.length:Int):=by omega
 have na:0 < A.length:=by omega
 have nb:0 < B.length:=by omega
 clear Z hB hk bA bB mA mB N J a7 b6
 go_enter func156,ntmps156
 go_wp2_with fail
 rw [<- d2.out]
 refine wp_region_still_lit (by kernel_rfl) (by kernel_rfl) ?_
 repeat still_step
 still_call (wW _ A G _ HA.out (a0.out.drewN 1))
 repeat still_step
 still_call (wW _ B I _ a8.out (a6.out.drewN 1))
 repeat still_step
 refine wpStill_nil ?_
 change Exit.then _ _ _ _ (y.drewN 1)
 have X:Below y.heap.size y (y.drewN 1):=below_drewN (Below.refl _ _) _
 have qA:(y.drewN 1).cell? ⟨w.heap.size,0,none⟩=some (.slice (some ⟨a1,a2,none⟩) A.length G):=a9
 have qB:(y.drewN 1).cell? ⟨w.heap.size+1,0,none⟩=some (.slice (some ⟨Q,U,none⟩) B.length I):=b0
 have qC:(y.drewN 1).cell? ⟨Q,U,none⟩=some (.slice (some ⟨b3,b4,none⟩) (Qh B 0).length b5):=cB
 generalize y.drewN 1=D at X qA qB qC ⊢
 have d3:Hid (Below y.heap.size y D):=X
 have e5:y.heap.size<=D.heap.size:=X.size
 clear X cA cB
 go_wp2_with fail
 refine wp_region_still_tail 7 (by kernel_rfl) (by kernel_rfl) ?_
 simp only [List.take_succ_cons,List.take_zero,List.drop_succ_cons,List.drop_zero]
 repeat still_step
 refine wpStill_nil ?_
 have Y:Below y.heap.size y (D.drewN 1):=below_drewN d3.out 1
 change wpList _ _ _ _ _ (D.drewN 1)
 generalize D.drewN 1=K at Y ⊢
 have b7:Hid (Below y.heap.size y K):=Y
 have e6:y.heap.size<=K.heap.size:=Y.size
 clear Y qA qB qC
 go_wp2_with (go_at_call 138;refine (tP A.length (Qh B 0).length (fun i j=>jM A B i j B.length) 172 #[.pointer (some ⟨w.heap.size+1,0,none⟩),.pointer (some ⟨w.heap.size,0,none⟩)] K (by omega) (by omega) (enters_of func172 (by kernel_rfl) rfl) (d0.out K b7.out)).mono ?_;rintro e w4 ⟨⟨M,gs,rfl,d4⟩,d5⟩)
 go_ret2
 exact ⟨⟨M,rfl,d4.tU (fun i j=>o8 A B BA.out i j _) A.length (Nat.le_refl _)⟩,(d1.out.trans (b7.out.mono (by omega))).trans (d5.mono (by omega))⟩
def QO (j:Nat) (y:Nat->Nat) (r:Nat) (k:Nat):Prop:=k=j∨∃ i,i < r/\y i=k
theorem Zv.blocks {B:Nat} {y:Nat->Nat} {r:Nat} {f:Nat->Nat->Nat} (h:Zv w B j y r n f):∀ k,QO j y r k->B<=k/\k < w.heap.size:=fun k D=>by
 rcases D with rfl | ⟨i,G,rfl⟩
 ·exact h.rows.lt
 ·exact (h.all.row i G).lt
theorem EX {k d:Nat} {u:Nat->Nat->Lin.F} (h:Lin.n5 n k v d) (D:∀ i,i < k->∀ j,j < n->v i j=u i j):Lin.n5 n k u d:=by
 obtain ⟨b,G,I,J⟩:=h
 exact ⟨b,G,fun i y=>Lin.aX (I i y) D (fun _ _=>rfl),fun i y=>Lin.aX (J i y) (fun _ _ _ _=>rfl) (D i y)⟩
def JK (M:List (List Nat)) (r:Nat):Nat->Nat->Nat:=fun i j=>if j < r then Gf.nth (Qh M i) j else if i=j - r then 1 else 0
theorem OM (h:QR M) (r i j:Nat):JK M r i j < 256:=by
 unfold JK
 by_cases e:j < r
 ·rw [if_pos e];exact h i j
 ·by_cases y:i=j - r
  ·rw [if_neg e,if_pos y];decide
  ·rw [if_neg e,if_neg y];decide
theorem IW (M:List (List Nat)) (r i j:Nat) (y:j < r):Ym (JK M r) i j=vec M i j:=by
 unfold Ym JK
 rw [if_pos y]
 rfl
theorem JkM (M:List (List Nat)) (r i j:Nat):Ym (JK M r) i (r+j)=Lin.one i j:=by
 unfold Ym JK Lin.one
 rw [if_neg (by omega),show r+j - r=j by omega]
 by_cases e:i=j
 ·rw [if_pos e,if_pos e];rfl
 ·rw [if_neg e,if_neg e];rfl
def xQ (w':World) (M:List (List Nat)) (z:Addr) (e:Ending):Prop :=
 ∃ d:Nat,Lin.n5 M.length M.length (vec M) d/\((d < M.length/\e=.returned (.tuple #[.slice none 0 0,.iface 252 (.pointer (some z))])) ∨
  (d=M.length/\∃ (y:Nat) (x:Nat->Nat->Nat),e=.returned (.tuple #[.slice (some ⟨y,0,none⟩) M.length M.length,.nilIface])/\QJ w' (some ⟨y,0,none⟩) (XB M.length M.length x)/\(∀ i j,x i j < 256)/\∀ i j,i < M.length->j < M.length->Lin.mm M.length (Ym x) (vec M) i j=Lin.one i j))
theorem FJ (p:Option Addr) (M:List (List Nat)) (X:Nat) (z:Addr) (w:World) (hM:jQ M) (b2:(Qh M 0).length=M.length) (hb:QR M) (h:QJ w p M)
 (hz:w.cell? ⟨11,0,none⟩=some (.iface 252 (.pointer (some z)))) :
 Calls prog 114 #[.slice p M.length X] w fun e w'=>xQ w' M z e/\Below w.heap.size w w':=by
 have HM:Hid (jQ M):=hM
 have l1:1<=M.length:=hM.1
 have l2:M.length<=16:=hM.2.1
 have e5:11 < w.heap.size:=Qf hz
 have e6:Hid (QR M):=hb
 obtain ⟨J,a1⟩:∃ J,J=w.alloc (.cells #[.slice p M.length X] 162):=⟨_,rfl⟩
 have a5:Below w.heap.size w J:=by rw [a1];exact (Below.refl _ _).alloc (Nat.le_refl _) _
 have h8:J.heap.size=w.heap.size+1:=by rw [a1];simp
 have b3:Hid (QJ J p M):=h.below a5
 have b4:J.cell? ⟨w.heap.size,0,none⟩=some (.slice p M.length X):=by rw [a1,World.cell?_alloc_at _ _ _ _ rfl];rfl
 have e7:Hid (J.cell? ⟨11,0,none⟩=some (.iface 252 (.pointer (some z)))):=(a5.cell (p:=⟨11,0,none⟩) e5).trans hz
 have e8:Hid (Below w.heap.size w J):=a5
 have e9:Hid (∀ i,i < M.length->(Qh M i).length=M.length):=fun i O=>(hM.2.2 i O).2.2.trans b2
 obtain ⟨b,o,b1,o1,c1,f3,f4,_,b5,_⟩:=b3.out.row (i:=0) (by omega) (by rw [b2];omega)
 rw [b2] at b5
 have f5:J.cell? ⟨b,o,none⟩=some (.slice (some ⟨b1,o1,none⟩) M.length c1):=b5
 subst f3
 have f6:Hid (J=w.alloc (.cells #[.slice (some ⟨b,o,none⟩) M.length X] 162)):=a1
 have i0:0 < M.length:=by omega
 have i1:(0:Int) < (M.length:Int):=by omega
 clear hM hb h hz a5 a1 b5 b2
 go_enter func114,ntmps114
 go_wp2_with fail
 rw [<- f6.out]
 go_quiet ((go_at_call 137;exact Calls.quiet_of_same (wW _ M X _ HM.out (b3.out.drewN _))))
 obtain ⟨I,a6⟩:∃ I,I=J.drewN nq:=⟨_,rfl⟩
 have b6:Below J.heap.size J I:=by rw [a6];exact below_drewN (Below.refl _ _) _
 have f7:I.heap.size=J.heap.size:=by rw [a6];rfl
 rw [<- a6]
 have f8:I.cell? ⟨w.heap.size,0,none⟩=some (.slice (some ⟨b,o,none⟩) M.length X):=(b6.cell (p:=⟨w.heap.size,0,none⟩) (by show w.heap.size < _;omega)).trans b4
 obtain ⟨y,a2⟩:∃ y,y=I.alloc (.cells #[.int .i64 (M.length:Int)] 3):=⟨_,rfl⟩
 have a3:Below J.heap.size J y:=by rw [a2];exact b6.alloc (by omega) _
 have h9:y.heap.size=w.heap.size+2:=by rw [a2];simp;omega
 have b7:y.cell? ⟨w.heap.size+1,0,none⟩=some (.int .i64 (M.length:Int)):=by rw [a2,World.cell?_alloc_at _ _ _ _ (by omega)];rfl
 have d4:y.cell? ⟨w.heap.size,0,none⟩=some (.slice (some ⟨b,o,none⟩) M.length X):=(a3.cell (p:=⟨w.heap.size,0,none⟩) (by show w.heap.size < _;omega)).trans b4
 have f9:Hid (QJ y (some ⟨b,o,none⟩) M):=b3.out.below a3
 have g0:Hid (y.cell? ⟨11,0,none⟩=some (.iface 252 (.pointer (some z)))):=(a3.cell (p:=⟨11,0,none⟩) (by show 11 < _;omega)).trans e7.out
 have g1:Hid (Below w.heap.size w y):=e8.out.trans (a3.mono (by omega))
 have a7:Hid (∀ i j,i < M.length->j < 2*M.length->∀ I,Below y.heap.size y I->Calls prog 139 (#[.int .i64 (i:Int),.int .i64 (j:Int)] ++ #[.pointer (some ⟨w.heap.size+1,0,none⟩),.pointer (some ⟨w.heap.size,0,none⟩)]) I fun e y=>e=.returned (.int .u8 ((JK M M.length i j:Nat):Int))/\Below I.heap.size I y):=by
  intro i j O Z G h4
  exact UM (w.heap.size+1) w.heap.size i j M.length X _ M G O Z (e9.out i O) (by omega) ((h4.cell (p:=⟨w.heap.size+1,0,none⟩) (by show w.heap.size+1 < _;omega)).trans b7) ((h4.cell (p:=⟨w.heap.size,0,none⟩) (by show w.heap.size < _;omega)).trans d4) (f9.out.below h4)
 have g2:Hid (y=I.alloc (.cells #[.int .i64 (M.length:Int)] 3)):=a2
 have i2:I.heap.size=w.heap.size+1:=by omega
 clear a6 b6 f7 a2 a3 b4 f5 f4
 have d0:=tP M.length (2*M.length) (JK M M.length) 139 #[.pointer (some ⟨w.heap.size+1,0,none⟩),.pointer (some ⟨w.heap.size,0,none⟩)] y (by omega) (by omega) (enters_of func139 (by kernel_rfl) rfl) a7.out
 rw [show ((2*M.length:Nat):Int)=2*(M.length:Int) by omega] at d0
 go_wp2_with (go_at_call 138;rw [<- g2.out];refine d0.mono ?_;rintro e G ⟨⟨D,N,rfl,a8⟩,d1⟩)
 have d5:Hid (Zv G y.heap.size D N M.length (2*M.length) (JK M M.length)):=a8
 have i3:D < G.heap.size:=a8.rows.lt.2
 have g3:y.heap.size<=G.heap.size:=d1.size
 obtain ⟨K,a4⟩:∃ K,K=G.alloc (.cells #[.slice (some ⟨D,0,none⟩) M.length M.length] 162):=⟨_,rfl⟩
 rw [<- a4]
 have d2:Below G.heap.size G K:=by rw [a4];exact (Below.refl _ _).alloc (Nat.le_refl _) _
 have i4:K.heap.size=G.heap.size+1:=by rw [a4];simp
 have a9:Below y.heap.size y K:=d1.trans (d2.mono g3)
 have d6:K.cell? ⟨w.heap.size+1,0,none⟩=some (.int .i64 (M.length:Int)):=(a9.cell (p:=⟨w.heap.size+1,0,none⟩) (by show w.heap.size+1 < _;omega)).trans b7
 have g4:K.cell? ⟨G.heap.size,0,none⟩=some (.slice (some ⟨D,0,none⟩) M.length M.length):=by rw [a4,World.cell?_alloc_at _ _ _ _ rfl];rfl
 have d7:Hid (K.cell? ⟨11,0,none⟩=some (.iface 252 (.pointer (some z)))):=(a9.cell (p:=⟨11,0,none⟩) (by show 11 < _;omega)).trans g0.out
 have g5:Hid (Zv K y.heap.size D N M.length (2*M.length) (JK M M.length)):=a8.below d2
 have g6:Hid (Below w.heap.size w K):=g1.out.trans (a9.mono (by omega))
 have a0:Hid (∀ k,QO D N M.length k->y.heap.size<=k/\k < G.heap.size):=d5.out.blocks
 have g7:Hid (∀ W:World,Below K.heap.size K W->Calls prog 141 #[.slice (some ⟨D,0,none⟩) M.length M.length,.int .i64 (M.length:Int)] W fun e w'=>∃ (d:Nat) (Q:Nat->Nat) (g:Nat->Nat->Nat),e=.returned (.int .i64 (d:Int))/\ZI (QO D N M.length) K w'/\Zv w' y.heap.size D Q M.length (2*M.length) g/\(∀ i j,g i j < 256)/\Lin.eO M.length (2*M.length) M.length (Ym (JK M M.length)) (Ym g) d):=by
  intro W hW
  refine (JnT (QO D N M.length) y.heap.size D N M.length (2*M.length) M.length (JK M M.length) z W (by omega) (by omega) (by omega) (OM e6.out M.length) (g5.out.below hW) (Or.inl rfl) (fun i O=>Or.inr ⟨i,O,rfl⟩) (fun k U=>⟨(a0.out k U).1,by have:=(a0.out k U).2;have:=hW.size;omega⟩) (by omega) ((hW.cell (p:=⟨11,0,none⟩) (by show 11 < _;omega)).trans d7.out)).mono ?_
  rintro e w' ⟨hF,d,Q,g,rfl,hG,hl,hR⟩
  exact ⟨d,Q,g,rfl,(ZP hW).trans hF,hG,hl,hR⟩
 have nS:¬ QO D N M.length (w.heap.size+1):=fun U=>by have:=(a0.out _ U).1;omega
 have nB:¬ QO D N M.length G.heap.size:=fun U=>by have:=(a0.out _ U).2;omega
 have nE:¬ QO D N M.length 11:=fun U=>by have:=(a0.out _ U).1;omega
 have NS:Hid (¬ QO D N M.length (w.heap.size+1)):=nS
 have NB:Hid (¬ QO D N M.length G.heap.size):=nB
 have NE:Hid (¬ QO D N M.length 11):=nE
 clear nS nB nE a4 d2 a9 d1 a8 d5 b7 f8 d4 d0 a7
 go_cut [30] from 26 to 30 (fun v wc=>∃ (d:Nat) (Q:Nat->Nat) (g:Nat->Nat->Nat),v=.bool (decide (d < M.length))/\ZI (QO D N M.length) K wc/\Zv wc y.heap.size D Q M.length (2*M.length) g/\(∀ i j,g i j < 256)/\Lin.eO M.length (2*M.length) M.length (Ym (JK M M.length)) (Ym g) d)
 case first =>
  go_region_with (go_at_call 141;refine (g7.out _ (by first | exact (Below.refl _ _).drew | exact Below.refl _ _)).mono ?_;rintro e w6 ⟨d,Q,g,rfl,hF,hG,hl,hR⟩;have d8:=hF.cell d6 NS.out)
  all_goals (go_wp2_with fail;go_meet)
  all_goals exact ⟨d,Q,g,rfl,hF,hG,hl,hR⟩
 case rest =>
  obtain ⟨d,Q,g,rfl,Y,d9,e0,b0⟩:=hcut
  have i5:Hid (ZI (QO D N M.length) K wc):=Y
  have g8:Hid (Zv wc y.heap.size D Q M.length (2*M.length) g):=d9
  have e1:Hid (∀ i j,g i j < 256):=e0
  have g9:Hid (Lin.eO M.length (2*M.length) M.length (Ym (JK M M.length)) (Ym g) d):=b0
  have e2:Hid (Lin.n5 M.length M.length (vec M) d):=EX (b0.xN (by omega)) (fun i _ j Z=>IW M M.length i j Z)
  have h0:wc.cell? ⟨11,0,none⟩=some (.iface 252 (.pointer (some z))):=Y.cell d7.out NE.out
  have d8:wc.cell? ⟨w.heap.size+1,0,none⟩=some (.int .i64 (M.length:Int)):=Y.cell d6 NS.out
  have h1:wc.cell? ⟨G.heap.size,0,none⟩=some (.slice (some ⟨D,0,none⟩) M.length M.length):=Y.cell g4 NB.out
  have i7:K.heap.size<=wc.heap.size:=Y.size
  have e3:Hid (Below w.heap.size w wc):=g6.out.trans ((Y.below (fun k U=>(a0.out k U).1) (by omega)).mono (by omega))
  have i8:d<=M.length:=b0.le
  clear Y d9 e0 b0
  by_cases hd:d < M.length
  ·have HD:Hid (d < M.length):=hd
   rw [decide_eq_true hd]
   clear hd
   go_wp2
   go_quiet (fail)
   go_wp2
   go_ret2
   exact ⟨⟨d,e2.out,Or.inl ⟨HD.out,rfl⟩⟩,below_drewN e3.out _⟩
  ·have d3:d=M.length:=by omega
   have HD:Hid (d=M.length):=d3
   have h2:Hid (Lin.eO M.length (2*M.length) M.length (Ym (JK M M.length)) (Ym g) M.length):=by have:=g9.out;rw [d3] at this;exact this
   rw [decide_eq_false hd]
   clear hd d3 h0
   have a7:Hid (∀ i j,i < M.length->j < M.length->∀ I,Below wc.heap.size wc I->Calls prog 142 (#[.int .i64 (i:Int),.int .i64 (j:Int)] ++ #[.pointer (some ⟨G.heap.size,0,none⟩),.pointer (some ⟨w.heap.size+1,0,none⟩)]) I fun e y=>e=.returned (.int .u8 ((g i (M.length+j):Nat):Int))/\Below I.heap.size I y):=by
    intro i j O Z w7 h7
    have e4:=g8.out.below h7
    refine JlF G.heap.size (w.heap.size+1) i j M.length D M.length (2*M.length) Q (g i (M.length+j)) w7 O (by omega) (by omega) ((h7.cell (p:=⟨G.heap.size,0,none⟩) (by show G.heap.size < _;omega)).trans h1) ((h7.cell (p:=⟨w.heap.size+1,0,none⟩) (by show w.heap.size+1 < _;omega)).trans d8) (e4.rows.cell i O) ?_
    rw [(e4.all.row i O).cell (M.length+j) (by omega) (Jf _ _),Yq _ _ _ (by omega)]
   go_wp2_with (go_at_call 138;refine (tP M.length M.length (fun i j=>g i (M.length+j)) 142 #[.pointer (some ⟨G.heap.size,0,none⟩),.pointer (some ⟨w.heap.size+1,0,none⟩)] wc (by omega) (by omega) (enters_of func142 (by kernel_rfl) rfl) a7.out).mono ?_;rintro e w8 ⟨⟨h3,i9,rfl,h5⟩,h6⟩)
   go_ret2
   refine ⟨⟨d,e2.out,Or.inr ⟨HD.out,h3,fun i j=>g i (M.length+j),rfl,h5.tU (fun i j=>e1.out _ _) M.length (Nat.le_refl _),fun i j=>e1.out _ _,?_⟩⟩,e3.out.trans (h6.mono (by omega))⟩
   exact h2.out.kM (fun i j _ Z=>IW M M.length i j Z) (fun i j _ _=>JkM M M.length i j)
theorem JaE (a b:Nat) (w:World) (W:a < 256) (_hb:b < 256) :
 Calls prog 91 #[.int .u8 (a:Int),.int .u8 (b:Int)] w fun e w'=>e=.returned (.int .u8 ((Gf.mul a b:Nat):Int))/\w'=w:=by
 go_enter func91,ntmps91
 go_wp2
 go_loop [5,6] (fun p i=>∃ k:Nat,k<=8/\i=.int .i64 k/\p=.int .i64 (Gf.rprod a b k:Nat)) (fun _ i=>8 - (intOf i).toNat)
 case atStart=>exact ⟨0,by omega,rfl,rfl⟩
 case round =>
  obtain ⟨k,X,rfl,rfl⟩:=hrel
  have M:=Gf.sS W b k X
  by_cases a1:k < 8
  ·have D:=Jch b k
   have a2:a*2 ^ k < 2 ^ 15:=by
    have J:2 ^ k<=2 ^ 7:=Nat.pow_le_pow_right (by decide) (by omega)
    have Y:a*2 ^ k<=255*2 ^ 7:=Nat.mul_le_mul (by omega) J
    omega
   have G:wrap64 ((a:Int)*2 ^ k)=((a*2 ^ k:Nat):Int):=by
    have:=Jj6 (a*2 ^ k) (by omega)
    simpa using this
   have K:Hid (bits .xor .i64 ((Gf.rprod a b k:Nat):Int) (wrap64 ((a:Int)*2 ^ k))=((Gf.rprod a b k ^^^ (a*2 ^ k):Nat):Int)):=by show _=_;rw [G];exact Jbz _ _ (by omega) (by omega)
   clear G
   by_cases j:Gf.bT b k=1
   ·have y:Hid (Gf.rprod a b (k+1)=Gf.rprod a b k ^^^ (a*2 ^ k)):=by show _=_;simp [Gf.rprod,j]
    rw [decide_eq_true j] at D
    clear j
    go_wp2
    exact ⟨⟨k+1,by omega,by go_num,by rw [y.out,K.out]⟩,by simp [intOf];omega⟩
   ·have y:Hid (Gf.rprod a b (k+1)=Gf.rprod a b k):=by show _=_;simp [Gf.rprod,j]
    rw [decide_eq_false j] at D
    clear j
    go_wp2
    exact ⟨⟨k+1,by omega,by go_num,by rw [y.out]⟩,by simp [intOf];omega⟩
  ·have Z:k=8:=by omega
   subst Z
   go_wp2
   have N:Hid (Gf.rprod a b 8 < 2 ^ 15):=M
   have O:Hid (Gf.r8 (Gf.rprod a b 8)=Gf.mul a b):=Gf.O2 a b W
   generalize Gf.rprod a b 8=n at N O M ⊢
   go_loop [5,7] (fun p i=>∃ m:Nat,7<=m/\m<=14/\i=.int .i64 m/\p=.int .i64 (Gf.rr n (14 - m):Nat)) (fun _ i=>(intOf i).toNat)
   case atStart=>exact ⟨14,by omega,by omega,rfl,rfl⟩
   case round =>
    obtain ⟨m,a3,hm,rfl,rfl⟩:=hrel
    have a4:=Gf.Jt7 N.out (14 - m)
    have Q:Hid (Gf.rr n (14 - (m - 1))=if 8<=m then Gf.wP m (Gf.rr n (14 - m)) else Gf.rr n (14 - (m - 1))):=by
     show _=_
     by_cases I:8<=m
     ·rw [if_pos I,show 14 - (m - 1)=(14 - m)+1 from by omega]
      show Gf.wP (14 - (14 - m)) _=_
      rw [show 14 - (14 - m)=m from by omega]
     ·rw [if_neg I]
    by_cases I:8<=m
    ·have D:=Jch (Gf.rr n (14 - m)) m
     have a5:285*2 ^ (m - 8) < 2 ^ 15:=by
      have J:2 ^ (m - 8)<=2 ^ 6:=Nat.pow_le_pow_right (by decide) (by omega)
      have Y:285*2 ^ (m - 8)<=285*2 ^ 6:=Nat.mul_le_mul (Nat.le_refl _) J
      omega
     have G:wrap64 ((285:Int)*2 ^ (m - 8))=((285*2 ^ (m - 8):Nat):Int):=by
      have:=Jj6 (285*2 ^ (m - 8)) (by omega)
      simpa using this
     have K:Hid (bits .xor .i64 ((Gf.rr n (14 - m):Nat):Int) (wrap64 ((285:Int)*2 ^ (m - 8)))=((Gf.rr n (14 - m) ^^^ (285*2 ^ (m - 8)):Nat):Int)):=by show _=_;rw [G];exact Jbz _ _ (by omega) (by omega)
     have U:Hid (Gf.rr n (14 - (m - 1))=Gf.wP m (Gf.rr n (14 - m))):=by have:=Q.out;rw [if_pos I] at this;exact this
     clear G Q
     by_cases j:Gf.bT (Gf.rr n (14 - m)) m=1
     ·have y:Hid (Gf.wP m (Gf.rr n (14 - m))=Gf.rr n (14 - m) ^^^ (285*2 ^ (m - 8))):=by show _=_;simp [Gf.wP,j]
      rw [decide_eq_true j] at D
      clear j
      go_wp2
      exact ⟨⟨m - 1,by omega,by omega,by congr 1;omega,by rw [U.out,y.out,K.out]⟩,by simp [intOf];omega⟩
     ·have y:Hid (Gf.wP m (Gf.rr n (14 - m))=Gf.rr n (14 - m)):=by show _=_;simp [Gf.wP,j]
      rw [decide_eq_false j] at D
      clear j
      go_wp2
      exact ⟨⟨m - 1,by omega,by omega,by congr 1;omega,by rw [U.out,y.out]⟩,by simp [intOf];omega⟩
    ·have a0:m=7:=by omega
     subst a0
     go_wp2
     go_ret
     refine ⟨l4 ?_,rfl⟩
     have:=O.out
     rw [<- this]
     simp [Gf.r8]
theorem Jew (a b c:Nat) (w:World) (j:a < 256) (y:b < 256) (h:Gf.mul a b=c) :
 Calls prog 91 #[.int .u8 (a:Int),.int .u8 (b:Int)] w fun e w'=>e=.returned (.int .u8 ((c:Nat):Int))/\w'=w:=h ▸ JaE a b w j y
theorem Jed (a:Nat) (w:World) (j:a < 256) (y:a≠0) :
 Calls prog 127 #[.int .u8 (a:Int)] w fun e w'=>e=.returned (.int .u8 ((Gf.inv a:Nat):Int))/\w'=w:=by
 have G:=Gf.cQ a
 have M:=Gf.inv_pos a j y
 have I:Hid (Gf.mul a (Gf.inv a)=1):=Gf.eG a j y
 have J:Hid (∀ b,b < 256->Gf.mul a b=1->b=Gf.inv a):=fun b K h=>Gf.eN a b j K y h
 clear y
 go_enter func127,ntmps127
 go_wp2
 go_loop [3] (fun i=>∃ k:Nat,1<=k/\k<=Gf.inv a/\i=.int .i64 k) (fun i=>256 - (intOf i).toNat)
 case atStart=>exact ⟨1,by omega,by omega,rfl⟩
 case round =>
  obtain ⟨k,N,O,rfl⟩:=hrel
  by_cases D:k=Gf.inv a
  ·subst D
   go_wp2_with fail
   refine (Jew a (Gf.inv a) 1 _ j G I.out).mono ?_
   rintro e w' ⟨rfl,rfl⟩
   go_wp2
   go_ret
   exact ⟨rfl,rfl⟩
  ·have Q : (((Gf.mul a k : Nat) : Int) == 1) = false := by
    simp only [beq_eq_false_iff_ne,ne_eq]
    intro h
    exact D (J.out k (by omega) (by omega))
   go_wp2_with fail
   refine (JaE a k _ j (by omega)).mono ?_
   rintro e w' ⟨rfl,rfl⟩
   go_wp2
   exact ⟨⟨k+1,by omega,by omega,by go_num⟩,by simp [intOf];omega⟩
theorem Jcl (p:Option Addr) (l:List Nat) (a9 i x:Nat) (w:World) (Y:x < 256) (hl:l.length < 2 ^ 40) (N:i < l.length) (y:l.Nodup) (I:jU w p l) :
 Calls prog 100 #[.slice p l.length a9,.int .i64 (i:Int),.int .u8 (x:Int)] w fun e w'=>e=.returned (.int .u8 ((Gf.aQ l i x:Nat):Int))/\∃ n,w'=w.drewN n:=by
 obtain ⟨Q,I⟩:=I
 rcases I with I | ⟨b,o,rfl,hb,U⟩
 ·rw [I] at N;simp at N
 have W:=Q i
 have HE:Hid (Gf.x3 l i x l.length=Gf.aQ l i x):=Gf.D2 l Q y i x N Y
 have Z:Hid (∀ k,k < l.length->k≠i->Gf.nth l i ^^^ Gf.nth l k≠0):=fun k hk e=>Gf.xL fun h'=>e (Gf.M0 l y hk N h'.symm)
 clear y
 go_enter func100,ntmps100
 go_wp2
 go_loopw [7,8] (fun s j wr=>(∃ n,wr=w.drewN n)/\∃ k:Nat,k<=l.length/\j=.int .i64 k/\s=.int .u8 (Gf.x3 l i x k:Nat)) (fun _ j _=>l.length - (intOf j).toNat)
 case atStart=>exact ⟨⟨0,rfl⟩,0,by omega,rfl,rfl⟩
 case round =>
  obtain ⟨a0,k,hk,rfl,rfl⟩:=hrel
  have J:Hid (∃ n,wr=w.drewN n):=a0
  clear a0
  have a1:=Gf.zE l i x k
  by_cases a2:k < l.length
  ·have a4 : wr.cell? ⟨b, o + k, none⟩ = some (.int .u8 ((Gf.nth l k : Nat) : Int)) := by
    obtain ⟨n,y⟩:=J.out
    rw [y]
    exact U k a2
   have a5:wr.cell? ⟨b,o+i,none⟩=some (.int .u8 ((Gf.nth l i:Nat):Int)):=by
    obtain ⟨n,y⟩:=J.out
    rw [y]
    exact U i N
   have K:=Q k
   have O:Hid (Gf.x3 l i x (k+1)=if k=i then Gf.x3 l i x k else Gf.mul (Gf.x3 l i x k) (Gf.mul (x ^^^ Gf.nth l k) (Gf.inv (Gf.nth l i ^^^ Gf.nth l k)))):=rfl
   clear U
   by_cases M:k=i
   ·have D:=O.out
    rw [if_pos M] at D
    have G:Hid (Gf.x3 l i x (k+1)=Gf.x3 l i x k):=D
    have ht:((k:Int) != (i:Int))=false:=by simp;omega
    clear O D M
    go_wp2
    go_roundw
    case rel=>exact ⟨J.out,k+1,by omega,by go_num,by rw [G.out]⟩
    case measure=>simp [intOf];omega
   ·have D:=O.out
    rw [if_neg M] at D
    have G:Hid (Gf.x3 l i x (k+1)=Gf.mul (Gf.x3 l i x k) (Gf.mul (x ^^^ Gf.nth l k) (Gf.inv (Gf.nth l i ^^^ Gf.nth l k)))):=D
    have X:Hid (Gf.nth l i ^^^ Gf.nth l k≠0):=Z.out k a2 M
    have ht:((k:Int) != (i:Int))=true:=by simp;omega
    clear O D M Z
    generalize Gf.x3 l i x k=pa at a1 G ⊢
    generalize Gf.nth l k=c at a4 K G X
    generalize Gf.nth l i=d at a5 W G X
    have a3:=Gf.iK Y K
    have a6:=Gf.iK W K
    have b0:=u8_xor_nat x c Y K
    have b1:=u8_xor_nat d c W K
    have a7:=Gf.cQ (d ^^^ c)
    have hm:=Gf.aV a3 (Gf.inv (d ^^^ c))
    go_wp2
    go_quiet ((first | (go_at_call 127;exact Calls.quiet_of_same (Jed (d ^^^ c) _ a6 X.out)) | (go_at_call_of 91 (Value.int IntKind.u8 ((x ^^^ c:Nat):Int));exact Calls.quiet_of_same (JaE (x ^^^ c) (Gf.inv (d ^^^ c)) _ a3 a7)) | (go_at_call_of 91 (Value.int IntKind.u8 ((pa:Nat):Int));exact Calls.quiet_of_same (JaE pa (Gf.mul (x ^^^ c) (Gf.inv (d ^^^ c))) _ a1 hm))))
    go_wp2
    go_roundw
    case rel =>
     obtain ⟨n,y⟩:=J.out
     exact ⟨⟨n+nq,by rw [y,World.drewN_drewN]⟩,k+1,by omega,by go_num,by rw [G.out]⟩
    case measure=>simp [intOf];omega
  ·have a8:k=l.length:=by omega
   subst a8
   go_wp2
   go_ret
   exact ⟨by simp [HE.out],J.out⟩
def kK (k n:Nat):List (List Nat):=(List.range n).map fun i=>Qi k fun j=>Gf.aQ (JB k) j i
theorem JcD (k n:Nat):kK k (n+1)=kK k n ++ [Qi k fun j=>Gf.aQ (JB k) j n]:=by simp [kK,List.range_succ]
theorem JaF (k n:Nat):(kK k n).length=n:=by simp [kK]
theorem sI (k:Nat):(JB k).Nodup:=List.nodup_range
theorem JE (k:Nat):(JB k).length=k:=by simp [JB]
theorem tA (k:Nat) (h:k<=256):Gf.Bytes (JB k):=fun i=>by
 by_cases j:i < k
 ·rw [Gf.aK _ _ (by rw [JE];exact j)];simp [JB];omega
 ·unfold Gf.nth;rw [List.getD_eq_getElem?_getD,List.getElem?_eq_none (by rw [JE];omega)];decide
theorem Jdn (p:Option Addr) (k y j x:Nat) (w:World) (D:x < 256) (J:k<=100) (G:j < k) (I:jU w p (JB k)) :
 Calls prog 100 #[.slice p k y,.int .i64 (j:Int),.int .u8 (x:Int)] w fun e w'=>e=.returned (.int .u8 ((Gf.aQ (JB k) j x:Nat):Int))/\∃ n,w'=w.drewN n:=by
 have h:=Jcl p (JB k) y j x w D (by rw [JE];omega) (by rw [JE];exact G) (sI k) I
 rw [JE] at h
 exact h
theorem JbF (k r:Nat) (h:r < k):Gf.nth (JB k) r=r:=by
 rw [Gf.aK _ r (by rw [JE];exact h)]
 simp [JB]
theorem IC (k:Nat) (I:k<=256):Lin.dD k k (Ym Gf.bZ):=by
 have h:=R3 (JB k) (tA k I) (sI k)
 rw [JE] at h
 intro c y
 refine h c (fun j D=>?_)
 rw [<- y j D]
 exact Lin.aH fun r G=>by
  show Lin.mu (c r) (Qm (Gf.bZ (Gf.nth (JB k) r) j))=_
  rw [JbF k r G]
  rfl
theorem BD  (h:Lin.dD n n v):Lin.n5 n n v n:=⟨v,h,fun _ j=>Lin.aU v j,fun _ j=>Lin.aU v j⟩
theorem nY:∀ i j,Gf.bZ i j < 256:=fun i j=>Gf.dV i j
theorem N4 (n k:Nat) (W:n<=12) (X:k<=n) (x:Nat->Nat->Nat) (O:∀ i j,x i j < 256) (Q:∀ i j,i < k->j < k->Lin.mm k (Ym x) (Ym Gf.bZ) i j=Lin.one i j) (i j:Nat) (U:i < n) (G:j < k) :
 jM (XB n k Gf.bZ) (XB k k x) i j k=Gf.aQ (JB k) j i:=by
 refine zA (o8 _ _ (J6 nY) i j k) (Gf.bL _ _ _) ?_
 rw [AF (J6 nY) (J6 O)]
 have I:Lin.aL k (fun t=>Lin.mu (vec (XB n k Gf.bZ) i t) (vec (XB k k x) t j))=Lin.mm k (fun i t=>Qm (Gf.bZ i t)) (Ym x) i j:=Lin.aH fun t D=>by rw [uN U D,uN D G];rfl
 rw [I]
 have J:=Lin.cK Q
 have K:∀ m,m < k->Qm (Gf.bZ i m)=Lin.mm k (fun i j=>Qm (Gf.aQ (JB k) j i)) (Ym Gf.bZ) i m:=fun m y=>by
  have:=Y6 (JB k) (tA k (by omega)) (sI k) i m (by omega) (by rw [JE];exact y)
  rw [JE] at this
  rw [<- this]
  exact Lin.aH fun t D=>by rw [JbF k t D];rfl
 have M:Lin.mm k (fun i t=>Qm (Gf.bZ i t)) (Ym x) i j=Lin.mm k (Lin.mm k (fun i j=>Qm (Gf.aQ (JB k) j i)) (Ym Gf.bZ)) (Ym x) i j:=Lin.bQ k (fun m y=>K m y) (fun _ _=>rfl)
 rw [M,Lin.cN]
 have N:Lin.mm k (fun i j=>Qm (Gf.aQ (JB k) j i)) (Lin.mm k (Ym Gf.bZ) (Ym x)) i j=Lin.mm k (fun i j=>Qm (Gf.aQ (JB k) j i)) Lin.one i j:=Lin.bQ k (fun _ _=>rfl) (fun m y=>J m j y G)
 rw [N,Lin.fK k _ i j G]
theorem PI (n k:Nat) (M:1<=k) (G:n<=12) (I:k<=n) (x:Nat->Nat->Nat) (J:∀ i j,x i j < 256) (K:∀ i j,i < k->j < k->Lin.mm k (Ym x) (Ym Gf.bZ) i j=Lin.one i j) :
 xW (XB n k Gf.bZ) (XB k k x) n=kK k n:=by
 rw [K1,XD k k x 0 (by omega),Jf,Zs]
 unfold XB kK
 refine List.map_congr_left fun i y=>?_
 exact YL k _ _ (fun j D=>N4 n k G I x J K i j (List.mem_range.1 y) D)
theorem Jo4 (n k:Nat) (z:Addr) (w:World) (D:1<=k) (X:k<=n) (hn:n<=12) (hz:w.cell? ⟨11,0,none⟩=some (.iface 252 (.pointer (some z)))) :
 Calls prog 134 #[.int .i64 (n:Int),.int .i64 (k:Int)] w fun e w'=>(∃ y,e=.returned (.tuple #[.slice (some ⟨y,0,none⟩) n n,.nilIface])/\QJ w' (some ⟨y,0,none⟩) (kK k n))/\Below w.heap.size w w':=by
 have Y:=K0 n k w D X hn
 have K:Hid (w.cell? ⟨11,0,none⟩=some (.iface 252 (.pointer (some z)))):=hz
 clear hz
 go_enter func134,ntmps134
 go_wp2_with fail
 refine Y.mono ?_
 rintro e G ⟨⟨y,gs,rfl,M⟩,N⟩
 have Z:Hid (QJ G (some ⟨y,0,none⟩) (XB n k Gf.bZ)):=M.tU nY n (Nat.le_refl _)
 have a0:Hid (QJ G (some ⟨y,0,none⟩) (XB k k Gf.bZ)):=M.tU nY k X
 have a1:Hid (G.cell? ⟨11,0,none⟩=some (.iface 252 (.pointer (some z)))):=(N.cell (p:=⟨11,0,none⟩) (Qf K.out)).trans K.out
 have a2:Hid (Below w.heap.size w G):=N
 clear M N Y K
 have I:=FJ (some ⟨y,0,none⟩) (XB k k Gf.bZ) n z G (zH D (by omega) D (by omega)) (by rw [XD k k Gf.bZ 0 (by omega),Jf,Zs]) (J6 nY) a0.out a1.out
 unfold xQ at I
 rw [Zs] at I
 go_wp2_with fail
 refine I.mono ?_
 rintro e O ⟨⟨d,hd,a6⟩,Q⟩
 have a7:d=k:=Lin.dY hd (EX (BD (IC k (by omega))) (fun i U j J=>(uN U J).symm))
 rcases a6 with ⟨b1,_⟩ | ⟨_,g2,x,rfl,a3,hx,a4⟩
 ·omega
 ·have a5:Hid (Below w.heap.size w O):=a2.out.trans (Q.mono a2.out.size)
  have a8:w.heap.size<=O.heap.size:=a5.out.size
  have W:=RK (some ⟨y,0,none⟩) (some ⟨g2,0,none⟩) (XB n k Gf.bZ) (XB k k x) n k O (zH (by omega) (by omega) D (by omega)) (zH D (by omega) D (by omega)) (by rw [XD n k Gf.bZ 0 (by omega),Jf,Zs]) (J6 nY) (J6 hx) (Z.out.below Q) a3
  rw [Zs,Zs,PI n k D hn X x hx (fun i j U J=>by
   rw [<- a4 i j U J]
   exact Lin.bQ k (fun _ _=>rfl) (fun t ht=>(uN ht J).symm))] at W
  clear hd a7 a3 a4 Q I a0 Z a1
  go_wp2_with fail
  refine W.mono ?_
  rintro e w3 ⟨⟨g3,rfl,a9⟩,b0⟩
  clear W
  go_wp2
  go_ret2
  exact ⟨⟨g3,rfl,a9⟩,a5.out.trans (b0.mono a8)⟩
end Go.Proofs.YtmikbldbfnlfjaaGreatDoor

/- Texts laid together. -/
import Derived.Test.YtgapmoniajcliaaGreatDoorV3
import Derived.Deep.RegionWith
import Derived.Deep.CutRange
set_option maxRecDepth 10000
set_option maxHeartbeats 8000000
open Option renaming some->S,none->N
open Go.RowKit renaming Below->aa
open Go.World renaming cell?_alloc_at->ab,cell?_alloc_past->ae
open Go renaming below_drewN->ac,Calls->za,Addr->ah
namespace Go.Proofs.YtgapmoniajcliaaGreatDoor
open Go.Proofs.Tryz
open Go.RowKit
variable {w:World}{M:List (List Nat)}{i n:Nat}{v:Nat->Nat->Lin.F}
theorem QJ.at {p:Option ah}(h:QJ w p M){j:Nat}(K:i<M.length)(O:j<(Qh M i).length):
 ∃b o B D c,p=S ⟨b,o,N⟩/\w.cell? ⟨b,o+i,N⟩=S (.slice (S ⟨B,D,N⟩) (Qh M i).length c)/\w.cell? ⟨B,D+j,N⟩=S (.int .u8 ((Gf.nth (Qh M i) j:Nat):Int)):=by
 obtain⟨b,o,B,D,c,H,_,_,I,J⟩:=h.row K (by omega);exact⟨b,o,B,D,c,H,I,J j O⟩
theorem BJ (i j:Nat)(w:World):za prog 178 #[.int .i64 (i:Int),.int .i64 (j:Int)] w fun e w'=>e=.returned (.int .u8 ((if i=j then 1 else 0:Nat):Int))/\w'=w:=by
 by_cases e:i=j
 ·subst e;rw[if_pos rfl];go_enter func178,ntmps178;go_wp2;go_ret;exact⟨rfl,rfl⟩
 ·have B:((i:Int)==(j:Int))=false:=by simp;omega
  rw[if_neg e];clear e;go_enter func178,ntmps178;go_wp2;go_ret;exact⟨rfl,rfl⟩
theorem UM (ps I i j B cap:Nat)(p:Option ah)(M:List (List Nat))(w:World)(O:i<M.length)(hj:j<2*B)(D:(Qh M i).length=B)(hn:B<=1000)(a0:w.cell? ⟨ps,0,N⟩=S (.int .i64 (B:Int)))(hp:w.cell? ⟨I,0,N⟩=S (.slice p M.length cap))(h:QJ w p M):
 za prog 177 #[.int .i64 (i:Int),.int .i64 (j:Int),.pointer (S ⟨ps,0,N⟩),.pointer (S ⟨I,0,N⟩)] w fun e w'=>e=.returned (.int .u8 (((if j<B then Gf.nth (Qh M i) j else if i=j-B then 1 else 0:Nat)):Int))/\aa w.heap.size w w':=by
 by_cases H:j<B
 ·obtain⟨b,o,U,Z,c,rfl,J,h2⟩:=h.at O (by rw[D];exact H);rw[D]at J;rw[if_pos H];clear D h;go_enter func177,ntmps177;go_wp2;go_ret;exact⟨rfl,Below.refl _ _⟩
 ·rw[if_neg H];have K:((j:Int)-(B:Int))=((j-B:Nat):Int):=by omega
  clear D h;go_enter func177,ntmps177;go_wp2_with (go_at_call 178;first|(rw[K];refine(BJ i (j-B) _).mono ?_;rintro e w' ⟨rfl,rfl⟩)|(refine(BJ i (j-B) _).mono ?_;rintro e w' ⟨rfl,rfl⟩))
  all_goals (go_ret;exact⟨rfl,Below.refl _ _⟩)
theorem JlF (D ps i j B H r n:Nat)(I:Nat->Nat)(x:Nat)(w:World)(J:i<r)(K:B+j<n)(O:n<=1000)(U:w.cell? ⟨D,0,N⟩=S (.slice (S ⟨H,0,N⟩) r r))(Z:w.cell? ⟨ps,0,N⟩=S (.int .i64 (B:Int)))(h1:w.cell? ⟨H,i,N⟩=S (.slice (S ⟨I i,0,N⟩) n n))(h2:w.cell? ⟨I i,B+j,N⟩=S (.int .u8 (x:Int))):
 za prog 180 #[.int .i64 (i:Int),.int .i64 (j:Int),.pointer (S ⟨D,0,N⟩),.pointer (S ⟨ps,0,N⟩)] w fun e w'=>e=.returned (.int .u8 (x:Int))/\aa w.heap.size w w':=by
 go_enter func180,ntmps180;go_wp2;go_quiet (fail)
 go_wp2;go_ret;exact⟨rfl,ac bR _⟩
theorem WM (D H I J i j l ca cb:Nat)(a b:Option ah)(A B:List (List Nat))(w:World)(hi:i<A.length)(hl:l<(Qh A i).length)(a0:l<B.length)(hj:j<(Qh B l).length)(hA:w.cell? ⟨D,0,N⟩=S (.slice a A.length ca))(hB:w.cell? ⟨I,0,N⟩=S (.slice b B.length cb))(hI:w.cell? ⟨H,0,N⟩=S (.int .i64 (i:Int)))(hJ:w.cell? ⟨J,0,N⟩=S (.int .i64 (j:Int)))(K:QJ w a A)(O:QJ w b B)(bA:QR A)(bB:QR B):
 za prog 214 #[.int .i64 (l:Int),.pointer (S ⟨D,0,N⟩),.pointer (S ⟨H,0,N⟩),.pointer (S ⟨I,0,N⟩),.pointer (S ⟨J,0,N⟩)] w fun e w'=>e=.returned (.int .u8 ((Gf.mul (Gf.nth (Qh A i) l) (Gf.nth (Qh B l) j):Nat):Int))/\aa w.heap.size w w':=by
 obtain⟨a1,a2,a3,a4,a5,rfl,a6,a7⟩:=K.at hi hl;obtain⟨b1,b2,b3,b4,b5,rfl,b6,b7⟩:=O.at a0 hj;have U:=bA i l;have Z:=bB l j;clear K O;generalize Gf.nth (Qh A i) l=x at *;generalize Gf.nth (Qh B l) j=y at *;go_enter func214,ntmps214;go_wp2;go_quiet ((go_at_call 182;exact Calls.quiet_of_same (mI x y _ U Z)))
 go_wp2;go_ret;exact⟨rfl,ac bR _⟩
theorem JrC (n:Nat)(w:World)(I:n<2^62):za prog 199 #[.int .i64 (n:Int)] w fun e w'=>e=.returned (.bool (decide (1<=n/\n<=16)))/\w'=w:=by
 by_cases D:1<=n
 ·by_cases H:n<=16
  ·have B:Hid (decide (1<=n/\n<=16)=true):=decide_eq_true ⟨D,H⟩;go_enter func199,ntmps199;go_wp2;go_ret;exact⟨sB ((decide_eq_true (by omega)).trans B.out.symm),rfl⟩
  ·have B:Hid (decide (1<=n/\n<=16)=false):=decide_eq_false (fun h=>H h.2);go_enter func199,ntmps199;go_wp2;go_ret;exact⟨sB ((decide_eq_false (by omega)).trans B.out.symm),rfl⟩
 ·rw[decide_eq_false (fun h=>D h.1:¬(1<=n/\n<=16))];go_enter func199,ntmps199;go_wp2;go_ret;exact⟨rfl,rfl⟩
theorem E9 (n:Nat)(w:World)(B:1<=n)(D:n<=16):za prog 199 #[.int .i64 (n:Int)] w fun e w'=>e=.returned (.bool true)/\w'=w:=by
 have:=JrC n w (by omega);rw[decide_eq_true (⟨B,D⟩:1<=n/\n<=16)]at this;exact this
theorem wW (p:Option ah)(M:List (List Nat))(cap:Nat)(w:World)(B:jQ M)(h:QJ w p M):
 za prog 175 #[.slice p M.length cap] w fun e w'=>e=.returned .nilIface/\w'=w:=by
 have K:Hid _:=B;have l1:=B.1;have l2:=B.2.1;have O:=(B.2.2 0 (by omega)).1;have U:=(B.2.2 0 (by omega)).2.1;clear B;rcases h with h|⟨b,o,rfl,hb,D⟩
 ·rw[h]at l1;simp at l1
 obtain⟨Z,c0,H,_⟩:=D 0 (by omega);have a2:w.cell? ⟨b,o,N⟩=S (.slice Z (Qh M 0).length c0):=H;have HC:Hid (∀i,i<M.length->∃q c,w.cell? ⟨b,o+i,N⟩=S (.slice q (Qh M 0).length c)):=fun i I=>by
  obtain⟨q,c,J,_⟩:=D i I;rw[(K.out.2.2 i I).2.2]at J;exact⟨q,c,J⟩
 clear D H;generalize (Qh M 0).length=n at *;go_enter func175,ntmps175;go_wp2_with (first|(go_at_call 199;with_reducible refine(E9 M.length _ l1 l2).mono ?_;rintro e w' ⟨rfl,rfl⟩)|(go_at_call 199;refine(E9 n _ O U).mono ?_;rintro e w' ⟨rfl,rfl⟩))
 go_loop [20] (fun j=>∃k:Nat,k<=M.length/\j=.int .i64 k) (fun j=>M.length-(intOf j).toNat)
 case atStart=>exact⟨0,by omega,rfl⟩
 case round =>
  obtain⟨k,hk,rfl⟩:=hrel;by_cases a0:k<M.length
  ·obtain⟨q,c,hq⟩:=HC.out k a0;go_wp2
   go_round
   case rel=>exact⟨k+1,by omega,by go_num⟩
   case measure=>simp[intOf];omega
  ·go_wp2;go_ret;exact⟨rfl,rfl⟩
theorem FC (B:jQ M)(D:i<M.length):(Qh M i).length=(Qh M 0).length:=(B.2.2 i D).2.2
theorem R7 (H D i j ca cb:Nat)(a b:Option ah)(A B:List (List Nat))(w:World)(hA:jQ A)(hB:jQ B)(hk:(Qh A 0).length=B.length)(hi:i<A.length)(hj:j<(Qh B 0).length)(a2:w.cell? ⟨H,0,N⟩=S (.slice a A.length ca))(a3:w.cell? ⟨D,0,N⟩=S (.slice b B.length cb))(mA:QJ w a A)(mB:QJ w b B)(Z:QR A)(bB:QR B):
 za prog 212 #[.int .i64 (i:Int),.int .i64 (j:Int),.pointer (S ⟨D,0,N⟩),.pointer (S ⟨H,0,N⟩)] w fun e w'=>e=.returned (.int .u8 ((jM A B i j B.length:Nat):Int))/\aa w.heap.size w w':=by
 have l2:=hB.2.1;have ha:=Qf a2;have hb:=Qf a3;obtain⟨I,J⟩:=Xb ((w.alloc (.cells #[.int .i64 (i:Int)] 3)).alloc (.cells #[.int .i64 (j:Int)] 3));have O:aa w.heap.size w I:=by rw[J];exact(bR.alloc nR _).alloc (by simp) _
 have b0:I.heap.size=w.heap.size+2:=by rw[J];simp
 have a4:I.cell? ⟨w.heap.size,0,N⟩=S (.int .i64 (i:Int)):=by rw[J,ae _ _ _ (by simp),ab _ _ _ _ rfl];rfl
 have a5:I.cell? ⟨w.heap.size+1,0,N⟩=S (.int .i64 (j:Int)):=by rw[J,ab _ _ _ _ (by simp)];rfl
 have a6:=(O.cell (p:=⟨H,0,N⟩) ha).trans a2;have a0:=(O.cell (p:=⟨D,0,N⟩) hb).trans a3;have b1:((w.alloc (.cells #[.int .i64 (i:Int)] 3)).alloc (.cells #[.int .i64 (j:Int)] 3)).cell? ⟨D,0,N⟩=S (.slice b B.length cb):=by rw[<-J];exact a0
 have HC:Hid (∀l,l<B.length->∀K,aa I.heap.size I K->za prog 214 (#[.int .i64 (l:Int)]++#[.pointer (S ⟨H,0,N⟩),.pointer (S ⟨w.heap.size,0,N⟩),.pointer (S ⟨D,0,N⟩),.pointer (S ⟨w.heap.size+1,0,N⟩)]) K fun e w3=>e=.returned (.int .u8 ((Gf.mul (Gf.nth (Qh A i) l) (Gf.nth (Qh B l) j):Nat):Int))/\aa K.heap.size K w3):=by
  intro l hl K U;exact WM H w.heap.size D (w.heap.size+1) i j l ca cb a b A B K hi (by rw[FC hA hi,hk];exact hl) hl (by rw[FC hB hl];exact hj) ((U.cell (p:=⟨H,0,N⟩) (by show H<_;omega)).trans a6) ((U.cell (p:=⟨D,0,N⟩) (by show D<_;omega)).trans a0) ((U.cell (p:=⟨w.heap.size,0,N⟩) (by show w.heap.size<_;omega)).trans a4) ((U.cell (p:=⟨w.heap.size+1,0,N⟩) (by show w.heap.size+1<_;omega)).trans a5) ((mA.below O).below U) ((mB.below O).below U) Z bB
 have HS:=JsH B.length (fun l=>Gf.mul (Gf.nth (Qh A i) l) (Gf.nth (Qh B l) j)) 214 #[.pointer (S ⟨H,0,N⟩),.pointer (S ⟨w.heap.size,0,N⟩),.pointer (S ⟨D,0,N⟩),.pointer (S ⟨w.heap.size+1,0,N⟩)] I (by omega) (fun l=>Gf.aV (Z i l) _) (enters_of func214 (by kernel_rfl) rfl) (jM A B i j) rfl (fun _=>rfl) (o8 A B Z i j) HC.out;have a7:Hid _:=J;have a8:Hid _:=O;clear hA hB hk J O a4 a5 a6 a0 mA mB a2 a3 Z bB HC;go_enter func212,ntmps212;go_wp2_with (go_at_call 213;rw[<-a7.out];refine HS.mono ?_;rintro e K ⟨rfl,a9⟩)
 go_ret;exact⟨rfl,a8.out.trans (a9.mono (by omega))⟩
theorem RK (a b:Option ah)(A B:List (List Nat))(I J:Nat)(w:World)(hA:jQ A)(hB:jQ B)(hk:(Qh A 0).length=B.length)(bA:QR A)(bB:QR B)(mA:QJ w a A)(mB:QJ w b B):
 za prog 198 #[.slice a A.length I,.slice b B.length J] w fun e w'=>(∃U,e=.returned (.tuple #[.slice (S ⟨U,0,N⟩) A.length A.length,.nilIface])/\QJ w' (S ⟨U,0,N⟩) (xW A B A.length))/\aa w.heap.size w w':=by
 have d7:=hA.1;have d8:=hA.2.1;have d9:=hB.1;have e0:=hB.2.1;have e1:=(hB.2.2 0 (by omega)).1;have e2:=(hB.2.2 0 (by omega)).2.1;have HA:Hid _:=hA;have b6:Hid _:=hB;have BA:Hid _:=bA;have BB:Hid (QR B):=bB;obtain⟨D,K⟩:=Xb ((w.alloc (.cells #[.slice a A.length I] 222)).alloc (.cells #[.slice b B.length J] 222));have Z:aa w.heap.size w D:=by rw[K];exact(bR.alloc nR _).alloc (by simp) _
 have e3:D.heap.size=w.heap.size+2:=by rw[K];simp
 have b7:D.cell? ⟨w.heap.size,0,N⟩=S (.slice a A.length I):=by rw[K,ae _ _ _ (by simp),ab _ _ _ _ rfl];rfl
 have b8:D.cell? ⟨w.heap.size+1,0,N⟩=S (.slice b B.length J):=by rw[K,ab _ _ _ _ (by simp)];rfl
 have a8:Hid (QJ D a A):=mA.below Z;have a9:Hid (QJ D b B):=mB.below Z;have HK:Hid ((Qh A 0).length=B.length):=hk;have d1:Hid (∀W:World,aa D.heap.size D W->∀i j,i<A.length->j<(Qh B 0).length->∀H,aa W.heap.size W H->za prog 212 (#[.int .i64 (i:Int),.int .i64 (j:Int)]++#[.pointer (S ⟨w.heap.size+1,0,N⟩),.pointer (S ⟨w.heap.size,0,N⟩)]) H fun e O=>e=.returned (.int .u8 ((jM A B i j B.length:Nat):Int))/\aa H.heap.size H O):=by
  intro W hW i j hi hj H h2;have a0:aa D.heap.size D H:=hW.trans (h2.mono hW.size);exact R7 w.heap.size (w.heap.size+1) i j I J a b A B H HA.out b6.out HK.out hi hj ((a0.cell (p:=⟨w.heap.size,0,N⟩) (by show w.heap.size<_;omega)).trans b7) ((a0.cell (p:=⟨w.heap.size+1,0,N⟩) (by show w.heap.size+1<_;omega)).trans b8) (a8.out.below a0) (a9.out.below a0) BA.out BB.out
 obtain⟨a1,a2,a3,a4,a5,rfl,e4,_,b0,_⟩:=a8.out.row (i:=0) (by omega) (by rw[hk];omega);obtain⟨b1,b2,b3,b4,b5,rfl,e5,_,c8,_⟩:=a9.out.row (i:=0) (by omega) (by omega);rw[hk]at b0;have cA:D.cell? ⟨a1,a2,N⟩=S (.slice (S ⟨a3,a4,N⟩) B.length a5):=b0;have cB:D.cell? ⟨b1,b2,N⟩=S (.slice (S ⟨b3,b4,N⟩) (Qh B 0).length b5):=c8;have d2:Hid (aa w.heap.size w D):=Z;have d3:Hid (D=(w.alloc (.cells #[.slice (S ⟨a1,a2,N⟩) A.length I] 222)).alloc (.cells #[.slice (S ⟨b1,b2,N⟩) B.length J] 222)):=K;have ia:(0:Int)<(A.length:Int):=by omega
 have ib:(0:Int)<(B.length:Int):=by omega
 have na:0<A.length:=by omega
 have nb:0<B.length:=by omega
 clear hA hB hk bA bB mA mB Z K b0 c8;go_enter func198,ntmps198;go_wp2_with fail
 rw[<-d3.out];refine wp_region_still_lit (by kernel_rfl) (by kernel_rfl) ?_
 repeat still_step
 still_call (wW _ A I _ HA.out (a8.out.drewN 1))
 repeat still_step
 still_call (wW _ B J _ b6.out (a9.out.drewN 1))
 repeat still_step
 refine wpStill_nil ?_;change Exit.then _ _ _ _ (D.drewN 1);have a6:aa D.heap.size D (D.drewN 1):=ac bR _;have qA:(D.drewN 1).cell? ⟨w.heap.size,0,N⟩=S (.slice (S ⟨a1,a2,N⟩) A.length I):=b7;have qB:(D.drewN 1).cell? ⟨w.heap.size+1,0,N⟩=S (.slice (S ⟨b1,b2,N⟩) B.length J):=b8;have qC:(D.drewN 1).cell? ⟨b1,b2,N⟩=S (.slice (S ⟨b3,b4,N⟩) (Qh B 0).length b5):=cB;generalize D.drewN 1=H at a6 qA qB qC ⊢;have d4:Hid (aa D.heap.size D H):=a6;have e6:D.heap.size<=H.heap.size:=a6.size;clear a6 cA cB;go_wp2_with fail
 refine wp_region_still_tail 7 (by kernel_rfl) (by kernel_rfl) ?_;simp only[List.take_succ_cons,List.take_zero,List.drop_succ_cons,List.drop_zero]
 repeat still_step
 refine wpStill_nil ?_;have a7:aa D.heap.size D (H.drewN 1):=ac d4.out 1;change wpList _ _ _ _ _ (H.drewN 1);generalize H.drewN 1=O at a7 ⊢;have d0:Hid (aa D.heap.size D O):=a7;have e7:D.heap.size<=O.heap.size:=a7.size;clear a7 qA qB qC;go_wp2_with (go_at_call 176;refine(tP A.length (Qh B 0).length (fun i j=>jM A B i j B.length) 212 #[.pointer (S ⟨w.heap.size+1,0,N⟩),.pointer (S ⟨w.heap.size,0,N⟩)] O (by omega) (by omega) (enters_of func212 (by kernel_rfl) rfl) (d1.out O d0.out)).mono ?_;rintro e w4 ⟨⟨U,gs,rfl,d5⟩,d6⟩)
 go_ret2
 exact⟨⟨U,rfl,d5.tU (fun i j=>o8 A B BA.out i j _) A.length nR⟩,(d2.out.trans (d0.out.mono (by omega))).trans (d6.mono (by omega))⟩
def QO (B:Nat)(D:Nat->Nat)(r:Nat)(k:Nat):Prop:=k=B∨∃i,i<r/\D i=k
theorem Zv.blocks {B D:Nat}{H:Nat->Nat}{r:Nat}{f:Nat->Nat->Nat}(h:Zv w B D H r n f):∀k,QO D H r k->B<=k/\k<w.heap.size:=fun k I=>by
 rcases I with rfl|⟨i,J,rfl⟩
 ·exact h.rows.lt
 ·exact(h.all.row i J).lt
theorem EX {k d:Nat}{u:Nat->Nat->Lin.F}(h:Lin.cL n k v d)(D:∀i,i<k->∀j,j<n->v i j=u i j):Lin.cL n k u d:=by
 obtain⟨b,H,I,J⟩:=h;exact⟨b,H,fun i B=>Lin.aX (I i B) D (fun _ _=>rfl),fun i B=>Lin.aX (J i B) (fun _ _ _ _=>rfl) (D i B)⟩
def JK (M:List (List Nat))(r:Nat):Nat->Nat->Nat:=fun i j=>if j<r then Gf.nth (Qh M i) j else if i=j-r then 1 else 0
theorem OM (h:QR M)(r i j:Nat):JK M r i j<256:=by
 unfold JK;by_cases e:j<r
 ·rw[if_pos e];exact h i j
 ·by_cases B:i=j-r
  ·rw[if_neg e,if_pos B];decide
  ·rw[if_neg e,if_neg B];decide
theorem IW (M:List (List Nat))(r i j:Nat)(B:j<r):Ym (JK M r) i j=vec M i j:=by
 unfold Ym JK;rw[if_pos B];rfl
theorem JkM (M:List (List Nat))(r i j:Nat):Ym (JK M r) i (r+j)=Lin.one i j:=by
 unfold Ym JK Lin.one;rw[if_neg (by omega),show r+j-r=j by omega];by_cases e:i=j
 ·rw[if_pos e,if_pos e];rfl
 ·rw[if_neg e,if_neg e];rfl
def xQ (w':World)(M:List (List Nat))(z:ah)(e:Ending):Prop :=
 ∃d:Nat,Lin.cL M.length M.length (vec M) d/\((d<M.length/\e=.returned (.tuple #[.slice N 0 0,.iface 287 (.pointer (S z))])) ∨
  (d=M.length/\∃(B:Nat) (x:Nat->Nat->Nat),e=.returned (.tuple #[.slice (S ⟨B,0,N⟩) M.length M.length,.nilIface])/\QJ w' (S ⟨B,0,N⟩) (XB M.length M.length x)/\(∀i j,x i j<256)/\∀i j,i<M.length->j<M.length->Lin.mm M.length (Ym x) (vec M) i j=Lin.one i j))
theorem FJ (p:Option ah)(M:List (List Nat))(cap:Nat)(z:ah)(w:World)(hM:jQ M)(b4:(Qh M 0).length=M.length)(hb:QR M)(h:QJ w p M)
 (hz:w.cell? ⟨9,0,N⟩=S (.iface 287 (.pointer (S z)))):
 za prog 148 #[.slice p M.length cap] w fun e w'=>xQ w' M z e/\aa w.heap.size w w':=by
 have HM:Hid (jQ M):=hM;have l1:1<=M.length:=hM.1;have l2:M.length<=16:=hM.2.1;have e5:9 <w.heap.size:=Qf hz;have e6:Hid (QR M):=hb;obtain⟨K,a3⟩:=Xb (w.alloc (.cells #[.slice p M.length cap] 222));have a7:=Zk a3;have h8:=QT a3;have b5:Hid (QJ K p M):=h.below a7;have b6:K.cell? (pA w.heap.size 0)=S (.slice p M.length cap):=XX a3 rfl;have e7:Hid (K.cell? ⟨9,0,N⟩=S (.iface 287 (.pointer (S z)))):=(a7.cell (p:=⟨9,0,N⟩) e5).trans hz;have e8:Hid (aa w.heap.size w K):=a7;have e9:Hid (∀i,i<M.length->(Qh M i).length=M.length):=fun i U=>(hM.2.2 i U).2.2.trans b4
 obtain⟨b,o,b1,o1,c1,f3,f4,_,b7,_⟩:=b5.out.row (i:=0) (by omega) (by rw[b4];omega);rw[b4]at b7;have f5:K.cell? (pA b o)=S (.slice (S (pA b1 o1)) M.length c1):=b7;subst f3;have f6:Hid (K=w.alloc (.cells #[.slice (S (pA b o)) M.length cap] 222)):=a3;have i0:0<M.length:=by omega
 have i1:(0:Int)<(M.length:Int):=by omega
 clear hM hb h hz a7 a3 b7 b4;go_enter func148,ntmps148;go_wp2_with fail
 rw[<-f6.out];go_quiet ((go_at_call 175;exact Calls.quiet_of_same (wW _ M cap _ HM.out (b5.out.drewN _))))
 obtain⟨H,a8⟩:=Xb (K.drewN nq);have b8:aa K.heap.size K H:=by rw[a8];exact ac bR _
 have f7:H.heap.size=K.heap.size:=by rw[a8];rfl
 rw[<-a8];have f8:H.cell? (pA w.heap.size 0)=S (.slice (S (pA b o)) M.length cap):=(b8.cell (p:=(pA w.heap.size 0)) (by show w.heap.size<_;omega)).trans b6;obtain⟨B,a4⟩:=Xb (H.alloc (.cells #[.int .i64 (M.length:Int)] 3));have a5:aa K.heap.size K B:=by rw[a4];exact b8.alloc (by omega) _
 have h9:B.heap.size=w.heap.size+2:=by rw[a4];simp;omega
 have c8:B.cell? (pA (w.heap.size+1) 0)=S (.int .i64 (M.length:Int)):=by rw[a4,ab _ _ _ _ (by omega)];rfl
 have d4:B.cell? (pA w.heap.size 0)=S (.slice (S (pA b o)) M.length cap):=(a5.cell (p:=(pA w.heap.size 0)) (by show w.heap.size<_;omega)).trans b6;have f9:Hid (QJ B (S (pA b o)) M):=b5.out.below a5;have g0:Hid (B.cell? ⟨9,0,N⟩=S (.iface 287 (.pointer (S z)))):=(a5.cell (p:=⟨9,0,N⟩) (by show 9 <_;omega)).trans e7.out;have g1:Hid (aa w.heap.size w B):=e8.out.trans (a5.mono (by omega));have a9:Hid (∀i j,i<M.length->j<2*M.length->∀H,aa B.heap.size B H->za prog 177 (#[.int .i64 (i:Int),.int .i64 (j:Int)]++#[.pointer (S (pA (w.heap.size+1) 0)),.pointer (S (pA w.heap.size 0))]) H fun e B=>e=.returned (.int .u8 ((JK M M.length i j:Nat):Int))/\aa H.heap.size H B):=by
  intro i j U hj I h4;exact UM (w.heap.size+1) w.heap.size i j M.length cap _ M I U hj (e9.out i U) (by omega) ((h4.cell (p:=(pA (w.heap.size+1) 0)) (by show w.heap.size+1<_;omega)).trans c8) ((h4.cell (p:=(pA w.heap.size 0)) (by show w.heap.size<_;omega)).trans d4) (f9.out.below h4)
 have g2:Hid (B=H.alloc (.cells #[.int .i64 (M.length:Int)] 3)):=a4;have i2:H.heap.size=w.heap.size+1:=by omega
 clear a8 b8 f7 a4 a5 b6 f5 f4;have d0:=tP M.length (2*M.length) (JK M M.length) 177 #[.pointer (S (pA (w.heap.size+1) 0)),.pointer (S (pA w.heap.size 0))] B (by omega) (by omega) (enters_of func177 (by kernel_rfl) rfl) a9.out;rw[show((2*M.length:Nat):Int)=2*(M.length:Int) by omega]at d0;go_wp2_with (go_at_call 176;rw[<-g2.out];refine d0.mono ?_;rintro e I ⟨⟨D,J,rfl,b0⟩,d1⟩)
 have d5:Hid (Zv I B.heap.size D J M.length (2*M.length) (JK M M.length)):=b0;have i3:D<I.heap.size:=b0.rows.lt.2;have g3:B.heap.size<=I.heap.size:=d1.size;obtain⟨O,a6⟩:=Xb (I.alloc (.cells #[.slice (S (pA D 0)) M.length M.length] 222));rw[<-a6];have d2:=Zk a6;have i4:=QT a6;have b2:aa B.heap.size B O:=d1.trans (d2.mono g3);have d6:O.cell? (pA (w.heap.size+1) 0)=S (.int .i64 (M.length:Int)):=(b2.cell (p:=(pA (w.heap.size+1) 0)) (by show w.heap.size+1<_;omega)).trans c8;have g4:O.cell? (pA I.heap.size 0)=S (.slice (S (pA D 0)) M.length M.length):=XX a6 rfl;have d7:Hid (O.cell? ⟨9,0,N⟩=S (.iface 287 (.pointer (S z)))):=(b2.cell (p:=⟨9,0,N⟩) (by show 9 <_;omega)).trans g0.out;have g5:Hid (Zv O B.heap.size D J M.length (2*M.length) (JK M M.length)):=b0.below d2;have g6:Hid (aa w.heap.size w O):=g1.out.trans (b2.mono (by omega));have a2:Hid (∀k,QO D J M.length k->B.heap.size<=k/\k<I.heap.size):=d5.out.blocks;have g7:Hid (∀W:World,aa O.heap.size O W->za prog 179 #[.slice (S (pA D 0)) M.length M.length,.int .i64 (M.length:Int)] W fun e w'=>∃(d:Nat) (Z:Nat->Nat) (g:Nat->Nat->Nat),e=.returned (.int .i64 (d:Int))/\ZI (QO D J M.length) O w'/\Zv w' B.heap.size D Z M.length (2*M.length) g/\(∀i j,g i j<256)/\Lin.eO M.length (2*M.length) M.length (Ym (JK M M.length)) (Ym g) d):=by
  intro W hW;refine(JnT (QO D J M.length) B.heap.size D J M.length (2*M.length) M.length (JK M M.length) z W (by omega) (by omega) (by omega) (OM e6.out M.length) (g5.out.below hW) (Or.inl rfl) (fun i U=>Or.inr ⟨i,U,rfl⟩) (fun k hk=>⟨(a2.out k hk).1,by have:=(a2.out k hk).2;have:=hW.size;omega⟩) (by omega) ((hW.cell (p:=⟨9,0,N⟩) (by show 9 <_;omega)).trans d7.out)).mono ?_;rintro e w' ⟨hF,d,Z,g,rfl,hG,hl,hR⟩;exact⟨d,Z,g,rfl,(ZP hW).trans hF,hG,hl,hR⟩
 have nS:¬QO D J M.length (w.heap.size+1):=fun hk=>by have:=(a2.out _ hk).1;omega
 have nB:¬QO D J M.length I.heap.size:=fun hk=>by have:=(a2.out _ hk).2;omega
 have nE:¬QO D J M.length 9:=fun hk=>by have:=(a2.out _ hk).1;omega
 have NS:Hid (¬QO D J M.length (w.heap.size+1)):=nS;have NB:Hid (¬QO D J M.length I.heap.size):=nB;have NE:Hid (¬QO D J M.length 9):=nE;clear nS nB nE a6 d2 b2 d1 b0 d5 c8 f8 d4 d0 a9;go_cut [30]from 26 to 30 (fun v wc=>∃(d:Nat) (Z:Nat->Nat) (g:Nat->Nat->Nat),v=.bool (decide (d<M.length))/\ZI (QO D J M.length) O wc/\Zv wc B.heap.size D Z M.length (2*M.length) g/\(∀i j,g i j<256)/\Lin.eO M.length (2*M.length) M.length (Ym (JK M M.length)) (Ym g) d)
 case first =>
  go_region_with (go_at_call 179;refine(g7.out _ (by first|exact bR.drew|exact Below.refl _ _)).mono ?_;rintro e w6 ⟨d,Z,g,rfl,hF,hG,hl,hR⟩;have d8:=hF.cell d6 NS.out)
  all_goals (go_wp2_with fail;go_meet)
  all_goals exact⟨d,Z,g,rfl,hF,hG,hl,hR⟩
 case rest =>
  obtain⟨d,Z,g,rfl,a0,d9,e0,b3⟩:=hcut;have i5:Hid (ZI (QO D J M.length) O wc):=a0;have g8:Hid (Zv wc B.heap.size D Z M.length (2*M.length) g):=d9;have e1:Hid (∀i j,g i j<256):=e0;have g9:Hid (Lin.eO M.length (2*M.length) M.length (Ym (JK M M.length)) (Ym g) d):=b3;have e2:Hid (Lin.cL M.length M.length (vec M) d):=EX (b3.xN (by omega)) (fun i _ j hj=>IW M M.length i j hj);have h0:wc.cell? ⟨9,0,N⟩=S (.iface 287 (.pointer (S z))):=a0.cell d7.out NE.out;have d8:wc.cell? (pA (w.heap.size+1) 0)=S (.int .i64 (M.length:Int)):=a0.cell d6 NS.out;have h1:wc.cell? (pA I.heap.size 0)=S (.slice (S (pA D 0)) M.length M.length):=a0.cell g4 NB.out;have i8:O.heap.size<=wc.heap.size:=a0.size;have e3:Hid (aa w.heap.size w wc):=g6.out.trans ((a0.below (fun k hk=>(a2.out k hk).1) (by omega)).mono (by omega));have i9:d<=M.length:=b3.le;clear a0 d9 e0 b3;by_cases hd:d<M.length
  ·have HD:Hid (d<M.length):=hd;rw[decide_eq_true hd];clear hd;go_wp2;go_quiet (fail)
   go_wp2
   go_ret2
   exact⟨⟨d,e2.out,Or.inl ⟨HD.out,rfl⟩⟩,ac e3.out _⟩
  ·have d3:d=M.length:=by omega
   have HD:Hid (d=M.length):=d3;have h2:Hid (Lin.eO M.length (2*M.length) M.length (Ym (JK M M.length)) (Ym g) M.length):=by have:=g9.out;rw[d3]at this;exact this
   rw[decide_eq_false hd];clear hd d3 h0;have a9:Hid (∀i j,i<M.length->j<M.length->∀H,aa wc.heap.size wc H->za prog 180 (#[.int .i64 (i:Int),.int .i64 (j:Int)]++#[.pointer (S (pA I.heap.size 0)),.pointer (S (pA (w.heap.size+1) 0))]) H fun e B=>e=.returned (.int .u8 ((g i (M.length+j):Nat):Int))/\aa H.heap.size H B):=by
    intro i j U hj w7 h7;have e4:=g8.out.below h7;refine JlF I.heap.size (w.heap.size+1) i j M.length D M.length (2*M.length) Z (g i (M.length+j)) w7 U (by omega) (by omega) ((h7.cell (p:=(pA I.heap.size 0)) (by show I.heap.size<_;omega)).trans h1) ((h7.cell (p:=(pA (w.heap.size+1) 0)) (by show w.heap.size+1<_;omega)).trans d8) (e4.rows.cell i U) ?_;rw[(e4.all.row i U).cell (M.length+j) (by omega) (Jf _ _),Yq _ _ _ (by omega)]
   go_wp2_with (go_at_call 176;refine(tP M.length M.length (fun i j=>g i (M.length+j)) 180 #[.pointer (S (pA I.heap.size 0)),.pointer (S (pA (w.heap.size+1) 0))] wc (by omega) (by omega) (enters_of func180 (by kernel_rfl) rfl) a9.out).mono ?_;rintro e w8 ⟨⟨h3,j1,rfl,h5⟩,h6⟩)
   go_ret2
   refine⟨⟨d,e2.out,Or.inr ⟨HD.out,h3,fun i j=>g i (M.length+j),rfl,h5.tU (fun i j=>e1.out _ _) M.length nR,fun i j=>e1.out _ _,?_⟩⟩,e3.out.trans (h6.mono (by omega))⟩;exact h2.out.kM (fun i j _ hj=>IW M M.length i j hj) (fun i j _ _=>JkM M M.length i j)
def kK (k n:Nat):List (List Nat):=(List.range n).map fun i=>Qi k fun j=>Gf.aQ (JB k) j i
theorem sI (k:Nat):(JB k).Nodup:=List.nodup_range
theorem JE (k:Nat):(JB k).length=k:=by simp[JB]
theorem tA (k:Nat)(h:k<=256):Gf.Bytes (JB k):=fun i=>by
 by_cases B:i<k
 ·rw[Gf.aK _ _ (by rw[JE];exact B)];simp[JB];omega
 ·unfold Gf.nth;rw[List.getD_eq_getElem?_getD,List.getElem?_eq_none (by rw[JE];omega)];decide
theorem xT (k r:Nat)(h:r<k):Gf.nth (JB k) r=r:=by
 rw[Gf.aK _ r (by rw[JE];exact h)];simp[JB]
theorem IC (k:Nat)(I:k<=256):Lin.dD k k (Ym Gf.bZ):=by
 have h:=R3 (JB k) (tA k I) (sI k);rw[JE]at h;intro c B;refine h c (fun j D=>?_);rw[<-B j D];exact Lin.aH fun r H=>by
  show Lin.mu (c r) (Qm (Gf.bZ (Gf.nth (JB k) r) j))=_;rw[xT k r H];rfl
theorem BD (h:Lin.dD n n v):Lin.cL n n v n:=⟨v,h,fun _ B=>Lin.aU v B,fun _ B=>Lin.aU v B⟩
theorem nY:∀i j,Gf.bZ i j<256:=fun i j=>Gf.dV i j
theorem N4 (n k:Nat)(hn:n<=12)(a2:k<=n)(x:Nat->Nat->Nat)(Z:∀i j,x i j<256)(a0:∀i j,i<k->j<k->Lin.mm k (Ym x) (Ym Gf.bZ) i j=Lin.one i j)(i j:Nat)(hi:i<n)(H:j<k):
 jM (XB n k Gf.bZ) (XB k k x) i j k=Gf.aQ (JB k) j i:=by
 refine zA (o8 _ _ (J6 nY) i j k) (Gf.bL _ _ _) ?_;rw[AF (J6 nY) (J6 Z)];have I:Lin.aL k (fun t=>Lin.mu (vec (XB n k Gf.bZ) i t) (vec (XB k k x) t j))=Lin.mm k (fun i t=>Qm (Gf.bZ i t)) (Ym x) i j:=Lin.aH fun t D=>by rw[uN hi D,uN D H];rfl
 rw[I];have J:=Lin.cK a0;have K:∀m,m<k->Qm (Gf.bZ i m)=Lin.mm k (fun i j=>Qm (Gf.aQ (JB k) j i)) (Ym Gf.bZ) i m:=fun m B=>by
  have:=Y6 (JB k) (tA k (by omega)) (sI k) i m (by omega) (by rw[JE];exact B);rw[JE]at this;rw[<-this];exact Lin.aH fun t D=>by rw[xT k t D];rfl
 have O:Lin.mm k (fun i t=>Qm (Gf.bZ i t)) (Ym x) i j=Lin.mm k (Lin.mm k (fun i j=>Qm (Gf.aQ (JB k) j i)) (Ym Gf.bZ)) (Ym x) i j:=Lin.bQ k (fun m B=>K m B) (fun _ _=>rfl);rw[O,Lin.cN];have U:Lin.mm k (fun i j=>Qm (Gf.aQ (JB k) j i)) (Lin.mm k (Ym Gf.bZ) (Ym x)) i j=Lin.mm k (fun i j=>Qm (Gf.aQ (JB k) j i)) Lin.one i j:=Lin.bQ k (fun _ _=>rfl) (fun m B=>J m j B H);rw[U,Lin.fK k _ i j H]
theorem PI (n k:Nat)(O:1<=k)(H:n<=12)(I:k<=n)(x:Nat->Nat->Nat)(J:∀i j,x i j<256)(K:∀i j,i<k->j<k->Lin.mm k (Ym x) (Ym Gf.bZ) i j=Lin.one i j):
 xW (XB n k Gf.bZ) (XB k k x) n=kK k n:=by
 rw[K1,XD k k x 0 (by omega),Jf,Zs];unfold XB kK;refine List.map_congr_left fun i B=>?_
 exact YL k _ _ (fun j D=>N4 n k H I x J K i j (List.mem_range.1 B) D)
theorem Jo4 (n k:Nat)(z:ah)(w:World)(B:1<=k)(a0:k<=n)(hn:n<=12)(hz:w.cell? ⟨9,0,N⟩=S (.iface 287 (.pointer (S z)))):
 za prog 172 #[.int .i64 (n:Int),.int .i64 (k:Int)] w fun e w'=>(∃D,e=.returned (.tuple #[.slice (S ⟨D,0,N⟩) n n,.nilIface])/\QJ w' (S ⟨D,0,N⟩) (kK k n))/\aa w.heap.size w w':=by
 have HP:=K0 n k w B a0 hn;have J:Hid _:=hz;clear hz;go_enter func172,ntmps172;go_wp2_with fail
 refine HP.mono ?_;rintro e w1 ⟨⟨D,gs,rfl,K⟩,O⟩;have a2:Hid (QJ w1 (S ⟨D,0,N⟩) (XB n k Gf.bZ)):=K.tU nY n nR;have a3:Hid _:=K.tU nY k a0;have a4:Hid _:=(O.cell (p:=⟨9,0,N⟩) (Qf J.out)).trans J.out;have a5:Hid _:=O;clear K O HP J;have H:=FJ (S ⟨D,0,N⟩) (XB k k Gf.bZ) n z w1 (zH B (by omega) B (by omega)) (by rw[XD k k Gf.bZ 0 (by omega),Jf,Zs]) (J6 nY) a3.out a4.out;unfold xQ at H;rw[Zs]at H;go_wp2_with fail
 refine H.mono ?_;rintro e w2 ⟨⟨d,hd,a9⟩,U⟩;have b0:d=k:=Lin.dY hd (EX (BD (IC k (by omega))) (fun i Z j I=>(uN Z I).symm));rcases a9 with⟨b4,_⟩|⟨_,g2,x,rfl,a6,hx,a7⟩
 ·omega
 ·have a8:Hid (aa w.heap.size w w2):=a5.out.trans (U.mono a5.out.size);have b1:=a8.out.size;have HT:=RK (S ⟨D,0,N⟩) (S ⟨g2,0,N⟩) (XB n k Gf.bZ) (XB k k x) n k w2 (zH (by omega) (by omega) B (by omega)) (zH B (by omega) B (by omega)) (by rw[XD n k Gf.bZ 0 (by omega),Jf,Zs]) (J6 nY) (J6 hx) (a2.out.below U) a6;rw[Zs,Zs,PI n k B hn a0 x hx (fun i j Z I=>by
   rw[<-a7 i j Z I];exact Lin.bQ k (fun _ _=>rfl) (fun t ht=>(uN ht I).symm))]at HT
  clear hd b0 a6 a7 U H a3 a2 a4;go_wp2_with fail
  refine HT.mono ?_;rintro e w3 ⟨⟨g3,rfl,b2⟩,b3⟩;clear HT;go_wp2
  go_ret2
  exact⟨⟨g3,rfl,b2⟩,a8.out.trans (b3.mono b1)⟩
end Go.Proofs.YtgapmoniajcliaaGreatDoor

/- Texts laid together. -/
import Derived.Test.YtaaahibncffcmaaDoorCd1
import Derived.StillTailTactics
set_option maxRecDepth 10000
set_option maxHeartbeats 4000000
open Option renaming none->aa,some->ab
open Go.World renaming cell?_alloc_at->ac,cell?_alloc_past->ae
open Option.some renaming inj->af
open Go.RowKit.Below renaming refl->ag
open Go.RowKit renaming Below->ah
open Nat renaming le_refl->ai,lt_irrefl->am,lt_of_lt_of_le->an,le_trans->ap
open Go.Calls renaming quiet_of_same->aj
open Go renaming below_drewN->ak,Calls->al
namespace Go.Proofs.YtaaahibncffcmaaDoor
open Go.Proofs.Tryd
open Go.RowKit
variable {i o B d p r j n:Nat}{S:Nat->Prop}{w w':World}{g f:Nat->Nat->Nat}
theorem WM (d f h k i j l u z:Nat) (a b:Option Addr) (A B:List (List Nat)) (w:World) (D:i < A.length) (E:l < (Qh A i).length) (G:l < B.length) (H:j < (Qh B l).length) (hA:w.cell? ⟨d,0,aa⟩=ab (.slice a A.length u)) (hB:w.cell? ⟨h,0,aa⟩=ab (.slice b B.length z)) (hI:w.cell? ⟨f,0,aa⟩=ab (.int .i64 (i:Int))) (hJ:w.cell? ⟨k,0,aa⟩=ab (.int .i64 (j:Int))) (o:QJ w a A) (r:QJ w b B) (I:QR A) (J:QR B) :
 al prog 60 #[.int .i64 (l:Int),.pointer (ab ⟨d,0,aa⟩),.pointer (ab ⟨f,0,aa⟩),.pointer (ab ⟨h,0,aa⟩),.pointer (ab ⟨k,0,aa⟩)] w fun e w'=>e=.returned (.int .u8 ((Gf.mul (Gf.nth (Qh A i) l) (Gf.nth (Qh B l) j):Nat):Int))/\ah w.heap.size w w':=by
 obtain ⟨K,L,M,N,O,rfl,Q,R⟩:=o.at D E
 obtain ⟨S,T,U,V,W,rfl,Y,Z⟩:=r.at G H
 have s:=I i l
 have t:=J l j
 clear o r
 generalize Gf.nth (Qh A i) l=x at *
 generalize Gf.nth (Qh B l) j=y at *
 go_enter func60,ntmps60
 go_wp2
 go_quiet ((go_at_call 61;exact aj (mI x y _ s t)))
 go_wp2
 go_ret
 exact ⟨rfl,ak (ag _ _) _⟩
theorem FC {M:List (List Nat)} (d:jQ M) (f:i < M.length):(Qh M i).length=(Qh M 0).length:=(d.2.2 i f).2.2
theorem R7 (h f i j D t:Nat) (a b:Option Addr) (A B:List (List Nat)) (w:World) (M:jQ A) (E:jQ B) (N:(Qh A 0).length=B.length) (O:i < A.length) (hj:j < (Qh B 0).length) (G:w.cell? ⟨h,0,aa⟩=ab (.slice a A.length D)) (H:w.cell? ⟨f,0,aa⟩=ab (.slice b B.length t)) (Q:QJ w a A) (R:QJ w b B) (u:QR A) (S:QR B) :
 al prog 58 #[.int .i64 (i:Int),.int .i64 (j:Int),.pointer (ab ⟨f,0,aa⟩),.pointer (ab ⟨h,0,aa⟩)] w fun e w'=>e=.returned (.int .u8 ((jM A B i j B.length:Nat):Int))/\ah w.heap.size w w':=by
 have l2:B.length<=16:=E.2.1
 have T:=Qf G
 have U:=Qf H
 obtain ⟨d,k⟩:∃ d,d=(w.alloc (.cells #[.int .i64 (i:Int)] 3)).alloc (.cells #[.int .i64 (j:Int)] 3):=⟨_,rfl⟩
 have r:ah w.heap.size w d:=by rw [k];exact ((ag _ _).alloc (ai _) _).alloc (by simp) _
 have a1:d.heap.size=w.heap.size+2:=by rw [k];simp
 have I:d.cell? ⟨w.heap.size,0,aa⟩=ab (.int .i64 (i:Int)):=by rw [k,ae _ _ _ (by simp),ac _ _ _ _ rfl];rfl
 have J:d.cell? ⟨w.heap.size+1,0,aa⟩=ab (.int .i64 (j:Int)):=by rw [k,ac _ _ _ _ (by simp)];rfl
 have K:d.cell? ⟨h,0,aa⟩=ab (.slice a A.length D):=(r.cell (p:=⟨h,0,aa⟩) T).trans G
 have y:d.cell? ⟨f,0,aa⟩=ab (.slice b B.length t):=(r.cell (p:=⟨f,0,aa⟩) U).trans H
 have a2:((w.alloc (.cells #[.int .i64 (i:Int)] 3)).alloc (.cells #[.int .i64 (j:Int)] 3)).cell? ⟨f,0,aa⟩=ab (.slice b B.length t):=by rw [<- k];exact y
 have L:Hid (∀ l,l < B.length->∀ o,ah d.heap.size d o->al prog 60 (#[.int .i64 (l:Int)] ++ #[.pointer (ab ⟨h,0,aa⟩),.pointer (ab ⟨w.heap.size,0,aa⟩),.pointer (ab ⟨f,0,aa⟩),.pointer (ab ⟨w.heap.size+1,0,aa⟩)]) o fun e V=>e=.returned (.int .u8 ((Gf.mul (Gf.nth (Qh A i) l) (Gf.nth (Qh B l) j):Nat):Int))/\ah o.heap.size o V):=by
  intro l z o s
  exact WM h w.heap.size f (w.heap.size+1) i j l D t a b A B o O (by rw [FC M O,N];exact z) z (by rw [FC E z];exact hj) ((s.cell (p:=⟨h,0,aa⟩) (by show h < _;omega)).trans K) ((s.cell (p:=⟨f,0,aa⟩) (by show f < _;omega)).trans y) ((s.cell (p:=⟨w.heap.size,0,aa⟩) (by show w.heap.size < _;omega)).trans I) ((s.cell (p:=⟨w.heap.size+1,0,aa⟩) (by show w.heap.size+1 < _;omega)).trans J) ((Q.below r).below s) ((R.below r).below s) u S
 have W:=dT B.length (fun l=>Gf.mul (Gf.nth (Qh A i) l) (Gf.nth (Qh B l) j)) 60 #[.pointer (ab ⟨h,0,aa⟩),.pointer (ab ⟨w.heap.size,0,aa⟩),.pointer (ab ⟨f,0,aa⟩),.pointer (ab ⟨w.heap.size+1,0,aa⟩)] d (by omega) (fun l=>Gf.aV (u i l) _) (enters_of func60 (by kernel_rfl) rfl) (jM A B i j) rfl (fun _=>rfl) (o8 A B u i j) L.out
 have Y:Hid (d=(w.alloc (.cells #[.int .i64 (i:Int)] 3)).alloc (.cells #[.int .i64 (j:Int)] 3)):=k
 have Z:Hid (ah w.heap.size w d):=r
 clear M E N k r I J K y Q R G H u S L
 go_enter func58,ntmps58
 go_wp2_with (go_at_call 59;rw [<- Y.out];refine W.mono ?_;rintro e o ⟨rfl,a0⟩)
 go_ret
 exact ⟨rfl,Z.out.trans (a0.mono (by omega))⟩
theorem RK (a b:Option Addr) (A B:List (List Nat)) (h k:Nat) (w:World) (H:jQ A) (s:jQ B) (I:(Qh A 0).length=B.length) (bA:QR A) (bB:QR B) (mA:QJ w a A) (mB:QJ w b B) :
 al prog 30 #[.slice a A.length h,.slice b B.length k] w fun e w'=>(∃ t,e=.returned (.tuple #[.slice (ab ⟨t,0,aa⟩) A.length A.length,.nilIface])/\QJ w' (ab ⟨t,0,aa⟩) (xW A B A.length))/\ah w.heap.size w w':=by
 have c0:1<=A.length:=H.1
 have c1:A.length<=16:=H.2.1
 have c2:1<=B.length:=s.1
 have c3:B.length<=16:=s.2.1
 have c5:1<=(Qh B 0).length:=(s.2.2 0 (by omega)).1
 have c6:(Qh B 0).length<=16:=(s.2.2 0 (by omega)).2.1
 have O:Hid (jQ A):=H
 have Q:Hid (jQ B):=s
 have R:Hid (QR A):=bA
 have BB:Hid (QR B):=bB
 obtain ⟨d,o⟩:∃ d,d=(w.alloc (.cells #[.slice a A.length h] 23)).alloc (.cells #[.slice b B.length k] 23):=⟨_,rfl⟩
 have u:ah w.heap.size w d:=by rw [o];exact ((ag _ _).alloc (ai _) _).alloc (by simp) _
 have c9:d.heap.size=w.heap.size+2:=by rw [o];simp
 have S:d.cell? ⟨w.heap.size,0,aa⟩=ab (.slice a A.length h):=by rw [o,ae _ _ _ (by simp),ac _ _ _ _ rfl];rfl
 have T:d.cell? ⟨w.heap.size+1,0,aa⟩=ab (.slice b B.length k):=by rw [o,ac _ _ _ _ (by simp)];rfl
 have J:Hid (QJ d a A):=mA.below u
 have K:Hid (QJ d b B):=mB.below u
 have HK:Hid ((Qh A 0).length=B.length):=I
 have a7:Hid (∀ W:World,ah d.heap.size d W->∀ i j,i < A.length->j < (Qh B 0).length->∀ f,ah W.heap.size W f->al prog 58 (#[.int .i64 (i:Int),.int .i64 (j:Int)] ++ #[.pointer (ab ⟨w.heap.size+1,0,aa⟩),.pointer (ab ⟨w.heap.size,0,aa⟩)]) f fun e r=>e=.returned (.int .u8 ((jM A B i j B.length:Nat):Int))/\ah f.heap.size f r):=by
  intro W U i j hi hj f h2
  have y:ah d.heap.size d f:=U.trans (h2.mono U.size)
  exact R7 w.heap.size (w.heap.size+1) i j h k a b A B f O.out Q.out HK.out hi hj ((y.cell (p:=⟨w.heap.size,0,aa⟩) (by show w.heap.size < _;omega)).trans S) ((y.cell (p:=⟨w.heap.size+1,0,aa⟩) (by show w.heap.size+1 < _;omega)).trans T) (J.out.below y) (K.out.below y) R.out BB.out
 obtain ⟨L,M,a3,a4,a5,rfl,d0,_,N,_⟩:=J.out.row (i:=0) (by omega) (by rw [I];omega)
 obtain ⟨z,D,V,Y,Z,rfl,d1,_,a0,_⟩:=K.out.row (i:=0) (by omega) (by omega)
 rw [I] at N
 have cA:d.cell? ⟨L,M,aa⟩=ab (.slice (ab ⟨a3,a4,aa⟩) B.length a5):=N
 have cB:d.cell? ⟨z,D,aa⟩=ab (.slice (ab ⟨V,Y,aa⟩) (Qh B 0).length Z):=a0
 have a8:Hid (ah w.heap.size w d):=u
 have a9:Hid (d=(w.alloc (.cells #[.slice (ab ⟨L,M,aa⟩) A.length h] 23)).alloc (.cells #[.slice (ab ⟨z,D,aa⟩) B.length k] 23)):=o
 have ia:(0:Int) < (A.length:Int):=by omega
 have ib:(0:Int) < (B.length:Int):=by omega
 have na:0 < A.length:=by omega
 have nb:0 < B.length:=by omega
 clear H s I bA bB mA mB u o N a0
 go_enter func30,ntmps30
 go_wp2_with fail
 rw [<- a9.out]
 refine wp_region_still_lit (by kernel_rfl) (by kernel_rfl) ?_
 repeat still_step
 still_call (wW _ A h _ O.out (J.out.drewN 1))
 repeat still_step
 still_call (wW _ B k _ Q.out (K.out.drewN 1))
 repeat still_step
 refine wpStill_nil ?_
 change Exit.then _ _ _ _ (d.drewN 1)
 have E:ah d.heap.size d (d.drewN 1):=ak (ag _ _) _
 have qA:(d.drewN 1).cell? ⟨w.heap.size,0,aa⟩=ab (.slice (ab ⟨L,M,aa⟩) A.length h):=S
 have qB:(d.drewN 1).cell? ⟨w.heap.size+1,0,aa⟩=ab (.slice (ab ⟨z,D,aa⟩) B.length k):=T
 have qC:(d.drewN 1).cell? ⟨z,D,aa⟩=ab (.slice (ab ⟨V,Y,aa⟩) (Qh B 0).length Z):=cB
 generalize d.drewN 1=f at E qA qB qC ⊢
 have b6:Hid (ah d.heap.size d f):=E
 have d2:d.heap.size<=f.heap.size:=E.size
 clear E cA cB
 go_wp2_with fail
 refine wp_region_still_tail 7 (by kernel_rfl) (by kernel_rfl) ?_
 simp only [List.take_succ_cons,List.take_zero,List.drop_succ_cons,List.drop_zero]
 repeat still_step
 refine wpStill_nil ?_
 have G:ah d.heap.size d (f.drewN 1):=ak b6.out 1
 change wpList _ _ _ _ _ (f.drewN 1)
 generalize f.drewN 1=r at G ⊢
 have a6:Hid (ah d.heap.size d r):=G
 have d3:d.heap.size<=r.heap.size:=G.size
 clear G qA qB qC
 go_wp2_with (go_at_call 27;refine (tP A.length (Qh B 0).length (fun i j=>jM A B i j B.length) 58 #[.pointer (ab ⟨w.heap.size+1,0,aa⟩),.pointer (ab ⟨w.heap.size,0,aa⟩)] r (by omega) (by omega) (enters_of func58 (by kernel_rfl) rfl) (a7.out r a6.out)).mono ?_;rintro e w4 ⟨⟨t,gs,rfl,b7⟩,b8⟩)
 go_ret2
 exact ⟨⟨t,rfl,b7.tU (fun i j=>o8 A B R.out i j _) A.length (ai _)⟩,(a8.out.trans (a6.out.mono (by omega))).trans (b8.mono (by omega))⟩
structure ZI (S:Nat->Prop) (w w':World):Prop where
 os:w'.os=w.os
 tape:w'.tape=w.tape
 output:w'.output=w.output
 size:w.heap.size<=w'.heap.size
 block:∀ k,k < w.heap.size->¬ S k->w'.heap[k]?=w.heap[k]?
theorem ZI.trans {a b c:World} (h:ZI S a b) (k:ZI S b c):ZI S a c :=
 ⟨k.os.trans h.os,k.tape.trans h.tape,k.output.trans h.output,ap h.size k.size,fun i d f=>(k.block i (an d h.size) f).trans (h.block i d f)⟩
theorem ZP  (h:ah w.heap.size w w'):ZI S w w':=⟨h.os,h.tape,h.output,h.size,fun i d _=>h.block i d⟩
theorem zO  {row:Nat} (h:w.grownBy w' (ab row)) (j:S row):ZI S w w':=⟨h.os,h.tape,h.output,h.size,fun i d f=>h.block i d (fun e=>f (by rw [af e];exact j))⟩
theorem ZI.cell  (h:ZI S w w') {b:Nat} {v:Value} (d:w.cell? ⟨b,o,aa⟩=ab v) (f:¬ S b):w'.cell? ⟨b,o,aa⟩=ab v :=
 (World.cell?_of_block (a:=⟨b,o,aa⟩) (h.block b (Qf d) f)).trans d
theorem ZI.below  (h:ZI S w w') (f:∀ k,S k->B<=k) (o:B<=w.heap.size):ah B w w':=⟨h.os,h.tape,h.output,h.size,fun k j=>h.block k (by omega) (fun d=>by have:=f k d;omega)⟩
def j7 (g:Nat->Nat->Nat) (d p k:Nat):Nat->Nat->Nat:=fun i j=>if i=d then Gf.mul (Gf.inv (g p k)) (g p j) else if i=p then g d j else g i j
def QH (h:Nat->Nat->Nat) (d k:Nat):Nat->Nat->Nat:=fun i j=>if i=d then h i j else h i j ^^^ Gf.mul (h i k) (h d j)
theorem yD (h:∀ i j,g i j < 256) (d p k i j:Nat):j7 g d p k i j < 256:=by
 unfold j7
 split
 ·exact Gf.aV (Gf.cQ _) _
 ·split <;> exact h _ _
theorem WL (h:∀ i j,g i j < 256) (d k i j:Nat):QH g d k i j < 256:=by
 unfold QH
 split
 ·exact h _ _
 ·exact Gf.iK (h _ _) (Gf.aV (h _ _) _)
def YW {f:Type} (g:Nat->f) (d p:Nat):Nat->f:=fun i=>if i=d then g p else if i=p then g d else g i
theorem oI {f:Type} (g:Nat->f) (d p i:Nat):YW g d p i=g (if i=d then p else if i=p then d else i):=by
 unfold YW
 by_cases a:i=d
 ·rw [if_pos a,if_pos a]
 ·by_cases b:i=p
  ·rw [if_neg a,if_neg a,if_pos b,if_pos b]
  ·rw [if_neg a,if_neg a,if_neg b,if_neg b]
theorem pN (f:d < r) (h:p < r) (j:i < r):(if i=d then p else if i=p then d else i) < r:=by
 by_cases a:i=d
 ·rw [if_pos a];exact h
 ·by_cases b:i=p
  ·rw [if_neg a,if_pos b];exact f
  ·rw [if_neg a,if_neg b];exact j
theorem h6 (h:(if i=d then p else if i=p then d else i)=(if j=d then p else if j=p then d else j)):i=j:=by
 split at h <;> split at h <;> (try split at h) <;> (try split at h) <;> omega
theorem iT.swap {u:Nat} {t:Nat->Nat}  (h:iT w B u t r n f) (o:d < r) (s:p < r) (z:∀ i,i < r->Zo w' B 5 (t i) n (Qi n (f i))):iT w' B u (YW t d p) r n (YW f d p) where
 row:=fun i k=>by rw [oI,oI];exact z _ (pN o s k)
 ne:=fun i k=>by rw [oI];exact h.ne _ (pN o s k)
 inj:=fun i j k y e=>by rw [oI,oI] at e;exact h6 (h.inj _ _ (pN o s k) (pN o s y) e)
theorem Zv.swap  {k:Nat->Nat}  (h:Zv w B o k r n f) (u:d < r) (y:p < r):Zv ((w.setCell ⟨o,d,aa⟩ (gG n (k p))).setCell ⟨o,p,aa⟩ (gG n (k d))).drew B o (YW k d p) r n (YW f d p):=by
 have t:w.grownBy ((w.setCell ⟨o,d,aa⟩ (gG n (k p))).setCell ⟨o,p,aa⟩ (gG n (k d))).drew (ab o):=QL (Z8 _ _ _ _) (QL (Z8 _ _ _ _) (JO _ 1 _))
 refine ⟨?_,h.all.swap u y (fun i s=>Y4 (h.all.row i s) t (h.all.ne i s))⟩
 refine Zy.congr (Zy.kept ((h.rows.set d (gG n (k p))).set p (gG n (k d))) (JO _ 1 aa) (by simp)) (fun i _=>?_)
 unfold YW
 by_cases e:i=p
 ·by_cases j:i=d
  ·rw [if_pos e,if_pos j,<- e,<- j]
  ·rw [if_pos e,if_neg j,if_pos e]
 ·by_cases j:i=d
  ·rw [if_neg e,if_pos j,if_pos j]
  ·rw [if_neg e,if_neg j,if_neg j,if_neg e]
theorem Zv.change  {j:Nat->Nat}  {v:Nat->Nat} (h:Zv w B o j r n f) (s:d < r) (t:w.grownBy w' (ab (j d))) (y:Zo w' B 5 (j d) n (Qi n v)):Zv w' B o j r n (fun i=>if i=d then v else f i) where
 rows:=h.rows.kept t (fun e=>h.all.ne d s (af e))
 all:=⟨fun i k=>by
  by_cases e:i=d
  ·simp only [e,if_true];exact y
  ·simp only [e,if_false];exact Y4 (h.all.row i k) t (fun u=>e (h.all.inj i d k s u)),h.all.ne,h.all.inj⟩
theorem Zv.congr {k:Nat} {o:Nat->Nat} {d:Nat->Nat->Nat} (h:Zv w B k o r n f) (s:∀ i j,f i j=d i j):Zv w B k o r n d:=by
 have:f=d:=funext fun i=>funext fun j=>s i j
 rw [<- this];exact h
theorem K6 (d f g n j s x:Nat) (w:World) (r:w.cell? ⟨d,0,aa⟩=ab (.int .u8 (s:Int))) (t:w.cell? ⟨f,0,aa⟩=ab (.slice (ab ⟨g,0,aa⟩) n n)) (u:w.cell? ⟨g,j,aa⟩=ab (.int .u8 (x:Int))) (y:j < n) (k:s < 256) (o:x < 256) :
 al prog 83 #[.int .i64 (j:Int),.pointer (ab ⟨d,0,aa⟩),.pointer (ab ⟨f,0,aa⟩)] w fun e h=>e=.returned (.int .u8 ((Gf.mul s x:Nat):Int))/\ah w.heap.size w h:=by
 go_enter func83,ntmps83
 go_wp2
 go_quiet ((go_at_call 61;exact aj (mI s x _ k o)))
 go_wp2
 go_ret
 exact ⟨rfl,ak (ag _ _) _⟩
theorem k7 (S:Nat->Prop) (B k:Nat) (h:Nat->Nat) (r n d c:Nat) (f:Nat->Nat->Nat) (z:Addr) (w:World) (hr:r<=1000) (hn:n<=1000) (hd:d<=r) (hc:c < n) (hf:∀ i j,f i j < 256) (hG:Zv w B k h r n f) (d3:S k) (b2:∀ i,i < r->S (h i)) (e1:2 < B)
 (hz:w.cell? ⟨2,0,aa⟩=ab (.iface 136 (.pointer (ab z)))) :
 al prog 66 #[.slice (ab ⟨k,0,aa⟩) r r,.int .i64 (d:Int),.int .i64 (c:Int)] w fun e w'=>ZI S w w' /\
  ((e=.returned (.bool false)/\(∀ i,d<=i->i < r->f i c=0)/\Zv w' B k h r n f) ∨
   (e=.returned (.bool true)/\∃ p a0,d<=p/\p < r/\f p c≠0/\(∀ i,i < r->S (a0 i))/\Zv w' B k a0 r n (j7 f d p c))):=by
 have HG:Hid (Zv w B k h r n f):=hG
 have HZ:Hid (w.cell? ⟨2,0,aa⟩=ab (.iface 136 (.pointer (ab z)))):=hz
 clear hG hz
 go_enter func66,ntmps66
 go_wp2
 go_loopw [7] (fun x wr=>∃ i:Nat,d<=i/\i<=r/\x=.int .i64 i/\(∀ t,d<=t->t < i->f t c=0)/\ah w.heap.size w wr) (fun x _=>r - (intOf x).toNat)
 case atStart=>exact ⟨d,ai _,hd,rfl,fun t h1 h2=>by omega,ag _ _⟩
 case round =>
  obtain ⟨i,b3,d4,rfl,h0,U⟩:=hrel
  obtain ⟨A,rfl⟩:∃ A,A=wr:=⟨_,rfl⟩
  have H0:Hid (∀ t,d<=t->t < i->f t c=0):=h0
  have E:Hid (ah w.heap.size w A):=U
  have H:Hid (Zv A B k h r n f):=HG.out.below U
  clear h0 U
  by_cases D:i < r
  ·have c1:A.cell? ⟨k,i,aa⟩=ab (.slice (ab ⟨h i,0,aa⟩) n n):=H.out.rows.cell i D
   have c2:A.cell? ⟨h i,c,aa⟩=ab (.int .u8 ((f i c:Nat):Int)):=by rw [(H.out.all.row i D).cell c hc (Jf _ _),Yq _ _ c hc]
   have lx:=hf i c
   by_cases I:f i c=0
   ·have b4:A.cell? ⟨2,0,aa⟩=ab (.iface 136 (.pointer (ab z))):=(E.out.cell (p:=⟨2,0,aa⟩) (by have:=HG.out.rows.lt;show 2 < _;omega)).trans HZ.out
    have V:Hid (f i c=0):=I
    rw [I] at c2
    clear I lx
    go_wp2_with (go_at_call 82;refine (NL z _ b4).mono ?_;rintro e s ⟨rfl,a1⟩)
    go_roundw
    case rel =>
     refine ⟨i+1,by omega,by omega,by go_num,fun t h1 h2=>?_,?_⟩
     ·by_cases e:t=i
      ·rw [e];exact V.out
      ·exact H0.out t h1 (by omega)
     ·exact (E.out.trans (a1.mono E.out.size)).alloc (by have:=a1.size;have:=E.out.size;omega) _
    case measure=>simp [intOf];omega
   ·have V:Hid (f i c≠0):=I
    have HI:=TG (f i c) A lx I
    clear I
    go_wp2_with (first | (go_at_call 82;refine HI.mono ?_;rintro e s ⟨rfl,rfl⟩))
    clear HI c1 c2
    have J:d < r:=by omega
    have lv:=Gf.cQ (f i c)
    obtain ⟨u,M⟩:∃ u,u=s.alloc (.cells #[.int .u8 ((Gf.inv (f i c):Nat):Int)] 5):=⟨_,rfl⟩
    rw [<- M]
    have W:ah s.heap.size s u:=by rw [M];exact (ag _ _).alloc (ai _) _
    have d5:u.heap.size=s.heap.size+1:=by rw [M];simp
    have a2:u.cell? ⟨s.heap.size,0,aa⟩=ab (.int .u8 ((Gf.inv (f i c):Nat):Int)):=by rw [M,ac _ _ _ _ rfl];rfl
    have K:Hid (Zv u B k h r n f):=H.out.below W
    have a3:Hid (ZI S w u):=ZP (E.out.trans (W.mono E.out.size))
    have d6:k < s.heap.size:=H.out.rows.lt.2
    have d7:h i < s.heap.size:=(H.out.all.row i D).lt.2
    clear M W
    have d1:u.cell? ⟨k,i,aa⟩=ab (.slice (ab ⟨h i,0,aa⟩) n n):=K.out.rows.cell i D
    have d2:u.cell? ⟨k,d,aa⟩=ab (.slice (ab ⟨h d,0,aa⟩) n n):=K.out.rows.cell d J
    have f1:u.frozen? ⟨k,i,aa⟩=false:=K.out.rows.free i
    have f2:u.frozen? ⟨k,d,aa⟩=false:=K.out.rows.free d
    obtain ⟨v',b5⟩:=cell?_setCell_some (w:=u) (p:=⟨k,d,aa⟩) (x:=.slice (ab ⟨h i,0,aa⟩) n n) (q:=⟨k,i,aa⟩) (v:=.slice (ab ⟨h i,0,aa⟩) n n) d1
    go_region
    obtain ⟨o,O⟩:∃ o,o=((u.setCell ⟨k,d,aa⟩ (.slice (ab ⟨h i,0,aa⟩) n n)).setCell ⟨k,i,aa⟩ (.slice (ab ⟨h d,0,aa⟩) n n)).drew:=⟨_,rfl⟩
    rw [<- O]
    have Y:Hid (Zv o B k (YW h d i) r n (YW f d i)):=by
     show Zv _ _ _ _ _ _ _
     rw [O]
     exact K.out.swap J D
    have Q:u.grownBy o (ab k):=by
     rw [O]
     exact QL (Z8 _ _ _ _) (QL (Z8 _ _ _ _) (JO _ 1 _))
    have a4:o.cell? ⟨s.heap.size,0,aa⟩=ab (.int .u8 ((Gf.inv (f i c):Nat):Int)):=Q.cell a2 (by show ab s.heap.size≠_;intro e;have:=af e;omega)
    have a5:Hid (ZI S w o):=a3.out.trans (zO Q d3)
    have d8:u.heap.size<=o.heap.size:=Q.size
    clear O Q d1 d2 f1 f2 b5 a2 K a3
    have L:YW h d i d=h i:=if_pos rfl
    have sf:YW f d i d=f i:=if_pos rfl
    have c6:o.cell? ⟨k,d,aa⟩=ab (.slice (ab ⟨h i,0,aa⟩) n n):=by have:=Y.out.rows.cell d J;rw [L] at this;exact this
    obtain ⟨y,N⟩:∃ y,y=o.alloc (.cells #[.slice (ab ⟨h i,0,aa⟩) n n] 32):=⟨_,rfl⟩
    have R:ah o.heap.size o y:=by rw [N];exact (ag _ _).alloc (ai _) _
    have d9:y.heap.size=o.heap.size+1:=by rw [N];simp
    have a6:y.cell? ⟨o.heap.size,0,aa⟩=ab (.slice (ab ⟨h i,0,aa⟩) n n):=by rw [N,ac _ _ _ _ rfl];rfl
    have a7:y.cell? ⟨s.heap.size,0,aa⟩=ab (.int .u8 ((Gf.inv (f i c):Nat):Int)):=(R.cell (p:=⟨s.heap.size,0,aa⟩) (by show s.heap.size < _;omega)).trans a4
    have a8:Hid (Zv y B k (YW h d i) r n (YW f d i)):=Y.out.below R
    have b6:Hid (ZI S w y):=a5.out.trans (ZP R)
    have b7:Hid (Zo y B 5 (h i) n (Qi n (f i))):=by have:=a8.out.all.row d J;rw [L,sf] at this;exact this
    have b8:Hid (∀ j,j < n->∀ G,y.grownBy G (ab (h i))->Zo G B 5 (h i) n (Qi n (fun l=>if l < j then Gf.mul (Gf.inv (f i c)) (f i l) else f i l)) ->
     al prog 83 (#[.int .i64 (j:Int)] ++ #[.pointer (ab ⟨s.heap.size,0,aa⟩),.pointer (ab ⟨o.heap.size,0,aa⟩)]) G fun e w2=>e=.returned (.int .u8 ((Gf.mul (Gf.inv (f i c)) (f i j):Nat):Int))/\ah G.heap.size G w2):=by
     intro j Z G a9 c0
     refine K6 s.heap.size o.heap.size (h i) n j (Gf.inv (f i c)) (f i j) G (a9.cell a7 (by show ab s.heap.size≠_;intro e;have:=af e;omega)) (a9.cell a6 (by show ab o.heap.size≠_;intro e;have:=af e;omega)) ?_ Z lv (hf i j)
     rw [c0.cell j Z (Jf _ _),Yq _ _ j Z,if_neg (am _)]
    have c3:Hid (y=o.alloc (.cells #[.slice (ab ⟨h i,0,aa⟩) n n] 32)):=N
    clear N R a4 a6 a7 Y a5 L sf hf
    go_wp2_with (go_at_call 54;rw [<- c3.out];refine (zL (h i) n B (f i) (fun l=>Gf.mul (Gf.inv (f i c)) (f i l)) 83 #[.pointer (ab ⟨s.heap.size,0,aa⟩),.pointer (ab ⟨o.heap.size,0,aa⟩)] y hn (enters_of func83 (by kernel_rfl) rfl) b7.out b8.out).mono ?_;rintro e w8 ⟨rfl,c5,b1⟩)
    go_ret
    have L:YW h d i d=h i:=if_pos rfl
    refine ⟨b6.out.trans (zO b1 (b2 i D)),Or.inr ⟨rfl,i,YW h d i,b3,D,V.out,fun t c9=>by rw [oI];exact b2 _ (pN J D c9),?_⟩⟩
    refine Zv.congr (a8.out.change (v:=fun l=>Gf.mul (Gf.inv (f i c)) (f i l)) J (by rw [L];exact b1) (by rw [L];exact c5)) (fun t j=>?_)
    unfold j7 YW
    by_cases e:t=d
    ·rw [if_pos e,if_pos e]
    ·by_cases T:t=i
     ·rw [if_neg e,if_neg e,if_neg e,if_pos T,if_pos T]
     ·rw [if_neg e,if_neg e,if_neg e,if_neg T,if_neg T]
  ·have d0:i=r:=by omega
   subst d0
   go_wp2
   go_ret
   exact ⟨ZP E.out,Or.inl ⟨rfl,H0.out,H.out⟩⟩
theorem RU (f h k o g s u n r j d t x y:Nat) (w:World) (E:w.cell? ⟨f,0,aa⟩=ab (.slice (ab ⟨g,0,aa⟩) n n)) (G:w.cell? ⟨h,0,aa⟩=ab (.int .u8 (t:Int))) (H:w.cell? ⟨k,0,aa⟩=ab (.slice (ab ⟨s,0,aa⟩) r r)) (I:w.cell? ⟨o,0,aa⟩=ab (.int .i64 (d:Int)))
 (J:w.cell? ⟨s,d,aa⟩=ab (.slice (ab ⟨u,0,aa⟩) n n)) (K:w.cell? ⟨g,j,aa⟩=ab (.int .u8 (x:Int))) (L:w.cell? ⟨u,j,aa⟩=ab (.int .u8 (y:Int))) (M:j < n) (N:d < r) (lt:t < 256) (B:x < 256) (D:y < 256) :
 al prog 84 #[.int .i64 (j:Int),.pointer (ab ⟨f,0,aa⟩),.pointer (ab ⟨h,0,aa⟩),.pointer (ab ⟨k,0,aa⟩),.pointer (ab ⟨o,0,aa⟩)] w fun e z=>e=.returned (.int .u8 ((x ^^^ Gf.mul t y:Nat):Int))/\ah w.heap.size w z:=by
 have A:=Gf.aV lt y
 go_enter func84,ntmps84
 go_wp2
 go_quiet ((first | (go_at_call 61;exact aj (mI t y _ lt D)) | (go_at_call 69;exact aj (oC x (Gf.mul t y) _ B A))))
 go_wp2
 go_ret
 exact ⟨rfl,ak (ag _ _) _⟩
theorem oP (S:Nat->Prop) (B u:Nat) (s:Nat->Nat) (r n d c:Nat) (f:Nat->Nat->Nat) (w:World) (hr:r<=1000) (hn:n<=1000) (Q:d < r) (hc:c < n) (R:∀ i j,f i j < 256) (hG:Zv w B u s r n f) (b2:∀ i,i < r->S (s i)) (b3:∀ k,S k->k < w.heap.size) (d3:S u) :
 al prog 67 #[.slice (ab ⟨u,0,aa⟩) r r,.int .i64 (d:Int),.int .i64 (c:Int)] w fun e w'=>e=.returned (.tuple #[])/\ZI S w w'/\Zv w' B u s r n (QH f d c):=by
 have HG:Hid (Zv w B u s r n f):=hG
 have a2:Hid (∀ k,S k->k < w.heap.size):=b3
 clear hG b3
 go_enter func67,ntmps67
 go_wp2
 obtain ⟨z,G⟩:∃ z,z=(w.alloc (.cells #[.slice (ab ⟨u,0,aa⟩) r r] 23)).alloc (.cells #[.int .i64 (d:Int)] 3):=⟨_,rfl⟩
 rw [<- G]
 have T:Hid (ah w.heap.size w z):=by
  show ah _ _ _
  rw [G]
  exact ((ag _ _).alloc (ai _) _).alloc (by simp) _
 have d4:z.heap.size=w.heap.size+2:=by rw [G];simp
 have a3:Hid (z.cell? ⟨w.heap.size,0,aa⟩=ab (.slice (ab ⟨u,0,aa⟩) r r)):=by
  show _=_
  rw [G,ae _ _ _ (by simp),ac _ _ _ _ rfl]
  rfl
 have a4:Hid (z.cell? ⟨w.heap.size+1,0,aa⟩=ab (.int .i64 (d:Int))):=by
  show _=_
  rw [G,ac _ _ _ _ (by simp)]
  rfl
 clear G
 go_loopw [11] (fun x wr=>∃ k:Nat,k<=r/\x=.int .i64 k/\Zv wr B u s r n (fun i j=>if i < k then QH f d c i j else f i j)/\ZI S w wr/\w.heap.size+2<=wr.heap.size/\wr.cell? ⟨w.heap.size,0,aa⟩=ab (.slice (ab ⟨u,0,aa⟩) r r)/\wr.cell? ⟨w.heap.size+1,0,aa⟩=ab (.int .i64 (d:Int))) (fun x _=>r - (intOf x).toNat)
 case atStart=>exact ⟨0,by omega,rfl,by simpa using HG.out.below T.out,ZP T.out,by omega,a3.out,a4.out⟩
 case round =>
  obtain ⟨k,hk,rfl,a5,a6,d5,a7,U⟩:=hrel
  obtain ⟨t,rfl⟩:∃ t,t=wr:=⟨_,rfl⟩
  have A:Hid (Zv t B u s r n (fun i j=>if i < k then QH f d c i j else f i j)):=a5
  have V:Hid (ZI S w t):=a6
  have a8:Hid (t.cell? ⟨w.heap.size,0,aa⟩=ab (.slice (ab ⟨u,0,aa⟩) r r)):=a7
  clear a5 a6 T a3 a4 a7
  by_cases D:k < r
  ·have c1:t.cell? ⟨u,k,aa⟩=ab (.slice (ab ⟨s k,0,aa⟩) n n):=A.out.rows.cell k D
   have d6:(t.alloc (.cells #[.slice (ab ⟨s k,0,aa⟩) n n] 32)).cell? ⟨w.heap.size+1,0,aa⟩=ab (.int .i64 (d:Int)):=(ae _ _ _ (by show w.heap.size+1 < _;omega)).trans U
   by_cases O:k=d
   ·have ht:((k:Int) != (d:Int))=false:=by simp;omega
    have W:Hid (∀ i j,(if i < k then QH f d c i j else f i j)=if i < k+1 then QH f d c i j else f i j):=fun i j=>by
     by_cases e:i < k
     ·rw [if_pos e,if_pos (by omega)]
     ·by_cases Y:i=k
      ·rw [if_neg e,if_pos (by omega)]
       unfold QH
       rw [if_pos (by omega)]
      ·rw [if_neg e,if_neg (by omega)]
    clear O
    go_wp2
    have H:ah t.heap.size t (t.alloc (.cells #[.slice (ab ⟨s k,0,aa⟩) n n] 32)):=(ag _ _).alloc (ai _) _
    go_roundw
    case rel=>exact ⟨k+1,by omega,by go_num,Zv.congr (A.out.below H) W.out,V.out.trans (ZP H),by simp;omega,(H.cell (p:=⟨w.heap.size,0,aa⟩) (by show w.heap.size < _;omega)).trans a8.out,(H.cell (p:=⟨w.heap.size+1,0,aa⟩) (by show w.heap.size+1 < _;omega)).trans U⟩
    case measure=>simp [intOf];omega
   ·have ht:((k:Int) != (d:Int))=true:=by simp;omega
    have d7:Hid (k≠d):=O
    have Z:(fun j=>if k < k then QH f d c k j else f k j)=f k:=funext fun j=>if_neg (am _)
    have fd:∀ j,(if d < k then QH f d c d j else f d j)=f d j:=fun j=>by
     by_cases e:d < k
     ·rw [if_pos e];unfold QH;rw [if_pos rfl]
     ·rw [if_neg e]
    have c2:t.cell? ⟨s k,c,aa⟩=ab (.int .u8 ((f k c:Nat):Int)):=by
     have:=A.out.all.row k D
     rw [Z] at this
     rw [this.cell c hc (Jf _ _),Yq _ _ c hc]
    have c3:(t.alloc (.cells #[.slice (ab ⟨s k,0,aa⟩) n n] 32)).cell? ⟨s k,c,aa⟩=ab (.int .u8 ((f k c:Nat):Int)):=(ae _ _ _ (Qf c2)).trans c2
    have lt:=R k c
    have d8:s k < w.heap.size:=a2.out _ (b2 k D)
    have d9:u < w.heap.size:=a2.out _ d3
    obtain ⟨y,I⟩:∃ y,y=(t.alloc (.cells #[.slice (ab ⟨s k,0,aa⟩) n n] 32)).alloc (.cells #[.int .u8 ((f k c:Nat):Int)] 5):=⟨_,rfl⟩
    have L:ah t.heap.size t y:=by rw [I];exact ((ag _ _).alloc (ai _) _).alloc (by simp) _
    have e1:y.heap.size=t.heap.size+2:=by rw [I];simp
    have a9:y.cell? ⟨t.heap.size,0,aa⟩=ab (.slice (ab ⟨s k,0,aa⟩) n n):=by rw [I,ae _ _ _ (by simp),ac _ _ _ _ rfl];rfl
    have b1:y.cell? ⟨t.heap.size+1,0,aa⟩=ab (.int .u8 ((f k c:Nat):Int)):=by rw [I,ac _ _ _ _ (by simp)];rfl
    have a0:y.cell? ⟨w.heap.size,0,aa⟩=ab (.slice (ab ⟨u,0,aa⟩) r r):=(L.cell (p:=⟨w.heap.size,0,aa⟩) (by show w.heap.size < _;omega)).trans a8.out
    have a1:y.cell? ⟨w.heap.size+1,0,aa⟩=ab (.int .i64 (d:Int)):=(L.cell (p:=⟨w.heap.size+1,0,aa⟩) (by show w.heap.size+1 < _;omega)).trans U
    have J:Hid (Zv y B u s r n (fun i j=>if i < k then QH f d c i j else f i j)):=A.out.below L
    have b4:Hid (ZI S w y):=V.out.trans (ZP L)
    have b5:Hid (Zo y B 5 (s k) n (Qi n (f k))):=by have:=J.out.all.row k D;rw [Z] at this;exact this
    have b6:s k≠u:=J.out.all.ne k D
    have b7:s d≠s k:=fun e=>O (J.out.all.inj d k Q D e).symm
    have b8:Hid (∀ j,j < n->∀ E,y.grownBy E (ab (s k))->Zo E B 5 (s k) n (Qi n (fun l=>if l < j then f k l ^^^ Gf.mul (f k c) (f d l) else f k l)) ->
     al prog 84 (#[.int .i64 (j:Int)] ++ #[.pointer (ab ⟨t.heap.size,0,aa⟩),.pointer (ab ⟨t.heap.size+1,0,aa⟩),.pointer (ab ⟨w.heap.size,0,aa⟩),.pointer (ab ⟨w.heap.size+1,0,aa⟩)]) E fun e z=>e=.returned (.int .u8 ((f k j ^^^ Gf.mul (f k c) (f d j):Nat):Int))/\ah E.heap.size E z):=by
     intro j M E c0 c5
     have K:∀ {b o:Nat} {v:Value},y.cell? ⟨b,o,aa⟩=ab v->b≠s k->E.cell? ⟨b,o,aa⟩=ab v:=fun {b o v} h H=>c0.cell h (by show ab b≠_;intro e;exact H (af e))
     refine RU t.heap.size (t.heap.size+1) w.heap.size (w.heap.size+1) (s k) u (s d) n r j d (f k c) (f k j) (f d j) E (K a9 (by omega)) (K b1 (by omega)) (K a0 (by omega)) (K a1 (by omega)) (K (J.out.rows.cell d Q) (fun e=>b6 e.symm)) ?_ (K ?_ b7) M Q lt (R k j) (R d j)
     ·rw [c5.cell j M (Jf _ _),Yq _ _ j M,if_neg (am _)]
     ·rw [(J.out.all.row d Q).cell j M (Jf _ _),Yq _ _ j M,fd j]
    have c6:Hid (y=(t.alloc (.cells #[.slice (ab ⟨s k,0,aa⟩) n n] 32)).alloc (.cells #[.int .u8 ((f k c:Nat):Int)] 5)):=I
    have W:Hid (∀ i j,(if i=k then fun l=>f k l ^^^ Gf.mul (f k c) (f d l) else fun j=>if i < k then QH f d c i j else f i j) j=if i < k+1 then QH f d c i j else f i j):=fun i j=>by
     by_cases e:i=k
     ·rw [if_pos e,if_pos (by omega)]
      unfold QH
      rw [if_neg (by omega),e]
     ·rw [if_neg e]
      by_cases Y:i < k
      ·rw [if_pos (by omega:i < k+1)];exact if_pos Y
      ·rw [if_neg (by omega:¬ i < k+1)];exact if_neg Y
    have c9:Hid (y.cell? ⟨w.heap.size,0,aa⟩=ab (.slice (ab ⟨u,0,aa⟩) r r)):=a0
    have d0:Hid (y.cell? ⟨w.heap.size+1,0,aa⟩=ab (.int .i64 (d:Int))):=a1
    clear I L a9 b1 a0 a1 Z fd O R
    go_wp2_with (go_at_call 54;rw [<- c6.out];refine (zL (s k) n B (f k) (fun l=>f k l ^^^ Gf.mul (f k c) (f d l)) 84 #[.pointer (ab ⟨t.heap.size,0,aa⟩),.pointer (ab ⟨t.heap.size+1,0,aa⟩),.pointer (ab ⟨w.heap.size,0,aa⟩),.pointer (ab ⟨w.heap.size+1,0,aa⟩)] y hn (enters_of func84 (by kernel_rfl) rfl) b5.out b8.out).mono ?_;rintro e w8 ⟨rfl,d1,N⟩)
    go_roundw
    case rel =>
     refine ⟨k+1,by omega,by go_num,Zv.congr (J.out.change D N d1) W.out,b4.out.trans (zO N (b2 k D)),by have:=N.size;omega,N.cell c9.out (by show ab w.heap.size≠_;intro e;have:=af e;omega),N.cell d0.out (by show ab (w.heap.size+1)≠_;intro e;have:=af e;omega)⟩
    case measure=>simp [intOf];omega
  ·have d2:k=r:=by omega
   subst d2
   go_wp2
   go_end0
   refine ⟨rfl,V.out,⟨A.out.rows,fun i hi=>?_,A.out.all.ne,A.out.all.inj⟩⟩
   have:=A.out.all.row i hi
   rw [show (fun j=>if i < k then QH f d c i j else f i j)=QH f d c i from funext fun j=>if_pos hi] at this
   exact this
theorem VN (h:∀ i j,g i j < 256) (d p k i j:Nat):Qm (j7 g d p k i j)=Lin.aZ (fun i j=>Qm (g i j)) d p k i j:=by
 have o:Qm (Gf.inv (g p k))=Lin.iv (Qm (g p k)):=Fin.ext (by
  show (Qm (Gf.inv (g p k))).1=Gf.inv (Qm (g p k)).1
  rw [YY (Gf.cQ _),YY (h p k)])
 unfold j7 Lin.aZ
 by_cases e:i=d
 ·rw [if_pos e,if_pos e,oU (Gf.cQ _) (h _ _),o]
 ·by_cases f:i=p
  ·rw [if_neg e,if_neg e,if_pos f,if_pos f]
  ·rw [if_neg e,if_neg e,if_neg f,if_neg f]
theorem n4 (h:∀ i j,g i j < 256) (d k i j:Nat):Qm (QH g d k i j)=Lin.bE (fun i j=>Qm (g i j)) d k i j:=by
 unfold QH Lin.bE
 by_cases e:i=d
 ·rw [if_pos e,if_pos e]
 ·rw [if_neg e,if_neg e,qW (h _ _) (Gf.aV (h _ _) _),oU (h _ _) (h _ _)]
def Ym (f:Nat->Nat->Nat):Nat->Nat->Lin.F:=fun i j=>Qm (f i j)
theorem TJ (h:∀ i j,g i j < 256) (d p k:Nat):Ym (QH (j7 g d p k) d k)=Lin.bE (Lin.aZ (Ym g) d p k) d k:=by
 have f:Ym (j7 g d p k)=Lin.aZ (Ym g) d p k:=funext fun i=>funext fun j=>VN h d p k i j
 rw [<- f]
 exact funext fun i=>funext fun j=>n4 (fun i j=>yD h d p k i j) d k i j
theorem bR (S:Nat->Prop) (B s:Nat) (G:Nat->Nat) (r n c:Nat) (f:Nat->Nat->Nat) (z:Addr) (w:World) (hr:r<=1000) (hn:n<=1000) (hc:c<=n) (hf:∀ i j,f i j < 256) (hG:Zv w B s G r n f) (a1:S s) (b2:∀ i,i < r->S (G i)) (a2:∀ k,S k->B<=k/\k < w.heap.size) (b3:2 < B)
 (hz:w.cell? ⟨2,0,aa⟩=ab (.iface 136 (.pointer (ab z)))) :
 al prog 37 #[.slice (ab ⟨s,0,aa⟩) r r,.int .i64 (c:Int)] w fun e w'=>ZI S w w'/\∃ (d:Nat) (o:Nat->Nat) (g:Nat->Nat->Nat),e=.returned (.int .i64 (d:Int))/\Zv w' B s o r n g/\(∀ i j,g i j < 256)/\Lin.eO r n c (Ym f) (Ym g) d:=by
 have HG:Hid (Zv w B s G r n f):=hG
 have K:Hid (∀ k,S k->B<=k/\k < w.heap.size):=a2
 have L:Hid (w.cell? ⟨2,0,aa⟩=ab (.iface 136 (.pointer (ab z)))):=hz
 clear hG a2 hz
 go_enter func37,ntmps37
 go_wp2
 go_loopw [5,8] (fun y x wr=>∃ (k d:Nat) (o:Nat->Nat) (g:Nat->Nat->Nat),k<=c/\x=.int .i64 k/\y=.int .i64 d/\Zv wr B s o r n g/\(∀ i,i < r->S (o i))/\(∀ i j,g i j < 256)/\Lin.eO r n k (Ym f) (Ym g) d/\ZI S w wr) (fun _ x _=>c - (intOf x).toNat)
 case atStart=>exact ⟨0,0,G,f,by omega,rfl,rfl,HG.out,b2,hf,Lin.eO.start _ _ _,ZP (ag _ _)⟩
 case round =>
  obtain ⟨k,d,o,g,hk,rfl,rfl,M,N,O,H,Q⟩:=hrel
  obtain ⟨u,rfl⟩:∃ u,u=wr:=⟨_,rfl⟩
  have R:Hid (Zv u B s o r n g):=M
  have T:Hid (∀ i,i < r->S (o i)):=N
  have t:Hid (∀ i j,g i j < 256):=O
  have I:Hid (Lin.eO r n k (Ym f) (Ym g) d):=H
  have A:Hid (ZI S w u):=Q
  have a3:d<=r:=H.le
  clear M N O H Q
  by_cases b4:k < c
  ·have U:Hid (u.cell? ⟨2,0,aa⟩=ab (.iface 136 (.pointer (ab z)))):=A.out.cell L.out (fun hs=>by have:=(K.out _ hs).1;omega)
   go_wp2_with (go_at_call 66;refine (k7 S B s o r n d k g z _ hr hn a3 (by omega) t.out R.out a1 T.out b3 U.out).mono ?_;rintro e V ⟨J,⟨rfl,h0,D⟩ | ⟨rfl,p,E,a4,a5,W,Y,D⟩⟩)
   ·go_roundw
    case rel=>exact ⟨k+1,d,o,g,by omega,by go_num,rfl,D,T.out,t.out,I.out.skip (fun i h1 h2=>by show Qm (g i k)=0;rw [h0 i h1 h2];rfl),A.out.trans J⟩
    case measure=>simp [intOf];omega
   ·have Z:Hid (ZI S u V):=J
    have a0:Hid (∀ i,i < r->S (E i)):=Y
    have a6:Hid (Zv V B s E r n (j7 g d p k)):=D
    have a7:Hid (g p k≠0):=W
    clear J Y D W U L
    go_wp2_with (go_at_call 67;refine (oP S B s E r n d k (j7 g d p k) _ hr hn (by omega) (by omega) (fun i j=>yD t.out d p k i j) a6.out a0.out (fun q hq=>an (K.out q hq).2 (ap A.out.size Z.out.size)) a1).mono ?_;rintro e w5 ⟨rfl,a8,a9⟩)
    go_roundw
    case rel =>
     refine ⟨k+1,d+1,E,QH (j7 g d p k) d k,by omega,by go_num,by go_num,a9,a0.out,fun i j=>WL (fun i j=>yD t.out d p k i j) d k i j,?_,A.out.trans (Z.out.trans a8)⟩
     rw [TJ t.out]
     exact I.out.step a4 a5 (fun h=>a7.out ((AP (t.out p k)).1 h))
    case measure=>simp [intOf];omega
  ·have b1:k=c:=by omega
   subst b1
   go_wp2
   go_ret
   exact ⟨A.out,d,o,g,rfl,R.out,t.out,I.out⟩
theorem AF {A B:List (List Nat)} (d:QR A) (f:QR B) (i j:Nat):∀ k,Qm (jM A B i j k)=Lin.aL k (fun t=>Lin.mu (Xi A i t) (Xi B t j))
 | 0=>rfl
 | k+1=>by
  show Qm (jM A B i j k ^^^ Gf.mul (Gf.nth (Qh A i) k) (Gf.nth (Qh B k) j))=Lin.ad _ _
  rw [qW (o8 A B d i j k) (Gf.aV (d i k) _),oU (d i k) (f k j),AF d f i j k]
  rfl
theorem zA {x y:Nat} (d:x < 256) (f:y < 256) (h:Qm x=Qm y):x=y:=by
 have:=congrArg Fin.val h
 rw [YY d,YY f] at this
 exact this
theorem J6  (h:∀ i j,f i j < 256):QR (XB r n f):=fun i=>by
 by_cases d:i < r
 ·rw [XD r n f i d];exact XL _ _ (h i)
 ·intro j
  have:Qh (XB r n f) i=[]:=by unfold Qh;rw [List.getD_eq_getElem?_getD,List.getElem?_eq_none (by rw [Zs];omega)];rfl
  rw [this]
  show ([]:List Nat).getD j 0 < 256
  simp
theorem uN  (d:i < r) (h:j < n):Xi (XB r n f) i j=Ym f i j:=by
 unfold Xi Ym
 rw [XD r n f i d,Yq _ _ j h]
theorem zH  (h:1<=r) (j:r<=16) (k:1<=n) (o:n<=16):jQ (XB r n f):=by
 refine ⟨by rw [Zs];exact h,by rw [Zs];exact j,fun i d=>?_⟩
 rw [Zs] at d
 rw [XD r n f i d,XD r n f 0 (by omega),Jf,Jf]
 exact ⟨k,o,rfl⟩
theorem K1 (A B:List (List Nat)) (m:Nat):xW A B m=XB m (Qh B 0).length (fun i j=>jM A B i j B.length):=rfl
end Go.Proofs.YtaaahibncffcmaaDoor

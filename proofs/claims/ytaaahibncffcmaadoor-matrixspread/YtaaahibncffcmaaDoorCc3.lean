/- Texts laid together. -/
import Derived.Test.YtaaahibncffcmaaDoorCc2
import Derived.Deep.CutRange
import Derived.Laws.BytesArg
set_option maxRecDepth 10000
set_option maxHeartbeats 8000000
open Option renaming none->aa,some->ab
open Go.World renaming cell?_alloc_at->ac,cell?_alloc_past->ag
open Go.RowKit renaming Below->ae
open Go.RowKit.Below renaming refl->af
open Nat renaming le_refl->ah,lt_irrefl->ap,lt_of_lt_of_le->aq,le_trans->ax
open Option.some renaming inj->ai
open Go renaming Calls->aj,below_drewN->al,Addr->ao
open Go.Calls renaming quiet_of_same->ak
namespace Go.Proofs.YtaaahibncffcmaaDoor
open Go.Proofs.Tryd
open Go.RowKit
variable {M:List (List Nat)}{i o B d p r j n k:Nat}{S:Nat->Prop}{w w':World}{v:Nat->Nat->Lin.F}{g f:Nat->Nat->Nat}
theorem WM (d f h k i j l u z:Nat) (a b:Option ao) (A B:List (List Nat)) (w:World) (D:i < A.length) (E:l < (Qh A i).length) (G:l < B.length) (H:j < (Qh B l).length) (hA:w.cell? ⟨d,0,aa⟩=ab (.slice a A.length u)) (hB:w.cell? ⟨h,0,aa⟩=ab (.slice b B.length z)) (hI:w.cell? ⟨f,0,aa⟩=ab (.int .i64 (i:Int))) (hJ:w.cell? ⟨k,0,aa⟩=ab (.int .i64 (j:Int))) (o:QJ w a A) (r:QJ w b B) (I:QR A) (J:QR B) :
 aj prog 60 #[.int .i64 (l:Int),.pointer (ab ⟨d,0,aa⟩),.pointer (ab ⟨f,0,aa⟩),.pointer (ab ⟨h,0,aa⟩),.pointer (ab ⟨k,0,aa⟩)] w fun e w'=>e=.returned (.int .u8 ((Gf.mul (Gf.nth (Qh A i) l) (Gf.nth (Qh B l) j):Nat):Int))/\ae w.heap.size w w':=by
 obtain ⟨K,L,M,N,O,rfl,Q,R⟩:=o.at D E
 obtain ⟨S,T,U,V,W,rfl,Y,Z⟩:=r.at G H
 have s:=I i l
 have t:=J l j
 clear o r
 generalize Gf.nth (Qh A i) l=x at *
 generalize Gf.nth (Qh B l) j=y at *
 go_enter func60,ntmps60
 go_wp2
 go_quiet ((go_at_call 61;exact ak (Zx x y _ s t)))
 go_wp2
 go_ret
 exact ⟨rfl,al (af _ _) _⟩
theorem FC (d:jQ M) (f:i < M.length):(Qh M i).length=(Qh M 0).length:=(d.2.2 i f).2.2
theorem R7 (h f i j D t:Nat) (a b:Option ao) (A B:List (List Nat)) (w:World) (M:jQ A) (E:jQ B) (N:(Qh A 0).length=B.length) (O:i < A.length) (hj:j < (Qh B 0).length) (G:w.cell? ⟨h,0,aa⟩=ab (.slice a A.length D)) (H:w.cell? ⟨f,0,aa⟩=ab (.slice b B.length t)) (Q:QJ w a A) (R:QJ w b B) (u:QR A) (S:QR B) :
 aj prog 58 #[.int .i64 (i:Int),.int .i64 (j:Int),.pointer (ab ⟨f,0,aa⟩),.pointer (ab ⟨h,0,aa⟩)] w fun e w'=>e=.returned (.int .u8 ((jM A B i j B.length:Nat):Int))/\ae w.heap.size w w':=by
 have l2:B.length<=16:=E.2.1
 have T:=Qf G
 have U:=Qf H
 obtain ⟨d,k⟩:∃ d,d=(w.alloc (.cells #[.int .i64 (i:Int)] 3)).alloc (.cells #[.int .i64 (j:Int)] 3):=⟨_,rfl⟩
 have r:ae w.heap.size w d:=by rw [k];exact ((af _ _).alloc (ah _) _).alloc (by simp) _
 have a1:d.heap.size=w.heap.size+2:=by rw [k];simp
 have I:d.cell? ⟨w.heap.size,0,aa⟩=ab (.int .i64 (i:Int)):=by rw [k,ag _ _ _ (by simp),ac _ _ _ _ rfl];rfl
 have J:d.cell? ⟨w.heap.size+1,0,aa⟩=ab (.int .i64 (j:Int)):=by rw [k,ac _ _ _ _ (by simp)];rfl
 have K:d.cell? ⟨h,0,aa⟩=ab (.slice a A.length D):=(r.cell (p:=⟨h,0,aa⟩) T).trans G
 have y:d.cell? ⟨f,0,aa⟩=ab (.slice b B.length t):=(r.cell (p:=⟨f,0,aa⟩) U).trans H
 have a2:((w.alloc (.cells #[.int .i64 (i:Int)] 3)).alloc (.cells #[.int .i64 (j:Int)] 3)).cell? ⟨f,0,aa⟩=ab (.slice b B.length t):=by rw [<- k];exact y
 have L:Hid (∀ l,l < B.length->∀ o,ae d.heap.size d o->aj prog 60 (#[.int .i64 (l:Int)] ++ #[.pointer (ab ⟨h,0,aa⟩),.pointer (ab ⟨w.heap.size,0,aa⟩),.pointer (ab ⟨f,0,aa⟩),.pointer (ab ⟨w.heap.size+1,0,aa⟩)]) o fun e V=>e=.returned (.int .u8 ((Gf.mul (Gf.nth (Qh A i) l) (Gf.nth (Qh B l) j):Nat):Int))/\ae o.heap.size o V):=by
  intro l z o s
  exact WM h w.heap.size f (w.heap.size+1) i j l D t a b A B o O (by rw [FC M O,N];exact z) z (by rw [FC E z];exact hj) ((s.cell (p:=⟨h,0,aa⟩) (by show h < _;omega)).trans K) ((s.cell (p:=⟨f,0,aa⟩) (by show f < _;omega)).trans y) ((s.cell (p:=⟨w.heap.size,0,aa⟩) (by show w.heap.size < _;omega)).trans I) ((s.cell (p:=⟨w.heap.size+1,0,aa⟩) (by show w.heap.size+1 < _;omega)).trans J) ((Q.below r).below s) ((R.below r).below s) u S
 have W:=D2 B.length (fun l=>Gf.mul (Gf.nth (Qh A i) l) (Gf.nth (Qh B l) j)) 60 #[.pointer (ab ⟨h,0,aa⟩),.pointer (ab ⟨w.heap.size,0,aa⟩),.pointer (ab ⟨f,0,aa⟩),.pointer (ab ⟨w.heap.size+1,0,aa⟩)] d (by omega) (fun l=>Gf.aV (u i l) _) (enters_of func60 (by kernel_rfl) rfl) (jM A B i j) rfl (fun _=>rfl) (o8 A B u i j) L.out
 have Y:Hid (d=(w.alloc (.cells #[.int .i64 (i:Int)] 3)).alloc (.cells #[.int .i64 (j:Int)] 3)):=k
 have Z:Hid (ae w.heap.size w d):=r
 clear M E N k r I J K y Q R G H u S L
 go_enter func58,ntmps58
 go_wp2_with (go_at_call 59;rw [<- Y.out];refine W.mono ?_;rintro e o ⟨rfl,a0⟩)
 go_ret
 exact ⟨rfl,Z.out.trans (a0.mono (by omega))⟩
theorem RK (a b:Option ao) (A B:List (List Nat)) (h k:Nat) (w:World) (H:jQ A) (s:jQ B) (I:(Qh A 0).length=B.length) (bA:QR A) (bB:QR B) (mA:QJ w a A) (mB:QJ w b B) :
 aj prog 30 #[.slice a A.length h,.slice b B.length k] w fun e w'=>(∃ t,e=.returned (.tuple #[.slice (ab ⟨t,0,aa⟩) A.length A.length,.nilIface])/\QJ w' (ab ⟨t,0,aa⟩) (xW A B A.length))/\ae w.heap.size w w':=by
 have d1:1<=A.length:=H.1
 have d2:A.length<=16:=H.2.1
 have d3:1<=B.length:=s.1
 have d4:B.length<=16:=s.2.1
 have d5:1<=(Qh B 0).length:=(s.2.2 0 (by omega)).1
 have d6:(Qh B 0).length<=16:=(s.2.2 0 (by omega)).2.1
 have O:Hid (jQ A):=H
 have Q:Hid (jQ B):=s
 have R:Hid (QR A):=bA
 have BB:Hid (QR B):=bB
 obtain ⟨d,o⟩:∃ d,d=(w.alloc (.cells #[.slice a A.length h] 23)).alloc (.cells #[.slice b B.length k] 23):=⟨_,rfl⟩
 have u:ae w.heap.size w d:=by rw [o];exact ((af _ _).alloc (ah _) _).alloc (by simp) _
 have d7:d.heap.size=w.heap.size+2:=by rw [o];simp
 have S:d.cell? ⟨w.heap.size,0,aa⟩=ab (.slice a A.length h):=by rw [o,ag _ _ _ (by simp),ac _ _ _ _ rfl];rfl
 have T:d.cell? ⟨w.heap.size+1,0,aa⟩=ab (.slice b B.length k):=by rw [o,ac _ _ _ _ (by simp)];rfl
 have J:Hid (QJ d a A):=mA.below u
 have K:Hid (QJ d b B):=mB.below u
 have HK:Hid ((Qh A 0).length=B.length):=I
 have a7:Hid (∀ W:World,ae d.heap.size d W->∀ i j,i < A.length->j < (Qh B 0).length->∀ f,ae W.heap.size W f->aj prog 58 (#[.int .i64 (i:Int),.int .i64 (j:Int)] ++ #[.pointer (ab ⟨w.heap.size+1,0,aa⟩),.pointer (ab ⟨w.heap.size,0,aa⟩)]) f fun e r=>e=.returned (.int .u8 ((jM A B i j B.length:Nat):Int))/\ae f.heap.size f r):=by
  intro W U i j hi hj f h2
  have y:ae d.heap.size d f:=U.trans (h2.mono U.size)
  exact R7 w.heap.size (w.heap.size+1) i j h k a b A B f O.out Q.out HK.out hi hj ((y.cell (p:=⟨w.heap.size,0,aa⟩) (by show w.heap.size < _;omega)).trans S) ((y.cell (p:=⟨w.heap.size+1,0,aa⟩) (by show w.heap.size+1 < _;omega)).trans T) (J.out.below y) (K.out.below y) R.out BB.out
 obtain ⟨L,M,a3,a4,a5,rfl,d8,_,N,_⟩:=J.out.row (i:=0) (by omega) (by rw [I];omega)
 obtain ⟨z,D,V,Y,Z,rfl,d9,_,a0,_⟩:=K.out.row (i:=0) (by omega) (by omega)
 rw [I] at N
 have cA:d.cell? ⟨L,M,aa⟩=ab (.slice (ab ⟨a3,a4,aa⟩) B.length a5):=N
 have cB:d.cell? ⟨z,D,aa⟩=ab (.slice (ab ⟨V,Y,aa⟩) (Qh B 0).length Z):=a0
 have a8:Hid (ae w.heap.size w d):=u
 have a9:Hid (d=(w.alloc (.cells #[.slice (ab ⟨L,M,aa⟩) A.length h] 23)).alloc (.cells #[.slice (ab ⟨z,D,aa⟩) B.length k] 23)):=o
 have ia:(0:Int) < (A.length:Int):=by omega
 have ib:(0:Int) < (B.length:Int):=by omega
 have na:0 < A.length:=by omega
 have nb:0 < B.length:=by omega
 clear H s I bA bB mA mB u o N a0
 go_enter func30,ntmps30
 go_wp2_with fail
 rw [<- a9.out]
 refine wp_region_still_lit (by kernel_rfl) (by kernel_rfl) ?_
 repeat still_step
 still_call (wW _ A h _ O.out (J.out.drewN 1))
 repeat still_step
 still_call (wW _ B k _ Q.out (K.out.drewN 1))
 repeat still_step
 refine wpStill_nil ?_
 change Exit.then _ _ _ _ (d.drewN 1)
 have E:ae d.heap.size d (d.drewN 1):=al (af _ _) _
 have qA:(d.drewN 1).cell? ⟨w.heap.size,0,aa⟩=ab (.slice (ab ⟨L,M,aa⟩) A.length h):=S
 have qB:(d.drewN 1).cell? ⟨w.heap.size+1,0,aa⟩=ab (.slice (ab ⟨z,D,aa⟩) B.length k):=T
 have qC:(d.drewN 1).cell? ⟨z,D,aa⟩=ab (.slice (ab ⟨V,Y,aa⟩) (Qh B 0).length Z):=cB
 generalize d.drewN 1=f at E qA qB qC ⊢
 have b6:Hid (ae d.heap.size d f):=E
 have e1:d.heap.size<=f.heap.size:=E.size
 clear E cA cB
 go_wp2_with fail
 refine wp_region_still_tail 7 (by kernel_rfl) (by kernel_rfl) ?_
 simp only [List.take_succ_cons,List.take_zero,List.drop_succ_cons,List.drop_zero]
 repeat still_step
 refine wpStill_nil ?_
 have G:ae d.heap.size d (f.drewN 1):=al b6.out 1
 change wpList _ _ _ _ _ (f.drewN 1)
 generalize f.drewN 1=r at G ⊢
 have a6:Hid (ae d.heap.size d r):=G
 have e2:d.heap.size<=r.heap.size:=G.size
 clear G qA qB qC
 go_wp2_with (go_at_call 27;refine (tP A.length (Qh B 0).length (fun i j=>jM A B i j B.length) 58 #[.pointer (ab ⟨w.heap.size+1,0,aa⟩),.pointer (ab ⟨w.heap.size,0,aa⟩)] r (by omega) (by omega) (enters_of func58 (by kernel_rfl) rfl) (a7.out r a6.out)).mono ?_;rintro e w4 ⟨⟨t,gs,rfl,b7⟩,d0⟩)
 go_ret2
 exact ⟨⟨t,rfl,b7.tU (fun i j=>o8 A B R.out i j _) A.length (ah _)⟩,(a8.out.trans (a6.out.mono (by omega))).trans (d0.mono (by omega))⟩
structure ZI (S:Nat->Prop) (w w':World):Prop where
 os:w'.os=w.os
 tape:w'.tape=w.tape
 output:w'.output=w.output
 size:w.heap.size<=w'.heap.size
 block:∀ k,k < w.heap.size->¬ S k->w'.heap[k]?=w.heap[k]?
theorem ZI.trans {a b c:World} (h:ZI S a b) (k:ZI S b c):ZI S a c :=
 ⟨k.os.trans h.os,k.tape.trans h.tape,k.output.trans h.output,ax h.size k.size,fun i d f=>(k.block i (aq d h.size) f).trans (h.block i d f)⟩
theorem ZP  (h:ae w.heap.size w w'):ZI S w w':=⟨h.os,h.tape,h.output,h.size,fun i d _=>h.block i d⟩
theorem zO  {row:Nat} (h:w.grownBy w' (ab row)) (j:S row):ZI S w w':=⟨h.os,h.tape,h.output,h.size,fun i d f=>h.block i d (fun e=>f (by rw [ai e];exact j))⟩
theorem ZI.cell  (h:ZI S w w') {b:Nat} {v:Value} (d:w.cell? ⟨b,o,aa⟩=ab v) (f:¬ S b):w'.cell? ⟨b,o,aa⟩=ab v :=
 (World.cell?_of_block (a:=⟨b,o,aa⟩) (h.block b (Qf d) f)).trans d
theorem ZI.below  (h:ZI S w w') (f:∀ k,S k->B<=k) (o:B<=w.heap.size):ae B w w':=⟨h.os,h.tape,h.output,h.size,fun k j=>h.block k (by omega) (fun d=>by have:=f k d;omega)⟩
def j7 (g:Nat->Nat->Nat) (d p k:Nat):Nat->Nat->Nat:=fun i j=>if i=d then Gf.mul (Gf.inv (g p k)) (g p j) else if i=p then g d j else g i j
def QH (h:Nat->Nat->Nat) (d k:Nat):Nat->Nat->Nat:=fun i j=>if i=d then h i j else h i j ^^^ Gf.mul (h i k) (h d j)
theorem yD (h:∀ i j,g i j < 256) (d p k i j:Nat):j7 g d p k i j < 256:=by
 unfold j7
 split
 ·exact Gf.aV (Gf.cQ _) _
 ·split <;> exact h _ _
theorem WL (h:∀ i j,g i j < 256) (d k i j:Nat):QH g d k i j < 256:=by
 unfold QH
 split
 ·exact h _ _
 ·exact Gf.iK (h _ _) (Gf.aV (h _ _) _)
def YW {f:Type} (g:Nat->f) (d p:Nat):Nat->f:=fun i=>if i=d then g p else if i=p then g d else g i
theorem oI {f:Type} (g:Nat->f) (d p i:Nat):YW g d p i=g (if i=d then p else if i=p then d else i):=by
 unfold YW
 by_cases a:i=d
 ·rw [if_pos a,if_pos a]
 ·by_cases b:i=p
  ·rw [if_neg a,if_neg a,if_pos b,if_pos b]
  ·rw [if_neg a,if_neg a,if_neg b,if_neg b]
theorem pN (f:d < r) (h:p < r) (j:i < r):(if i=d then p else if i=p then d else i) < r:=by
 by_cases a:i=d
 ·rw [if_pos a];exact h
 ·by_cases b:i=p
  ·rw [if_neg a,if_pos b];exact f
  ·rw [if_neg a,if_neg b];exact j
theorem s4 (h:(if i=d then p else if i=p then d else i)=(if j=d then p else if j=p then d else j)):i=j:=by
 split at h <;> split at h <;> (try split at h) <;> (try split at h) <;> omega
theorem iT.swap {u:Nat} {t:Nat->Nat}  (h:iT w B u t r n f) (o:d < r) (s:p < r) (z:∀ i,i < r->Zo w' B 5 (t i) n (Qi n (f i))):iT w' B u (YW t d p) r n (YW f d p) where
 row:=fun i k=>by rw [oI,oI];exact z _ (pN o s k)
 ne:=fun i k=>by rw [oI];exact h.ne _ (pN o s k)
 inj:=fun i j k y e=>by rw [oI,oI] at e;exact s4 (h.inj _ _ (pN o s k) (pN o s y) e)
theorem Zv.swap  {k:Nat->Nat}  (h:Zv w B o k r n f) (u:d < r) (y:p < r):Zv ((w.setCell ⟨o,d,aa⟩ (gG n (k p))).setCell ⟨o,p,aa⟩ (gG n (k d))).drew B o (YW k d p) r n (YW f d p):=by
 have t:w.grownBy ((w.setCell ⟨o,d,aa⟩ (gG n (k p))).setCell ⟨o,p,aa⟩ (gG n (k d))).drew (ab o):=QL (Z8 _ _ _ _) (QL (Z8 _ _ _ _) (JO _ 1 _))
 refine ⟨?_,h.all.swap u y (fun i s=>Y4 (h.all.row i s) t (h.all.ne i s))⟩
 refine Zy.congr (Zy.kept ((h.rows.set d (gG n (k p))).set p (gG n (k d))) (JO _ 1 aa) (by simp)) (fun i _=>?_)
 unfold YW
 by_cases e:i=p
 ·by_cases j:i=d
  ·rw [if_pos e,if_pos j,<- e,<- j]
  ·rw [if_pos e,if_neg j,if_pos e]
 ·by_cases j:i=d
  ·rw [if_neg e,if_pos j,if_pos j]
  ·rw [if_neg e,if_neg j,if_neg j,if_neg e]
theorem Zv.change  {j:Nat->Nat}  {v:Nat->Nat} (h:Zv w B o j r n f) (s:d < r) (t:w.grownBy w' (ab (j d))) (y:Zo w' B 5 (j d) n (Qi n v)):Zv w' B o j r n (fun i=>if i=d then v else f i) where
 rows:=h.rows.kept t (fun e=>h.all.ne d s (ai e))
 all:=⟨fun i k=>by
  by_cases e:i=d
  ·simp only [e,if_true];exact y
  ·simp only [e,if_false];exact Y4 (h.all.row i k) t (fun u=>e (h.all.inj i d k s u)),h.all.ne,h.all.inj⟩
theorem Zv.congr  {o:Nat->Nat} {d:Nat->Nat->Nat} (h:Zv w B k o r n f) (s:∀ i j,f i j=d i j):Zv w B k o r n d:=by
 have:f=d:=funext fun i=>funext fun j=>s i j
 rw [<- this];exact h
theorem K6 (d f g n j s x:Nat) (w:World) (r:w.cell? ⟨d,0,aa⟩=ab (.int .u8 (s:Int))) (t:w.cell? ⟨f,0,aa⟩=ab (.slice (ab ⟨g,0,aa⟩) n n)) (u:w.cell? ⟨g,j,aa⟩=ab (.int .u8 (x:Int))) (y:j < n) (k:s < 256) (o:x < 256) :
 aj prog 83 #[.int .i64 (j:Int),.pointer (ab ⟨d,0,aa⟩),.pointer (ab ⟨f,0,aa⟩)] w fun e h=>e=.returned (.int .u8 ((Gf.mul s x:Nat):Int))/\ae w.heap.size w h:=by
 go_enter func83,ntmps83
 go_wp2
 go_quiet ((go_at_call 61;exact ak (Zx s x _ k o)))
 go_wp2
 go_ret
 exact ⟨rfl,al (af _ _) _⟩
theorem HL (S:Nat->Prop) (B k:Nat) (h:Nat->Nat) (r n d c:Nat) (f:Nat->Nat->Nat) (z:ao) (w:World) (hr:r<=1000) (hn:n<=1000) (hd:d<=r) (hc:c < n) (hf:∀ i j,f i j < 256) (hG:Zv w B k h r n f) (d8:S k) (b2:∀ i,i < r->S (h i)) (f0:2 < B)
 (hz:w.cell? ⟨2,0,aa⟩=ab (.iface 136 (.pointer (ab z)))) :
 aj prog 66 #[.slice (ab ⟨k,0,aa⟩) r r,.int .i64 (d:Int),.int .i64 (c:Int)] w fun e w'=>ZI S w w' /\
  ((e=.returned (.bool false)/\(∀ i,d<=i->i < r->f i c=0)/\Zv w' B k h r n f) ∨
   (e=.returned (.bool true)/\∃ p a0,d<=p/\p < r/\f p c≠0/\(∀ i,i < r->S (a0 i))/\Zv w' B k a0 r n (j7 f d p c))):=by
 have HG:Hid (Zv w B k h r n f):=hG
 have HZ:Hid (w.cell? ⟨2,0,aa⟩=ab (.iface 136 (.pointer (ab z)))):=hz
 clear hG hz
 go_enter func66,ntmps66
 go_wp2
 go_loopw [7] (fun x wr=>∃ i:Nat,d<=i/\i<=r/\x=.int .i64 i/\(∀ t,d<=t->t < i->f t c=0)/\ae w.heap.size w wr) (fun x _=>r - (intOf x).toNat)
 case atStart=>exact ⟨d,ah _,hd,rfl,fun t h1 h2=>by omega,af _ _⟩
 case round =>
  obtain ⟨i,b3,d9,rfl,h0,U⟩:=hrel
  obtain ⟨A,rfl⟩:∃ A,A=wr:=⟨_,rfl⟩
  have H0:Hid (∀ t,d<=t->t < i->f t c=0):=h0
  have E:Hid (ae w.heap.size w A):=U
  have H:Hid (Zv A B k h r n f):=HG.out.below U
  clear h0 U
  by_cases D:i < r
  ·have c1:A.cell? ⟨k,i,aa⟩=ab (.slice (ab ⟨h i,0,aa⟩) n n):=H.out.rows.cell i D
   have c2:A.cell? ⟨h i,c,aa⟩=ab (.int .u8 ((f i c:Nat):Int)):=by rw [(H.out.all.row i D).cell c hc (Jf _ _),Yq _ _ c hc]
   have lx:=hf i c
   by_cases I:f i c=0
   ·have b4:A.cell? ⟨2,0,aa⟩=ab (.iface 136 (.pointer (ab z))):=(E.out.cell (p:=⟨2,0,aa⟩) (by have:=HG.out.rows.lt;show 2 < _;omega)).trans HZ.out
    have V:Hid (f i c=0):=I
    rw [I] at c2
    clear I lx
    go_wp2_with (go_at_call 82;refine (NL z _ b4).mono ?_;rintro e s ⟨rfl,a1⟩)
    go_roundw
    case rel =>
     refine ⟨i+1,by omega,by omega,by go_num,fun t h1 h2=>?_,?_⟩
     ·by_cases e:t=i
      ·rw [e];exact V.out
      ·exact H0.out t h1 (by omega)
     ·exact (E.out.trans (a1.mono E.out.size)).alloc (by have:=a1.size;have:=E.out.size;omega) _
    case measure=>simp [intOf];omega
   ·have V:Hid (f i c≠0):=I
    have HI:=TG (f i c) A lx I
    clear I
    go_wp2_with (first | (go_at_call 82;refine HI.mono ?_;rintro e s ⟨rfl,rfl⟩))
    clear HI c1 c2
    have J:d < r:=by omega
    have lv:=Gf.cQ (f i c)
    obtain ⟨u,M⟩:∃ u,u=s.alloc (.cells #[.int .u8 ((Gf.inv (f i c):Nat):Int)] 5):=⟨_,rfl⟩
    rw [<- M]
    have W:ae s.heap.size s u:=by rw [M];exact (af _ _).alloc (ah _) _
    have e1:u.heap.size=s.heap.size+1:=by rw [M];simp
    have a2:u.cell? ⟨s.heap.size,0,aa⟩=ab (.int .u8 ((Gf.inv (f i c):Nat):Int)):=by rw [M,ac _ _ _ _ rfl];rfl
    have K:Hid (Zv u B k h r n f):=H.out.below W
    have a3:Hid (ZI S w u):=ZP (E.out.trans (W.mono E.out.size))
    have e2:k < s.heap.size:=H.out.rows.lt.2
    have e3:h i < s.heap.size:=(H.out.all.row i D).lt.2
    clear M W
    have d1:u.cell? ⟨k,i,aa⟩=ab (.slice (ab ⟨h i,0,aa⟩) n n):=K.out.rows.cell i D
    have d2:u.cell? ⟨k,d,aa⟩=ab (.slice (ab ⟨h d,0,aa⟩) n n):=K.out.rows.cell d J
    have f1:u.frozen? ⟨k,i,aa⟩=false:=K.out.rows.free i
    have f2:u.frozen? ⟨k,d,aa⟩=false:=K.out.rows.free d
    obtain ⟨v',b5⟩:=cell?_setCell_some (w:=u) (p:=⟨k,d,aa⟩) (x:=.slice (ab ⟨h i,0,aa⟩) n n) (q:=⟨k,i,aa⟩) (v:=.slice (ab ⟨h i,0,aa⟩) n n) d1
    go_region
    obtain ⟨o,O⟩:∃ o,o=((u.setCell ⟨k,d,aa⟩ (.slice (ab ⟨h i,0,aa⟩) n n)).setCell ⟨k,i,aa⟩ (.slice (ab ⟨h d,0,aa⟩) n n)).drew:=⟨_,rfl⟩
    rw [<- O]
    have Y:Hid (Zv o B k (YW h d i) r n (YW f d i)):=by
     show Zv _ _ _ _ _ _ _
     rw [O]
     exact K.out.swap J D
    have Q:u.grownBy o (ab k):=by
     rw [O]
     exact QL (Z8 _ _ _ _) (QL (Z8 _ _ _ _) (JO _ 1 _))
    have a4:o.cell? ⟨s.heap.size,0,aa⟩=ab (.int .u8 ((Gf.inv (f i c):Nat):Int)):=Q.cell a2 (by show ab s.heap.size≠_;intro e;have:=ai e;omega)
    have a5:Hid (ZI S w o):=a3.out.trans (zO Q d8)
    have e4:u.heap.size<=o.heap.size:=Q.size
    clear O Q d1 d2 f1 f2 b5 a2 K a3
    have L:YW h d i d=h i:=if_pos rfl
    have sf:YW f d i d=f i:=if_pos rfl
    have c6:o.cell? ⟨k,d,aa⟩=ab (.slice (ab ⟨h i,0,aa⟩) n n):=by have:=Y.out.rows.cell d J;rw [L] at this;exact this
    obtain ⟨y,N⟩:∃ y,y=o.alloc (.cells #[.slice (ab ⟨h i,0,aa⟩) n n] 32):=⟨_,rfl⟩
    have R:ae o.heap.size o y:=by rw [N];exact (af _ _).alloc (ah _) _
    have e5:y.heap.size=o.heap.size+1:=by rw [N];simp
    have a6:y.cell? ⟨o.heap.size,0,aa⟩=ab (.slice (ab ⟨h i,0,aa⟩) n n):=by rw [N,ac _ _ _ _ rfl];rfl
    have a7:y.cell? ⟨s.heap.size,0,aa⟩=ab (.int .u8 ((Gf.inv (f i c):Nat):Int)):=(R.cell (p:=⟨s.heap.size,0,aa⟩) (by show s.heap.size < _;omega)).trans a4
    have a8:Hid (Zv y B k (YW h d i) r n (YW f d i)):=Y.out.below R
    have b6:Hid (ZI S w y):=a5.out.trans (ZP R)
    have b7:Hid (Zo y B 5 (h i) n (Qi n (f i))):=by have:=a8.out.all.row d J;rw [L,sf] at this;exact this
    have d0:Hid (∀ j,j < n->∀ G,y.grownBy G (ab (h i))->Zo G B 5 (h i) n (Qi n (fun l=>if l < j then Gf.mul (Gf.inv (f i c)) (f i l) else f i l)) ->
     aj prog 83 (#[.int .i64 (j:Int)] ++ #[.pointer (ab ⟨s.heap.size,0,aa⟩),.pointer (ab ⟨o.heap.size,0,aa⟩)]) G fun e w2=>e=.returned (.int .u8 ((Gf.mul (Gf.inv (f i c)) (f i j):Nat):Int))/\ae G.heap.size G w2):=by
     intro j Z G a9 d3
     refine K6 s.heap.size o.heap.size (h i) n j (Gf.inv (f i c)) (f i j) G (a9.cell a7 (by show ab s.heap.size≠_;intro e;have:=ai e;omega)) (a9.cell a6 (by show ab o.heap.size≠_;intro e;have:=ai e;omega)) ?_ Z lv (hf i j)
     rw [d3.cell j Z (Jf _ _),Yq _ _ j Z,if_neg (ap _)]
    have d4:Hid (y=o.alloc (.cells #[.slice (ab ⟨h i,0,aa⟩) n n] 32)):=N
    clear N R a4 a6 a7 Y a5 L sf hf
    go_wp2_with (go_at_call 54;rw [<- d4.out];refine (zL (h i) n B (f i) (fun l=>Gf.mul (Gf.inv (f i c)) (f i l)) 83 #[.pointer (ab ⟨s.heap.size,0,aa⟩),.pointer (ab ⟨o.heap.size,0,aa⟩)] y hn (enters_of func83 (by kernel_rfl) rfl) b7.out d0.out).mono ?_;rintro e w8 ⟨rfl,d5,b1⟩)
    go_ret
    have L:YW h d i d=h i:=if_pos rfl
    refine ⟨b6.out.trans (zO b1 (b2 i D)),Or.inr ⟨rfl,i,YW h d i,b3,D,V.out,fun t d6=>by rw [oI];exact b2 _ (pN J D d6),?_⟩⟩
    refine Zv.congr (a8.out.change (v:=fun l=>Gf.mul (Gf.inv (f i c)) (f i l)) J (by rw [L];exact b1) (by rw [L];exact d5)) (fun t j=>?_)
    unfold j7 YW
    by_cases e:t=d
    ·rw [if_pos e,if_pos e]
    ·by_cases T:t=i
     ·rw [if_neg e,if_neg e,if_neg e,if_pos T,if_pos T]
     ·rw [if_neg e,if_neg e,if_neg e,if_neg T,if_neg T]
  ·have d7:i=r:=by omega
   subst d7
   go_wp2
   go_ret
   exact ⟨ZP E.out,Or.inl ⟨rfl,H0.out,H.out⟩⟩
theorem RU (f h k o g s u n r j d t x y:Nat) (w:World) (E:w.cell? ⟨f,0,aa⟩=ab (.slice (ab ⟨g,0,aa⟩) n n)) (G:w.cell? ⟨h,0,aa⟩=ab (.int .u8 (t:Int))) (H:w.cell? ⟨k,0,aa⟩=ab (.slice (ab ⟨s,0,aa⟩) r r)) (I:w.cell? ⟨o,0,aa⟩=ab (.int .i64 (d:Int)))
 (J:w.cell? ⟨s,d,aa⟩=ab (.slice (ab ⟨u,0,aa⟩) n n)) (K:w.cell? ⟨g,j,aa⟩=ab (.int .u8 (x:Int))) (L:w.cell? ⟨u,j,aa⟩=ab (.int .u8 (y:Int))) (M:j < n) (N:d < r) (lt:t < 256) (B:x < 256) (D:y < 256) :
 aj prog 84 #[.int .i64 (j:Int),.pointer (ab ⟨f,0,aa⟩),.pointer (ab ⟨h,0,aa⟩),.pointer (ab ⟨k,0,aa⟩),.pointer (ab ⟨o,0,aa⟩)] w fun e z=>e=.returned (.int .u8 ((x ^^^ Gf.mul t y:Nat):Int))/\ae w.heap.size w z:=by
 have A:=Gf.aV lt y
 go_enter func84,ntmps84
 go_wp2
 go_quiet ((first | (go_at_call 61;exact ak (Zx t y _ lt D)) | (go_at_call 69;exact ak (oC x (Gf.mul t y) _ B A))))
 go_wp2
 go_ret
 exact ⟨rfl,al (af _ _) _⟩
theorem D9 (S:Nat->Prop) (B u:Nat) (s:Nat->Nat) (r n d c:Nat) (f:Nat->Nat->Nat) (w:World) (hr:r<=1000) (hn:n<=1000) (Q:d < r) (hc:c < n) (R:∀ i j,f i j < 256) (hG:Zv w B u s r n f) (b2:∀ i,i < r->S (s i)) (b3:∀ k,S k->k < w.heap.size) (d8:S u) :
 aj prog 67 #[.slice (ab ⟨u,0,aa⟩) r r,.int .i64 (d:Int),.int .i64 (c:Int)] w fun e w'=>e=.returned (.tuple #[])/\ZI S w w'/\Zv w' B u s r n (QH f d c):=by
 have HG:Hid (Zv w B u s r n f):=hG
 have a2:Hid (∀ k,S k->k < w.heap.size):=b3
 clear hG b3
 go_enter func67,ntmps67
 go_wp2
 obtain ⟨z,G⟩:∃ z,z=(w.alloc (.cells #[.slice (ab ⟨u,0,aa⟩) r r] 23)).alloc (.cells #[.int .i64 (d:Int)] 3):=⟨_,rfl⟩
 rw [<- G]
 have T:Hid (ae w.heap.size w z):=by
  show ae _ _ _
  rw [G]
  exact ((af _ _).alloc (ah _) _).alloc (by simp) _
 have d9:z.heap.size=w.heap.size+2:=by rw [G];simp
 have a3:Hid (z.cell? ⟨w.heap.size,0,aa⟩=ab (.slice (ab ⟨u,0,aa⟩) r r)):=by
  show _=_
  rw [G,ag _ _ _ (by simp),ac _ _ _ _ rfl]
  rfl
 have a4:Hid (z.cell? ⟨w.heap.size+1,0,aa⟩=ab (.int .i64 (d:Int))):=by
  show _=_
  rw [G,ac _ _ _ _ (by simp)]
  rfl
 clear G
 go_loopw [11] (fun x wr=>∃ k:Nat,k<=r/\x=.int .i64 k/\Zv wr B u s r n (fun i j=>if i < k then QH f d c i j else f i j)/\ZI S w wr/\w.heap.size+2<=wr.heap.size/\wr.cell? ⟨w.heap.size,0,aa⟩=ab (.slice (ab ⟨u,0,aa⟩) r r)/\wr.cell? ⟨w.heap.size+1,0,aa⟩=ab (.int .i64 (d:Int))) (fun x _=>r - (intOf x).toNat)
 case atStart=>exact ⟨0,by omega,rfl,by simpa using HG.out.below T.out,ZP T.out,by omega,a3.out,a4.out⟩
 case round =>
  obtain ⟨k,hk,rfl,a5,a6,e1,a7,U⟩:=hrel
  obtain ⟨t,rfl⟩:∃ t,t=wr:=⟨_,rfl⟩
  have A:Hid (Zv t B u s r n (fun i j=>if i < k then QH f d c i j else f i j)):=a5
  have V:Hid (ZI S w t):=a6
  have a8:Hid (t.cell? ⟨w.heap.size,0,aa⟩=ab (.slice (ab ⟨u,0,aa⟩) r r)):=a7
  clear a5 a6 T a3 a4 a7
  by_cases D:k < r
  ·have c1:t.cell? ⟨u,k,aa⟩=ab (.slice (ab ⟨s k,0,aa⟩) n n):=A.out.rows.cell k D
   have e2:(t.alloc (.cells #[.slice (ab ⟨s k,0,aa⟩) n n] 32)).cell? ⟨w.heap.size+1,0,aa⟩=ab (.int .i64 (d:Int)):=(ag _ _ _ (by show w.heap.size+1 < _;omega)).trans U
   by_cases O:k=d
   ·have ht:((k:Int) != (d:Int))=false:=by simp;omega
    have W:Hid (∀ i j,(if i < k then QH f d c i j else f i j)=if i < k+1 then QH f d c i j else f i j):=fun i j=>by
     by_cases e:i < k
     ·rw [if_pos e,if_pos (by omega)]
     ·by_cases Y:i=k
      ·rw [if_neg e,if_pos (by omega)]
       unfold QH
       rw [if_pos (by omega)]
      ·rw [if_neg e,if_neg (by omega)]
    clear O
    go_wp2
    have H:ae t.heap.size t (t.alloc (.cells #[.slice (ab ⟨s k,0,aa⟩) n n] 32)):=(af _ _).alloc (ah _) _
    go_roundw
    case rel=>exact ⟨k+1,by omega,by go_num,Zv.congr (A.out.below H) W.out,V.out.trans (ZP H),by simp;omega,(H.cell (p:=⟨w.heap.size,0,aa⟩) (by show w.heap.size < _;omega)).trans a8.out,(H.cell (p:=⟨w.heap.size+1,0,aa⟩) (by show w.heap.size+1 < _;omega)).trans U⟩
    case measure=>simp [intOf];omega
   ·have ht:((k:Int) != (d:Int))=true:=by simp;omega
    have e3:Hid (k≠d):=O
    have Z:(fun j=>if k < k then QH f d c k j else f k j)=f k:=funext fun j=>if_neg (ap _)
    have fd:∀ j,(if d < k then QH f d c d j else f d j)=f d j:=fun j=>by
     by_cases e:d < k
     ·rw [if_pos e];unfold QH;rw [if_pos rfl]
     ·rw [if_neg e]
    have c2:t.cell? ⟨s k,c,aa⟩=ab (.int .u8 ((f k c:Nat):Int)):=by
     have:=A.out.all.row k D
     rw [Z] at this
     rw [this.cell c hc (Jf _ _),Yq _ _ c hc]
    have c3:(t.alloc (.cells #[.slice (ab ⟨s k,0,aa⟩) n n] 32)).cell? ⟨s k,c,aa⟩=ab (.int .u8 ((f k c:Nat):Int)):=(ag _ _ _ (Qf c2)).trans c2
    have lt:=R k c
    have e4:s k < w.heap.size:=a2.out _ (b2 k D)
    have e5:u < w.heap.size:=a2.out _ d8
    obtain ⟨y,I⟩:∃ y,y=(t.alloc (.cells #[.slice (ab ⟨s k,0,aa⟩) n n] 32)).alloc (.cells #[.int .u8 ((f k c:Nat):Int)] 5):=⟨_,rfl⟩
    have L:ae t.heap.size t y:=by rw [I];exact ((af _ _).alloc (ah _) _).alloc (by simp) _
    have f0:y.heap.size=t.heap.size+2:=by rw [I];simp
    have a9:y.cell? ⟨t.heap.size,0,aa⟩=ab (.slice (ab ⟨s k,0,aa⟩) n n):=by rw [I,ag _ _ _ (by simp),ac _ _ _ _ rfl];rfl
    have b1:y.cell? ⟨t.heap.size+1,0,aa⟩=ab (.int .u8 ((f k c:Nat):Int)):=by rw [I,ac _ _ _ _ (by simp)];rfl
    have a0:y.cell? ⟨w.heap.size,0,aa⟩=ab (.slice (ab ⟨u,0,aa⟩) r r):=(L.cell (p:=⟨w.heap.size,0,aa⟩) (by show w.heap.size < _;omega)).trans a8.out
    have a1:y.cell? ⟨w.heap.size+1,0,aa⟩=ab (.int .i64 (d:Int)):=(L.cell (p:=⟨w.heap.size+1,0,aa⟩) (by show w.heap.size+1 < _;omega)).trans U
    have J:Hid (Zv y B u s r n (fun i j=>if i < k then QH f d c i j else f i j)):=A.out.below L
    have b4:Hid (ZI S w y):=V.out.trans (ZP L)
    have b5:Hid (Zo y B 5 (s k) n (Qi n (f k))):=by have:=J.out.all.row k D;rw [Z] at this;exact this
    have b6:s k≠u:=J.out.all.ne k D
    have b7:s d≠s k:=fun e=>O (J.out.all.inj d k Q D e).symm
    have d0:Hid (∀ j,j < n->∀ E,y.grownBy E (ab (s k))->Zo E B 5 (s k) n (Qi n (fun l=>if l < j then f k l ^^^ Gf.mul (f k c) (f d l) else f k l)) ->
     aj prog 84 (#[.int .i64 (j:Int)] ++ #[.pointer (ab ⟨t.heap.size,0,aa⟩),.pointer (ab ⟨t.heap.size+1,0,aa⟩),.pointer (ab ⟨w.heap.size,0,aa⟩),.pointer (ab ⟨w.heap.size+1,0,aa⟩)]) E fun e z=>e=.returned (.int .u8 ((f k j ^^^ Gf.mul (f k c) (f d j):Nat):Int))/\ae E.heap.size E z):=by
     intro j M E d1 d2
     have K:∀ {b o:Nat} {v:Value},y.cell? ⟨b,o,aa⟩=ab v->b≠s k->E.cell? ⟨b,o,aa⟩=ab v:=fun {b o v} h H=>d1.cell h (by show ab b≠_;intro e;exact H (ai e))
     refine RU t.heap.size (t.heap.size+1) w.heap.size (w.heap.size+1) (s k) u (s d) n r j d (f k c) (f k j) (f d j) E (K a9 (by omega)) (K b1 (by omega)) (K a0 (by omega)) (K a1 (by omega)) (K (J.out.rows.cell d Q) (fun e=>b6 e.symm)) ?_ (K ?_ b7) M Q lt (R k j) (R d j)
     ·rw [d2.cell j M (Jf _ _),Yq _ _ j M,if_neg (ap _)]
     ·rw [(J.out.all.row d Q).cell j M (Jf _ _),Yq _ _ j M,fd j]
    have d3:Hid (y=(t.alloc (.cells #[.slice (ab ⟨s k,0,aa⟩) n n] 32)).alloc (.cells #[.int .u8 ((f k c:Nat):Int)] 5)):=I
    have W:Hid (∀ i j,(if i=k then fun l=>f k l ^^^ Gf.mul (f k c) (f d l) else fun j=>if i < k then QH f d c i j else f i j) j=if i < k+1 then QH f d c i j else f i j):=fun i j=>by
     by_cases e:i=k
     ·rw [if_pos e,if_pos (by omega)]
      unfold QH
      rw [if_neg (by omega),e]
     ·rw [if_neg e]
      by_cases Y:i < k
      ·rw [if_pos (by omega:i < k+1)];exact if_pos Y
      ·rw [if_neg (by omega:¬ i < k+1)];exact if_neg Y
    have d4:Hid (y.cell? ⟨w.heap.size,0,aa⟩=ab (.slice (ab ⟨u,0,aa⟩) r r)):=a0
    have d5:Hid (y.cell? ⟨w.heap.size+1,0,aa⟩=ab (.int .i64 (d:Int))):=a1
    clear I L a9 b1 a0 a1 Z fd O R
    go_wp2_with (go_at_call 54;rw [<- d3.out];refine (zL (s k) n B (f k) (fun l=>f k l ^^^ Gf.mul (f k c) (f d l)) 84 #[.pointer (ab ⟨t.heap.size,0,aa⟩),.pointer (ab ⟨t.heap.size+1,0,aa⟩),.pointer (ab ⟨w.heap.size,0,aa⟩),.pointer (ab ⟨w.heap.size+1,0,aa⟩)] y hn (enters_of func84 (by kernel_rfl) rfl) b5.out d0.out).mono ?_;rintro e w8 ⟨rfl,d6,N⟩)
    go_roundw
    case rel =>
     refine ⟨k+1,by omega,by go_num,Zv.congr (J.out.change D N d6) W.out,b4.out.trans (zO N (b2 k D)),by have:=N.size;omega,N.cell d4.out (by show ab w.heap.size≠_;intro e;have:=ai e;omega),N.cell d5.out (by show ab (w.heap.size+1)≠_;intro e;have:=ai e;omega)⟩
    case measure=>simp [intOf];omega
  ·have d7:k=r:=by omega
   subst d7
   go_wp2
   go_end0
   refine ⟨rfl,V.out,⟨A.out.rows,fun i hi=>?_,A.out.all.ne,A.out.all.inj⟩⟩
   have:=A.out.all.row i hi
   rw [show (fun j=>if i < k then QH f d c i j else f i j)=QH f d c i from funext fun j=>if_pos hi] at this
   exact this
theorem VN (h:∀ i j,g i j < 256) (d p k i j:Nat):Qm (j7 g d p k i j)=Lin.aZ (fun i j=>Qm (g i j)) d p k i j:=by
 have o:Qm (Gf.inv (g p k))=Lin.iv (Qm (g p k)):=Fin.ext (by
  show (Qm (Gf.inv (g p k))).1=Gf.inv (Qm (g p k)).1
  rw [YY (Gf.cQ _),YY (h p k)])
 unfold j7 Lin.aZ
 by_cases e:i=d
 ·rw [if_pos e,if_pos e,oU (Gf.cQ _) (h _ _),o]
 ·by_cases f:i=p
  ·rw [if_neg e,if_neg e,if_pos f,if_pos f]
  ·rw [if_neg e,if_neg e,if_neg f,if_neg f]
theorem s9 (h:∀ i j,g i j < 256) (d k i j:Nat):Qm (QH g d k i j)=Lin.bE (fun i j=>Qm (g i j)) d k i j:=by
 unfold QH Lin.bE
 by_cases e:i=d
 ·rw [if_pos e,if_pos e]
 ·rw [if_neg e,if_neg e,qW (h _ _) (Gf.aV (h _ _) _),oU (h _ _) (h _ _)]
def Ym (f:Nat->Nat->Nat):Nat->Nat->Lin.F:=fun i j=>Qm (f i j)
theorem TJ (h:∀ i j,g i j < 256) (d p k:Nat):Ym (QH (j7 g d p k) d k)=Lin.bE (Lin.aZ (Ym g) d p k) d k:=by
 have f:Ym (j7 g d p k)=Lin.aZ (Ym g) d p k:=funext fun i=>funext fun j=>VN h d p k i j
 rw [<- f]
 exact funext fun i=>funext fun j=>s9 (fun i j=>yD h d p k i j) d k i j
theorem s7 (S:Nat->Prop) (B s:Nat) (G:Nat->Nat) (r n c:Nat) (f:Nat->Nat->Nat) (z:ao) (w:World) (hr:r<=1000) (hn:n<=1000) (hc:c<=n) (hf:∀ i j,f i j < 256) (hG:Zv w B s G r n f) (a1:S s) (b2:∀ i,i < r->S (G i)) (a2:∀ k,S k->B<=k/\k < w.heap.size) (b3:2 < B)
 (hz:w.cell? ⟨2,0,aa⟩=ab (.iface 136 (.pointer (ab z)))) :
 aj prog 37 #[.slice (ab ⟨s,0,aa⟩) r r,.int .i64 (c:Int)] w fun e w'=>ZI S w w'/\∃ (d:Nat) (o:Nat->Nat) (g:Nat->Nat->Nat),e=.returned (.int .i64 (d:Int))/\Zv w' B s o r n g/\(∀ i j,g i j < 256)/\Lin.eO r n c (Ym f) (Ym g) d:=by
 have HG:Hid (Zv w B s G r n f):=hG
 have K:Hid (∀ k,S k->B<=k/\k < w.heap.size):=a2
 have L:Hid (w.cell? ⟨2,0,aa⟩=ab (.iface 136 (.pointer (ab z)))):=hz
 clear hG a2 hz
 go_enter func37,ntmps37
 go_wp2
 go_loopw [5,8] (fun y x wr=>∃ (k d:Nat) (o:Nat->Nat) (g:Nat->Nat->Nat),k<=c/\x=.int .i64 k/\y=.int .i64 d/\Zv wr B s o r n g/\(∀ i,i < r->S (o i))/\(∀ i j,g i j < 256)/\Lin.eO r n k (Ym f) (Ym g) d/\ZI S w wr) (fun _ x _=>c - (intOf x).toNat)
 case atStart=>exact ⟨0,0,G,f,by omega,rfl,rfl,HG.out,b2,hf,Lin.eO.start _ _ _,ZP (af _ _)⟩
 case round =>
  obtain ⟨k,d,o,g,hk,rfl,rfl,M,N,O,H,Q⟩:=hrel
  obtain ⟨u,rfl⟩:∃ u,u=wr:=⟨_,rfl⟩
  have R:Hid (Zv u B s o r n g):=M
  have T:Hid (∀ i,i < r->S (o i)):=N
  have t:Hid (∀ i j,g i j < 256):=O
  have I:Hid (Lin.eO r n k (Ym f) (Ym g) d):=H
  have A:Hid (ZI S w u):=Q
  have a3:d<=r:=H.le
  clear M N O H Q
  by_cases b4:k < c
  ·have U:Hid (u.cell? ⟨2,0,aa⟩=ab (.iface 136 (.pointer (ab z)))):=A.out.cell L.out (fun hs=>by have:=(K.out _ hs).1;omega)
   go_wp2_with (go_at_call 66;refine (HL S B s o r n d k g z _ hr hn a3 (by omega) t.out R.out a1 T.out b3 U.out).mono ?_;rintro e V ⟨J,⟨rfl,h0,D⟩ | ⟨rfl,p,E,a4,a5,W,Y,D⟩⟩)
   ·go_roundw
    case rel=>exact ⟨k+1,d,o,g,by omega,by go_num,rfl,D,T.out,t.out,I.out.skip (fun i h1 h2=>by show Qm (g i k)=0;rw [h0 i h1 h2];rfl),A.out.trans J⟩
    case measure=>simp [intOf];omega
   ·have Z:Hid (ZI S u V):=J
    have a0:Hid (∀ i,i < r->S (E i)):=Y
    have a6:Hid (Zv V B s E r n (j7 g d p k)):=D
    have a7:Hid (g p k≠0):=W
    clear J Y D W U L
    go_wp2_with (go_at_call 67;refine (D9 S B s E r n d k (j7 g d p k) _ hr hn (by omega) (by omega) (fun i j=>yD t.out d p k i j) a6.out a0.out (fun q hq=>aq (K.out q hq).2 (ax A.out.size Z.out.size)) a1).mono ?_;rintro e w5 ⟨rfl,a8,a9⟩)
    go_roundw
    case rel =>
     refine ⟨k+1,d+1,E,QH (j7 g d p k) d k,by omega,by go_num,by go_num,a9,a0.out,fun i j=>WL (fun i j=>yD t.out d p k i j) d k i j,?_,A.out.trans (Z.out.trans a8)⟩
     rw [TJ t.out]
     exact I.out.step a4 a5 (fun h=>a7.out ((AP (t.out p k)).1 h))
    case measure=>simp [intOf];omega
  ·have b1:k=c:=by omega
   subst b1
   go_wp2
   go_ret
   exact ⟨A.out,d,o,g,rfl,R.out,t.out,I.out⟩
theorem AF {A B:List (List Nat)} (d:QR A) (f:QR B) (i j:Nat):∀ k,Qm (jM A B i j k)=Lin.aL k (fun t=>Lin.mu (Yr A i t) (Yr B t j))
 | 0=>rfl
 | k+1=>by
  show Qm (jM A B i j k ^^^ Gf.mul (Gf.nth (Qh A i) k) (Gf.nth (Qh B k) j))=Lin.ad _ _
  rw [qW (o8 A B d i j k) (Gf.aV (d i k) _),oU (d i k) (f k j),AF d f i j k]
  rfl
theorem zA {x y:Nat} (d:x < 256) (f:y < 256) (h:Qm x=Qm y):x=y:=by
 have:=congrArg Fin.val h
 rw [YY d,YY f] at this
 exact this
theorem J6  (h:∀ i j,f i j < 256):QR (XB r n f):=fun i=>by
 by_cases d:i < r
 ·rw [XD r n f i d];exact XL _ _ (h i)
 ·intro j
  have:Qh (XB r n f) i=[]:=by unfold Qh;rw [List.getD_eq_getElem?_getD,List.getElem?_eq_none (by rw [Zs];omega)];rfl
  rw [this]
  show ([]:List Nat).getD j 0 < 256
  simp
theorem uN  (d:i < r) (h:j < n):Yr (XB r n f) i j=Ym f i j:=by
 unfold Yr Ym
 rw [XD r n f i d,Yq _ _ j h]
theorem zH  (h:1<=r) (j:r<=16) (k:1<=n) (o:n<=16):jQ (XB r n f):=by
 refine ⟨by rw [Zs];exact h,by rw [Zs];exact j,fun i d=>?_⟩
 rw [Zs] at d
 rw [XD r n f i d,XD r n f 0 (by omega),Jf,Jf]
 exact ⟨k,o,rfl⟩
theorem K1 (A B:List (List Nat)) (m:Nat):xW A B m=XB m (Qh B 0).length (fun i j=>jM A B i j B.length):=rfl
def QO (d:Nat) (f:Nat->Nat) (r:Nat) (k:Nat):Prop:=k=d∨∃ i,i < r/\f i=k
theorem Zv.blocks  {j:Nat->Nat}  (h:Zv w B d j r n f):∀ k,QO d j r k->B<=k/\k < w.heap.size:=fun k o=>by
 rcases o with rfl | ⟨i,s,rfl⟩
 ·exact h.rows.lt
 ·exact (h.all.row i s).lt
theorem EX {u:Nat->Nat->Lin.F} (h:Lin.cL n k v d) (o:∀ i,i < k->∀ j,j < n->v i j=u i j):Lin.cL n k u d:=by
 obtain ⟨b,r,s,t⟩:=h
 exact ⟨b,r,fun i f=>Lin.aX (s i f) o (fun _ _=>rfl),fun i f=>Lin.aX (t i f) (fun _ _ _ _=>rfl) (o i f)⟩
def JK (M:List (List Nat)) (r:Nat):Nat->Nat->Nat:=fun i j=>if j < r then Gf.nth (Qh M i) j else if i=j - r then 1 else 0
theorem OM (h:QR M) (r i j:Nat):JK M r i j < 256:=by
 unfold JK
 by_cases e:j < r
 ·rw [if_pos e];exact h i j
 ·by_cases d:i=j - r
  ·rw [if_neg e,if_pos d];decide
  ·rw [if_neg e,if_neg d];decide
theorem IW (M:List (List Nat)) (r i j:Nat) (d:j < r):Ym (JK M r) i j=Yr M i j:=by
 unfold Ym JK
 rw [if_pos d]
 rfl
theorem z8 (M:List (List Nat)) (r i j:Nat):Ym (JK M r) i (r+j)=Lin.one i j:=by
 unfold Ym JK Lin.one
 rw [if_neg (by omega),show r+j - r=j by omega]
 by_cases e:i=j
 ·rw [if_pos e,if_pos e];rfl
 ·rw [if_neg e,if_neg e];rfl
def xQ (w':World) (M:List (List Nat)) (z:ao) (e:Ending):Prop :=
 ∃ d:Nat,Lin.cL M.length M.length (Yr M) d/\((d < M.length/\e=.returned (.tuple #[.slice aa 0 0,.iface 136 (.pointer (ab z))])) ∨
  (d=M.length/\∃ (f:Nat) (x:Nat->Nat->Nat),e=.returned (.tuple #[.slice (ab ⟨f,0,aa⟩) M.length M.length,.nilIface])/\QJ w' (ab ⟨f,0,aa⟩) (XB M.length M.length x)/\(∀ i j,x i j < 256)/\∀ i j,i < M.length->j < M.length->Lin.mm M.length (Ym x) (Yr M) i j=Lin.one i j))
theorem FJ (p:Option ao) (M:List (List Nat)) (G:Nat) (z:ao) (w:World) (R:jQ M) (a1:(Qh M 0).length=M.length) (hb:QR M) (h:QJ w p M)
 (hz:w.cell? ⟨2,0,aa⟩=ab (.iface 136 (.pointer (ab z)))) :
 aj prog 18 #[.slice p M.length G] w fun e w'=>xQ w' M z e/\ae w.heap.size w w':=by
 have HM:Hid (jQ M):=R
 have l1:1<=M.length:=R.1
 have l2:M.length<=16:=R.2.1
 have d6:2 < w.heap.size:=Qf hz
 have d7:Hid (QR M):=hb
 obtain ⟨u,K⟩:∃ u,u=w.alloc (.cells #[.slice p M.length G] 23):=⟨_,rfl⟩
 have S:ae w.heap.size w u:=by rw [K];exact (af _ _).alloc (ah _) _
 have g9:u.heap.size=w.heap.size+1:=by rw [K];simp
 have a2:Hid (QJ u p M):=h.below S
 have a3:u.cell? ⟨w.heap.size,0,aa⟩=ab (.slice p M.length G):=by rw [K,ac _ _ _ _ rfl];rfl
 have d8:Hid (u.cell? ⟨2,0,aa⟩=ab (.iface 136 (.pointer (ab z)))):=(S.cell (p:=⟨2,0,aa⟩) d6).trans hz
 have d9:Hid (ae w.heap.size w u):=S
 have e1:Hid (∀ i,i < M.length->(Qh M i).length=M.length):=fun i B=>(R.2.2 i B).2.2.trans a1
 obtain ⟨b,o,b1,o1,c1,e2,e3,_,a4,_⟩:=a2.out.row (i:=0) (by omega) (by rw [a1];omega)
 rw [a1] at a4
 have e4:u.cell? ⟨b,o,aa⟩=ab (.slice (ab ⟨b1,o1,aa⟩) M.length c1):=a4
 subst e2
 have e5:Hid (u=w.alloc (.cells #[.slice (ab ⟨b,o,aa⟩) M.length G] 23)):=K
 have i0:0 < M.length:=by omega
 have i1:(0:Int) < (M.length:Int):=by omega
 clear R hb h hz S K a4 a1
 go_enter func18,ntmps18
 go_wp2_with fail
 rw [<- e5.out]
 go_quiet ((go_at_call 35;exact ak (wW _ M G _ HM.out (a2.out.drewN _))))
 obtain ⟨t,T⟩:∃ t,t=u.drewN nq:=⟨_,rfl⟩
 have a5:ae u.heap.size u t:=by rw [T];exact al (af _ _) _
 have f0:t.heap.size=u.heap.size:=by rw [T];rfl
 rw [<- T]
 have f1:t.cell? ⟨w.heap.size,0,aa⟩=ab (.slice (ab ⟨b,o,aa⟩) M.length G):=(a5.cell (p:=⟨w.heap.size,0,aa⟩) (by show w.heap.size < _;omega)).trans a3
 obtain ⟨f,L⟩:∃ f,f=t.alloc (.cells #[.int .i64 (M.length:Int)] 3):=⟨_,rfl⟩
 have N:ae u.heap.size u f:=by rw [L];exact a5.alloc (by omega) _
 have h0:f.heap.size=w.heap.size+2:=by rw [L];simp;omega
 have a6:f.cell? ⟨w.heap.size+1,0,aa⟩=ab (.int .i64 (M.length:Int)):=by rw [L,ac _ _ _ _ (by omega)];rfl
 have b3:f.cell? ⟨w.heap.size,0,aa⟩=ab (.slice (ab ⟨b,o,aa⟩) M.length G):=(N.cell (p:=⟨w.heap.size,0,aa⟩) (by show w.heap.size < _;omega)).trans a3
 have f2:Hid (QJ f (ab ⟨b,o,aa⟩) M):=a2.out.below N
 have f3:Hid (f.cell? ⟨2,0,aa⟩=ab (.iface 136 (.pointer (ab z)))):=(N.cell (p:=⟨2,0,aa⟩) (by show 2 < _;omega)).trans d8.out
 have f4:Hid (ae w.heap.size w f):=d9.out.trans (N.mono (by omega))
 have U:Hid (∀ i j,i < M.length->j < 2*M.length->∀ t,ae f.heap.size f t->aj prog 38 (#[.int .i64 (i:Int),.int .i64 (j:Int)] ++ #[.pointer (ab ⟨w.heap.size+1,0,aa⟩),.pointer (ab ⟨w.heap.size,0,aa⟩)]) t fun e f=>e=.returned (.int .u8 ((JK M M.length i j:Nat):Int))/\ae t.heap.size t f):=by
  intro i j B I s h4
  exact UM (w.heap.size+1) w.heap.size i j M.length G _ M s B I (e1.out i B) (by omega) ((h4.cell (p:=⟨w.heap.size+1,0,aa⟩) (by show w.heap.size+1 < _;omega)).trans a6) ((h4.cell (p:=⟨w.heap.size,0,aa⟩) (by show w.heap.size < _;omega)).trans b3) (f2.out.below h4)
 have f5:Hid (f=t.alloc (.cells #[.int .i64 (M.length:Int)] 3)):=L
 have h1:t.heap.size=w.heap.size+1:=by omega
 clear T a5 f0 L N a3 e4 e3
 have a7:=tP M.length (2*M.length) (JK M M.length) 38 #[.pointer (ab ⟨w.heap.size+1,0,aa⟩),.pointer (ab ⟨w.heap.size,0,aa⟩)] f (by omega) (by omega) (enters_of func38 (by kernel_rfl) rfl) U.out
 rw [show ((2*M.length:Nat):Int)=2*(M.length:Int) by omega] at a7
 go_wp2_with (go_at_call 27;rw [<- f5.out];refine a7.mono ?_;rintro e s ⟨⟨r,A,rfl,V⟩,a8⟩)
 have b4:Hid (Zv s f.heap.size r A M.length (2*M.length) (JK M M.length)):=V
 have h2:r < s.heap.size:=V.rows.lt.2
 have f6:f.heap.size<=s.heap.size:=a8.size
 obtain ⟨y,O⟩:∃ y,y=s.alloc (.cells #[.slice (ab ⟨r,0,aa⟩) M.length M.length] 23):=⟨_,rfl⟩
 rw [<- O]
 have a9:ae s.heap.size s y:=by rw [O];exact (af _ _).alloc (ah _) _
 have h3:y.heap.size=s.heap.size+1:=by rw [O];simp
 have Y:ae f.heap.size f y:=a8.trans (a9.mono f6)
 have b5:y.cell? ⟨w.heap.size+1,0,aa⟩=ab (.int .i64 (M.length:Int)):=(Y.cell (p:=⟨w.heap.size+1,0,aa⟩) (by show w.heap.size+1 < _;omega)).trans a6
 have f7:y.cell? ⟨s.heap.size,0,aa⟩=ab (.slice (ab ⟨r,0,aa⟩) M.length M.length):=by rw [O,ac _ _ _ _ rfl];rfl
 have b6:Hid (y.cell? ⟨2,0,aa⟩=ab (.iface 136 (.pointer (ab z)))):=(Y.cell (p:=⟨2,0,aa⟩) (by show 2 < _;omega)).trans f3.out
 have f8:Hid (Zv y f.heap.size r A M.length (2*M.length) (JK M M.length)):=V.below a9
 have f9:Hid (ae w.heap.size w y):=f4.out.trans (Y.mono (by omega))
 have J:Hid (∀ k,QO r A M.length k->f.heap.size<=k/\k < s.heap.size):=b4.out.blocks
 have g0:Hid (∀ W:World,ae y.heap.size y W->aj prog 37 #[.slice (ab ⟨r,0,aa⟩) M.length M.length,.int .i64 (M.length:Int)] W fun e w'=>∃ (d:Nat) (D:Nat->Nat) (g:Nat->Nat->Nat),e=.returned (.int .i64 (d:Int))/\ZI (QO r A M.length) y w'/\Zv w' f.heap.size r D M.length (2*M.length) g/\(∀ i j,g i j < 256)/\Lin.eO M.length (2*M.length) M.length (Ym (JK M M.length)) (Ym g) d):=by
  intro W Z
  refine (s7 (QO r A M.length) f.heap.size r A M.length (2*M.length) M.length (JK M M.length) z W (by omega) (by omega) (by omega) (OM d7.out M.length) (f8.out.below Z) (Or.inl rfl) (fun i B=>Or.inr ⟨i,B,rfl⟩) (fun k E=>⟨(J.out k E).1,by have:=(J.out k E).2;have:=Z.size;omega⟩) (by omega) ((Z.cell (p:=⟨2,0,aa⟩) (by show 2 < _;omega)).trans b6.out)).mono ?_
  rintro e w' ⟨hF,d,D,g,rfl,hG,hl,hR⟩
  exact ⟨d,D,g,rfl,(ZP Z).trans hF,hG,hl,hR⟩
 have nS:¬ QO r A M.length (w.heap.size+1):=fun E=>by have:=(J.out _ E).1;omega
 have nB:¬ QO r A M.length s.heap.size:=fun E=>by have:=(J.out _ E).2;omega
 have nE:¬ QO r A M.length 2:=fun E=>by have:=(J.out _ E).1;omega
 have NS:Hid (¬ QO r A M.length (w.heap.size+1)):=nS
 have NB:Hid (¬ QO r A M.length s.heap.size):=nB
 have NE:Hid (¬ QO r A M.length 2):=nE
 clear nS nB nE O a9 Y a8 V b4 a6 f1 b3 a7 U
 go_cut [30] from 26 to 30 (fun v wc=>∃ (d:Nat) (D:Nat->Nat) (g:Nat->Nat->Nat),v=.bool (decide (d < M.length))/\ZI (QO r A M.length) y wc/\Zv wc f.heap.size r D M.length (2*M.length) g/\(∀ i j,g i j < 256)/\Lin.eO M.length (2*M.length) M.length (Ym (JK M M.length)) (Ym g) d)
 case first =>
  go_region_with (go_at_call 37;refine (g0.out _ (by first | exact (Below.refl _ _).drew | exact Below.refl _ _)).mono ?_;rintro e w6 ⟨d,D,g,rfl,hF,hG,hl,hR⟩;have b7:=hF.cell b5 NS.out)
  all_goals (go_wp2_with fail;go_meet)
  all_goals exact ⟨d,D,g,rfl,hF,hG,hl,hR⟩
 case rest =>
  obtain ⟨d,D,g,rfl,H,d0,d1,a0⟩:=hcut
  have h5:Hid (ZI (QO r A M.length) y wc):=H
  have g1:Hid (Zv wc f.heap.size r D M.length (2*M.length) g):=d0
  have d2:Hid (∀ i j,g i j < 256):=d1
  have g2:Hid (Lin.eO M.length (2*M.length) M.length (Ym (JK M M.length)) (Ym g) d):=a0
  have d3:Hid (Lin.cL M.length M.length (Yr M) d):=EX (a0.xN (by omega)) (fun i _ j I=>IW M M.length i j I)
  have g3:wc.cell? ⟨2,0,aa⟩=ab (.iface 136 (.pointer (ab z))):=H.cell b6.out NE.out
  have b7:wc.cell? ⟨w.heap.size+1,0,aa⟩=ab (.int .i64 (M.length:Int)):=H.cell b5 NS.out
  have g4:wc.cell? ⟨s.heap.size,0,aa⟩=ab (.slice (ab ⟨r,0,aa⟩) M.length M.length):=H.cell f7 NB.out
  have h6:y.heap.size<=wc.heap.size:=H.size
  have d4:Hid (ae w.heap.size w wc):=f9.out.trans ((H.below (fun k E=>(J.out k E).1) (by omega)).mono (by omega))
  have h8:d<=M.length:=a0.le
  clear H d0 d1 a0
  by_cases Q:d < M.length
  ·have HD:Hid (d < M.length):=Q
   rw [decide_eq_true Q]
   clear Q
   go_wp2
   go_quiet (fail)
   go_wp2
   go_ret2
   exact ⟨⟨d,d3.out,Or.inl ⟨HD.out,rfl⟩⟩,al d4.out _⟩
  ·have b2:d=M.length:=by omega
   have HD:Hid (d=M.length):=b2
   have g5:Hid (Lin.eO M.length (2*M.length) M.length (Ym (JK M M.length)) (Ym g) M.length):=by have:=g2.out;rw [b2] at this;exact this
   rw [decide_eq_false Q]
   clear Q b2 g3
   have U:Hid (∀ i j,i < M.length->j < M.length->∀ t,ae wc.heap.size wc t->aj prog 40 (#[.int .i64 (i:Int),.int .i64 (j:Int)] ++ #[.pointer (ab ⟨s.heap.size,0,aa⟩),.pointer (ab ⟨w.heap.size+1,0,aa⟩)]) t fun e f=>e=.returned (.int .u8 ((g i (M.length+j):Nat):Int))/\ae t.heap.size t f):=by
    intro i j B I w7 h7
    have d5:=g1.out.below h7
    refine z7 s.heap.size (w.heap.size+1) i j M.length r M.length (2*M.length) D (g i (M.length+j)) w7 B (by omega) (by omega) ((h7.cell (p:=⟨s.heap.size,0,aa⟩) (by show s.heap.size < _;omega)).trans g4) ((h7.cell (p:=⟨w.heap.size+1,0,aa⟩) (by show w.heap.size+1 < _;omega)).trans b7) (d5.rows.cell i B) ?_
    rw [(d5.all.row i B).cell (M.length+j) (by omega) (Jf _ _),Yq _ _ _ (by omega)]
   go_wp2_with (go_at_call 27;refine (tP M.length M.length (fun i j=>g i (M.length+j)) 40 #[.pointer (ab ⟨s.heap.size,0,aa⟩),.pointer (ab ⟨w.heap.size+1,0,aa⟩)] wc (by omega) (by omega) (enters_of func40 (by kernel_rfl) rfl) U.out).mono ?_;rintro e w8 ⟨⟨g6,i2,rfl,g7⟩,g8⟩)
   go_ret2
   refine ⟨⟨d,d3.out,Or.inr ⟨HD.out,g6,fun i j=>g i (M.length+j),rfl,g7.tU (fun i j=>d2.out _ _) M.length (ah _),fun i j=>d2.out _ _,?_⟩⟩,d4.out.trans (g8.mono (by omega))⟩
   exact g5.out.kM (fun i j _ I=>IW M M.length i j I) (fun i j _ _=>z8 M M.length i j)
theorem hT (k r:Nat) (h:r < k):Gf.nth (JB k) r=r:=by
 rw [Gf.aK _ r (by rw [JE];exact h)]
 simp [JB]
theorem IC (k:Nat) (s:k<=256):Lin.dD k k (Ym Gf.bZ):=by
 have h:=R3 (JB k) (tA k s) (sI k)
 rw [JE] at h
 intro c d
 refine h c (fun j f=>?_)
 rw [<- d j f]
 exact Lin.aH fun r o=>by
  show Lin.mu (c r) (Qm (Gf.bZ (Gf.nth (JB k) r) j))=_
  rw [hT k r o]
  rfl
theorem BD  (h:Lin.dD n n v):Lin.cL n n v n:=⟨v,h,fun _ d=>Lin.aU v d,fun _ d=>Lin.aU v d⟩
theorem nY:∀ i j,Gf.bZ i j < 256:=fun i j=>Gf.dV i j
theorem N4 (n k:Nat) (D:n<=12) (E:k<=n) (x:Nat->Nat->Nat) (z:∀ i j,x i j < 256) (A:∀ i j,i < k->j < k->Lin.mm k (Ym x) (Ym Gf.bZ) i j=Lin.one i j) (i j:Nat) (B:i < n) (h:j < k) :
 jM (XB n k Gf.bZ) (XB k k x) i j k=Gf.aQ (JB k) j i:=by
 refine zA (o8 _ _ (J6 nY) i j k) (Gf.bL _ _ _) ?_
 rw [AF (J6 nY) (J6 z)]
 have o:Lin.aL k (fun t=>Lin.mu (Yr (XB n k Gf.bZ) i t) (Yr (XB k k x) t j))=Lin.mm k (fun i t=>Qm (Gf.bZ i t)) (Ym x) i j:=Lin.aH fun t f=>by rw [uN B f,uN f h];rfl
 rw [o]
 have r:=Lin.cK A
 have s:∀ m,m < k->Qm (Gf.bZ i m)=Lin.mm k (fun i j=>Qm (Gf.aQ (JB k) j i)) (Ym Gf.bZ) i m:=fun m d=>by
  have:=Y6 (JB k) (tA k (by omega)) (sI k) i m (by omega) (by rw [JE];exact d)
  rw [JE] at this
  rw [<- this]
  exact Lin.aH fun t f=>by rw [hT k t f];rfl
 have u:Lin.mm k (fun i t=>Qm (Gf.bZ i t)) (Ym x) i j=Lin.mm k (Lin.mm k (fun i j=>Qm (Gf.aQ (JB k) j i)) (Ym Gf.bZ)) (Ym x) i j:=Lin.bQ k (fun m d=>s m d) (fun _ _=>rfl)
 rw [u,Lin.cN]
 have y:Lin.mm k (fun i j=>Qm (Gf.aQ (JB k) j i)) (Lin.mm k (Ym Gf.bZ) (Ym x)) i j=Lin.mm k (fun i j=>Qm (Gf.aQ (JB k) j i)) Lin.one i j:=Lin.bQ k (fun _ _=>rfl) (fun m d=>r m j d h)
 rw [y,Lin.fK k _ i j h]
theorem PI (n k:Nat) (t:1<=k) (h:n<=12) (o:k<=n) (x:Nat->Nat->Nat) (r:∀ i j,x i j < 256) (s:∀ i j,i < k->j < k->Lin.mm k (Ym x) (Ym Gf.bZ) i j=Lin.one i j) :
 xW (XB n k Gf.bZ) (XB k k x) n=kK k n:=by
 rw [K1,XD k k x 0 (by omega),Jf,Zs]
 unfold XB kK
 refine List.map_congr_left fun i d=>?_
 exact YL k _ _ (fun j f=>N4 n k h o x r s i j (List.mem_range.1 d) f)
theorem xL (n k:Nat) (z:ao) (w:World) (h:1<=k) (H:k<=n) (T:n<=12) (U:w.cell? ⟨2,0,aa⟩=ab (.iface 136 (.pointer (ab z)))) :
 aj prog 11 #[.int .i64 (n:Int),.int .i64 (k:Int)] w fun e w'=>(∃ f,e=.returned (.tuple #[.slice (ab ⟨f,0,aa⟩) n n,.nilIface])/\QJ w' (ab ⟨f,0,aa⟩) (kK k n))/\ae w.heap.size w w':=by
 have I:=K0 n k w h H T
 have u:Hid (w.cell? ⟨2,0,aa⟩=ab (.iface 136 (.pointer (ab z)))):=U
 clear U
 go_enter func11,ntmps11
 go_wp2_with fail
 refine I.mono ?_
 rintro e o ⟨⟨f,gs,rfl,y⟩,A⟩
 have J:Hid (QJ o (ab ⟨f,0,aa⟩) (XB n k Gf.bZ)):=y.tU nY n (ah _)
 have K:Hid (QJ o (ab ⟨f,0,aa⟩) (XB k k Gf.bZ)):=y.tU nY k H
 have L:Hid (o.cell? ⟨2,0,aa⟩=ab (.iface 136 (.pointer (ab z)))):=(A.cell (p:=⟨2,0,aa⟩) (Qf u.out)).trans u.out
 have M:Hid (ae w.heap.size w o):=A
 clear y A I u
 have r:=FJ (ab ⟨f,0,aa⟩) (XB k k Gf.bZ) n z o (zH h (by omega) h (by omega)) (by rw [XD k k Gf.bZ 0 (by omega),Jf,Zs]) (J6 nY) K.out L.out
 unfold xQ at r
 rw [Zs] at r
 go_wp2_with fail
 refine r.mono ?_
 rintro e B ⟨⟨d,N,V⟩,D⟩
 have W:d=k:=Lin.dY N (EX (BD (IC k (by omega))) (fun i E j s=>(uN E s).symm))
 rcases V with ⟨a2,_⟩ | ⟨_,Y,x,rfl,O,Q,R⟩
 ·omega
 ·have S:Hid (ae w.heap.size w B):=M.out.trans (D.mono M.out.size)
  have Z:w.heap.size<=B.heap.size:=S.out.size
  have G:=RK (ab ⟨f,0,aa⟩) (ab ⟨Y,0,aa⟩) (XB n k Gf.bZ) (XB k k x) n k B (zH (by omega) (by omega) h (by omega)) (zH h (by omega) h (by omega)) (by rw [XD n k Gf.bZ 0 (by omega),Jf,Zs]) (J6 nY) (J6 Q) (J.out.below D) O
  rw [Zs,Zs,PI n k h T H x Q (fun i j E s=>by
   rw [<- R i j E s]
   exact Lin.bQ k (fun _ _=>rfl) (fun t ht=>(uN ht s).symm))] at G
  clear N W O R D r K J L
  go_wp2_with fail
  refine G.mono ?_
  rintro e w3 ⟨⟨g3,rfl,a0⟩,a1⟩
  clear G
  go_wp2
  go_ret2
  exact ⟨⟨g3,rfl,a0⟩,S.out.trans (a1.mono Z)⟩
theorem C2 (n k:Int) (z:ao) (w:World) (h:¬ (1<=k/\k<=n/\n<=12)) (d:w.cell? ⟨0,0,aa⟩=ab (.iface 136 (.pointer (ab z)))) :
 aj prog 11 #[.int .i64 n,.int .i64 k] w fun e w'=>e=.returned (.tuple #[.slice aa 0 0,.iface 136 (.pointer (ab z))])/\ae w.heap.size w w':=by
 have f:=j1 n k z w h d
 clear h d
 go_enter func11,ntmps11
 go_wp2_with fail
 refine f.mono ?_
 rintro e o ⟨rfl,j⟩
 go_wp2
 go_ret2
 exact ⟨rfl,j⟩
theorem k3 (i:Nat) (d:i < 1):Yr [[1]] i 0=1:=by
 obtain rfl:i=0:=by omega
 rfl
theorem r5 (h:Lin.cL 1 1 (Yr [[1]]) d):d=1:=by
 refine Lin.dY h ⟨Yr [[1]],?_,fun i f=>Lin.aU _ f,fun i f=>Lin.aU _ f⟩
 refine Lin.UF (fun i=>i) (fun _ h=>h) (fun i f=>?_) (fun i j k o=>by omega)
 obtain rfl:i=0:=by omega
 rw [k3 0 f]
 exact Lin.G5
theorem C4 {x:Nat->Nat->Nat} (o:∀ i j,x i j < 256) (h:∀ i j,i < 1->j < 1->Lin.mm 1 (Ym x) (Yr [[1]]) i j=Lin.one i j):x 0 0=1:=by
 have d:=h 0 0 (by decide) (by decide)
 have k:Lin.mm 1 (Ym x) (Yr [[1]]) 0 0=Qm (x 0 0):=by
  show Lin.ad 0 (Lin.mu (Qm (x 0 0)) (Yr [[1]] 0 0))=_
  rw [k3 0 (by decide),Lin.oY,Lin.AN]
 rw [k] at d
 have f:=congrArg Fin.val d
 rw [YY (o 0 0)] at f
 exact f
theorem q7:jQ [[1]]:=⟨by decide,by decide,fun i d=>by
 obtain rfl:i=0:=by simp at d;exact d
 exact ⟨by decide,by decide,rfl⟩⟩
theorem mL:QR [[1]]:=fun i j=>by
 match i with
 | 0 =>
  match j with
  | 0=>decide
  | j+1=>show (([1]:List Nat).getD (j+1) 0) < 256;simp
 | i+1=>show ((Qh [[1]] (i+1)).getD j 0) < 256;simp [Qh]
theorem k7 (z:ao) (w:World) (A:w.cell? ⟨2,0,aa⟩=ab (.iface 136 (.pointer (ab z)))) :
 aj prog 9 #[] w fun e w'=>e=.returned (.bool true)/\ae w.heap.size w w':=by
 obtain ⟨f,k⟩:∃ f,f=(w.alloc (.cells #[.int .u8 1] 5)).alloc (.cells #[.slice (ab ⟨w.heap.size,0,aa⟩) 1 1] 32):=⟨_,rfl⟩
 have r:ae w.heap.size w f:=by rw [k];exact ((af _ _).alloc (ah _) _).alloc (by simp) _
 have a3:f.heap.size=w.heap.size+2:=by rw [k];simp
 have B:f.cell? ⟨w.heap.size,0,aa⟩=ab (.int .u8 1):=by rw [k,ag _ _ _ (by simp),ac _ _ _ _ rfl];rfl
 have D:f.cell? ⟨w.heap.size+1,0,aa⟩=ab (.slice (ab ⟨w.heap.size,0,aa⟩) 1 1):=by rw [k,ac _ _ _ _ (by simp)];rfl
 have E:QJ f (ab ⟨w.heap.size+1,0,aa⟩) [[1]]:=by
  refine Or.inr ⟨w.heap.size+1,0,rfl,by omega,fun i G=>?_⟩
  obtain rfl:i=0:=by simp at G;exact G
  refine ⟨ab ⟨w.heap.size,0,aa⟩,1,D,⟨mL 0,Or.inr ⟨w.heap.size,0,rfl,by omega,fun j H=>?_⟩⟩,fun h=>by cases h⟩
  obtain rfl:j=0:=by simp [Qh] at H;exact H
  exact B
 have I:f.cell? ⟨2,0,aa⟩=ab (.iface 136 (.pointer (ab z))):=(r.cell (p:=⟨2,0,aa⟩) (Qf A)).trans A
 have J:=FJ (ab ⟨w.heap.size+1,0,aa⟩) [[1]] 1 z f q7 rfl mL E I
 have U:Hid (f=(w.alloc (.cells #[.int .u8 1] 5)).alloc (.cells #[.slice (ab ⟨w.heap.size,0,aa⟩) 1 1] 32)):=k
 have V:Hid (ae w.heap.size w f):=r
 clear k r B D E I A
 go_enter func9,ntmps9
 go_wp2_with fail
 rw [<- U.out]
 refine J.mono ?_
 rintro e s ⟨⟨d,K,W⟩,L⟩
 rcases W with ⟨Y,_⟩ | ⟨_,Z,x,rfl,M,N,O⟩
 ·have:=r5 K
  exact absurd Y (by rw [this];decide)
 ·have Q:=C4 N O
  obtain ⟨b,o,R,S,c,t,_,_,u,T⟩:=M.row (i:=0) (by rw [Zs];decide) (by rw [XD _ _ _ 0 (by decide),Jf];decide)
  injection t with t
  injection t with a0 a1 _
  subst a0 a1
  have y:=T 0 (by rw [XD _ _ _ 0 (by decide),Jf];decide)
  rw [XD _ _ _ 0 (by decide),Yq _ _ 0 (by decide),Q] at y
  rw [XD _ _ _ 0 (by decide),Jf] at u
  have k1:s.cell? ⟨Z,0,aa⟩=ab (.slice (ab ⟨R,S,aa⟩) 1 c):=u
  have k2:s.cell? ⟨R,S,aa⟩=ab (.int .u8 1):=y
  have a2:Hid (ae f.heap.size f s):=L
  clear u T y M O N Q L J K
  go_wp2
  go_ret
  exact ⟨rfl,V.out.trans (a2.out.mono (by omega))⟩
section
open Go.Extern.Stop Go.Stop Go.Extern
theorem p6 (ad:Nat->ao) (i:Nat) (f:i < 12) (w:World) (h:Qy w ad) :
 aj prog 13 #[.iface 136 (.pointer (ab (ad i))),.int .i64 ((i+1:Nat):Int)] w fun e w'=>e=.returned (.bool true)/\ae w.heap.size w w':=by
 go_enter func13,ntmps13
 go_wp2_with fail
 refine (r2 ad i f _ h).mono ?_
 rintro e j ⟨rfl,d⟩
 go_wp2
 go_ret
 exact ⟨rfl,d⟩
end
theorem nP (ad:Nat->ao) (w:World) (d:Qy w ad) :
 aj prog 13 #[.iface 136 (.pointer (ab (ad 1))),.int .i64 2] w fun e w'=>e=.returned (.bool true)/\ae w.heap.size w w':=p6 ad 1 (by decide) w d
def Jp (l:List Nat):ByteArray:=strOfNums (l.map Int.ofNat)
theorem WU {q:Option ao} {l:List Nat} (h:jU w q l) (c:Nat):(convert 32 9 (.slice q l.length c)).run prog w=.ok (.string (Jp l)) w:=by
 rcases h.cells with d | ⟨b,o,rfl,k,j⟩
 ·subst d
  cases q with
  | none=>exact run_convert_bytes_nil w 32 5 underlying32 underlying5 0 c 9 underlying9
  | some ad =>
   have d:(loadCells ad 0).run prog w=.ok (([]:List Int).map (Value.int .u8)).toArray w:=by simp [loadCells,loadCellsFrom]
   rw [List.length_nil,run_convert_bytes_string w 32 9 5 _ 0 c underlying32 underlying5 underlying9,run_bytesToString w ad 0 c [] d]
   rfl
 ·refine run_convert_bytes_arg w 32 5 underlying32 underlying5 b o l.length c (l.map Int.ofNat) (by simp) (fun i f=>?_) 9 underlying9
  rw [j i f,Gf.aK l i f,List.getD_eq_getElem?_getD,List.getElem?_map,List.getElem?_eq_getElem f]
  rfl
theorem pE (r s:Option ao) (M:List (List Nat)) (Q R:Nat) (w:World) (hl:M.length<=1000) (E:QJ w r M) (G:QJ w s M) :
 aj prog 14 #[.slice r M.length Q,.slice s M.length R] w fun e w'=>e=.returned (.bool true)/\∃ n,w'=w.drewN n:=by
 go_enter func14,ntmps14
 go_wp2
 go_loopw [5] (fun j wr=>(∃ n,wr=w.drewN n)/\∃ k:Nat,k<=M.length/\j=.int .i64 k) (fun j _=>M.length - (intOf j).toNat)
 case atStart=>exact ⟨⟨0,rfl⟩,0,by omega,rfl⟩
 case round =>
  obtain ⟨o,k,S,rfl⟩:=hrel
  have t:Hid (∃ n,wr=w.drewN n):=o
  have H:QJ wr r M:=by obtain ⟨n,f⟩:=o;rw [f];exact E.drewN n
  have I:QJ wr s M:=by obtain ⟨n,f⟩:=o;rw [f];exact G.drewN n
  clear o
  by_cases d:k < M.length
  ·rcases H with h | ⟨T,U,rfl,V,u⟩
   ·rw [h] at d;simp at d
   rcases I with h | ⟨W,Y,rfl,Z,y⟩
   ·rw [h] at d;simp at d
   obtain ⟨J,c1,K,z,_⟩:=u k d
   obtain ⟨N,c2,O,A,_⟩:=y k d
   have B:∀ n,(convert 32 9 (.slice J (Qh M k).length c1)).run prog (wr.drewN n)=.ok (.string (Jp (Qh M k))) (wr.drewN n):=fun n=>WU (z.drewN n) c1
   have D:∀ n,(convert 32 9 (.slice N (Qh M k).length c2)).run prog (wr.drewN n)=.ok (.string (Jp (Qh M k))) (wr.drewN n):=fun n=>WU (A.drewN n) c2
   clear u y E G z A
   generalize Jp (Qh M k)=st at B D
   generalize (Qh M k).length=L at K O B D
   go_wp2
   go_quiet (fail)
   go_wp2
   go_roundw
   case rel =>
    obtain ⟨n,f⟩:=t.out
    exact ⟨⟨n+nq,by rw [f,World.drewN_drewN]⟩,k+1,by omega,by go_num⟩
   case measure=>simp [intOf];omega
  ·go_wp2
   go_ret
   exact ⟨rfl,t.out⟩
theorem q4 (a:Nat) (w:World) :
 aj prog 16 #[.int .u8 (a:Int),.int .i64 0] w fun e w'=>e=.returned (.tuple #[.int .u8 1,.int .i64 0])/\w'=w:=by
 go_enter func16,ntmps16
 go_wp2
 go_ret2
 exact ⟨rfl,rfl⟩
theorem z6 (n:Int) (w:World) (d:0 < n) :
 aj prog 16 #[.int .u8 0,.int .i64 n] w fun e w'=>e=.returned (.tuple #[.int .u8 0,.int .i64 0])/\w'=w:=by
 go_enter func16,ntmps16
 go_wp2
 go_ret2
 exact ⟨rfl,rfl⟩
theorem o4 (a:Nat) (n:Int) (w:World) (t:a < 256) (D:a≠0) (E:n≠0) :
 aj prog 16 #[.int .u8 (a:Int),.int .i64 n] w fun e w'=>e=.returned (.tuple #[.int .u8 (Gf.fM a (Xh n):Nat),.int .i64 0])/\w'=w:=by
 have J:=UP n
 have u:Hid (((Xh n:Nat):Int)=n % 255):=M4 n
 have y:Hid (Gf.fM a (Xh n)=Gf.bZ a (Xh n)):=Gf.iG a (Xh n) t (by omega)
 have K:((a:Int)==0)=false:=by simpa using D
 have L:(n==0)=false:=by simpa using E
 have f:Hid (n.tmod 255=if 0<=n then n % 255 else -((-n) % 255)):=by
  show _=_
  by_cases h:0<=n
  ·rw [if_pos h,Int.tmod_eq_emod_of_nonneg h]
  ·rw [if_neg h,hP,Int.tmod_eq_emod_of_nonneg (by omega)]
 clear D E
 have z:-255 < n.tmod 255:=by rw [f.out];split <;> omega
 have A:n.tmod 255 < 255:=by rw [f.out];split <;> omega
 by_cases B:n.tmod 255 < 0
 ·have j : Hid (n.tmod 255 + 255 = ((Xh n : Nat) : Int)) := by
   show _=_
   have G:=u.out
   have d:=f.out
   by_cases h:0<=n
   ·rw [if_pos h] at d;omega
   ·rw [if_neg h] at d;omega
  go_enter func16,ntmps16
  go_wp2
  rw [j.out]
  clear z A B
  go_loop [7,8] (fun o i=>∃ k:Nat,k<=Xh n/\i=.int .i64 k/\o=.int .u8 (Gf.bZ a k:Nat)) (fun _ i=>255 - (intOf i).toNat)
  case atStart=>exact ⟨0,by omega,rfl,rfl⟩
  case round =>
   obtain ⟨k,H,rfl,rfl⟩:=hrel
   have r:=Gf.dV a k
   by_cases I:k < Xh n
   ·go_wp2_with (go_at_call 34;refine (Qk _ a _ r t).mono ?_;rintro e w' ⟨rfl,rfl⟩)
    go_round
    case rel=>exact ⟨k+1,by omega,by go_num,rfl⟩
    case measure=>simp [intOf];omega
   ·have s:k=Xh n:=by omega
    subst s
    go_wp2
    go_ret2
    exact ⟨by simp [y.out],rfl⟩
 ·have j : Hid (n.tmod 255 = ((Xh n : Nat) : Int)) := by
   show _=_
   have G:=u.out
   have d:=f.out
   by_cases h:0<=n
   ·rw [if_pos h] at d;omega
   ·rw [if_neg h] at d;omega
  go_enter func16,ntmps16
  go_wp2
  rw [j.out]
  clear z A B
  go_loop [7,8] (fun o i=>∃ k:Nat,k<=Xh n/\i=.int .i64 k/\o=.int .u8 (Gf.bZ a k:Nat)) (fun _ i=>255 - (intOf i).toNat)
  case atStart=>exact ⟨0,by omega,rfl,rfl⟩
  case round =>
   obtain ⟨k,H,rfl,rfl⟩:=hrel
   have r:=Gf.dV a k
   by_cases I:k < Xh n
   ·go_wp2_with (go_at_call 34;refine (Qk _ a _ r t).mono ?_;rintro e w' ⟨rfl,rfl⟩)
    go_round
    case rel=>exact ⟨k+1,by omega,by go_num,rfl⟩
    case measure=>simp [intOf];omega
   ·have s:k=Xh n:=by omega
    subst s
    go_wp2
    go_ret2
    exact ⟨by simp [y.out],rfl⟩
theorem u4 (n k:Int) (w:World) (d:1<=k) (f:k<=n) (h:n<=12):aj prog 12 #[.int .i64 n,.int .i64 k] w fun e w'=>e=.returned (.bool true)/\w'=w:=by
 go_enter func12,ntmps12
 go_wp2
 go_ret
 exact ⟨sB (by simp),rfl⟩
theorem x5 (n k:Int) (w:World) (h:¬ (1<=k/\k<=n/\n<=12)):aj prog 12 #[.int .i64 n,.int .i64 k] w fun e w'=>e=.returned (.bool false)/\w'=w:=by
 by_cases f:1<=k
 ·by_cases j:k<=n
  ·have d:¬ n<=12:=fun d=>h ⟨f,j,d⟩
   clear h
   go_enter func12,ntmps12
   go_wp2
   go_ret
   exact ⟨sB (by simp),rfl⟩
  ·clear h
   go_enter func12,ntmps12
   go_wp2
   go_ret
   exact ⟨rfl,rfl⟩
 ·clear h
  go_enter func12,ntmps12
  go_wp2
  go_ret
  exact ⟨rfl,rfl⟩
structure Ja (w0 w:World) (ad:Nat->ao):Prop where
 b8:Qy w ad
 below:ae w0.heap.size w0 w
theorem Ja.next {d:World} {ad:Nat->ao} (h:Ja d w ad) (f:ae w.heap.size w w'):Ja d w' ad:=⟨h.b8.below f,h.below.trans (f.mono h.below.size)⟩
theorem u0 (i j:Nat) (w:World) (f:i < 256) (k:j < 255) :
 aj prog 16 #[.int .u8 (i:Int),.int .i64 (j:Int)] w fun e w'=>e=.returned (.tuple #[.int .u8 ((Gf.bZ i j:Nat):Int),.int .i64 0])/\w'=w:=by
 by_cases h:j=0
 ·subst h
  exact q4 i w
 ·by_cases d:i=0
  ·subst d
   rw [ND j (by omega)]
   exact z6 (j:Int) w (by omega)
  ·have:=o4 i (j:Int) w f d (by omega)
   rw [WV j k,Gf.iG i j f (by omega)] at this
   exact this
theorem x0 (n k:Int) (ad:Nat->ao) (w:World) (h:¬ (1<=k/\k<=n/\n<=12)) (s:Qy w ad) :
 aj prog 3 #[.int .i64 n,.int .i64 k] w fun e w'=>e=.returned (.bool true)/\ae w.heap.size w w':=by
 have t:=k7 (ad 11) w s.e8
 have E:Hid (Ja w w ad):=⟨s,af _ _⟩
 have d:Hid (¬ (1<=k/\k<=n/\n<=12)):=h
 clear h s
 go_enter func3,ntmps3
 go_wp2_with fail
 refine t.mono ?_
 rintro e G ⟨rfl,u⟩
 have f:Hid (Ja w G ad):=E.out.next u
 clear u t
 go_wp2_with fail
 refine (j1 n k (ad 1) _ d.out f.out.b8.c1).mono ?_
 rintro e H ⟨rfl,y⟩
 have j:Hid (Ja w H ad):=f.out.next y
 clear y f
 go_wp2_with fail
 refine (C2 n k (ad 1) _ d.out j.out.b8.c1).mono ?_
 rintro e I ⟨rfl,z⟩
 have o:Hid (Ja w I ad):=j.out.next z
 clear z j
 go_wp2_with fail
 refine (x5 n k _ d.out).mono ?_
 rintro e w' ⟨rfl,A⟩
 rw [A]
 clear A w'
 go_wp2_with fail
 refine (nP ad _ o.out.b8).mono ?_
 rintro e J ⟨rfl,B⟩
 have r:Hid (Ja w J ad):=o.out.next B
 clear B o
 go_wp2_with fail
 refine (nP ad _ r.out.b8).mono ?_
 rintro e K ⟨rfl,D⟩
 have L:Hid (Ja w K ad):=r.out.next D
 clear D r
 go_wp2
 go_ret
 exact ⟨rfl,L.out.below⟩
theorem n3 (n k:Nat) (ad:Nat->ao) (w:World) (D:1<=k) (a2:k<=n) (hn:n<=12) (E:Qy w ad) :
 aj prog 3 #[.int .i64 (n:Int),.int .i64 (k:Int)] w fun e w'=>e=.returned (.bool true)/\ae w.heap.size w w':=by
 have G:=k7 (ad 11) w E.e8
 have H0:Hid (Ja w w ad):=⟨E,af _ _⟩
 clear E
 go_enter func3,ntmps3
 go_wp2_with fail
 refine G.mono ?_
 rintro e h ⟨rfl,H⟩
 have I:Hid (Ja w h ad):=H0.out.next H
 clear H G
 go_wp2_with fail
 refine (K0 n k _ D a2 hn).mono ?_
 rintro e J ⟨⟨o,d,rfl,K⟩,L⟩
 have t:Hid (Ja w J ad):=I.out.next L
 have M:Hid (Zv J h.heap.size o d n k Gf.bZ):=K
 clear L I K
 go_wp2_with fail
 refine (xL n k (ad 11) _ D a2 hn t.out.b8.e8).mono ?_
 rintro e y ⟨⟨N,rfl,O⟩,z⟩
 have Q:Hid (Ja w y ad):=t.out.next z
 have R:Hid (Zv y h.heap.size o d n k Gf.bZ):=M.out.below z
 have S:Hid (QJ y (ab ⟨N,0,aa⟩) (kK k n)):=O
 clear z t M O
 go_wp2_with fail
 refine (u4 n k _ (by omega) (by omega) (by omega)).mono ?_
 rintro e w' ⟨rfl,T⟩
 rw [T]
 clear T w'
 go_wp2_with fail
 refine (x2 n k _ (by omega) D (by omega)).mono ?_
 rintro e r ⟨⟨p4,c4,rfl,U⟩,s⟩
 have V:Hid (Ja w r ad):=Q.out.next s
 have W:Hid (Zv r h.heap.size o d n k Gf.bZ):=R.out.below s
 have A:=pE (ab ⟨N,0,aa⟩) p4 (kK k n) n c4 r (by rw [Xi];omega) (S.out.below s) U
 rw [Xi] at A
 clear s Q R S U
 go_wp2_with fail
 refine A.mono ?_
 rintro e f ⟨rfl,n5,Y⟩
 have B:ae r.heap.size r f:=by rw [Y];exact al (af _ _) n5
 have H5:Hid (Ja w f ad):=V.out.next B
 have Z:Hid (Zv f h.heap.size o d n k Gf.bZ):=W.out.below B
 clear B Y A V W
 go_wp2
 go_loop [10] (fun u=>∃ i:Nat,i<=n/\u=.int .i64 i) (fun u=>n - (intOf u).toNat)
 case atStart=>exact ⟨0,by omega,rfl⟩
 case round =>
  obtain ⟨i,hi,rfl⟩:=hrel
  by_cases a0:i < n
  ·have c1:f.cell? ⟨o,i,aa⟩=ab (.slice (ab ⟨d i,0,aa⟩) k k):=Z.out.rows.cell i a0
   go_wp2
   go_loop [11] (fun u=>∃ j:Nat,j<=k/\u=.int .i64 j) (fun u=>k - (intOf u).toNat)
   case atStart=>exact ⟨0,by omega,rfl⟩
   case round =>
    obtain ⟨j,hj,rfl⟩:=hrel
    by_cases a1:j < k
    ·have c2:f.cell? ⟨d i,j,aa⟩=ab (.int .u8 ((Gf.bZ i j:Nat):Int)):=by rw [(Z.out.all.row i a0).cell j a1 (Jf _ _),Yq _ _ j a1]
     have lr:=Gf.dV i j
     have HP:=u0 i j f (by omega) (by omega)
     go_wp2_with (go_at_call 16;refine HP.mono ?_;rintro e w' ⟨rfl,rfl⟩)
     go_round
     case rel=>exact ⟨j+1,by omega,by go_num⟩
     case measure=>simp [intOf];omega
    ·go_wp2
     go_round
     case rel=>exact ⟨i+1,by omega,by go_num⟩
     case measure=>simp [intOf];omega
  ·go_wp2
   go_ret
   exact ⟨rfl,H5.out.below⟩
end Go.Proofs.YtaaahibncffcmaaDoor

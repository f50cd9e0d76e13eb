/- Texts laid together. -/
import Derived.Test.YtaaahibncffcmaaDoorCc1
import Derived.RegionTactic
import Derived.BigRegion
import Derived.Shelf.Abstract
set_option maxRecDepth 10000
set_option maxHeartbeats 4000000
open Option renaming none->aa,some->ab
open Option.some renaming inj->ac
open Go.RowKit renaming Below->za
open Go.RowKit.Below renaming refl->ae
open Go renaming Calls->af,madeCells->ag,toList_madeCells_one->aj,callFunc->an,Value->aq,FuncId->aI
open Go.World.ownsRow renaming kept->ah,frozenAt->ax,stored->aA,cellAt->aB,lt->zd
namespace Go.Proofs.YtaaahibncffcmaaDoor
open Go.Proofs.Tryd
open Go.RowKit
variable {row:Option Nat}{w w':World}{B g n d r k:Nat}{E:TypeId}{l:List Nat}{f:Nat->aq}{j:Nat->Nat}
theorem QL {a b c:World} (h:a.grownBy b row) (k:b.grownBy c row):a.grownBy c row :=
 ⟨k.os.trans h.os,k.tape.trans h.tape,k.output.trans h.output,Nat.le_trans h.size k.size,fun i d f=>(k.block i (Nat.lt_of_lt_of_le d h.size) f).trans (h.block i d f)⟩
theorem QD (h:za w.heap.size w w') (row:Option Nat):w.grownBy w' row:=⟨h.os,h.tape,h.output,h.size,fun i d _=>h.block i d⟩
theorem Z8 (w:World) (g j:Nat) (v:aq):w.grownBy (w.setCell ⟨g,j,aa⟩ v) (ab g) :=
 ⟨rfl,rfl,rfl,by simp [World.setCell],fun i _ d=>Below.heap_setCell w _ v i (fun e=>d (by rw [e]))⟩
theorem Zo.below   (h:Zo w B E g n l) (d:za w.heap.size w w'):Zo w' B E g n l:=ah h (QD d aa) (Or.inr (by simp [Value.ownBlock]))
theorem zL (g n B:Nat) (f d:Nat->Nat) (u:aI) (H:Array aq) (w:World) (U:n<=1000) (Q:∀ args W,Sem.run prog (an u args) W=.ok (.enter u args) W) (I:Zo w B 5 g n (Qi n f))
 (J:∀ j,j < n->∀ h,w.grownBy h (ab g)->Zo h B 5 g n (Qi n (fun i=>if i < j then d i else f i)) ->
  af prog u (#[.int .i64 (j:Int)] ++ H) h fun e o=>e=.returned (.int .u8 ((d j:Nat):Int))/\za h.heap.size h o) :
 af prog 54 #[.slice (ab ⟨g,0,aa⟩) n n,.func (.func u) #[] H] w fun e w'=>e=.returned (.tuple #[])/\Zo w' B 5 g n (Qi n d)/\w.grownBy w' (ab g):=by
 go_enter func54,ntmps54
 go_wp2
 go_loopw [7] (fun x wr=>∃ k:Nat,k<=n/\x=.int .i64 k/\Zo wr B 5 g n (Qi n (fun i=>if i < k then d i else f i))/\w.grownBy wr (ab g)) (fun x _=>n - (intOf x).toNat)
 case atStart=>exact ⟨0,by omega,rfl,by simpa using I,QD (ae _ _) _⟩
 case round =>
  obtain ⟨k,R,rfl,r,s⟩:=hrel
  by_cases A:k < n
  ·have D:=J k A wr s r
   have E:Hid (Zo wr B 5 g n (Qi n (fun i=>if i < k then d i else f i))):=r
   have G:Hid (w.grownBy wr (ab g)):=s
   clear r s J I
   go_wp2_with fail
   refine D.mono ?_
   rintro e o ⟨rfl,y⟩
   have t:=E.out.below y
   have S:o.frozen? ⟨g,k,aa⟩=false:=t.free k
   have T:=t.cell k A (Jf _ _)
   have z:=t.set k (d k)
   rw [YL n _ (fun i=>if i < k+1 then d i else f i) (fun i _=>by by_cases e:i=k <;> by_cases K:i < k <;> simp [e,K] <;> omega)] at z
   have L:Hid (Zo (o.setCell ⟨g,k,aa⟩ (.int .u8 ((d k:Nat):Int))) B 5 g n (Qi n (fun i=>if i < k+1 then d i else f i))):=z
   have M:Hid (w.grownBy (o.setCell ⟨g,k,aa⟩ (.int .u8 ((d k:Nat):Int))) (ab g)):=QL (QL G.out (QD y _)) (Z8 _ _ _ _)
   clear t z y D E G Q
   go_wp2
   go_roundw
   case rel=>exact ⟨k+1,by omega,by go_num,L.out,M.out⟩
   case measure=>simp [intOf];omega
  ·have N:k=n:=by omega
   subst N
   go_wp2
   go_end0
   refine ⟨rfl,?_,s⟩
   rw [YL k d (fun i=>if i < k then d i else f i) (fun i O=>by simp [O])]
   exact r
theorem D2 (n:Nat) (f:Nat->Nat) (o:aI) (G:Array aq) (w:World) (T:n<=1000) (H:∀ l,f l < 256) (R:∀ args W,Sem.run prog (an o args) W=.ok (.enter o args) W)
 (d:Nat->Nat) (I:d 0=0) (J:∀ l,d (l+1)=d l ^^^ f l) (K:∀ l,d l < 256)
 (L:∀ l,l < n->∀ j,za w.heap.size w j->af prog o (#[.int .i64 (l:Int)] ++ G) j fun e r=>e=.returned (.int .u8 ((f l:Nat):Int))/\za j.heap.size j r) :
 af prog 59 #[.int .i64 (n:Int),.func (.func o) #[] G] w fun e w'=>e=.returned (.int .u8 ((d n:Nat):Int))/\za w.heap.size w w':=by
 have z:Hid (d 0=0):=I
 have A:Hid (∀ l,d (l+1)=d l ^^^ f l):=J
 clear I J
 go_enter func59,ntmps59
 go_wp2
 go_loopw [5,8] (fun s x wr=>∃ k:Nat,k<=n/\x=.int .i64 k/\s=.int .u8 ((d k:Nat):Int)/\za w.heap.size w wr) (fun _ x _=>n - (intOf x).toNat)
 case atStart=>exact ⟨0,by omega,rfl,by rw [z.out];rfl,ae _ _⟩
 case round =>
  obtain ⟨k,S,rfl,rfl,h⟩:=hrel
  by_cases M:k < n
  ·have u:=L k M wr h
   have B:Hid (za w.heap.size w wr):=h
   have N:w.heap.size<=wr.heap.size:=h.size
   have lt:=K k
   have D:=H k
   have y:Hid (d (k+1)=d k ^^^ f k):=A.out k
   clear h L A z H K
   generalize d k=t at y lt ⊢
   generalize f k=v at y D u
   go_wp2_with fail
   refine u.mono ?_
   rintro e r ⟨rfl,E⟩
   have O:Hid (za w.heap.size w r):=B.out.trans (E.mono N)
   clear E u B R
   go_wp2_with (go_at_call 69;refine (oC t v _ lt D).mono ?_;rintro e w' ⟨rfl,rfl⟩)
   go_roundw
   case rel=>exact ⟨k+1,by omega,by go_num,by rw [y.out],O.out⟩
   case measure=>simp [intOf];omega
  ·have Q:k=n:=by omega
   subst Q
   go_wp2
   go_ret
   exact ⟨rfl,h⟩
theorem Y4   {row:Nat} (h:Zo w B E g n l) (d:w.grownBy w' (ab row)) (f:g≠row):Zo w' B E g n l :=
 ah h d (Or.inr (fun e=>f (ac e)))
def Zy (w:World) (B d r:Nat) (f:Nat->aq):Prop:=w.ownsRow B 32 1 (.slice (ab ⟨d,0,aa⟩) r r) r ((List.range r).map f)
theorem Zy.made (w:World) (B r:Nat) (d:B<=w.heap.size) (f:r<=1000000):Zy (w.alloc (.cells (ag #[.slice aa 0 0] r) 32)) B w.heap.size r (fun _=>.slice aa 0 0):=by
 have h:=World.ownsRow_lit (base:=B) (e:=32) (size:=1) w (ag #[.slice aa 0 0] r) r d (by unfold maxLen;omega) (by have:=congrArg List.length (aj (.slice aa 0 0) r);simpa using this)
 rw [aj] at h
 unfold Zy
 rw [List.map_const',List.length_range]
 exact h
theorem Zy.cell  (h:Zy w B d r f) (j:Nat) (k:j < r):w.cell? ⟨d,j,aa⟩=ab (f j):=by
 rw [aB (w:=w) h j (by omega),List.getElem?_map,List.getElem?_range k]
 rfl
theorem Zy.free  (h:Zy w B d r f) (j:Nat):w.frozen? ⟨d,j,aa⟩=false:=ax (w:=w) h j
theorem Zy.set  (h:Zy w B d r f) (j:Nat) (v:aq):Zy (w.setCell ⟨d,j,aa⟩ v) B d r (fun i=>if i=j then v else f i):=by
 have:=(aA (w:=w) h j v).1
 rw [W9] at this
 exact this
theorem Zy.kept   (h:Zy w B d r f) (j:w.grownBy w' row) (k:row≠ab d):Zy w' B d r f :=
 ah h j (Or.inr (fun e=>k e.symm))
theorem Zy.below  (h:Zy w B d r f) (j:za w.heap.size w w'):Zy w' B d r f:=h.kept (QD j aa) (by simp)
theorem Zy.congr {f:Nat} {d j:Nat->aq} (h:Zy w B f r d) (o:∀ i,i < r->d i=j i):Zy w B f r j:=by
 unfold Zy
 rw [List.map_congr_left (g:=d) (fun i k=>(o i (List.mem_range.1 k)).symm)]
 exact h
theorem Zy.lt  (h:Zy w B d r f):B<=d/\d < w.heap.size:=zd h d rfl
def gG (n g:Nat):Value:=.slice (ab ⟨g,0,aa⟩) n n
structure iT (w:World) (B gm:Nat) (gs:Nat->Nat) (k n:Nat) (f:Nat->Nat->Nat):Prop where
 row:∀ i,i < k->Zo w B 5 (gs i) n (Qi n (f i))
 ne:∀ i,i < k->gs i≠gm
 inj:∀ i j,i < k->j < k->gs i=gs j->i=j
structure Zv (w:World) (B gm:Nat) (gs:Nat->Nat) (r n:Nat) (f:Nat->Nat->Nat):Prop where
 rows:Zy w B gm r (fun i=>gG n (gs i))
 all:iT w B gm gs r n f
theorem iT.below   {f:Nat->Nat->Nat} (h:iT w B d j k n f) (r:za w.heap.size w w'):iT w' B d j k n f:=⟨fun i o=>(h.row i o).below r,h.ne,h.inj⟩
theorem Zv.below   {f:Nat->Nat->Nat} (h:Zv w B d j r n f) (k:za w.heap.size w w'):Zv w' B d j r n f:=⟨h.rows.below k,h.all.below k⟩
def XB (r n:Nat) (f:Nat->Nat->Nat):List (List Nat):=(List.range r).map fun i=>Qi n (f i)
theorem Zs (r n:Nat) (f:Nat->Nat->Nat):(XB r n f).length=r:=by simp [XB]
theorem XD (r n:Nat) (f:Nat->Nat->Nat) (i:Nat) (d:i < r):Qh (XB r n f) i=Qi n (f i):=by
 unfold Qh XB
 rw [List.getD_eq_getElem?_getD,List.getElem?_map,List.getElem?_range d]
 rfl
theorem Zv.tU  {u:Nat->Nat} {f:Nat->Nat->Nat} (h:Zv w B d u r n f) (z:∀ i j,f i j < 256) (k:Nat) (A:k<=r):QJ w (ab ⟨d,0,aa⟩) (XB k n f):=by
 refine Or.inr ⟨d,0,rfl,h.rows.lt.2,fun i o=>?_⟩
 rw [Zs] at o
 have y:=h.rows.cell i (by omega)
 have s:=h.all.row i (by omega)
 rw [XD _ _ _ i o,Jf,Nat.zero_add]
 refine ⟨_,_,y,⟨XL _ _ (z i),?_⟩,fun e=>by cases e⟩
 refine Or.inr ⟨u i,0,rfl,s.lt.2,fun j t=>?_⟩
 rw [Jf] at t
 rw [Nat.zero_add]
 exact s.cell j t (Jf _ _)
theorem iT.snoc  {d:Nat->Nat} {f:Nat->Nat->Nat} (h:iT w B r d k n f) (t:∀ i,i < k->d i≠g) (y:g≠r) (z:∀ i,i < k->Zo w' B 5 (d i) n (Qi n (f i))) (A:Zo w' B 5 g n (Qi n (f k))):iT w' B r (fun i=>if i=k then g else d i) (k+1) n f where
 row:=fun i s=>by
  by_cases e:i=k
  ·simp only [e,if_true];exact A
  ·simp only [e,if_false];exact z i (by omega)
 ne:=fun i s=>by
  by_cases e:i=k
  ·simp only [e,if_true];exact y
  ·simp only [e,if_false];exact h.ne i (by omega)
 inj:=fun i j s D=>by
  by_cases e:i=k <;> by_cases u:j=k <;> simp only [e,u,if_true,if_false]
  ·intro _;trivial
  ·intro o;exact absurd o.symm (t j (by omega))
  ·intro o;exact absurd o (t i (by omega))
  ·exact h.inj i j (by omega) (by omega)
theorem OY (h o k j v:Nat) (f:aI) (r:Array aq) (w:World) (u:∀ args W,Sem.run prog (an f args) W=.ok (.enter f args) W)
 (y:w.cell? ⟨h,0,aa⟩=ab (.func (.func f) #[] r)) (z:w.cell? ⟨o,0,aa⟩=ab (.int .i64 (k:Int)))
 (s:af prog f (#[.int .i64 (k:Int),.int .i64 (j:Int)] ++ r) w fun e d=>e=.returned (.int .u8 (v:Int))/\za w.heap.size w d) :
 af prog 55 #[.int .i64 (j:Int),.pointer (ab ⟨h,0,aa⟩),.pointer (ab ⟨o,0,aa⟩)] w fun e d=>e=.returned (.int .u8 (v:Int))/\za w.heap.size w d:=by
 go_enter func55,ntmps55
 go_wp2_with fail
 refine s.mono ?_
 rintro e d ⟨rfl,t⟩
 clear u s y z
 go_wp2
 go_ret
 exact ⟨rfl,t⟩
theorem tP (r n:Nat) (y:Nat->Nat->Nat) (u:aI) (z:Array aq) (w:World) (hr:r<=1000) (hn:n<=1000) (d7:∀ args W,Sem.run prog (an u args) W=.ok (.enter u args) W)
 (hc:∀ i j,i < r->j < n->∀ o,za w.heap.size w o->af prog u (#[.int .i64 (i:Int),.int .i64 (j:Int)] ++ z) o fun e A=>e=.returned (.int .u8 ((y i j:Nat):Int))/\za o.heap.size o A) :
 af prog 27 #[.int .i64 (r:Int),.int .i64 (n:Int),.func (.func u) #[] z] w fun e w'=>(∃ V f,e=.returned (.slice (ab ⟨V,0,aa⟩) r r)/\Zv w' w.heap.size V f r n y)/\za w.heap.size w w':=by
 obtain ⟨i1,Y,Z,a0,a1⟩:=info_parts k0
 obtain ⟨i0,a2,a3,a4,a5⟩:=info_parts KF
 have HC:Hid (∀ i j,i < r->j < n->∀ o,za w.heap.size w o->af prog u (#[.int .i64 (i:Int),.int .i64 (j:Int)] ++ z) o fun e A=>e=.returned (.int .u8 ((y i j:Nat):Int))/\za o.heap.size o A):=hc
 have d8:Hid (∀ args W,Sem.run prog (an u args) W=.ok (.enter u args) W):=d7
 clear hc d7
 go_enter func27,ntmps27
 go_wp2_with (first | (at_make;refine wpList_make_row _ rfl (.tmp 9) (.tmp 9) 23 rfl 32 i1 (.slice aa 0 0) underlying23 Y Z a0 rfl .i64 .i64 r rfl rfl (by rw [a1];omega) (by omega) ?_))
 obtain ⟨A,D⟩:∃ A,A=(w.alloc (.cells #[.func (.func u) #[] z] 61)).alloc (.cells (ag #[.slice aa 0 0] r) 32):=⟨_,rfl⟩
 rw [<- D]
 have a6:Hid (Zy A w.heap.size (w.heap.size+1) r (fun _=>.slice aa 0 0)):=by
  show Zy _ _ _ _ _
  have:=Zy.made (w.alloc (.cells #[.func (.func u) #[] z] 61)) w.heap.size r (by simp) (by omega)
  rw [D]
  simpa using this
 have a7:Hid (za w.heap.size w A):=by
  show za _ _ _
  rw [D]
  exact ((ae _ _).alloc (Nat.le_refl _) _).alloc (by simp) _
 have a8:Hid (A.cell? ⟨w.heap.size,0,aa⟩=ab (.func (.func u) #[] z)):=by
  show _=_
  rw [D,World.cell?_alloc_past _ _ _ (by simp),World.cell?_alloc_at _ _ _ _ rfl]
  rfl
 clear D
 have d9:∀ W:World,Sem.run prog (Instr.makeSlice 32 (.int .i64 (n:Int)) (.int .i64 (n:Int))) W=.ok (.slice (ab ⟨W.heap.size,0,aa⟩) n n) (W.alloc (.cells (ag #[ZM 0] n) 5)):=fun W=>run_make_row (P:=prog) 32 5 i0 (ZM 0) underlying32 a2 a3 a4 rfl .i64 .i64 n (by rw [a5];omega) (by omega) W
 clear Y Z a0 a1 a2 a3 a4 a5
 go_loopw [13] (fun x wr=>∃ (k:Nat) (f:Nat->Nat),k<=r/\x=.int .i64 k/\Zy wr w.heap.size (w.heap.size+1) r (fun i=>if i < k then gG n (f i) else .slice aa 0 0)/\iT wr w.heap.size (w.heap.size+1) f k n y/\za w.heap.size w wr/\wr.cell? ⟨w.heap.size,0,aa⟩=ab (.func (.func u) #[] z)) (fun x _=>r - (intOf x).toNat)
 case atStart=>exact ⟨0,fun _=>0,by omega,rfl,by simpa using a6.out,⟨fun i s=>absurd s (Nat.not_lt_zero _),fun i s=>absurd s (Nat.not_lt_zero _),fun i j s=>absurd s (Nat.not_lt_zero _)⟩,a7.out,a8.out⟩
 case round =>
  obtain ⟨k,f,hk,rfl,N,hK,hB,hA⟩:=hrel
  obtain ⟨d,rfl⟩:∃ d,d=wr:=⟨_,rfl⟩
  have O:Hid (Zy d w.heap.size (w.heap.size+1) r (fun i=>if i < k then gG n (f i) else .slice aa 0 0)):=N
  have Q:Hid (iT d w.heap.size (w.heap.size+1) f k n y):=hK
  have R:Hid (za w.heap.size w d):=hB
  have HA:Hid (d.cell? ⟨w.heap.size,0,aa⟩=ab (.func (.func u) #[] z)):=hA
  have f8:w.heap.size+1 < d.heap.size:=N.lt.2
  clear a6 a7 a8 N hK hB hA
  by_cases S:k < r
  ·go_wp2
   obtain ⟨h,E⟩:∃ h,h=d.alloc (.cells #[.int .i64 (k:Int)] 3):=⟨_,rfl⟩
   rw [<- E]
   have G:za d.heap.size d h:=by rw [E];exact (ae _ _).alloc (Nat.le_refl _) _
   have e1:h.heap.size=d.heap.size+1:=by rw [E];simp
   have a9:h.cell? ⟨d.heap.size,0,aa⟩=ab (.int .i64 (k:Int)):=by rw [E,World.cell?_alloc_at _ _ _ _ rfl];rfl
   have b1:=O.out.below G
   have b2:=Q.out.below G
   have b3:Hid (za w.heap.size w h):=R.out.trans (G.mono (by omega))
   have b4:Hid (h.cell? ⟨w.heap.size,0,aa⟩=ab (.func (.func u) #[] z)):=(G.cell (p:=⟨w.heap.size,0,aa⟩) (by show w.heap.size < _;omega)).trans HA.out
   have b5:Hid (Zy h w.heap.size (w.heap.size+1) r (fun i=>if i < k then gG n (f i) else .slice aa 0 0)):=b1
   have J:Hid (iT h w.heap.size (w.heap.size+1) f k n y):=b2
   clear E G b1 b2 O Q R HA
   have K:=b5.out.below ((ae _ h).alloc (Nat.le_refl _) (.cells (ag #[ZM 0] n) 5))
   have hf:(h.alloc (.cells (ag #[ZM 0] n) 5)).frozen? ⟨w.heap.size+1,k,aa⟩=false:=K.free k
   have e2:(h.alloc (.cells (ag #[ZM 0] n) 5)).cell? ⟨w.heap.size+1,k,aa⟩=ab (.slice aa 0 0):=by rw [K.cell k S,if_neg (Nat.lt_irrefl _)]
   have b6:Hid (Zy (h.alloc (.cells (ag #[ZM 0] n) 5)) w.heap.size (w.heap.size+1) r (fun i=>if i < k then gG n (f i) else .slice aa 0 0)):=K
   clear K
   go_region
   obtain ⟨t,H⟩:∃ t,t=((h.alloc (.cells (ag #[ZM 0] n) 5)).setCell ⟨w.heap.size+1,k,aa⟩ (.slice (ab ⟨d.heap.size+1,0,aa⟩) n n)).drew:=⟨_,rfl⟩
   rw [<- H]
   have B:h.grownBy t (ab (w.heap.size+1)):=by
    rw [H]
    exact QL (World.grownBy_alloc h _ _) (QL (Z8 _ _ _ _) (JO _ 1 _))
   have T:Zy t w.heap.size (w.heap.size+1) r (fun i=>if i < k+1 then gG n (if i=k then d.heap.size+1 else f i) else .slice aa 0 0):=by
    have L:=b6.out.set k (.slice (ab ⟨d.heap.size+1,0,aa⟩) n n)
    rw [H]
    refine Zy.congr (Zy.kept L (JO _ 1 aa) (by simp)) (fun i _=>?_)
    by_cases e:i=k
    ·simp [e,gG]
    ·by_cases e':i < k
     ·simp [e,e',show i < k+1 by omega]
     ·simp [e,e',show ¬ i < k+1 by omega]
   have b7:Zo t w.heap.size 5 (d.heap.size+1) n (Qi n fun _=>0):=by
    have L:=Zo.made h w.heap.size 5 n (by omega) (by omega)
    rw [e1] at L
    rw [H]
    exact Y4 (row:=w.heap.size+1) L (QL (Z8 _ _ _ _) (JO _ 1 _)) (by omega)
   have d0:t.cell? ⟨w.heap.size,0,aa⟩=ab (.func (.func u) #[] z):=B.cell b4.out (by show ab w.heap.size≠_;intro e;have:=ac e;omega)
   have e3:t.cell? ⟨d.heap.size,0,aa⟩=ab (.int .i64 (k:Int)):=B.cell a9 (by show ab d.heap.size≠_;intro e;have:=ac e;omega)
   have d1:Hid (za w.heap.size w t):=b3.out.grown B (by omega) (fun k' I=>by have:=ac I;omega)
   have d2:∀ i,i < k->Zo t w.heap.size 5 (f i) n (Qi n (y i)):=fun i s=>Y4 (J.out.row i s) B (J.out.ne i s)
   have f9:t.cell? ⟨w.heap.size+1,k,aa⟩=ab (.slice (ab ⟨d.heap.size+1,0,aa⟩) n n):=by rw [T.cell k S];simp [gG]
   have d3:∀ i,i < k->f i < h.heap.size:=fun i s=>(J.out.row i s).lt.2
   have d4:∀ i,i < k->f i≠d.heap.size+1:=fun i s e=>by have:=d3 i s;omega
   have g0:h.heap.size<=t.heap.size:=B.size
   have e4:Hid (Zy t w.heap.size (w.heap.size+1) r (fun i=>if i < k+1 then gG n (if i=k then d.heap.size+1 else f i) else .slice aa 0 0)):=T
   have e5:Hid (Zo t w.heap.size 5 (d.heap.size+1) n (Qi n fun _=>0)):=b7
   have f0:Hid (∀ i,i < k->Zo t w.heap.size 5 (f i) n (Qi n (y i))):=d2
   have d5:Hid (∀ i,i < k->f i≠d.heap.size+1):=d4
   have d6:Hid (t.cell? ⟨w.heap.size,0,aa⟩=ab (.func (.func u) #[] z)):=d0
   clear H B T b7 d2 d3 d4 b6 b5 b3 b4 hf e2 a9 d9 d0
   have f1:Hid (∀ j,j < n->∀ o,t.grownBy o (ab (d.heap.size+1))->Zo o w.heap.size 5 (d.heap.size+1) n (Qi n (fun i=>if i < j then y k i else 0)) ->
    af prog 55 (#[.int .i64 (j:Int)] ++ #[.pointer (ab ⟨w.heap.size,0,aa⟩),.pointer (ab ⟨d.heap.size,0,aa⟩)]) o fun e A=>e=.returned (.int .u8 ((y k j:Nat):Int))/\za o.heap.size o A):=by
    intro j hj o U _
    exact OY w.heap.size d.heap.size k j (y k j) u z o d8.out (U.cell d6.out (by show ab w.heap.size≠_;intro e;have:=ac e;omega)) (U.cell e3 (by show ab d.heap.size≠_;intro e;have:=ac e;omega)) (HC.out k j S hj o (d1.out.grown U (by omega) (fun k' I=>by have:=ac I;omega)))
   go_wp2_with (go_at_call 54;refine (zL (d.heap.size+1) n w.heap.size (fun _=>0) (y k) 55 #[.pointer (ab ⟨w.heap.size,0,aa⟩),.pointer (ab ⟨d.heap.size,0,aa⟩)] t hn (enters_of func55 (by kernel_rfl) rfl) e5.out f1.out).mono ?_;rintro e w6 ⟨rfl,f2,M⟩)
   have f3:=e4.out.kept M (by intro e;have:=ac e;omega)
   have f4:=J.out.snoc (w':=w6) d5.out (by omega) (fun i s=>Y4 (f0.out i s) M (d5.out i s)) f2
   have f5:za w.heap.size w w6:=d1.out.grown M (by omega) (fun k' I=>by have:=ac I;omega)
   have f6:=M.cell d6.out (by show ab w.heap.size≠_;intro e;have:=ac e;omega)
   go_roundw
   case rel=>exact ⟨k+1,fun i=>if i=k then d.heap.size+1 else f i,by omega,by go_num,f3,f4,f5,f6⟩
   case measure=>simp [intOf];omega
  ·have f7:k=r:=by omega
   subst f7
   go_wp2
   go_ret
   exact ⟨⟨_,f,rfl,⟨O.out.congr (fun i s=>by simp [s]),Q.out⟩⟩,R.out⟩
theorem ND:∀ j,0 < j->Gf.bZ 0 j=0
 | 0,h=>absurd h (Nat.lt_irrefl _)
 | j+1,_=>by
  show Gf.mul _ _=0
  first | exact Gf.mul_zero _ | exact Gf.zero_mul _
theorem WV (j:Nat) (h:j < 255):Xh (j:Int)=j:=by unfold Xh;omega
theorem TB (i j:Nat) (w:World) (d:i < 256) (r:j < 255) :
 af prog 29 #[.int .u8 (i:Int),.int .i64 (j:Int)] w fun e w'=>e=.returned (.tuple #[.int .u8 ((Gf.bZ i j:Nat):Int),.nilIface])/\w'=w:=by
 by_cases h:i=0/\0 < j
 ·obtain ⟨rfl,f⟩:=h
  rw [ND j f]
  exact LQ (j:Int) w (by omega)
 ·have := o5 i (j : Int) w d (fun k => by
   by_cases o:0 < j
   ·exact absurd ⟨k,o⟩ h
   ·omega)
  rw [WV j r,Gf.iG i j d (by omega)] at this
  exact this
theorem n4 (i j:Nat) (w:World) (f:i < 256) (h:j < 255) :
 af prog 28 #[.int .i64 (i:Int),.int .i64 (j:Int)] w fun e w'=>e=.returned (.int .u8 ((Gf.bZ i j:Nat):Int))/\za w.heap.size w w':=by
 have d:=TB i j w f h
 go_enter func28,ntmps28
 go_wp2_with (go_at_call 29;refine d.mono ?_;rintro e w' ⟨rfl,rfl⟩)
 go_ret
 exact ⟨rfl,ae _ _⟩
theorem K0 (n k:Nat) (w:World) (D:1<=k) (E:k<=n) (G:n<=12) :
 af prog 10 #[.int .i64 (n:Int),.int .i64 (k:Int)] w fun e w'=>(∃ d f,e=.returned (.tuple #[.slice (ab ⟨d,0,aa⟩) n n,.nilIface])/\Zv w' w.heap.size d f n k Gf.bZ)/\za w.heap.size w w':=by
 have t:=tP n k Gf.bZ 28 #[] w (by omega) (by omega) (enters_of func28 (by kernel_rfl) rfl) (fun i j A B o _=>n4 i j o (by omega) (by omega))
 have r:Hid (af prog 26 #[.int .i64 (n:Int),.int .i64 (k:Int)] w fun e w'=>e=.returned (.bool true)/\w'=w):=by
  have h:=xC (n:Int) (k:Int) w
  rw [decide_eq_true (show (1:Int)<=(k:Int)/\(k:Int)<=(n:Int)/\(n:Int)<=12 by omega)] at h
  exact h
 go_enter func10,ntmps10
 go_wp2_with fail
 refine r.out.mono ?_
 rintro e u ⟨rfl,s⟩
 rw [s]
 clear s u r
 go_wp2_with (go_at_call 27;refine t.mono ?_;rintro e o ⟨⟨d,f,rfl,y⟩,z⟩)
 go_ret2
 exact ⟨⟨d,f,rfl,y⟩,z⟩
theorem j1 (n k:Int) (z:Addr) (w:World) (h:¬ (1<=k/\k<=n/\n<=12)) (r:w.cell? ⟨0,0,aa⟩=ab (.iface 136 (.pointer (ab z)))) :
 af prog 10 #[.int .i64 n,.int .i64 k] w fun e w'=>e=.returned (.tuple #[.slice aa 0 0,.iface 136 (.pointer (ab z))])/\za w.heap.size w w':=by
 have d:Hid (af prog 26 #[.int .i64 n,.int .i64 k] w fun e w'=>e=.returned (.bool false)/\w'=w):=by
  have f:=xC n k w
  rw [decide_eq_false h] at f
  exact f
 clear h
 go_enter func10,ntmps10
 go_wp2_with fail
 refine d.out.mono ?_
 rintro e o ⟨rfl,j⟩
 rw [j]
 clear j o d
 go_wp2
 go_quiet (fail)
 go_wp2
 go_ret2
 exact ⟨rfl,below_drewN (ae _ _) _⟩
theorem QJ.at {p:Option Addr} {M:List (List Nat)} (h:QJ w p M) {i j:Nat} (t:i < M.length) (u:j < (Qh M i).length) :
 ∃ b o d f c,p=ab ⟨b,o,aa⟩/\w.cell? ⟨b,o+i,aa⟩=ab (.slice (ab ⟨d,f,aa⟩) (Qh M i).length c)/\w.cell? ⟨d,f+j,aa⟩=ab (.int .u8 ((Gf.nth (Qh M i) j:Nat):Int)):=by
 obtain ⟨b,o,d,f,c,k,_,_,r,s⟩:=h.row t (by omega)
 exact ⟨b,o,d,f,c,k,r,s j u⟩
theorem BJ (i j:Nat) (w:World):af prog 39 #[.int .i64 (i:Int),.int .i64 (j:Int)] w fun e w'=>e=.returned (.int .u8 ((if i=j then 1 else 0:Nat):Int))/\w'=w:=by
 by_cases e:i=j
 ·subst e
  rw [if_pos rfl]
  go_enter func39,ntmps39
  go_wp2
  go_ret
  exact ⟨rfl,rfl⟩
 ·have d:((i:Int)==(j:Int))=false:=by simp;omega
  rw [if_neg e]
  clear e
  go_enter func39,ntmps39
  go_wp2
  go_ret
  exact ⟨rfl,rfl⟩
theorem UM (r s i j d y:Nat) (p:Option Addr) (M:List (List Nat)) (w:World) (z:i < M.length) (E:j < 2*d) (f:(Qh M i).length=d) (G:d<=1000) (H:w.cell? ⟨r,0,aa⟩=ab (.int .i64 (d:Int))) (I:w.cell? ⟨s,0,aa⟩=ab (.slice p M.length y)) (h:QJ w p M) :
 af prog 38 #[.int .i64 (i:Int),.int .i64 (j:Int),.pointer (ab ⟨r,0,aa⟩),.pointer (ab ⟨s,0,aa⟩)] w fun e w'=>e=.returned (.int .u8 (((if j < d then Gf.nth (Qh M i) j else if i=j - d then 1 else 0:Nat)):Int))/\za w.heap.size w w':=by
 by_cases k:j < d
 ·obtain ⟨b,o,A,B,c,rfl,t,D⟩:=h.at z (by rw [f];exact k)
  rw [f] at t
  rw [if_pos k]
  clear f h
  go_enter func38,ntmps38
  go_wp2
  go_ret
  exact ⟨rfl,ae _ _⟩
 ·rw [if_neg k]
  have u:((j:Int) - (d:Int))=((j - d:Nat):Int):=by omega
  clear f h
  go_enter func38,ntmps38
  go_wp2_with (go_at_call 39;first | (rw [u];refine (BJ i (j - d) _).mono ?_;rintro e w' ⟨rfl,rfl⟩) | (refine (BJ i (j - d) _).mono ?_;rintro e w' ⟨rfl,rfl⟩))
  all_goals (go_ret;exact ⟨rfl,ae _ _⟩)
theorem z7 (f h i j d k r n:Nat) (o:Nat->Nat) (x:Nat) (w:World) (s:i < r) (t:d+j < n) (u:n<=1000) (y:w.cell? ⟨f,0,aa⟩=ab (.slice (ab ⟨k,0,aa⟩) r r)) (z:w.cell? ⟨h,0,aa⟩=ab (.int .i64 (d:Int))) (A:w.cell? ⟨k,i,aa⟩=ab (.slice (ab ⟨o i,0,aa⟩) n n)) (B:w.cell? ⟨o i,d+j,aa⟩=ab (.int .u8 (x:Int))) :
 af prog 40 #[.int .i64 (i:Int),.int .i64 (j:Int),.pointer (ab ⟨f,0,aa⟩),.pointer (ab ⟨h,0,aa⟩)] w fun e w'=>e=.returned (.int .u8 (x:Int))/\za w.heap.size w w':=by
 go_enter func40,ntmps40
 go_wp2
 go_quiet (fail)
 go_wp2
 go_ret
 exact ⟨rfl,below_drewN (ae _ _) _⟩
theorem y2 (n:Nat) (w:World) (k:n < 2 ^ 62):af prog 65 #[.int .i64 (n:Int)] w fun e w'=>e=.returned (.bool (decide (1<=n/\n<=16)))/\w'=w:=by
 by_cases f:1<=n
 ·by_cases j:n<=16
  ·have d:Hid (decide (1<=n/\n<=16)=true):=decide_eq_true ⟨f,j⟩
   go_enter func65,ntmps65
   go_wp2
   go_ret
   exact ⟨sB ((decide_eq_true (by omega)).trans d.out.symm),rfl⟩
  ·have d:Hid (decide (1<=n/\n<=16)=false):=decide_eq_false (fun h=>j h.2)
   go_enter func65,ntmps65
   go_wp2
   go_ret
   exact ⟨sB ((decide_eq_false (by omega)).trans d.out.symm),rfl⟩
 ·rw [decide_eq_false (fun h=>f h.1:¬ (1<=n/\n<=16))]
  go_enter func65,ntmps65
  go_wp2
  go_ret
  exact ⟨rfl,rfl⟩
theorem E9 (n:Nat) (w:World) (d:1<=n) (f:n<=16):af prog 65 #[.int .i64 (n:Int)] w fun e w'=>e=.returned (.bool true)/\w'=w:=by
 have:=y2 n w (by omega)
 rw [decide_eq_true (⟨d,f⟩:1<=n/\n<=16)] at this
 exact this
theorem wW (p:Option Addr) (M:List (List Nat)) (H:Nat) (w:World) (d:jQ M) (h:QJ w p M) :
 af prog 35 #[.slice p M.length H] w fun e w'=>e=.returned .nilIface/\w'=w:=by
 have y:Hid (jQ M):=d
 have f:1<=M.length:=d.1
 have z:M.length<=16:=d.2.1
 have A:1<=(Qh M 0).length:=(d.2.2 0 (by omega)).1
 have B:(Qh M 0).length<=16:=(d.2.2 0 (by omega)).2.1
 clear d
 rcases h with h | ⟨b,o,rfl,I,r⟩
 ·rw [h] at f;simp at f
 obtain ⟨D,c0,s,_⟩:=r 0 (by omega)
 have J:w.cell? ⟨b,o,aa⟩=ab (.slice D (Qh M 0).length c0):=s
 have E:Hid (∀ i,i < M.length->∃ q c,w.cell? ⟨b,o+i,aa⟩=ab (.slice q (Qh M 0).length c)):=fun i t=>by
  obtain ⟨q,c,u,_⟩:=r i t
  rw [(y.out.2.2 i t).2.2] at u
  exact ⟨q,c,u⟩
 clear r s
 generalize (Qh M 0).length=n at *
 go_enter func35,ntmps35
 go_wp2_with (first | (go_at_call 65;with_reducible refine (E9 M.length _ f z).mono ?_;rintro e w' ⟨rfl,rfl⟩) | (go_at_call 65;refine (E9 n _ A B).mono ?_;rintro e w' ⟨rfl,rfl⟩))
 go_loop [20] (fun j=>∃ k:Nat,k<=M.length/\j=.int .i64 k) (fun j=>M.length - (intOf j).toNat)
 case atStart=>exact ⟨0,by omega,rfl⟩
 case round =>
  obtain ⟨k,K,rfl⟩:=hrel
  by_cases G:k < M.length
  ·obtain ⟨q,c,L⟩:=E.out k G
   go_wp2
   go_round
   case rel=>exact ⟨k+1,by omega,by go_num⟩
   case measure=>simp [intOf];omega
  ·go_wp2
   go_ret
   exact ⟨rfl,rfl⟩
end Go.Proofs.YtaaahibncffcmaaDoor

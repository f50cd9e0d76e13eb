/- Texts laid together. -/
import Derived.Test.YtaaahibncffcmaaDoorCf1
import Derived.RegionTactic
import Derived.BigRegion
import Derived.Shelf.Abstract
import Derived.StillTailTactics
set_option maxRecDepth 10000
set_option maxHeartbeats 4000000
open Option renaming none->aa,some->ab
open Option.some renaming inj->ac
open Go.RowKit renaming Below->ae
open Go.World renaming cell?_alloc_at->af,cell?_alloc_past->aj
open Go.RowKit.Below renaming refl->ag
open Nat renaming le_refl->ah,lt_irrefl->ak,not_lt_zero->an,lt_of_lt_of_le->aq,le_trans->aw,zero_add->aD
open Go renaming madeCells->ai,Calls->al,Value->am,below_drewN->av,toList_madeCells_one->ay,callFunc->az,info_parts->aC,run_make_row->aF,FuncId->aG
open Go.Calls renaming quiet_of_same->ao
open Go.Sem renaming run->ap
open Go.World.ownsRow renaming kept->au,frozenAt->za,stored->zb,cellAt->aM,lt->ba
open Or renaming inr->aB
namespace Go.Proofs.YtaaahibncffcmaaDoor
open Go.Proofs.Tryd
open Go.RowKit
variable {a b c w w':World}{row:Option Nat}{B n d r k s o p i:Nat}{E:TypeId}{g f:Nat->Nat->Nat}{l:List Nat}{j y:Nat->Nat}{S:Nat->Prop}
theorem QL  (h:a.grownBy b row) (k:b.grownBy c row):a.grownBy c row :=
 ⟨k.os.trans h.os,k.tape.trans h.tape,k.output.trans h.output,aw h.size k.size,fun i d f=>(k.block i (aq d h.size) f).trans (h.block i d f)⟩
theorem QD (h:ae w.heap.size w w') (row:Option Nat):w.grownBy w' row:=⟨h.os,h.tape,h.output,h.size,fun i d _=>h.block i d⟩
theorem Z8 (w:World) (g j:Nat) (v:am):w.grownBy (w.setCell ⟨g,j,aa⟩ v) (ab g) :=
 ⟨rfl,rfl,rfl,by simp [World.setCell],fun i _ d=>Below.heap_setCell w _ v i (fun e=>d (by rw [e]))⟩
theorem Zo.below  {g:Nat} (h:Zo w B E g n l) (d:ae w.heap.size w w'):Zo w' B E g n l:=au h (QD d aa) (aB (by simp [Value.ownBlock]))
theorem zL (g n B:Nat) (f d:Nat->Nat) (z:aG) (J:Array am) (w:World) (Z:n<=1000) (T:∀ args W,ap prog (az z args) W=.ok (.enter z args) W) (K:Zo w B 5 g n (Qi n f))
 (L:∀ j,j < n->∀ h,w.grownBy h (ab g)->Zo h B 5 g n (Qi n (fun i=>if i < j then d i else f i)) ->
  al prog z (#[.int .i64 (j:Int)] ++ J) h fun e o=>e=.returned (.int .u8 ((d j:Nat):Int))/\ae h.heap.size h o) :
 al prog 54 #[.slice (ab ⟨g,0,aa⟩) n n,.func (.func z) #[] J] w fun e w'=>e=.returned (.tuple #[])/\Zo w' B 5 g n (Qi n d)/\w.grownBy w' (ab g):=by
 go_enter func54,ntmps54
 go_wp2
 go_loopw [7] (fun x wr=>∃ k:Nat,k<=n/\x=.int .i64 k/\Zo wr B 5 g n (Qi n (fun i=>if i < k then d i else f i))/\w.grownBy wr (ab g)) (fun x _=>n - (intOf x).toNat)
 case atStart=>exact ⟨0,by omega,rfl,by simpa using K,QD (ag _ _) _⟩
 case round =>
  obtain ⟨k,U,rfl,s,t⟩:=hrel
  by_cases E:k < n
  ·have G:=L k E wr t s
   have H:Hid (Zo wr B 5 g n (Qi n (fun i=>if i < k then d i else f i))):=s
   have I:Hid (w.grownBy wr (ab g)):=t
   clear s t L K
   go_wp2_with fail
   refine G.mono ?_
   rintro e o ⟨rfl,A⟩
   have y:=H.out.below A
   have V:o.frozen? ⟨g,k,aa⟩=false:=y.free k
   have Y:=y.cell k E (Jf _ _)
   have D:=y.set k (d k)
   rw [YL n _ (fun i=>if i < k+1 then d i else f i) (fun i _=>by by_cases e:i=k <;> by_cases M:i < k <;> simp [e,M] <;> omega)] at D
   have N:Hid (Zo (o.setCell ⟨g,k,aa⟩ (.int .u8 ((d k:Nat):Int))) B 5 g n (Qi n (fun i=>if i < k+1 then d i else f i))):=D
   have O:Hid (w.grownBy (o.setCell ⟨g,k,aa⟩ (.int .u8 ((d k:Nat):Int))) (ab g)):=QL (QL I.out (QD A _)) (Z8 _ _ _ _)
   clear y D A G H I T
   go_wp2
   go_roundw
   case rel=>exact ⟨k+1,by omega,by go_num,N.out,O.out⟩
   case measure=>simp [intOf];omega
  ·have Q:k=n:=by omega
   subst Q
   go_wp2
   go_end0
   refine ⟨rfl,?_,t⟩
   rw [YL k d (fun i=>if i < k then d i else f i) (fun i S=>by simp [S])]
   exact s
theorem JsH (n:Nat) (f:Nat->Nat) (o:aG) (I:Array am) (w:World) (Y:n<=1000) (J:∀ l,f l < 256) (U:∀ args W,ap prog (az o args) W=.ok (.enter o args) W)
 (d:Nat->Nat) (K:d 0=0) (L:∀ l,d (l+1)=d l ^^^ f l) (M:∀ l,d l < 256)
 (N:∀ l,l < n->∀ j,ae w.heap.size w j->al prog o (#[.int .i64 (l:Int)] ++ I) j fun e y=>e=.returned (.int .u8 ((f l:Nat):Int))/\ae j.heap.size j y) :
 al prog 59 #[.int .i64 (n:Int),.func (.func o) #[] I] w fun e w'=>e=.returned (.int .u8 ((d n:Nat):Int))/\ae w.heap.size w w':=by
 have B:Hid (d 0=0):=K
 have D:Hid (∀ l,d (l+1)=d l ^^^ f l):=L
 clear K L
 go_enter func59,ntmps59
 go_wp2
 go_loopw [5,8] (fun s x wr=>∃ k:Nat,k<=n/\x=.int .i64 k/\s=.int .u8 ((d k:Nat):Int)/\ae w.heap.size w wr) (fun _ x _=>n - (intOf x).toNat)
 case atStart=>exact ⟨0,by omega,rfl,by rw [B.out];rfl,ag _ _⟩
 case round =>
  obtain ⟨k,V,rfl,rfl,h⟩:=hrel
  by_cases O:k < n
  ·have z:=N k O wr h
   have E:Hid (ae w.heap.size w wr):=h
   have Q:w.heap.size<=wr.heap.size:=h.size
   have lt:=M k
   have G:=J k
   have A:Hid (d (k+1)=d k ^^^ f k):=D.out k
   clear h N D B J M
   generalize d k=t at A lt ⊢
   generalize f k=v at A G z
   go_wp2_with fail
   refine z.mono ?_
   rintro e y ⟨rfl,H⟩
   have S:Hid (ae w.heap.size w y):=E.out.trans (H.mono Q)
   clear H z E U
   go_wp2_with (go_at_call 69;refine (oC t v _ lt G).mono ?_;rintro e w' ⟨rfl,rfl⟩)
   go_roundw
   case rel=>exact ⟨k+1,by omega,by go_num,by rw [A.out],S.out⟩
   case measure=>simp [intOf];omega
  ·have T:k=n:=by omega
   subst T
   go_wp2
   go_ret
   exact ⟨rfl,h⟩
theorem Y4  {g:Nat} {row:Nat} (h:Zo w B E g n l) (d:w.grownBy w' (ab row)) (f:g≠row):Zo w' B E g n l :=
 au h d (aB (fun e=>f (ac e)))
theorem Zo.mono {f:Nat} {g:Nat} (h:Zo w B E g n l) (A:f<=B):Zo w f E g n l:=by
 obtain ⟨j,d⟩:=h
 refine ⟨j,?_⟩
 rcases d with d | ⟨o,s,t,e,y,z⟩
 ·exact Or.inl d
 ·exact aB ⟨o,s,t,e,aw A y,z⟩
def Zy (w:World) (B d r:Nat) (f:Nat->am):Prop:=w.ownsRow B 32 1 (.slice (ab ⟨d,0,aa⟩) r r) r ((List.range r).map f)
theorem Zy.made (w:World) (B r:Nat) (d:B<=w.heap.size) (f:r<=1000000):Zy (w.alloc (.cells (ai #[.slice aa 0 0] r) 32)) B w.heap.size r (fun _=>.slice aa 0 0):=by
 have h:=World.ownsRow_lit (base:=B) (e:=32) (size:=1) w (ai #[.slice aa 0 0] r) r d (by unfold maxLen;omega) (by have:=congrArg List.length (ay (.slice aa 0 0) r);simpa using this)
 rw [ay] at h
 unfold Zy
 rw [List.map_const',List.length_range]
 exact h
theorem Zy.cell  {f:Nat->am} (h:Zy w B d r f) (j:Nat) (o:j < r):w.cell? ⟨d,j,aa⟩=ab (f j):=by
 rw [aM (w:=w) h j (by omega),List.getElem?_map,List.getElem?_range o]
 rfl
theorem Zy.free  {f:Nat->am} (h:Zy w B d r f) (j:Nat):w.frozen? ⟨d,j,aa⟩=false:=za (w:=w) h j
theorem Zy.set  {f:Nat->am} (h:Zy w B d r f) (j:Nat) (v:am):Zy (w.setCell ⟨d,j,aa⟩ v) B d r (fun i=>if i=j then v else f i):=by
 have:=(zb (w:=w) h j v).1
 rw [W9] at this
 exact this
theorem Zy.kept  {f:Nat->am} (h:Zy w B d r f) (j:w.grownBy w' row) (o:row≠ab d):Zy w' B d r f :=
 au h j (aB (fun e=>o e.symm))
theorem Zy.below  {f:Nat->am} (h:Zy w B d r f) (j:ae w.heap.size w w'):Zy w' B d r f:=h.kept (QD j aa) (by simp)
theorem Zy.congr {f:Nat} {d j:Nat->am} (h:Zy w B f r d) (s:∀ i,i < r->d i=j i):Zy w B f r j:=by
 unfold Zy
 rw [List.map_congr_left (g:=d) (fun i o=>(s i (List.mem_range.1 o)).symm)]
 exact h
theorem Zy.lt  {f:Nat->am} (h:Zy w B d r f):B<=d/\d < w.heap.size:=ba h d rfl
def gG (n g:Nat):Value:=.slice (ab ⟨g,0,aa⟩) n n
structure iT (w:World) (B gm:Nat) (gs:Nat->Nat) (k n:Nat) (f:Nat->Nat->Nat):Prop where
 row:∀ i,i < k->Zo w B 5 (gs i) n (Qi n (f i))
 ne:∀ i,i < k->gs i≠gm
 inj:∀ i j,i < k->j < k->gs i=gs j->i=j
structure Zv (w:World) (B gm:Nat) (gs:Nat->Nat) (r n:Nat) (f:Nat->Nat->Nat):Prop where
 rows:Zy w B gm r (fun i=>gG n (gs i))
 all:iT w B gm gs r n f
theorem iT.below   (h:iT w B d j k n f) (s:ae w.heap.size w w'):iT w' B d j k n f:=⟨fun i o=>(h.row i o).below s,h.ne,h.inj⟩
theorem Zv.below   (h:Zv w B d j r n f) (o:ae w.heap.size w w'):Zv w' B d j r n f:=⟨h.rows.below o,h.all.below o⟩
def XB (r n:Nat) (f:Nat->Nat->Nat):List (List Nat):=(List.range r).map fun i=>Qi n (f i)
theorem Zs (r n:Nat) (f:Nat->Nat->Nat):(XB r n f).length=r:=by simp [XB]
theorem XD (r n:Nat) (f:Nat->Nat->Nat) (i:Nat) (d:i < r):Qh (XB r n f) i=Qi n (f i):=by
 unfold Qh XB
 rw [List.getD_eq_getElem?_getD,List.getElem?_map,List.getElem?_range d]
 rfl
theorem Zv.tU   (h:Zv w B d y r n f) (A:∀ i j,f i j < 256) (k:Nat) (D:k<=r):QJ w (ab ⟨d,0,aa⟩) (XB k n f):=by
 refine aB ⟨d,0,rfl,h.rows.lt.2,fun i o=>?_⟩
 rw [Zs] at o
 have z:=h.rows.cell i (by omega)
 have s:=h.all.row i (by omega)
 rw [XD _ _ _ i o,Jf,aD]
 refine ⟨_,_,z,⟨XL _ _ (A i),?_⟩,fun e=>by cases e⟩
 refine aB ⟨y i,0,rfl,s.lt.2,fun j t=>?_⟩
 rw [Jf] at t
 rw [aD]
 exact s.cell j t (Jf _ _)
theorem iT.snoc  {d:Nat->Nat} {g:Nat} (h:iT w B s d k n f) (y:∀ i,i < k->d i≠g) (A:g≠s) (D:∀ i,i < k->Zo w' B 5 (d i) n (Qi n (f i))) (E:Zo w' B 5 g n (Qi n (f k))):iT w' B s (fun i=>if i=k then g else d i) (k+1) n f where
 row:=fun i t=>by
  by_cases e:i=k
  ·simp only [e,if_true];exact E
  ·simp only [e,if_false];exact D i (by omega)
 ne:=fun i t=>by
  by_cases e:i=k
  ·simp only [e,if_true];exact A
  ·simp only [e,if_false];exact h.ne i (by omega)
 inj:=fun i j t G=>by
  by_cases e:i=k <;> by_cases z:j=k <;> simp only [e,z,if_true,if_false]
  ·intro _;trivial
  ·intro o;exact absurd o.symm (y j (by omega))
  ·intro o;exact absurd o (y i (by omega))
  ·exact h.inj i j (by omega) (by omega)
theorem OY (h o k j v:Nat) (f:aG) (s:Array am) (w:World) (z:∀ args W,ap prog (az f args) W=.ok (.enter f args) W)
 (A:w.cell? ⟨h,0,aa⟩=ab (.func (.func f) #[] s)) (B:w.cell? ⟨o,0,aa⟩=ab (.int .i64 (k:Int)))
 (t:al prog f (#[.int .i64 (k:Int),.int .i64 (j:Int)] ++ s) w fun e d=>e=.returned (.int .u8 (v:Int))/\ae w.heap.size w d) :
 al prog 55 #[.int .i64 (j:Int),.pointer (ab ⟨h,0,aa⟩),.pointer (ab ⟨o,0,aa⟩)] w fun e d=>e=.returned (.int .u8 (v:Int))/\ae w.heap.size w d:=by
 go_enter func55,ntmps55
 go_wp2_with fail
 refine t.mono ?_
 rintro e d ⟨rfl,y⟩
 clear z t A B
 go_wp2
 go_ret
 exact ⟨rfl,y⟩
theorem tP (r n:Nat) (z:Nat->Nat->Nat) (y:aG) (A:Array am) (w:World) (hr:r<=1000) (hn:n<=1000) (d8:∀ args W,ap prog (az y args) W=.ok (.enter y args) W)
 (hc:∀ i j,i < r->j < n->∀ o,ae w.heap.size w o->al prog y (#[.int .i64 (i:Int),.int .i64 (j:Int)] ++ A) o fun e B=>e=.returned (.int .u8 ((z i j:Nat):Int))/\ae o.heap.size o B) :
 al prog 27 #[.int .i64 (r:Int),.int .i64 (n:Int),.func (.func y) #[] A] w fun e w'=>(∃ Z f,e=.returned (.slice (ab ⟨Z,0,aa⟩) r r)/\Zv w' w.heap.size Z f r n z)/\ae w.heap.size w w':=by
 obtain ⟨i1,a0,a1,a2,a3⟩:=aC s4
 obtain ⟨i0,a4,a5,a6,a7⟩:=aC KF
 have HC:Hid (∀ i j,i < r->j < n->∀ o,ae w.heap.size w o->al prog y (#[.int .i64 (i:Int),.int .i64 (j:Int)] ++ A) o fun e B=>e=.returned (.int .u8 ((z i j:Nat):Int))/\ae o.heap.size o B):=hc
 have d9:Hid (∀ args W,ap prog (az y args) W=.ok (.enter y args) W):=d8
 clear hc d8
 go_enter func27,ntmps27
 go_wp2_with (first | (at_make;refine wpList_make_row _ rfl (.tmp 9) (.tmp 9) 23 rfl 32 i1 (.slice aa 0 0) underlying23 a0 a1 a2 rfl .i64 .i64 r rfl rfl (by rw [a3];omega) (by omega) ?_))
 obtain ⟨B,E⟩:∃ B,B=(w.alloc (.cells #[.func (.func y) #[] A] 61)).alloc (.cells (ai #[.slice aa 0 0] r) 32):=⟨_,rfl⟩
 rw [<- E]
 have a8:Hid (Zy B w.heap.size (w.heap.size+1) r (fun _=>.slice aa 0 0)):=by
  show Zy _ _ _ _ _
  have:=Zy.made (w.alloc (.cells #[.func (.func y) #[] A] 61)) w.heap.size r (by simp) (by omega)
  rw [E]
  simpa using this
 have a9:Hid (ae w.heap.size w B):=by
  show ae _ _ _
  rw [E]
  exact ((ag _ _).alloc (ah _) _).alloc (by simp) _
 have b1:Hid (B.cell? ⟨w.heap.size,0,aa⟩=ab (.func (.func y) #[] A)):=by
  show _=_
  rw [E,aj _ _ _ (by simp),af _ _ _ _ rfl]
  rfl
 clear E
 have e1:∀ W:World,ap prog (Instr.makeSlice 32 (.int .i64 (n:Int)) (.int .i64 (n:Int))) W=.ok (.slice (ab ⟨W.heap.size,0,aa⟩) n n) (W.alloc (.cells (ai #[ZM 0] n) 5)):=fun W=>aF (P:=prog) 32 5 i0 (ZM 0) underlying32 a4 a5 a6 rfl .i64 .i64 n (by rw [a7];omega) (by omega) W
 clear a0 a1 a2 a3 a4 a5 a6 a7
 go_loopw [13] (fun x wr=>∃ (k:Nat) (f:Nat->Nat),k<=r/\x=.int .i64 k/\Zy wr w.heap.size (w.heap.size+1) r (fun i=>if i < k then gG n (f i) else .slice aa 0 0)/\iT wr w.heap.size (w.heap.size+1) f k n z/\ae w.heap.size w wr/\wr.cell? ⟨w.heap.size,0,aa⟩=ab (.func (.func y) #[] A)) (fun x _=>r - (intOf x).toNat)
 case atStart=>exact ⟨0,fun _=>0,by omega,rfl,by simpa using a8.out,⟨fun i s=>absurd s (an _),fun i s=>absurd s (an _),fun i j s=>absurd s (an _)⟩,a9.out,b1.out⟩
 case round =>
  obtain ⟨k,f,hk,rfl,O,hK,hB,hA⟩:=hrel
  obtain ⟨d,rfl⟩:∃ d,d=wr:=⟨_,rfl⟩
  have Q:Hid (Zy d w.heap.size (w.heap.size+1) r (fun i=>if i < k then gG n (f i) else .slice aa 0 0)):=O
  have S:Hid (iT d w.heap.size (w.heap.size+1) f k n z):=hK
  have T:Hid (ae w.heap.size w d):=hB
  have HA:Hid (d.cell? ⟨w.heap.size,0,aa⟩=ab (.func (.func y) #[] A)):=hA
  have f8:w.heap.size+1 < d.heap.size:=O.lt.2
  clear a8 a9 b1 O hK hB hA
  by_cases U:k < r
  ·go_wp2
   obtain ⟨h,G⟩:∃ h,h=d.alloc (.cells #[.int .i64 (k:Int)] 3):=⟨_,rfl⟩
   rw [<- G]
   have H:ae d.heap.size d h:=by rw [G];exact (ag _ _).alloc (ah _) _
   have e2:h.heap.size=d.heap.size+1:=by rw [G];simp
   have b2:h.cell? ⟨d.heap.size,0,aa⟩=ab (.int .i64 (k:Int)):=by rw [G,af _ _ _ _ rfl];rfl
   have b3:=Q.out.below H
   have b4:=S.out.below H
   have b5:Hid (ae w.heap.size w h):=T.out.trans (H.mono (by omega))
   have b6:Hid (h.cell? ⟨w.heap.size,0,aa⟩=ab (.func (.func y) #[] A)):=(H.cell (p:=⟨w.heap.size,0,aa⟩) (by show w.heap.size < _;omega)).trans HA.out
   have b7:Hid (Zy h w.heap.size (w.heap.size+1) r (fun i=>if i < k then gG n (f i) else .slice aa 0 0)):=b3
   have K:Hid (iT h w.heap.size (w.heap.size+1) f k n z):=b4
   clear G H b3 b4 Q S T HA
   have L:=b7.out.below ((ag _ h).alloc (ah _) (.cells (ai #[ZM 0] n) 5))
   have hf:(h.alloc (.cells (ai #[ZM 0] n) 5)).frozen? ⟨w.heap.size+1,k,aa⟩=false:=L.free k
   have e3:(h.alloc (.cells (ai #[ZM 0] n) 5)).cell? ⟨w.heap.size+1,k,aa⟩=ab (.slice aa 0 0):=by rw [L.cell k U,if_neg (ak _)]
   have b8:Hid (Zy (h.alloc (.cells (ai #[ZM 0] n) 5)) w.heap.size (w.heap.size+1) r (fun i=>if i < k then gG n (f i) else .slice aa 0 0)):=L
   clear L
   go_region
   obtain ⟨t,I⟩:∃ t,t=((h.alloc (.cells (ai #[ZM 0] n) 5)).setCell ⟨w.heap.size+1,k,aa⟩ (.slice (ab ⟨d.heap.size+1,0,aa⟩) n n)).drew:=⟨_,rfl⟩
   rw [<- I]
   have D:h.grownBy t (ab (w.heap.size+1)):=by
    rw [I]
    exact QL (World.grownBy_alloc h _ _) (QL (Z8 _ _ _ _) (JO _ 1 _))
   have V:Zy t w.heap.size (w.heap.size+1) r (fun i=>if i < k+1 then gG n (if i=k then d.heap.size+1 else f i) else .slice aa 0 0):=by
    have M:=b8.out.set k (.slice (ab ⟨d.heap.size+1,0,aa⟩) n n)
    rw [I]
    refine Zy.congr (Zy.kept M (JO _ 1 aa) (by simp)) (fun i _=>?_)
    by_cases e:i=k
    ·simp [e,gG]
    ·by_cases e':i < k
     ·simp [e,e',show i < k+1 by omega]
     ·simp [e,e',show ¬ i < k+1 by omega]
   have d0:Zo t w.heap.size 5 (d.heap.size+1) n (Qi n fun _=>0):=by
    have M:=Zo.made h w.heap.size 5 n (by omega) (by omega)
    rw [e2] at M
    rw [I]
    exact Y4 (row:=w.heap.size+1) M (QL (Z8 _ _ _ _) (JO _ 1 _)) (by omega)
   have d1:t.cell? ⟨w.heap.size,0,aa⟩=ab (.func (.func y) #[] A):=D.cell b6.out (by show ab w.heap.size≠_;intro e;have:=ac e;omega)
   have e4:t.cell? ⟨d.heap.size,0,aa⟩=ab (.int .i64 (k:Int)):=D.cell b2 (by show ab d.heap.size≠_;intro e;have:=ac e;omega)
   have d2:Hid (ae w.heap.size w t):=b5.out.grown D (by omega) (fun k' J=>by have:=ac J;omega)
   have d3:∀ i,i < k->Zo t w.heap.size 5 (f i) n (Qi n (z i)):=fun i s=>Y4 (K.out.row i s) D (K.out.ne i s)
   have f9:t.cell? ⟨w.heap.size+1,k,aa⟩=ab (.slice (ab ⟨d.heap.size+1,0,aa⟩) n n):=by rw [V.cell k U];simp [gG]
   have d4:∀ i,i < k->f i < h.heap.size:=fun i s=>(K.out.row i s).lt.2
   have d5:∀ i,i < k->f i≠d.heap.size+1:=fun i s e=>by have:=d4 i s;omega
   have g0:h.heap.size<=t.heap.size:=D.size
   have e5:Hid (Zy t w.heap.size (w.heap.size+1) r (fun i=>if i < k+1 then gG n (if i=k then d.heap.size+1 else f i) else .slice aa 0 0)):=V
   have e9:Hid (Zo t w.heap.size 5 (d.heap.size+1) n (Qi n fun _=>0)):=d0
   have f0:Hid (∀ i,i < k->Zo t w.heap.size 5 (f i) n (Qi n (z i))):=d3
   have d6:Hid (∀ i,i < k->f i≠d.heap.size+1):=d5
   have d7:Hid (t.cell? ⟨w.heap.size,0,aa⟩=ab (.func (.func y) #[] A)):=d1
   clear I D V d0 d3 d4 d5 b8 b7 b5 b6 hf e3 b2 e1 d1
   have f1:Hid (∀ j,j < n->∀ o,t.grownBy o (ab (d.heap.size+1))->Zo o w.heap.size 5 (d.heap.size+1) n (Qi n (fun i=>if i < j then z k i else 0)) ->
    al prog 55 (#[.int .i64 (j:Int)] ++ #[.pointer (ab ⟨w.heap.size,0,aa⟩),.pointer (ab ⟨d.heap.size,0,aa⟩)]) o fun e B=>e=.returned (.int .u8 ((z k j:Nat):Int))/\ae o.heap.size o B):=by
    intro j hj o Y _
    exact OY w.heap.size d.heap.size k j (z k j) y A o d9.out (Y.cell d7.out (by show ab w.heap.size≠_;intro e;have:=ac e;omega)) (Y.cell e4 (by show ab d.heap.size≠_;intro e;have:=ac e;omega)) (HC.out k j U hj o (d2.out.grown Y (by omega) (fun k' J=>by have:=ac J;omega)))
   go_wp2_with (go_at_call 54;refine (zL (d.heap.size+1) n w.heap.size (fun _=>0) (z k) 55 #[.pointer (ab ⟨w.heap.size,0,aa⟩),.pointer (ab ⟨d.heap.size,0,aa⟩)] t hn (enters_of func55 (by kernel_rfl) rfl) e9.out f1.out).mono ?_;rintro e w6 ⟨rfl,f2,N⟩)
   have f3:=e5.out.kept N (by intro e;have:=ac e;omega)
   have f4:=K.out.snoc (w':=w6) d6.out (by omega) (fun i s=>Y4 (f0.out i s) N (d6.out i s)) f2
   have f5:ae w.heap.size w w6:=d2.out.grown N (by omega) (fun k' J=>by have:=ac J;omega)
   have f6:=N.cell d7.out (by show ab w.heap.size≠_;intro e;have:=ac e;omega)
   go_roundw
   case rel=>exact ⟨k+1,fun i=>if i=k then d.heap.size+1 else f i,by omega,by go_num,f3,f4,f5,f6⟩
   case measure=>simp [intOf];omega
  ·have f7:k=r:=by omega
   subst f7
   go_wp2
   go_ret
   exact ⟨⟨_,f,rfl,⟨Q.out.congr (fun i s=>by simp [s]),S.out⟩⟩,T.out⟩
structure ZI (S:Nat->Prop) (w w':World):Prop where
 os:w'.os=w.os
 tape:w'.tape=w.tape
 output:w'.output=w.output
 size:w.heap.size<=w'.heap.size
 block:∀ k,k < w.heap.size->¬ S k->w'.heap[k]?=w.heap[k]?
theorem ZI.trans  (h:ZI S a b) (k:ZI S b c):ZI S a c :=
 ⟨k.os.trans h.os,k.tape.trans h.tape,k.output.trans h.output,aw h.size k.size,fun i d f=>(k.block i (aq d h.size) f).trans (h.block i d f)⟩
theorem ZP  (h:ae w.heap.size w w'):ZI S w w':=⟨h.os,h.tape,h.output,h.size,fun i d _=>h.block i d⟩
theorem zO  {row:Nat} (h:w.grownBy w' (ab row)) (j:S row):ZI S w w':=⟨h.os,h.tape,h.output,h.size,fun i d f=>h.block i d (fun e=>f (by rw [ac e];exact j))⟩
theorem ZI.cell  (h:ZI S w w') {b:Nat} {v:am} (d:w.cell? ⟨b,o,aa⟩=ab v) (f:¬ S b):w'.cell? ⟨b,o,aa⟩=ab v :=
 (World.cell?_of_block (a:=⟨b,o,aa⟩) (h.block b (Qf d) f)).trans d
theorem ZI.below  (h:ZI S w w') (f:∀ k,S k->B<=k) (o:B<=w.heap.size):ae B w w':=⟨h.os,h.tape,h.output,h.size,fun k j=>h.block k (by omega) (fun d=>by have:=f k d;omega)⟩
def j7 (g:Nat->Nat->Nat) (d p k:Nat):Nat->Nat->Nat:=fun i j=>if i=d then Gf.mul (Gf.inv (g p k)) (g p j) else if i=p then g d j else g i j
def QH (h:Nat->Nat->Nat) (d k:Nat):Nat->Nat->Nat:=fun i j=>if i=d then h i j else h i j ^^^ Gf.mul (h i k) (h d j)
theorem yD (h:∀ i j,g i j < 256) (d p k i j:Nat):j7 g d p k i j < 256:=by
 unfold j7
 split
 ·exact Gf.aV (Gf.cQ _) _
 ·split <;> exact h _ _
theorem WL (h:∀ i j,g i j < 256) (d k i j:Nat):QH g d k i j < 256:=by
 unfold QH
 split
 ·exact h _ _
 ·exact Gf.iK (h _ _) (Gf.aV (h _ _) _)
def YW {f:Type} (g:Nat->f) (d p:Nat):Nat->f:=fun i=>if i=d then g p else if i=p then g d else g i
theorem oI {f:Type} (g:Nat->f) (d p i:Nat):YW g d p i=g (if i=d then p else if i=p then d else i):=by
 unfold YW
 by_cases a:i=d
 ·rw [if_pos a,if_pos a]
 ·by_cases b:i=p
  ·rw [if_neg a,if_neg a,if_pos b,if_pos b]
  ·rw [if_neg a,if_neg a,if_neg b,if_neg b]
theorem pN (f:d < r) (h:p < r) (j:i < r):(if i=d then p else if i=p then d else i) < r:=by
 by_cases a:i=d
 ·rw [if_pos a];exact h
 ·by_cases b:i=p
  ·rw [if_neg a,if_pos b];exact f
  ·rw [if_neg a,if_neg b];exact j
theorem H3 {j:Nat} (h:(if i=d then p else if i=p then d else i)=(if j=d then p else if j=p then d else j)):i=j:=by
 split at h <;> split at h <;> (try split at h) <;> (try split at h) <;> omega
theorem iT.swap {z:Nat}  (h:iT w B z y r n f) (s:d < r) (t:p < r) (D:∀ i,i < r->Zo w' B 5 (y i) n (Qi n (f i))):iT w' B z (YW y d p) r n (YW f d p) where
 row:=fun i o=>by rw [oI,oI];exact D _ (pN s t o)
 ne:=fun i o=>by rw [oI];exact h.ne _ (pN s t o)
 inj:=fun i j o A e=>by rw [oI,oI] at e;exact H3 (h.inj _ _ (pN s t o) (pN s t A) e)
theorem Zv.swap  {o:Nat->Nat}  (h:Zv w B s o r n f) (z:d < r) (A:p < r):Zv ((w.setCell ⟨s,d,aa⟩ (gG n (o p))).setCell ⟨s,p,aa⟩ (gG n (o d))).drew B s (YW o d p) r n (YW f d p):=by
 have y:w.grownBy ((w.setCell ⟨s,d,aa⟩ (gG n (o p))).setCell ⟨s,p,aa⟩ (gG n (o d))).drew (ab s):=QL (Z8 _ _ _ _) (QL (Z8 _ _ _ _) (JO _ 1 _))
 refine ⟨?_,h.all.swap z A (fun i t=>Y4 (h.all.row i t) y (h.all.ne i t))⟩
 refine Zy.congr (Zy.kept ((h.rows.set d (gG n (o p))).set p (gG n (o d))) (JO _ 1 aa) (by simp)) (fun i _=>?_)
 unfold YW
 by_cases e:i=p
 ·by_cases j:i=d
  ·rw [if_pos e,if_pos j,<- e,<- j]
  ·rw [if_pos e,if_neg j,if_pos e]
 ·by_cases j:i=d
  ·rw [if_neg e,if_pos j,if_pos j]
  ·rw [if_neg e,if_neg j,if_neg j,if_neg e]
theorem Zv.change   {v:Nat->Nat} (h:Zv w B s j r n f) (t:d < r) (y:w.grownBy w' (ab (j d))) (A:Zo w' B 5 (j d) n (Qi n v)):Zv w' B s j r n (fun i=>if i=d then v else f i) where
 rows:=h.rows.kept y (fun e=>h.all.ne d t (ac e))
 all:=⟨fun i o=>by
  by_cases e:i=d
  ·simp only [e,if_true];exact A
  ·simp only [e,if_false];exact Y4 (h.all.row i o) y (fun z=>e (h.all.inj i d o t z)),h.all.ne,h.all.inj⟩
theorem Zv.congr  {s:Nat->Nat} {d:Nat->Nat->Nat} (h:Zv w B o s r n f) (t:∀ i j,f i j=d i j):Zv w B o s r n d:=by
 have:f=d:=funext fun i=>funext fun j=>t i j
 rw [<- this];exact h
theorem K6 (d f g n j s x:Nat) (w:World) (y:w.cell? ⟨d,0,aa⟩=ab (.int .u8 (s:Int))) (z:w.cell? ⟨f,0,aa⟩=ab (.slice (ab ⟨g,0,aa⟩) n n)) (A:w.cell? ⟨g,j,aa⟩=ab (.int .u8 (x:Int))) (B:j < n) (o:s < 256) (t:x < 256) :
 al prog 83 #[.int .i64 (j:Int),.pointer (ab ⟨d,0,aa⟩),.pointer (ab ⟨f,0,aa⟩)] w fun e h=>e=.returned (.int .u8 ((Gf.mul s x:Nat):Int))/\ae w.heap.size w h:=by
 go_enter func83,ntmps83
 go_wp2
 go_quiet ((go_at_call 61;exact ao (k1 s x _ o t)))
 go_wp2
 go_ret
 exact ⟨rfl,av (ag _ _) _⟩
theorem H5 (S:Nat->Prop) (B o:Nat) (h:Nat->Nat) (r n d c:Nat) (f:Nat->Nat->Nat) (z:Addr) (w:World) (hr:r<=1000) (hn:n<=1000) (hd:d<=r) (hc:c < n) (hf:∀ i j,f i j < 256) (hG:Zv w B o h r n f) (d9:S o) (b4:∀ i,i < r->S (h i)) (f0:2 < B)
 (hz:w.cell? ⟨2,0,aa⟩=ab (.iface 136 (.pointer (ab z)))) :
 al prog 66 #[.slice (ab ⟨o,0,aa⟩) r r,.int .i64 (d:Int),.int .i64 (c:Int)] w fun e w'=>ZI S w w' /\
  ((e=.returned (.bool false)/\(∀ i,d<=i->i < r->f i c=0)/\Zv w' B o h r n f) ∨
   (e=.returned (.bool true)/\∃ p a2,d<=p/\p < r/\f p c≠0/\(∀ i,i < r->S (a2 i))/\Zv w' B o a2 r n (j7 f d p c))):=by
 have HG:Hid (Zv w B o h r n f):=hG
 have HZ:Hid (w.cell? ⟨2,0,aa⟩=ab (.iface 136 (.pointer (ab z)))):=hz
 clear hG hz
 go_enter func66,ntmps66
 go_wp2
 go_loopw [7] (fun x wr=>∃ i:Nat,d<=i/\i<=r/\x=.int .i64 i/\(∀ y,d<=y->y < i->f y c=0)/\ae w.heap.size w wr) (fun x _=>r - (intOf x).toNat)
 case atStart=>exact ⟨d,ah _,hd,rfl,fun y h1 h2=>by omega,ag _ _⟩
 case round =>
  obtain ⟨i,b5,e1,rfl,h0,Y⟩:=hrel
  obtain ⟨E,rfl⟩:∃ E,E=wr:=⟨_,rfl⟩
  have H0:Hid (∀ y,d<=y->y < i->f y c=0):=h0
  have H:Hid (ae w.heap.size w E):=Y
  have J:Hid (Zv E B o h r n f):=HG.out.below Y
  clear h0 Y
  by_cases G:i < r
  ·have c1:E.cell? ⟨o,i,aa⟩=ab (.slice (ab ⟨h i,0,aa⟩) n n):=J.out.rows.cell i G
   have c2:E.cell? ⟨h i,c,aa⟩=ab (.int .u8 ((f i c:Nat):Int)):=by rw [(J.out.all.row i G).cell c hc (Jf _ _),Yq _ _ c hc]
   have lx:=hf i c
   by_cases K:f i c=0
   ·have b6:E.cell? ⟨2,0,aa⟩=ab (.iface 136 (.pointer (ab z))):=(H.out.cell (p:=⟨2,0,aa⟩) (by have:=HG.out.rows.lt;show 2 < _;omega)).trans HZ.out
    have Z:Hid (f i c=0):=K
    rw [K] at c2
    clear K lx
    go_wp2_with (go_at_call 82;refine (NL z _ b6).mono ?_;rintro e t ⟨rfl,a3⟩)
    go_roundw
    case rel =>
     refine ⟨i+1,by omega,by omega,by go_num,fun y h1 h2=>?_,?_⟩
     ·by_cases e:y=i
      ·rw [e];exact Z.out
      ·exact H0.out y h1 (by omega)
     ·exact (H.out.trans (a3.mono H.out.size)).alloc (by have:=a3.size;have:=H.out.size;omega) _
    case measure=>simp [intOf];omega
   ·have Z:Hid (f i c≠0):=K
    have HI:=TG (f i c) E lx K
    clear K
    go_wp2_with (first | (go_at_call 82;refine HI.mono ?_;rintro e t ⟨rfl,rfl⟩))
    clear HI c1 c2
    have L:d < r:=by omega
    have lv:=Gf.cQ (f i c)
    obtain ⟨A,O⟩:∃ A,A=t.alloc (.cells #[.int .u8 ((Gf.inv (f i c):Nat):Int)] 5):=⟨_,rfl⟩
    rw [<- O]
    have a0:ae t.heap.size t A:=by rw [O];exact (ag _ _).alloc (ah _) _
    have e2:A.heap.size=t.heap.size+1:=by rw [O];simp
    have a4:A.cell? ⟨t.heap.size,0,aa⟩=ab (.int .u8 ((Gf.inv (f i c):Nat):Int)):=by rw [O,af _ _ _ _ rfl];rfl
    have M:Hid (Zv A B o h r n f):=J.out.below a0
    have a5:Hid (ZI S w A):=ZP (H.out.trans (a0.mono H.out.size))
    have e3:o < t.heap.size:=J.out.rows.lt.2
    have e4:h i < t.heap.size:=(J.out.all.row i G).lt.2
    clear O a0
    have d1:A.cell? ⟨o,i,aa⟩=ab (.slice (ab ⟨h i,0,aa⟩) n n):=M.out.rows.cell i G
    have d2:A.cell? ⟨o,d,aa⟩=ab (.slice (ab ⟨h d,0,aa⟩) n n):=M.out.rows.cell d L
    have f1:A.frozen? ⟨o,i,aa⟩=false:=M.out.rows.free i
    have f2:A.frozen? ⟨o,d,aa⟩=false:=M.out.rows.free d
    obtain ⟨v',b7⟩:=cell?_setCell_some (w:=A) (p:=⟨o,d,aa⟩) (x:=.slice (ab ⟨h i,0,aa⟩) n n) (q:=⟨o,i,aa⟩) (v:=.slice (ab ⟨h i,0,aa⟩) n n) d1
    go_region
    obtain ⟨s,T⟩:∃ s,s=((A.setCell ⟨o,d,aa⟩ (.slice (ab ⟨h i,0,aa⟩) n n)).setCell ⟨o,i,aa⟩ (.slice (ab ⟨h d,0,aa⟩) n n)).drew:=⟨_,rfl⟩
    rw [<- T]
    have a1:Hid (Zv s B o (YW h d i) r n (YW f d i)):=by
     show Zv _ _ _ _ _ _ _
     rw [T]
     exact M.out.swap L G
    have U:A.grownBy s (ab o):=by
     rw [T]
     exact QL (Z8 _ _ _ _) (QL (Z8 _ _ _ _) (JO _ 1 _))
    have a6:s.cell? ⟨t.heap.size,0,aa⟩=ab (.int .u8 ((Gf.inv (f i c):Nat):Int)):=U.cell a4 (by show ab t.heap.size≠_;intro e;have:=ac e;omega)
    have a7:Hid (ZI S w s):=a5.out.trans (zO U d9)
    have e5:A.heap.size<=s.heap.size:=U.size
    clear T U d1 d2 f1 f2 b7 a4 M a5
    have N:YW h d i d=h i:=if_pos rfl
    have sf:YW f d i d=f i:=if_pos rfl
    have c6:s.cell? ⟨o,d,aa⟩=ab (.slice (ab ⟨h i,0,aa⟩) n n):=by have:=a1.out.rows.cell d L;rw [N] at this;exact this
    obtain ⟨D,Q⟩:∃ D,D=s.alloc (.cells #[.slice (ab ⟨h i,0,aa⟩) n n] 32):=⟨_,rfl⟩
    have V:ae s.heap.size s D:=by rw [Q];exact (ag _ _).alloc (ah _) _
    have e9:D.heap.size=s.heap.size+1:=by rw [Q];simp
    have a8:D.cell? ⟨s.heap.size,0,aa⟩=ab (.slice (ab ⟨h i,0,aa⟩) n n):=by rw [Q,af _ _ _ _ rfl];rfl
    have a9:D.cell? ⟨t.heap.size,0,aa⟩=ab (.int .u8 ((Gf.inv (f i c):Nat):Int)):=(V.cell (p:=⟨t.heap.size,0,aa⟩) (by show t.heap.size < _;omega)).trans a6
    have b1:Hid (Zv D B o (YW h d i) r n (YW f d i)):=a1.out.below V
    have b8:Hid (ZI S w D):=a7.out.trans (ZP V)
    have d0:Hid (Zo D B 5 (h i) n (Qi n (f i))):=by have:=b1.out.all.row d L;rw [N,sf] at this;exact this
    have d3:Hid (∀ j,j < n->∀ I,D.grownBy I (ab (h i))->Zo I B 5 (h i) n (Qi n (fun l=>if l < j then Gf.mul (Gf.inv (f i c)) (f i l) else f i l)) ->
     al prog 83 (#[.int .i64 (j:Int)] ++ #[.pointer (ab ⟨t.heap.size,0,aa⟩),.pointer (ab ⟨s.heap.size,0,aa⟩)]) I fun e w2=>e=.returned (.int .u8 ((Gf.mul (Gf.inv (f i c)) (f i j):Nat):Int))/\ae I.heap.size I w2):=by
     intro j hj I b2 d4
     refine K6 t.heap.size s.heap.size (h i) n j (Gf.inv (f i c)) (f i j) I (b2.cell a9 (by show ab t.heap.size≠_;intro e;have:=ac e;omega)) (b2.cell a8 (by show ab s.heap.size≠_;intro e;have:=ac e;omega)) ?_ hj lv (hf i j)
     rw [d4.cell j hj (Jf _ _),Yq _ _ j hj,if_neg (ak _)]
    have d5:Hid (D=s.alloc (.cells #[.slice (ab ⟨h i,0,aa⟩) n n] 32)):=Q
    clear Q V a6 a8 a9 a1 a7 N sf hf
    go_wp2_with (go_at_call 54;rw [<- d5.out];refine (zL (h i) n B (f i) (fun l=>Gf.mul (Gf.inv (f i c)) (f i l)) 83 #[.pointer (ab ⟨t.heap.size,0,aa⟩),.pointer (ab ⟨s.heap.size,0,aa⟩)] D hn (enters_of func83 (by kernel_rfl) rfl) d0.out d3.out).mono ?_;rintro e w8 ⟨rfl,d6,b3⟩)
    go_ret
    have N:YW h d i d=h i:=if_pos rfl
    refine ⟨b8.out.trans (zO b3 (b4 i G)),aB ⟨rfl,i,YW h d i,b5,G,Z.out,fun y d7=>by rw [oI];exact b4 _ (pN L G d7),?_⟩⟩
    refine Zv.congr (b1.out.change (v:=fun l=>Gf.mul (Gf.inv (f i c)) (f i l)) L (by rw [N];exact b3) (by rw [N];exact d6)) (fun y j=>?_)
    unfold j7 YW
    by_cases e:y=d
    ·rw [if_pos e,if_pos e]
    ·by_cases W:y=i
     ·rw [if_neg e,if_neg e,if_neg e,if_pos W,if_pos W]
     ·rw [if_neg e,if_neg e,if_neg e,if_neg W,if_neg W]
  ·have d8:i=r:=by omega
   subst d8
   go_wp2
   go_ret
   exact ⟨ZP H.out,Or.inl ⟨rfl,H0.out,J.out⟩⟩
theorem RU (f h o s g z A n r j d t x y:Nat) (w:World) (H:w.cell? ⟨f,0,aa⟩=ab (.slice (ab ⟨g,0,aa⟩) n n)) (I:w.cell? ⟨h,0,aa⟩=ab (.int .u8 (t:Int))) (J:w.cell? ⟨o,0,aa⟩=ab (.slice (ab ⟨z,0,aa⟩) r r)) (K:w.cell? ⟨s,0,aa⟩=ab (.int .i64 (d:Int)))
 (L:w.cell? ⟨z,d,aa⟩=ab (.slice (ab ⟨A,0,aa⟩) n n)) (M:w.cell? ⟨g,j,aa⟩=ab (.int .u8 (x:Int))) (N:w.cell? ⟨A,j,aa⟩=ab (.int .u8 (y:Int))) (O:j < n) (Q:d < r) (lt:t < 256) (E:x < 256) (G:y < 256) :
 al prog 84 #[.int .i64 (j:Int),.pointer (ab ⟨f,0,aa⟩),.pointer (ab ⟨h,0,aa⟩),.pointer (ab ⟨o,0,aa⟩),.pointer (ab ⟨s,0,aa⟩)] w fun e B=>e=.returned (.int .u8 ((x ^^^ Gf.mul t y:Nat):Int))/\ae w.heap.size w B:=by
 have D:=Gf.aV lt y
 go_enter func84,ntmps84
 go_wp2
 go_quiet ((first | (go_at_call 61;exact ao (k1 t y _ lt G)) | (go_at_call 69;exact ao (oC x (Gf.mul t y) _ E D))))
 go_wp2
 go_ret
 exact ⟨rfl,av (ag _ _) _⟩
theorem JpO (S:Nat->Prop) (B y:Nat) (s:Nat->Nat) (r n d c:Nat) (f:Nat->Nat->Nat) (w:World) (hr:r<=1000) (hn:n<=1000) (T:d < r) (hc:c < n) (U:∀ i j,f i j < 256) (hG:Zv w B y s r n f) (b2:∀ i,i < r->S (s i)) (b3:∀ k,S k->k < w.heap.size) (d7:S y) :
 al prog 67 #[.slice (ab ⟨y,0,aa⟩) r r,.int .i64 (d:Int),.int .i64 (c:Int)] w fun e w'=>e=.returned (.tuple #[])/\ZI S w w'/\Zv w' B y s r n (QH f d c):=by
 have HG:Hid (Zv w B y s r n f):=hG
 have a2:Hid (∀ k,S k->k < w.heap.size):=b3
 clear hG b3
 go_enter func67,ntmps67
 go_wp2
 obtain ⟨A,H⟩:∃ A,A=(w.alloc (.cells #[.slice (ab ⟨y,0,aa⟩) r r] 23)).alloc (.cells #[.int .i64 (d:Int)] 3):=⟨_,rfl⟩
 rw [<- H]
 have V:Hid (ae w.heap.size w A):=by
  show ae _ _ _
  rw [H]
  exact ((ag _ _).alloc (ah _) _).alloc (by simp) _
 have d8:A.heap.size=w.heap.size+2:=by rw [H];simp
 have a3:Hid (A.cell? ⟨w.heap.size,0,aa⟩=ab (.slice (ab ⟨y,0,aa⟩) r r)):=by
  show _=_
  rw [H,aj _ _ _ (by simp),af _ _ _ _ rfl]
  rfl
 have a4:Hid (A.cell? ⟨w.heap.size+1,0,aa⟩=ab (.int .i64 (d:Int))):=by
  show _=_
  rw [H,af _ _ _ _ (by simp)]
  rfl
 clear H
 go_loopw [11] (fun x wr=>∃ k:Nat,k<=r/\x=.int .i64 k/\Zv wr B y s r n (fun i j=>if i < k then QH f d c i j else f i j)/\ZI S w wr/\w.heap.size+2<=wr.heap.size/\wr.cell? ⟨w.heap.size,0,aa⟩=ab (.slice (ab ⟨y,0,aa⟩) r r)/\wr.cell? ⟨w.heap.size+1,0,aa⟩=ab (.int .i64 (d:Int))) (fun x _=>r - (intOf x).toNat)
 case atStart=>exact ⟨0,by omega,rfl,by simpa using HG.out.below V.out,ZP V.out,by omega,a3.out,a4.out⟩
 case round =>
  obtain ⟨k,hk,rfl,a5,a6,d9,a7,W⟩:=hrel
  obtain ⟨t,rfl⟩:∃ t,t=wr:=⟨_,rfl⟩
  have D:Hid (Zv t B y s r n (fun i j=>if i < k then QH f d c i j else f i j)):=a5
  have Y:Hid (ZI S w t):=a6
  have a8:Hid (t.cell? ⟨w.heap.size,0,aa⟩=ab (.slice (ab ⟨y,0,aa⟩) r r)):=a7
  clear a5 a6 V a3 a4 a7
  by_cases E:k < r
  ·have c1:t.cell? ⟨y,k,aa⟩=ab (.slice (ab ⟨s k,0,aa⟩) n n):=D.out.rows.cell k E
   have e1:(t.alloc (.cells #[.slice (ab ⟨s k,0,aa⟩) n n] 32)).cell? ⟨w.heap.size+1,0,aa⟩=ab (.int .i64 (d:Int)):=(aj _ _ _ (by show w.heap.size+1 < _;omega)).trans W
   by_cases Q:k=d
   ·have ht:((k:Int) != (d:Int))=false:=by simp;omega
    have Z:Hid (∀ i j,(if i < k then QH f d c i j else f i j)=if i < k+1 then QH f d c i j else f i j):=fun i j=>by
     by_cases e:i < k
     ·rw [if_pos e,if_pos (by omega)]
     ·by_cases e':i=k
      ·rw [if_neg e,if_pos (by omega)]
       unfold QH
       rw [if_pos (by omega)]
      ·rw [if_neg e,if_neg (by omega)]
    clear Q
    go_wp2
    have I:ae t.heap.size t (t.alloc (.cells #[.slice (ab ⟨s k,0,aa⟩) n n] 32)):=(ag _ _).alloc (ah _) _
    go_roundw
    case rel=>exact ⟨k+1,by omega,by go_num,Zv.congr (D.out.below I) Z.out,Y.out.trans (ZP I),by simp;omega,(I.cell (p:=⟨w.heap.size,0,aa⟩) (by show w.heap.size < _;omega)).trans a8.out,(I.cell (p:=⟨w.heap.size+1,0,aa⟩) (by show w.heap.size+1 < _;omega)).trans W⟩
    case measure=>simp [intOf];omega
   ·have ht:((k:Int) != (d:Int))=true:=by simp;omega
    have e2:Hid (k≠d):=Q
    have fk:(fun j=>if k < k then QH f d c k j else f k j)=f k:=funext fun j=>if_neg (ak _)
    have fd:∀ j,(if d < k then QH f d c d j else f d j)=f d j:=fun j=>by
     by_cases e:d < k
     ·rw [if_pos e];unfold QH;rw [if_pos rfl]
     ·rw [if_neg e]
    have c2:t.cell? ⟨s k,c,aa⟩=ab (.int .u8 ((f k c:Nat):Int)):=by
     have:=D.out.all.row k E
     rw [fk] at this
     rw [this.cell c hc (Jf _ _),Yq _ _ c hc]
    have c3:(t.alloc (.cells #[.slice (ab ⟨s k,0,aa⟩) n n] 32)).cell? ⟨s k,c,aa⟩=ab (.int .u8 ((f k c:Nat):Int)):=(aj _ _ _ (Qf c2)).trans c2
    have lt:=U k c
    have e3:s k < w.heap.size:=a2.out _ (b2 k E)
    have e4:y < w.heap.size:=a2.out _ d7
    obtain ⟨z,J⟩:∃ z,z=(t.alloc (.cells #[.slice (ab ⟨s k,0,aa⟩) n n] 32)).alloc (.cells #[.int .u8 ((f k c:Nat):Int)] 5):=⟨_,rfl⟩
    have M:ae t.heap.size t z:=by rw [J];exact ((ag _ _).alloc (ah _) _).alloc (by simp) _
    have e5:z.heap.size=t.heap.size+2:=by rw [J];simp
    have a9:z.cell? ⟨t.heap.size,0,aa⟩=ab (.slice (ab ⟨s k,0,aa⟩) n n):=by rw [J,aj _ _ _ (by simp),af _ _ _ _ rfl];rfl
    have b1:z.cell? ⟨t.heap.size+1,0,aa⟩=ab (.int .u8 ((f k c:Nat):Int)):=by rw [J,af _ _ _ _ (by simp)];rfl
    have a0:z.cell? ⟨w.heap.size,0,aa⟩=ab (.slice (ab ⟨y,0,aa⟩) r r):=(M.cell (p:=⟨w.heap.size,0,aa⟩) (by show w.heap.size < _;omega)).trans a8.out
    have a1:z.cell? ⟨w.heap.size+1,0,aa⟩=ab (.int .i64 (d:Int)):=(M.cell (p:=⟨w.heap.size+1,0,aa⟩) (by show w.heap.size+1 < _;omega)).trans W
    have K:Hid (Zv z B y s r n (fun i j=>if i < k then QH f d c i j else f i j)):=D.out.below M
    have b4:Hid (ZI S w z):=Y.out.trans (ZP M)
    have b5:Hid (Zo z B 5 (s k) n (Qi n (f k))):=by have:=K.out.all.row k E;rw [fk] at this;exact this
    have b6:s k≠y:=K.out.all.ne k E
    have b7:s d≠s k:=fun e=>Q (K.out.all.inj d k T E e).symm
    have b8:Hid (∀ j,j < n->∀ G,z.grownBy G (ab (s k))->Zo G B 5 (s k) n (Qi n (fun l=>if l < j then f k l ^^^ Gf.mul (f k c) (f d l) else f k l)) ->
     al prog 84 (#[.int .i64 (j:Int)] ++ #[.pointer (ab ⟨t.heap.size,0,aa⟩),.pointer (ab ⟨t.heap.size+1,0,aa⟩),.pointer (ab ⟨w.heap.size,0,aa⟩),.pointer (ab ⟨w.heap.size+1,0,aa⟩)]) G fun e A=>e=.returned (.int .u8 ((f k j ^^^ Gf.mul (f k c) (f d j):Nat):Int))/\ae G.heap.size G A):=by
     intro j N G d0 d1
     have L:∀ {b o:Nat} {v:am},z.cell? ⟨b,o,aa⟩=ab v->b≠s k->G.cell? ⟨b,o,aa⟩=ab v:=fun {b o v} h I=>d0.cell h (by show ab b≠_;intro e;exact I (ac e))
     refine RU t.heap.size (t.heap.size+1) w.heap.size (w.heap.size+1) (s k) y (s d) n r j d (f k c) (f k j) (f d j) G (L a9 (by omega)) (L b1 (by omega)) (L a0 (by omega)) (L a1 (by omega)) (L (K.out.rows.cell d T) (fun e=>b6 e.symm)) ?_ (L ?_ b7) N T lt (U k j) (U d j)
     ·rw [d1.cell j N (Jf _ _),Yq _ _ j N,if_neg (ak _)]
     ·rw [(K.out.all.row d T).cell j N (Jf _ _),Yq _ _ j N,fd j]
    have d2:Hid (z=(t.alloc (.cells #[.slice (ab ⟨s k,0,aa⟩) n n] 32)).alloc (.cells #[.int .u8 ((f k c:Nat):Int)] 5)):=J
    have Z:Hid (∀ i j,(if i=k then fun l=>f k l ^^^ Gf.mul (f k c) (f d l) else fun j=>if i < k then QH f d c i j else f i j) j=if i < k+1 then QH f d c i j else f i j):=fun i j=>by
     by_cases e:i=k
     ·rw [if_pos e,if_pos (by omega)]
      unfold QH
      rw [if_neg (by omega),e]
     ·rw [if_neg e]
      by_cases e':i < k
      ·rw [if_pos (by omega:i < k+1)];exact if_pos e'
      ·rw [if_neg (by omega:¬ i < k+1)];exact if_neg e'
    have d3:Hid (z.cell? ⟨w.heap.size,0,aa⟩=ab (.slice (ab ⟨y,0,aa⟩) r r)):=a0
    have d4:Hid (z.cell? ⟨w.heap.size+1,0,aa⟩=ab (.int .i64 (d:Int))):=a1
    clear J M a9 b1 a0 a1 fk fd Q U
    go_wp2_with (go_at_call 54;rw [<- d2.out];refine (zL (s k) n B (f k) (fun l=>f k l ^^^ Gf.mul (f k c) (f d l)) 84 #[.pointer (ab ⟨t.heap.size,0,aa⟩),.pointer (ab ⟨t.heap.size+1,0,aa⟩),.pointer (ab ⟨w.heap.size,0,aa⟩),.pointer (ab ⟨w.heap.size+1,0,aa⟩)] z hn (enters_of func84 (by kernel_rfl) rfl) b5.out b8.out).mono ?_;rintro e w8 ⟨rfl,d5,O⟩)
    go_roundw
    case rel =>
     refine ⟨k+1,by omega,by go_num,Zv.congr (K.out.change E O d5) Z.out,b4.out.trans (zO O (b2 k E)),by have:=O.size;omega,O.cell d3.out (by show ab w.heap.size≠_;intro e;have:=ac e;omega),O.cell d4.out (by show ab (w.heap.size+1)≠_;intro e;have:=ac e;omega)⟩
    case measure=>simp [intOf];omega
  ·have d6:k=r:=by omega
   subst d6
   go_wp2
   go_end0
   refine ⟨rfl,Y.out,⟨D.out.rows,fun i hi=>?_,D.out.all.ne,D.out.all.inj⟩⟩
   have:=D.out.all.row i hi
   rw [show (fun j=>if i < k then QH f d c i j else f i j)=QH f d c i from funext fun j=>if_pos hi] at this
   exact this
theorem VN (h:∀ i j,g i j < 256) (d p k i j:Nat):Qm (j7 g d p k i j)=Lin.aZ (fun i j=>Qm (g i j)) d p k i j:=by
 have o:Qm (Gf.inv (g p k))=Lin.iv (Qm (g p k)):=Fin.ext (by
  show (Qm (Gf.inv (g p k))).1=Gf.inv (Qm (g p k)).1
  rw [YY (Gf.cQ _),YY (h p k)])
 unfold j7 Lin.aZ
 by_cases e:i=d
 ·rw [if_pos e,if_pos e,oU (Gf.cQ _) (h _ _),o]
 ·by_cases f:i=p
  ·rw [if_neg e,if_neg e,if_pos f,if_pos f]
  ·rw [if_neg e,if_neg e,if_neg f,if_neg f]
theorem JpP (h:∀ i j,g i j < 256) (d k i j:Nat):Qm (QH g d k i j)=Lin.bE (fun i j=>Qm (g i j)) d k i j:=by
 unfold QH Lin.bE
 by_cases e:i=d
 ·rw [if_pos e,if_pos e]
 ·rw [if_neg e,if_neg e,qW (h _ _) (Gf.aV (h _ _) _),oU (h _ _) (h _ _)]
def Ym (f:Nat->Nat->Nat):Nat->Nat->Lin.F:=fun i j=>Qm (f i j)
theorem TJ (h:∀ i j,g i j < 256) (d p k:Nat):Ym (QH (j7 g d p k) d k)=Lin.bE (Lin.aZ (Ym g) d p k) d k:=by
 have f:Ym (j7 g d p k)=Lin.aZ (Ym g) d p k:=funext fun i=>funext fun j=>VN h d p k i j
 rw [<- f]
 exact funext fun i=>funext fun j=>JpP (fun i j=>yD h d p k i j) d k i j
theorem JnT (S:Nat->Prop) (B s:Nat) (H:Nat->Nat) (r n c:Nat) (f:Nat->Nat->Nat) (z:Addr) (w:World) (hr:r<=1000) (hn:n<=1000) (hc:c<=n) (hf:∀ i j,f i j < 256) (hG:Zv w B s H r n f) (a3:S s) (b4:∀ i,i < r->S (H i)) (a4:∀ k,S k->B<=k/\k < w.heap.size) (b5:2 < B)
 (hz:w.cell? ⟨2,0,aa⟩=ab (.iface 136 (.pointer (ab z)))) :
 al prog 37 #[.slice (ab ⟨s,0,aa⟩) r r,.int .i64 (c:Int)] w fun e w'=>ZI S w w'/\∃ (d:Nat) (o:Nat->Nat) (g:Nat->Nat->Nat),e=.returned (.int .i64 (d:Int))/\Zv w' B s o r n g/\(∀ i j,g i j < 256)/\Lin.eO r n c (Ym f) (Ym g) d:=by
 have HG:Hid (Zv w B s H r n f):=hG
 have L:Hid (∀ k,S k->B<=k/\k < w.heap.size):=a4
 have M:Hid (w.cell? ⟨2,0,aa⟩=ab (.iface 136 (.pointer (ab z)))):=hz
 clear hG a4 hz
 go_enter func37,ntmps37
 go_wp2
 go_loopw [5,8] (fun y x wr=>∃ (k d:Nat) (o:Nat->Nat) (g:Nat->Nat->Nat),k<=c/\x=.int .i64 k/\y=.int .i64 d/\Zv wr B s o r n g/\(∀ i,i < r->S (o i))/\(∀ i j,g i j < 256)/\Lin.eO r n k (Ym f) (Ym g) d/\ZI S w wr) (fun _ x _=>c - (intOf x).toNat)
 case atStart=>exact ⟨0,0,H,f,by omega,rfl,rfl,HG.out,b4,hf,Lin.eO.start _ _ _,ZP (ag _ _)⟩
 case round =>
  obtain ⟨k,d,o,g,hk,rfl,rfl,N,O,Q,I,T⟩:=hrel
  obtain ⟨A,rfl⟩:∃ A,A=wr:=⟨_,rfl⟩
  have U:Hid (Zv A B s o r n g):=N
  have V:Hid (∀ i,i < r->S (o i)):=O
  have t:Hid (∀ i j,g i j < 256):=Q
  have J:Hid (Lin.eO r n k (Ym f) (Ym g) d):=I
  have D:Hid (ZI S w A):=T
  have a5:d<=r:=I.le
  clear N O Q I T
  by_cases b6:k < c
  ·have W:Hid (A.cell? ⟨2,0,aa⟩=ab (.iface 136 (.pointer (ab z)))):=D.out.cell M.out (fun hs=>by have:=(L.out _ hs).1;omega)
   go_wp2_with (go_at_call 66;refine (H5 S B s o r n d k g z _ hr hn a5 (by omega) t.out U.out a3 V.out b5 W.out).mono ?_;rintro e Y ⟨K,⟨rfl,h0,E⟩ | ⟨rfl,p,G,a6,a7,Z,a0,E⟩⟩)
   ·go_roundw
    case rel=>exact ⟨k+1,d,o,g,by omega,by go_num,rfl,E,V.out,t.out,J.out.skip (fun i h1 h2=>by show Qm (g i k)=0;rw [h0 i h1 h2];rfl),D.out.trans K⟩
    case measure=>simp [intOf];omega
   ·have a1:Hid (ZI S A Y):=K
    have a2:Hid (∀ i,i < r->S (G i)):=a0
    have a8:Hid (Zv Y B s G r n (j7 g d p k)):=E
    have a9:Hid (g p k≠0):=Z
    clear K a0 E Z W M
    go_wp2_with (go_at_call 67;refine (JpO S B s G r n d k (j7 g d p k) _ hr hn (by omega) (by omega) (fun i j=>yD t.out d p k i j) a8.out a2.out (fun q hq=>aq (L.out q hq).2 (aw D.out.size a1.out.size)) a3).mono ?_;rintro e w5 ⟨rfl,b1,b2⟩)
    go_roundw
    case rel =>
     refine ⟨k+1,d+1,G,QH (j7 g d p k) d k,by omega,by go_num,by go_num,b2,a2.out,fun i j=>WL (fun i j=>yD t.out d p k i j) d k i j,?_,D.out.trans (a1.out.trans b1)⟩
     rw [TJ t.out]
     exact J.out.step a6 a7 (fun h=>a9.out ((AP (t.out p k)).1 h))
    case measure=>simp [intOf];omega
  ·have b3:k=c:=by omega
   subst b3
   go_wp2
   go_ret
   exact ⟨D.out,d,o,g,rfl,U.out,t.out,J.out⟩
theorem AF {A B:List (List Nat)} (d:QR A) (f:QR B) (i j:Nat):∀ k,Qm (jM A B i j k)=Lin.aL k (fun t=>Lin.mu (Qk A i t) (Qk B t j))
 | 0=>rfl
 | k+1=>by
  show Qm (jM A B i j k ^^^ Gf.mul (Gf.nth (Qh A i) k) (Gf.nth (Qh B k) j))=Lin.ad _ _
  rw [qW (o8 A B d i j k) (Gf.aV (d i k) _),oU (d i k) (f k j),AF d f i j k]
  rfl
theorem zA {x y:Nat} (d:x < 256) (f:y < 256) (h:Qm x=Qm y):x=y:=by
 have:=congrArg Fin.val h
 rw [YY d,YY f] at this
 exact this
theorem Jdd {A B:List (List Nat)} (d:QR A) (f:QR B) (r i j:Nat) (h:Lin.mm r (Qk A) (Qk B) i j=Lin.one i j):jM A B i j r=if i=j then 1 else 0:=by
 refine zA (o8 A B d i j r) (by split <;> decide) ?_
 rw [AF d f]
 refine Eq.trans h ?_
 unfold Lin.one
 by_cases e:i=j
 ·rw [if_pos e,if_pos e];rfl
 ·rw [if_neg e,if_neg e];rfl
theorem J6  (h:∀ i j,f i j < 256):QR (XB r n f):=fun i=>by
 by_cases d:i < r
 ·rw [XD r n f i d];exact XL _ _ (h i)
 ·intro j
  have:Qh (XB r n f) i=[]:=by unfold Qh;rw [List.getD_eq_getElem?_getD,List.getElem?_eq_none (by rw [Zs];omega)];rfl
  rw [this]
  show ([]:List Nat).getD j 0 < 256
  simp
theorem uN  {j:Nat} (d:i < r) (h:j < n):Qk (XB r n f) i j=Ym f i j:=by
 unfold Qk Ym
 rw [XD r n f i d,Yq _ _ j h]
theorem zH  (h:1<=r) (j:r<=16) (o:1<=n) (s:n<=16):jQ (XB r n f):=by
 refine ⟨by rw [Zs];exact h,by rw [Zs];exact j,fun i d=>?_⟩
 rw [Zs] at d
 rw [XD r n f i d,XD r n f 0 (by omega),Jf,Jf]
 exact ⟨o,s,rfl⟩
theorem K1 (A B:List (List Nat)) (m:Nat):xW A B m=XB m (Qh B 0).length (fun i j=>jM A B i j B.length):=rfl
theorem NT {p:Option Addr}  (h:QJ w p (XB r n f)) (K:1<=r) (L:1<=n):∃ b o,p=ab ⟨b,o,aa⟩/\∀ i,i < r->∃ s t c,w.cell? ⟨b,o+i,aa⟩=ab (.slice (ab ⟨s,t,aa⟩) n c)/\∀ j,j < n->w.cell? ⟨s,t+j,aa⟩=ab (.int .u8 ((f i j:Nat):Int)):=by
 have y:∀ i,i < r->(Qh (XB r n f) i).length=n:=fun i d=>by rw [XD r n f i d,Jf]
 obtain ⟨b,o,_,_,_,A,_,_,_,_⟩:=h.row (i:=0) (by rw [Zs];omega) (by rw [y 0 (by omega)];omega)
 refine ⟨b,o,A,fun i d=>?_⟩
 obtain ⟨I,J,s,t,c,z,_,_,B,E⟩:=h.row (i:=i) (by rw [Zs];omega) (by rw [y i d];omega)
 rw [A] at z
 injection z with z
 injection z with G H _
 subst G H
 rw [y i d] at B
 refine ⟨s,t,c,B,fun j D=>?_⟩
 rw [E j (by rw [y i d];exact D),XD r n f i d,Yq _ _ j D]
def Jl (f d:Nat->Nat->Nat) (i c:Nat):Nat->Nat
 | 0=>0
 | j+1=>Jl f d i c j ^^^ Gf.mul (f i j) (d j c)
def J7 (f d:Nat->Nat->Nat) (k h i:Nat):List Nat:=Qi h fun c=>Jl f d i c k
theorem nD {f h:Nat->Nat->Nat} (d:∀ i j,f i j < 256) (i c:Nat):∀ j,Jl f h i c j < 256
 | 0=>by show 0 < 256;decide
 | j+1=>Gf.iK (nD d i c j) (Gf.aV (d _ _) _)
theorem CR:(prog.info? 9).map (fun i=>(i.zero,i.size,i.bytes))=ab (ab (.string ⟨#[]⟩),1,16):=by kernel_rfl
theorem JcN  (h:ae B w w'):w.Since B w':=⟨h.os,h.tape,h.output,h.size,h.block⟩
theorem yN {b:Nat} {t:TypeId} {f:Nat->am} (h:w.rowIs b t n f) (d:ae w.heap.size w w'):w'.rowIs b t n f:=h.of_block (d.block _ h.lt)
def uI (w:World) (h:aG) (o:Array am) (s:Nat->Nat->Nat) (k t:Nat):Prop :=
 ∀ j c,j < k->c < t->∀ d,ae w.heap.size w d->al prog h (#[.int .i64 (j:Int),.int .i64 (c:Int)] ++ o) d fun e f=>e=.returned (.int .u8 ((s j c:Nat):Int))/\f=d
theorem F3 (p:Option Addr) (r k t g4:Nat) (f s:Nat->Nat->Nat) (G:aG) (T:Array am) (w:World) (g5:1<=r) (hr:r<=1000) (g6:1<=k) (hk:k<=1000) (g9:t<=100000)
 (hf:∀ i j,f i j < 256) (hv:∀ j c,s j c < 256) (hm:QJ w p (XB r k f)) (h0:∀ args W,ap prog (az G args) W=.ok (.enter G args) W) (hc:uI w G T s k t) :
 al prog 43 #[.slice p r g4,.int .i64 (t:Int),.func (.func G) #[] T] w fun e w'=>e=.returned (.slice (ab ⟨w.heap.size,0,aa⟩) r r)/\w'.rowIs w.heap.size 9 r (fun i=>.string (Jp (J7 f s k t i)))/\ae w.heap.size w w':=by
 obtain ⟨b,o,rfl,a6⟩:=NT hm g5 g6
 have a7:∀ i,i < r->∃ z B c,b < w.heap.size/\z < w.heap.size/\w.cell? ⟨b,o+i,aa⟩=ab (.slice (ab ⟨z,B,aa⟩) k c)/\∀ j,j < k->w.cell? ⟨z,B+j,aa⟩=ab (.int .u8 ((f i j:Nat):Int)):=fun i hi=>by
  obtain ⟨z,B,c,h1,h2⟩:=a6 i hi
  exact ⟨z,B,c,Qf h1,Qf (h2 0 (by omega)),h1,h2⟩
 have HR:Hid (∀ i,i < r->∃ z B c,b < w.heap.size/\z < w.heap.size/\w.cell? ⟨b,o+i,aa⟩=ab (.slice (ab ⟨z,B,aa⟩) k c)/\∀ j,j < k->w.cell? ⟨z,B+j,aa⟩=ab (.int .u8 ((f i j:Nat):Int))):=a7
 have HC:Hid (uI w G T s k t):=hc
 have U:Hid (∀ i j,f i j < 256):=hf
 have HV:Hid (∀ j c,s j c < 256):=hv
 obtain ⟨i0,a8,a9,b2,b3⟩:=aC KF
 obtain ⟨i1,b4,b5,b6,b7⟩:=aC CR
 have e9:∀ W:World,ap prog (Instr.makeSlice 72 (.int .i64 (r:Int)) (.int .i64 (r:Int))) W=.ok (.slice (ab ⟨W.heap.size,0,aa⟩) r r) (W.alloc (.cells (ai #[.string ⟨#[]⟩] r) 9)):=fun W=>aF (P:=prog) 72 9 i1 (.string ⟨#[]⟩) underlying72 b4 b5 b6 rfl .i64 .i64 r (by rw [b7];omega) (by omega) W
 have f0:∀ W:World,ap prog (Instr.makeSlice 32 (.int .i64 (t:Int)) (.int .i64 (t:Int))) W=.ok (.slice (ab ⟨W.heap.size,0,aa⟩) t t) (W.alloc (.cells (ai #[ZM 0] t) 5)):=fun W=>aF (P:=prog) 32 5 i0 (ZM 0) underlying32 a8 a9 b2 rfl .i64 .i64 t (by rw [b3];omega) (by omega) W
 clear hm a6 a7 hc hf hv a8 a9 b2 b3 b4 b5 b6 b7
 go_enter func43,ntmps43
 go_wp2
 have V:(w.alloc (.cells (ai #[.string ⟨#[]⟩] r) 9)).rowIs w.heap.size 9 r (fun _=>.string ⟨#[]⟩):=World.rowIs_made w _ r _
 have Y:ae w.heap.size w (w.alloc (.cells (ai #[.string ⟨#[]⟩] r) 9)):=(ag _ _).alloc (ah _) _
 generalize w.alloc (.cells (ai #[.string ⟨#[]⟩] r) 9)=w0 at V Y ⊢
 have b8:Hid (w0.rowIs w.heap.size 9 r (fun _=>.string ⟨#[]⟩)):=V
 have d0:Hid (ae w.heap.size w w0):=Y
 clear V Y
 go_loopw [19] (fun x wr=>∃ i:Nat,i<=r/\x=.int .i64 i/\wr.rowIs w.heap.size 9 r (fun q=>if q < i then .string (Jp (J7 f s k t q)) else .string ⟨#[]⟩)/\ae w.heap.size w wr) (fun x _=>r - (intOf x).toNat)
 case atStart=>exact ⟨0,by omega,rfl,b8.out.congr (fun q _=>by simp),d0.out⟩
 case round =>
  obtain ⟨i,hi,rfl,Z,hB⟩:=hrel
  obtain ⟨h,rfl⟩:∃ h,h=wr:=⟨_,rfl⟩
  have HS:Hid (h.rowIs w.heap.size 9 r (fun q=>if q < i then .string (Jp (J7 f s k t q)) else .string ⟨#[]⟩)):=Z
  have H:Hid (ae w.heap.size w h):=hB
  have g7:w.heap.size < h.heap.size:=Z.lt
  clear Z hB b8 d0
  by_cases d1:i < r
  ·obtain ⟨z,B,c1,hb,f1,d2,d3⟩:=HR.out i d1
   have HD:Hid (∀ j,j < k->w.cell? ⟨z,B+j,aa⟩=ab (.int .u8 ((f i j:Nat):Int))):=d3
   have q0:h.cell? ⟨b,o+i,aa⟩=ab (.slice (ab ⟨z,B,aa⟩) k c1):=(H.out.cell (p:=⟨b,o+i,aa⟩) hb).trans d2
   clear d3 d2
   go_wp2
   have a0:Zo (h.alloc (.cells (ai #[ZM 0] t) 5)) h.heap.size 5 h.heap.size t (Qi t (fun c=>if c < 0 then Jl f s i c k else 0)):=by
    have:=Zo.made h h.heap.size 5 t (ah _) (by omega)
    rw [YL t _ (fun c=>if c < 0 then Jl f s i c k else 0) (fun c _=>by rw [if_neg (an _)])] at this
    exact this
   have a1:ae h.heap.size h (h.alloc (.cells (ai #[ZM 0] t) 5)):=(ag _ _).alloc (ah _) _
   generalize h.alloc (.cells (ai #[ZM 0] t) 5)=w4 at a0 a1 ⊢
   have d4:Hid (Zo w4 h.heap.size 5 h.heap.size t (Qi t (fun c=>if c < 0 then Jl f s i c k else 0))):=a0
   have d5:Hid (ae h.heap.size h w4):=a1
   clear a0 a1 q0
   go_loopw [28] (fun x I=>∃ c:Nat,c<=t/\x=.int .i64 c/\Zo I h.heap.size 5 h.heap.size t (Qi t (fun d=>if d < c then Jl f s i d k else 0))/\ae h.heap.size h I) (fun x _=>t - (intOf x).toNat)
   case atStart=>exact ⟨0,by omega,rfl,d4.out,d5.out⟩
   case round =>
    obtain ⟨c,hc,rfl,d6,d7⟩:=hrel
    obtain ⟨D,rfl⟩:∃ D,D=wr:=⟨_,rfl⟩
    have N:Hid (Zo D h.heap.size 5 h.heap.size t (Qi t (fun d=>if d < c then Jl f s i d k else 0))):=d6
    have O:Hid (ae h.heap.size h D):=d7
    clear d6 d7 d4 d5
    by_cases a2:c < t
    ·go_wp2
     go_loopw [33] (fun x I=>∃ j:Nat,j<=k/\x=.int .i64 j/\Zo I h.heap.size 5 h.heap.size t (Qi t (fun d=>if d < c then Jl f s i d k else if d=c then Jl f s i c j else 0))/\ae h.heap.size h I) (fun x _=>k - (intOf x).toNat)
     case atStart =>
      refine ⟨0,by omega,rfl,?_,O.out⟩
      rw [YL t _ (fun d=>if d < c then Jl f s i d k else 0) (fun d _=>by by_cases e:d=c <;> simp [e,Jl])]
      exact N.out
     case round =>
      obtain ⟨j,g8,rfl,d8,d9⟩:=hrel
      obtain ⟨A,rfl⟩:∃ A,A=wr:=⟨_,rfl⟩
      have J:Hid (Zo A h.heap.size 5 h.heap.size t (Qi t (fun d=>if d < c then Jl f s i d k else if d=c then Jl f s i c j else 0))):=d8
      have K:Hid (ae h.heap.size h A):=d9
      clear d8 d9 N O
      by_cases e1:j < k
      ·have q2:A.cell? ⟨z,B+j,aa⟩=ab (.int .u8 ((f i j:Nat):Int)):=(K.out.cell (p:=⟨z,B+j,aa⟩) (by show z < _;omega)).trans ((H.out.cell (p:=⟨z,B+j,aa⟩) f1).trans (HD.out j e1))
       have q5:A.cell? ⟨h.heap.size,c,aa⟩=ab (.int .u8 ((Jl f s i c j:Nat):Int)):=by rw [J.out.cell c a2 (Jf _ _),Yq _ _ c a2,if_neg (ak _),if_pos rfl]
       have q6:A.frozen? ⟨h.heap.size,c,aa⟩=false:=J.out.free c
       have lx:=U.out i j
       have ly:=HV.out j c
       have ls:Jl f s i c j < 256:=nD U.out i c j
       have lm:=Gf.aV lx (s j c)
       have Q:Hid (Jl f s i c (j+1)=Jl f s i c j ^^^ Gf.mul (f i j) (s j c)):=by show _=_;rfl
       have a3:=HC.out j c e1 a2 (A.drewN 1) (av (H.out.trans (K.out.mono (by omega))) 1)
       have n2:h.heap.size≠z:=by omega
       have a4:Hid (Zo A h.heap.size 5 h.heap.size t (Qi t (fun d=>if d < c then Jl f s i d k else if d=c then Jl f s i c j else 0))):=J.out
       generalize Jl f s i c j=E at q5 ls Q a4
       generalize f i j=x at q2 lx lm Q
       generalize s j c=y at ly lm Q a3
       have e2:Hid (al prog G (#[.int .i64 (j:Int),.int .i64 (c:Int)] ++ T) (A.drewN 1) fun e w2=>e=.returned (.int .u8 ((y:Nat):Int))/\w2=A.drewN 1):=a3
       clear a3
       go_wp2
       refine wp_region_still_tail 14 (by kernel_rfl) (by kernel_rfl) ?_
       simp only [List.take_succ_cons,List.take_zero,List.drop_succ_cons,List.drop_zero]
       repeat still_step
       still_call (e2.out)
       still_call (k1 x y _ lx ly)
       still_call (oC E (Gf.mul x y) _ ls lm)
       repeat still_step
       refine wpStill_nil ?_
       have e3:Hid (Zo (A.drewN 1) h.heap.size 5 h.heap.size t (Qi t (fun d=>if d < c then Jl f s i d k else if d=c then E else 0))):=a4.out.drewN 1
       have e4:Hid (ae h.heap.size h (A.drewN 1)):=av K.out 1
       have f2:(A.drewN 1).cell? ⟨h.heap.size,c,aa⟩=ab (.int .u8 (E:Int)):=q5
       have f3:(A.drewN 1).frozen? ⟨h.heap.size,c,aa⟩=false:=q6
       change wpList _ _ _ _ _ (A.drewN 1)
       generalize A.drewN 1=w7 at e3 e4 f2 f3 ⊢
       clear q2 q5 q6 J a4 K e2
       go_wp2
       go_roundw
       case rel =>
        refine ⟨j+1,by omega,by go_num,?_,e4.out.setCell (ah _) _⟩
        have:=e3.out.set c (E ^^^ Gf.mul x y)
        rw [YL t (fun d=>if d < c then Jl f s i d k else if d=c then Jl f s i c (j+1) else 0) (fun d=>if d=c then E ^^^ Gf.mul x y else if d < c then Jl f s i d k else if d=c then E else 0) (fun d _=>by
         by_cases e:d=c
         ·subst e;rw [if_neg (ak _),if_pos rfl,if_pos rfl,Q.out]
         ·rw [if_neg e,if_neg e,if_neg e])]
        exact this
       case measure=>simp [intOf];omega
      ·have f4:j=k:=by omega
       subst f4
       go_wp2
       go_roundw
       case rel =>
        refine ⟨c+1,by omega,by go_num,?_,K.out⟩
        rw [YL t _ (fun d=>if d < c then Jl f s i d j else if d=c then Jl f s i c j else 0) (fun d _=>by
         by_cases e:d < c
         ·rw [if_pos (by omega),if_pos e]
         ·by_cases L:d=c
          ·subst L;rw [if_pos (by omega),if_neg e,if_pos rfl]
          ·rw [if_neg (by omega),if_neg e,if_neg L])]
        exact J.out
       case measure=>simp [intOf];omega
    ·have f5:c=t:=by omega
     subst f5
     have a5:Zo D h.heap.size 5 h.heap.size c (J7 f s k c i):=by
      unfold J7
      rw [YL c _ (fun d=>if d < c then Jl f s i d k else 0) (fun d M=>by rw [if_pos M])]
      exact N.out
     have f6:ap prog (convert 32 9 (.slice (ab ⟨h.heap.size,0,aa⟩) c c)) D=.ok (.string (Jp (J7 f s k c i))) D:=by
      have f7:jU D (ab ⟨h.heap.size,0,aa⟩) (J7 f s k c i):=⟨XL _ _ (fun d=>nD U.out _ _ _),aB ⟨h.heap.size,0,rfl,a5.lt.2,fun d M=>by
       have f8:d < c:=by unfold J7 at M;rw [Jf] at M;exact M
       rw [aD]
       exact a5.cell d f8 (Jf _ _)⟩⟩
      have:=WU f7 c
      rw [show (J7 f s k c i).length=c from Jf _ _] at this
      exact this
     have S:=yN HS.out O.out
     have qs:D.cell? ⟨w.heap.size,i,aa⟩=ab (.string ⟨#[]⟩):=by rw [S.cell d1,if_neg (ak _)]
     have qf:D.frozen? ⟨w.heap.size,i,aa⟩=false:=S.frozen i
     have f9:Hid (D.rowIs w.heap.size 9 r (fun q=>if q < i then .string (Jp (J7 f s k c q)) else .string ⟨#[]⟩)):=S
     have g0:Hid (ae w.heap.size w D):=H.out.trans (O.out.mono (by omega))
     clear a5 N S e9 f0
     have g1:Hid (Jp (J7 f s k c i)=Jp (J7 f s k c i)):=by show _=_;rfl
     generalize e5:Jp (J7 f s k c i)=st at f6
     have g2:Hid (Jp (J7 f s k c i)=st):=e5
     clear e5 g1
     go_wp2
     go_roundw
     case rel =>
      refine ⟨i+1,by omega,by go_num,(f9.out.set i _).congr (fun q _=>?_),g0.out.setCell (ah _) _⟩
      by_cases e:q=i
      ·rw [if_pos e,if_pos (by omega),e,g2.out]
      ·rw [if_neg e]
       by_cases L:q < i
       ·rw [if_pos L,if_pos (by omega)]
       ·rw [if_neg L,if_neg (by omega)]
     case measure=>simp [intOf];omega
  ·have g3:i=r:=by omega
   subst g3
   go_wp2
   go_ret
   exact ⟨rfl,HS.out.congr (fun q hq=>by rw [if_pos hq]),H.out⟩
theorem ND:∀ j,0 < j->Gf.bZ 0 j=0
 | 0,h=>absurd h (ak _)
 | j+1,_=>by
  show Gf.mul _ _=0
  first | exact Gf.mul_zero _ | exact Gf.zero_mul _
theorem WV (j:Nat) (h:j < 255):red (j:Int)=j:=by unfold red;omega
theorem TB (i j:Nat) (w:World) (d:i < 256) (t:j < 255) :
 al prog 29 #[.int .u8 (i:Int),.int .i64 (j:Int)] w fun e w'=>e=.returned (.tuple #[.int .u8 ((Gf.bZ i j:Nat):Int),.nilIface])/\w'=w:=by
 by_cases h:i=0/\0 < j
 ·obtain ⟨rfl,f⟩:=h
  rw [ND j f]
  exact LQ (j:Int) w (by omega)
 ·have := H2 i (j : Int) w d (fun o => by
   by_cases s:0 < j
   ·exact absurd ⟨o,s⟩ h
   ·omega)
  rw [WV j t,Gf.iG i j d (by omega)] at this
  exact this
theorem JlI (i j:Nat) (w:World) (f:i < 256) (h:j < 255) :
 al prog 28 #[.int .i64 (i:Int),.int .i64 (j:Int)] w fun e w'=>e=.returned (.int .u8 ((Gf.bZ i j:Nat):Int))/\ae w.heap.size w w':=by
 have d:=TB i j w f h
 go_enter func28,ntmps28
 go_wp2_with (go_at_call 29;refine d.mono ?_;rintro e w' ⟨rfl,rfl⟩)
 go_ret
 exact ⟨rfl,ag _ _⟩
theorem K0 (n k:Nat) (w:World) (G:1<=k) (H:k<=n) (I:n<=12) :
 al prog 10 #[.int .i64 (n:Int),.int .i64 (k:Int)] w fun e w'=>(∃ d f,e=.returned (.tuple #[.slice (ab ⟨d,0,aa⟩) n n,.nilIface])/\Zv w' w.heap.size d f n k Gf.bZ)/\ae w.heap.size w w':=by
 have y:=tP n k Gf.bZ 28 #[] w (by omega) (by omega) (enters_of func28 (by kernel_rfl) rfl) (fun i j D E o _=>JlI i j o (by omega) (by omega))
 have s:Hid (al prog 26 #[.int .i64 (n:Int),.int .i64 (k:Int)] w fun e w'=>e=.returned (.bool true)/\w'=w):=by
  have h:=xC (n:Int) (k:Int) w
  rw [decide_eq_true (show (1:Int)<=(k:Int)/\(k:Int)<=(n:Int)/\(n:Int)<=12 by omega)] at h
  exact h
 go_enter func10,ntmps10
 go_wp2_with fail
 refine s.out.mono ?_
 rintro e z ⟨rfl,t⟩
 rw [t]
 clear t z s
 go_wp2_with (go_at_call 27;refine y.mono ?_;rintro e o ⟨⟨d,f,rfl,A⟩,B⟩)
 go_ret2
 exact ⟨⟨d,f,rfl,A⟩,B⟩
theorem JbI (n k:Int) (z:Addr) (w:World) (h:¬ (1<=k/\k<=n/\n<=12)) (s:w.cell? ⟨0,0,aa⟩=ab (.iface 136 (.pointer (ab z)))) :
 al prog 10 #[.int .i64 n,.int .i64 k] w fun e w'=>e=.returned (.tuple #[.slice aa 0 0,.iface 136 (.pointer (ab z))])/\ae w.heap.size w w':=by
 have d:Hid (al prog 26 #[.int .i64 n,.int .i64 k] w fun e w'=>e=.returned (.bool false)/\w'=w):=by
  have f:=xC n k w
  rw [decide_eq_false h] at f
  exact f
 clear h
 go_enter func10,ntmps10
 go_wp2_with fail
 refine d.out.mono ?_
 rintro e o ⟨rfl,j⟩
 rw [j]
 clear j o d
 go_wp2
 go_quiet (fail)
 go_wp2
 go_ret2
 exact ⟨rfl,av (ag _ _) _⟩
end Go.Proofs.YtaaahibncffcmaaDoor

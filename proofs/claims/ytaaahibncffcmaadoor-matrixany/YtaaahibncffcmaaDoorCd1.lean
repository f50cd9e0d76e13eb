/- Texts laid together. -/
import Derived.Test.YtaaahibncffcmaaDoorCd0
import Derived.Laws.BitsAllLaws
import Derived.Laws.BitsLemmas
import Derived.WalkSmall
import Derived.Laws.AppendOwn
import Derived.Laws.AppendOwnNone
import Derived.RegionTactic
import Derived.BigRegion
import Derived.Shelf.Abstract
import Derived.Deep.QuietTactic
import Derived.BigQuiet
set_option maxRecDepth 10000
set_option maxHeartbeats 4000000
open Option renaming some->aa,none->ab
open Option.some renaming inj->ac
open Go.RowKit renaming Below->ae
open Go renaming Calls->af,madeCells->ah,toList_madeCells_one->ai,Value->aj,TypeId->aF,callFunc->za,below_drewN->aM,FuncId->bk,Addr->bl
open Go.RowKit.Below renaming refl->ag
open Go.World.ownsRow renaming kept->ak,lt->ap,frozenAt->ar,stored->av,cellAt->aw,cells->az
open Nat renaming not_lt_zero->al,mod_two_eq_zero_or_one->am,lt_of_lt_of_le->an,le_refl->au,lt_irrefl->aA,lt_of_le_of_lt->aB,zero_add->aG,div_le_self->aO,mul_le_mul->aR
open List renaming getElem?_map->ao,getElem?_range->ay,range->aC,mem_singleton->aD,map_const'->aP,length->zg
open Or renaming inr->aq,inl->bd
namespace Go.Proofs.YtaaahibncffcmaaDoor
open Go.Proofs.Tryd
open Go.RowKit
variable {k B g n i d r:Nat}{w w':World}{p:Option bl}{l:List Nat}{M:List (List Nat)}{e E:aF}{v:aj}{f:Nat->aj}{j:Nat->Nat}
theorem l4 {k:IntKind} {a b:Int} (h:a=b):Ending.returned (.int k a)=.returned (.int k b):=by rw [h]
theorem sB {a b:Bool} (h:a=b):Ending.returned (.bool a)=.returned (.bool b):=by rw [h]
theorem n0 (b k:Nat) (o:b < 256):(bits BinOp.and IntKind.u8 ((b:Int) / 2 ^ k) 1==1)=decide (Gf.bT b k=1):=by
 have d:((b:Int) / 2 ^ k)=((b / 2 ^ k:Nat):Int):=by simp
 have f:b / 2 ^ k < 256:=aB (aO _ _) o
 have j:bits BinOp.and IntKind.u8 ((b / 2 ^ k:Nat):Int) 1=((b / 2 ^ k % 2:Nat):Int):=by
  have:=u8_and_nat (b / 2 ^ k) 1 f (by decide)
  rw [Nat.and_one_is_mod] at this
  exact this
 rw [d,j]
 unfold Gf.bT
 rcases am (b / 2 ^ k) with h | h <;> rw [h] <;> rfl
theorem e5 (b k:Nat) (o:b < 256):(bits BinOp.and IntKind.i64 ((b:Int) / 2 ^ k) 1==1)=decide (Gf.bT b k=1):=by
 have d:((b:Int) / 2 ^ k)=((b / 2 ^ k:Nat):Int):=by simp
 have f:b / 2 ^ k < 256:=aB (aO _ _) o
 have j:bits BinOp.and IntKind.i64 ((b / 2 ^ k:Nat):Int) 1=((b / 2 ^ k % 2:Nat):Int):=by
  have:=bits_mask IntKind.i64 8 (by decide) (fun n r d=>by rw [IntKind.wrap_i64];omega) 1 (by decide) ((b / 2 ^ k:Nat):Int) (Int.natCast_nonneg _) (by exact_mod_cast f)
  rw [show ((2:Int) ^ 1 - 1)=1 from rfl] at this
  rw [this]
  rfl
 rw [d,j]
 unfold Gf.bT
 rcases am (b / 2 ^ k) with h | h <;> rw [h] <;> rfl
def Qo (n:Int):Nat:=(n % 255).toNat
theorem M4 (n:Int):((Qo n:Nat):Int)=n % 255:=by unfold Qo;omega
theorem UP (n:Int):Qo n < 255:=by unfold Qo;omega
theorem hQ (n:Int):n.tmod 255=-((-n).tmod 255):=by rw [Int.neg_tmod,Int.neg_neg]
structure jU (w:World) (p:Option bl) (l:List Nat):Prop where
 lt:Gf.Bytes l
 cells:l=[]∨∃ b o,p=aa ⟨b,o,ab⟩/\b < w.heap.size/\∀ i,i < l.length->w.cell? ⟨b,o+i,ab⟩=aa (.int .u8 ((Gf.nth l i:Nat):Int))
theorem jU.below  (h:jU w p l) (f:ae w.heap.size w w'):jU w' p l:=by
 refine ⟨h.lt,?_⟩
 rcases h.cells with h | ⟨b,o,j,d,k⟩
 ·exact bd h
 ·exact aq ⟨b,o,j,an d f.size,fun i r=>(f.cell (p:=⟨b,o+i,ab⟩) d).trans (k i r)⟩
def QJ (w:World) (p:Option bl) (M:List (List Nat)):Prop :=
 M=[]∨∃ b o,p=aa ⟨b,o,ab⟩/\b < w.heap.size/\∀ i,i < M.length->∃ q c,w.cell? ⟨b,o+i,ab⟩=aa (.slice q (Qh M i).length c)/\jU w q (Qh M i)/\(q=ab->c=0)
theorem QJ.below  (h:QJ w p M) (d:ae w.heap.size w w'):QJ w' p M:=by
 rcases h with h | ⟨b,o,k,f,r⟩
 ·exact bd h
 ·refine aq ⟨b,o,k,an f d.size,fun i s=>?_⟩
  obtain ⟨q,c,t,j⟩:=r i s
  exact ⟨q,c,(d.cell (p:=⟨b,o+i,ab⟩) f).trans t,j.1.below d,j.2⟩
theorem QJ.drewN  (h:QJ w p M) (n:Nat):QJ (w.drewN n) p M:=h.below (aM (ag _ _) n)
def jQ (M:List (List Nat)):Prop:=1<=M.length/\M.length<=16/\∀ i,i < M.length->1<=(Qh M i).length/\(Qh M i).length<=16/\(Qh M i).length=(Qh M 0).length
section
def ZM (n:Nat):Value:=.int .u8 (n:Int)
theorem JO (w:World) (n:Nat) (row:Option Nat):w.grownBy (w.drewN n) row:=⟨rfl,rfl,rfl,au _,fun _ _ _=>rfl⟩
section
variable {P:Program} {w:World}
end
end
theorem KF:(prog.info? 5).map (fun i=>(i.zero,i.size,i.bytes))=aa (aa (ZM 0),1,1):=by kernel_rfl
def JB (k:Nat):List Nat:=aC k
section
def JM (w:World) (B:Nat) (e:aF) (v:aj) (d:List aj):Prop:=w.ownsRow B e 1 v d.length d
theorem JM.nil (w:World) (B:Nat) (e:aF):JM w B e (.slice ab 0 0) []:=World.ownsRow_nil w B e 1
theorem JM.kept   {l:List aj} {row:Option Nat} (h:JM w B e v l) (d:w.grownBy w' row) (f:v.ownBlock=ab∨v.ownBlock≠row):JM w' B e v l:=ak h d f
theorem JM.block   {l:List aj} (h:JM w B e v l) (d:v.ownBlock=aa k):B<=k/\k < w.heap.size:=ap h k d
theorem JM.cells   {l:List aj} (h:JM w B e v l):v=.slice ab 0 0/\l=[]∨∃ g d,v=.slice (aa ⟨g,0,ab⟩) l.length d/\B<=g/\g < w.heap.size/\∀ i u,l[i]?=aa u->w.cell? ⟨g,i,ab⟩=aa u:=by
 rcases h.2 with ⟨rfl,j⟩ | ⟨g,d,s,rfl,k,o,t,y,z,A⟩
 ·exact bd ⟨rfl,List.length_eq_zero_iff.1 j⟩
 ·refine aq ⟨g,d,rfl,k,(Array.getElem?_eq_some_iff.1 o).1,fun i u r=>?_⟩
  have f:=az (g:=g) h rfl i u r
  rw [Addr.add_lit,aG] at f
  exact f
section
variable {P:Program} {w:World}
theorem nR (B:Nat) (t k e:aF) (i:TypeInfo) (z:aj) (y:Nat) (A:P.underlying t=aa (.slice e)) (D:P.info? e=aa i) (J:i.zero=aa z) (h:i.size=1) (K:i.bytes=y) (Q:y<=64)
 (v:aj) (l:List aj) (E:JM w B e v l) (ad:bl) (c:Nat) (u:aj) (R:u.oneCell'=true) (S:w.cell? ad=aa u) (T:l.length+1<=1000000) {G:aj} 
 (d:(Builtin.append_ #[t,t] k #[v,.slice (aa ad) 1 c]).run P w=.ok G w'):G.ownBlock=v.ownBlock∨G.ownBlock=aa w.heap.size:=by
 have o:∀ j x,[u][j]?=aa x->w.cell? (ad.add j)=aa x:=by
  intro j x r
  match j,r with
  | 0,r =>
   obtain rfl:u=x:=by simpa using r
   simpa [Addr.add] using S
 rcases E.2 with ⟨rfl,U⟩ | ⟨g,s,L,rfl,V,M,W,Y,N,Z⟩
 ·have:=run_append_nil (P:=P) w t k e i z A D J ad 1 c [u] (by rw [h];rfl) o (by decide) (by decide) (by rw [K];omega)
  rw [this] at d
  injection d with f H
  subst f
  exact aq rfl
 ·by_cases I:l.length+1<=s
  ·have:=run_append_room (P:=P) w t k e i A D g l.length s L M ad 1 c [u] (by rw [h];rfl) o (fun x O=>by rw [aD.1 O];exact R) I (by rw [h,N];simpa using I)
   rw [this] at d
   injection d with f H
   subst f
   exact bd rfl
  ·have a0:(l.length+1)*y<=1000000*64:=aR T Q
   have:=run_append_grow (P:=P) w t k e i z A D J ⟨g,0,ab⟩ l.length s l (by rw [h];exact E.1) (az (g:=g) E rfl) ad 1 c [u] (by rw [h];rfl) o (by omega) (by omega) (growslice_fits (by omega) (by rw [K];omega))
   rw [this] at d
   injection d with f H
   subst f
   exact aq rfl
theorem yL {A:Array Oper} {D:List Oper} {o:Oper} {a:Act} {Q:Exit->Act->World->Prop} (Z:o.guard=ab) (s x:Operand) (t:aF)
 (ho:o.op=.call { callee:=.builtin .append,args:=#[s,x],argTypes:=#[t,t] })
 (B:Nat) (e:aF) (i:TypeInfo) (z:aj) (f:Nat) (E:P.underlying t=aa (.slice e)) (G:P.info? e=aa i) (H:i.zero=aa z) (a0:z.cells.size=1) (I:i.size=1) (J:i.bytes=f) (L:f<=64)
 (v:aj) (l:List aj) (hs:a.eval s=v) (M:JM w B e v l) (ad:bl) (c:Nat) (u:aj) (N:u.oneCell'=true) (r:a.eval x=.slice (aa ad) 1 c) (O:w.cell? ad=aa u) (R:l.length+1<=1000000) (a1:B<=w.heap.size)
 (h:∀ d w',JM w' B e d (l ++ [u])->w.grownBy w' v.ownBlock->(d.ownBlock=v.ownBlock∨d.ownBlock=aa w.heap.size)->wpList P A Q D (a.put o.dst d) w'):wpList P A Q (o :: D) a w:=by
 have S:∀ j x,[u][j]?=aa x->w.cell? (ad.add j)=aa x:=by
  intro j x k
  match j,k with
  | 0,k =>
   obtain rfl:u=x:=by simpa using k
   simpa [Addr.add] using O
 have a2:(l.length+1)*f<=1000000*64:=aR R L
 refine wpList_plain Z fun K T=>?_
 obtain ⟨d,w',y,U,V,_⟩:=run_append_own (P:=P) w B t o.type e i z 1 f E G H I J a0 (by decide) v l.length l M ad 1 c [u] rfl S (fun x r=>by rw [aD.1 r];exact N) (by unfold maxLen;omega) (by omega) a1
 have W:=nR B t o.type e i z f E G H I J L v l M ad c u N O R y
 have Y:JM w' B e d (l ++ [u]):=by
  unfold JM
  rw [List.length_append]
  exact U
 unfold Oper.wp execOp
 simp only [ho,resolve,invoke,builtin,Sem.run_bind,Sem.run_pure,Result.andThen_ok,List.map_toArray,List.map_cons,List.map_nil,hs,r,y]
 exact T _ _ (h d w' Y V W)
end
end
theorem b0:(prog.info? 32).map (fun i=>(i.zero,i.size,i.bytes))=aa (aa (.slice ab 0 0),1,24):=by kernel_rfl
def Zo (w:World) (B:Nat) (E:aF) (g n:Nat) (l:List Nat):Prop:=w.ownsRow B E 1 (.slice (aa ⟨g,0,ab⟩) n n) n (l.map ZM)
theorem Zo.made (w:World) (B:Nat) (E:aF) (n:Nat) (d:B<=w.heap.size) (f:n<=1000000):Zo (w.alloc (.cells (ah #[ZM 0] n) E)) B E w.heap.size n (Qi n fun _=>0):=by
 have h:=World.ownsRow_lit (base:=B) (e:=E) (size:=1) w (ah #[ZM 0] n) n d (by unfold maxLen;omega) (by have:=congrArg zg (ai (ZM 0) n);simpa using this)
 rw [ai] at h
 have e:(Qi n fun _=>0).map ZM=List.replicate n (ZM 0):=by
  simp [Qi,aP]
 unfold Zo
 rw [e]
 exact h
theorem Zo.cell   (h:Zo w B E g n l) (j:Nat) (d:j < n) (f:l.length=n):w.cell? ⟨g,j,ab⟩=aa (.int .u8 ((Gf.nth l j:Nat):Int)):=by
 rw [aw (w:=w) h j (by omega),ao,List.getElem?_eq_getElem (by omega),Gf.aK l j (by omega)]
 rfl
theorem Zo.free   (h:Zo w B E g n l) (j:Nat):w.frozen? ⟨g,j,ab⟩=false:=ar (w:=w) h j
theorem Zo.set   {f:Nat->Nat} (h:Zo w B E g n (Qi n f)) (j v:Nat):Zo (w.setCell ⟨g,j,ab⟩ (.int .u8 (v:Int))) B E g n (Qi n (fun i=>if i=j then v else f i)):=by
 have:=(av (w:=w) h j (ZM v)).1
 rw [<- List.map_set,k0] at this
 exact this
theorem Zo.lt   (h:Zo w B E g n l):B<=g/\g < w.heap.size:=ap h g rfl
def jM (A B:List (List Nat)) (i j:Nat):Nat->Nat
 | 0=>0
 | k+1=>jM A B i j k ^^^ Gf.mul (Gf.nth (Qh A i) k) (Gf.nth (Qh B k) j)
def xW (A B:List (List Nat)) (m:Nat):List (List Nat):=(aC m).map fun i=>Qi (Qh B 0).length fun j=>jM A B i j B.length
def QR (M:List (List Nat)):Prop:=∀ i,Gf.Bytes (Qh M i)
theorem o8 (A B:List (List Nat)) (d:QR A) (i j:Nat):∀ k,jM A B i j k < 256
 | 0=>by show 0 < 256;decide
 | k+1=>Gf.iK (o8 A B d i j k) (Gf.aV (d i k) _)
theorem QJ.row  (h:QJ w p M) (k:i < M.length) (r:0 < (Qh M i).length) :
 ∃ b o d f c,p=aa ⟨b,o,ab⟩/\b < w.heap.size/\d < w.heap.size/\w.cell? ⟨b,o+i,ab⟩=aa (.slice (aa ⟨d,f,ab⟩) (Qh M i).length c)/\∀ j,j < (Qh M i).length->w.cell? ⟨d,f+j,ab⟩=aa (.int .u8 ((Gf.nth (Qh M i) j:Nat):Int)):=by
 rcases h with h | ⟨b,o,s,t,u⟩
 ·rw [h] at k;exact absurd k (al _)
 ·obtain ⟨q,c,y,z,_⟩:=u i k
  rcases z.cells with A | ⟨d,f,B,D,E⟩
  ·rw [A] at r;exact absurd r (aA _)
  ·subst B
   exact ⟨b,o,d,f,c,s,t,D,y,E⟩
theorem oC (a b:Nat) (w:World) (d:a < 256) (f:b < 256) :
 af prog 69 #[.int .u8 (a:Int),.int .u8 (b:Int)] w fun e w'=>e=.returned (.int .u8 ((a ^^^ b:Nat):Int))/\w'=w:=by
 go_enter func69,ntmps69
 go_wp2
 go_ret
 exact ⟨l4 (u8_xor_nat a b d f),rfl⟩
theorem CP (a:Nat) (w:World) (d:a < 256)  :
 af prog 75 #[.int .u8 (a:Int)] w fun e w'=>e=.returned (.int .u8 ((Gf.tx a:Nat):Int))/\w'=w:=by
 by_cases h:a < 128
 ·go_enter func75,ntmps75
  go_wp2
  go_ret
  exact ⟨l4 (by simp [Gf.tx,h]),rfl⟩
 ·go_enter func75,ntmps75
  go_wp2_with fail
  have e:((a:Int)*2 % 256)=((a*2 - 256:Nat):Int):=by omega
  rw [e]
  refine (oC (a*2 - 256) 29 _ (by omega) (by decide)).mono ?_
  rintro e w' ⟨rfl,rfl⟩
  go_wp2
  go_ret
  exact ⟨l4 (by simp [Gf.tx,h]),rfl⟩
theorem mI (a b:Nat) (w:World) (r:a < 256) (t:b < 256) :
 af prog 61 #[.int .u8 (a:Int),.int .u8 (b:Int)] w fun e w'=>e=.returned (.int .u8 ((Gf.mul a b:Nat):Int))/\w'=w:=by
 go_enter func61,ntmps61
 go_wp2
 go_loop [0,5,7] (fun x p i=>∃ k:Nat,k<=8/\i=.int .i64 k/\x=.int .u8 (Gf.dP a k:Nat)/\p=.int .u8 (Gf.part a b k:Nat)) (fun _ _ i=>8 - (intOf i).toNat)
 case atStart=>exact ⟨0,by omega,rfl,rfl,rfl⟩
 case round =>
  obtain ⟨k,u,rfl,rfl,rfl⟩:=hrel
  have f:=Gf.aE r k
  have j:=Gf.eF r b k
  have o:=n0 b k t
  by_cases y:k < 8
  ·by_cases d:Gf.bT b k=1
   ·have h:Hid (Gf.part a b (k+1)=Gf.part a b k ^^^ Gf.dP a k):=by show _=_;simp [Gf.part,d]
    rw [decide_eq_true d] at o
    clear d
    go_wp2_with (first | (go_at_call 69;refine (oC _ _ _ j f).mono ?_;rintro e w' ⟨rfl,rfl⟩) | (go_at_call 75;refine (CP _ _ f).mono ?_;rintro e w' ⟨rfl,rfl⟩))
    go_round
    case rel=>exact ⟨k+1,by omega,by go_num,rfl,by rw [h.out]⟩
    case measure=>simp [intOf];omega
   ·have h:Hid (Gf.part a b (k+1)=Gf.part a b k):=by show _=_;simp [Gf.part,d]
    rw [decide_eq_false d] at o
    clear d
    go_wp2_with (first | (go_at_call 69;refine (oC _ _ _ j f).mono ?_;rintro e w' ⟨rfl,rfl⟩) | (go_at_call 75;refine (CP _ _ f).mono ?_;rintro e w' ⟨rfl,rfl⟩))
    go_round
    case rel=>exact ⟨k+1,by omega,by go_num,rfl,by rw [h.out]⟩
    case measure=>simp [intOf];omega
  ·go_wp2
   go_ret
   have s:k=8:=by omega
   subst s
   exact ⟨rfl,rfl⟩
theorem vW (a n:Nat) (w:World) (s:a < 256) (t:n < 256) :
 af prog 56 #[.int .u8 (a:Int),.int .i64 (n:Int)] w fun e w'=>e=.returned (.int .u8 ((Gf.fM a n:Nat):Int))/\w'=w:=by
 go_enter func56,ntmps56
 go_wp2
 go_loop [0,5,7] (fun x p i=>∃ k:Nat,k<=8/\i=.int .i64 k/\x=.int .u8 (Gf.sq a k:Nat)/\p=.int .u8 (Gf.pw a n k:Nat)) (fun _ _ i=>8 - (intOf i).toNat)
 case atStart=>exact ⟨0,by omega,rfl,rfl,rfl⟩
 case round =>
  obtain ⟨k,u,rfl,rfl,rfl⟩:=hrel
  have f:=Gf.qI s k
  have o:=Gf.lL (a:=a) n k
  have j:=e5 n k t
  by_cases y:k < 8
  ·by_cases d:Gf.bT n k=1
   ·have h:Hid (Gf.pw a n (k+1)=Gf.mul (Gf.pw a n k) (Gf.sq a k)):=by show _=_;simp [Gf.pw,d]
    rw [decide_eq_true d] at j
    clear d
    go_wp2_with fail
    refine (mI _ _ _ o f).mono ?_
    rintro e w' ⟨rfl,rfl⟩
    go_wp2_with fail
    refine (mI _ _ _ f f).mono ?_
    rintro e w' ⟨rfl,rfl⟩
    go_wp2
    go_round
    case rel=>exact ⟨k+1,by omega,by go_num,rfl,by rw [h.out]⟩
    case measure=>simp [intOf];omega
   ·have h:Hid (Gf.pw a n (k+1)=Gf.pw a n k):=by show _=_;simp [Gf.pw,d]
    rw [decide_eq_false d] at j
    clear d
    go_wp2_with fail
    refine (mI _ _ _ f f).mono ?_
    rintro e w' ⟨rfl,rfl⟩
    go_wp2
    go_round
    case rel=>exact ⟨k+1,by omega,by go_num,rfl,by rw [h.out]⟩
    case measure=>simp [intOf];omega
  ·go_wp2
   go_ret
   have r:k=8:=by omega
   subst r
   exact ⟨rfl,rfl⟩
theorem j2 (a:Nat) (w:World) (d:a < 256) :
 af prog 89 #[.int .u8 (a:Int)] w fun e w'=>e=.returned (.int .u8 ((Gf.inv a:Nat):Int))/\w'=w:=by
 go_enter func89,ntmps89
 go_wp2_with fail
 refine (vW a 254 _ d (by decide)).mono ?_
 rintro e w' ⟨rfl,rfl⟩
 go_wp2
 go_ret
 exact ⟨rfl,rfl⟩
theorem QL {a b c:World} {row:Option Nat} (h:a.grownBy b row) (k:b.grownBy c row):a.grownBy c row :=
 ⟨k.os.trans h.os,k.tape.trans h.tape,k.output.trans h.output,Nat.le_trans h.size k.size,fun i d f=>(k.block i (an d h.size) f).trans (h.block i d f)⟩
theorem QD (h:ae w.heap.size w w') (row:Option Nat):w.grownBy w' row:=⟨h.os,h.tape,h.output,h.size,fun i d _=>h.block i d⟩
theorem Z8 (w:World) (g j:Nat) (v:aj):w.grownBy (w.setCell ⟨g,j,ab⟩ v) (aa g) :=
 ⟨rfl,rfl,rfl,by simp [World.setCell],fun i _ d=>Below.heap_setCell w _ v i (fun e=>d (by rw [e]))⟩
theorem Zo.below   (h:Zo w B E g n l) (d:ae w.heap.size w w'):Zo w' B E g n l:=ak h (QD d ab) (aq (by simp [Value.ownBlock]))
theorem zL (g n B:Nat) (f d:Nat->Nat) (u:bk) (H:Array aj) (w:World) (U:n<=1000) (Q:∀ args W,Sem.run prog (za u args) W=.ok (.enter u args) W) (I:Zo w B 5 g n (Qi n f))
 (J:∀ j,j < n->∀ h,w.grownBy h (aa g)->Zo h B 5 g n (Qi n (fun i=>if i < j then d i else f i)) ->
  af prog u (#[.int .i64 (j:Int)] ++ H) h fun e o=>e=.returned (.int .u8 ((d j:Nat):Int))/\ae h.heap.size h o) :
 af prog 54 #[.slice (aa ⟨g,0,ab⟩) n n,.func (.func u) #[] H] w fun e w'=>e=.returned (.tuple #[])/\Zo w' B 5 g n (Qi n d)/\w.grownBy w' (aa g):=by
 go_enter func54,ntmps54
 go_wp2
 go_loopw [7] (fun x wr=>∃ k:Nat,k<=n/\x=.int .i64 k/\Zo wr B 5 g n (Qi n (fun i=>if i < k then d i else f i))/\w.grownBy wr (aa g)) (fun x _=>n - (intOf x).toNat)
 case atStart=>exact ⟨0,by omega,rfl,by simpa using I,QD (ag _ _) _⟩
 case round =>
  obtain ⟨k,R,rfl,r,s⟩:=hrel
  by_cases A:k < n
  ·have D:=J k A wr s r
   have E:Hid (Zo wr B 5 g n (Qi n (fun i=>if i < k then d i else f i))):=r
   have G:Hid (w.grownBy wr (aa g)):=s
   clear r s J I
   go_wp2_with fail
   refine D.mono ?_
   rintro e o ⟨rfl,y⟩
   have t:=E.out.below y
   have S:o.frozen? ⟨g,k,ab⟩=false:=t.free k
   have T:=t.cell k A (Jf _ _)
   have z:=t.set k (d k)
   rw [YL n _ (fun i=>if i < k+1 then d i else f i) (fun i _=>by by_cases e:i=k <;> by_cases K:i < k <;> simp [e,K] <;> omega)] at z
   have L:Hid (Zo (o.setCell ⟨g,k,ab⟩ (.int .u8 ((d k:Nat):Int))) B 5 g n (Qi n (fun i=>if i < k+1 then d i else f i))):=z
   have M:Hid (w.grownBy (o.setCell ⟨g,k,ab⟩ (.int .u8 ((d k:Nat):Int))) (aa g)):=QL (QL G.out (QD y _)) (Z8 _ _ _ _)
   clear t z y D E G Q
   go_wp2
   go_roundw
   case rel=>exact ⟨k+1,by omega,by go_num,L.out,M.out⟩
   case measure=>simp [intOf];omega
  ·have N:k=n:=by omega
   subst N
   go_wp2
   go_end0
   refine ⟨rfl,?_,s⟩
   rw [YL k d (fun i=>if i < k then d i else f i) (fun i O=>by simp [O])]
   exact r
theorem dT (n:Nat) (f:Nat->Nat) (o:bk) (G:Array aj) (w:World) (T:n<=1000) (H:∀ l,f l < 256) (R:∀ args W,Sem.run prog (za o args) W=.ok (.enter o args) W)
 (d:Nat->Nat) (I:d 0=0) (J:∀ l,d (l+1)=d l ^^^ f l) (K:∀ l,d l < 256)
 (L:∀ l,l < n->∀ j,ae w.heap.size w j->af prog o (#[.int .i64 (l:Int)] ++ G) j fun e r=>e=.returned (.int .u8 ((f l:Nat):Int))/\ae j.heap.size j r) :
 af prog 59 #[.int .i64 (n:Int),.func (.func o) #[] G] w fun e w'=>e=.returned (.int .u8 ((d n:Nat):Int))/\ae w.heap.size w w':=by
 have z:Hid (d 0=0):=I
 have A:Hid (∀ l,d (l+1)=d l ^^^ f l):=J
 clear I J
 go_enter func59,ntmps59
 go_wp2
 go_loopw [5,8] (fun s x wr=>∃ k:Nat,k<=n/\x=.int .i64 k/\s=.int .u8 ((d k:Nat):Int)/\ae w.heap.size w wr) (fun _ x _=>n - (intOf x).toNat)
 case atStart=>exact ⟨0,by omega,rfl,by rw [z.out];rfl,ag _ _⟩
 case round =>
  obtain ⟨k,S,rfl,rfl,h⟩:=hrel
  by_cases M:k < n
  ·have u:=L k M wr h
   have B:Hid (ae w.heap.size w wr):=h
   have N:w.heap.size<=wr.heap.size:=h.size
   have lt:=K k
   have D:=H k
   have y:Hid (d (k+1)=d k ^^^ f k):=A.out k
   clear h L A z H K
   generalize d k=t at y lt ⊢
   generalize f k=v at y D u
   go_wp2_with fail
   refine u.mono ?_
   rintro e r ⟨rfl,E⟩
   have O:Hid (ae w.heap.size w r):=B.out.trans (E.mono N)
   clear E u B R
   go_wp2_with (go_at_call 69;refine (oC t v _ lt D).mono ?_;rintro e w' ⟨rfl,rfl⟩)
   go_roundw
   case rel=>exact ⟨k+1,by omega,by go_num,by rw [y.out],O.out⟩
   case measure=>simp [intOf];omega
  ·have Q:k=n:=by omega
   subst Q
   go_wp2
   go_ret
   exact ⟨rfl,h⟩
theorem Y4   {row:Nat} (h:Zo w B E g n l) (d:w.grownBy w' (aa row)) (f:g≠row):Zo w' B E g n l :=
 ak h d (aq (fun e=>f (ac e)))
def Zy (w:World) (B d r:Nat) (f:Nat->aj):Prop:=w.ownsRow B 32 1 (.slice (aa ⟨d,0,ab⟩) r r) r ((aC r).map f)
theorem Zy.made (w:World) (B r:Nat) (d:B<=w.heap.size) (f:r<=1000000):Zy (w.alloc (.cells (ah #[.slice ab 0 0] r) 32)) B w.heap.size r (fun _=>.slice ab 0 0):=by
 have h:=World.ownsRow_lit (base:=B) (e:=32) (size:=1) w (ah #[.slice ab 0 0] r) r d (by unfold maxLen;omega) (by have:=congrArg zg (ai (.slice ab 0 0) r);simpa using this)
 rw [ai] at h
 unfold Zy
 rw [aP,List.length_range]
 exact h
theorem Zy.cell  (h:Zy w B d r f) (j:Nat) (k:j < r):w.cell? ⟨d,j,ab⟩=aa (f j):=by
 rw [aw (w:=w) h j (by omega),ao,ay k]
 rfl
theorem Zy.free  (h:Zy w B d r f) (j:Nat):w.frozen? ⟨d,j,ab⟩=false:=ar (w:=w) h j
theorem Zy.set  (h:Zy w B d r f) (j:Nat) (v:aj):Zy (w.setCell ⟨d,j,ab⟩ v) B d r (fun i=>if i=j then v else f i):=by
 have:=(av (w:=w) h j v).1
 rw [W9] at this
 exact this
theorem Zy.kept  {row:Option Nat} (h:Zy w B d r f) (j:w.grownBy w' row) (k:row≠aa d):Zy w' B d r f :=
 ak h j (aq (fun e=>k e.symm))
theorem Zy.below  (h:Zy w B d r f) (j:ae w.heap.size w w'):Zy w' B d r f:=h.kept (QD j ab) (by simp)
theorem Zy.congr {f:Nat} {d j:Nat->aj} (h:Zy w B f r d) (o:∀ i,i < r->d i=j i):Zy w B f r j:=by
 unfold Zy
 rw [List.map_congr_left (g:=d) (fun i k=>(o i (List.mem_range.1 k)).symm)]
 exact h
theorem Zy.lt  (h:Zy w B d r f):B<=d/\d < w.heap.size:=ap h d rfl
def gG (n g:Nat):Value:=.slice (aa ⟨g,0,ab⟩) n n
structure iT (w:World) (B gm:Nat) (gs:Nat->Nat) (k n:Nat) (f:Nat->Nat->Nat):Prop where
 row:∀ i,i < k->Zo w B 5 (gs i) n (Qi n (f i))
 ne:∀ i,i < k->gs i≠gm
 inj:∀ i j,i < k->j < k->gs i=gs j->i=j
structure Zv (w:World) (B gm:Nat) (gs:Nat->Nat) (r n:Nat) (f:Nat->Nat->Nat):Prop where
 rows:Zy w B gm r (fun i=>gG n (gs i))
 all:iT w B gm gs r n f
theorem iT.below   {f:Nat->Nat->Nat} (h:iT w B d j k n f) (r:ae w.heap.size w w'):iT w' B d j k n f:=⟨fun i o=>(h.row i o).below r,h.ne,h.inj⟩
theorem Zv.below   {f:Nat->Nat->Nat} (h:Zv w B d j r n f) (k:ae w.heap.size w w'):Zv w' B d j r n f:=⟨h.rows.below k,h.all.below k⟩
def XB (r n:Nat) (f:Nat->Nat->Nat):List (List Nat):=(aC r).map fun i=>Qi n (f i)
theorem Zs (r n:Nat) (f:Nat->Nat->Nat):(XB r n f).length=r:=by simp [XB]
theorem XD (r n:Nat) (f:Nat->Nat->Nat) (i:Nat) (d:i < r):Qh (XB r n f) i=Qi n (f i):=by
 unfold Qh XB
 rw [List.getD_eq_getElem?_getD,ao,ay d]
 rfl
theorem Zv.tU  {u:Nat->Nat} {f:Nat->Nat->Nat} (h:Zv w B d u r n f) (z:∀ i j,f i j < 256) (k:Nat) (A:k<=r):QJ w (aa ⟨d,0,ab⟩) (XB k n f):=by
 refine aq ⟨d,0,rfl,h.rows.lt.2,fun i o=>?_⟩
 rw [Zs] at o
 have y:=h.rows.cell i (by omega)
 have s:=h.all.row i (by omega)
 rw [XD _ _ _ i o,Jf,aG]
 refine ⟨_,_,y,⟨XL _ _ (z i),?_⟩,fun e=>by cases e⟩
 refine aq ⟨u i,0,rfl,s.lt.2,fun j t=>?_⟩
 rw [Jf] at t
 rw [aG]
 exact s.cell j t (Jf _ _)
theorem iT.snoc  {d:Nat->Nat} {f:Nat->Nat->Nat} (h:iT w B r d k n f) (t:∀ i,i < k->d i≠g) (y:g≠r) (z:∀ i,i < k->Zo w' B 5 (d i) n (Qi n (f i))) (A:Zo w' B 5 g n (Qi n (f k))):iT w' B r (fun i=>if i=k then g else d i) (k+1) n f where
 row:=fun i s=>by
  by_cases e:i=k
  ·simp only [e,if_true];exact A
  ·simp only [e,if_false];exact z i (by omega)
 ne:=fun i s=>by
  by_cases e:i=k
  ·simp only [e,if_true];exact y
  ·simp only [e,if_false];exact h.ne i (by omega)
 inj:=fun i j s D=>by
  by_cases e:i=k <;> by_cases u:j=k <;> simp only [e,u,if_true,if_false]
  ·intro _;trivial
  ·intro o;exact absurd o.symm (t j (by omega))
  ·intro o;exact absurd o (t i (by omega))
  ·exact h.inj i j (by omega) (by omega)
theorem OY (h o k j v:Nat) (f:bk) (r:Array aj) (w:World) (u:∀ args W,Sem.run prog (za f args) W=.ok (.enter f args) W)
 (y:w.cell? ⟨h,0,ab⟩=aa (.func (.func f) #[] r)) (z:w.cell? ⟨o,0,ab⟩=aa (.int .i64 (k:Int)))
 (s:af prog f (#[.int .i64 (k:Int),.int .i64 (j:Int)] ++ r) w fun e d=>e=.returned (.int .u8 (v:Int))/\ae w.heap.size w d) :
 af prog 55 #[.int .i64 (j:Int),.pointer (aa ⟨h,0,ab⟩),.pointer (aa ⟨o,0,ab⟩)] w fun e d=>e=.returned (.int .u8 (v:Int))/\ae w.heap.size w d:=by
 go_enter func55,ntmps55
 go_wp2_with fail
 refine s.mono ?_
 rintro e d ⟨rfl,t⟩
 clear u s y z
 go_wp2
 go_ret
 exact ⟨rfl,t⟩
theorem tP (r n:Nat) (y:Nat->Nat->Nat) (u:bk) (z:Array aj) (w:World) (hr:r<=1000) (hn:n<=1000) (c9:∀ args W,Sem.run prog (za u args) W=.ok (.enter u args) W)
 (hc:∀ i j,i < r->j < n->∀ o,ae w.heap.size w o->af prog u (#[.int .i64 (i:Int),.int .i64 (j:Int)] ++ z) o fun e A=>e=.returned (.int .u8 ((y i j:Nat):Int))/\ae o.heap.size o A) :
 af prog 27 #[.int .i64 (r:Int),.int .i64 (n:Int),.func (.func u) #[] z] w fun e w'=>(∃ V f,e=.returned (.slice (aa ⟨V,0,ab⟩) r r)/\Zv w' w.heap.size V f r n y)/\ae w.heap.size w w':=by
 obtain ⟨i1,Y,Z,a0,a1⟩:=info_parts b0
 obtain ⟨i0,a2,a3,a4,a5⟩:=info_parts KF
 have HC:Hid (∀ i j,i < r->j < n->∀ o,ae w.heap.size w o->af prog u (#[.int .i64 (i:Int),.int .i64 (j:Int)] ++ z) o fun e A=>e=.returned (.int .u8 ((y i j:Nat):Int))/\ae o.heap.size o A):=hc
 have d0:Hid (∀ args W,Sem.run prog (za u args) W=.ok (.enter u args) W):=c9
 clear hc c9
 go_enter func27,ntmps27
 go_wp2_with (first | (at_make;refine wpList_make_row _ rfl (.tmp 9) (.tmp 9) 23 rfl 32 i1 (.slice ab 0 0) underlying23 Y Z a0 rfl .i64 .i64 r rfl rfl (by rw [a1];omega) (by omega) ?_))
 obtain ⟨A,D⟩:∃ A,A=(w.alloc (.cells #[.func (.func u) #[] z] 61)).alloc (.cells (ah #[.slice ab 0 0] r) 32):=⟨_,rfl⟩
 rw [<- D]
 have a6:Hid (Zy A w.heap.size (w.heap.size+1) r (fun _=>.slice ab 0 0)):=by
  show Zy _ _ _ _ _
  have:=Zy.made (w.alloc (.cells #[.func (.func u) #[] z] 61)) w.heap.size r (by simp) (by omega)
  rw [D]
  simpa using this
 have a7:Hid (ae w.heap.size w A):=by
  show ae _ _ _
  rw [D]
  exact ((ag _ _).alloc (au _) _).alloc (by simp) _
 have a8:Hid (A.cell? ⟨w.heap.size,0,ab⟩=aa (.func (.func u) #[] z)):=by
  show _=_
  rw [D,World.cell?_alloc_past _ _ _ (by simp),World.cell?_alloc_at _ _ _ _ rfl]
  rfl
 clear D
 have d1:∀ W:World,Sem.run prog (Instr.makeSlice 32 (.int .i64 (n:Int)) (.int .i64 (n:Int))) W=.ok (.slice (aa ⟨W.heap.size,0,ab⟩) n n) (W.alloc (.cells (ah #[ZM 0] n) 5)):=fun W=>run_make_row (P:=prog) 32 5 i0 (ZM 0) underlying32 a2 a3 a4 rfl .i64 .i64 n (by rw [a5];omega) (by omega) W
 clear Y Z a0 a1 a2 a3 a4 a5
 go_loopw [13] (fun x wr=>∃ (k:Nat) (f:Nat->Nat),k<=r/\x=.int .i64 k/\Zy wr w.heap.size (w.heap.size+1) r (fun i=>if i < k then gG n (f i) else .slice ab 0 0)/\iT wr w.heap.size (w.heap.size+1) f k n y/\ae w.heap.size w wr/\wr.cell? ⟨w.heap.size,0,ab⟩=aa (.func (.func u) #[] z)) (fun x _=>r - (intOf x).toNat)
 case atStart=>exact ⟨0,fun _=>0,by omega,rfl,by simpa using a6.out,⟨fun i s=>absurd s (al _),fun i s=>absurd s (al _),fun i j s=>absurd s (al _)⟩,a7.out,a8.out⟩
 case round =>
  obtain ⟨k,f,hk,rfl,N,hK,hB,hA⟩:=hrel
  obtain ⟨d,rfl⟩:∃ d,d=wr:=⟨_,rfl⟩
  have O:Hid (Zy d w.heap.size (w.heap.size+1) r (fun i=>if i < k then gG n (f i) else .slice ab 0 0)):=N
  have Q:Hid (iT d w.heap.size (w.heap.size+1) f k n y):=hK
  have R:Hid (ae w.heap.size w d):=hB
  have HA:Hid (d.cell? ⟨w.heap.size,0,ab⟩=aa (.func (.func u) #[] z)):=hA
  have f1:w.heap.size+1 < d.heap.size:=N.lt.2
  clear a6 a7 a8 N hK hB hA
  by_cases S:k < r
  ·go_wp2
   obtain ⟨h,E⟩:∃ h,h=d.alloc (.cells #[.int .i64 (k:Int)] 3):=⟨_,rfl⟩
   rw [<- E]
   have G:ae d.heap.size d h:=by rw [E];exact (ag _ _).alloc (au _) _
   have d2:h.heap.size=d.heap.size+1:=by rw [E];simp
   have a9:h.cell? ⟨d.heap.size,0,ab⟩=aa (.int .i64 (k:Int)):=by rw [E,World.cell?_alloc_at _ _ _ _ rfl];rfl
   have b1:=O.out.below G
   have b2:=Q.out.below G
   have b3:Hid (ae w.heap.size w h):=R.out.trans (G.mono (by omega))
   have b4:Hid (h.cell? ⟨w.heap.size,0,ab⟩=aa (.func (.func u) #[] z)):=(G.cell (p:=⟨w.heap.size,0,ab⟩) (by show w.heap.size < _;omega)).trans HA.out
   have b5:Hid (Zy h w.heap.size (w.heap.size+1) r (fun i=>if i < k then gG n (f i) else .slice ab 0 0)):=b1
   have J:Hid (iT h w.heap.size (w.heap.size+1) f k n y):=b2
   clear E G b1 b2 O Q R HA
   have K:=b5.out.below ((ag _ h).alloc (au _) (.cells (ah #[ZM 0] n) 5))
   have hf:(h.alloc (.cells (ah #[ZM 0] n) 5)).frozen? ⟨w.heap.size+1,k,ab⟩=false:=K.free k
   have d3:(h.alloc (.cells (ah #[ZM 0] n) 5)).cell? ⟨w.heap.size+1,k,ab⟩=aa (.slice ab 0 0):=by rw [K.cell k S,if_neg (aA _)]
   have b6:Hid (Zy (h.alloc (.cells (ah #[ZM 0] n) 5)) w.heap.size (w.heap.size+1) r (fun i=>if i < k then gG n (f i) else .slice ab 0 0)):=K
   clear K
   go_region
   obtain ⟨t,H⟩:∃ t,t=((h.alloc (.cells (ah #[ZM 0] n) 5)).setCell ⟨w.heap.size+1,k,ab⟩ (.slice (aa ⟨d.heap.size+1,0,ab⟩) n n)).drew:=⟨_,rfl⟩
   rw [<- H]
   have B:h.grownBy t (aa (w.heap.size+1)):=by
    rw [H]
    exact QL (World.grownBy_alloc h _ _) (QL (Z8 _ _ _ _) (JO _ 1 _))
   have T:Zy t w.heap.size (w.heap.size+1) r (fun i=>if i < k+1 then gG n (if i=k then d.heap.size+1 else f i) else .slice ab 0 0):=by
    have L:=b6.out.set k (.slice (aa ⟨d.heap.size+1,0,ab⟩) n n)
    rw [H]
    refine Zy.congr (Zy.kept L (JO _ 1 ab) (by simp)) (fun i _=>?_)
    by_cases e:i=k
    ·simp [e,gG]
    ·by_cases e':i < k
     ·simp [e,e',show i < k+1 by omega]
     ·simp [e,e',show ¬ i < k+1 by omega]
   have b7:Zo t w.heap.size 5 (d.heap.size+1) n (Qi n fun _=>0):=by
    have L:=Zo.made h w.heap.size 5 n (by omega) (by omega)
    rw [d2] at L
    rw [H]
    exact Y4 (row:=w.heap.size+1) L (QL (Z8 _ _ _ _) (JO _ 1 _)) (by omega)
   have b8:t.cell? ⟨w.heap.size,0,ab⟩=aa (.func (.func u) #[] z):=B.cell b4.out (by show aa w.heap.size≠_;intro e;have:=ac e;omega)
   have d4:t.cell? ⟨d.heap.size,0,ab⟩=aa (.int .i64 (k:Int)):=B.cell a9 (by show aa d.heap.size≠_;intro e;have:=ac e;omega)
   have c0:Hid (ae w.heap.size w t):=b3.out.grown B (by omega) (fun k' I=>by have:=ac I;omega)
   have c1:∀ i,i < k->Zo t w.heap.size 5 (f i) n (Qi n (y i)):=fun i s=>Y4 (J.out.row i s) B (J.out.ne i s)
   have f2:t.cell? ⟨w.heap.size+1,k,ab⟩=aa (.slice (aa ⟨d.heap.size+1,0,ab⟩) n n):=by rw [T.cell k S];simp [gG]
   have c2:∀ i,i < k->f i < h.heap.size:=fun i s=>(J.out.row i s).lt.2
   have c3:∀ i,i < k->f i≠d.heap.size+1:=fun i s e=>by have:=c2 i s;omega
   have f3:h.heap.size<=t.heap.size:=B.size
   have d5:Hid (Zy t w.heap.size (w.heap.size+1) r (fun i=>if i < k+1 then gG n (if i=k then d.heap.size+1 else f i) else .slice ab 0 0)):=T
   have d6:Hid (Zo t w.heap.size 5 (d.heap.size+1) n (Qi n fun _=>0)):=b7
   have d7:Hid (∀ i,i < k->Zo t w.heap.size 5 (f i) n (Qi n (y i))):=c1
   have c5:Hid (∀ i,i < k->f i≠d.heap.size+1):=c3
   have c6:Hid (t.cell? ⟨w.heap.size,0,ab⟩=aa (.func (.func u) #[] z)):=b8
   clear H B T b7 c1 c2 c3 b6 b5 b3 b4 hf d3 a9 d1 b8
   have d8:Hid (∀ j,j < n->∀ o,t.grownBy o (aa (d.heap.size+1))->Zo o w.heap.size 5 (d.heap.size+1) n (Qi n (fun i=>if i < j then y k i else 0)) ->
    af prog 55 (#[.int .i64 (j:Int)] ++ #[.pointer (aa ⟨w.heap.size,0,ab⟩),.pointer (aa ⟨d.heap.size,0,ab⟩)]) o fun e A=>e=.returned (.int .u8 ((y k j:Nat):Int))/\ae o.heap.size o A):=by
    intro j hj o U _
    exact OY w.heap.size d.heap.size k j (y k j) u z o d0.out (U.cell c6.out (by show aa w.heap.size≠_;intro e;have:=ac e;omega)) (U.cell d4 (by show aa d.heap.size≠_;intro e;have:=ac e;omega)) (HC.out k j S hj o (c0.out.grown U (by omega) (fun k' I=>by have:=ac I;omega)))
   go_wp2_with (go_at_call 54;refine (zL (d.heap.size+1) n w.heap.size (fun _=>0) (y k) 55 #[.pointer (aa ⟨w.heap.size,0,ab⟩),.pointer (aa ⟨d.heap.size,0,ab⟩)] t hn (enters_of func55 (by kernel_rfl) rfl) d6.out d8.out).mono ?_;rintro e w6 ⟨rfl,d9,M⟩)
   have e1:=d5.out.kept M (by intro e;have:=ac e;omega)
   have e2:=J.out.snoc (w':=w6) c5.out (by omega) (fun i s=>Y4 (d7.out i s) M (c5.out i s)) d9
   have e3:ae w.heap.size w w6:=c0.out.grown M (by omega) (fun k' I=>by have:=ac I;omega)
   have e4:=M.cell c6.out (by show aa w.heap.size≠_;intro e;have:=ac e;omega)
   go_roundw
   case rel=>exact ⟨k+1,fun i=>if i=k then d.heap.size+1 else f i,by omega,by go_num,e1,e2,e3,e4⟩
   case measure=>simp [intOf];omega
  ·have f0:k=r:=by omega
   subst f0
   go_wp2
   go_ret
   exact ⟨⟨_,f,rfl,⟨O.out.congr (fun i s=>by simp [s]),Q.out⟩⟩,R.out⟩
theorem AX (n:Int) (w:World) :
 af prog 57 #[.int .i64 n] w fun e w'=>e=.returned (.int .i64 ((Qo n:Nat):Int))/\w'=w:=by
 have f:Hid (((Qo n:Nat):Int)=n % 255):=M4 n
 by_cases h:0<=n
 ·go_enter func57,ntmps57
  go_wp2
  go_ret
  exact ⟨l4 f.out.symm,rfl⟩
 ·have d:Hid (n.tmod 255=-((-n) % 255)):=by show _=_;rw [hQ,Int.tmod_eq_emod_of_nonneg (by omega)]
  have j:-255 < n.tmod 255:=by rw [d.out];omega
  have k:n.tmod 255<=0:=by rw [d.out];omega
  go_enter func57,ntmps57
  go_wp2
  ·go_ret
   exact ⟨l4 (by have:=d.out;have:=f.out;omega),rfl⟩
  ·go_ret
   exact ⟨l4 (by have:=d.out;have:=f.out;omega),rfl⟩
theorem LQ (n:Int) (w:World) (d:0 < n) :
 af prog 29 #[.int .u8 0,.int .i64 n] w fun e w'=>e=.returned (.tuple #[.int .u8 0,.nilIface])/\w'=w:=by
 go_enter func29,ntmps29
 go_wp2
 go_ret2
 exact ⟨rfl,rfl⟩
theorem c8 (a:Nat) (n:Int) (w:World) (f:a < 256) (h:a=0->n=0) :
 af prog 29 #[.int .u8 (a:Int),.int .i64 n] w fun e w'=>e=.returned (.tuple #[.int .u8 (Gf.fM a (Qo n):Nat),.nilIface])/\w'=w:=by
 have j:=UP n
 by_cases d:a=0
 ·obtain rfl:=h d
  subst d
  clear h
  go_enter func29,ntmps29
  go_wp2_with (first | (go_at_call 57;refine (AX 0 _).mono ?_;rintro e w' ⟨rfl,rfl⟩) | (go_at_call 56;refine (vW 0 (Qo 0) _ (by decide) (by omega)).mono ?_;rintro e w' ⟨rfl,rfl⟩))
  go_ret2
  exact ⟨rfl,rfl⟩
 ·have k:((a:Int)==0)=false:=by simpa using d
  clear h d
  go_enter func29,ntmps29
  go_wp2_with (first | (go_at_call 57;refine (AX n _).mono ?_;rintro e w' ⟨rfl,rfl⟩) | (go_at_call 56;refine (vW a (Qo n) _ f (by omega)).mono ?_;rintro e w' ⟨rfl,rfl⟩))
  go_ret2
  exact ⟨rfl,rfl⟩
theorem NL (z:bl) (w:World) (d:w.cell? ⟨2,0,ab⟩=aa (.iface 136 (.pointer (aa z)))) :
 af prog 82 #[.int .u8 0] w fun e w'=>e=.returned (.tuple #[.int .u8 0,.iface 136 (.pointer (aa z))])/\ae w.heap.size w w':=by
 go_enter func82,ntmps82
 go_wp2
 go_quiet (fail)
 go_wp2
 go_ret2
 exact ⟨rfl,aM (ag _ _) _⟩
theorem TG (a:Nat) (w:World) (f:a < 256) (d:a≠0) :
 af prog 82 #[.int .u8 (a:Int)] w fun e w'=>e=.returned (.tuple #[.int .u8 (Gf.inv a:Nat),.nilIface])/\w'=w:=by
 have h:((a:Int)==0)=false:=by simpa using d
 clear d
 go_enter func82,ntmps82
 go_wp2_with (go_at_call 89;refine (j2 a _ f).mono ?_;rintro e w' ⟨rfl,rfl⟩)
 go_ret2
 exact ⟨rfl,rfl⟩
theorem xC (n k:Int) (w:World):af prog 26 #[.int .i64 n,.int .i64 k] w fun e w'=>e=.returned (.bool (decide (1<=k/\k<=n/\n<=12)))/\w'=w:=by
 by_cases f:1<=k
 ·by_cases j:k<=n
  ·by_cases o:n<=12
   ·have d:Hid (decide (1<=k/\k<=n/\n<=12)=true):=decide_eq_true ⟨f,j,o⟩
    rw [d.out]
    go_enter func26,ntmps26
    go_wp2
    go_ret
    exact ⟨rfl,rfl⟩
   ·have d:Hid (decide (1<=k/\k<=n/\n<=12)=false):=decide_eq_false fun h=>o h.2.2
    rw [d.out]
    go_enter func26,ntmps26
    go_wp2
    go_ret
    exact ⟨rfl,rfl⟩
  ·have d:Hid (decide (1<=k/\k<=n/\n<=12)=false):=decide_eq_false fun h=>j h.2.1
   rw [d.out]
   go_enter func26,ntmps26
   go_wp2
   go_ret
   exact ⟨rfl,rfl⟩
 ·have d:Hid (decide (1<=k/\k<=n/\n<=12)=false):=decide_eq_false fun h=>f h.1
  rw [d.out]
  go_enter func26,ntmps26
  go_wp2
  go_ret
  exact ⟨rfl,rfl⟩
theorem ND:∀ j,0 < j->Gf.bZ 0 j=0
 | 0,h=>absurd h (aA _)
 | j+1,_=>by
  show Gf.mul _ _=0
  first | exact Gf.mul_zero _ | exact Gf.zero_mul _
theorem WV (j:Nat) (h:j < 255):Qo (j:Int)=j:=by unfold Qo;omega
theorem TB (i j:Nat) (w:World) (d:i < 256) (r:j < 255) :
 af prog 29 #[.int .u8 (i:Int),.int .i64 (j:Int)] w fun e w'=>e=.returned (.tuple #[.int .u8 ((Gf.bZ i j:Nat):Int),.nilIface])/\w'=w:=by
 by_cases h:i=0/\0 < j
 ·obtain ⟨rfl,f⟩:=h
  rw [ND j f]
  exact LQ (j:Int) w (by omega)
 ·have := c8 i (j : Int) w d (fun k => by
   by_cases o:0 < j
   ·exact absurd ⟨k,o⟩ h
   ·omega)
  rw [WV j r,Gf.iG i j d (by omega)] at this
  exact this
theorem n5 (i j:Nat) (w:World) (f:i < 256) (h:j < 255) :
 af prog 28 #[.int .i64 (i:Int),.int .i64 (j:Int)] w fun e w'=>e=.returned (.int .u8 ((Gf.bZ i j:Nat):Int))/\ae w.heap.size w w':=by
 have d:=TB i j w f h
 go_enter func28,ntmps28
 go_wp2_with (go_at_call 29;refine d.mono ?_;rintro e w' ⟨rfl,rfl⟩)
 go_ret
 exact ⟨rfl,ag _ _⟩
theorem K0 (n k:Nat) (w:World) (D:1<=k) (E:k<=n) (G:n<=12) :
 af prog 10 #[.int .i64 (n:Int),.int .i64 (k:Int)] w fun e w'=>(∃ d f,e=.returned (.tuple #[.slice (aa ⟨d,0,ab⟩) n n,.nilIface])/\Zv w' w.heap.size d f n k Gf.bZ)/\ae w.heap.size w w':=by
 have t:=tP n k Gf.bZ 28 #[] w (by omega) (by omega) (enters_of func28 (by kernel_rfl) rfl) (fun i j A B o _=>n5 i j o (by omega) (by omega))
 have r:Hid (af prog 26 #[.int .i64 (n:Int),.int .i64 (k:Int)] w fun e w'=>e=.returned (.bool true)/\w'=w):=by
  have h:=xC (n:Int) (k:Int) w
  rw [decide_eq_true (show (1:Int)<=(k:Int)/\(k:Int)<=(n:Int)/\(n:Int)<=12 by omega)] at h
  exact h
 go_enter func10,ntmps10
 go_wp2_with fail
 refine r.out.mono ?_
 rintro e u ⟨rfl,s⟩
 rw [s]
 clear s u r
 go_wp2_with (go_at_call 27;refine t.mono ?_;rintro e o ⟨⟨d,f,rfl,y⟩,z⟩)
 go_ret2
 exact ⟨⟨d,f,rfl,y⟩,z⟩
theorem QJ.at  (h:QJ w p M) {j:Nat} (t:i < M.length) (u:j < (Qh M i).length) :
 ∃ b o d f c,p=aa ⟨b,o,ab⟩/\w.cell? ⟨b,o+i,ab⟩=aa (.slice (aa ⟨d,f,ab⟩) (Qh M i).length c)/\w.cell? ⟨d,f+j,ab⟩=aa (.int .u8 ((Gf.nth (Qh M i) j:Nat):Int)):=by
 obtain ⟨b,o,d,f,c,k,_,_,r,s⟩:=h.row t (by omega)
 exact ⟨b,o,d,f,c,k,r,s j u⟩
theorem BJ (i j:Nat) (w:World):af prog 39 #[.int .i64 (i:Int),.int .i64 (j:Int)] w fun e w'=>e=.returned (.int .u8 ((if i=j then 1 else 0:Nat):Int))/\w'=w:=by
 by_cases e:i=j
 ·subst e
  rw [if_pos rfl]
  go_enter func39,ntmps39
  go_wp2
  go_ret
  exact ⟨rfl,rfl⟩
 ·have d:((i:Int)==(j:Int))=false:=by simp;omega
  rw [if_neg e]
  clear e
  go_enter func39,ntmps39
  go_wp2
  go_ret
  exact ⟨rfl,rfl⟩
theorem UM (r s i j d y:Nat) (p:Option bl) (M:List (List Nat)) (w:World) (z:i < M.length) (E:j < 2*d) (f:(Qh M i).length=d) (G:d<=1000) (H:w.cell? ⟨r,0,ab⟩=aa (.int .i64 (d:Int))) (I:w.cell? ⟨s,0,ab⟩=aa (.slice p M.length y)) (h:QJ w p M) :
 af prog 38 #[.int .i64 (i:Int),.int .i64 (j:Int),.pointer (aa ⟨r,0,ab⟩),.pointer (aa ⟨s,0,ab⟩)] w fun e w'=>e=.returned (.int .u8 (((if j < d then Gf.nth (Qh M i) j else if i=j - d then 1 else 0:Nat)):Int))/\ae w.heap.size w w':=by
 by_cases k:j < d
 ·obtain ⟨b,o,A,B,c,rfl,t,D⟩:=h.at z (by rw [f];exact k)
  rw [f] at t
  rw [if_pos k]
  clear f h
  go_enter func38,ntmps38
  go_wp2
  go_ret
  exact ⟨rfl,ag _ _⟩
 ·rw [if_neg k]
  have u:((j:Int) - (d:Int))=((j - d:Nat):Int):=by omega
  clear f h
  go_enter func38,ntmps38
  go_wp2_with (go_at_call 39;first | (rw [u];refine (BJ i (j - d) _).mono ?_;rintro e w' ⟨rfl,rfl⟩) | (refine (BJ i (j - d) _).mono ?_;rintro e w' ⟨rfl,rfl⟩))
  all_goals (go_ret;exact ⟨rfl,ag _ _⟩)
theorem k3 (f h i j d k r n:Nat) (o:Nat->Nat) (x:Nat) (w:World) (s:i < r) (t:d+j < n) (u:n<=1000) (y:w.cell? ⟨f,0,ab⟩=aa (.slice (aa ⟨k,0,ab⟩) r r)) (z:w.cell? ⟨h,0,ab⟩=aa (.int .i64 (d:Int))) (A:w.cell? ⟨k,i,ab⟩=aa (.slice (aa ⟨o i,0,ab⟩) n n)) (B:w.cell? ⟨o i,d+j,ab⟩=aa (.int .u8 (x:Int))) :
 af prog 40 #[.int .i64 (i:Int),.int .i64 (j:Int),.pointer (aa ⟨f,0,ab⟩),.pointer (aa ⟨h,0,ab⟩)] w fun e w'=>e=.returned (.int .u8 (x:Int))/\ae w.heap.size w w':=by
 go_enter func40,ntmps40
 go_wp2
 go_quiet (fail)
 go_wp2
 go_ret
 exact ⟨rfl,aM (ag _ _) _⟩
theorem e0 (n:Nat) (w:World) (k:n < 2 ^ 62):af prog 65 #[.int .i64 (n:Int)] w fun e w'=>e=.returned (.bool (decide (1<=n/\n<=16)))/\w'=w:=by
 by_cases f:1<=n
 ·by_cases j:n<=16
  ·have d:Hid (decide (1<=n/\n<=16)=true):=decide_eq_true ⟨f,j⟩
   go_enter func65,ntmps65
   go_wp2
   go_ret
   exact ⟨sB ((decide_eq_true (by omega)).trans d.out.symm),rfl⟩
  ·have d:Hid (decide (1<=n/\n<=16)=false):=decide_eq_false (fun h=>j h.2)
   go_enter func65,ntmps65
   go_wp2
   go_ret
   exact ⟨sB ((decide_eq_false (by omega)).trans d.out.symm),rfl⟩
 ·rw [decide_eq_false (fun h=>f h.1:¬ (1<=n/\n<=16))]
  go_enter func65,ntmps65
  go_wp2
  go_ret
  exact ⟨rfl,rfl⟩
theorem E9 (n:Nat) (w:World) (d:1<=n) (f:n<=16):af prog 65 #[.int .i64 (n:Int)] w fun e w'=>e=.returned (.bool true)/\w'=w:=by
 have:=e0 n w (by omega)
 rw [decide_eq_true (⟨d,f⟩:1<=n/\n<=16)] at this
 exact this
theorem wW (p:Option bl) (M:List (List Nat)) (I:Nat) (w:World) (d:jQ M) (h:QJ w p M) :
 af prog 35 #[.slice p M.length I] w fun e w'=>e=.returned .nilIface/\w'=w:=by
 have y:Hid (jQ M):=d
 have f:1<=M.length:=d.1
 have z:M.length<=16:=d.2.1
 have A:1<=(Qh M 0).length:=(d.2.2 0 (by omega)).1
 have B:(Qh M 0).length<=16:=(d.2.2 0 (by omega)).2.1
 clear d
 rcases h with h | ⟨b,o,rfl,J,r⟩
 ·rw [h] at f;simp at f
 obtain ⟨D,E,s,_⟩:=r 0 (by omega)
 have K:w.cell? ⟨b,o,ab⟩=aa (.slice D (Qh M 0).length E):=s
 have G:Hid (∀ i,i < M.length->∃ q c,w.cell? ⟨b,o+i,ab⟩=aa (.slice q (Qh M 0).length c)):=fun i t=>by
  obtain ⟨q,c,u,_⟩:=r i t
  rw [(y.out.2.2 i t).2.2] at u
  exact ⟨q,c,u⟩
 clear r s
 generalize (Qh M 0).length=n at *
 go_enter func35,ntmps35
 go_wp2_with (first | (go_at_call 65;with_reducible refine (E9 M.length _ f z).mono ?_;rintro e w' ⟨rfl,rfl⟩) | (go_at_call 65;refine (E9 n _ A B).mono ?_;rintro e w' ⟨rfl,rfl⟩))
 go_loop [20] (fun j=>∃ k:Nat,k<=M.length/\j=.int .i64 k) (fun j=>M.length - (intOf j).toNat)
 case atStart=>exact ⟨0,by omega,rfl⟩
 case round =>
  obtain ⟨k,L,rfl⟩:=hrel
  by_cases H:k < M.length
  ·obtain ⟨q,c,N⟩:=G.out k H
   go_wp2
   go_round
   case rel=>exact ⟨k+1,by omega,by go_num⟩
   case measure=>simp [intOf];omega
  ·go_wp2
   go_ret
   exact ⟨rfl,rfl⟩
end Go.Proofs.YtaaahibncffcmaaDoor

/- Texts laid together. -/
import Derived.Test.YtaaahibncffcmaaDoorCf4
import Derived.Lib.Join
set_option maxRecDepth 10000
set_option maxHeartbeats 8000000
open Option renaming none->aa,some->ab
open List renaming getD_eq_getElem?_getD->ac,getElem?_eq_getElem->ai,getElem?_map->ak,length_map->ao,length_append->ap,range->au,mem_map->av,map_map->aw,length_singleton->ax,any_eq_false->aC,getElem_mem->aD
open Go.World renaming cell?_alloc_at->ae
open Nat renaming le_refl->af,eq_zero_or_pos->aA,mul_comm->aB,not_lt_zero->aG,lt_irrefl->aP,zero_mul->aW,zero_add->zc,succ_mul->aY,mul_zero->zd
open Go.Calls renaming quiet_of_same->ag
open Go.RowKit renaming Below->ah
open Go.RowKit.Below renaming refl->aj
open Int renaming toNat_natCast->al
open Bool renaming eq_false_iff->am,false->aE,true->zb
open Go renaming madeCells->an,Calls->ar,below_drewN->ay
open Go.World.ownsRow renaming kept->aq,alloc->az,lt->bu
namespace Go.Proofs.YtaaahibncffcmaaDoor
open Go.Proofs.Tryd
open Go.RowKit
variable {k i p size n:Nat}{l:List (Int×ByteArray)}{X r:List Nat}{u v:Nat->Nat->Nat}{w:World}
def Qg (k:Nat) (l:List (Int×ByteArray)):Nat->List (Int×ByteArray)
 | 0=>[]
 | i+1=>if decide ((Qg k l i).length < k) && !(Qg k l i).any (fun y=>y.1==(Ji l i).1) then Qg k l i ++ [Ji l i] else Qg k l i
theorem rJ  (d:(Qg k l i).length < k) (f:(Qg k l i).any (fun y=>y.1==(Ji l i).1)=aE):Qg k l (i+1)=Qg k l i ++ [Ji l i]:=by
 show (if _ then _ else _)=_
 rw [if_pos (by rw [decide_eq_true d,f];rfl)]
theorem qH  (d:¬ (Qg k l i).length < k):Qg k l (i+1)=Qg k l i:=by
 show (if _ then _ else _)=_
 rw [if_neg (by rw [decide_eq_false d];simp)]
theorem tS  (d:(Qg k l i).any (fun y=>y.1==(Ji l i).1)=zb):Qg k l (i+1)=Qg k l i:=by
 show (if _ then _ else _)=_
 rw [if_neg (by rw [d];simp)]
theorem A7 (k:Nat) (l:List (Int×ByteArray)):∀ i,(Qg k l i).length<=k
 | 0=>Nat.zero_le _
 | i+1=>by
  by_cases d:(Qg k l i).length < k
  ·by_cases f:(Qg k l i).any (fun y=>y.1==(Ji l i).1)=zb
   ·rw [tS f];omega
   ·rw [rJ d (am.2 f),ap,ax];omega
  ·rw [qH d];exact A7 k l i
theorem X9 (k:Nat) (l:List (Int×ByteArray)):∀ i,i<=l.length->∀ x ∈ Qg k l i,x ∈ l
 | 0,_,x,h=>by cases h
 | i+1,hi,x,h=>by
  by_cases d:(Qg k l i).length < k
  ·by_cases f:(Qg k l i).any (fun y=>y.1==(Ji l i).1)=zb
   ·rw [tS f] at h;exact X9 k l i (by omega) x h
   ·rw [rJ d (am.2 f)] at h
    rcases List.mem_append.1 h with h | h
    ·exact X9 k l i (by omega) x h
    ·rw [List.mem_singleton.1 h];exact sE (by omega)
  ·rw [qH d] at h;exact X9 k l i (by omega) x h
theorem sX (k:Nat) (l:List (Int×ByteArray)):∀ i,((Qg k l i).map Prod.fst).Nodup
 | 0=>List.nodup_nil
 | i+1=>by
  by_cases d:(Qg k l i).length < k
  ·by_cases f:(Qg k l i).any (fun y=>y.1==(Ji l i).1)=zb
   ·rw [tS f];exact sX k l i
   ·have h:(Qg k l i).any (fun y=>y.1==(Ji l i).1)=false:=am.2 f
    rw [rJ d h,List.map_append,List.nodup_append]
    refine ⟨sX k l i,by simp,fun a j b o e=>?_⟩
    obtain ⟨y,s,rfl⟩:=av.1 j
    have t:b=(Ji l i).1:=by simpa using o
    have:=aC.1 h y s
    exact this (by simp [e,t])
  ·rw [qH d];exact sX k l i
theorem RY (l:List (Int×ByteArray)) (x:Int×ByteArray):Js (l ++ [x])=Js l ++ [.int .i64 x.1,.string x.2]:=by simp [Js]
theorem JlM (d:Nat) (x y:Int) (t:ByteArray) (w:World) (h:w.cell? ⟨d,0,aa⟩=ab (.int .i64 x)) :
 ar prog 71 (#[.agg #[.int .i64 y,.string t]] ++ #[.pointer (ab ⟨d,0,aa⟩)]) w fun e f=>e=.returned (.bool (y==x))/\ah w.heap.size w f:=by
 have j:=Qf h
 go_enter func71,ntmps71
 go_wp2
 go_ret
 exact ⟨rfl,(aj _ _).alloc (af _) _⟩
def j4 (n:Int) (d:Nat) (x:Int×ByteArray):Bool:=decide (x.1 < 0) || decide (n<=x.1) || !decide (x.2.size=d)
theorem y8 (k:Nat) (p:Option Addr) (l:List (Int×ByteArray)) (d4:Nat) (w:World) (hk:k<=1000) (hl:l.length<=1000) (hs:fE w p l) :
 ar prog 51 #[.int .i64 (k:Int),.slice p l.length d4] w fun e w'=>(∃ p' c',e=.returned (.slice p' (Qg k l l.length).length c')/\fE w' p' (Qg k l l.length))/\ah w.heap.size w w':=by
 have HS:Hid (fE w p l):=hs
 obtain ⟨i1,a3,a4,a5,a6⟩:=info_parts vH
 have b8:∀ W:World,Sem.run prog (Instr.makeSlice 41 (.int .i64 0) (.int .i64 (k:Int))) W=.ok (.slice (ab ⟨W.heap.size,0,aa⟩) 0 k) (W.alloc (.cells (an #[.int .i64 0,.string ⟨#[]⟩] (k*2)) 48)):=fun W=>by
  have hr:=run_make (P:=prog) W 41 48 i1 _ underlying41 a3 a4 .i64 .i64 0 k (by omega) (by omega) (by rw [a6];omega) (by omega)
  simp only [al,a5] at hr
  exact hr
 clear hs
 go_enter func51,ntmps51
 go_wp2
 have Q:(w.alloc (.cells (an #[.int .i64 0,.string ⟨#[]⟩] (k*2)) 48)).ownsRow w.heap.size 48 2 (.slice (ab ⟨w.heap.size,0,aa⟩) 0 k) 0 []:=World.ownsRow_made w _ k (af _) (by unfold maxLen;omega) (size_madeCells _ _)
 have S:ah w.heap.size w (w.alloc (.cells (an #[.int .i64 0,.string ⟨#[]⟩] (k*2)) 48)):=(aj _ _).alloc (af _) _
 generalize w.alloc (.cells (an #[.int .i64 0,.string ⟨#[]⟩] (k*2)) 48)=w0 at Q S ⊢
 have a7:Hid (w0.ownsRow w.heap.size 48 2 (.slice (ab ⟨w.heap.size,0,aa⟩) 0 k) 0 []):=Q
 have a8:Hid (ah w.heap.size w w0):=S
 clear Q S b8
 go_loopw [5,12] (fun v x wr=>∃ i:Nat,i<=l.length/\x=.int .i64 i/\wr.ownsRow w.heap.size 48 2 v (Qg k l i).length (Js (Qg k l i))/\ah w.heap.size w wr) (fun _ x _=>l.length - (intOf x).toNat)
 case atStart=>exact ⟨0,by omega,rfl,a7.out,a8.out⟩
 case round =>
  obtain ⟨i,hi,rfl,T,U⟩:=hrel
  obtain ⟨d,rfl⟩:∃ d,d=wr:=⟨_,rfl⟩
  obtain ⟨o,s,rfl,a9⟩:=nL T
  have HO:Hid (d.ownsRow w.heap.size 48 2 (.slice o (Qg k l i).length s) (Qg k l i).length (Js (Qg k l i))):=T
  have L:Hid (ah w.heap.size w d):=U
  have b2:Hid (fE d o (Qg k l i)):=a9
  have b3:w.heap.size<=d.heap.size:=U.size
  clear T U a9 a7 a8
  by_cases V:i < l.length
  ·rcases (HS.out.below L.out) with h0 | ⟨b1,o1,rfl,d5,b4⟩
   ·rw [h0] at V;simp at V
   obtain ⟨q1,q2⟩:=b4 i V
   clear b4
   have Y:Hid (Qg k l (i+1)=Qg k l (i+1)):=by show _=_;rfl
   have d6:=A7 k l i
   by_cases b5:(Qg k l i).length < k
   ·obtain ⟨f,D⟩:∃ f,f=d.alloc (.cells #[.int .i64 (Ji l i).1,.string (Ji l i).2] 48):=⟨_,rfl⟩
    have H:ah d.heap.size d f:=by rw [D];exact (aj _ _).alloc (af _) _
    have b6:f.heap.size=d.heap.size+1:=by rw [D];simp
    have M:f.cell? ⟨d.heap.size,0,aa⟩=ab (.int .i64 (Ji l i).1):=by rw [D,ae _ _ _ _ rfl];rfl
    have Z:f.cell? ⟨d.heap.size,1,aa⟩=ab (.string (Ji l i).2):=by rw [D,ae _ _ _ _ rfl];rfl
    have a0:tK f 71 #[.pointer (ab ⟨d.heap.size,0,aa⟩)] (Qg k l i) (fun y=>y.1==(Ji l i).1):=fun j z w5 h5 =>
     JlM d.heap.size (Ji l i).1 (Ji (Qg k l i) j).1 (Ji (Qg k l i) j).2 w5 ((h5.cell (p:=⟨d.heap.size,0,aa⟩) (by show d.heap.size < _;omega)).trans M)
    have G:=n9 o (Qg k l i) s 71 #[.pointer (ab ⟨d.heap.size,0,aa⟩)] (fun y=>y.1==(Ji l i).1) f (by omega) (b2.out.below H) (enters_of func71 (by kernel_rfl) rfl) a0
    have a1:Hid (f=d.alloc (.cells #[.int .i64 (Ji l i).1,.string (Ji l i).2] 48)):=D
    have E:Hid (ah w.heap.size w f):=L.out.trans (H.mono b3)
    have I:Hid (f.ownsRow w.heap.size 48 2 (.slice o (Qg k l i).length s) (Qg k l i).length (Js (Qg k l i))):=aq HO.out (QD H aa) (by cases hv:(Value.slice o (Qg k l i).length s).ownBlock <;> simp)
    have d7:d.heap.size < f.heap.size:=by omega
    by_cases J:(Qg k l i).any (fun y=>y.1==(Ji l i).1)=zb
    ·have K:Hid (Qg k l (i+1)=Qg k l i):=tS J
     rw [J] at G
     clear J D H b6 M Z a0 Y
     generalize Qg k l i=h at *
     go_wp2_with fail
     rw [<- a1.out]
     refine G.mono ?_
     rintro e A ⟨rfl,B⟩
     have N:Hid (ah w.heap.size w A):=E.out.trans (B.mono E.out.size)
     have O:Hid (A.ownsRow w.heap.size 48 2 (.slice o h.length s) h.length (Js h)):=aq I.out (QD B aa) (by cases hv:(Value.slice o h.length s).ownBlock <;> simp)
     clear G B
     go_wp2
     go_roundw
     case rel=>exact ⟨i+1,by omega,by go_num,by rw [K.out];exact O.out,N.out⟩
     case measure=>simp [intOf];omega
    ·have a2:(Qg k l i).any (fun y=>y.1==(Ji l i).1)=false:=am.2 J
     have K:Hid (Qg k l (i+1)=Qg k l i ++ [Ji l i]):=rJ b5 a2
     rw [a2] at G
     have b7:Hid (∀ W,ah f.heap.size f W->W.cell? ⟨d.heap.size,0,aa⟩=ab (.int .i64 (Ji l i).1)/\W.cell? ⟨d.heap.size,1,aa⟩=ab (.string (Ji l i).2)):=fun W hW=>⟨(hW.cell (p:=⟨d.heap.size,0,aa⟩) (by show d.heap.size < _;omega)).trans M,(hW.cell (p:=⟨d.heap.size,1,aa⟩) (by show d.heap.size < _;omega)).trans Z⟩
     clear J a2 D H b6 M Z a0 Y
     generalize Qg k l i=h at *
     go_wp2_with fail
     rw [<- a1.out]
     refine G.mono ?_
     rintro e A ⟨rfl,B⟩
     have N:Hid (ah w.heap.size w A):=E.out.trans (B.mono E.out.size)
     have O:Hid (A.ownsRow w.heap.size 48 2 (.slice o h.length s) h.length (Js h)):=aq I.out (QD B aa) (by cases hv:(Value.slice o h.length s).ownBlock <;> simp)
     obtain ⟨r1,r2⟩:=b7.out A B
     have d8:w.heap.size<=A.heap.size:=N.out.size
     clear G B q1 q2 b7 a1 I E
     generalize Ji l i=xs at *
     obtain ⟨x,t⟩:=xs
     go_wp2_with (first | (at_builtin;refine wpList_append_own _ rfl (.tmp 26) (.tmp 28) 41 rfl w.heap.size 48 i1 (.agg #[.int .i64 0,.string ⟨#[]⟩]) 2 24 underlying41 a3 a4 a5 a6 rfl (by decide) (.slice o h.length s) h.length (Js h) rfl (az O.out _) ⟨A.heap.size,0,aa⟩ 1 1 [.int .i64 x,.string t] rfl rfl (fun j u z=>by match j,z with | 0,z=>(simp at z;subst z;simp [Addr.add]) | 1,z=>(simp at z;subst z;simp [Addr.add])) (fun u hu=>by simp at hu;rcases hu with rfl | rfl <;> rfl) (by unfold maxLen;omega) (by omega) (by simp;omega) ?_;intro v' w8 d0 d1 _))
     have d2:ah w.heap.size w w8:=(N.out.alloc (by omega) _).grown d1 (by simp;omega) (fun g hg=>(bu O.out g hg).1)
     go_roundw
     case rel=>exact ⟨i+1,by omega,by go_num,by rw [K.out,RY,ap,ax];exact d0,d2⟩
     case measure=>simp [intOf];omega
   ·have K:Hid (Qg k l (i+1)=Qg k l i):=qH b5
    have E:Hid (ah w.heap.size w (d.alloc (.cells #[.int .i64 (Ji l i).1,.string (Ji l i).2] 48))):=L.out.alloc b3 _
    have I:Hid ((d.alloc (.cells #[.int .i64 (Ji l i).1,.string (Ji l i).2] 48)).ownsRow w.heap.size 48 2 (.slice o (Qg k l i).length s) (Qg k l i).length (Js (Qg k l i))):=az HO.out _
    clear Y
    generalize Qg k l i=h at *
    go_wp2
    go_roundw
    case rel=>exact ⟨i+1,by omega,by go_num,by rw [K.out];exact I.out,E.out⟩
    case measure=>simp [intOf];omega
  ·have d3:i=l.length:=by omega
   subst d3
   go_wp2
   go_ret
   exact ⟨⟨o,s,rfl,b2.out⟩,L.out⟩
def QY (X:List Nat):Nat->Nat->Nat:=fun i j=>Gf.aQ X j i
theorem tW (X:List Nat) (i j:Nat):QY X i j < 256:=Gf.bL _ _ _
def iY (k:Nat) (X:List Nat):Nat->Nat->Lin.F:=fun i j=>Qm (rQ k (Gf.nth X i) j)
theorem CQ  (z:Gf.Bytes X) (J:X.Nodup) (A:X.length=k) (B:k<=256):∀ i j,i < k->j < k->Lin.mm k (Ym (QY X)) (iY k X) i j=Lin.one i j:=by
 obtain ⟨y,D⟩:=Lin.dR (IC k B)
 have o:=Lin.cK D
 have E:∀ i m,i < k->m < k->Lin.mm k (Lin.mm k (Ym (QY X)) (iY k X)) (Ym Gf.bZ) i m=Ym Gf.bZ i m:=fun i m f d=>by
  rw [Lin.cN]
  have G:Lin.mm k (Ym (QY X)) (Lin.mm k (iY k X) (Ym Gf.bZ)) i m=Lin.mm k (Ym (QY X)) (fun r m=>Qm (Gf.bZ (Gf.nth X r) m)) i m:=Lin.bQ k (fun _ _=>rfl) (fun r _=>by
   have:=Y6 (JB k) (tA k B) (sI k) (Gf.nth X r) m (z r) (by rw [JE];exact d)
   rw [JE] at this
   rw [<- this]
   exact Lin.aH fun t H=>by rw [p7 k t H];rfl)
  rw [G]
  have:=Y6 X z J i m (by omega) (by rw [A];exact d)
  rw [A] at this
  exact this
 intro i j f h
 have s:Lin.mm k (Lin.mm k (Ym (QY X)) (iY k X)) Lin.one i j=Lin.mm k (Lin.mm k (Ym (QY X)) (iY k X)) (Lin.mm k (Ym Gf.bZ) y) i j:=Lin.bQ k (fun _ _=>rfl) (fun m d=>(o m j d h).symm)
 rw [Lin.fK k _ i j h] at s
 rw [s,<- Lin.cN]
 have I:Lin.mm k (Lin.mm k (Lin.mm k (Ym (QY X)) (iY k X)) (Ym Gf.bZ)) y i j=Lin.mm k (Ym Gf.bZ) y i j:=Lin.bQ k (fun m d=>E i m f d) (fun _ _=>rfl)
 rw [I]
 exact o i j f h
theorem eN  (z:Gf.Bytes X) (A:X.Nodup) (B:X.length=k) (D:k<=256) {x:Nat->Nat->Nat} (E:∀ i j,x i j < 256) (h:∀ i j,i < k->j < k->Lin.mm k (Ym x) (iY k X) i j=Lin.one i j):∀ i j,i < k->j < k->x i j=QY X i j:=by
 have t:=Lin.cK (CQ z A B D)
 intro i j o s
 refine zA (E i j) (tW X i j) ?_
 have d:Lin.mm k (Ym x) Lin.one i j=Lin.mm k (Ym x) (Lin.mm k (iY k X) (Ym (QY X))) i j:=Lin.bQ k (fun _ _=>rfl) (fun m f=>(t m j f s).symm)
 rw [Lin.fK k _ i j s,<- Lin.cN] at d
 have y:Lin.mm k (Lin.mm k (Ym x) (iY k X)) (Ym (QY X)) i j=Lin.mm k Lin.one (Ym (QY X)) i j:=Lin.bQ k (fun m f=>h i m o f) (fun _ _=>rfl)
 rw [y,Lin.fJ k _ i j o] at d
 exact d
theorem vB {f d:Nat->Nat->Nat} (h:∀ i j,f i j < 256) (o:∀ j c,d j c < 256) (i c:Nat):∀ m,Qm (Jl f d i c m)=Lin.aL m (fun j=>Lin.mu (Qm (f i j)) (Qm (d j c)))
 | 0=>rfl
 | m+1=>by
  show Qm (Jl f d i c m ^^^ Gf.mul (f i m) (d m c))=Lin.ad (Lin.aL m _) _
  rw [qW (nD h i c m) (Gf.aV (h i m) _),vB h o i c m,oU (h i m) (o m c)]
theorem q7  (z:Gf.Bytes X) (A:X.Nodup) (B:X.length=k) (D:k<=256) (d:∀ j c,u j c < 256) (E:∀ j c,v j c < 256) (c:Nat) (G:∀ i,i < k->v i c=Jl (rQ k) u (Gf.nth X i) c k) (m:Nat) (f:m < k) :
 Jl (QY X) v m c k=u m c:=by
 refine zA (nD (tW X) _ _ _) (d m c) ?_
 rw [vB (tW X) E]
 have h:Lin.aL k (fun j=>Lin.mu (Qm (QY X m j)) (Qm (v j c)))=Lin.mm k (Ym (QY X)) (Lin.mm k (iY k X) (fun j _=>Qm (u j c))) m 0:=Lin.aH fun j o=>by
  rw [G j o,vB (TF k) d]
  rfl
 rw [h,<- Lin.cN]
 have s:Lin.mm k (Lin.mm k (Ym (QY X)) (iY k X)) (fun j _=>Qm (u j c)) m 0=Lin.mm k Lin.one (fun j _=>Qm (u j c)) m 0:=Lin.bQ k (fun t y=>CQ z A B D m t f y) (fun _ _=>rfl)
 rw [s,Lin.fJ k _ m 0 f]
theorem C4  (d:Gf.Bytes X) (f:X.Nodup) (o:X.length=k) (s:k<=256) (B:∀ j c,u j c < 256) (D:∀ j c,v j c < 256) (c:Nat) (h:∀ i,i < k->Jl (rQ k) u (Gf.nth X i) c k=Jl (rQ k) v (Gf.nth X i) c k) (m:Nat) (t:m < k):u m c=v m c:=by
 have y:=q7 d f o s (u:=u) (v:=fun i c=>Jl (rQ k) u (Gf.nth X i) c k) B (fun j c=>nD (TF k) _ _ _) c (fun _ _=>rfl) m t
 have z:=q7 d f o s (u:=v) (v:=fun i c=>Jl (rQ k) u (Gf.nth X i) c k) D (fun j c=>nD (TF k) _ _ _) c (fun i A=>h i A) m t
 rw [<- y,z]
theorem A0 {f g d:Nat->Nat->Nat} {i c:Nat}:∀ k,(∀ j,j < k->f i j=g i j)->Jl f d i c k=Jl g d i c k
 | 0,_=>rfl
 | k+1,h=>by
  show Jl f d i c k ^^^ _=Jl g d i c k ^^^ _
  rw [A0 k (fun j o=>h j (by omega)),h k (by omega)]
theorem s7 {f u v:Nat->Nat->Nat} {i c:Nat}:∀ k,(∀ j,j < k->u j c=v j c)->Jl f u i c k=Jl f v i c k
 | 0,_=>rfl
 | k+1,h=>by
  show Jl f u i c k ^^^ _=Jl f v i c k ^^^ _
  rw [s7 k (fun j d=>h j (by omega)),h k (by omega)]
def gF (g:Nat->Nat->Nat) (d m:Nat):List Nat:=(au m).flatMap fun i=>Qi d (g i)
theorem BG (g:Nat->Nat->Nat) (d m:Nat):gF g d (m+1)=gF g d m ++ Qi d (g m):=by simp [gF,List.range_succ]
theorem YV (g:Nat->Nat->Nat) (d:Nat):∀ m,(gF g d m).length=m*d
 | 0=>by rw [aW];rfl
 | m+1=>by rw [BG,ap,YV g d m,Jf,aY]
theorem OR {l:List Nat} (h:p < l.length):Gf.nth (l ++ r) p=Gf.nth l p:=by
 show (l ++ r).getD p 0=l.getD p 0
 rw [ac,ac,List.getElem?_append_left h]
theorem S2 {l:List Nat} (h:l.length<=p):Gf.nth (l ++ r) p=Gf.nth r (p - l.length):=by
 show (l ++ r).getD p 0=r.getD (p - l.length) 0
 rw [ac,ac,List.getElem?_append_right h]
theorem G4 (g:Nat->Nat->Nat) (d:Nat):∀ m p,p < m*d->Gf.nth (gF g d m) p=g (p / d) (p % d)
 | 0,p,h=>by rw [aW] at h;exact absurd h (aG _)
 | m+1,p,h=>by
  rw [BG]
  by_cases f:p < m*d
  ·rw [OR (by rw [YV];exact f)]
   exact G4 g d m p f
  ·have t : 0 < d := by
    rcases aA d with e | e
    ·rw [e,zd] at h;exact absurd h (aG _)
    ·exact e
   have j:p - m*d < d:=by rw [aY] at h;omega
   have y:p=d*m+(p - m*d):=by rw [aB d m];omega
   have o:p / d=m:=by
    have s:(d*m+(p - m*d)) / d=m:=by rw [Nat.mul_add_div t,Nat.div_eq_of_lt j,Nat.add_zero]
    rw [<- y] at s
    exact s
   have z:p % d=p - m*d:=by
    have:=Nat.mod_add_div p d
    rw [o,aB d m] at this
    omega
   rw [S2 (by rw [YV];omega),YV,Yq _ _ _ j,o,z]
theorem OE (g:Nat->Nat->Nat) (d m size:Nat) (h:size<=m*d):(gF g d m).take size=Qi size fun p=>g (p / d) (p % d):=by
 have j:((gF g d m).take size).length=size:=by rw [List.length_take,YV];omega
 refine BO (by rw [j,Jf]) fun p f=>?_
 rw [j] at f
 rw [Yq _ _ p f,<- G4 g d m p (by omega)]
 show ((gF g d m).take size).getD p 0=(gF g d m).getD p 0
 rw [ac,ac,List.getElem?_take_of_lt f]
theorem JcR {g:Nat->Nat->Nat} (h:∀ i c,g i c < 256) (d m:Nat):Gf.Bytes (gF g d m):=fun p=>by
 by_cases f:p < m*d
 ·rw [G4 g d m p f];exact h _ _
 ·rw [F0 (by rw [YV];omega)];decide
def Y2 (l:List Nat):List UInt8:=l.map fun n=>UInt8.ofNat n
theorem NP (l:List Nat):(Jp l).data.toList=Y2 l:=by
 unfold Jp Y2
 rw [strOfNums_data,aw]
 rfl
theorem RL (l:List Nat):Jp l=⟨(Y2 l).toArray⟩:=by
 unfold Jp strOfNums Y2
 rw [aw]
 rfl
theorem M7 (d:List (List UInt8)):Lib.join d []=d.flatten:=by
 cases d with
 | nil=>rfl
 | cons x r =>
  rw [Lib.join_cons]
  unfold Lib.joinTail
  simp
theorem NV (g:Nat->Nat->Nat) (d m:Nat):Lib.join (((au m).map fun i=>Jp (Qi d (g i))).map (·.data.toList)) []=Y2 (gF g d m):=by
 rw [M7,aw]
 unfold gF Y2
 rw [List.map_flatMap,List.flatMap_def]
 congr 1
 exact List.map_congr_left fun i _=>NP _
theorem SZ (l:List Nat) (size:Nat):(⟨(Y2 l).toArray⟩:ByteArray).extract 0 size=Jp (l.take size):=by
 rw [ByteArray.extract_mk,RL]
 congr 2
 unfold Y2
 rw [List.drop_zero,Nat.sub_zero,List.map_take]
theorem FX (d:1<=k):size<=k*Jk k size:=by
 rcases Nat.lt_or_ge (Jk k size*k) size with h | h
 ·exact absurd (RS d h) (aP _)
 ·rw [aB];exact h
def Xo (d:List (Int×ByteArray)):List Nat:=d.map fun x=>x.1.toNat
def Z2 (d:List (Int×ByteArray)):Nat->Nat->Nat:=fun j c=>Gf.nth (Zj (Ji d j).2) c
theorem EN (d:List (Int×ByteArray)) (j c:Nat):Z2 d j c < 256:=xK _ _
def gB (k size:Nat) (d:List (Int×ByteArray)):ByteArray:=Jp (Qi size fun p=>Jl (QY (Xo d)) (Z2 d) (p / Jk k size) (p % Jk k size) k)
theorem V3 (k size:Nat) (d:List (Int×ByteArray)):(gB k size d).size=size:=by
 unfold gB
 rw [xG,Jf]
theorem WB (k size:Nat) (d:List (Int×ByteArray)):Zj (gB k size d)=Qi size fun p=>Jl (QY (Xo d)) (Z2 d) (p / Jk k size) (p % Jk k size) k:=FK (XL _ _ fun _=>nD (tW _) _ _ _)
def hQ (n k:Nat) (size y:Int) (t:ByteArray):Bool:=decide (0<=size/\size<=1000/\0<=y/\y < n/\t.size=Jk k size.toNat)
theorem I1 (n k:Nat) (size y:Int) (t:ByteArray) (w:World) (L:1<=k) (Q:k<=n) (S:n<=12) :
 ar prog 50 #[.int .i64 (n:Int),.int .i64 (k:Int),.int .i64 size,.agg #[.int .i64 y,.string t]] w fun e w'=>e=.returned (.bool (hQ n k size y t))/\ah w.heap.size w w':=by
 obtain ⟨j,o⟩:∃ j,j=w.alloc (.cells #[.int .i64 y,.string t] 48):=⟨_,rfl⟩
 have D:Hid (ah w.heap.size w j):=by rw [o];exact (aj _ _).alloc (af _) _
 have M:j.cell? ⟨w.heap.size,0,aa⟩=ab (.int .i64 y):=by rw [o,ae _ _ _ _ rfl];rfl
 have N:j.cell? ⟨w.heap.size,1,aa⟩=ab (.string t):=by rw [o,ae _ _ _ _ rfl];rfl
 have E:Hid (j=w.alloc (.cells #[.int .i64 y,.string t] 48)):=o
 have G:Hid (∀ W,ar prog 26 #[.int .i64 (n:Int),.int .i64 (k:Int)] W fun e w'=>e=.returned (.bool zb)/\w'=W):=fun W=>by
  have h:=xC (n:Int) (k:Int) W
  rw [decide_eq_true (show (1:Int)<=(k:Int)/\(k:Int)<=(n:Int)/\(n:Int)<=12 by omega)] at h
  exact h
 clear o
 by_cases d:0<=size/\size<=1000
 ·have z:Hid (∀ W,ar prog 68 #[.int .i64 size] W fun e w'=>e=.returned (.bool zb)/\w'=W):=fun W=>GN _ W d
  by_cases A:0<=y
  ·have I:decide (0<=y)=true:=decide_eq_true A
   by_cases B:y < (n:Int)
   ·have J:decide (y < (n:Int))=true:=decide_eq_true B
    obtain ⟨s,rfl⟩:=Int.eq_ofNat_of_zero_le d.1
    have K:Hid (∀ W,ar prog 42 #[.int .i64 (s:Int),.int .i64 (k:Int)] W fun e w'=>e=.returned (.int .i64 ((Jk k s:Nat):Int))/\w'=W):=fun W=>zM s k W L (by omega) (by omega)
    have f:Hid (hQ n k (s:Int) y t=((t.size:Int)==((Jk k s:Nat):Int))):=by
     show _=_
     unfold hQ
     rw [al]
     by_cases H:t.size=Jk k s
     ·rw [decide_eq_true ⟨d.1,d.2,A,B,H⟩,H];simp
     ·rw [decide_eq_false (fun h=>H h.2.2.2.2)]
      symm
      rw [beq_eq_false_iff_ne]
      omega
    rw [f.out]
    clear d
    generalize Jk k s=O at *
    go_enter func50,ntmps50
    go_wp2_with (rw [<- E.out])
    go_quiet (first | (go_at_call 26;exact ag (G.out _)) | (go_at_call 68;exact ag (z.out _)) | (go_at_call 42;exact ag (K.out _)))
    go_wp2
    go_ret
    exact ⟨rfl,ay D.out _⟩
   ·have J:decide (y < (n:Int))=false:=decide_eq_false B
    have f:Hid (hQ n k size y t=aE):=decide_eq_false fun h=>B h.2.2.2.1
    rw [f.out]
    clear d B
    go_enter func50,ntmps50
    go_wp2_with (rw [<- E.out])
    go_quiet (first | (go_at_call 26;exact ag (G.out _)) | (go_at_call 68;exact ag (z.out _)))
    go_wp2
    go_ret
    exact ⟨rfl,ay D.out _⟩
  ·have I:decide (0<=y)=false:=decide_eq_false A
   have f:Hid (hQ n k size y t=aE):=decide_eq_false fun h=>A h.2.2.1
   rw [f.out]
   clear d A
   go_enter func50,ntmps50
   go_wp2_with (rw [<- E.out])
   go_quiet (first | (go_at_call 26;exact ag (G.out _)) | (go_at_call 68;exact ag (z.out _)))
   go_wp2
   go_ret
   exact ⟨rfl,ay D.out _⟩
 ·have z:Hid (∀ W,ar prog 68 #[.int .i64 size] W fun e w'=>e=.returned (.bool aE)/\w'=W):=fun W=>s9 _ W d
  have f:Hid (hQ n k size y t=aE):=decide_eq_false fun h=>d ⟨h.1,h.2.1⟩
  rw [f.out]
  clear d
  go_enter func50,ntmps50
  go_wp2_with (rw [<- E.out])
  go_quiet (first | (go_at_call 26;exact ag (G.out _)) | (go_at_call 68;exact ag (z.out _)))
  go_wp2
  go_ret
  exact ⟨rfl,ay D.out _⟩
theorem N5 {y:Int} {t:ByteArray} (o:size<=1000):(!hQ n k (size:Int) y t)=j4 (n:Int) (Jk k size) (y,t):=by
 unfold hQ j4
 rw [al]
 by_cases f:y < 0
 ·rw [decide_eq_false (fun h=>by omega),decide_eq_true f];rfl
 ·by_cases j:(n:Int)<=y
  ·rw [decide_eq_false (fun h=>by omega),decide_eq_true j];simp
  ·by_cases d:t.size=Jk k size
   ·rw [decide_eq_true ⟨by omega,by omega,by omega,by omega,d⟩,decide_eq_false f,decide_eq_false j,decide_eq_true d];rfl
   ·rw [decide_eq_false (fun h=>d h.2.2.2.2),decide_eq_false f,decide_eq_false j,decide_eq_false d];rfl
theorem WJ (j o s n k size:Nat) (y:Int) (t:ByteArray) (w:World) (O:1<=k) (Q:k<=n) (S:n<=12) (T:size<=1000) (A:w.cell? ⟨j,0,aa⟩=ab (.int .i64 (n:Int))) (B:w.cell? ⟨o,0,aa⟩=ab (.int .i64 (k:Int))) (D:w.cell? ⟨s,0,aa⟩=ab (.int .i64 (size:Int))) :
 ar prog 49 (#[.agg #[.int .i64 y,.string t]] ++ #[.pointer (ab ⟨j,0,aa⟩),.pointer (ab ⟨o,0,aa⟩),.pointer (ab ⟨s,0,aa⟩)]) w fun e z=>e=.returned (.bool (j4 (n:Int) (Jk k size) (y,t)))/\ah w.heap.size w z:=by
 have J:=Qf A
 have K:=Qf B
 have L:=Qf D
 have E:Hid ((!hQ n k (size:Int) y t)=j4 (n:Int) (Jk k size) (y,t)):=N5 T
 rw [<- E.out]
 obtain ⟨d,f⟩:∃ d,d=w.alloc (.cells #[.int .i64 y,.string t] 48):=⟨_,rfl⟩
 have h:ah w.heap.size w d:=by rw [f];exact (aj _ _).alloc (af _) _
 have G:Hid (ah w.heap.size w d):=h
 have U:d.cell? ⟨w.heap.size,0,aa⟩=ab (.int .i64 y):=by rw [f,ae _ _ _ _ rfl];rfl
 have V:d.cell? ⟨w.heap.size,1,aa⟩=ab (.string t):=by rw [f,ae _ _ _ _ rfl];rfl
 have W:d.cell? ⟨j,0,aa⟩=ab (.int .i64 (n:Int)):=(h.cell (p:=⟨j,0,aa⟩) J).trans A
 have Y:d.cell? ⟨o,0,aa⟩=ab (.int .i64 (k:Int)):=(h.cell (p:=⟨o,0,aa⟩) K).trans B
 have Z:d.cell? ⟨s,0,aa⟩=ab (.int .i64 (size:Int)):=(h.cell (p:=⟨s,0,aa⟩) L).trans D
 have M:Hid (d=w.alloc (.cells #[.int .i64 y,.string t] 48)):=f
 have H:=I1 n k (size:Int) y t d O Q S
 clear f h A B D E
 generalize hQ n k (size:Int) y t=fb at *
 go_enter func49,ntmps49
 go_wp2_with (rw [<- M.out])
 refine H.mono ?_
 rintro e z ⟨rfl,I⟩
 have N:Hid (ah w.heap.size w z):=G.out.trans (I.mono G.out.size)
 clear H I
 go_wp2
 go_ret
 exact ⟨rfl,N.out⟩
theorem D2 (A j c:Nat) (q:Option Addr) (H:Nat) (d:List (Int×ByteArray)) (w:World) (f:j < d.length) (B:c < (Ji d j).2.size) (J:w.cell? ⟨A,0,aa⟩=ab (.slice q d.length H)) (I:fE w q d) :
 ar prog 52 (#[.int .i64 (j:Int),.int .i64 (c:Int)] ++ #[.pointer (ab ⟨A,0,aa⟩)]) w fun e D=>e=.returned (.int .u8 ((Z2 d j c:Nat):Int))/\D=w:=by
 rcases I with E | ⟨b,o,rfl,_,h⟩
 ·rw [E] at f;simp at f
 obtain ⟨_,G⟩:=h j f
 have s:=EP (Ji d j).2 c B
 have z:Hid (Z2 d j c=Gf.nth (Zj (Ji d j).2) c):=by show _=_;rfl
 rw [z.out]
 clear h z
 generalize (Ji d j).2=t at G s B ⊢
 generalize Gf.nth (Zj t) c=y at s ⊢
 go_enter func52,ntmps52
 go_wp2
 go_ret
 exact ⟨rfl,rfl⟩
theorem xP {d:List (Int×ByteArray)} (f:i < d.length):Gf.nth (Xo d) i=(Ji d i).1.toNat:=by
 show (d.map _).getD i 0=(d.getD i _).1.toNat
 rw [ac,ac,ak,ai f]
 rfl
theorem RM  (h:X.length=k) {j:Nat} (o:i < k) (f:j < k):Qk (X.map (Xn k)) i j=iY k X i j:=by
 have d:Qh (X.map (Xn k)) i=Xn k (Gf.nth X i):=by
  show (X.map _).getD i []=_
  rw [ac,ak,ai (by omega),Gf.aK X i (by omega)]
  rfl
 show Qm (Gf.nth (Qh (X.map (Xn k)) i) j)=_
 rw [d]
 unfold Xn
 rw [Yq _ _ j f]
 rfl
theorem RN {g:Nat} {f j o:Nat->Nat} (B:X.length=k) (z:∀ x ∈ X,x < n) (h:w.rowIs g 32 k (fun i=>.slice (ab ⟨f (Gf.nth X i),j (Gf.nth X i),aa⟩) k (o (Gf.nth X i)))) (A:∀ x,x < n->jU w (ab ⟨f x,j x,aa⟩) (Xn k x)):QJ w (ab ⟨g,0,aa⟩) (X.map (Xn k)):=by
 refine Or.inr ⟨g,0,rfl,h.lt,fun i s=>?_⟩
 have d:i < X.length:=by simpa using s
 have t:Qh (X.map (Xn k)) i=Xn k (Gf.nth X i):=by
  show (X.map _).getD i []=_
  rw [ac,ak,ai d,Gf.aK X i d]
  rfl
 have y:Gf.nth X i ∈ X:=by rw [Gf.aK X i d];exact aD _
 rw [t,zc]
 refine ⟨ab ⟨f (Gf.nth X i),j (Gf.nth X i),aa⟩,o (Gf.nth X i),?_,A _ (z _ y),fun e=>by cases e⟩
 rw [h.cell (by omega)]
 unfold Xn
 rw [Jf]
structure l5 (n k size:Nat) (l:List (Int×ByteArray)):Prop where
 pK:l.any (j4 (n:Int) (Jk k size))=aE
 jS:(Qg k l l.length).length=k
theorem l5.at_  (h:l5 n k size l) {x:Int×ByteArray} (d:x ∈ l):0<=x.1/\x.1 < n/\x.2.size=Jk k size:=by
 have:=aC.1 h.pK x d
 unfold j4 at this
 simp only [Bool.or_eq_true,decide_eq_true_eq,Bool.not_eq_true',decide_eq_false_iff_not] at this
 omega
theorem l5.WE  (h:l5 n k size l):(∀ x ∈ Xo (Qg k l l.length),x < n)/\(Xo (Qg k l l.length)).Nodup/\(Xo (Qg k l l.length)).length=k:=by
 refine ⟨fun x j=>?_,?_,by unfold Xo;rw [ao];exact h.jS⟩
 ·obtain ⟨y,f,rfl⟩:=av.1 j
  have:=h.at_ (X9 k l l.length (af _) y f)
  omega
 ·have o:=sX k l l.length
  have e:Xo (Qg k l l.length)=((Qg k l l.length).map Prod.fst).map Int.toNat:=by
   unfold Xo
   rw [aw]
   rfl
  rw [e]
  refine List.Pairwise.map (R:=fun a b:Int=>a≠b/\0<=a/\0<=b) _ (fun a b d e=>d.1 (by have:=d.2;omega)) (List.Pairwise.imp_of_mem (fun s t d=>?_) o)
  ·obtain ⟨y,f,rfl⟩:=av.1 s
   obtain ⟨z,A,rfl⟩:=av.1 t
   exact ⟨d,(h.at_ (X9 k l l.length (af _) y f)).1,(h.at_ (X9 k l l.length (af _) z A)).1⟩
structure jF (w:World) (b n k size:Nat):Prop where
 c0:w.cell? ⟨b,0,aa⟩=ab (.int .i64 (n:Int))
 c1:w.cell? ⟨b+1,0,aa⟩=ab (.int .i64 (k:Int))
 c2:w.cell? ⟨b+1+1,0,aa⟩=ab (.int .i64 (size:Int))
theorem jF.below {w':World} {b:Nat} (h:jF w b n k size) (d:ah w.heap.size w w'):jF w' b n k size :=
 ⟨(d.cell (Qf h.c0)).trans h.c0,(d.cell (Qf h.c1)).trans h.c1,(d.cell (Qf h.c2)).trans h.c2⟩
theorem UN (w:World) (n k size:Nat) (t:TypeId):jF (((w.alloc (.cells #[.int .i64 (n:Int)] t)).alloc (.cells #[.int .i64 (k:Int)] t)).alloc (.cells #[.int .i64 (size:Int)] t)) w.heap.size n k size:=by
 have f:(w.alloc (.cells #[.int .i64 (n:Int)] t)).heap.size=w.heap.size+1:=by simp
 have h:((w.alloc (.cells #[.int .i64 (n:Int)] t)).alloc (.cells #[.int .i64 (k:Int)] t)).heap.size=w.heap.size+1+1:=by simp
 have j:ah (w.alloc (.cells #[.int .i64 (n:Int)] t)).heap.size (w.alloc (.cells #[.int .i64 (n:Int)] t)) ((w.alloc (.cells #[.int .i64 (n:Int)] t)).alloc (.cells #[.int .i64 (k:Int)] t)):=(aj _ _).alloc (af _) _
 have d:ah ((w.alloc (.cells #[.int .i64 (n:Int)] t)).alloc (.cells #[.int .i64 (k:Int)] t)).heap.size ((w.alloc (.cells #[.int .i64 (n:Int)] t)).alloc (.cells #[.int .i64 (k:Int)] t)) (((w.alloc (.cells #[.int .i64 (n:Int)] t)).alloc (.cells #[.int .i64 (k:Int)] t)).alloc (.cells #[.int .i64 (size:Int)] t)):=(aj _ _).alloc (af _) _
 refine ⟨?_,?_,?_⟩
 ·rw [d.cell (p:=⟨w.heap.size,0,aa⟩) (by show w.heap.size < _;omega),j.cell (p:=⟨w.heap.size,0,aa⟩) (by show w.heap.size < _;omega),ae _ _ _ _ rfl];rfl
 ·rw [d.cell (p:=⟨w.heap.size+1,0,aa⟩) (by show w.heap.size+1 < _;omega),ae _ _ _ _ f.symm];rfl
 ·rw [ae _ _ _ _ h.symm];rfl
theorem PX:(prog.info? 32).map (fun i=>(i.zero,i.size,i.bytes))=ab (ab (.slice aa 0 0),1,24):=by kernel_rfl
theorem LJ (n k size:Nat) (p:Option Addr) (l:List (Int×ByteArray)) (a9:Nat) (z:Addr) (w:World) (Q:1<=k) (f7:k<=n) (hn:n<=12) (n7:size<=1000) (hl:l.length<=1000) (hf:l5 n k size l) (hs:fE w p l)
 (hz:w.cell? ⟨2,0,aa⟩=ab (.iface 136 (.pointer (ab z)))) :
 ar prog 24 #[.int .i64 (n:Int),.int .i64 (k:Int),.int .i64 (size:Int),.slice p l.length a9] w fun e w'=>e=.returned (.tuple #[.string (gB k size (Qg k l l.length)),.nilIface])/\ah w.heap.size w w':=by
 have t3:=xR (size:=size) Q
 have f8:Hid (∀ x ∈ Qg k l l.length,0<=x.1/\x.1 < n/\x.2.size=Jk k size):=fun x H=>hf.at_ (X9 k l l.length (af _) x H)
 have f9:Hid (l.any (j4 (n:Int) (Jk k size))=aE):=hf.pK
 have a5:Hid (size<=k*Jk k size):=FX Q
 have D:Hid ((∀ x ∈ Xo (Qg k l l.length),x < n)/\(Xo (Qg k l l.length)).Nodup/\(Xo (Qg k l l.length)).length=k):=hf.WE
 have S:Hid ((Qg k l l.length).length=k):=hf.jS
 have g0:Hid (∀ W,fE W p l->ar prog 51 #[.int .i64 (k:Int),.slice p l.length a9] W fun e w'=>(∃ p' c',e=.returned (.slice p' k c')/\fE w' p' (Qg k l l.length))/\ah W.heap.size W w'):=fun W M=>by
  have h:=y8 k p l a9 W (by omega) hl M
  rw [S.out] at h
  exact h
 have g1:Hid (∀ W,ar prog 42 #[.int .i64 (size:Int),.int .i64 (k:Int)] W fun e w'=>e=.returned (.int .i64 ((Jk k size:Nat):Int))/\w'=W):=fun W=>zM size k W Q (by omega) (by omega)
 have b1:Hid (gB k size (Qg k l l.length)=Jp (Qi size fun p=>Jl (QY (Xo (Qg k l l.length))) (Z2 (Qg k l l.length)) (p / Jk k size) (p % Jk k size) k)):=by show _=_;rfl
 have g3:Hid (∀ y t W,W.cell? ⟨w.heap.size,0,aa⟩=ab (.int .i64 (n:Int))->W.cell? ⟨w.heap.size+1,0,aa⟩=ab (.int .i64 (k:Int))->W.cell? ⟨w.heap.size+1+1,0,aa⟩=ab (.int .i64 (size:Int))->ar prog 49 (#[.agg #[.int .i64 y,.string t]] ++ #[.pointer (ab ⟨w.heap.size,0,aa⟩),.pointer (ab ⟨w.heap.size+1,0,aa⟩),.pointer (ab ⟨w.heap.size+1+1,0,aa⟩)]) W fun e K=>e=.returned (.bool (j4 (n:Int) (Jk k size) (y,t)))/\ah W.heap.size W K):=fun y t W h0 h1 h2=>WJ w.heap.size (w.heap.size+1) (w.heap.size+1+1) n k size y t W Q f7 hn n7 h0 h1 h2
 clear hf
 generalize gB k size (Qg k l l.length)=dt at b1 ⊢
 generalize Jk k size=A at *
 generalize Qg k l l.length=f at *
 obtain ⟨I,a6⟩:∃ I,I=(((w.alloc (.cells #[.int .i64 (n:Int)] 3)).alloc (.cells #[.int .i64 (k:Int)] 3)).alloc (.cells #[.int .i64 (size:Int)] 3)):=⟨_,rfl⟩
 have a7:ah w.heap.size w I:=by rw [a6];exact (((aj _ _).alloc (af _) _).alloc (by simp) _).alloc (by simp;omega) _
 have a1:jF I w.heap.size n k size:=by rw [a6];exact UN w n k size _
 have p0:=a1.c0
 have p1:=a1.c1
 have p2:=a1.c2
 have g4:Hid (jF I w.heap.size n k size):=a1
 have b2:I.cell? ⟨2,0,aa⟩=ab (.iface 136 (.pointer (ab z))):=(a7.cell (p:=⟨2,0,aa⟩) (Qf hz)).trans hz
 have HS:=BZ n k size z I Q f7 hn n7 b2
 have g5:Hid (I=(((w.alloc (.cells #[.int .i64 (n:Int)] 3)).alloc (.cells #[.int .i64 (k:Int)] 3)).alloc (.cells #[.int .i64 (size:Int)] 3))):=a6
 have b3:Hid (ah w.heap.size w I):=a7
 have g6:Hid (fE I p l):=hs.below a7
 have b4:Hid (I.cell? ⟨2,0,aa⟩=ab (.iface 136 (.pointer (ab z)))):=b2
 obtain ⟨i1,g7,g8,g9,h5⟩:=info_parts PX
 have n8:∀ W:World,Sem.run prog (Instr.makeSlice 23 (.int .i64 (k:Int)) (.int .i64 (k:Int))) W=.ok (.slice (ab ⟨W.heap.size,0,aa⟩) k k) (W.alloc (.cells (an #[.slice aa 0 0] k) 32)):=fun W=>run_make_row (P:=prog) 23 32 i1 (.slice aa 0 0) underlying23 g7 g8 g9 rfl .i64 .i64 k (by rw [h5];omega) (by omega) W
 clear a6 a7 hz b2 hs g7 g8 g9 h5 a1
 go_enter func24,ntmps24
 go_wp2_with (rw [<- g5.out])
 refine HS.mono ?_
 rintro e K ⟨⟨Y,rfl,h6⟩,Z⟩
 have t4:I.heap.size<=K.heap.size:=Z.size
 have T:=g4.out.below Z
 have h7:Hid (jF K w.heap.size n k size):=T
 have q0:=T.c0
 have q1:=T.c1
 have q2:=T.c2
 have h8:Hid (QJ K (ab ⟨Y,0,aa⟩) (kK k n)):=h6
 have b6:Hid (ah w.heap.size w K):=b3.out.trans (Z.mono b3.out.size)
 have b7:Hid (fE K p l):=g6.out.below Z
 have b8:Hid (K.cell? ⟨2,0,aa⟩=ab (.iface 136 (.pointer (ab z)))):=(Z.cell (p:=⟨2,0,aa⟩) (Qf b4.out)).trans b4.out
 have HA:tK K 49 #[.pointer (ab ⟨w.heap.size,0,aa⟩),.pointer (ab ⟨w.heap.size+1,0,aa⟩),.pointer (ab ⟨w.heap.size+1+1,0,aa⟩)] l (j4 (n:Int) A):=fun i hi L h4=>by
  have H:=g3.out (Ji l i).1 (Ji l i).2 L ((T.below h4).c0) ((T.below h4).c1) ((T.below h4).c2)
  exact H
 have HC:=n9 p l a9 49 #[.pointer (ab ⟨w.heap.size,0,aa⟩),.pointer (ab ⟨w.heap.size+1,0,aa⟩),.pointer (ab ⟨w.heap.size+1+1,0,aa⟩)] (j4 (n:Int) A) K (by omega) b7.out (enters_of func49 (by kernel_rfl) rfl) HA
 rw [f9.out] at HC
 clear HS h6 Z b3 g5 g4 p0 p1 p2 g6 b4 T HA f9 g3
 go_wp2_with fail
 refine HC.mono ?_
 rintro e L ⟨rfl,V⟩
 have t5:K.heap.size<=L.heap.size:=V.size
 have d0:Hid (ah w.heap.size w L):=b6.out.trans (V.mono b6.out.size)
 have h9:Hid (QJ L (ab ⟨Y,0,aa⟩) (kK k n)):=h8.out.below V
 have d1:Hid (L.cell? ⟨2,0,aa⟩=ab (.iface 136 (.pointer (ab z)))):=(V.cell (p:=⟨2,0,aa⟩) (Qf b8.out)).trans b8.out
 have d2:=h7.out.below V
 have i0:Hid (jF L w.heap.size n k size):=d2
 have i2:=g0.out L (b7.out.below V)
 clear q0 q1 q2
 have q1:=d2.c1
 clear HC V b6 b7 h8 b8 h7 g0 d2
 go_wp2_with fail
 refine i2.mono ?_
 rintro e B ⟨⟨p5,c5,rfl,i3⟩,d3⟩
 have o1:L.heap.size<=B.heap.size:=d3.size
 obtain ⟨o,a2⟩:∃ o,o=B.alloc (.cells #[.slice p5 k c5] 41):=⟨_,rfl⟩
 have d4:ah B.heap.size B o:=by rw [a2];exact (aj _ _).alloc (af _) _
 have o9:B.heap.size < o.heap.size:=by rw [a2];simp
 have a3:ah L.heap.size L o:=d3.trans (d4.mono o1)
 have d5:Hid (ah w.heap.size w o):=d0.out.trans (a3.mono d0.out.size)
 have d6:Hid (fE o p5 f):=i3.below d4
 have i4:o.cell? ⟨B.heap.size,0,aa⟩=ab (.slice p5 k c5):=by rw [a2,ae _ _ _ _ rfl];rfl
 have d7:=i0.out.below a3
 have r1:=d7.c1
 have d8:Hid (o.cell? ⟨2,0,aa⟩=ab (.iface 136 (.pointer (ab z)))):=(a3.cell (p:=⟨2,0,aa⟩) (Qf d1.out)).trans d1.out
 obtain ⟨rb,ro,rc,p3,i5⟩:=O3 (h9.out.below a3) (by omega) Q
 have d9:Hid (∀ i,i < n->o.cell? ⟨Y,i,aa⟩=ab (.slice (ab ⟨rb i,ro i,aa⟩) k (rc i))/\jU o (ab ⟨rb i,ro i,aa⟩) (Xn k i)):=i5
 have i7:Hid (o=B.alloc (.cells #[.slice p5 k c5] 41)):=a2
 have i8:Hid (jF o w.heap.size n k size):=d7
 have i9:Hid (o.cell? ⟨B.heap.size,0,aa⟩=ab (.slice p5 k c5)):=i4
 clear i2 d3 d4 a3 i3 a2 i5 h9 d1 d0 i0 d7 q1
 rcases d6.out with h0 | ⟨N,O,p4,j0,j3⟩
 ·exact absurd S.out (by rw [h0];simp;omega)
 subst p4
 have e1:(o.alloc (.cells (an #[.slice aa 0 0] k) 32)).rowIs o.heap.size 32 k (fun _=>.slice aa 0 0):=World.rowIs_made o _ k _
 have e2:ah o.heap.size o (o.alloc (.cells (an #[.slice aa 0 0] k) 32)):=(aj _ _).alloc (af _) _
 have e3:Hid (∀ i,i < f.length->o.cell? ⟨N,O+i*2,aa⟩=ab (.int .i64 (Ji f i).1)/\o.cell? ⟨N,O+i*2+1,aa⟩=ab (.string (Ji f i).2)):=j3
 clear j3
 go_wp2_with (rw [<- i7.out])
 generalize o.alloc (.cells (an #[.slice aa 0 0] k) 32)=w7 at e1 e2 ⊢
 have j5:Hid (w7.rowIs (o.heap.size) 32 k (fun _=>.slice aa 0 0)):=e1
 have j6:Hid (ah o.heap.size o w7):=e2
 clear e1 e2 n8 r1 i4
 go_loopw [44] (fun x wr=>∃ i:Nat,i<=k/\x=.int .i64 i/\wr.rowIs (o.heap.size) 32 k (fun q=>if q < i then .slice (ab ⟨rb (Gf.nth (Xo f) q),ro (Gf.nth (Xo f) q),aa⟩) k (rc (Gf.nth (Xo f) q)) else .slice aa 0 0)/\ah o.heap.size o wr) (fun x _=>k - (intOf x).toNat)
 case atStart=>exact ⟨0,by omega,rfl,j5.out.congr (fun q _=>by simp),j6.out⟩
 case round =>
  obtain ⟨i,hi,rfl,hR,hB⟩:=hrel
  obtain ⟨s,rfl⟩:∃ s,s=wr:=⟨_,rfl⟩
  have HR:Hid (s.rowIs (o.heap.size) 32 k (fun q=>if q < i then .slice (ab ⟨rb (Gf.nth (Xo f) q),ro (Gf.nth (Xo f) q),aa⟩) k (rc (Gf.nth (Xo f) q)) else .slice aa 0 0)):=hR
  have E:Hid (ah o.heap.size o s):=hB
  have t6:o.heap.size < s.heap.size:=hR.lt
  clear hR hB j5 j6
  by_cases a4:i < k
  ·have hm:Ji f i ∈ f:=sE (by rw [S.out];exact a4)
   have H:=f8.out _ hm
   have e4:Gf.nth (Xo f) i=(Ji f i).1.toNat:=xP (by rw [S.out];exact a4)
   have j8:(Ji f i).1=((Gf.nth (Xo f) i:Nat):Int):=by rw [e4];omega
   have k3:Gf.nth (Xo f) i < n:=by rw [e4];omega
   have q1:s.cell? ⟨N,O+i*2,aa⟩=ab (.int .i64 ((Gf.nth (Xo f) i:Nat):Int)):=by
    rw [E.out.cell (p:=⟨N,O+i*2,aa⟩) j0,(e3.out i (by rw [S.out];exact a4)).1,j8]
   have q2:s.cell? ⟨N,O+i*2+1,aa⟩=ab (.string (Ji f i).2):=by
    rw [E.out.cell (p:=⟨N,O+i*2+1,aa⟩) j0,(e3.out i (by rw [S.out];exact a4)).2]
   have q3:s.cell? ⟨Y,Gf.nth (Xo f) i,aa⟩=ab (.slice (ab ⟨rb (Gf.nth (Xo f) i),ro (Gf.nth (Xo f) i),aa⟩) k (rc (Gf.nth (Xo f) i))):=by
    rw [E.out.cell (p:=⟨Y,Gf.nth (Xo f) i,aa⟩) p3,(d9.out _ k3).1]
   have q4:s.cell? ⟨o.heap.size,i,aa⟩=ab (.slice aa 0 0):=by rw [HR.out.cell a4,if_neg (aP _)]
   have q5:s.frozen? ⟨o.heap.size,i,aa⟩=false:=HR.out.frozen i
   have p9:Hid (Gf.nth (Xo f) i=Gf.nth (Xo f) i):=by show _=_;rfl
   have t7:Y < s.heap.size:=by have:=E.out.size;omega
   clear e4 j8 H hm
   generalize k8:Gf.nth (Xo f) i=x at q1 q3 k3
   have q6:Hid (Gf.nth (Xo f) i=x):=k8
   clear k8 p9
   go_wp2
   go_roundw
   case rel =>
    refine ⟨i+1,by omega,by go_num,?_,?_⟩
    ·refine ((HR.out.set i _).alloc _).congr (fun q _=>?_)
     by_cases e:q=i
     ·rw [if_pos e,if_pos (by omega),e,q6.out]
     ·rw [if_neg e]
      by_cases e':q < i
      ·rw [if_pos e',if_pos (by omega)]
      ·rw [if_neg e',if_neg (by omega)]
    ·exact (E.out.setCell (af _) _).alloc (by simp [World.setCell];exact E.out.size) _
   case measure=>simp [intOf];omega
  ·have q8:i=k:=by omega
   subst q8
   have k9:s.rowIs (o.heap.size) 32 i (fun q=>.slice (ab ⟨rb (Gf.nth (Xo f) q),ro (Gf.nth (Xo f) q),aa⟩) i (rc (Gf.nth (Xo f) q))):=HR.out.congr (fun q hq=>by rw [if_pos hq])
   have l0:QJ s (ab ⟨o.heap.size,0,aa⟩) ((Xo f).map (Xn i)):=RN D.out.2.2 D.out.1 k9 (fun x H=>(d9.out x H).2.below E.out)
   have l1:s.cell? ⟨2,0,aa⟩=ab (.iface 136 (.pointer (ab z))):=(E.out.cell (p:=⟨2,0,aa⟩) (Qf d8.out)).trans d8.out
   have e5:((Xo f).map (Xn i)).length=i:=by rw [ao];exact D.out.2.2
   have hM:jQ ((Xo f).map (Xn i)):=NN Q (by omega) D.out.2.2
   have l2:(Qh ((Xo f).map (Xn i)) 0).length=i:=by
    have h0:Qh ((Xo f).map (Xn i)) 0=Xn i (Gf.nth (Xo f) 0):=by
     show ((Xo f).map _).getD 0 []=_
     rw [ac,ak,ai (by rw [D.out.2.2];omega),Gf.aK _ 0 (by rw [D.out.2.2];omega)]
     rfl
    rw [h0]
    exact Jf _ _
   have HI:=FJ (ab ⟨o.heap.size,0,aa⟩) ((Xo f).map (Xn i)) i z s hM (by rw [l2,e5]) (LB i (Xo f)) l0 l1
   have l3:=OX hn D.out.2.2 D.out.2.1 D.out.1 f7
   unfold xQ at HI
   rw [e5] at HI
   have l6:Hid (Lin.cL i i (Qk ((Xo f).map (Xn i))) i):=l3
   have e9:Hid (ah w.heap.size w s):=d5.out.trans (E.out.mono d5.out.size)
   have l7:Hid (jF s w.heap.size n i size):=i8.out.below E.out
   have f0:Hid (s.cell? ⟨B.heap.size,0,aa⟩=ab (.slice (ab ⟨N,O,aa⟩) i c5)):=(E.out.cell (p:=⟨B.heap.size,0,aa⟩) o9).trans i9.out
   have l8:Hid (fE s (ab ⟨N,O,aa⟩) f):=d6.out.below E.out
   clear k9 l0 l1 e5 hM l2 l3 HR E e3 d9 d5 d6 d8 i8 i9 i7
   go_wp2_with fail
   refine HI.mono ?_
   rintro e J ⟨⟨d,hd,r0⟩,a0⟩
   have r2:d=i:=Lin.dY hd l6.out
   rcases r0 with ⟨t8,_⟩ | ⟨_,g2,x,rfl,l9,H,m0⟩
   ·omega
   have m1:Hid (∀ a b,a < i->b < i->x a b=QY (Xo f) a b):=eN (fun j=>by
    by_cases hj:j < (Xo f).length
    ·have:=D.out.1 (Gf.nth (Xo f) j) (by rw [Gf.aK _ j hj];exact aD _)
     omega
    ·rw [F0 (by omega)];decide) D.out.2.1 D.out.2.2 (by omega) H (fun a b ha hb=>by
     rw [<- m0 a b ha hb]
     exact Lin.bQ i (fun _ _=>rfl) (fun t ht=>(RM D.out.2.2 ht hb).symm))
   have t9:s.heap.size<=J.heap.size:=a0.size
   have a8:=l7.out.below a0
   have m2:Hid (jF J w.heap.size n i size):=a8
   have s1:=a8.c1
   have s2:=a8.c2
   have f1:J.cell? ⟨B.heap.size,0,aa⟩=ab (.slice (ab ⟨N,O,aa⟩) f.length c5):=by rw [S.out];exact (a0.cell (p:=⟨B.heap.size,0,aa⟩) (Qf f0.out)).trans f0.out
   have m3:fE J (ab ⟨N,O,aa⟩) f:=l8.out.below a0
   have m4:uI J 52 #[.pointer (ab ⟨B.heap.size,0,aa⟩)] (Z2 f) i A:=fun j c hj hc G m5=>by
    have U:j < f.length:=by rw [S.out];exact hj
    exact D2 B.heap.size j c _ c5 f G U (by rw [(f8.out _ (sE U)).2.2];exact hc) ((m5.cell (p:=⟨B.heap.size,0,aa⟩) (Qf f1)).trans f1) (m3.below m5)
   have m6:=F3 (ab ⟨g2,0,aa⟩) i i A i x (Z2 f) 52 #[.pointer (ab ⟨B.heap.size,0,aa⟩)] J Q (by omega) Q (by omega) (by omega) H (fun j c=>EN f j c) l9 (enters_of func52 (by kernel_rfl) rfl) m4
   have f2:Hid (ah w.heap.size w J):=e9.out.trans (a0.mono e9.out.size)
   have r3:Hid (∀ a b,x a b < 256):=H
   clear HI hd r2 a0 l9 H m0 f1 m3 m4 e9 l7 f0 l8 l6 a8
   go_wp2_with fail
   refine (g1.out _).mono ?_
   rintro e r4 ⟨rfl,m7⟩
   rw [m7]
   clear m7 r4 g1
   go_wp2_with fail
   refine m6.mono ?_
   rintro e G ⟨rfl,f3,f4⟩
   have U:(((au i).map fun q=>Jp (Qi A fun c=>Jl x (Z2 f) q c i))).length=i:=by simp
   have f5:Lib.join (((au i).map fun q=>Jp (Qi A fun c=>Jl x (Z2 f) q c i)).map (·.data.toList)) []=Y2 (gF (fun q c=>Jl x (Z2 f) q c i) A i):=NV (fun q c=>Jl x (Z2 f) q c i) A i
   have u3:i*A<=12*1000:=Nat.mul_le_mul (by omega) (by omega)
   have m8:J.heap.size < G.heap.size:=f3.lt
   have m9:=fun (W:World) (M:ah G.heap.size G W)=>strings_Join J.heap.size 0 i ((au i).map fun q=>Jp (Qi A fun c=>Jl x (Z2 f) q c i)) ⟨#[]⟩ W (fun j y hy=>by
    have n1:j < i:=by
     have:=(List.getElem?_eq_some_iff.1 hy).1
     rw [U] at this
     exact this
    rw [ak,List.getElem?_range n1] at hy
    have s0:Jp (Qi A fun c=>Jl x (Z2 f) j c i)=y:=Option.some.inj hy
    rw [zc,M.cell (p:=⟨J.heap.size,j,aa⟩) m8,f3.cell n1,<- s0]
    rfl) (Nat.lt_of_lt_of_le m8 M.size) (by rw [U];omega) (by rw [U];exact af _) (by
    show (Lib.join _ []).length<=_
    rw [f5]
    unfold Y2
    rw [ao,YV]
    omega)
   have HJ:∀ W,ah G.heap.size G W->ar prog 53 #[.slice (ab ⟨J.heap.size,0,aa⟩) i i,.string ⟨#[]⟩] W fun e w'=>e=.returned (.string ⟨(Y2 (gF (fun q c=>Jl x (Z2 f) q c i) A i)).toArray⟩)/\ah W.heap.size W w':=fun W M=>by
    have h:=m9 W M
    rw [U,show (⟨#[]⟩:ByteArray).data.toList=[] from rfl,f5] at h
    exact h
   clear m9
   have s8:∀ W,Sem.run prog (Instr.slice 9 (.string ⟨(Y2 (gF (fun q c=>Jl x (Z2 f) q c i) A i)).toArray⟩) aa (ab (.int .i64 (size:Int))) aa) W=.ok (.string dt) W:=fun W=>by
    rw [run_slice_string_h W 9 _ underlying9 .i64 (size:Int) (by omega) (by
     show (size:Int)<=(((Y2 (gF (fun q c=>Jl x (Z2 f) q c i) A i)).toArray.size:Nat):Int)
     unfold Y2
     rw [List.size_toArray,ao,YV]
     have:=a5.out
     omega),al,SZ,OE _ _ _ _ a5.out,b1.out]
    congr 3
    refine YL size _ _ (fun q hq=>?_)
    refine A0 i (fun j hj=>m1.out _ j ?_ hj)
    have hm:=a5.out
    have t0:0 < A:=by
     rcases aA A with e | e
     ·rw [e,zd] at hm;omega
     ·exact e
    rw [Nat.div_lt_iff_lt_mul t0]
    omega
   have n2:Hid (ah w.heap.size w G):=f2.out.trans (f4.mono f2.out.size)
   have f6:=m2.out.below f4
   have n6:Hid (jF G w.heap.size n i size):=f6
   clear s1 s2
   have s2:=f6.c2
   clear f6 m2
   clear m6 f3 f4 f2 U f5 m1 r3 b1 a5
   generalize (⟨(Y2 (gF (fun q c=>Jl x (Z2 f) q c i) A i)).toArray⟩:ByteArray)=st at HJ s8
   have t1:Hid (∀ W,ah G.heap.size G W->ar prog 53 #[.slice (ab ⟨J.heap.size,0,aa⟩) i i,.string ⟨#[]⟩] W fun e w'=>e=.returned (.string st)/\w'.cell? ⟨w.heap.size+1+1,0,aa⟩=ab (.int .i64 (size:Int))/\ah w.heap.size w w'):=fun W M=>(HJ W M).mono fun e w' ⟨he,hb⟩=>by
    have h3:ah G.heap.size G w':=M.trans (hb.mono M.size)
    exact ⟨he,(n6.out.below h3).c2,n2.out.trans (h3.mono n2.out.size)⟩
   clear HJ n6
   go_wp2
   go_region_with (go_at_call 53;refine (t1.out _ (by first | exact (Below.refl _ _).drew | exact Below.refl _ _)).mono ?_;rintro e u6 ⟨rfl,s3,t2⟩)
   all_goals (go_wp2;go_ret2;exact ⟨rfl,t2⟩)
end Go.Proofs.YtaaahibncffcmaaDoor

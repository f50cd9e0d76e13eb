/- Texts laid together. -/
import Derived.Test.YtppcijpgalaohaaGreatDoorGc1
import Derived.Deep.RegionHeld3
import Derived.Deep.QuietTactic
set_option maxRecDepth 10000
set_option maxHeartbeats 4000000
open Option renaming some->aa,none->ab,map_eq_some_iff->an
open Go renaming run_callFunc_extern->ac,bodyPost_ret->aj,Calls->ap,results->ay,Addr->aA,rounds_succ->za,Value->aP,wp_loop_rounds->aY,TypeId->ba,run_underlying->bf,loadCells->bw
open Nat renaming le_refl->ae,xor_zero->ar,xor_lt_two_pow->av,mod_two_eq_zero_or_one->aD,lt_of_lt_of_le->aE,lt_or_ge->aM,not_lt_zero->aN,xor_self->bc,zero_le->be,add_assoc->bi,pow_succ->bx,mod_lt->zq
open Go.World renaming cell?_alloc_at->af,frozen?->bn
open Go.RowKit renaming Below->ag
open Go.Op renaming bytesLess->ah
open List renaming mem_singleton->ai,length_cons->am,mem_filter->ao,mem_cons_self->aw,length_take->ax,mem_cons_of_mem->az,mem_append->aC,getD_eq_getElem?_getD->aF,getElem?_eq_getElem->aI,nodup_cons->aO,take_append_drop->zd,pairwise_append->zf,mem_of_mem_take->aW,mem_append_left->zg,mem_cons->bj
open Go.RowKit.Below renaming refl->ak
open Classical renaming byContradiction->al
open Or renaming inl->aq,inr->au
open Bool renaming true->aB,false->aJ,and_eq_true->zb,or_eq_true->aR
open Go.Result renaming andThen->aG
namespace Go.Proofs.YtppcijpgalaohaaGreatDoor
open Go.Proofs.Tryz
open Go.RowKit
variable {x y z:ByteArray}{b j d f:List ByteArray}{p q r:Nat×ByteArray}{h B c:Nat}{w:World}{l:List (Int×ByteArray)}{v:aP}
namespace Ring
def bl (x y:ByteArray):Prop:=ah x.toList y.toList=aB
theorem qM:∀ l:List UInt8,ah l l=aJ
 | []=>rfl
 | a :: l=>by simp [ah,qM l]
theorem GS:∀ {l m n:List UInt8},ah l m=aB->ah m n=aB->ah l n=aB
 | _,[],_,h,_=>by simp [ah] at h
 | _,_ :: _,[],_,h=>by simp [ah] at h
 | [],_ :: _,_ :: _,_,_=>rfl
 | a :: l,b :: m,c :: n,f,d=>by
  simp only [ah,aR,decide_eq_true_eq,zb,beq_iff_eq] at f d ⊢
  rcases f with f | ⟨o,f⟩
  ·rcases d with d | ⟨j,d⟩
   ·exact aq (UInt8.lt_trans f d)
   ·exact aq (j ▸ f)
  ·rcases d with d | ⟨j,d⟩
   ·exact aq (o ▸ d)
   ·exact au ⟨o.trans j,GS f d⟩
theorem xJ:∀ {l m:List UInt8},l≠m->ah l m=aB∨ah m l=aB
 | [],[],h=>absurd rfl h
 | [],_ :: _,_=>aq rfl
 | _ :: _,[],_=>au rfl
 | a :: l,b :: m,h=>by
  simp only [ah,aR,decide_eq_true_eq,zb,beq_iff_eq]
  by_cases e:a=b
  ·subst e
   rcases xJ (l:=l) (m:=m) (fun f=>h (by rw [f])) with j | j
   ·exact aq (au ⟨rfl,j⟩)
   ·exact au (au ⟨rfl,j⟩)
  ·rcases (show a < b ∨ b < a by
    rcases aM a.toNat b.toNat with d | d
    ·exact aq (UInt8.lt_iff_toNat_lt.2 d)
    ·exact au (UInt8.lt_iff_toNat_lt.2 (Nat.lt_of_le_of_ne d (fun f=>e (UInt8.toNat_inj.1 f.symm))))) with d | d
   ·exact aq (aq d)
   ·exact au (aq d)
theorem xD (x:ByteArray):¬ bl x x:=by
 unfold bl
 rw [qM]
 decide
theorem N7 (d:bl x y) (f:bl y z):bl x z:=GS d f
theorem MT {a b:ByteArray} (h:a.toList=b.toList):a=b:=by
 rw [ByteArray.toList_eq,ByteArray.toList_eq] at h
 exact ByteArray.ext (Array.toList_inj.1 h)
theorem FE (h:x≠y):bl x y∨bl y x:=xJ (fun e=>h (MT e))
def eV (p q:Nat×ByteArray):Prop:=p.1 < q.1∨p.1=q.1/\bl p.2 q.2
theorem vM (p:Nat×ByteArray):¬ eV p p:=fun h=>by
 rcases h with h | ⟨_,h⟩
 ·exact Nat.lt_irrefl _ h
 ·exact xD _ h
theorem FA (f:eV p q) (d:eV q r):eV p r:=by
 rcases f with f | ⟨j,f⟩
 ·rcases d with d | ⟨h,_⟩
  ·exact aq (Nat.lt_trans f d)
  ·exact aq (by omega)
 ·rcases d with d | ⟨h,d⟩
  ·exact aq (by omega)
  ·exact au ⟨j.trans h,N7 f d⟩
theorem wZ (h:p≠q):eV p q∨eV q p:=by
 obtain ⟨a,x⟩:=p
 obtain ⟨b,y⟩:=q
 rcases aM a b with f | f
 ·exact aq (aq f)
 ·rcases aM b a with j | j
  ·exact au (aq j)
  ·have e:a=b:=by omega
   subst e
   rcases FE (x:=x) (y:=y) (fun e=>h (by rw [e])) with d | d
   ·exact aq (au ⟨rfl,d⟩)
   ·exact au (au ⟨rfl,d⟩)
theorem Jb6 (d:eV p q) (f:eV q p):False:=vM _ (FA d f)
theorem LM (h:¬ eV q p) (f:eV q r):eV p r:=by
 by_cases e:p=q
 ·rw [e];exact f
 ·rcases wZ e with d | d
  ·exact FA d f
  ·exact absurd d h
theorem JdC (f:eV p q) (h:¬ eV r q):eV p r:=by
 by_cases e:q=r
 ·rw [<- e];exact f
 ·rcases wZ e with d | d
  ·exact FA f d
  ·exact absurd d h
def rW (f:Nat->Nat):Nat->Nat
 | 0=>f 0
 | n+1=>min (rW f n) (f (n+1))
theorem E5 (f:Nat->Nat):∀ n k,k<=n->rW f n<=f k
 | 0,k,h=>by
  obtain rfl:k=0:=by omega
  exact ae _
 | n+1,k,h=>by
  by_cases e:k=n+1
  ·rw [e];exact Nat.min_le_right _ _
  ·exact Nat.le_trans (Nat.min_le_left _ _) (E5 f n k (by omega))
theorem I0 (f:Nat->Nat):∀ n,∃ k,k<=n/\f k=rW f n
 | 0=>⟨0,ae _,rfl⟩
 | n+1=>by
  obtain ⟨k,d,e⟩:=I0 f n
  rcases Nat.le_total (rW f n) (f (n+1)) with h | h
  ·exact ⟨k,by omega,by rw [e];exact (Nat.min_eq_left h).symm⟩
  ·exact ⟨n+1,ae _,(Nat.min_eq_right h).symm⟩
def UJ (x:ByteArray) (k:Nat):ByteArray:=x ++ ⟨#[35]⟩ ++ Jp [48+k]
def Xy (s:ByteArray):Nat:=lV s s.size
theorem VX (s:ByteArray):Xy s < 4294967296:=B2 s _
def kG (x:ByteArray) (k:Nat):Nat:=Xy (UJ x k)
def rP (h a:Nat):Nat:=if a < h then a+4294967296 else a
def sL (h:Nat) (x:ByteArray) (k:Nat):Nat:=rP h (kG x k)
def iV (h:Nat) (x:ByteArray):Nat:=rW (sL h x) 7
theorem U0 (h:Nat) (x:ByteArray) (k:Nat) (d:k < 8):iV h x<=sL h x k:=E5 _ 7 k (by omega)
theorem TA (h:Nat) (x:ByteArray):∃ k,k < 8/\sL h x k=iV h x:=by
 obtain ⟨k,d,e⟩:=I0 (sL h x) 7
 exact ⟨k,by omega,e⟩
def tN (h:Nat) (x y:ByteArray):Prop:=eV (iV h x,x) (iV h y,y)
theorem JnW (h:Nat) (x:ByteArray):¬ tN h x x:=vM _
theorem Jdj  (d:tN h x y) (f:tN h y z):tN h x z:=FA d f
theorem Jdk  (d:x≠y):tN h x y∨tN h y x:=wZ (fun e=>d (by have:=congrArg Prod.snd e;exact this))
structure XC (h:Nat) (nodes out:List ByteArray):Prop where
 mem:∀ x ∈ out,x ∈ nodes
 ord:out.Pairwise (tN h)
 rest:∀ x ∈ nodes,x ∉ out->∀ y ∈ out,tN h y x
theorem XC.nil (h:Nat) (j:List ByteArray):XC h j []:=⟨fun _ d=>(by cases d),List.Pairwise.nil,fun _ _ _ _ f=>(by cases f)⟩
theorem XC.nodup  (o:XC h j d):d.Nodup:=by
 refine o.ord.imp ?_
 intro a b f e
 subst e
 exact JnW h a f
theorem XC.congr {o q:List ByteArray} (f:XC h j q) (s:∀ x,x ∈ j↔x ∈ o):XC h o q:=⟨fun x d=>(s x).1 (f.mem x d),f.ord,fun x d=>f.rest x ((s x).2 d)⟩
theorem XC.push  (o:XC h j f) (B:x ∈ j) (H:x ∉ f) (I:∀ z ∈ j,z ∉ f->z≠x->tN h x z):XC h j (f ++ [x]):=by
 refine ⟨fun y q=>?_,?_,fun z s t y q=>?_⟩
 ·rcases aC.1 q with d | d
  ·exact o.mem y d
  ·rw [ai.1 d];exact B
 ·refine zf.2 ⟨o.ord,List.pairwise_singleton _ _,fun a D b G=>?_⟩
  rw [ai.1 G]
  exact o.rest x B H a D
 ·have A:z ∉ f:=fun d=>t (zg _ d)
  rcases aC.1 q with d | d
  ·exact o.rest z s A y d
  ·rw [ai.1 d]
   exact I z s A (fun e=>t (by rw [e];exact List.mem_append_right _ (ai.2 rfl)))
theorem XC.next  (D:XC h f j) {a:Nat} (G:x ∈ f) (H:x ∉ j) (J:iV h x<=a) (I:∀ z ∈ f,z ∉ j->¬ eV (iV h z,z) (a,x)):XC h f (j ++ [x]):=by
 refine D.push G H fun z q s t=>?_
 have A:¬ eV (a,x) (iV h x,x):=fun d=>by
  rcases d with d | ⟨_,d⟩
  ·have:a < iV h x:=d
   omega
  ·exact xD _ d
 have B:(a,x)≠(iV h z,z):=fun e=>t (by have:=congrArg Prod.snd e;exact this.symm)
 rcases wZ B with o | o
 ·exact LM A o
 ·exact absurd o (I z q s)
theorem XC.unique {h:Nat}:∀ {a b d:List ByteArray},XC h d a->XC h d b->a.length=b.length->a=b
 | [],[],_,_,_,_=>rfl
 | [],_ :: _,_,_,_,hl=>by simp at hl
 | _ :: _,[],_,_,_,hl=>by simp at hl
 | x :: a,y :: b,d,ha,hb,hl=>by
  have first:∀ {x:ByteArray} {a:List ByteArray},XC h d (x :: a)->∀ z ∈ d,z≠x->tN h x z:=fun {x a} f z o s=>by
   by_cases A:z ∈ a
   ·exact (List.pairwise_cons.1 f.ord).1 z A
   ·exact f.rest z o (fun q=>by rcases bj.1 q with j | j;exact s j;exact A j) x aw
  have e:x=y:=al fun s=>by
   have q:=first ha y (hb.mem y aw) (fun e=>s e.symm)
   have j:=first hb x (ha.mem x aw) s
   exact Jb6 q j
  subst e
  have B:∀ {a:List ByteArray},XC h d (x :: a)->XC h (d.filter fun z=>decide (z≠x)) a:=fun {a} f=>by
   have D:x ∉ a:=(aO.1 f.nodup).1
   refine ⟨fun z o=>ao.2 ⟨f.mem z (az _ o),?_⟩,(List.pairwise_cons.1 f.ord).2,fun z o G w H=>?_⟩
   ·exact decide_eq_true (fun e=>D (e ▸ o))
   ·obtain ⟨q,j⟩:=ao.1 o
    exact f.rest z q (fun I=>by rcases bj.1 I with t | t;exact (of_decide_eq_true j) t;exact G t) w (az _ H)
  rw [XC.unique (B ha) (B hb) (by simpa using hl)]
theorem XC.take {t:List ByteArray} (j:XC h t f) (m:Nat):XC h t (f.take m):=by
 refine ⟨fun x o=>j.mem x (aW o),j.ord.sublist (List.take_sublist _ _),fun x o A y s=>?_⟩
 by_cases q:x ∈ f
 ·have B : x ∈ f.drop m := by
   rw [<- zd m f] at q
   rcases aC.1 q with d | d
   ·exact absurd d A
   ·exact d
  have d:=j.ord
  rw [<- zd m f] at d
  exact (zf.1 d).2.2 y s x B
 ·exact j.rest x o q y (aW s)
theorem JbT (j:b.Nodup) (x:ByteArray):b.length<=(b.filter fun z=>decide (z≠x)).length+1:=by
 induction b with
 | nil=>simp
 | cons y b ih =>
  obtain ⟨d,f⟩:=aO.1 j
  by_cases e:y=x
  ·subst e
   have:(b.filter fun z=>decide (z≠y))=b:=List.filter_eq_self.2 fun z h=>decide_eq_true (fun e=>d (e ▸ h))
   rw [List.filter_cons_of_neg (by simp),this]
   exact ae _
  ·have:=ih f
   simp only [am]
   rw [List.filter_cons_of_pos (by simpa using e)]
   simp only [am]
   omega
theorem JdH {a:List ByteArray} {d:ByteArray} (G:d ∉ j) (H:XC h j a) (o:XC h (j ++ [d]) b) (I:a.length=b.length) :
 (b.filter fun z=>decide (z≠d))=a.take (b.filter fun z=>decide (z≠d)).length/\b.length<=(b.filter fun z=>decide (z≠d)).length+1:=by
 have t:XC h j (b.filter fun z=>decide (z≠d)):=by
  refine ⟨fun x f=>?_,o.ord.sublist List.filter_sublist,fun x f A y B=>?_⟩
  ·obtain ⟨q,D⟩:=ao.1 f
   rcases aC.1 (o.mem x q) with s | s
   ·exact s
   ·exact absurd (ai.1 s) (of_decide_eq_true D)
  ·refine o.rest x (zg _ f) (fun q=>A (ao.2 ⟨q,decide_eq_true (fun e=>G (e ▸ f))⟩)) y (ao.1 B).1
 refine ⟨XC.unique t (H.take _) ?_,JbT o.nodup d⟩
 have:(b.filter fun z=>decide (z≠d)).length<=b.length:=List.length_filter_le _ _
 rw [ax,I]
 omega
theorem KO:∀ {l m:List ByteArray},l.Nodup->l ⊆ m->l.length<=m.length
 | [],_,_,_=>be _
 | x :: l,m,hn,hs=>by
  obtain ⟨f,h⟩:=aO.1 hn
  have j:x ∈ m:=hs aw
  have o:l ⊆ m.filter fun z=>decide (z≠x):=fun y d=>ao.2 ⟨hs (az _ d),decide_eq_true (fun e=>f (by rw [<- e];exact d))⟩
  have q:=KO h o
  have s:(m.filter fun z=>decide (z≠x)).length < m.length:=List.length_filter_lt_length_iff_exists.2 ⟨x,j,by simp⟩
  simp only [am]
  omega
theorem o5 (s:d.Nodup) (t:f.length < d.length):∃ x ∈ d,x ∉ f:=al fun j=>by
 have o:d ⊆ f:=fun x q=>al fun h=>j ⟨x,q,h⟩
 have:=KO s o
 omega
end Ring
section
open Ring
def I9 (w:World) (ad:Nat->aA) (B:Nat) (d:List ByteArray) (h:Nat) (n:Int) (e:Ending):Prop :=
 (0 < (Jm d n).1/\∃ q c j,e=.returned (.tuple #[.slice q 0 c,j])/\Jd w ad j (Jm d n).1 (Jm d n).2) ∨
 (¬ 0 < (Jm d n).1/\∃ v f,e=.returned (.tuple #[v,.nilIface])/\Zq w B v f/\(f.length:Int)=n/\XC h d f)
structure P7 (ad:Nat->aA):Prop where
 check:∀ (p:Option aA) (l:List ByteArray) (c:Nat) (w:World),l.length<=1000->l.length<=c->(∀ x ∈ l,x.size<=1000)->Strs w p l->i7 w ad ->
  ap prog 8 #[.slice p l.length c] w fun e w'=>(∃ ev,e=.returned ev/\Jd w' ad ev (Xj l).1 (Xj l).2)/\ag w.heap.size w w'
 jD:∀ (p:Option aA) (l:List ByteArray) (c:Nat) (key:ByteArray) (n:Int) (w:World),l.length<=1000->l.length<=c->(∀ x ∈ l,x.size<=1000)->key.size<=1000->Strs w p l->i7 w ad ->
  ap prog 11 #[.slice p l.length c,.string key,.int .i64 n] w fun e w'=>I9 w' ad w.heap.size l (Xy key) n e/\ag w.heap.size w w'
theorem x7:(Jm [⟨#[97]⟩] 1).1=0:=by decide +kernel
theorem o7 (ad:Nat->aA) (w:World) (L:P7 ad) (M:i7 w ad) :
 ap prog 5 #[] w fun e N=>e=.returned (.bool aB)/\ag w.heap.size w N:=by
 obtain ⟨d,f⟩:∃ d,d=w.alloc (.cells #[.string ⟨#[97]⟩] 9):=⟨_,rfl⟩
 have h:ag w.heap.size w d:=by rw [f];exact (ak _ _).alloc (ae _) _
 have j:Strs d (aa ⟨w.heap.size,0,ab⟩) [⟨#[97]⟩]:=au ⟨w.heap.size,0,rfl,by rw [f];simp,fun i O=>by
  obtain rfl:i=0:=by simpa using O
  rw [f,af _ _ _ _ rfl]
  rfl⟩
 have s:=L.jD (aa ⟨w.heap.size,0,ab⟩) [⟨#[97]⟩] 1 ⟨#[107]⟩ 1 d (by decide) (by decide) (fun x Q=>by rw [ai.1 Q];decide) (by decide) j (M.below h)
 have R:Hid (d=w.alloc (.cells #[.string ⟨#[97]⟩] 9)):=f
 have t:Hid (ag w.heap.size w d):=h
 clear f h j M L
 go_enter func5,ntmps5
 go_wp2_with fail
 rw [<- R.out]
 refine s.mono ?_
 rintro e A ⟨S,B⟩
 rcases S with ⟨D,_⟩ | ⟨_,v,G,rfl,H,I,J⟩
 ·rw [x7] at D;exact absurd D (by decide)
 have T:G=[⟨#[97]⟩]:=by
  match G,I with
  | [x],_=>rw [ai.1 (J.mem x (ai.2 rfl))]
 subst T
 obtain ⟨q,c,rfl,U,_,_,_⟩:=H.form
 rcases U with V | ⟨b,o,rfl,Z,K⟩
 ·cases V
 have q1:A.cell? ⟨b,o,ab⟩=aa (.string ⟨#[97]⟩):=K 0 (by decide)
 have W:Hid (ag w.heap.size w A):=t.out.trans (B.mono t.out.size)
 clear B K H J s I
 have Y:([⟨#[97]⟩]:List ByteArray).length=1:=rfl
 rw [Y]
 go_wp2
 go_ret
 exact ⟨rfl,W.out⟩
end
theorem j1 (c:Int) (w:World):ap prog 16 #[.int .i64 c] w fun e d=>e=.returned (.agg #[.int .i64 c,.int .i64 (-1)])/\ag w.heap.size w d:=by
 go_enter func16,ntmps16
 go_wp2
 refine aj (v:=.agg #[.int .i64 c,.int .i64 (-1)]) (by simp [ay,results16,go_sem]) rfl ⟨rfl,?_⟩
 exact (ak _ _).alloc (ae _) _
theorem y0 (w:World):ap prog 22 #[] w fun e d=>e=.returned (.agg #[.int .i64 0,.int .i64 (-1)])/\ag w.heap.size w d:=by
 go_enter func22,ntmps22
 go_wp2
 refine aj (v:=.agg #[.int .i64 0,.int .i64 (-1)]) (by simp [ay,results22,go_sem]) rfl ⟨rfl,?_⟩
 exact (ak _ _).alloc (ae _) _
theorem hJ (w:World) (t:ba) (d:World) (h:ag (w.alloc (.cells #[.int .i64 0,.int .i64 0] t)).heap.size (w.alloc (.cells #[.int .i64 0,.int .i64 0] t)) d) :
 d.cell? ⟨w.heap.size,0,ab⟩=aa (.int .i64 0)/\d.cell? ⟨w.heap.size,1,ab⟩=aa (.int .i64 0)/\d.frozen? ⟨w.heap.size,0,ab⟩=aJ/\d.frozen? ⟨w.heap.size,1,ab⟩=false:=by
 have f:w.heap.size < (w.alloc (.cells #[.int .i64 0,.int .i64 0] t)).heap.size:=by simp
 refine ⟨(h.cell (p:=⟨w.heap.size,0,ab⟩) f).trans ?_,(h.cell (p:=⟨w.heap.size,1,ab⟩) f).trans ?_,(h.frozen (p:=⟨w.heap.size,0,ab⟩) f).trans ?_,(h.frozen (p:=⟨w.heap.size,1,ab⟩) f).trans ?_⟩
 ·rw [af _ _ _ _ rfl];rfl
 ·rw [af _ _ _ _ rfl];rfl
 ·unfold bn;rw [heap_alloc_new];rfl
 ·unfold bn;rw [heap_alloc_new];rfl
theorem hU {d:World} {t:ba} (f:ag (w.alloc (.cells #[.int .i64 0,.int .i64 0] t)).heap.size (w.alloc (.cells #[.int .i64 0,.int .i64 0] t)) d):ag w.heap.size w d :=
 ((ak _ w).alloc (ae _) _).trans (f.mono (by simp))
theorem X1 {d:World} (f:ag w.heap.size w d) (a b:aP):ag w.heap.size w ((d.setCell ⟨w.heap.size,0,ab⟩ a).setCell ⟨w.heap.size,1,ab⟩ b):=by
 refine (f.setCell ?_ _).setCell ?_ _ <;> exact ae _
theorem JaW (p:Option aA) (l:List ByteArray) (c:Nat) (w:World) (B:l.length<=1000000) (h:l.length < 1∨16 < l.length) :
 ap prog 10 #[.slice p l.length c] w fun e s=>e=.returned (.agg #[.int .i64 2,.int .i64 (-1)])/\ag w.heap.size w s:=by
 rcases h with h | h
 ·go_enter func10,ntmps10
  go_wp2_with fail
  refine (j1 2 _).mono ?_
  rintro e f ⟨rfl,d⟩
  obtain ⟨j,o,t,A⟩:=hJ w _ f d
  have q:Hid (ag w.heap.size w f):=hU d
  clear d
  go_wp2
  refine aj (v:=.agg #[.int .i64 2,.int .i64 (-1)]) (by simp [ay,results10,go_sem,j,o]) rfl ⟨rfl,X1 q.out _ _⟩
 ·go_enter func10,ntmps10
  go_wp2_with fail
  refine (j1 2 _).mono ?_
  rintro e f ⟨rfl,d⟩
  obtain ⟨j,o,t,A⟩:=hJ w _ f d
  have q:Hid (ag w.heap.size w f):=hU d
  clear d
  go_wp2
  refine aj (v:=.agg #[.int .i64 2,.int .i64 (-1)]) (by simp [ay,results10,go_sem,j,o]) rfl ⟨rfl,X1 q.out _ _⟩
theorem y8 (p:Option aA) (l:List ByteArray) (c:Nat) (w:World) (h1:¬ l.length < 1) (h2:¬ 16 < l.length) (hc:l.length<=c) (ht:∀ x ∈ l,x.size<=1000000) (hs:Strs w p l) :
 ap prog 10 #[.slice p l.length c] w fun e B=>e=.returned (.agg #[.int .i64 (XO l 0 l.length).1,.int .i64 (XO l 0 l.length).2])/\ag w.heap.size w B:=by
 have M:Hid (∀ i,i < l.length->(Yc l i).size<=1000000):=fun i hi=>ht _ (oQ hi)
 have HS:Hid (Strs w p l):=hs
 have g1:decide ((l.length:Int) < 1)=false:=decide_eq_false (by omega)
 have g2:decide (16 < (l.length:Int))=false:=decide_eq_false (by omega)
 obtain ⟨b,o,rfl⟩:∃ b o,p=aa ⟨b,o,ab⟩:=by
  rcases hs with O | ⟨b,o,Q,_⟩
  ·rw [O] at h1;exact absurd (by decide) h1
  ·exact ⟨b,o,Q⟩
 clear hs ht
 obtain ⟨R,S⟩:∃ R,R=XO l 0 l.length:=⟨_,rfl⟩
 rw [<- S]
 have HR:Hid (R=XO l 0 l.length):=S
 clear S
 go_enter func10,ntmps10
 go_wp2
 have a4:Hid (ag (w.alloc (.cells #[.int .i64 0,.int .i64 0] 31)).heap.size (w.alloc (.cells #[.int .i64 0,.int .i64 0] 31)) (w.alloc (.cells #[.int .i64 0,.int .i64 0] 31))):=ak _ _
 have T:Hid (∀ d,ag (w.alloc (.cells #[.int .i64 0,.int .i64 0] 31)).heap.size (w.alloc (.cells #[.int .i64 0,.int .i64 0] 31)) d->(d.cell? ⟨w.heap.size,0,ab⟩=aa (.int .i64 0)/\d.cell? ⟨w.heap.size,1,ab⟩=aa (.int .i64 0)/\d.frozen? ⟨w.heap.size,0,ab⟩=aJ/\d.frozen? ⟨w.heap.size,1,ab⟩=aJ)/\ag w.heap.size w d):=fun d h=>⟨hJ w _ d h,hU h⟩
 generalize w.alloc (.cells #[.int .i64 0,.int .i64 0] 31)=w0 at a4 T ⊢
 go_loopw [3] (fun x d=>∃ i:Nat,i<=l.length/\x=.int .i64 i/\XO l i (l.length - i)=R/\ag w0.heap.size w0 d) (fun x _=>l.length - (intOf x).toNat)
 case atStart=>exact ⟨0,be _,rfl,HR.out.symm,a4.out⟩
 case round =>
  obtain ⟨i,hi,rfl,a5,U⟩:=hrel
  obtain ⟨f,rfl⟩:∃ f,f=wr:=⟨_,rfl⟩
  have q:Hid (XO l i (l.length - i)=R):=a5
  have V:Hid (ag w0.heap.size w0 f):=U
  obtain ⟨⟨Y,Z,f1,f2⟩,J⟩:=T.out f U
  have a8:Hid (ag w.heap.size w f):=J
  have a0:Hid (Strs f (aa ⟨b,o,ab⟩) l):=HS.out.below J
  clear a5 U J HR
  by_cases N:i < l.length
  ·have q3 : f.cell? ⟨b, o + i, ab⟩ = aa (.string (Yc l i)) := by
    rcases a0.out with O | ⟨b',o',Q,_,b1⟩
    ·rw [O] at N;exact absurd N (aN _)
    ·obtain ⟨rfl,rfl⟩:b=b'/\o=o':=by simpa using Q
     exact b1 i N
   have j:Hid (∀ W,ap prog 20 #[.string (Yc l i)] W fun e B=>e=.returned (.bool (Jo (Yc l i)))/\B=W):=fun W=>JbS _ W (M.out i N)
   have K:Hid ((l.take i).length=i):=by show _=_;rw [ax];omega
   have H:Hid (XO l i (l.length - i)=if Yu l i=0 then XO l (i+1) (l.length - (i+1)) else (((Yu l i:Nat):Int),(i:Int))):=by
    show _=_
    rw [show l.length - i=(l.length - (i+1))+1 by omega]
    rfl
   by_cases s:Jo (Yc l i)=aB
   ·by_cases I:Yc l i ∈ l.take i
    ·have D : Hid (R = (6, (i : Int))) := by
      show _=_
      rw [<- q.out,H.out,TL s I,if_neg (by decide)]
      rfl
     have L:Hid (∀ W,Strs W (aa ⟨b,o,ab⟩) (l.take i)->ap prog 21 #[.slice (aa ⟨b,o,ab⟩) (l.take i).length c,.string (Yc l i)] W fun e B=>e=.returned (.int .i64 ((ZJ (l.take i) (Yc l i):Nat):Int))/\B=W):=fun W hW=>oN _ _ c _ W (by rw [ax];omega) hW I
     rw [s] at j
     rw [K.out] at L
     have a2:Hid (Strs f (aa ⟨b,o,ab⟩) (l.take i)):=a0.out.take i
     clear q H M K s I
     generalize ZJ (l.take i) (Yc l i)=k at *
     generalize Yc l i=t at *
     go_wp2_with fail
     refine (j.out _).mono ?_
     rintro e G ⟨rfl,A⟩
     rw [A]
     clear A G j
     go_wp2
     go_quiet ((go_at_call 21;exact Calls.quiet_of_same (L.out _ (a2.out.drewN _))))
     go_wp2
     refine aj (v:=.agg #[.int .i64 R.1,.int .i64 R.2]) (by rw [D.out];simp [ay,results10,go_sem,Y,Z]) rfl ⟨rfl,?_⟩
     exact X1 (below_drewN a8.out _) _ _
    ·have D : Hid (XO l (i + 1) (l.length - (i + 1)) = R) := by
      show _=_
      rw [<- q.out,H.out,ET s I,if_pos rfl]
     have L:Hid (∀ W,Strs W (aa ⟨b,o,ab⟩) (l.take i)->ap prog 21 #[.slice (aa ⟨b,o,ab⟩) (l.take i).length c,.string (Yc l i)] W fun e B=>e=.returned (.int .i64 (-1))/\B=W):=fun W hW=>u9 _ _ c _ W (by rw [ax];omega) hW I
     rw [s] at j
     rw [K.out] at L
     have a2:Hid (Strs f (aa ⟨b,o,ab⟩) (l.take i)):=a0.out.take i
     clear q H M K s I
     generalize Yc l i=t at *
     go_wp2_with fail
     refine (j.out _).mono ?_
     rintro e G ⟨rfl,A⟩
     rw [A]
     clear A G j
     go_wp2
     go_quiet ((go_at_call 21;exact Calls.quiet_of_same (L.out _ (a2.out.drewN _))))
     go_wp2
     go_roundw
     case rel=>exact ⟨i+1,by omega,by go_num,D.out,below_drewN V.out _⟩
     case measure=>simp [intOf];omega
   ·have a3:Jo (Yc l i)=false:=Bool.eq_false_iff.2 s
    have D:Hid (R=(4,(i:Int))):=by
     show _=_
     rw [<- q.out,H.out,n5 a3,if_neg (by decide)]
     rfl
    rw [a3] at j
    clear q H M K s a3
    generalize Yc l i=t at *
    go_wp2_with fail
    refine (j.out _).mono ?_
    rintro e G ⟨rfl,A⟩
    rw [A]
    clear A G j
    go_wp2
    refine aj (v:=.agg #[.int .i64 R.1,.int .i64 R.2]) (by rw [D.out];simp [ay,results10,go_sem,Y,Z]) rfl ⟨rfl,?_⟩
    exact X1 a8.out _ _
  ·have b2:i=l.length:=by omega
   subst b2
   have D:Hid (R=(0,-1)):=by
    show _=_
    rw [<- q.out,Nat.sub_self]
    rfl
   clear q
   go_wp2_with fail
   refine (y0 _).mono ?_
   rintro e G ⟨rfl,a9⟩
   obtain ⟨⟨r1,r2,e1,e2⟩,J⟩:=T.out G (V.out.trans (a9.mono V.out.size))
   clear Y Z f1 f2 a9
   go_wp2
   refine aj (v:=.agg #[.int .i64 R.1,.int .i64 R.2]) (by rw [D.out];simp [ay,results10,go_sem,r1,r2]) rfl ⟨rfl,?_⟩
   exact X1 J _ _
theorem p9 (p:Option aA) (l:List ByteArray) (c:Nat) (w:World) (f:l.length<=1000000) (j:l.length<=c) (o:∀ x ∈ l,x.size<=1000000) (q:Strs w p l) :
 ap prog 10 #[.slice p l.length c] w fun e d=>e=.returned (.agg #[.int .i64 (Xj l).1,.int .i64 (Xj l).2])/\ag w.heap.size w d:=by
 by_cases h:l.length < 1∨16 < l.length
 ·rw [E7 h]
  exact JaW p l c w f h
 ·rw [AB (by omega) (by omega)]
  exact y8 p l c w (by omega) (by omega) j o q
theorem BB (p:Option aA) (l:List ByteArray) (c:Nat) (n:Int) (w:World) (hl:l.length<=1000000) (hc:l.length<=c) (ht:∀ x ∈ l,x.size<=1000000) (hs:Strs w p l) :
 ap prog 12 #[.slice p l.length c,.int .i64 n] w fun e L=>e=.returned (.agg #[.int .i64 (Jm l n).1,.int .i64 (Jm l n).2])/\ag w.heap.size w L:=by
 have U:Hid (∀ W,Strs W p l->ap prog 10 #[.slice p l.length c] W fun e L=>e=.returned (.agg #[.int .i64 (Xj l).1,.int .i64 (Xj l).2])/\ag W.heap.size W L):=fun W hW=>p9 p l c W hl hc ht hW
 have V:Hid (Strs w p l):=hs
 have a2:Hid (0 < (Xj l).1->Jm l n=Xj l):=fun h=>by unfold Jm;rw [if_pos h]
 have a3:Hid (¬ 0 < (Xj l).1->(l.length:Int) < n->Jm l n=(8,-1)):=fun h o=>by unfold Jm;rw [if_neg h,if_pos o]
 have a4:Hid (¬ 0 < (Xj l).1->¬ (l.length:Int) < n->n < 0->Jm l n=(2,-1)):=fun h o A=>by unfold Jm;rw [if_neg h,if_neg o,if_pos A]
 have a5:Hid (¬ 0 < (Xj l).1->¬ (l.length:Int) < n->¬ n < 0->Jm l n=Xj l):=fun h o A=>by unfold Jm;rw [if_neg h,if_neg o,if_neg A]
 clear hs ht
 generalize Jm l n=R at *
 generalize Xj l=F at *
 obtain ⟨f,g⟩:=F
 go_enter func12,ntmps12
 go_wp2_with fail
 have G:Hid (∀ j,ag (w.alloc (.cells #[.int .i64 0,.int .i64 0] 31)).heap.size (w.alloc (.cells #[.int .i64 0,.int .i64 0] 31)) j->(j.cell? ⟨w.heap.size,0,ab⟩=aa (.int .i64 0)/\j.cell? ⟨w.heap.size,1,ab⟩=aa (.int .i64 0)/\j.frozen? ⟨w.heap.size,0,ab⟩=aJ/\j.frozen? ⟨w.heap.size,1,ab⟩=aJ)/\ag w.heap.size w j):=fun j h=>⟨hJ w _ j h,hU h⟩
 have M:Hid (Strs (w.alloc (.cells #[.int .i64 0,.int .i64 0] 31)) p l):=V.out.below ((ak _ _).alloc (ae _) _)
 have Y:Hid (w.heap.size < (w.alloc (.cells #[.int .i64 0,.int .i64 0] 31)).heap.size):=by show _ < _;simp
 generalize w.alloc (.cells #[.int .i64 0,.int .i64 0] 31)=w0 at G M Y ⊢
 refine (U.out _ M.out).mono ?_
 rintro e s ⟨rfl,Z⟩
 have N:Hid (ag w0.heap.size w0 s):=Z
 clear Z U M V
 obtain ⟨d,B⟩:∃ d,d=s.alloc (.cells #[.int .i64 f,.int .i64 g] 31):=⟨_,rfl⟩
 have O:ag w0.heap.size w0 d:=by rw [B];exact N.out.alloc N.out.size _
 have p1:d.cell? ⟨s.heap.size,0,ab⟩=aa (.int .i64 f):=by rw [B,af _ _ _ _ rfl];rfl
 have p2:d.cell? ⟨s.heap.size,1,ab⟩=aa (.int .i64 g):=by rw [B,af _ _ _ _ rfl];rfl
 obtain ⟨⟨H,I,f1,f2⟩,t⟩:=G.out d O
 have a0:Hid (ag w.heap.size w d):=t
 have J:Hid (ag w0.heap.size w0 d):=O
 have a8:Hid (w.heap.size≠s.heap.size):=by show _≠_;have:=Y.out;have:=N.out.size;omega
 have a9:=a8.out
 have K:Hid (d=s.alloc (.cells #[.int .i64 f,.int .i64 g] 31)):=B
 clear B t O
 by_cases h1:0 < f
 ·have q:Hid (R=(f,g)):=a2.out h1
  go_wp2_with (rw [<- K.out])
  refine aj (v:=.agg #[.int .i64 R.1,.int .i64 R.2]) (by rw [q.out];simp [ay,results12,go_sem,H,I]) rfl ⟨rfl,?_⟩
  exact X1 a0.out _ _
 have b1:f<=0:=by omega
 by_cases o:(l.length:Int) < n
 ·have q:Hid (R=(8,-1)):=a3.out (by omega) o
  go_wp2_with (rw [<- K.out])
  refine (j1 8 _).mono ?_
  rintro e Q ⟨rfl,D⟩
  obtain ⟨⟨S,T,e1,e2⟩,t⟩:=G.out Q (J.out.trans (D.mono J.out.size))
  clear H I f1 f2 D p1 p2
  go_wp2
  refine aj (v:=.agg #[.int .i64 R.1,.int .i64 R.2]) (by rw [q.out];simp [ay,results12,go_sem,S,T]) rfl ⟨rfl,?_⟩
  exact X1 t _ _
 by_cases A:n < 0
 ·have q:Hid (R=(2,-1)):=a4.out (by omega) (by omega) A
  go_wp2_with (rw [<- K.out])
  refine (j1 2 _).mono ?_
  rintro e Q ⟨rfl,D⟩
  obtain ⟨⟨S,T,e1,e2⟩,t⟩:=G.out Q (J.out.trans (D.mono J.out.size))
  clear H I f1 f2 D p1 p2
  go_wp2
  refine aj (v:=.agg #[.int .i64 R.1,.int .i64 R.2]) (by rw [q.out];simp [ay,results12,go_sem,S,T]) rfl ⟨rfl,?_⟩
  exact X1 t _ _
 ·have q:Hid (R=(f,g)):=a5.out (by omega) (by omega) (by omega)
  go_wp2_with (rw [<- K.out])
  refine aj (v:=.agg #[.int .i64 R.1,.int .i64 R.2]) (by rw [q.out];simp [ay,results12,go_sem,H,I]) rfl ⟨rfl,?_⟩
  exact X1 a0.out _ _
theorem WU {q:Option aA} {l:List Nat} (h:jU w q l) (c:Nat):(convert 102 9 (.slice q l.length c)).run prog w=.ok (.string (Jp l)) w:=by
 rcases h.cells with d | ⟨b,o,rfl,s,j⟩
 ·subst d
  cases q with
  | none=>exact run_convert_bytes_nil w 102 5 underlying102 underlying5 0 c 9 underlying9
  | some ad =>
   have d:(bw ad 0).run prog w=.ok (([]:List Int).map (Value.int .u8)).toArray w:=by simp [bw,loadCellsFrom]
   rw [List.length_nil,run_convert_bytes_string w 102 9 5 _ 0 c underlying102 underlying5 underlying9,run_bytesToString w ad 0 c [] d]
   rfl
 ·refine run_convert_bytes_arg w 102 5 underlying102 underlying5 b o l.length c (l.map Int.ofNat) (by simp) (fun i f=>?_) 9 underlying9
  rw [j i f,Gf.aK l i f,aF,List.getElem?_map,aI f]
  rfl
theorem Jc1 (l m:List Nat):Jp l ++ Jp m=Jp (l ++ m):=by
 unfold Jp strOfNums
 apply ByteArray.ext
 simp
theorem x5 (n:Nat) (w:World) :
 ap prog 57 #[.int .i64 (n:Int)] w fun e d=>e=.returned (.string (Jp [n % 256]))/\ag w.heap.size w d:=by
 have j:Sem.run prog (convert 102 9 (.slice (aa ⟨w.heap.size,0,ab⟩) 1 1)) (w.alloc (.cells #[.int .u8 ((n:Int) % 256)] 5))=.ok (.string (Jp [n % 256])) (w.alloc (.cells #[.int .u8 ((n:Int) % 256)] 5)):=by
  have f:jU (w.alloc (.cells #[.int .u8 ((n:Int) % 256)] 5)) (aa ⟨w.heap.size,0,ab⟩) [n % 256]:=⟨fun i=>by
   match i with
   | 0=>show n % 256 < 256;omega
   | i+1=>show (([n % 256]:List Nat).getD (i+1) 0) < 256;simp,au ⟨w.heap.size,0,rfl,by simp,fun i h=>by
   obtain rfl:i=0:=by simpa using h
   rw [af _ _ _ _ rfl]
   show aa (Value.int .u8 ((n:Int) % 256))=aa (.int .u8 ((n % 256:Nat):Int))
   rw [Int.natCast_emod]
   rfl⟩⟩
  exact WU f 1
 go_enter func57,ntmps57
 go_wp2
 go_ret
 exact ⟨rfl,(ak _ _).alloc (ae _) _⟩
theorem H6 (k:Nat) (q:k < 10) (w:World):ap prog 38 #[.int .i64 (-(k:Int))] w fun e d=>e=.returned (.string (Jp [48+k]))/\ag w.heap.size w d:=by
 have f:Hid (∀ W,ap prog 57 #[.int .i64 (48+(k:Int))] W fun e d=>e=.returned (.string (Jp [48+k]))/\ag W.heap.size W d):=fun W=>by
  have h:=x5 (48+k) W
  rw [Nat.mod_eq_of_lt (by omega)] at h
  exact h
 go_enter func38,ntmps38
 go_wp2_with fail
 refine (f.out _).mono ?_
 rintro e o ⟨rfl,j⟩
 clear f
 go_wp2
 go_ret
 exact ⟨rfl,j⟩
theorem x2 (k:Nat) (j:k < 10) (w:World):ap prog 25 #[.int .i64 (k:Int)] w fun e f=>e=.returned (.string (Jp [48+k]))/\ag w.heap.size w f:=by
 have d:=H6 k j w
 go_enter func25,ntmps25
 go_wp2_with fail
 refine d.mono ?_
 rintro e o ⟨rfl,h⟩
 clear d
 go_wp2
 go_ret
 exact ⟨rfl,h⟩
theorem r7 (s:ByteArray) (w:World) (H:s.size<=1000000) :
 ap prog 24 #[.string s] w fun e d=>e=.returned (.int .i64 ((lV s s.size:Nat):Int))/\d=w:=by
 go_enter func24,ntmps24
 go_wp2
 go_loop [3,4] (fun c x=>∃ i:Nat,i<=s.size/\x=.int .i64 i/\c=.int .i64 ((lV s i:Nat):Int)) (fun _ x=>s.size - (intOf x).toNat)
 case atStart=>exact ⟨0,be _,rfl,rfl⟩
 case round =>
  obtain ⟨i,t,rfl,rfl⟩:=hrel
  have f:=B2 s i
  by_cases h:i < s.size
  ·have A:=EP s i h
   have B:=xK s i
   have j:Hid (lV s (i+1)=(lV s i ^^^ Gf.nth (bytesOf s) i)*16777619 % 4294967296):=by show _=_;rfl
   generalize lV s i=c at *
   generalize Gf.nth (bytesOf s) i=y at *
   have D:c ^^^ y < 4294967296:=av (n:=32) f (by omega)
   have G:bits .xor .i64 (c:Int) (y:Int)=((c ^^^ y:Nat):Int):=JbB _ _ (by omega) (by omega)
   generalize c ^^^ y=q at *
   go_wp2
   go_round
   case rel=>exact ⟨i+1,by omega,by go_num,by rw [j.out];congr 1⟩
   case measure=>simp [intOf];omega
  ·have o:i=s.size:=by omega
   subst o
   go_wp2
   go_ret
   exact ⟨rfl,rfl⟩
def b4 (p q:Nat×ByteArray):Bool:=decide (p.1 < q.1) || (decide (p.1=q.1) && ah p.2.toList q.2.toList)
theorem xL :b4 p q=aB↔Ring.eV p q:=by
 unfold b4 Ring.eV Ring.bl
 simp [aR,zb]
theorem H4 (a b:Nat) (x y:ByteArray) (w:World) :
 ap prog 26 #[.agg #[.int .i64 (a:Int),.string x],.agg #[.int .i64 (b:Int),.string y]] w fun e o=>e=.returned (.bool (b4 (a,x) (b,y)))/\ag w.heap.size w o:=by
 have f:Hid (ag w.heap.size w ((w.alloc (.cells #[.int .i64 (a:Int),.string x] 62)).alloc (.cells #[.int .i64 (b:Int),.string y] 62))):=((ak _ _).alloc (ae _) _).alloc (by simp) _
 by_cases h:a < b
 ·have d:Hid (b4 (a,x) (b,y)=aB):=by show _=_;unfold b4;simp [h]
  rw [d.out]
  go_enter func26,ntmps26
  go_wp2
  go_ret
  exact ⟨rfl,f.out⟩
 have q:decide ((a:Int) < (b:Int))=false:=decide_eq_false (by omega)
 by_cases j:a=b
 ·subst j
  have d:Hid (b4 (a,x) (a,y)=ah x.toList y.toList):=by show _=_;unfold b4;simp
  rw [d.out]
  go_enter func26,ntmps26
  go_wp2
  go_ret
  exact ⟨rfl,f.out⟩
 ·have d:Hid (b4 (a,x) (b,y)=aJ):=by show _=_;unfold b4;simp [h,j]
  rw [d.out]
  have s:((a:Int)==(b:Int))=false:=by
   rw [beq_eq_false_iff_ne]
   omega
  go_enter func26,ntmps26
  go_wp2
  go_ret
  exact ⟨rfl,f.out⟩
def Ji (l:List (Int×ByteArray)) (i:Nat):Int×ByteArray:=l.getD i (0,⟨#[]⟩)
def fE (w:World) (p:Option aA) (l:List (Int×ByteArray)):Prop :=
 l=[]∨∃ b o,p=aa ⟨b,o,ab⟩/\b < w.heap.size/\∀ i,i < l.length->w.cell? ⟨b,o+i*2,ab⟩=aa (.int .i64 (Ji l i).1)/\w.cell? ⟨b,o+i*2+1,ab⟩=aa (.string (Ji l i).2)
theorem fE.below {s:World} {p:Option aA} (h:fE w p l) (f:ag w.heap.size w s):fE s p l:=by
 rcases h with h | ⟨b,o,t,d,j⟩
 ·exact aq h
 ·exact au ⟨b,o,t,aE d f.size,fun i q=>⟨(f.cell (p:=⟨b,o+i*2,ab⟩) d).trans (j i q).1,(f.cell (p:=⟨b,o+i*2+1,ab⟩) d).trans (j i q).2⟩⟩
def Js (l:List (Int×ByteArray)):List Value:=l.flatMap fun x=>[.int .i64 x.1,.string x.2]
theorem Jbf (l:List (Int×ByteArray)):(Js l).length=l.length*2:=by
 induction l with
 | nil=>rfl
 | cons x t ih =>
  have:Js (x :: t)=.int .i64 x.1 :: .string x.2 :: Js t:=rfl
  rw [this,am,am,ih,am]
  omega
theorem DP:∀ (l:List (Int×ByteArray)) (i:Nat),i < l.length->(Js l)[i*2]?=aa (.int .i64 (Ji l i).1)/\(Js l)[i*2+1]?=aa (.string (Ji l i).2)
 | [],i,h=>absurd h (aN _)
 | x :: t,0,_=>⟨rfl,rfl⟩
 | x :: t,i+1,h=>by
  have d:=DP t i (by simpa using h)
  have e:Js (x :: t)=.int .i64 x.1 :: .string x.2 :: Js t:=rfl
  have f:Ji (x :: t) (i+1)=Ji t i:=rfl
  rw [e,f,show (i+1)*2=i*2+1+1 by omega,show i*2+1+1+1=i*2+1+1+1 from rfl]
  exact ⟨by simpa using d.1,by simpa using d.2⟩
theorem fE.cells {b o:Nat} (A:∀ i,i < l.length->w.cell? ⟨b,o+i*2,ab⟩=aa (.int .i64 (Ji l i).1)/\w.cell? ⟨b,o+i*2+1,ab⟩=aa (.string (Ji l i).2)):∀ j u,(Js l)[j]?=aa u->w.cell? ((⟨b,o,ab⟩:aA).add j)=aa u:=by
 intro j u d
 have t:j < (Js l).length:=(List.getElem?_eq_some_iff.1 d).1
 rw [Jbf] at t
 have h:j / 2 < l.length:=by omega
 have q:=DP l (j / 2) h
 have s:=A (j / 2) h
 rw [Addr.add_lit]
 rcases aD j with e | e
 ·have f:j=j / 2*2:=by omega
  rw [f] at d ⊢
  rw [q.1] at d
  rw [s.1,<- d]
 ·have f:j=j / 2*2+1:=by omega
  rw [f] at d ⊢
  rw [q.2] at d
  rw [<- bi,s.2,<- d]
theorem nL   {E:ba} (h:w.ownsRow B E 2 v l.length (Js l)):∃ p c,v=.slice p l.length c/\fE w p l:=by
 rcases h.2 with ⟨rfl,q⟩ | ⟨g,s,D,rfl,G,t,H,I,J,K⟩
 ·have:l=[]:=List.length_eq_zero_iff.1 q
  subst this
  exact ⟨ab,0,rfl,aq rfl⟩
 ·refine ⟨aa ⟨g,0,ab⟩,s,rfl,au ⟨g,0,rfl,(Array.getElem?_eq_some_iff.1 t).1,fun i A=>?_⟩⟩
  have d:=World.ownsRow.cells (g:=g) h rfl
  have f:=DP l i A
  have j:=d (i*2) _ f.1
  have o:=d (i*2+1) _ f.2
  rw [Addr.add_lit] at j o
  exact ⟨j,by rw [bi];exact o⟩
theorem Jb1 {P:Program} {d:Array Oper} {rest:List Oper} {o:Oper} {a:Act} {Q:Exit->Act->World->Prop} (D:o.guard=ab) (s x:Operand) (t:ba)
 (G:o.op=.call { callee:=.builtin .append,args:=#[s,x],argTypes:=#[t,t] })
 (e:ba) (i:TypeInfo) (f:P.underlying t=aa (.slice e)) (j:P.info? e=aa i)
 (H:a.eval s=.slice ab 0 0) (q:Option aA) (c:Nat) (I:a.eval x=.slice q 0 c) (J:q=ab->c=0)
 (h:wpList P d Q rest (a.put o.dst (.slice ab 0 0)) w):wpList P d Q (o :: rest) a w:=by
 refine wpList_plain D fun K A=>?_
 have B:(Builtin.append_ #[t,t] o.type #[.slice ab 0 0,.slice q 0 c]).run P w=.ok (.slice ab 0 0) w:=by
  cases q with
  | none=>obtain rfl:=J rfl;simp [Builtin.append_,bf f,sizeOf,typeInfo,j,Builtin.lenOf,Builtin.firstCells]
  | some ad=>simp [Builtin.append_,bf f,sizeOf,typeInfo,j,Builtin.lenOf,Builtin.firstCells,bw,loadCellsFrom]
 unfold Oper.wp execOp
 simp only [G,resolve,invoke,builtin,Sem.run_bind,Sem.run_pure,Result.andThen_ok,List.map_toArray,List.map_cons,List.map_nil,H,I,B]
 exact A _ _ h
section
open Ring
def pA (h:Nat) (d:List ByteArray) (j:Nat):Nat:=sL h (Yc d (j / 8)) (j % 8)
def pX (d:List ByteArray) (j:Nat):ByteArray:=Yc d (j / 8)
def Yr (h:Nat) (d:List ByteArray) (m:Nat):List (Int×ByteArray):=(List.range m).map fun j=>(((pA h d j:Nat):Int),pX d j)
theorem X4 (h:Nat) (d:List ByteArray) (m:Nat):(Yr h d m).length=m:=by simp [Yr]
theorem D9 (h:Nat) (d:List ByteArray) (m:Nat):Yr h d (m+1)=Yr h d m ++ [(((pA h d m:Nat):Int),pX d m)]:=by simp [Yr,List.range_succ]
theorem JcM (h:Nat) (d:List ByteArray) {m j:Nat} (f:j < m):Ji (Yr h d m) j=(((pA h d j:Nat):Int),pX d j):=by
 unfold Ji
 rw [aF,aI (by rw [X4];exact f)]
 simp [Yr]
theorem o6 (l:List (Int×ByteArray)) (x:Int×ByteArray):Js (l ++ [x])=Js l ++ [.int .i64 x.1,.string x.2]:=by simp [Js]
theorem T2:(prog.info? 62).map (fun i=>(i.zero,i.size,i.bytes))=aa (aa (.agg #[.int .i64 0,.string ⟨#[]⟩]),2,24):=by kernel_rfl
def b3 (w:World) (B:Nat) (v:aP) (d:List (Int×ByteArray)):Prop:=w.ownsRow B 62 2 v d.length (Js d)
theorem b3.kept {f:World}  (h:b3 w B v l) (d:ag w.heap.size w f):b3 f B v l :=
 World.ownsRow.kept (row:=ab) h ⟨d.os,d.tape,d.output,d.size,fun k j _=>d.block k j⟩ (by cases v.ownBlock <;> simp)
end
section
open Go.Extern.Stop Go.Stop Go.Extern
theorem v7 (v:aP) (d:ba) (w:World):(Instr.typeAssert (.iface 49 v) d 116 aB).run prog w=.ok (.tuple #[.nilIface,.bool aJ]) w:=run_typeAssert_lacksB underlying116 (by kernel_rfl) (by kernel_rfl) v d w
theorem pL (v:aP) (d:ba) (w:World):(Instr.typeAssert (.iface 49 v) d 112 aB).run prog w=.ok (.tuple #[.iface 49 v,.bool aB]) w:=run_typeAssert_hasB underlying112 (by kernel_rfl) v d w
theorem v8 (v:aP) (w:World):(Go.method 290 49 v "Unwrap").run prog w=.ok (113,v) w:=by kernel_rfl
theorem Jbz (d:Nat) (b:aA) (w:World) (M:w.cell? ⟨d,1,ab⟩=aa (.iface 158 (.pointer (aa b)))) :
 ap prog 30 #[.iface 49 (.pointer (aa ⟨d,0,ab⟩)),.iface 158 (.pointer (aa b))] w fun e f=>e=.returned (.bool aB)/\f=w:=by
 obtain ⟨i,h,o⟩:=an.1 hD
 obtain ⟨j,q,s⟩:=an.1 hY
 have t:=@ac prog 44 _ Extern.ReflectliteType.typeOf func44 (by kernel_rfl) (by kernel_rfl) (by kernel_rfl) (by kernel_rfl)
 have A:=@ac prog 119 _ e9 func119 (by kernel_rfl) (by kernel_rfl) (by kernel_rfl) (by kernel_rfl)
 have B:=e8
 have D:=hF
 have G:=Zx
 have H:=v7
 have I:=pL
 have J:=v8
 have K:=run_eql_iface_ptr_same (P:=prog) w b underlying27 underlying158 h o q
 have L:=run_eql_iface_types (P:=prog) 49 158 (.pointer (aa ⟨d,0,ab⟩)) (.pointer (aa b)) underlying27 (by decide) w
 go_enter func30,ntmps30
 go_wp2
 refine aY 2 ?_
 rw [za]
 go_wp2
 rw [za]
 go_wp2
 go_ret
 exact ⟨rfl,rfl⟩
theorem H7 (d:Nat) (a b:aA) (t A:Array aP) (B D:ba) (w:World) (Y:w.cell? ⟨d,1,ab⟩=aa (.iface 158 (.pointer (aa a)))) (G:a≠b) (H:w.heap[a.block]?=aa (.cells t B (0,0))) (I:w.heap[b.block]?=aa (.cells A D (0,0))) :
 ap prog 30 #[.iface 49 (.pointer (aa ⟨d,0,ab⟩)),.iface 158 (.pointer (aa b))] w fun e f=>e=.returned (.bool aJ)/\f=w:=by
 obtain ⟨i,h,o⟩:=an.1 hD
 obtain ⟨j,q,s⟩:=an.1 hY
 have J:=@ac prog 44 _ Extern.ReflectliteType.typeOf func44 (by kernel_rfl) (by kernel_rfl) (by kernel_rfl) (by kernel_rfl)
 have K:=@ac prog 119 _ e9 func119 (by kernel_rfl) (by kernel_rfl) (by kernel_rfl) (by kernel_rfl)
 have L:=e8
 have M:=hF
 have N:=Zx
 have O:=u0
 have Q:=k4
 have R:=k6
 have S:=v7
 have T:=pL
 have U:=v8
 have V:=run_eql_iface_ptr_other (P:=prog) w underlying27 underlying158 h o q (by rw [s];decide) G H I
 have W:=run_eql_iface_types (P:=prog) 49 158 (.pointer (aa ⟨d,0,ab⟩)) (.pointer (aa b)) underlying27 (by decide) w
 go_enter func30,ntmps30
 go_wp2
 refine aY 2 ?_
 rw [za]
 go_wp2
 rw [za]
 go_wp2
 go_ret
 exact ⟨rfl,rfl⟩
theorem JcU (v:aP) (w:World):(ReflectliteType.typeOf #[.iface 49 v]).run prog w=.ok (.iface 105 (.agg #[.pointer (aa ⟨16,49,ab⟩)])) w:=by kernel_rfl
theorem BL (w:World):(ReflectliteType.relation "AssignableTo" ReflectliteType.assignableTo #[.agg #[.pointer (aa ⟨16,49,ab⟩)],.iface 105 (.agg #[.pointer (aa ⟨16,49,ab⟩)])]).run prog w=.ok (.bool aB) w:=by kernel_rfl
theorem Jcy (e:aA) (w:World):(ReflectliteValue.unpack (.iface 49 (.pointer (aa e)))).run prog w
 = .ok (.agg #[.pointer (aa ⟨16,49,ab⟩),.pointer (aa ⟨w.heap.size,0,ab⟩),.int .u64 150]) (w.alloc (.cells #[.pointer (aa e)] 49)):=by kernel_rfl
theorem O5 (w:World):(Rtype.elem? 66).run prog w=.ok (aa 49) w:=by kernel_rfl
theorem y1 (p:aA) (w:World):(ReflectliteValue.mk 49 p ReflectliteValue.flagAddr).run prog w=.ok (.agg #[.pointer (aa ⟨16,49,ab⟩),.pointer (aa p),.int .u64 406]) w:=by kernel_rfl
theorem HY (a p:aA) (W:World) (d:W.cell? a=aa (.pointer (aa p))) :
 (ReflectliteValue.method (ReflectliteValue.valueError "reflectlite.Value.Elem" 0) ReflectliteValue.elem #[.agg #[.pointer (aa ⟨16,66,ab⟩),.pointer (aa a),.int .u64 150]]).run prog W
  = .ok (.agg #[.pointer (aa ⟨16,49,ab⟩),.pointer (aa p),.int .u64 406]) W:=by
 rw [sZ]
 simp only [Sem.run_bind,s5,aG]
 simp [ReflectliteValue.elem,loadVar,isAgg,underlying,underlying66,d,aG,O5,y1]
theorem D2 (a:aA) (w:World):(ReflectliteValue.parts (.agg #[.pointer (aa ⟨16,49,ab⟩),.pointer (aa a),.int .u64 406])).run prog w=.ok (aa (49,a,406)) w:=by kernel_rfl
theorem O3 (a:aA) (w:World):(ReflectliteValue.parts (.agg #[.pointer (aa ⟨16,49,ab⟩),.pointer (aa a),.int .u64 150])).run prog w=.ok (aa (49,a,150)) w:=by kernel_rfl
theorem JcX (w:World):(Rtype.directlyAssignable 49 49).run prog w=.ok aB w:=by kernel_rfl
theorem H3 (d b e:aA) (f:aP) (W:World) (h:W.cell? b=aa (.pointer (aa e))) (j:W.cell? d=aa f) (o:W.frozen? d=aJ) :
 (ReflectliteValue.set #[.agg #[.pointer (aa ⟨16,49,ab⟩),.pointer (aa d),.int .u64 406],.agg #[.pointer (aa ⟨16,49,ab⟩),.pointer (aa b),.int .u64 150]]).run prog W
  = .ok (.tuple #[]) (W.setCell d (.pointer (aa e))):=by
 delta ReflectliteValue.set ReflectliteValue.set.match_3
 dsimp only [Array.casesOn,Array.rec]
 rw [dif_pos (show (#[_,_]:Array aP).size=2 from rfl)]
 simp only [Array.getLit,List.getElem_toArray,List.getElem_cons_zero,List.getElem_cons_succ,Sem.run_bind,D2,O3,aG]
 simp [ReflectliteValue.flagAddr,loadVar,isAgg,underlying,underlying49,h,aG,JcX,storeVar,Value.cells,storeCells,Addr.add]
 rw [run_store prog W d _ _ (by rfl)]
 simp [j,o]
theorem Jc7 (e t:aA) (j:aP) (w:World) (o:w.cell? ⟨12,0,ab⟩=aa (.iface 105 (.agg #[.pointer (aa ⟨16,27,ab⟩)]))) (q:w.cell? t=aa j) (D:w.frozen? t=aJ) :
 ap prog 29 #[.iface 49 (.pointer (aa e)),.iface 66 (.pointer (aa t))] w fun s A=>s=.returned (.bool aB)/\∃ d,ag w.heap.size w d/\A=d.setCell t (.pointer (aa e)):=by
 have G:=@ac prog 40 _ (fun args=>ReflectliteValue.unpack (args.getD 0 (.tuple #[]))) func40 (by kernel_rfl) (by kernel_rfl) (by kernel_rfl) (by kernel_rfl)
 have H:=@ac prog 41 _ (ReflectliteValue.methodAny (ReflectliteValue.valueError "reflectlite.Value.Type" 0) (fun t _ _ _=>ReflectliteType.toType t)) func41 (by kernel_rfl) (by kernel_rfl) (by kernel_rfl) (by kernel_rfl)
 have I:=@ac prog 42 _ (ReflectliteValue.method (ReflectliteValue.valueError "reflectlite.Value.IsNil" 0) ReflectliteValue.isNil) func42 (by kernel_rfl) (by kernel_rfl) (by kernel_rfl) (by kernel_rfl)
 have J:=@ac prog 109 _ (ReflectliteType.abiMethod fun t=>do pure (.int .u8 (<- Rtype.kind t))) func109 (by kernel_rfl) (by kernel_rfl) (by kernel_rfl) (by kernel_rfl)
 have K:=@ac prog 120 _ (ReflectliteType.method ReflectliteType.elem) func120 (by kernel_rfl) (by kernel_rfl) (by kernel_rfl) (by kernel_rfl)
 have L:=@ac prog 121 _ (ReflectliteType.relation "Implements" ReflectliteType.implements_) func121 (by kernel_rfl) (by kernel_rfl) (by kernel_rfl) (by kernel_rfl)
 have M:=@ac prog 44 _ ReflectliteType.typeOf func44 (by kernel_rfl) (by kernel_rfl) (by kernel_rfl) (by kernel_rfl)
 have N:=@ac prog 118 _ (ReflectliteType.relation "AssignableTo" ReflectliteType.assignableTo) func118 (by kernel_rfl) (by kernel_rfl) (by kernel_rfl) (by kernel_rfl)
 have O:=@ac prog 58 _ (ReflectliteValue.method (ReflectliteValue.valueError "reflectlite.Value.Elem" 0) ReflectliteValue.elem) func58 (by kernel_rfl) (by kernel_rfl) (by kernel_rfl) (by kernel_rfl)
 have Q:=@ac prog 59 _ ReflectliteValue.set func59 (by kernel_rfl) (by kernel_rfl) (by kernel_rfl) (by kernel_rfl)
 have R:=JcU
 have S:=r5
 have T:=BL
 have U:=Jcy
 have V:=p5
 have W:=s3
 have Y:=u4
 have Z:=r6
 have mI:=s9
 have a0:=n4
 have kF:=sT
 have a2:=wX
 have iF:=s6
 have n8:=r8 ⟨w.heap.size,0,ab⟩ t ((w.alloc (.cells #[.pointer (aa t)] 66)).alloc (.cells #[.pointer (aa ⟨16,66,ab⟩),.pointer (aa ⟨w.heap.size,0,ab⟩),.int .u64 150] 79)) (by simp)
 have B:=Qf o
 have a3:((w.alloc (.cells #[.pointer (aa t)] 66)).alloc (.cells #[.pointer (aa ⟨16,66,ab⟩),.pointer (aa ⟨w.heap.size,0,ab⟩),.int .u64 150] 79)).cell? ⟨12,0,ab⟩=aa (.iface 105 (.agg #[.pointer (aa ⟨16,27,ab⟩)])):=by
  rw [World.cell?_alloc_lt _ _ ⟨12,0,ab⟩ (by simp;omega),World.cell?_alloc_lt _ _ ⟨12,0,ab⟩ B];exact o
 have f:t.block < w.heap.size:=by
  rcases aM t.block w.heap.size with h | h
  ·exact h
  ·simp [World.cell?,Array.getElem?_eq_none h] at q
 have el:=HY ⟨w.heap.size,0,ab⟩ t (((w.alloc (.cells #[.pointer (aa t)] 66)).alloc (.cells #[.pointer (aa ⟨16,66,ab⟩),.pointer (aa ⟨w.heap.size,0,ab⟩),.int .u64 150] 79)).alloc (.cells #[.pointer (aa ⟨16,66,ab⟩),.pointer (aa ⟨w.heap.size,0,ab⟩),.int .u64 150] 79)) (by rw [World.cell?_alloc_lt _ _ ⟨w.heap.size,0,ab⟩ (by simp;omega)];simp)
 have st:=H3 t ⟨w.heap.size+1+1+1,0,ab⟩ e j ((((w.alloc (.cells #[.pointer (aa t)] 66)).alloc (.cells #[.pointer (aa ⟨16,66,ab⟩),.pointer (aa ⟨w.heap.size,0,ab⟩),.int .u64 150] 79)).alloc (.cells #[.pointer (aa ⟨16,66,ab⟩),.pointer (aa ⟨w.heap.size,0,ab⟩),.int .u64 150] 79)).alloc (.cells #[.pointer (aa e)] 49))
  (by rw [af _ _ _ _ (by simp)];rfl)
  (by rw [World.cell?_alloc_lt _ _ t (by simp;omega),World.cell?_alloc_lt _ _ t (by simp;omega),World.cell?_alloc_lt _ _ t (by simp;omega),World.cell?_alloc_lt _ _ t f];exact q)
  (by rw [World.frozen?_alloc_old _ _ t (by simp;omega),World.frozen?_alloc_old _ _ t (by simp;omega),World.frozen?_alloc_old _ _ t (by simp;omega),World.frozen?_alloc_old _ _ t (Nat.ne_of_lt f)];exact D)
 go_enter func29,ntmps29
 go_wp2
 refine aY 1 ?_
 rw [za]
 go_wp2
 go_ret
 exact ⟨rfl,_,((((ak _ _).alloc (ae _) _).alloc (by simp) _).alloc (by simp;omega) _).alloc (by simp;omega) _,rfl⟩
end
section
open Go.Extern.Stop Go.Stop Go.Extern
theorem x8 (ad:Nat->aA) (i d:Nat) (at_:Int) (hi:i < 12) (w:World) (O:b0 w ad) (Q:w.cell? ⟨d,0,ab⟩=aa (.int .i64 at_)) (h1:w.cell? ⟨d,1,ab⟩=aa (.iface 158 (.pointer (aa (ad i))))) :
 ap prog 17 #[.iface 49 (.pointer (aa ⟨d,0,ab⟩))] w fun e B=>e=.returned (.tuple #[.int .i64 ((i+1:Nat):Int),.int .i64 at_])/\ag w.heap.size w B:=by
 have q:d < w.heap.size:=Qf Q
 have D:ag w.heap.size w (w.alloc (.cells #[.pointer ab] 49)):=(ak _ _).alloc (ae _) _
 have R:=O.below D
 have G:(w.alloc (.cells #[.pointer ab] 49)).cell? ⟨w.heap.size,0,ab⟩=aa (.pointer ab):=by simp
 have S:(w.alloc (.cells #[.pointer ab] 49)).frozen? ⟨w.heap.size,0,ab⟩=false:=by simp
 go_enter func17,ntmps17
 go_wp2_with fail
 refine (Jc7 ⟨d,0,ab⟩ ⟨w.heap.size,0,ab⟩ (.pointer ab) _ R.e7 G S).mono ?_
 rintro e f ⟨rfl,T,H,I⟩
 have j:ag w.heap.size w f:=by rw [I];exact (D.trans (H.mono (by simp))).setCell (ae _) _
 have J:=O.below j
 have a5:f.cell? ⟨w.heap.size,0,ab⟩=aa (.pointer (aa ⟨d,0,ab⟩)):=by
  rw [I]
  exact World.cell?_setCell_same T ⟨w.heap.size,0,ab⟩ _ ((H.cell (p:=⟨w.heap.size,0,ab⟩) (by simp)).trans G)
 have a8:f.cell? ⟨d,0,ab⟩=aa (.int .i64 at_):=(j.cell (p:=⟨d,0,ab⟩) q).trans Q
 have U:f.cell? ⟨d,1,ab⟩=aa (.iface 158 (.pointer (aa (ad i)))):=(j.cell (p:=⟨d,1,ab⟩) q).trans h1
 have V:d < f.heap.size:=aE q j.size
 have K:Hid (ag w.heap.size w f):=j
 clear I H T j R D G S Q h1 O q
 have a9:=J
 obtain ⟨c0,c1,c2,c3,c4,c5,c6,c7,c8,c9,b6,eK,_,_,_⟩:=a9
 go_wp2
 clear c0 c1 c2 c3 c4 c5 c6 c7 c8 c9 b6 eK a5 a8
 have s:ag f.heap.size f (f.alloc (.cells (cB ad) 27)):=(ak _ _).alloc (ae _) _
 have o:=J.below s
 have t:=r4 ad f
 have A:=(s.cell (p:=⟨d,1,ab⟩) V).trans U
 have L:Hid (ag w.heap.size w (f.alloc (.cells (cB ad) 27))):=K.out.trans (s.mono K.out.size)
 unfold cB at o t L A
 generalize f.alloc (.cells _ 27)=M at o t L A ⊢
 clear s J K U V
 go_loop [3,30] (fun y x=>y=.int .i64 at_/\∃ k:Nat,k<=i/\x=.int .i64 k) (fun _ x=>12 - (intOf x).toNat)
 case atStart=>exact ⟨rfl,0,by omega,rfl⟩
 case round =>
  obtain ⟨rfl,k,hk,rfl⟩:=hrel
  have N:k < 12:=by omega
  have hc:=t k N
  obtain ⟨W,Y,Z⟩:=o.row i hi
  obtain ⟨cb,tb,a0⟩:=o.row k N
  have a2:Hid (M.cell? ⟨d,1,ab⟩=aa (.iface 158 (.pointer (aa (ad i))))):=A
  clear t A
  by_cases a3:k=i
  ·subst a3
   go_wp2_with (go_at_call 30;refine (Jbz d (ad k) _ a2.out).mono ?_;rintro e B ⟨rfl,rfl⟩)
   go_ret2
   exact ⟨by simp,L.out⟩
  ·have a4:=o.ne i k hi N (fun h=>a3 h.symm)
   have HN:Hid (ad i≠ad k):=a4
   have HA:Hid (M.heap[(ad i).block]?=aa (.cells W Y (0,0))):=Z
   have HB:Hid (M.heap[(ad k).block]?=aa (.cells cb tb (0,0))):=a0
   clear a4 Z a0
   go_wp2_with (go_at_call 30;refine (H7 d (ad i) (ad k) W cb Y tb _ a2.out HN.out HA.out HB.out).mono ?_;rintro e B ⟨rfl,rfl⟩)
   go_round
   case rel=>exact ⟨rfl,k+1,by omega,by go_num⟩
   case measure=>simp [intOf];omega
theorem JcT (ad:Nat->aA) (h:aP) (c at_:Int) (w:World) (j:b0 w ad) (t:Jd w ad h c at_) :
 ap prog 17 #[h] w fun e f=>e=.returned (.tuple #[.int .i64 c,.int .i64 at_])/\ag w.heap.size w f:=by
 rcases t with ⟨rfl,rfl,rfl⟩ | ⟨i,d,rfl,rfl,rfl⟩ | ⟨i,o,d,rfl,rfl,q,s⟩
 ·refine (Jcu w).mono ?_
  rintro e f ⟨rfl,rfl⟩
  exact ⟨rfl,ak _ _⟩
 ·exact Jcf ad i d w j
 ·exact x8 ad i o at_ d w j q s
theorem b0.eZ {ad:Nat->aA} (h:b0 w ad):i7 w ad:=⟨h.c1,h.c3,h.c5,h.c7⟩
end
section
open Go.Extern.Stop Go.Stop Go.Extern
theorem MD (ad:Nat->aA) (B:aP) (c at_:Int) (w:World) (J:b0 w ad) (K:Jd w ad B c at_) :
 ap prog 7 #[B,.agg #[.int .i64 c,.int .i64 at_]] w fun e L=>e=.returned (.bool aB)/\ag w.heap.size w L:=by
 obtain ⟨d,f⟩:∃ d,d=w.alloc (.cells #[.int .i64 c,.int .i64 at_] 31):=⟨_,rfl⟩
 have o:ag w.heap.size w d:=by rw [f];exact (ak _ _).alloc (ae _) _
 have h:d.cell? ⟨w.heap.size,0,ab⟩=aa (.int .i64 c):=by rw [f,af _ _ _ _ rfl];rfl
 have j:d.cell? ⟨w.heap.size,1,ab⟩=aa (.int .i64 at_):=by rw [f,af _ _ _ _ rfl];rfl
 have D:=JcT ad B c at_ d (J.below o) (K.below o)
 have G:Hid (d=w.alloc (.cells #[.int .i64 c,.int .i64 at_] 31)):=f
 have s:Hid (ag w.heap.size w d):=o
 have H:Hid (d.cell? ⟨w.heap.size,0,ab⟩=aa (.int .i64 c)/\d.cell? ⟨w.heap.size,1,ab⟩=aa (.int .i64 at_)/\w.heap.size < d.heap.size):=⟨h,j,by rw [f];simp⟩
 have M:Hid (c=0∨c≠0):=by
  show c=0∨c≠0
  omega
 clear f o h j J K
 go_enter func7,ntmps7
 go_wp2_with fail
 rw [<- G.out]
 refine D.mono ?_
 rintro e N ⟨rfl,q⟩
 obtain ⟨h,j,t⟩:=H.out
 have O:=(q.cell (p:=⟨w.heap.size,0,ab⟩) t).trans h
 have Q:=(q.cell (p:=⟨w.heap.size,1,ab⟩) t).trans j
 have I:Hid (ag w.heap.size w N):=s.out.trans (q.mono s.out.size)
 clear D q h j H s t G
 rcases M.out with A | A
 ·subst A
  go_wp2
  go_ret
  exact ⟨rfl,I.out⟩
 ·have R : (c == 0) = false := by
   rw [beq_eq_false_iff_ne]
   exact A
  go_wp2
  go_ret
  exact ⟨rfl,I.out⟩
end
namespace Crc
def SS:Nat:=3988292384
def back (c:Nat):Nat:=if c % 2=1 then SS else 0
def step (c b:Nat):Nat:=c / 2 ^^^ back (c ^^^ b)
theorem bB (a b:Nat):(a ^^^ b) % 2=(a % 2+b % 2) % 2:=by
 have h:=Nat.xor_mod_two_pow (a:=a) (b:=b) (n:=1)
 have e:∀ x,x < 2->∀ y,y < 2->x ^^^ y=(x+y) % 2:=by decide
 rw [show 2 ^ 1=2 from rfl] at h
 rw [h,e _ (zq _ (by decide)) _ (zq _ (by decide))]
theorem qA (a b:Nat):(a ^^^ b) / 2=a / 2 ^^^ b / 2:=Nat.xor_div_two
theorem Jcv (a b:Nat):back (a ^^^ b)=back a ^^^ back b:=by
 unfold back
 have h:=bB a b
 rcases aD a with d | d <;> rcases Nat.mod_two_eq_zero_or_one b with f | f <;> rw [d,f] at h <;> simp [h,d,f]
theorem O4 (c d a b:Nat):step (c ^^^ d) (a ^^^ b)=step c a ^^^ step d b:=by
 unfold step
 rw [qA,show (c ^^^ d) ^^^ (a ^^^ b)=(c ^^^ a) ^^^ (d ^^^ b) by ac_rfl,Jcv]
 ac_rfl
theorem JcO:SS < 2 ^ 32:=by decide
theorem JcP (c:Nat):back c < 2 ^ 32:=by
 unfold back
 split
 ·exact JcO
 ·decide
theorem ML (h:c < 2 ^ 32) (b:Nat):step c b < 2 ^ 32:=av (by omega) (JcP _)
theorem O0 (c b:Nat) (d:b < 2):step c b=step (c ^^^ b) 0:=by
 unfold step
 rw [qA,ar,show b / 2=0 by omega,ar]
theorem LL (h:c < 2 ^ 32) (j:c≠0):step c 0≠0:=by
 unfold step back
 rw [ar]
 by_cases e:c % 2=1
 ·rw [if_pos e]
  intro d
  have f:c / 2=SS:=Gf.dQ d
  unfold SS at f
  omega
 ·rw [if_neg e,ar]
  omega
def a1 (f:Nat->Nat) (c:Nat):Nat->Nat
 | 0=>c
 | p+1=>step (a1 f c p) (f p)
theorem a7 {f:Nat->Nat} {c:Nat} (h:c < 2 ^ 32):∀ p,a1 f c p < 2 ^ 32
 | 0=>h
 | p+1=>ML (a7 h p) _
theorem mB (f g:Nat->Nat) (c d:Nat):∀ p,a1 (fun i=>f i ^^^ g i) (c ^^^ d) p=a1 f c p ^^^ a1 g d p
 | 0=>rfl
 | p+1=>by
  show step (a1 (fun i=>f i ^^^ g i) (c ^^^ d) p) (f p ^^^ g p)=_
  rw [mB f g c d p,O4]
  rfl
theorem hQ (f:Nat->Nat) (c p:Nat):∀ q,a1 f c (p+q)=a1 (fun i=>f (p+i)) (a1 f c p) q
 | 0=>rfl
 | q+1=>by
  show step (a1 f c (p+q)) (f (p+q))=step (a1 (fun i=>f (p+i)) (a1 f c p) q) (f (p+q))
  rw [hQ f c p q]
theorem e6 {f g:Nat->Nat} {c:Nat}:∀ p,(∀ i,i < p->f i=g i)->a1 f c p=a1 g c p
 | 0,_=>rfl
 | p+1,h=>by
  show step (a1 f c p) (f p)=step (a1 g c p) (g p)
  rw [e6 p (fun i d=>h i (by omega)),h p (by omega)]
def zs (m x:Nat):Nat:=a1 (fun _=>0) x m
theorem W0 (m x y:Nat):zs m (x ^^^ y)=zs m x ^^^ zs m y:=by
 have h:=mB (fun _=>0) (fun _=>0) x y m
 unfold zs
 rw [<- h]
 exact e6 m (fun _ _=>rfl)
theorem nR {x:Nat} (h:x < 2 ^ 32) (d:x≠0):∀ m,zs m x≠0
 | 0=>d
 | m+1=>LL (a7 h m) (nR h d m)
theorem wH:∀ m,zs m 0=0
 | 0=>rfl
 | m+1=>by
  show step (zs m 0) 0=0
  rw [wH m]
  decide
theorem Jcg (x:Nat):step (2*x) 0=x:=by
 unfold step back
 rw [ar,if_neg (by omega),ar]
 omega
theorem JcS (m x:Nat):zs (m+1) x=zs m (step x 0):=by
 have:=hQ (fun _=>0) x 1 m
 unfold zs
 rw [Nat.add_comm m 1,this]
 exact e6 m (fun _ _=>rfl)
theorem qB (b:Nat):∀ m,zs m (2 ^ m*b)=b
 | 0=>by show 2 ^ 0*b=b;omega
 | m+1=>by
  rw [JcS,show 2 ^ (m+1)*b=2*(2 ^ m*b) by rw [bx];ac_rfl,Jcg]
  exact qB b m
def num (f:Nat->Nat):Nat->Nat
 | 0=>0
 | m+1=>num f m ^^^ 2 ^ m*f m
theorem k2 {f:Nat->Nat} (d:∀ i,f i < 2):∀ m,num f m < 2 ^ m
 | 0=>by show 0 < 2 ^ 0;decide
 | m+1=>by
  show num f m ^^^ 2 ^ m*f m < 2 ^ (m+1)
  have j:=k2 d m
  have o:=d m
  have q:2 ^ (m+1)=2*2 ^ m:=by rw [bx];omega
  have h:2 ^ m*f m < 2 ^ (m+1):=by
   rcases (show f m=0∨f m=1 by omega) with e | e <;> rw [e] <;> omega
  exact av (by omega) h
theorem sA {f:Nat->Nat} (j:∀ i,f i < 2):∀ m,(∃ i,i < m/\f i≠0)->num f m≠0
 | 0,⟨_,h,_⟩=>absurd h (aN _)
 | m+1,⟨i,hi,hne⟩=>by
  show num f m ^^^ 2 ^ m*f m≠0
  intro o
  have d:=Gf.dQ o
  have q:=k2 j m
  have s:=j m
  rcases (show f m=0∨f m=1 by omega) with e | e
  ·rw [e,Nat.mul_zero] at d
   refine sA j m ⟨i,?_,hne⟩ d
   rcases Nat.lt_succ_iff_lt_or_eq.1 hi with h | h
   ·exact h
   ·rw [h,e] at hne;exact absurd rfl hne
  ·rw [e] at d
   omega
theorem sS {f:Nat->Nat} (d:∀ i,f i < 2) (c:Nat):∀ m,a1 f c m=zs m (c ^^^ num f m)
 | 0=>by show c=c ^^^ 0;rw [ar]
 | m+1=>by
  show step (a1 f c m) (f m)=step (zs m (c ^^^ (num f m ^^^ 2 ^ m*f m))) 0
  rw [O0 _ _ (d m),sS d c m,<- Nat.xor_assoc,W0 m (c ^^^ num f m),qB]
theorem Jdg {f g:Nat->Nat} (S:∀ i,f i < 2) (T:∀ i,g i < 2) (c n a:Nat) (h:∀ p,p < n->f p≠g p->a<=p/\p < a+32) (U:∃ p,p < n/\f p≠g p):a1 f c n≠a1 g c n:=by
 intro B
 have D:a1 (fun i=>f i ^^^ g i) 0 n=0:=by
  have:=mB f g c c n
  rw [bc] at this
  rw [this,B,bc]
 have d:∀ i,f i ^^^ g i < 2:=fun i=>av (n:=1) (S i) (T i)
 have o:∀ p,p < n->¬ (a<=p/\p < a+32)->f p ^^^ g p=0:=fun p G H=>by
  have:f p=g p:=al fun I=>H (h p G I)
  rw [this,bc]
 obtain ⟨q,J,s⟩:=U
 have K:=h q J s
 have L:a1 (fun i=>f i ^^^ g i) 0 a=0:=by
  rw [e6 (g:=fun _=>0) a (fun i M=>o i (by omega) (by omega))]
  exact wH a
 obtain ⟨m,N,V,W,O⟩:∃ m,m<=32/\a+m<=n/\q < a+m/\∀ p,a+m<=p->p < n->¬ (a<=p/\p < a+32):=by
  by_cases Q:a+32<=n
  ·exact ⟨32,ae _,Q,K.2,fun p j _=>by omega⟩
  ·exact ⟨n - a,by omega,by omega,by omega,fun p j t=>by omega⟩
 have j:a1 (fun i=>f i ^^^ g i) 0 (a+m)=zs m (num (fun i=>f (a+i) ^^^ g (a+i)) m):=by
  rw [hQ,L,sS (fun i=>d (a+i)),Nat.zero_xor]
 have R:num (fun i=>f (a+i) ^^^ g (a+i)) m≠0:=sA (fun i=>d (a+i)) m ⟨q - a,by omega,by
  show f (a+(q - a)) ^^^ g (a+(q - a))≠0
  rw [show a+(q - a)=q by omega]
  exact Gf.B0 s⟩
 have A:num (fun i=>f (a+i) ^^^ g (a+i)) m < 2 ^ 32:=aE (k2 (fun i=>d (a+i)) m) (Nat.pow_le_pow_right (by decide) N)
 have t:a1 (fun i=>f i ^^^ g i) 0 n=zs (n - (a+m)) (zs m (num (fun i=>f (a+i) ^^^ g (a+i)) m)):=by
  rw [<- j]
  have:=hQ (fun i=>f i ^^^ g i) 0 (a+m) (n - (a+m))
  rw [show a+m+(n - (a+m))=n by omega] at this
  rw [this]
  exact e6 _ (fun i M=>o (a+m+i) (by omega) (O _ (by omega) (by omega)))
 exact nR (a7 A m) (nR A R m) _ (t.symm.trans D)
end Crc
end Go.Proofs.YtppcijpgalaohaaGreatDoor

/- Texts laid together. -/
import Derived.Test.YtaaahibncffcmaaDoorProg
import Derived.WalkKit
import Derived.LaidEql
import Derived.Stop.Asserts
import Derived.RowKitTokens
set_option maxRecDepth 100000
set_option maxHeartbeats 4000000
open List renaming getD_eq_getElem?_getD->aa,length_singleton->ao,length_append->au,getElem?_eq_getElem->az,mem_range->aC,mem_singleton->aF,getElem_range->aG,getElem?_take->aI,nodup_append->aN,length_cons->aR,getElem_map->aS,ext_getElem->aW,all_eq_true->aY,nodup_cons->a1,range->a3
open Nat renaming not_lt_zero->ab,le_refl->ae,xor_zero->ah,xor_self->ai,shiftRight_eq_div_pow->aj,xor_lt_two_pow->an,xor_mod_two_pow->ap,shiftRight_xor_distrib->aq,mod_two_eq_zero_or_one->ar,zero_le->av,lt_irrefl->ax,add_le_add_iff_right->ay,zero_xor->aA,pow_le_pow_right->aB,lt_of_le_of_lt->aE,mod_eq_of_lt->aO,lt_succ_self->aP,mul_le_mul->a2,xor_assoc->ba,pow_succ->be
open Go renaming run_callFunc_extern->ac,Value->aw,wp_loop_rounds->aD,rounds_succ->a0,TypeId->a5,Addr->bp
open Classical renaming byContradiction->af
open Option renaming some->ag,none->al,map_eq_some_iff->am
open Fin renaming ext->ak
namespace Go.Proofs.YtaaahibncffcmaaDoor
open Go.Proofs.Tryd
open Go.RowKit
variable {a b i n c r j p k s x y d:Nat}{l:List Nat}
section
open Go.Extern.Stop Go.Stop Go.Extern
theorem r5 (v:aw) (w:World):(Extern.ReflectliteType.typeOf #[.iface 136 v]).run prog w=.ok (.iface 121 (.agg #[.pointer (ag ⟨14,136,al⟩)])) w:=by kernel_rfl
def r9:Array aw->Sem Value:=Extern.ReflectliteType.method fun t=>do Rtype.noPackHeld "Comparable" t;pure (.bool (<- typeInfo t).comparable)
theorem wH (w:World):(r9 #[.agg #[.pointer (ag ⟨14,136,al⟩)]]).run prog w=.ok (.bool true) w:=by kernel_rfl
theorem s6 (v:aw) (w:World):(Go.method 268 121 v "Comparable").run prog w=.ok (117,v) w:=by kernel_rfl
theorem x5:(prog.info? 136).map (·.comparable)=ag true:=by kernel_rfl
theorem u2:(prog.info? 156).map (·.size)=ag 1:=by kernel_rfl
theorem O4 (v:aw) (d:a5) (w:World):(Instr.typeAssert (.iface 136 v) d 132 true).run prog w=.ok (.tuple #[.nilIface,.bool false]) w:=run_typeAssert_lacksB underlying132 (by kernel_rfl) (by kernel_rfl) v d w
theorem C3 (v:aw) (d:a5) (w:World):(Instr.typeAssert (.iface 136 v) d 125 true).run prog w=.ok (.tuple #[.nilIface,.bool false]) w:=run_typeAssert_lacksB underlying125 (by kernel_rfl) (by kernel_rfl) v d w
theorem x8 (v:aw) (d:a5) (w:World):(Instr.typeAssert (.iface 136 v) d 128 true).run prog w=.ok (.tuple #[.nilIface,.bool false]) w:=run_typeAssert_lacksB underlying128 (by kernel_rfl) (by kernel_rfl) v d w
theorem wS (v:aw) (d:a5) (w:World):(Instr.typeAssert (.iface 136 v) d 130 true).run prog w=.ok (.tuple #[.nilIface,.bool false]) w:=run_typeAssert_lacksB underlying130 (by kernel_rfl) (by kernel_rfl) v d w
theorem Jcv (a:bp) (w:World) :
 Calls prog 63 #[.iface 136 (.pointer (ag a)),.iface 136 (.pointer (ag a))] w fun e w'=>e=.returned (.bool true)/\w'=w:=by
 obtain ⟨i,d,f⟩:=am.1 x5
 obtain ⟨j,h,o⟩:=am.1 u2
 have s:=@ac prog 80 _ Extern.ReflectliteType.typeOf func80 (by kernel_rfl) (by kernel_rfl) (by kernel_rfl) (by kernel_rfl)
 have t:=@ac prog 117 _ r9 func117 (by kernel_rfl) (by kernel_rfl) (by kernel_rfl) (by kernel_rfl)
 have y:=r5
 have z:=wH
 have A:=s6
 have B:=run_eql_iface_ptr_same (P:=prog) w a underlying25 underlying136 d f h
 go_enter func63,ntmps63
 go_wp2
 refine aD 1 ?_
 rw [a0]
 go_wp2
 go_ret
 exact ⟨rfl,rfl⟩
theorem L1 (a b:bp) (s t:Array aw) (y z:a5) (w:World) (A:a≠b) (B:w.heap[a.block]?=ag (.cells s y (0,0))) (D:w.heap[b.block]?=ag (.cells t z (0,0))) :
 Calls prog 63 #[.iface 136 (.pointer (ag a)),.iface 136 (.pointer (ag b))] w fun e w'=>e=.returned (.bool false)/\w'=w:=by
 obtain ⟨i,d,f⟩:=am.1 x5
 obtain ⟨j,h,o⟩:=am.1 u2
 have E:=@ac prog 80 _ Extern.ReflectliteType.typeOf func80 (by kernel_rfl) (by kernel_rfl) (by kernel_rfl) (by kernel_rfl)
 have G:=@ac prog 117 _ r9 func117 (by kernel_rfl) (by kernel_rfl) (by kernel_rfl) (by kernel_rfl)
 have H:=r5
 have I:=wH
 have J:=s6
 have K:=O4
 have L:=x8
 have M:=wS
 have N:=run_eql_iface_ptr_other (P:=prog) w underlying25 underlying136 d f h (by rw [o];decide) A B D
 go_enter func63,ntmps63
 go_wp2
 refine aD 1 ?_
 rw [a0]
 go_wp2
 go_ret
 exact ⟨rfl,rfl⟩
theorem Jce (t:bp) (w:World):(ReflectliteValue.unpack (.iface 87 (.pointer (ag t)))).run prog w
 = .ok (.agg #[.pointer (ag ⟨14,87,al⟩),.pointer (ag ⟨w.heap.size,0,al⟩),.int .u64 150]) (w.alloc (.cells #[.pointer (ag t)] 87)):=by kernel_rfl
theorem JcE (a:bp) (w:World):(ReflectliteValue.methodAny (ReflectliteValue.valueError "reflectlite.Value.Type" 0) (fun t _ _ _=>ReflectliteType.toType t) #[.agg #[.pointer (ag ⟨14,87,al⟩),.pointer (ag a),.int .u64 150]]).run prog w
 = .ok (.iface 121 (.agg #[.pointer (ag ⟨14,87,al⟩)])) w:=by kernel_rfl
theorem O1 (h:aw) (w:World):(Go.method 268 121 (.agg #[h]) "Kind").run prog w=.ok (106,h) w:=by kernel_rfl
theorem JcF (w:World):((ReflectliteType.abiMethod fun t=>(fun a:Nat=>Value.int IntKind.u8 (a:Int)) <$> Rtype.kind t) #[.pointer (ag ⟨14,87,al⟩)]).run prog w=.ok (.int .u8 22) w:=by kernel_rfl
theorem JcX (w:World):((ReflectliteType.abiMethod fun t=>(fun a:Nat=>Value.int IntKind.u8 (a:Int)) <$> Rtype.kind t) #[.pointer (ag ⟨14,85,al⟩)]).run prog w=.ok (.int .u8 22) w:=by kernel_rfl
theorem rlm (z:Sem aw) (f:a5->bp->Nat->Nat->Sem aw) (v:aw) :
 ReflectliteValue.method z f #[v]=(do match <- ReflectliteValue.parts v with | none=>z | some (t,a,fl)=>f t a fl (fl % 32)):=rfl
theorem Jcw (a:bp) (w:World):(ReflectliteValue.parts (.agg #[.pointer (ag ⟨14,87,al⟩),.pointer (ag a),.int .u64 150])).run prog w=.ok (ag (87,a,150)) w:=by kernel_rfl
theorem Jcx (a p:bp) (W:World) (d:W.cell? a=ag (.pointer (ag p))) :
 (ReflectliteValue.method (ReflectliteValue.valueError "reflectlite.Value.IsNil" 0) ReflectliteValue.isNil #[.agg #[.pointer (ag ⟨14,87,al⟩),.pointer (ag a),.int .u64 150]]).run prog W=.ok (.bool false) W:=by
 rw [rlm]
 simp only [Sem.run_bind,Jcw,Result.andThen]
 simp [ReflectliteValue.isNil,loadVar,isAgg,underlying,underlying87,d,Result.andThen]
theorem HY (h:aw) (w:World):(Go.method 268 121 (.agg #[h]) "Elem").run prog w=.ok (118,.agg #[h]) w:=by kernel_rfl
theorem JaY (h:aw) (w:World):(Go.method 268 121 (.agg #[h]) "Implements").run prog w=.ok (119,.agg #[h]) w:=by kernel_rfl
theorem JaO (h:aw) (w:World):(Go.method 268 121 (.agg #[h]) "AssignableTo").run prog w=.ok (116,.agg #[h]) w:=by kernel_rfl
theorem JcG (w:World):(ReflectliteType.method ReflectliteType.elem #[.agg #[.pointer (ag ⟨14,87,al⟩)]]).run prog w=.ok (.iface 121 (.agg #[.pointer (ag ⟨14,85,al⟩)])) w:=by kernel_rfl
theorem JbB (w:World):(ReflectliteType.relation "Implements" ReflectliteType.implements_ #[.agg #[.pointer (ag ⟨14,85,al⟩)],.iface 121 (.agg #[.pointer (ag ⟨14,25,al⟩)])]).run prog w=.ok (.bool true) w:=by kernel_rfl
theorem JbC (w:World):(ReflectliteType.relation "AssignableTo" ReflectliteType.assignableTo #[.agg #[.pointer (ag ⟨14,136,al⟩)],.iface 121 (.agg #[.pointer (ag ⟨14,85,al⟩)])]).run prog w=.ok (.bool false) w:=by kernel_rfl
theorem Jcy (e t:bp) (w:World) (d:w.cell? ⟨12,0,al⟩=ag (.iface 121 (.agg #[.pointer (ag ⟨14,25,al⟩)]))) :
 Calls prog 62 #[.iface 136 (.pointer (ag e)),.iface 87 (.pointer (ag t))] w fun f w'=>f=.returned (.bool false)/\Below w.heap.size w w':=by
 have o:=@ac prog 76 _ (fun args=>ReflectliteValue.unpack (args.getD 0 (.tuple #[]))) func76 (by kernel_rfl) (by kernel_rfl) (by kernel_rfl) (by kernel_rfl)
 have s:=@ac prog 77 _ (ReflectliteValue.methodAny (ReflectliteValue.valueError "reflectlite.Value.Type" 0) (fun t _ _ _=>ReflectliteType.toType t)) func77 (by kernel_rfl) (by kernel_rfl) (by kernel_rfl) (by kernel_rfl)
 have y:=@ac prog 78 _ (ReflectliteValue.method (ReflectliteValue.valueError "reflectlite.Value.IsNil" 0) ReflectliteValue.isNil) func78 (by kernel_rfl) (by kernel_rfl) (by kernel_rfl) (by kernel_rfl)
 have z:=@ac prog 106 _ (ReflectliteType.abiMethod fun t=>do pure (.int .u8 (<- Rtype.kind t))) func106 (by kernel_rfl) (by kernel_rfl) (by kernel_rfl) (by kernel_rfl)
 have A:=@ac prog 118 _ (ReflectliteType.method ReflectliteType.elem) func118 (by kernel_rfl) (by kernel_rfl) (by kernel_rfl) (by kernel_rfl)
 have B:=@ac prog 119 _ (ReflectliteType.relation "Implements" ReflectliteType.implements_) func119 (by kernel_rfl) (by kernel_rfl) (by kernel_rfl) (by kernel_rfl)
 have D:=@ac prog 80 _ ReflectliteType.typeOf func80 (by kernel_rfl) (by kernel_rfl) (by kernel_rfl) (by kernel_rfl)
 have E:=@ac prog 116 _ (ReflectliteType.relation "AssignableTo" ReflectliteType.assignableTo) func116 (by kernel_rfl) (by kernel_rfl) (by kernel_rfl) (by kernel_rfl)
 have G:=r5
 have H:=JaO
 have I:=JbC
 have J:=Jce
 have K:=JcE
 have L:=O1
 have M:=HY
 have N:=JaY
 have O:=JcF
 have Q:=JcX
 have S:=JcG
 have T:=JbB
 have U:=C3
 have V:=x8
 have W:=wS
 have Y:=Jcx ⟨w.heap.size,0,al⟩ t ((w.alloc (.cells #[.pointer (ag t)] 87)).alloc (.cells #[.pointer (ag ⟨14,87,al⟩),.pointer (ag ⟨w.heap.size,0,al⟩),.int .u64 150] 107)) (by simp)
 have j:12 < w.heap.size:=by
  rcases Nat.lt_or_ge 12 w.heap.size with h | h
  ·exact h
  ·simp [World.cell?,Array.getElem?_eq_none h] at d
 have Z:((w.alloc (.cells #[.pointer (ag t)] 87)).alloc (.cells #[.pointer (ag ⟨14,87,al⟩),.pointer (ag ⟨w.heap.size,0,al⟩),.int .u64 150] 107)).cell? ⟨12,0,al⟩=ag (.iface 121 (.agg #[.pointer (ag ⟨14,25,al⟩)])):=by
  rw [World.cell?_alloc_lt _ _ ⟨12,0,al⟩ (by simp;omega),World.cell?_alloc_lt _ _ ⟨12,0,al⟩ j];exact d
 go_enter func62,ntmps62
 go_wp2
 refine aD 1 ?_
 rw [a0]
 go_wp2
 go_ret
 exact ⟨rfl,(((Below.refl _ _).alloc (ae _) _).alloc (by simp) _).alloc (by simp;omega) _⟩
end
namespace Gf
def tx (a:Nat):Nat:=if a < 128 then a*2 else (a*2 - 256) ^^^ 29
def dP (a:Nat):Nat->Nat
 | 0=>a
 | k+1=>tx (dP a k)
def bT (b i:Nat):Nat:=b / 2 ^ i % 2
def part (a b:Nat):Nat->Nat
 | 0=>0
 | k+1=>if bT b k=1 then part a b k ^^^ dP a k else part a b k
def mul (a b:Nat):Nat:=part a b 8
theorem U2 (h:a < 256):tx a < 256:=by
 unfold tx;split
 ·omega
 ·exact an (n:=8) (by omega) (by decide)
theorem b0 (h:a < 256) (k:Nat):dP a k < 256:=by
 induction k with
 | zero=>exact h
 | succ k ih=>exact U2 ih
theorem eF (h:a < 256) (b k:Nat):part a b k < 256:=by
 induction k with
 | zero=>exact (by decide:(0:Nat) < 256)
 | succ k ih => unfold part; split
                ·exact an (n:=8) ih (b0 h k)
                ·exact ih
theorem aV (h:a < 256) (b:Nat):mul a b < 256:=eF h b 8
theorem yK:∀ a:Nat,a < 256->tx a=(a <<< 1) % 2 ^ 8 ^^^ (29 * (a >>> 7)):=by decide +kernel
theorem B1 (a:Nat) (h:a < 256):a >>> 7=0∨a >>> 7=1:=by
 rw [aj];omega
theorem iK (d:a < 256) (f:b < 256):a ^^^ b < 256:=an (n:=8) d f
theorem GU (a b:Nat) (d:a < 256) (f:b < 256):tx (a ^^^ b)=tx a ^^^ tx b:=by
 rw [yK _ (iK d f),yK _ d,yK _ f,Nat.shiftLeft_xor_distrib,aq,ap]
 have o:29*(a >>> 7 ^^^ b >>> 7)=29*(a >>> 7) ^^^ 29*(b >>> 7):=by
  rcases B1 a d with h | h <;> rcases B1 b f with j | j <;> rw [h,j] <;> rfl
 rw [o]
 ac_rfl
theorem T7 (a b:Nat) (d:a < 256) (f:b < 256) (k:Nat):dP (a ^^^ b) k=dP a k ^^^ dP b k:=by
 induction k with
 | zero=>rfl
 | succ k ih => show tx (dP (a ^^^ b) k) = tx (dP a k) ^^^ tx (dP b k)
                rw [ih,GU _ _ (b0 d k) (b0 f k)]
theorem C8:tx 0=0:=by decide
theorem NO (k:Nat):dP 0 k=0:=by
 induction k with
 | zero=>rfl
 | succ k ih=>show tx (dP 0 k)=0;rw [ih,C8]
theorem u0 (b c k:Nat):bT (b ^^^ c) k=(bT b k+bT c k) % 2:=by
 unfold bT
 rw [<- aj,<- aj,<- aj,aq]
 have:=ap (a:=b >>> k) (b:=c >>> k) (n:=1)
 simp only [Nat.pow_one] at this
 rw [this]
 rcases ar (b >>> k) with h | h <;> rcases Nat.mod_two_eq_zero_or_one (c >>> k) with d | d <;> rw [h,d] <;> rfl
theorem wL (b k:Nat):bT b k=0∨bT b k=1:=ar _
theorem T4 (a d b:Nat) (f:a < 256) (h:d < 256) (k:Nat):part (a ^^^ d) b k=part a b k ^^^ part d b k:=by
 induction k with
 | zero=>exact (ai 0).symm
 | succ k ih =>
  simp only [part]
  rw [ih,T7 a d f h]
  split
  ·ac_rfl
  ·rfl
theorem MK (a b c:Nat) (k:Nat):part a (b ^^^ c) k=part a b k ^^^ part a c k:=by
 induction k with
 | zero=>exact (ai 0).symm
 | succ k ih =>
  simp only [part]
  rw [ih,u0]
  have f:dP a k ^^^ dP a k=0:=ai _
  rcases wL b k with h | h <;> rcases wL c k with d | d <;> rw [h,d] <;> simp
  ·ac_rfl
  ·ac_rfl
  ·have:part a b k ^^^ dP a k ^^^ (part a c k ^^^ dP a k)=part a b k ^^^ part a c k ^^^ (dP a k ^^^ dP a k):=by ac_rfl
   rw [this,f,ah]
theorem mul_left (a d b:Nat) (f:a < 256) (h:d < 256):mul (a ^^^ d) b=mul a b ^^^ mul d b:=T4 a d b f h 8
theorem mul_right (a b c:Nat):mul a (b ^^^ c)=mul a b ^^^ mul a c:=MK a b c 8
theorem mul_zero (a:Nat):mul a 0=0:=by simp [mul,part,bT]
theorem JpZ (b k:Nat):part 0 b k=0:=by
 induction k with
 | zero=>rfl
 | succ k ih=>unfold part;rw [ih,NO];simp
theorem zero_mul (b:Nat):mul 0 b=0:=JpZ b 8
theorem mul_one (a:Nat):mul a 1=a:=by simp [mul,part,bT,dP]
theorem n5:∀ b:Nat,b < 256->mul 1 b=b:=by decide +kernel
theorem JtH (a k:Nat):dP (tx a) k=tx (dP a k):=by
 induction k with
 | zero=>rfl
 | succ k ih=>show tx (dP (tx a) k)=_;rw [ih];rfl
theorem UU (a b:Nat) (d:a < 256) (k:Nat):part (tx a) b k=tx (part a b k):=by
 induction k with
 | zero=>exact C8.symm
 | succ k ih =>
  simp only [part]
  rw [ih,JtH]
  split
  ·rw [GU _ _ (eF d b k) (b0 d k)]
  ·rfl
theorem MZ (a b:Nat) (d:a < 256):mul (tx a) b=tx (mul a b):=UU a b d 8
theorem G6 (a b:Nat) (d:a < 256) (k:Nat):mul (dP a k) b=dP (mul a b) k:=by
 induction k with
 | zero=>rfl
 | succ k ih=>show mul (tx (dP a k)) b=tx (dP (mul a b) k);rw [MZ _ _ (b0 d k),ih]
theorem MH:∀ b:Nat,b < 256->part 1 b 8=b:=n5
theorem O9 (a b:Nat) (d:a < 256) (k:Nat):mul (part 1 b k) a=part a b k:=by
 induction k with
 | zero=>exact zero_mul a
 | succ k ih =>
  simp only [part]
  split
  ·rw [mul_left _ _ _ (eF (by decide) b k) (b0 (by decide) k),ih,G6 1 a (by decide) k,n5 a d]
  ·exact ih
theorem mul_comm (a b:Nat) (d:a < 256) (f:b < 256):mul a b=mul b a:=by
 have h:=O9 a b d 8
 rw [MH b f] at h
 exact h.symm
theorem TP (a b c:Nat) (f:a < 256) (d:b < 256) (k:Nat):part (mul a b) c k=mul a (part b c k):=by
 induction k with
 | zero=>exact (mul_zero a).symm
 | succ k ih =>
  simp only [part]
  split
  ·rw [ih,mul_right,mul_comm a (dP b k) f (b0 d k),G6 b a d k,mul_comm b a d f]
  ·exact ih
theorem mul_assoc (a b c:Nat) (d:a < 256) (f:b < 256):mul (mul a b) c=mul a (mul b c):=TP a b c d f 8
def sq (a:Nat):Nat->Nat
 | 0=>a
 | k+1=>mul (sq a k) (sq a k)
def pw (a n:Nat):Nat->Nat
 | 0=>1
 | k+1=>if bT n k=1 then mul (pw a n k) (sq a k) else pw a n k
def fM (a n:Nat):Nat:=pw a n 8
def inv (a:Nat):Nat:=fM a 254
theorem qI (h:a < 256) (k:Nat):sq a k < 256:=by
 induction k with
 | zero=>exact h
 | succ k ih=>exact aV ih _
theorem lL (n k:Nat):pw a n k < 256:=by
 induction k with
 | zero=>exact (by decide:(1:Nat) < 256)
 | succ k ih => unfold pw; split
                ·exact aV ih _
                ·exact ih
theorem PM (a n:Nat):fM a n < 256:=lL n 8
theorem cQ (a:Nat):inv a < 256:=PM a 254
theorem eG:∀ a:Nat,a < 256->a≠0->mul a (inv a)=1:=by decide +kernel
theorem inv_mul (a:Nat) (h:a < 256) (d:a≠0):mul (inv a) a=1:=by
 rw [mul_comm _ _ (cQ a) h];exact eG a h d
def bZ (a:Nat):Nat->Nat
 | 0=>1
 | n+1=>mul (bZ a n) a
end Gf
namespace Gf
def rprod (a b:Nat):Nat->Nat
 | 0=>0
 | k+1=>if bT b k=1 then rprod a b k ^^^ (a*2 ^ k) else rprod a b k
def wP (i n:Nat):Nat:=if bT n i=1 then n ^^^ (285*2 ^ (i - 8)) else n
def rr (n:Nat):Nat->Nat
 | 0=>n
 | j+1=>wP (14 - j) (rr n j)
def eS (n:Nat):Nat:=rr n 7 % 256
def Jda (a b:Nat):Nat:=eS (rprod a b 8)
theorem eK {a:Nat} (h:a < 256) (b:Nat):∀ k,k<=8->rprod a b k < 2 ^ 15
 | 0,_=>by show 0 < 2 ^ 15;decide
 | k+1,hk=>by
  unfold rprod
  have d:a*2 ^ k < 2 ^ 15:=by
   have f:2 ^ k<=2 ^ 7:=aB (by decide) (by omega)
   have j:a*2 ^ k<=255*2 ^ 7:=a2 (by omega) f
   exact aE j (by decide)
  split
  ·exact an (eK h b k (by omega)) d
  ·exact eK h b k (by omega)
theorem RG (j:i<=14) (d:n < 2 ^ 15):wP i n < 2 ^ 15:=by
 unfold wP
 split
 ·refine an d ?_
  have f:2 ^ (i - 8)<=2 ^ 6:=aB (by decide) (by omega)
  have h:285*2 ^ (i - 8)<=285*2 ^ 6:=a2 (ae _) f
  exact aE h (by decide)
 ·exact d
theorem Jt7 {n:Nat} (d:n < 2 ^ 15):∀ j,rr n j < 2 ^ 15
 | 0=>d
 | j+1=>RG (by omega) (Jt7 d j)
theorem Jb6 (i x y:Nat):wP i (x ^^^ y)=wP i x ^^^ wP i y:=by
 unfold wP
 rw [u0]
 have f:∀ c:Nat,c ^^^ c=0:=ai
 rcases wL x i with h | h <;> rcases wL y i with d | d <;> rw [h,d] <;> simp
 ·ac_rfl
 ·ac_rfl
 ·have:x ^^^ 285*2 ^ (i - 8) ^^^ (y ^^^ 285*2 ^ (i - 8))=x ^^^ y ^^^ (285*2 ^ (i - 8) ^^^ 285*2 ^ (i - 8)):=by ac_rfl
  rw [this,f,ah]
theorem y6 (x y:Nat):∀ j,rr (x ^^^ y) j=rr x j ^^^ rr y j
 | 0=>rfl
 | j+1=>by show wP _ (rr (x ^^^ y) j)=wP _ (rr x j) ^^^ wP _ (rr y j);rw [y6 x y j,Jb6]
theorem W0 (x y:Nat):eS (x ^^^ y)=eS x ^^^ eS y:=by
 unfold eS
 rw [y6]
 exact ap (n:=8)
theorem Ja7:(a3 8).all (fun k=>(a3 256).all fun a=>eS (a*2 ^ k)==dP a k)=true:=by decide +kernel
theorem JbP (a k:Nat) (f:a < 256) (j:k < 8):eS (a*2 ^ k)=dP a k:=by
 have h:=aY.1 Ja7 k (aC.2 j)
 have d:=aY.1 h a (aC.2 f)
 simpa using d
theorem T2:eS 0=0:=by decide
theorem r8 (a b:Nat) (d:a < 256):∀ k,k<=8->eS (rprod a b k)=part a b k
 | 0,_=>T2
 | k+1,hk=>by
  simp only [rprod,part]
  split
  ·rw [W0,r8 a b d k (by omega),JbP a k d (by omega)]
  ·exact r8 a b d k (by omega)
theorem hT (a b:Nat) (d:a < 256):Jda a b=mul a b:=r8 a b d 8 (ae _)
theorem eN (a b:Nat) (f:a < 256) (j:b < 256) (o:a≠0) (h:mul a b=1):b=inv a:=by
 have d:mul (inv a) (mul a b)=mul (inv a) 1:=by rw [h]
 rw [<- mul_assoc (inv a) a b (cQ a) f,inv_mul a f o,mul_one,n5 b j] at d
 exact d
theorem inv_pos (a:Nat) (d:a < 256) (f:a≠0):inv a≠0:=by
 intro h
 have:=eG a d f
 rw [h,mul_zero] at this
 exact absurd this (by decide)
theorem dV (a:Nat):∀ n,bZ a n < 256
 | 0=>by show 1 < 256;decide
 | n+1=>aV (dV a n) a
theorem zJ (a:Nat) (d:a < 256) (m:Nat):∀ n,bZ a (m+n)=mul (bZ a m) (bZ a n)
 | 0=>(mul_one _).symm
 | n+1=>by
  show mul (bZ a (m+n)) a=mul (bZ a m) (mul (bZ a n) a)
  rw [zJ a d m n,mul_assoc _ _ _ (dV a m) (dV a n)]
theorem GM (a:Nat) (d:a < 256):∀ k,sq a k=bZ a (2 ^ k)
 | 0=>by show a=mul 1 a;exact (n5 a d).symm
 | k+1=>by
  show mul (sq a k) (sq a k)=bZ a (2 ^ (k+1))
  rw [GM a d k,<- zJ a d,be]
  congr 1;omega
theorem O2 (n k:Nat):n % 2 ^ (k+1)=n % 2 ^ k+bT n k*2 ^ k:=by
 unfold bT
 rw [be,Nat.mod_mul]
 rw [Nat.mul_comm (2 ^ k)]
theorem BC (a n:Nat) (d:a < 256):∀ k,pw a n k=bZ a (n % 2 ^ k)
 | 0=>by show 1=bZ a (n % 1);rw [Nat.mod_one];rfl
 | k+1=>by
  simp only [pw]
  rw [BC a n d k,GM a d k,O2]
  rcases wL n k with h | h <;> rw [h] <;> simp
  rw [zJ a d]
theorem iG (a n:Nat) (d:a < 256) (f:n < 256):fM a n=bZ a n:=by
 have:=BC a n d 8
 rw [show n % 2 ^ 8=n from aO f] at this
 exact this
end Gf
namespace Gf
def horner (x:Nat):List Nat->Nat
 | []=>0
 | c :: r=>mul (horner x r) x ^^^ c
def nth (l:List Nat) (i:Nat):Nat:=l.getD i 0
def XY (d:List Nat) (i x:Nat):Nat->Nat
 | 0=>1
 | k+1=>if k=i then XY d i x k else mul (XY d i x k) (x ^^^ nth d k)
def aQ (d:List Nat) (i x:Nat):Nat:=mul (XY d i x d.length) (inv (XY d i (nth d i) d.length))
def fG (d f:List Nat) (x:Nat):Nat->Nat
 | 0=>0
 | k+1=>fG d f x k ^^^ mul (nth f k) (aQ d k x)
def Bytes (l:List Nat):Prop:=∀ i,nth l i < 256
theorem Bytes.tail {r:List Nat} (h:Bytes (c :: r)):Bytes r:=fun i=>by simpa [nth] using h (i+1)
theorem bF (x:Nat):∀ l:List Nat,Bytes l->horner x l < 256
 | [],_=>by show 0 < 256;decide
 | c :: r,h=>iK (aV (bF x r h.tail) x) (by simpa [nth] using h 0)
theorem Bytes.drop (h:Bytes l) (n:Nat):Bytes (l.drop n):=fun i=>by
 have:=h (n+i)
 simpa [nth,aa,List.getElem?_drop] using this
theorem bX (d:List Nat) (i x:Nat):∀ k,XY d i x k < 256
 | 0=>by show 1 < 256;decide
 | k+1=>by
  unfold XY
  split
  ·exact bX d i x k
  ·exact aV (bX d i x k) _
theorem bL (d:List Nat) (i x:Nat):aQ d i x < 256:=aV (bX _ _ _ _) _
theorem gY (f d:List Nat) (x:Nat) (h:Bytes d):∀ k,fG f d x k < 256
 | 0=>by show 0 < 256;decide
 | k+1=>iK (gY f d x h k) (aV (h k) _)
theorem Jc2 (l:List Nat) (i:Nat) (h:i < l.length):l.drop (l.length - (i+1))=nth l (l.length - 1 - i) :: l.drop (l.length - i):=by
 rw [List.drop_eq_getElem_cons (by omega),show l.length - (i+1)+1=l.length - i from by omega]
 congr 1
 unfold nth
 rw [aa,az (by omega)]
 simp [show l.length - (i+1)=l.length - 1 - i from by omega]
theorem aK (l:List Nat) (k:Nat) (h:k < l.length):nth l k=l[k]:=by
 unfold nth;rw [aa,az h];rfl
theorem PU (l:List Nat) (k:Nat) (h:k < l.length):l.take (k+1)=l.take k ++ [nth l k]:=by
 rw [List.take_succ_eq_append_getElem h,aK l k h]
theorem Jc3 (l:List Nat) (k:Nat) (h:k < l.length) (j:nth l k ∈ l.take k):¬ l.Nodup:=by
 intro f
 have d:(l.take (k+1)).Nodup:=f.sublist (List.take_sublist _ _)
 rw [PU l k h,aN] at d
 exact d.2.2 _ j _ (aF.2 rfl) rfl
theorem JcS (l:List Nat) (k:Nat) (h:k < l.length) (j:(l.take k).Nodup) (o:nth l k ∉ l.take k):(l.take (k+1)).Nodup:=by
 rw [PU l k h,aN]
 refine ⟨j,by simp,?_⟩
 intro a d b f e
 rw [aF] at f
 rw [e,f] at d
 exact o d
end Gf
namespace Gf
theorem p8:Bytes []:=fun i=>by simp [nth]
theorem oG {r:List Nat} (d:c < 256) (f:Bytes r):Bytes (c :: r):=fun i=>by
 cases i with
 | zero=>simpa [nth] using d
 | succ i=>simpa [nth] using f i
theorem BX {r:List Nat} (h:Bytes (c :: r)):c < 256:=by simpa [nth] using h 0
theorem xor_left_comm (a b c d:Nat):(a ^^^ b) ^^^ (c ^^^ d)=(a ^^^ c) ^^^ (b ^^^ d):=by ac_rfl
theorem dQ (h:a ^^^ b=0):a=b:=by
 have:(a ^^^ b) ^^^ b=b:=by rw [h,aA]
 rw [ba,ai,ah] at this
 exact this
theorem B0 (h:a≠b):a ^^^ b≠0:=fun e=>h (dQ e)
def j9:List Nat->List Nat->List Nat
 | [],b=>b
 | x :: a,[]=>x :: a
 | x :: a,y :: b=>(x ^^^ y) :: j9 a b
theorem sN:∀ a b:List Nat,Bytes a->Bytes b->Bytes (j9 a b)
 | [],_,_,hb=>hb
 | _ :: _,[],ha,_=>ha
 | _ :: a,_ :: b,ha,hb=>oG (iK (BX ha) (BX hb)) (sN a b ha.tail hb.tail)
theorem oN:∀ (a b:List Nat) (n:Nat),a.length<=n->b.length<=n->(j9 a b).length<=n
 | [],_,_,_,hb=>hb
 | _ :: _,[],_,ha,_=>ha
 | _ :: a,_ :: b,n,ha,hb=>by
  cases n with
  | zero=>simp at ha
  | succ n=>simp only [aR,ay] at ha hb;simp only [j9,aR,ay];exact oN a b n ha hb
theorem pO (x:Nat):∀ a b:List Nat,Bytes a->Bytes b->horner x (j9 a b)=horner x a ^^^ horner x b
 | [],b,_,_=>by show horner x b=0 ^^^ horner x b;rw [aA]
 | c :: a,[],_,_=>by show horner x (c :: a)=horner x (c :: a) ^^^ 0;rw [ah]
 | c :: a,d :: b,ha,hb=>by
  show mul (horner x (j9 a b)) x ^^^ (c ^^^ d)=(mul (horner x a) x ^^^ c) ^^^ (mul (horner x b) x ^^^ d)
  rw [pO x a b ha.tail hb.tail,mul_left _ _ _ (bF x a ha.tail) (bF x b hb.tail)]
  exact xor_left_comm _ _ _ _
def lR (c:Nat):List Nat->List Nat
 | []=>[]
 | d :: r=>mul c d :: lR c r
theorem pC {c:Nat} (f:c < 256):∀ l:List Nat,Bytes (lR c l)
 | []=>p8
 | d :: r=>oG (aV f d) (pC f r)
theorem yS (c:Nat):∀ l:List Nat,(lR c l).length=l.length
 | []=>rfl
 | _ :: r=>by simp [lR,yS c r]
theorem xM (c x:Nat) (f:c < 256):∀ l:List Nat,Bytes l->horner x (lR c l)=mul c (horner x l)
 | [],_=>(mul_zero c).symm
 | d :: r,h=>by
  show mul (horner x (lR c r)) x ^^^ mul c d=mul c (mul (horner x r) x ^^^ d)
  rw [xM c x f r h.tail,mul_right,mul_assoc c _ x f (bF x r h.tail)]
def pZ (l:List Nat) (c:Nat):List Nat:=j9 (0 :: l) (lR c l)
theorem VY  (h:Bytes l) (d:c < 256):Bytes (pZ l c):=sN _ _ (oG (by decide) h) (pC d l)
theorem E8  (h:l.length<=n):(pZ l c).length<=n+1:=oN _ _ _ (by simpa using h) (by rw [yS];omega)
theorem RW (l:List Nat) (c x:Nat) (h:Bytes l) (d:c < 256):horner x (pZ l c)=mul (horner x l) (x ^^^ c):=by
 unfold pZ
 rw [pO x _ _ (oG (by decide) h) (pC d l),xM c x d l h,mul_right,mul_comm c _ d (bF x l h)]
 show (mul (horner x l) x ^^^ 0) ^^^ _=_
 rw [ah]
def kR (r:Nat):List Nat->List Nat
 | []=>[]
 | _ :: t=>match t with
  | []=>[]
  | _ :: _=>horner r t :: kR r t
theorem zS (r:Nat):∀ l:List Nat,Bytes l->Bytes (kR r l)
 | [],_=>p8
 | [_],_=>p8
 | _ :: d :: t,h=>oG (bF r _ h.tail) (zS r (d :: t) h.tail)
theorem IN (r:Nat):∀ (l:List Nat) (n:Nat),l.length<=n+1->(kR r l).length<=n
 | [],_,_=>av _
 | [_],_,_=>av _
 | _ :: d :: t,n,h=>by
  cases n with
  | zero=>simp at h
  | succ n =>
   have:=IN r (d :: t) n (by simpa using h)
   simpa [kR] using this
theorem EI (r x:Nat) (z:r < 256) (j:x < 256):∀ l:List Nat,Bytes l->horner x l=mul (horner x (kR r l)) (x ^^^ r) ^^^ horner r l
 | [],_=>by show 0=mul 0 _ ^^^ 0;rw [zero_mul];rfl
 | [c],_=>by show mul 0 x ^^^ c=mul 0 _ ^^^ (mul 0 r ^^^ c);rw [zero_mul,zero_mul,zero_mul];simp
 | c :: d :: t,h=>by
  have ih:=EI r x z j (d :: t) h.tail
  have f:=bF x _ (zS r (d :: t) h.tail)
  have o:=bF r _ h.tail
  show mul (horner x (d :: t)) x ^^^ c=mul (mul (horner x (kR r (d :: t))) x ^^^ horner r (d :: t)) (x ^^^ r) ^^^ (mul (horner r (d :: t)) r ^^^ c)
  rw [ih]
  generalize horner x (kR r (d :: t))=q at f
  generalize horner r (d :: t)=s at o
  have y:=iK j z
  rw [mul_left _ _ _ (aV f _) o,mul_left _ _ _ (aV f _) o,mul_assoc q _ x f y,mul_assoc q x _ f j,mul_comm (x ^^^ r) x y j,mul_right s x r]
  have e:mul s r ^^^ mul s r=0:=ai _
  have:mul q (mul x (x ^^^ r)) ^^^ (mul s x ^^^ mul s r) ^^^ (mul s r ^^^ c)=mul q (mul x (x ^^^ r)) ^^^ mul s x ^^^ c ^^^ (mul s r ^^^ mul s r):=by ac_rfl
  rw [this,e,ah]
theorem D3 (j:a < 256) (f:b < 256) (o:b≠0) (h:mul a b=0):a=0:=by
 have d:mul (mul a b) (inv b)=a:=by rw [mul_assoc a b _ j f,eG b f o,mul_one]
 rw [h,zero_mul] at d
 exact d.symm
theorem BF:∀ (d l:List Nat),Bytes l->l.length<=d.length->d.Nodup->(∀ r ∈ d,r < 256/\horner r l=0)->∀ x,x < 256->horner x l=0
 | [],l,_,hlen,_,_,x,_=>by
  have:l=[]:=List.length_eq_zero_iff.1 (by simpa using hlen)
  rw [this];rfl
 | r :: d,l,hl,hlen,hn,hz,x,hx=>by
  have h:=hz r (List.mem_cons_self ..)
  have o:=zS r l hl
  have t:∀ y,y < 256->horner y l=mul (horner y (kR r l)) (y ^^^ r):=fun y A=>by
   rw [EI r y h.1 A l hl,h.2,ah]
  have B:=BF d (kR r l) o (IN r l _ (by simpa using hlen)) (a1.1 hn).2 (fun s j=>by
   have f:=hz s (List.mem_cons_of_mem _ j)
   refine ⟨f.1,?_⟩
   have z:=t s f.1
   rw [f.2] at z
   refine D3 (bF s _ o) (iK f.1 h.1) (B0 ?_) z.symm
   intro e
   rw [e] at j
   exact (a1.1 hn).1 j) x hx
  rw [t x hx,B,zero_mul]
def bK (d:List Nat) (i:Nat):Nat->List Nat
 | 0=>[1]
 | k+1=>if k=i then bK d i k else pZ (bK d i k) (nth d k)
theorem bM (d:List Nat) (f:Bytes d) (i:Nat):∀ k,Bytes (bK d i k)
 | 0=>oG (by decide) p8
 | k+1=>by
  unfold bK
  split
  ·exact bM d f i k
  ·exact VY (bM d f i k) (f k)
theorem cC (d:List Nat) (i:Nat):∀ k,(bK d i k).length<=k+1 - (if i < k then 1 else 0)
 | 0=>by simp [bK]
 | k+1=>by
  have ih:=cC d i k
  unfold bK
  split
  ·rename_i e
   subst e
   rw [if_neg (ax _)] at ih
   rw [if_pos (aP _)]
   omega
  ·rename_i e
   by_cases h:i < k
   ·rw [if_pos h] at ih
    rw [if_pos (by omega)]
    have:=E8 (c:=nth d k) ih
    omega
   ·rw [if_neg h] at ih
    rw [if_neg (by omega)]
    have:=E8 (c:=nth d k) ih
    omega
theorem bH (d:List Nat) (f:Bytes d) (i x:Nat):∀ k,horner x (bK d i k)=XY d i x k
 | 0=>by show mul 0 x ^^^ 1=1;rw [zero_mul];rfl
 | k+1=>by
  unfold bK XY
  split
  ·exact bH d f i x k
  ·rw [RW _ _ _ (bM d f i k) (f k),bH d f i x k]
def wV (d f:List Nat) (k:Nat):Nat:=mul (nth f k) (inv (XY d k (nth d k) d.length))
def rK (d f:List Nat):Nat->List Nat
 | 0=>[]
 | k+1=>j9 (rK d f k) (lR (wV d f k) (bK d k d.length))
theorem xZ (f d:List Nat) (h:Bytes d) (k:Nat):wV f d k < 256:=aV (h k) _
theorem wB (f d:List Nat) (h:Bytes d):∀ k,Bytes (rK f d k)
 | 0=>p8
 | k+1=>sN _ _ (wB f d h k) (pC (xZ f d h k) _)
theorem AG (d f:List Nat):∀ k,k<=d.length->(rK d f k).length<=d.length
 | 0,_=>av _
 | k+1,h=>by
  refine oN _ _ _ (AG d f k (by omega)) ?_
  rw [yS]
  have:=cC d k d.length
  rw [if_pos (by omega)] at this
  omega
theorem x9 (d f:List Nat) (j:Bytes d) (h:Bytes f) (x:Nat):∀ k,horner x (rK d f k)=fG d f x k
 | 0=>rfl
 | k+1=>by
  show horner x (j9 _ _)=fG d f x k ^^^ mul (nth f k) (aQ d k x)
  rw [pO x _ _ (wB d f h k) (pC (xZ d f h k) _),x9 d f j h x k,xM _ x (xZ d f h k) _ (bM d j k _),bH d j k x]
  unfold wV aQ
  rw [mul_assoc _ _ _ (h k) (cQ _),mul_comm (inv _) _ (cQ _) (bX _ _ _ _)]
theorem cJ (d:List Nat) (i j:Nat) (f:j≠i):∀ k,j < k->XY d i (nth d j) k=0
 | 0,h=>absurd h (ab _)
 | k+1,h=>by
  unfold XY
  split
  ·rename_i e
   exact cJ d i j f k (by omega)
  ·by_cases e:j=k
   ·subst e
    rw [ai,mul_zero]
   ·rw [cJ d i j f k (by omega),zero_mul]
theorem M0 (d:List Nat) (y:d.Nodup) (o:i < d.length) (s:j < d.length) (h:nth d i=nth d j):i=j:=by
 rw [aK d i o,aK d j s] at h
 have t:=List.pairwise_iff_getElem.1 y
 rcases Nat.lt_trichotomy i j with f | f | f
 ·exact absurd h (t i j o s f)
 ·exact f
 ·exact absurd h.symm (t j i s o f)
theorem VI (d:a < 256) (f:b < 256) (j:a≠0) (o:b≠0):mul a b≠0:=fun h=>j (D3 d f o h)
theorem dG (d:List Nat) (f:Bytes d) (j:d.Nodup) (i:Nat) (o:i < d.length):∀ k,k<=d.length->XY d i (nth d i) k≠0
 | 0,_=>by show (1:Nat)≠0;decide
 | k+1,h=>by
  unfold XY
  split
  ·exact dG d f j i o k (by omega)
  ·rename_i e
   exact VI (bX _ _ _ _) (iK (f i) (f k)) (dG d f j i o k (by omega)) (B0 fun s=>e (M0 d j (by omega) o s.symm))
theorem L2 (d:List Nat) (f:Bytes d) (h:d.Nodup) (i:Nat) (j:i < d.length):aQ d i (nth d i)=1 :=
 eG _ (bX _ _ _ _) (dG d f h i j _ (ae _))
theorem W4 (d:List Nat) (i j:Nat) (f:j < d.length) (h:j≠i):aQ d i (nth d j)=0:=by
 unfold aQ
 rw [cJ d i j h _ f,zero_mul]
theorem CA (d f:List Nat) (t:Bytes d) (y:d.Nodup) (j:Nat) (o:j < d.length):∀ k,k<=d.length->fG d f (nth d j) k=if j < k then nth f j else 0
 | 0,_=>by rw [if_neg (ab _)];rfl
 | k+1,h=>by
  unfold fG
  rw [CA d f t y j o k (by omega)]
  by_cases e:j=k
  ·subst e
   rw [if_neg (ax _),if_pos (aP _),L2 d t y j o,mul_one,aA]
  ·rw [W4 d k j o e,mul_zero,ah]
   by_cases s:j < k
   ·rw [if_pos s,if_pos (by omega)]
   ·rw [if_neg s,if_neg (by omega)]
theorem through (p d f:List Nat) (t:Bytes p) (o:Bytes d) (y:Bytes f) (A:d.Nodup) (D:p.length<=d.length) (E:∀ j,j < d.length->nth f j=horner (nth d j) p) (x:Nat) (G:x < 256) :
 fG d f x d.length=horner x p:=by
 have s:=wB d f y d.length
 have z:=BF d (j9 (rK d f d.length) p) (sN _ _ s t) (oN _ _ _ (AG d f _ (ae _)) D) A (fun r B=>by
  obtain ⟨j,h,rfl⟩:=List.getElem_of_mem B
  rw [<- aK d j h]
  refine ⟨o j,?_⟩
  rw [pO _ _ _ s t,x9 d f o y,CA d f o A j h _ (ae _),if_pos h,E j h,ai]) x G
 rw [pO x _ _ s t,x9 d f o y] at z
 exact dQ z
end Gf
namespace Gf
def gQ (l:List Nat) (x:Nat):Nat->Nat
 | 0=>0
 | k+1=>gQ l x k ^^^ mul (nth l k) (bZ x k)
theorem iA (l:List Nat) (x:Nat) (h:Bytes l):∀ k,gQ l x k < 256
 | 0=>by show 0 < 256;decide
 | k+1=>iK (iA l x h k) (aV (h k) _)
theorem CD (x c:Nat) (j:x < 256) (f:c < 256):∀ l:List Nat,Bytes l->horner x (l ++ [c])=horner x l ^^^ mul c (bZ x l.length)
 | [],_=>by show mul 0 x ^^^ c=0 ^^^ mul c 1;rw [zero_mul,mul_one]
 | d :: r,h=>by
  show mul (horner x (r ++ [c])) x ^^^ d=(mul (horner x r) x ^^^ d) ^^^ mul c (mul (bZ x r.length) x)
  rw [CD x c j f r h.tail,mul_left _ _ _ (bF x r h.tail) (aV f _),mul_assoc c _ x f (dV x _)]
  ac_rfl
theorem W2 (h:Bytes l) (k:Nat):Bytes (l.take k):=fun i=>by
 by_cases d:i < k
 ·have:=h i
  simpa [nth,aa,aI,d] using this
 ·simp [nth,aa,aI,d]
theorem KQ (l:List Nat) (x:Nat) (d:x < 256) (h:Bytes l):∀ k,k<=l.length->gQ l x k=horner x (l.take k)
 | 0,_=>by simp [gQ,horner]
 | k+1,hk=>by
  rw [PU l k (by omega),CD x _ d (h k) _ (W2 h k),<- KQ l x d h k (by omega)]
  show _ ^^^ _=_
  rw [List.length_take,Nat.min_eq_left (by omega)]
theorem jL (l:List Nat) (x:Nat) (d:x < 256) (h:Bytes l):gQ l x l.length=horner x l:=by
 rw [KQ l x d h _ (ae _),List.take_length]
theorem JbQ (a b:Nat) (f:a < 256) (d:b < 256) (h:a≠0) (j:b≠0):inv (mul a b)=mul (inv a) (inv b):=by
 symm
 refine eN (mul a b) _ (aV f b) (aV (cQ a) _) (VI f d h j) ?_
 rw [mul_assoc a b _ f d,<- mul_assoc b (inv a) _ d (cQ a),mul_comm b (inv a) d (cQ a),mul_assoc (inv a) b _ (cQ a) d,eG b d j,mul_one,eG a f h]
def e0 (d:List Nat) (i x:Nat):Nat->Nat
 | 0=>1
 | k+1=>if k=i then e0 d i x k else mul (e0 d i x k) (mul (x ^^^ nth d k) (inv (nth d i ^^^ nth d k)))
theorem e6 (d:List Nat) (i x:Nat):∀ k,e0 d i x k < 256
 | 0=>by show 1 < 256;decide
 | k+1=>by
  unfold e0
  split
  ·exact e6 d i x k
  ·exact aV (e6 d i x k) _
theorem S0 (a b c d:Nat) (j:a < 256) (f:b < 256) (h:c < 256):mul (mul a b) (mul c d)=mul (mul a c) (mul b d):=by
 rw [mul_assoc a b _ j f,<- mul_assoc b c d f h,mul_comm b c f h,mul_assoc c b d h f,<- mul_assoc a c _ j h]
theorem Jct:inv 1=1:=by decide +kernel
theorem x6 (d:List Nat) (f:Bytes d) (h:d.Nodup) (i x:Nat) (j:i < d.length) (o:x < 256):∀ k,k<=d.length->e0 d i x k=mul (XY d i x k) (inv (XY d i (nth d i) k))
 | 0,_=>by show 1=mul 1 (inv 1);rw [Jct,mul_one]
 | k+1,hk=>by
  have ih:=x6 d f h i x j o k (by omega)
  unfold e0 XY
  by_cases e:k=i
  ·rw [if_pos e,if_pos e,if_pos e];exact ih
  ·rw [if_neg e,if_neg e,if_neg e,ih]
   have s:=dG d f h i j k (by omega)
   have t:nth d i ^^^ nth d k≠0:=B0 fun y=>e (M0 d h (by omega) j y.symm)
   rw [JbQ _ _ (bX _ _ _ _) (iK (f i) (f k)) s t]
   exact S0 _ _ _ _ (bX _ _ _ _) (cQ _) (iK o (f k))
theorem e7 (d:List Nat) (f:Bytes d) (h:d.Nodup) (i x:Nat) (j:i < d.length) (o:x < 256):e0 d i x d.length=aQ d i x:=x6 d f h i x j o _ (ae _)
end Gf
namespace Lin
abbrev F:=Fin 256
def ad (a b:F):F:=⟨a.1 ^^^ b.1,Gf.iK a.2 b.2⟩
def mu (a b:F):F:=⟨Gf.mul a.1 b.1,Gf.aV a.2 _⟩
def iv (a:F):F:=⟨Gf.inv a.1,Gf.cQ _⟩
theorem uV (a b:F):ad a b=ad b a:=ak (Nat.xor_comm _ _)
theorem oO (a b c:F):ad (ad a b) c=ad a (ad b c):=ak (ba _ _ _)
theorem cF (a:F):ad a 0=a:=ak (ah _)
theorem AN (a:F):ad 0 a=a:=ak (aA _)
theorem uG (a:F):ad a a=0:=ak (ai _)
theorem wR {a b:F} (h:ad a b=0):a=b:=ak (Gf.dQ (congrArg Fin.val h))
theorem TK (a b c:F):ad a (ad b c)=ad b (ad a c):=by rw [<- oO,uV a b,oO]
theorem MD (a b c d:F):ad (ad a b) (ad c d)=ad (ad a c) (ad b d):=by rw [oO,TK b c d,<- oO]
theorem Jc4 (a b:F):ad a (ad a b)=b:=by rw [<- oO,uG,AN]
theorem cR (a b:F):mu a b=mu b a:=ak (Gf.mul_comm _ _ a.2 b.2)
theorem aT (a b c:F):mu (mu a b) c=mu a (mu b c):=ak (Gf.mul_assoc _ _ _ a.2 b.2)
theorem C6 (a b c:F):mu a (ad b c)=ad (mu a b) (mu a c):=ak (Gf.mul_right _ _ _)
theorem vR (a b c:F):mu (ad a b) c=ad (mu a c) (mu b c):=ak (Gf.mul_left _ _ _ a.2 b.2)
theorem bN (a:F):mu a 0=0:=ak (Gf.mul_zero a.1)
theorem bR (a:F):mu 0 a=0:=ak (Gf.zero_mul a.1)
theorem oY (a:F):mu a 1=a:=ak (Gf.mul_one a.1)
theorem dU (a:F):mu 1 a=a:=by rw [cR,oY]
theorem yW (a:F) (h:a≠0):mu a (iv a)=1:=ak (Gf.eG a.1 a.2 (fun e=>h (ak e)))
theorem rX (a:F) (h:a≠0):mu (iv a) a=1:=by rw [cR,yW a h]
theorem G5:(1:F)≠0:=by decide
theorem lS {a b:F} (d:a≠0) (f:b≠0):mu a b≠0:=fun h=>d (by
 have:mu (mu a b) (iv b)=a:=by rw [aT,yW b f,oY]
 rw [h,bR] at this
 exact this.symm)
def aL:Nat->(Nat->F)->F
 | 0,_=>0
 | k+1,f=>ad (aL k f) (f k)
theorem aH {f g:Nat->F}:∀ {k:Nat},(∀ i,i < k->f i=g i)->aL k f=aL k g
 | 0,_=>rfl
 | k+1,h=>by show ad _ _=ad _ _;rw [aH (fun i d=>h i (by omega)),h k (by omega)]
theorem bS {f:Nat->F}:∀ {k:Nat},(∀ i,i < k->f i=0)->aL k f=0
 | 0,_=>rfl
 | k+1,h=>by show ad _ _=0;rw [bS (fun i d=>h i (by omega)),h k (by omega),cF]
theorem oT (f g:Nat->F):∀ k,aL k (fun i=>ad (f i) (g i))=ad (aL k f) (aL k g)
 | 0=>(cF 0).symm
 | k+1=>by show ad _ _=ad (ad _ _) (ad _ _);rw [oT f g k,MD]
theorem bJ (c:F) (f:Nat->F):∀ k,aL k (fun i=>mu c (f i))=mu c (aL k f)
 | 0=>(bN c).symm
 | k+1=>by show ad _ _=mu c (ad _ _);rw [bJ c f k,C6]
theorem Z4 (c:F) (f:Nat->F) (k:Nat):aL k (fun i=>mu (f i) c)=mu (aL k f) c:=by
 rw [cR,<- bJ]
 exact aH fun i _=>cR _ _
theorem bW (f:Nat->Nat->F) (l:Nat):∀ k,aL k (fun i=>aL l (fun j=>f i j))=aL l (fun j=>aL k (fun i=>f i j))
 | 0=>(bS fun _ _=>rfl).symm
 | k+1=>by
  show ad (aL k _) (aL l _)=_
  rw [bW f l k,<- oT]
  rfl
theorem b9 (p:Nat) (f:Nat->F):∀ k,p < k->(∀ i,i < k->i≠p->f i=0)->aL k f=f p
 | 0,h,_=>absurd h (ab _)
 | k+1,h,hz=>by
  show ad (aL k f) (f k)=f p
  by_cases e:p=k
  ·subst e
   rw [bS (fun i d=>hz i (by omega) (by omega)),AN]
  ·rw [b9 p f k (by omega) (fun i d=>hz i (by omega)),hz k (by omega) (fun j=>e j.symm),cF]
def skip (p i:Nat):Nat:=if i < p then i else i+1
theorem O7 (p i:Nat):skip p i≠p:=by unfold skip;split <;> omega
theorem MQ (h:i < k):skip p i < k+1:=by unfold skip;split <;> omega
theorem sY (p:Nat) (f:Nat->F):∀ k,p < k+1->aL (k+1) f=ad (f p) (aL k (fun i=>f (skip p i)))
 | 0,h=>by
  obtain rfl:p=0:=by omega
  show ad 0 (f 0)=ad (f 0) 0
  rw [AN,cF]
 | k+1,h=>by
  by_cases e:p=k+1
  ·subst e
   show ad (aL (k+1) f) (f (k+1))=_
   rw [uV]
   congr 1
   exact aH fun i d=>by unfold skip;rw [if_pos d]
  ·show ad (aL (k+1) f) (f (k+1))=ad (f p) (ad (aL k fun i=>f (skip p i)) (f (skip p k)))
   rw [sY p f k (by omega),show skip p k=k+1 from by unfold skip;rw [if_neg (by omega)],oO]
theorem uW:∀ (s r:Nat),s < r->∀ a:Nat->Nat->F,∃ c:Nat->F,(∃ i,i < r/\c i≠0)/\∀ j,j < s->aL r (fun i=>mu (c i) (a i j))=0
 | 0,r,h,_=>⟨fun _=>1,⟨0,h,G5⟩,fun j f=>absurd f (ab _)⟩
 | s+1,r,h,a=>by
  by_cases z:∃ p,p < r/\a p s≠0
  ·obtain ⟨p,D,E⟩:=z
   obtain ⟨k,rfl⟩:∃ k,r=k+1:=⟨r - 1,by omega⟩
   obtain ⟨c,⟨A,G,o⟩,t⟩:=uW s k (by omega) (fun i j=>ad (a (skip p i) j) (mu (mu (a (skip p i) s) (iv (a p s))) (a p j)))
   let cp:F:=aL k (fun i=>mu (c i) (mu (a (skip p i) s) (iv (a p s))))
   let d:Nat->F:=fun i=>if i=p then cp else c (if i < p then i else i - 1)
   have H:d p=cp:=if_pos rfl
   have B:∀ i,d (skip p i)=c i:=by
    intro i
    show (if skip p i=p then cp else _)=_
    rw [if_neg (O7 p i)]
    congr 1
    by_cases y:i < p
    ·rw [show skip p i=i from if_pos y,if_pos y]
    ·rw [show skip p i=i+1 from if_neg y,if_neg (by omega)];omega
   have I:∀ j,aL (k+1) (fun i=>mu (d i) (a i j))=aL k (fun i=>mu (c i) (ad (a (skip p i) j) (mu (mu (a (skip p i) s) (iv (a p s))) (a p j)))):=by
    intro j
    rw [sY p _ k D,H]
    have J:aL k (fun i=>mu (d (skip p i)) (a (skip p i) j))=aL k (fun i=>mu (c i) (a (skip p i) j)):=aH fun i _=>by rw [B i]
    have K:mu cp (a p j)=aL k (fun i=>mu (c i) (mu (mu (a (skip p i) s) (iv (a p s))) (a p j))):=by
     show mu (aL k _) (a p j)=_
     rw [<- Z4]
     exact aH fun i _=>by rw [aT,aT]
    rw [J,K,uV,<- oT]
    exact aH fun i _=>by rw [C6]
   refine ⟨d,⟨skip p A,MQ G,by rw [B A];exact o⟩,fun j f=>?_⟩
   rw [I j]
   by_cases e:j=s
   ·subst e
    refine bS fun i _=>?_
    rw [aT (a (skip p i) j),rX _ E,oY,uG,bN]
   ·exact t j (by omega)
  ·obtain ⟨c,o,t⟩:=uW s r (by omega) a
   refine ⟨c,o,fun j f=>?_⟩
   by_cases e:j=s
   ·subst e
    refine bS fun i L=>?_
    have:a i j=0:=af fun M=>z ⟨i,L,M⟩
    rw [this,bN]
   ·exact t j (by omega)
def Zu (n k:Nat) (v:Nat->Nat->F) (u:Nat->F):Prop:=∃ c:Nat->F,∀ j,j < n->u j=aL k (fun i=>mu (c i) (v i j))
def dD (n k:Nat) (v:Nat->Nat->F):Prop:=∀ c:Nat->F,(∀ j,j < n->aL k (fun i=>mu (c i) (v i j))=0)->∀ i,i < k->c i=0
theorem vJ {u v:Nat->Nat->F} (h:∀ i,i < r->Zu n s v (u i)):∃ a:Nat->Nat->F,∀ i,i < r->∀ j,j < n->u i j=aL s (fun l=>mu (a i l) (v l j)):=by
 have f:∀ i,∃ c:Nat->F,i < r->∀ j,j < n->u i j=aL s (fun l=>mu (c l) (v l j)):=fun i=>by
  by_cases d:i < r
  ·obtain ⟨c,o⟩:=h i d
   exact ⟨c,fun _=>o⟩
  ·exact ⟨fun _=>0,fun h=>absurd h d⟩
 exact ⟨fun i=>Classical.choose (f i),fun i d=>Classical.choose_spec (f i) d⟩
theorem wE {u v:Nat->Nat->F} (E:dD n r u) (h:∀ i,i < r->Zu n s v (u i)):r<=s:=by
 refine af fun G=>?_
 obtain ⟨a,d⟩:=vJ h
 obtain ⟨c,⟨f,o,t⟩,y⟩:=uW s r (by omega) a
 refine t (E c (fun j z=>?_) f o)
 have A:aL r (fun i=>mu (c i) (u i j))=aL r (fun i=>aL s (fun l=>mu (mu (c i) (a i l)) (v l j))):=aH fun i B=>by
  rw [d i B j z,<- bJ]
  exact aH fun l _=>(aT _ _ _).symm
 rw [A,bW]
 refine bS fun l D=>?_
 rw [Z4,y l D,bR]
theorem UF {v:Nat->Nat->F} (at_:Nat->Nat) (A:∀ i,i < k->at_ i < n) (B:∀ i,i < k->v i (at_ i)≠0) (D:∀ i j,i < j->j < k->v j (at_ i)=0):dD n k v:=by
 intro c t
 have y:∀ m,∀ i,i < m->i < k->c i=0:=by
  intro m
  induction m with
  | zero=>intro i d;exact absurd d (ab _)
  | succ m ih =>
   intro i d f
   by_cases e:i < m
   ·exact ih i e f
   ·obtain rfl:i=m:=by omega
    have o:=t (at_ i) (A i f)
    rw [b9 i _ k f] at o
    ·refine af fun h=>lS h (B i f) o
    ·intro j s E
     by_cases z:j < i
     ·rw [ih j z s,bR]
     ·rw [D i j (by omega) s,bN]
 exact fun i d=>y k i d d
def cL (n k:Nat) (v:Nat->Nat->F) (r:Nat):Prop:=∃ b:Nat->Nat->F,dD n r b/\(∀ i,i < r->Zu n k v (b i))/\∀ i,i < k->Zu n r b (v i)
theorem nM {l:Nat} {v w:Nat->Nat->F} {u:Nat->F} (t:Zu n k v u) (y:∀ i,i < k->Zu n l w (v i)):Zu n l w u:=by
 obtain ⟨c,f⟩:=t
 obtain ⟨a,h⟩:=vJ y
 refine ⟨fun m=>aL k (fun i=>mu (c i) (a i m)),fun j d=>?_⟩
 rw [f j d]
 have o:aL k (fun i=>mu (c i) (v i j))=aL k (fun i=>aL l (fun m=>mu (mu (c i) (a i m)) (w m j))):=aH fun i s=>by
  rw [h i s j d,<- bJ]
  exact aH fun m _=>(aT _ _ _).symm
 rw [o,bW]
 exact aH fun m _=>Z4 _ _ _
theorem aU (v:Nat->Nat->F) (f:i < k):Zu n k v (v i) :=
 ⟨fun j=>if j=i then 1 else 0,fun j _=>by
  rw [b9 i _ k f]
  ·show v i j=mu (if i=i then 1 else 0) (v i j);rw [if_pos rfl,dU]
  ·intro l _ d;show mu (if l=i then 1 else 0) (v l j)=0;rw [if_neg d,bR]⟩
theorem dT {l:Nat} {v:Nat->Nat->F} {u:Nat->F} (h:Zu n k v u) (f:k<=l):Zu n l v u :=
 nM h fun _ d=>aU v (by omega)
theorem Jc5 (n k:Nat) (v:Nat->Nat->F):Zu n k v (fun _=>0):=⟨fun _=>0,fun _ _=>(bS fun _ _=>bR _).symm⟩
theorem G7 {v:Nat->Nat->F} {x y:Nat->F} (s:Zu n k v x) (t:Zu n k v y):Zu n k v (fun j=>ad (x j) (y j)):=by
 obtain ⟨c,h⟩:=s
 obtain ⟨d,o⟩:=t
 refine ⟨fun i=>ad (c i) (d i),fun j f=>?_⟩
 show ad (x j) (y j)=_
 rw [h j f,o j f,<- oT]
 exact aH fun i _=>(vR _ _ _).symm
theorem xF {v:Nat->Nat->F} {x:Nat->F} (h:Zu n k v x) (a:F):Zu n k v (fun j=>mu a (x j)):=by
 obtain ⟨c,d⟩:=h
 refine ⟨fun i=>mu a (c i),fun j f=>?_⟩
 show mu a (x j)=_
 rw [d j f,<- bJ]
 exact aH fun i _=>(aT _ _ _).symm
theorem aX {v w:Nat->Nat->F} {x y:Nat->F} (h:Zu n k v x) (s:∀ i,i < k->∀ j,j < n->v i j=w i j) (t:∀ j,j < n->x j=y j):Zu n k w y:=by
 obtain ⟨c,f⟩:=h
 exact ⟨c,fun j d=>by rw [<- t j d,f j d];exact aH fun i o=>by rw [s i o j d]⟩
theorem dY {v:Nat->Nat->F} (A:cL n k v r) (B:cL n k v s):r=s:=by
 obtain ⟨b,h,j,o⟩:=A
 obtain ⟨d,t,y,z⟩:=B
 exact Nat.le_antisymm (wE h fun i f=>nM (j i f) z) (wE t fun i f=>nM (y i f) o)
def mm (n:Nat) (a b:Nat->Nat->F):Nat->Nat->F:=fun i j=>aL n (fun k=>mu (a i k) (b k j))
def one:Nat->Nat->F:=fun i j=>if i=j then 1 else 0
theorem cN (n l:Nat) (a b c:Nat->Nat->F) (i j:Nat):mm l (mm n a b) c i j=mm n a (mm l b c) i j:=by
 show aL l (fun m=>mu (aL n (fun k=>mu (a i k) (b k m))) (c m j))=aL n (fun k=>mu (a i k) (aL l (fun m=>mu (b k m) (c m j))))
 have d:aL l (fun m=>mu (aL n (fun k=>mu (a i k) (b k m))) (c m j))=aL l (fun m=>aL n (fun k=>mu (mu (a i k) (b k m)) (c m j))):=aH fun m _=>(Z4 _ _ _).symm
 have f:aL n (fun k=>mu (a i k) (aL l (fun m=>mu (b k m) (c m j))))=aL n (fun k=>aL l (fun m=>mu (mu (a i k) (b k m)) (c m j))):=aH fun k _=>by
  rw [<- bJ]
  exact aH fun m _=>(aT _ _ _).symm
 rw [d,f,bW]
theorem fK (n:Nat) (a:Nat->Nat->F) (i j:Nat) (f:j < n):mm n a one i j=a i j:=by
 show aL n (fun k=>mu (a i k) (one k j))=_
 rw [b9 j _ n f]
 ·show mu (a i j) (if j=j then 1 else 0)=_
  rw [if_pos rfl,oY]
 ·intro k _ d;show mu (a i k) (if k=j then 1 else 0)=0;rw [if_neg d,bN]
theorem fJ (n:Nat) (a:Nat->Nat->F) (i j:Nat) (f:i < n):mm n one a i j=a i j:=by
 show aL n (fun k=>mu (one i k) (a k j))=_
 rw [b9 i _ n f]
 ·show mu (if i=i then 1 else 0) (a i j)=_
  rw [if_pos rfl,dU]
 ·intro k _ d;show mu (if i=k then 1 else 0) (a k j)=0;rw [if_neg (fun e=>d e.symm),bR]
theorem bQ (n:Nat) {a b c d:Nat->Nat->F} (h:∀ k,k < n->a i k=c i k) (o:∀ k,k < n->b k j=d k j):mm n a b i j=mm n c d i j:=aH fun k f=>by rw [h k f,o k f]
theorem SR (n:Nat):dD n n one:=UF (fun i=>i) (fun _ h=>h) (fun i _=>by show (if i=i then (1:F) else 0)≠0;rw [if_pos rfl];exact G5) (fun i j d _=>by show (if j=i then (1:F) else 0)=0;rw [if_neg (by omega)])
theorem JcT (n:Nat) (u:Nat->F):Zu n n one u:=⟨u,fun j d=>by
 rw [b9 j _ n d]
 ·show u j=mu (u j) (if j=j then 1 else 0);rw [if_pos rfl,oY]
 ·intro k _ f;show mu (u k) (if k=j then 1 else 0)=0;rw [if_neg f,bN]⟩
theorem SU {v:Nat->Nat->F} (E:dD n n v) (u:Nat->F):Zu n n v u:=by
 obtain ⟨c,⟨f,G,t⟩,y⟩:=uW n (n+1) (by omega) (fun i=>if i < n then v i else u)
 have s:∀ j,j < n->ad (aL n (fun i=>mu (c i) (v i j))) (mu (c n) (u j))=0:=by
  intro j d
  have h:=y j d
  have e:aL (n+1) (fun i=>mu (c i) ((if i < n then v i else u) j))=ad (aL n (fun i=>mu (c i) (v i j))) (mu (c n) (u j)):=by
   show ad (aL n _) (mu (c n) ((if n < n then v n else u) j))=_
   rw [if_neg (ax n)]
   congr 1
   exact aH fun i z=>by rw [if_pos z]
  rw [e] at h
  exact h
 by_cases o:c n=0
 ·exfalso
  refine t ?_
  have A:=E c (fun j d=>by have:=s j d;rw [o,bR,cF] at this;exact this)
  by_cases e:f < n
  ·exact A f e
  ·obtain rfl:f=n:=by omega
   exact o
 ·refine ⟨fun i=>mu (iv (c n)) (c i),fun j d=>?_⟩
  have B:=wR (s j d)
  have D:aL n (fun i=>mu (mu (iv (c n)) (c i)) (v i j))=mu (iv (c n)) (aL n (fun i=>mu (c i) (v i j))):=by
   rw [<- bJ]
   exact aH fun i _=>aT _ _ _
  rw [D,B,<- aT,rX _ o,dU]
theorem LN {x m:Nat->Nat->F} (h:∀ i j,i < n->j < n->mm n x m i j=one i j):dD n n m:=by
 intro c t
 refine af fun y=>?_
 have ⟨p,hp⟩:∃ p,p < n/\c p≠0:=af fun z=>y fun i d=>af fun A=>z ⟨i,d,A⟩
 obtain ⟨f,B⟩:=hp
 obtain ⟨k,rfl⟩:∃ k,n=k+1:=⟨n - 1,by omega⟩
 have D:∀ i,i < k+1->Zu (k+1) k (fun i=>m (skip p i)) (one i):=by
  intro i d
  refine ⟨fun l=>ad (x i (skip p l)) (mu (x i p) (mu (iv (c p)) (c (skip p l)))),fun j o=>?_⟩
  have E:=h i j d o
  rw [<- E]
  show aL (k+1) (fun l=>mu (x i l) (m l j))=_
  rw [sY p _ k f]
  have s:=t j o
  rw [sY p _ k f] at s
  have G:m p j=mu (iv (c p)) (aL k (fun l=>mu (c (skip p l)) (m (skip p l) j))):=by
   rw [<- wR s,<- aT,rX _ B,dU]
  have H:aL k (fun l=>mu (ad (x i (skip p l)) (mu (x i p) (mu (iv (c p)) (c (skip p l))))) (m (skip p l) j))=ad (aL k (fun l=>mu (x i (skip p l)) (m (skip p l) j))) (mu (x i p) (mu (iv (c p)) (aL k (fun l=>mu (c (skip p l)) (m (skip p l) j))))):=by
   rw [<- bJ,<- bJ,<- oT]
   exact aH fun l _=>by rw [vR,aT,aT]
  rw [H,<- G,uV]
 have:=wE (SR (k+1)) D
 omega
theorem cK {x m:Nat->Nat->F} (h:∀ i j,i < n->j < n->mm n x m i j=one i j):∀ i j,i < n->j < n->mm n m x i j=one i j:=by
 have f:=LN h
 intro i j o s
 have t:=f (fun k=>ad (mm n m x i k) (one i k)) (fun l d=>by
  have y:aL n (fun k=>mu (ad (mm n m x i k) (one i k)) (m k l))=ad (mm n (mm n m x) m i l) (mm n one m i l):=by
   show _=ad (aL n _) (aL n _)
   rw [<- oT]
   exact aH fun k _=>vR _ _ _
  have z:mm n (mm n m x) m i l=m i l:=by
   rw [cN]
   show aL n (fun k=>mu (m i k) (mm n x m k l))=_
   rw [aH (g:=fun k=>mu (m i k) (one k l)) fun k A=>by rw [h k l A d]]
   exact fK n m i l d
  rw [y,z,fJ n m i l o,uG]) j s
 exact wR t
theorem dR {m:Nat->Nat->F} (h:dD n n m):∃ x:Nat->Nat->F,∀ i j,i < n->j < n->mm n x m i j=one i j:=by
 obtain ⟨x,d⟩:=vJ (r:=n) (u:=one) fun i _=>SU h (one i)
 exact ⟨x,fun i j f o=>(d i f j o).symm⟩
end Lin
def Qi (n:Nat) (f:Nat->Nat):List Nat:=(a3 n).map f
theorem Jf (n:Nat) (f:Nat->Nat):(Qi n f).length=n:=by simp [Qi]
theorem Yq (n:Nat) (f:Nat->Nat) (j:Nat) (h:j < n):Gf.nth (Qi n f) j=f j:=by
 rw [Gf.aK _ _ (by rw [Jf];exact h)];simp [Qi]
theorem XL (n:Nat) (f:Nat->Nat) (h:∀ j,f j < 256):Gf.Bytes (Qi n f):=fun i=>by
 by_cases d:i < n
 ·rw [Yq n f i d];exact h i
 ·unfold Gf.nth;rw [aa,List.getElem?_eq_none (by rw [Jf];omega)];decide
theorem YL (n:Nat) (f g:Nat->Nat) (h:∀ j,j < n->f j=g j):Qi n f=Qi n g:=by
 unfold Qi
 exact List.map_congr_left fun j d=>h j (aC.1 d)
theorem Jp6 (n:Nat) (f:Nat->Nat) (j v:Nat):(Qi n f).set j v=Qi n (fun i=>if i=j then v else f i):=by
 apply aW
 ·simp [Qi]
 ·intro i h o
  rw [List.getElem_set]
  simp only [Qi,aS,aG]
  by_cases e:j=i
  ·rw [if_pos e,if_pos e.symm]
  ·rw [if_neg e,if_neg (fun d=>e d.symm)]
theorem Jc6 (l:List Nat) (n:Nat) (h:l.length=n):Qi n (Gf.nth l)=l:=by
 subst h
 apply aW
 ·simp [Qi]
 ·intro i f d
  simp only [Qi,aS,aG]
  exact Gf.aK l i d
def Qh (M:List (List Nat)) (i:Nat):List Nat:=M.getD i []
theorem Zx (M:List (List Nat)) (r:List Nat) (i:Nat) (h:i < M.length):Qh (M ++ [r]) i=Qh M i:=by
 unfold Qh;rw [aa,aa,List.getElem?_append_left h]
theorem X4 (M:List (List Nat)) (r:List Nat):Qh (M ++ [r]) M.length=r:=by
 unfold Qh;rw [aa,List.getElem?_append_right (ae _)];simp
def Qa:List Nat->Nat
 | []=>0
 | c :: r=>if c=0 then Qa r+1 else 0
theorem JbR:∀ l,Qa l<=l.length
 | []=>ae _
 | c :: r=>by
  unfold Qa
  split
  ·have:=JbR r;simp;omega
  ·simp
theorem wX:∀ (l:List Nat) (i:Nat),i < Qa l->Gf.nth l i=0
 | [],i,h=>absurd h (ab _)
 | c :: r,i,h=>by
  unfold Qa at h
  by_cases e:c=0
  ·rw [if_pos e] at h
   cases i with
   | zero=>simpa [Gf.nth] using e
   | succ i =>
    have:=wX r i (by omega)
    simpa [Gf.nth] using this
  ·rw [if_neg e] at h;exact absurd h (ab _)
theorem sA:∀ l:List Nat,Qa l < l.length->Gf.nth l (Qa l)≠0
 | [],h=>absurd h (ax _)
 | c :: r,h=>by
  unfold Qa at h ⊢
  by_cases e:c=0
  ·rw [if_pos e] at h ⊢
   have:=sA r (by simpa using h)
   simpa [Gf.nth] using this
  ·rw [if_neg e];simpa [Gf.nth] using e
def X2 (n:Nat) (row d:List Nat):List Nat:=Qi n fun j=>Gf.nth row j ^^^ Gf.mul (Gf.mul (Gf.nth row (Qa d)) (Gf.inv (Gf.nth d (Qa d)))) (Gf.nth d j)
def Jy (n:Nat) (row:List Nat) (K:List (List Nat)):Nat->List Nat
 | 0=>row
 | k+1=>X2 n (Jy n row K k) (Qh K k)
def Ja (n:Nat) (M:List (List Nat)):Nat->List (List Nat)
 | 0=>[]
 | i+1=>if Qa (Jy n (Qh M i) (Ja n M i) (Ja n M i).length) < n then Ja n M i ++ [Jy n (Qh M i) (Ja n M i) (Ja n M i).length] else Ja n M i
theorem Jbo (n:Nat) (row:List Nat) (K:List (List Nat)) (h:row.length=n):∀ k,(Jy n row K k).length=n
 | 0=>h
 | _+1=>Jf _ _
theorem WZ (n:Nat) (row d:List Nat) (h:Gf.Bytes row):Gf.Bytes (X2 n row d):=XL _ _ fun j=>Gf.iK (h j) (Gf.aV (Gf.aV (h _) _) _)
theorem pE (n:Nat) (row:List Nat) (K:List (List Nat)) (h:Gf.Bytes row):∀ k,Gf.Bytes (Jy n row K k)
 | 0=>h
 | k+1=>WZ _ _ _ (pE n row K h k)
theorem s5 (n:Nat) (M:List (List Nat)) (f:∀ i,Gf.Bytes (Qh M i)) (h:∀ i,i < M.length->(Qh M i).length=n):∀ i,i<=M.length->∀ k,k < (Ja n M i).length->(Qh (Ja n M i) k).length=n/\Gf.Bytes (Qh (Ja n M i) k)/\Qa (Qh (Ja n M i) k) < n
 | 0,_,k,hk=>absurd hk (ab _)
 | i+1,hi,k,hk=>by
  have ih:=s5 n M f h i (by omega)
  unfold Ja at hk ⊢
  split
  ·rename_i d
   rw [if_pos d] at hk
   by_cases e:k < (Ja n M i).length
   ·rw [Zx _ _ _ e];exact ih k e
   ·obtain rfl:k=(Ja n M i).length:=by simp at hk;omega
    rw [X4]
    exact ⟨Jbo n _ _ (h i (by omega)) _,pE n _ _ (f i) _,d⟩
  ·rename_i d
   rw [if_neg d] at hk
   exact ih k hk
theorem S3 (n:Nat) (M:List (List Nat)):∀ i,(Ja n M i).length<=i
 | 0=>ae _
 | i+1=>by
  have:=S3 n M i
  unfold Ja
  split
  ·simp;omega
  ·omega
def Qm (x:Nat):Lin.F:=⟨x % 256,Nat.mod_lt _ (by decide)⟩
theorem YY (h:x < 256):(Qm x).1=x:=aO h
theorem AP (h:x < 256):Qm x=0↔x=0:=by
 constructor
 ·intro e
  have:=congrArg Fin.val e
  rw [YY h] at this
  exact this
 ·rintro rfl;rfl
theorem qW (d:x < 256) (f:y < 256):Qm (x ^^^ y)=Lin.ad (Qm x) (Qm y):=by
 apply ak
 rw [YY (Gf.iK d f)]
 show _=(Qm x).1 ^^^ (Qm y).1
 rw [YY d,YY f]
theorem oU (d:x < 256) (f:y < 256):Qm (Gf.mul x y)=Lin.mu (Qm x) (Qm y):=by
 apply ak
 rw [YY (Gf.aV d y)]
 show _=Gf.mul (Qm x).1 (Qm y).1
 rw [YY d,YY f]
def Qk (M:List (List Nat)):Nat->Nat->Lin.F:=fun i j=>Qm (Gf.nth (Qh M i) j)
def X1 (l:List Nat):Nat->Lin.F:=fun j=>Qm (Gf.nth l j)
theorem Jbz (n:Nat) (row d:List Nat) (h:Gf.Bytes row) (o:Gf.Bytes d) (j:Nat) (s:j < n) :
 X1 (X2 n row d) j=Lin.ad (X1 row j) (Lin.mu (Qm (Gf.mul (Gf.nth row (Qa d)) (Gf.inv (Gf.nth d (Qa d))))) (X1 d j)):=by
 have f:=Gf.aV (h (Qa d)) (Gf.inv (Gf.nth d (Qa d)))
 unfold X1 X2
 rw [Yq n _ j s,qW (h j) (Gf.aV f _),oU f (o j)]
theorem H4 (n:Nat) (row d:List Nat) (j:Gf.Bytes row) (o:Gf.Bytes d) (s:d.length=n) (f:Qa d < n):Gf.nth (X2 n row d) (Qa d)=0:=by
 unfold X2
 rw [Yq n _ _ f]
 have h:=sA d (by rw [s];exact f)
 rw [Gf.mul_assoc _ _ _ (j _) (Gf.cQ _),Gf.inv_mul _ (o _) h,Gf.mul_one,ai]
theorem O5 (n:Nat) (row d:List Nat) (j:Nat) (f:j < n) (h:Gf.nth d j=0):Gf.nth (X2 n row d) j=Gf.nth row j:=by
 unfold X2
 rw [Yq n _ j f,h,Gf.mul_zero,ah]
def p6 (n:Nat) (K:List (List Nat)):Prop:=(∀ k,k < K.length->(Qh K k).length=n/\Gf.Bytes (Qh K k)/\Qa (Qh K k) < n)/\∀ a b,a < b->b < K.length->Gf.nth (Qh K b) (Qa (Qh K a))=0
theorem z1 (n:Nat) (row:List Nat) (K:List (List Nat)) (h:Gf.Bytes row) (d:p6 n K):∀ k,k<=K.length->∀ a,a < k->Gf.nth (Jy n row K k) (Qa (Qh K a))=0
 | 0,_,a,ha=>absurd ha (ab _)
 | k+1,hk,a,ha=>by
  have f:=d.1 k (by omega)
  show Gf.nth (X2 n (Jy n row K k) (Qh K k)) (Qa (Qh K a))=0
  by_cases e:a=k
  ·subst e
   exact H4 n _ _ (pE n row K h a) f.2.1 f.1 f.2.2
  ·rw [O5 n _ _ _ (d.1 a (by omega)).2.2 (d.2 a k (by omega) (by omega))]
   exact z1 n row K h d k (by omega) a (by omega)
theorem q9 (n:Nat) (M:List (List Nat)) (j:∀ i,Gf.Bytes (Qh M i)) (o:∀ i,i < M.length->(Qh M i).length=n):∀ i,i<=M.length->p6 n (Ja n M i)
 | 0,_=>⟨fun k s=>absurd s (ab _),fun a b _ d=>absurd d (ab _)⟩
 | i+1,hi=>by
  have ih:=q9 n M j o i (by omega)
  refine ⟨s5 n M j o (i+1) hi,fun a b f d=>?_⟩
  unfold Ja at d ⊢
  split
  ·rename_i h
   rw [if_pos h] at d
   rw [au,ao] at d
   rw [Zx _ _ a (by omega)]
   by_cases e:b < (Ja n M i).length
   ·rw [Zx _ _ b e];exact ih.2 a b f e
   ·obtain rfl:b=(Ja n M i).length:=by omega
    rw [X4]
    exact z1 n _ _ (j i) ih _ (ae _) a f
  ·rename_i h
   rw [if_neg h] at d
   exact ih.2 a b f d
theorem JbA {K:List (List Nat)} (h:p6 n K):Lin.dD n K.length (Qk K) :=
 Lin.UF (fun i=>Qa (Qh K i)) (fun i d=>(h.1 i d).2.2) (fun i d=>by
  have f:=h.1 i d
  intro e
  exact sA _ (by rw [f.1];exact f.2.2) ((AP (f.2.1 _)).1 e)) (fun i j o s=>by
  show Qm _=0
  rw [h.2 i j o s]
  rfl)
theorem v7 (n:Nat) (row:List Nat) (K:List (List Nat)) (f:Gf.Bytes row) (h:∀ k,k < K.length->Gf.Bytes (Qh K k)):∀ k,k<=K.length->∃ c:Nat->Lin.F,∀ j,j < n->X1 (Jy n row K k) j=Lin.ad (X1 row j) (Lin.aL k (fun i=>Lin.mu (c i) (Qk K i j)))
 | 0,_=>⟨fun _=>0,fun j _=>by show X1 row j=Lin.ad _ 0;rw [Lin.cF]⟩
 | k+1,hk=>by
  obtain ⟨c,o⟩:=v7 n row K f h k (by omega)
  let x:Lin.F:=Qm (Gf.mul (Gf.nth (Jy n row K k) (Qa (Qh K k))) (Gf.inv (Gf.nth (Qh K k) (Qa (Qh K k)))))
  refine ⟨fun i=>if i=k then x else c i,fun j d=>?_⟩
  show X1 (X2 n (Jy n row K k) (Qh K k)) j=_
  rw [Jbz n _ _ (pE n row K f k) (h k (by omega)) j d,o j d,Lin.oO]
  congr 1
  show Lin.ad (Lin.aL k _) (Lin.mu x (Qk K k j))=Lin.ad (Lin.aL k _) (Lin.mu (if k=k then x else c k) (Qk K k j))
  rw [if_pos rfl]
  congr 1
  exact Lin.aH fun i s=>by show Lin.mu (c i) _=Lin.mu (if i=k then x else c i) _;rw [if_neg (by omega)]
theorem v8 (K:List (List Nat)) (r:List Nat) (i:Nat) (h:i < K.length):Qk (K ++ [r]) i=Qk K i:=by
 funext j;unfold Qk;rw [Zx K r i h]
theorem BL (K:List (List Nat)) (r:List Nat):Qk (K ++ [r]) K.length=X1 r:=by
 funext j;unfold Qk X1;rw [X4]
theorem pL (n:Nat) (M:List (List Nat)) (z:∀ i,Gf.Bytes (Qh M i)) (D:∀ i,i < M.length->(Qh M i).length=n):∀ i,i<=M.length->(∀ k,k < (Ja n M i).length->Lin.Zu n i (Qk M) (Qk (Ja n M i) k))/\∀ k,k < i->Lin.Zu n (Ja n M i).length (Qk (Ja n M i)) (Qk M k)
 | 0,_=>⟨fun k d=>absurd d (ab _),fun k d=>absurd d (ab _)⟩
 | i+1,hi=>by
  obtain ⟨h,A⟩:=pL n M z D i (by omega)
  have E:=q9 n M z D i (by omega)
  obtain ⟨c,o⟩:=v7 n (Qh M i) (Ja n M i) (z i) (fun k d=>(E.1 k d).2.1) (Ja n M i).length (ae _)
  have G:Lin.Zu n (i+1) (Qk M) (X1 (Jy n (Qh M i) (Ja n M i) (Ja n M i).length)):=by
   have s:Lin.Zu n (i+1) (Qk M) (Qk M i):=Lin.aU (Qk M) (by omega)
   have t:Lin.Zu n (i+1) (Qk M) (fun j=>Lin.aL (Ja n M i).length (fun l=>Lin.mu (c l) (Qk (Ja n M i) l j))) :=
    Lin.nM (v:=Qk (Ja n M i)) (k:=(Ja n M i).length) ⟨c,fun j _=>rfl⟩ fun l y=>Lin.dT (h l y) (by omega)
   exact Lin.aX (Lin.G7 s t) (fun _ _ _ _=>rfl) fun j f=>(o j f).symm
  unfold Ja
  split
  ·rename_i H
   refine ⟨fun k d=>?_,fun k d=>?_⟩
   ·rw [au,ao] at d
    by_cases e:k < (Ja n M i).length
    ·rw [v8 _ _ k e];exact Lin.dT (h k e) (by omega)
    ·obtain rfl:k=(Ja n M i).length:=by omega
     rw [BL];exact G
   ·rw [au,ao]
    have B:∀ u,Lin.Zu n (Ja n M i).length (Qk (Ja n M i)) u->Lin.Zu n ((Ja n M i).length+1) (Qk (Ja n M i ++ [Jy n (Qh M i) (Ja n M i) (Ja n M i).length])) u:=fun u I =>
     Lin.nM I fun l y=>by rw [<- v8 (Ja n M i) (Jy n (Qh M i) (Ja n M i) (Ja n M i).length) l y];exact Lin.aU _ (by omega)
    by_cases e:k < i
    ·exact B _ (A k e)
    ·obtain rfl:k=i:=by omega
     have s:Lin.Zu n ((Ja n M k).length+1) (Qk (Ja n M k ++ [Jy n (Qh M k) (Ja n M k) (Ja n M k).length])) (X1 (Jy n (Qh M k) (Ja n M k) (Ja n M k).length)):=by
      have:=Lin.aU (n:=n) (k:=(Ja n M k).length+1) (Qk (Ja n M k ++ [Jy n (Qh M k) (Ja n M k) (Ja n M k).length])) (i:=(Ja n M k).length) (by omega)
      rw [BL] at this
      exact this
     have t:=B (fun j=>Lin.aL (Ja n M k).length (fun l=>Lin.mu (c l) (Qk (Ja n M k) l j))) ⟨c,fun j _=>rfl⟩
     refine Lin.aX (Lin.G7 s t) (fun _ _ _ _=>rfl) fun j f=>?_
     show Lin.ad (X1 _ j) _=Qk M k j
     rw [o j f,Lin.oO,Lin.uG,Lin.cF]
     rfl
  ·rename_i H
   refine ⟨fun k d=>Lin.dT (h k d) (by omega),fun k d=>?_⟩
   by_cases e:k < i
   ·exact A k e
   ·obtain rfl:k=i:=by omega
    have J:∀ j,j < n->X1 (Jy n (Qh M k) (Ja n M k) (Ja n M k).length) j=0:=fun j f=>by
     unfold X1
     rw [wX _ j (by omega)]
     rfl
    refine Lin.aX (⟨c,fun j _=>rfl⟩:Lin.Zu n (Ja n M k).length (Qk (Ja n M k)) (fun j=>Lin.aL (Ja n M k).length (fun l=>Lin.mu (c l) (Qk (Ja n M k) l j)))) (fun _ _ _ _=>rfl) fun j f=>?_
    have:=o j f
    rw [J j f] at this
    exact (Lin.wR this.symm).symm
theorem JcK (n:Nat) (M:List (List Nat)) (d:∀ i,Gf.Bytes (Qh M i)) (f:∀ i,i < M.length->(Qh M i).length=n):Lin.cL n M.length (Qk M) (Ja n M M.length).length :=
 ⟨Qk (Ja n M M.length),JbA (q9 n M d f _ (ae _)),(pL n M d f _ (ae _)).1,(pL n M d f _ (ae _)).2⟩
section
open Lin (F aL ad mu)
theorem E1 (x:Nat) (f:x < 256) (l:List Nat) (h:Gf.Bytes l):Qm (Gf.horner x l)=aL l.length (fun j=>mu (Qm (Gf.nth l j)) (Qm (Gf.bZ x j))):=by
 rw [<- Gf.jL l x f h]
 have d:∀ k,Qm (Gf.gQ l x k)=aL k (fun j=>mu (Qm (Gf.nth l j)) (Qm (Gf.bZ x j))):=by
  intro k
  induction k with
  | zero=>rfl
  | succ k ih =>
   show Qm (Gf.gQ l x k ^^^ Gf.mul (Gf.nth l k) (Gf.bZ x k))=ad _ _
   rw [qW (Gf.iA l x h k) (Gf.aV (h k) _),ih,oU (h k) (Gf.dV x k)]
 exact d _
theorem H6 (f:Nat->F) (m:Nat):∀ k,m<=k->(∀ i,m<=i->i < k->f i=0)->aL k f=aL m f
 | 0, h, _ => by obtain rfl : m = 0 := by omega
                 rfl
 | k+1,h,hz=>by
  by_cases e:m=k+1
  ·rw [e]
  ·show ad (aL k f) (f k)=_
   rw [hz k (by omega) (by omega),Lin.cF]
   exact H6 f m k (by omega) fun i d j=>hz i d (by omega)
theorem AW (X:List Nat) (d:Gf.Bytes X) (z:X.Nodup) (c:Nat->F) (h:∀ p:List Nat,Gf.Bytes p->p.length<=X.length->aL X.length (fun r=>mu (c r) (Qm (Gf.horner (Gf.nth X r) p)))=0):∀ s,s < X.length->c s=0:=by
 intro s f
 have j:=h (Gf.bK X s X.length) (Gf.bM X d s _) (by
  have:=Gf.cC X s X.length
  rw [if_pos f] at this
  omega)
 rw [Lin.b9 s _ X.length f] at j
 ·rw [Gf.bH X d] at j
  refine af fun o=>Lin.lS o ?_ j
  intro e
  exact Gf.dG X d z s f _ (ae _) ((AP (Gf.bX _ _ _ _)).1 e)
 ·intro i t y
  rw [Gf.bH X d,Gf.cJ X s i y _ t]
  show mu _ (Qm 0)=0
  exact Lin.bN _
theorem R3 (X:List Nat) (d:Gf.Bytes X) (s:X.Nodup):Lin.dD X.length X.length (fun r j=>Qm (Gf.bZ (Gf.nth X r) j)):=by
 intro c f
 refine AW X d s c fun p h t=>?_
 have o:aL X.length (fun r=>mu (c r) (Qm (Gf.horner (Gf.nth X r) p)))=aL X.length (fun r=>aL p.length (fun j=>mu (Qm (Gf.nth p j)) (mu (c r) (Qm (Gf.bZ (Gf.nth X r) j))))):=Lin.aH fun r _=>by
  rw [E1 _ (d r) p h,<- Lin.bJ]
  exact Lin.aH fun j _=>by rw [<- Lin.aT,Lin.cR (c r),Lin.aT]
 rw [o,Lin.bW]
 refine Lin.bS fun j y=>?_
 rw [Lin.bJ,f j (by omega),Lin.bN]
theorem BW (f d:List Nat) (h:Gf.Bytes d) (x:Nat):∀ k,Qm (Gf.fG f d x k)=aL k (fun j=>mu (Qm (Gf.nth d j)) (Qm (Gf.aQ f j x)))
 | 0=>rfl
 | k+1=>by
  show Qm (Gf.fG f d x k ^^^ Gf.mul (Gf.nth d k) (Gf.aQ f k x))=ad _ _
  rw [qW (Gf.gY f d x h k) (Gf.aV (h k) _),BW f d h x k,oU (h k) (Gf.bL _ _ _)]
theorem IZ (d p:List Nat) (s:Gf.Bytes d) (t:d.Nodup) (o:Gf.Bytes p) (y:p.length<=d.length) (x:Nat) (z:x < 256):Qm (Gf.horner x p)=aL d.length (fun j=>mu (Qm (Gf.horner (Gf.nth d j) p)) (Qm (Gf.aQ d j x))):=by
 have h:Gf.Bytes (Qi d.length fun j=>Gf.horner (Gf.nth d j) p):=XL _ _ fun j=>Gf.bF _ p o
 rw [<- Gf.through p d (Qi d.length fun j=>Gf.horner (Gf.nth d j) p) o s h t y (fun j f=>Yq _ _ j f) x z,BW _ _ h]
 exact Lin.aH fun j f=>by rw [Yq _ _ j f]
theorem PZ (d X:List Nat) (y:Gf.Bytes d) (z:d.Nodup) (f:Gf.Bytes X) (A:X.Nodup) (D:X.length=d.length):Lin.dD d.length X.length (fun r j=>Qm (Gf.aQ d j (Gf.nth X r))):=by
 intro c h
 refine AW X f A c fun p o B=>?_
 have s:aL X.length (fun r=>mu (c r) (Qm (Gf.horner (Gf.nth X r) p)))=aL X.length (fun r=>aL d.length (fun j=>mu (Qm (Gf.horner (Gf.nth d j) p)) (mu (c r) (Qm (Gf.aQ d j (Gf.nth X r)))))):=Lin.aH fun r _=>by
  rw [IZ d p y z o (by omega) _ (f r),<- Lin.bJ]
  exact Lin.aH fun j _=>by rw [<- Lin.aT,Lin.cR (c r),Lin.aT]
 rw [s,Lin.bW]
 refine Lin.bS fun j t=>?_
 rw [Lin.bJ,h j t,Lin.bN]
def nH (m:Nat):List Nat:=Qi (m+1) fun j=>if j=m then 1 else 0
theorem DT (m:Nat):Gf.Bytes (nH m):=XL _ _ fun j=>by split <;> decide
theorem B4 (m x:Nat) (h:x < 256):Qm (Gf.horner x (nH m))=Qm (Gf.bZ x m):=by
 rw [E1 x h _ (DT m),show (nH m).length=m+1 from Jf _ _,Lin.b9 m _ (m+1) (by omega)]
 ·unfold nH
  rw [Yq _ _ m (by omega),if_pos rfl]
  exact Lin.dU _
 ·intro i d f
  unfold nH
  rw [Yq _ _ i d,if_neg f]
  exact Lin.bR _
theorem Y6 (d:List Nat) (f:Gf.Bytes d) (o:d.Nodup) (x m:Nat) (h:x < 256) (s:m < d.length):aL d.length (fun j=>mu (Qm (Gf.aQ d j x)) (Qm (Gf.bZ (Gf.nth d j) m)))=Qm (Gf.bZ x m):=by
 rw [<- B4 m x h,IZ d (nH m) f o (DT m) (by rw [show (nH m).length=m+1 from Jf _ _];omega) x h]
 exact Lin.aH fun j _=>by rw [B4 m _ (f j),Lin.cR]
end
namespace Lin
def aZ (g:Nat->Nat->F) (d p k:Nat):Nat->Nat->F:=fun i j=>if i=d then mu (iv (g p k)) (g p j) else if i=p then g d j else g i j
def bE (h:Nat->Nat->F) (d k:Nat):Nat->Nat->F:=fun i j=>if i=d then h i j else ad (h i j) (mu (h i k) (h d j))
structure eO (r n k:Nat) (f g:Nat->Nat->F) (d:Nat):Prop where
 le:d<=r
 to:∀ i,i < r->Zu n r f (g i)
 from_:∀ i,i < r->Zu n r g (f i)
 piv:∃ p:Nat->Nat,(∀ i,i < d->p i < k/\g i (p i)=1/\∀ i',i' < r->i'≠i->g i' (p i)=0)/\∀ i j,i < j->j < d->p i < p j
 zero:∀ i,d<=i->i < r->∀ j,j < k->g i j=0
theorem eO.start (r n:Nat) (f:Nat->Nat->F):eO r n 0 f f 0 where
 le:=av _
 to:=fun _ d=>aU f d
 from_:=fun _ d=>aU f d
 piv:=⟨fun _=>0,fun _ d=>absurd d (ab _),fun _ _ _ h=>absurd h (ab _)⟩
 zero:=fun _ _ _ _ h=>absurd h (ab _)
theorem eO.skip {f g:Nat->Nat->F} (h:eO r n k f g d) (z:∀ i,d<=i->i < r->g i k=0):eO r n (k+1) f g d where
 le:=h.le
 to:=h.to
 from_:=h.from_
 piv:=by
  obtain ⟨p,s,y⟩:=h.piv
  exact ⟨p,fun i o=>⟨Nat.lt_succ_of_lt (s i o).1,(s i o).2⟩,y⟩
 zero:=fun i t o j A=>by
  by_cases e:j=k
  ·rw [e];exact z i t o
  ·exact h.zero i t o j (by omega)
theorem FH {v:Nat->Nat->F} {x y:Nat->F} (d:Zu n r v x) (a:F) (h:∀ j,y j=mu a (x j)):Zu n r v y:=aX (xF d a) (fun _ _ _ _=>rfl) (fun j _=>(h j).symm)
theorem Jtc {g:Nat->Nat->F} (o:d < r) (s:p < r):∀ i,i < r->Zu n r g (aZ g d p k i):=fun i h=>by
 by_cases e:i=d
 ·exact FH (aU g s) (iv (g p k)) (fun j=>by unfold aZ;rw [if_pos e])
 ·by_cases f:i=p
  ·exact aX (aU g o) (fun _ _ _ _=>rfl) (fun j _=>by unfold aZ;rw [if_neg e,if_pos f])
  ·exact aX (aU g h) (fun _ _ _ _=>rfl) (fun j _=>by unfold aZ;rw [if_neg e,if_neg f])
theorem KY {g:Nat->Nat->F} (s:d < r) (t:p < r) (y:g p k≠0):∀ i,i < r->Zu n r (aZ g d p k) (g i):=fun i o=>by
 by_cases e:i=p
 ·refine FH (aU (aZ g d p k) s) (g p k) (fun j=>?_)
  unfold aZ
  rw [if_pos rfl,<- aT,yW _ y,dU,e]
 ·by_cases f:i=d
  ·refine aX (aU (aZ g d p k) t) (fun _ _ _ _=>rfl) (fun j _=>?_)
   unfold aZ
   rw [if_neg (fun h=>e (by rw [f,h])),if_pos rfl,f]
  ·refine aX (aU (aZ g d p k) o) (fun _ _ _ _=>rfl) (fun j _=>?_)
   unfold aZ
   rw [if_neg f,if_neg e]
theorem WX {h:Nat->Nat->F} (o:d < r):∀ i,i < r->Zu n r h (bE h d k i):=fun i f=>by
 by_cases e:i=d
 ·exact aX (aU h f) (fun _ _ _ _=>rfl) (fun j _=>by unfold bE;rw [if_pos e])
 ·exact aX (G7 (aU h f) (xF (aU h o) (h i k))) (fun _ _ _ _=>rfl) (fun j _=>by unfold bE;rw [if_neg e])
theorem TH {h:Nat->Nat->F} (o:d < r):∀ i,i < r->Zu n r (bE h d k) (h i):=fun i f=>by
 by_cases e:i=d
 ·exact aX (aU (bE h d k) f) (fun _ _ _ _=>rfl) (fun j _=>by unfold bE;rw [if_pos e])
 ·refine aX (G7 (aU (bE h d k) f) (xF (aU (bE h d k) o) (h i k))) (fun _ _ _ _=>rfl) (fun j _=>?_)
  show ad (bE h d k i j) (mu (h i k) (bE h d k d j))=h i j
  unfold bE
  rw [if_neg e,if_pos rfl,oO,uG,cF]
theorem eO.step {f g:Nat->Nat->F} (h:eO r n k f g d) (V:d<=p) (B:p < r) (N:g p k≠0):eO r n (k+1) f (bE (aZ g d p k) d k) (d+1):=by
 have t:d < r:=by omega
 have D:∀ j,aZ g d p k d j=mu (iv (g p k)) (g p j):=fun j=>by unfold aZ;rw [if_pos rfl]
 have K:aZ g d p k d k=1:=by rw [D,rX _ N]
 have L:∀ j,bE (aZ g d p k) d k d j=aZ g d p k d j:=fun j=>by unfold bE;rw [if_pos rfl]
 have E:∀ i j,i≠d->aZ g d p k d j=0->bE (aZ g d p k) d k i j=aZ g d p k i j:=fun i j o G=>by unfold bE;rw [if_neg o,G,bN,cF]
 have M:∀ i,i≠d->bE (aZ g d p k) d k i k=0:=fun i o=>by unfold bE;rw [if_neg o,K,oY,uG]
 obtain ⟨q,y,O⟩:=h.piv
 have H:∀ i,i < d->aZ g d p k d (q i)=0:=fun i o=>by rw [D,(y i o).2.2 p B (by omega),bN]
 refine ⟨by omega,fun i o=>nM (nM (WX t i o) (Jtc t B)) h.to,fun i o=>nM (nM (h.from_ i o) (KY t B N)) (TH t),?_,?_⟩
 ·refine ⟨fun i=>if i=d then k else q i,fun i o=>?_,fun i j Q S=>?_⟩
  ·by_cases e:i=d
   ·subst e
    simp only [if_true]
    exact ⟨by omega,by rw [L,K],fun z _ I=>M z I⟩
   ·simp only [e,if_false]
    have s:i < d:=by omega
    refine ⟨by have:=(y i s).1;omega,?_,fun z I T=>?_⟩
    ·rw [E i (q i) e (H i s)]
     unfold aZ
     rw [if_neg e,if_neg (by omega)]
     exact (y i s).2.1
    ·by_cases J:z=d
     ·rw [J,L];exact H i s
     ·rw [E z (q i) J (H i s)]
      unfold aZ
      rw [if_neg J]
      by_cases A:z=p
      ·rw [if_pos A];exact (y i s).2.2 d t (by omega)
      ·rw [if_neg A];exact (y i s).2.2 z I T
  ·by_cases e:j=d
   ·simp only [e,if_true,show ¬ i=d by omega,if_false]
    exact (y i (by omega)).1
   ·simp only [e,if_false,show ¬ i=d by omega]
    exact O i j Q (by omega)
 ·intro i o U j S
  by_cases e:j=k
  ·rw [e];exact M i (by omega)
  ·have G:aZ g d p k d j=0:=by rw [D,h.zero p V B j (by omega),bN]
   rw [E i j (by omega) G]
   unfold aZ
   rw [if_neg (by omega)]
   by_cases A:i=p
   ·rw [if_pos A];exact h.zero d (ae _) t j (by omega)
   ·rw [if_neg A];exact h.zero i (by omega) U j (by omega)
theorem VQ {v:Nat->Nat->F} {u:Nat->F} (h:Zu n r v u) (o:c<=n):Zu c r v u:=by
 obtain ⟨a,d⟩:=h
 exact ⟨a,fun j f=>d j (by omega)⟩
theorem A8 {f:Nat->F} {m:Nat}:∀ {k:Nat},m<=k->(∀ i,m<=i->i < k->f i=0)->aL k f=aL m f
 | 0,h,_=>by rw [show m=0 by omega]
 | k+1,h,hz=>by
  by_cases e:m=k+1
  ·rw [e]
  ·show ad (aL k f) (f k)=_
   rw [hz k (by omega) (by omega),cF]
   exact A8 (by omega) (fun i d j=>hz i d (by omega))
theorem eO.xN {f g:Nat->Nat->F} (h:eO r n c f g d) (E:c<=n):cL c r f d:=by
 obtain ⟨q,s,_⟩:=h.piv
 refine ⟨g,?_,fun i o=>VQ (h.to i (by have:=h.le;omega)) E,fun i o=>?_⟩
 ·intro a t i o
  have:=t (q i) (s i o).1
  rw [b9 i _ d o (fun y G z=>by rw [(s i o).2.2 y (by have:=h.le;omega) z,bN]),(s i o).2.1,oY] at this
  exact this
 ·obtain ⟨a,t⟩:=h.from_ i o
  refine ⟨a,fun j A=>?_⟩
  rw [t j (by omega)]
  exact A8 h.le (fun y B D=>by rw [h.zero y B D j A,bN])
theorem eO.diag {f g:Nat->Nat->F} (h:eO r n r f g r):∀ i j,i < r->j < r->g i j=one i j:=by
 obtain ⟨q,s,t⟩:=h.piv
 have A:∀ i,i < r->i<=q i:=fun i=>by
  induction i with
  | zero=>intro _;exact av _
  | succ i ih=>intro d;have y:=ih (by omega);have o:=t i (i+1) (by omega) d;omega
 have B:∀ m,m < r->q (r - 1 - m)<=r - 1 - m:=fun m=>by
  induction m with
  | zero=>intro D;have:=(s (r - 1) (by omega)).1;show q (r - 1)<=r - 1;omega
  | succ m ih=>intro D;have y:=ih (by omega);have o:=t (r - 1 - (m+1)) (r - 1 - m) (by omega) (by omega);omega
 have id:∀ i,i < r->q i=i:=fun i d=>by
  have y:=A i d
  have o:=B (r - 1 - i) (by omega)
  rw [show r - 1 - (r - 1 - i)=i by omega] at o
  omega
 intro i j d z
 have:=s j z
 rw [id j z] at this
 unfold one
 by_cases e:i=j
 ·rw [if_pos e,e];exact this.2.1
 ·rw [if_neg e];exact this.2.2 i d e
theorem eO.vA {m l:Nat} {f g:Nat->Nat->F} (h:eO r n c f g d) (a:Nat->Nat->F) (G:m+l<=n) (D:∀ i,i < r->∀ j,j < m->f i j=aL l (fun t=>mu (f i (m+t)) (a t j))):∀ i,i < r->∀ j,j < m->g i j=aL l (fun t=>mu (g i (m+t)) (a t j)):=by
 intro i y j z
 obtain ⟨b,o⟩:=h.to i y
 rw [o j (by omega)]
 have A:aL l (fun t=>mu (g i (m+t)) (a t j))=aL l (fun t=>aL r (fun s=>mu (mu (b s) (f s (m+t))) (a t j))):=aH fun t E=>by
  rw [o (m+t) (by omega),<- Z4]
 rw [A,bW]
 refine aH fun s B=>?_
 rw [D s B j z,<- bJ]
 exact aH fun t _=>(aT _ _ _).symm
theorem eO.kM {m f g:Nat->Nat->F} (h:eO r (2*r) r f g r) (z:∀ i j,i < r->j < r->f i j=m i j) (A:∀ i j,i < r->j < r->f i (r+j)=one i j):∀ i j,i < r->j < r->mm r (fun i j=>g i (r+j)) m i j=one i j:=by
 intro i j d o
 have s:=h.vA (m:=r) (l:=r) m (by omega) (fun i d j o=>by
  rw [z i j d o]
  have:aL r (fun t=>mu (f i (r+t)) (m t j))=aL r (fun t=>mu (one i t) (m t j)):=aH fun t y=>by rw [A i t d y]
  rw [this]
  exact (fJ r m i j d).symm) i d j o
 rw [<- h.diag i j d o,s]
 rfl
end Lin
end Go.Proofs.YtaaahibncffcmaaDoor

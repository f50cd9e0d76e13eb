/- Texts laid together. -/
import Derived.Test.YtmikbldbfnlfjaaGreatDoorProg
import Derived.WalkKit
import Derived.LaidEql
import Derived.Stop.Asserts
import Derived.RowKitTokens
import Derived.Below
set_option maxRecDepth 100000
set_option maxHeartbeats 4000000
namespace Go.Proofs.YtmikbldbfnlfjaaGreatDoor
open Go.Proofs.Tryz
open Go.RowKit
variable {a b i n c r j p k s x y d:Nat}{l:List Nat}{w:World}{at_:Int}
section
open Go.Extern.Stop Go.Stop Go.Extern
theorem JaY (v:Value) (w:World):(Extern.ReflectliteType.typeOf #[.iface 252 v]).run prog w=.ok (.iface 190 (.agg #[.pointer (some ⟨17,252,none⟩)])) w:=by kernel_rfl
def JaZ:Array Value->Sem Value:=Extern.ReflectliteType.method fun t=>do Rtype.noPackHeld "Comparable" t;pure (.bool (<- typeInfo t).comparable)
theorem JaC (w:World):(JaZ #[.agg #[.pointer (some ⟨17,252,none⟩)]]).run prog w=.ok (.bool true) w:=by kernel_rfl
theorem Jao (v:Value) (w:World):(Go.method 383 190 v "Comparable").run prog w=.ok (209,v) w:=by kernel_rfl
theorem Jb2:(prog.info? 252).map (·.comparable)=some true:=by kernel_rfl
theorem Jb3:(prog.info? 271).map (·.size)=some 1:=by kernel_rfl
theorem Jep (v:Value) (j:TypeId) (w:World):(Instr.typeAssert (.iface 252 v) j 201 true).run prog w=.ok (.tuple #[.nilIface,.bool false]) w:=run_typeAssert_lacksB underlying201 (by kernel_rfl) (by kernel_rfl) v j w
theorem JeM (v:Value) (j:TypeId) (w:World):(Instr.typeAssert (.iface 252 v) j 194 true).run prog w=.ok (.tuple #[.nilIface,.bool false]) w:=run_typeAssert_lacksB underlying194 (by kernel_rfl) (by kernel_rfl) v j w
theorem Jbq (v:Value) (j:TypeId) (w:World):(Instr.typeAssert (.iface 252 v) j 197 true).run prog w=.ok (.tuple #[.nilIface,.bool false]) w:=run_typeAssert_lacksB underlying197 (by kernel_rfl) (by kernel_rfl) v j w
theorem Jbe (v:Value) (j:TypeId) (w:World):(Instr.typeAssert (.iface 252 v) j 199 true).run prog w=.ok (.tuple #[.nilIface,.bool false]) w:=run_typeAssert_lacksB underlying199 (by kernel_rfl) (by kernel_rfl) v j w
theorem JeE (a:Addr) (w:World) :
 Calls prog 60 #[.iface 252 (.pointer (some a)),.iface 252 (.pointer (some a))] w fun e w'=>e=.returned (.bool true)/\w'=w:=by
 obtain ⟨i,y,D⟩:=Option.map_eq_some_iff.1 Jb2
 obtain ⟨j,G,I⟩:=Option.map_eq_some_iff.1 Jb3
 have J:=@run_callFunc_extern prog 87 _ Extern.ReflectliteType.typeOf func87 (by kernel_rfl) (by kernel_rfl) (by kernel_rfl) (by kernel_rfl)
 have K:=@run_callFunc_extern prog 209 _ JaZ func209 (by kernel_rfl) (by kernel_rfl) (by kernel_rfl) (by kernel_rfl)
 have M:=JaY
 have N:=JaC
 have O:=Jao
 have Q:=run_eql_iface_ptr_same (P:=prog) w a underlying33 underlying252 y D G
 go_enter func60,ntmps60
 go_wp2
 refine wp_loop_rounds 1 ?_
 rw [rounds_succ]
 go_wp2
 go_ret
 exact ⟨rfl,rfl⟩
theorem Jek (a b:Addr) (J K:Array Value) (M N:TypeId) (w:World) (O:a≠b) (Q:w.heap[a.block]?=some (.cells J M (0,0))) (U:w.heap[b.block]?=some (.cells K N (0,0))) :
 Calls prog 60 #[.iface 252 (.pointer (some a)),.iface 252 (.pointer (some b))] w fun e w'=>e=.returned (.bool false)/\w'=w:=by
 obtain ⟨i,y,D⟩:=Option.map_eq_some_iff.1 Jb2
 obtain ⟨j,G,I⟩:=Option.map_eq_some_iff.1 Jb3
 have W:=@run_callFunc_extern prog 87 _ Extern.ReflectliteType.typeOf func87 (by kernel_rfl) (by kernel_rfl) (by kernel_rfl) (by kernel_rfl)
 have X:=@run_callFunc_extern prog 209 _ JaZ func209 (by kernel_rfl) (by kernel_rfl) (by kernel_rfl) (by kernel_rfl)
 have Y:=JaY
 have Z:=JaC
 have mR:=Jao
 have nE:=Jep
 have uE:=Jbq
 have vE:=Jbe
 have a0:=run_eql_iface_ptr_other (P:=prog) w underlying33 underlying252 y D G (by rw [I];decide) O Q U
 go_enter func60,ntmps60
 go_wp2
 refine wp_loop_rounds 1 ?_
 rw [rounds_succ]
 go_wp2
 go_ret
 exact ⟨rfl,rfl⟩
theorem Jco (t:Addr) (w:World):(ReflectliteValue.unpack (.iface 114 (.pointer (some t)))).run prog w
 = .ok (.agg #[.pointer (some ⟨17,114,none⟩),.pointer (some ⟨w.heap.size,0,none⟩),.int .u64 150]) (w.alloc (.cells #[.pointer (some t)] 114)):=by kernel_rfl
theorem JdX (a:Addr) (w:World):(ReflectliteValue.methodAny (ReflectliteValue.valueError "reflectlite.Value.Type" 0) (fun t _ _ _=>ReflectliteType.toType t) #[.agg #[.pointer (some ⟨17,114,none⟩),.pointer (some a),.int .u64 150]]).run prog w
 = .ok (.iface 190 (.agg #[.pointer (some ⟨17,114,none⟩)])) w:=by kernel_rfl
theorem Jb4 (h:Value) (w:World):(Go.method 383 190 (.agg #[h]) "Kind").run prog w=.ok (199,h) w:=by kernel_rfl
theorem JdY (w:World):((ReflectliteType.abiMethod fun t=>(fun a:Nat=>Value.int IntKind.u8 (a:Int)) <$> Rtype.kind t) #[.pointer (some ⟨17,114,none⟩)]).run prog w=.ok (.int .u8 22) w:=by kernel_rfl
theorem Jeq (w:World):((ReflectliteType.abiMethod fun t=>(fun a:Nat=>Value.int IntKind.u8 (a:Int)) <$> Rtype.kind t) #[.pointer (some ⟨17,112,none⟩)]).run prog w=.ok (.int .u8 22) w:=by kernel_rfl
theorem rlm (z:Sem Value) (f:TypeId->Addr->Nat->Nat->Sem Value) (v:Value) :
 ReflectliteValue.method z f #[v]=(do match <- ReflectliteValue.parts v with | none=>z | some (t,a,fl)=>f t a fl (fl % 32)):=rfl
theorem JcZ (a:Addr) (w:World):(ReflectliteValue.parts (.agg #[.pointer (some ⟨17,114,none⟩),.pointer (some a),.int .u64 150])).run prog w=.ok (some (114,a,150)) w:=by kernel_rfl
theorem Jc0 (a p:Addr) (W:World) (j:W.cell? a=some (.pointer (some p))) :
 (ReflectliteValue.method (ReflectliteValue.valueError "reflectlite.Value.IsNil" 0) ReflectliteValue.isNil #[.agg #[.pointer (some ⟨17,114,none⟩),.pointer (some a),.int .u64 150]]).run prog W=.ok (.bool false) W:=by
 rw [rlm]
 simp only [Sem.run_bind,JcZ,Result.andThen]
 simp [ReflectliteValue.isNil,loadVar,isAgg,underlying,underlying114,j,Result.andThen]
theorem Jb5 (h:Value) (w:World):(Go.method 383 190 (.agg #[h]) "Elem").run prog w=.ok (210,.agg #[h]) w:=by kernel_rfl
theorem Ja0 (h:Value) (w:World):(Go.method 383 190 (.agg #[h]) "Implements").run prog w=.ok (211,.agg #[h]) w:=by kernel_rfl
theorem JaO (h:Value) (w:World):(Go.method 383 190 (.agg #[h]) "AssignableTo").run prog w=.ok (208,.agg #[h]) w:=by kernel_rfl
theorem JdZ (w:World):(ReflectliteType.method ReflectliteType.elem #[.agg #[.pointer (some ⟨17,114,none⟩)]]).run prog w=.ok (.iface 190 (.agg #[.pointer (some ⟨17,112,none⟩)])) w:=by kernel_rfl
theorem JbC (w:World):(ReflectliteType.relation "Implements" ReflectliteType.implements_ #[.agg #[.pointer (some ⟨17,112,none⟩)],.iface 190 (.agg #[.pointer (some ⟨17,33,none⟩)])]).run prog w=.ok (.bool true) w:=by kernel_rfl
theorem JcX (w:World):(ReflectliteType.relation "AssignableTo" ReflectliteType.assignableTo #[.agg #[.pointer (some ⟨17,252,none⟩)],.iface 190 (.agg #[.pointer (some ⟨17,112,none⟩)])]).run prog w=.ok (.bool false) w:=by kernel_rfl
theorem JeF (e t:Addr) (w:World) (j:w.cell? ⟨12,0,none⟩=some (.iface 190 (.agg #[.pointer (some ⟨17,33,none⟩)]))) :
 Calls prog 59 #[.iface 252 (.pointer (some e)),.iface 114 (.pointer (some t))] w fun y w'=>y=.returned (.bool false)/\Below w.heap.size w w':=by
 have G:=@run_callFunc_extern prog 83 _ (fun args=>ReflectliteValue.unpack (args.getD 0 (.tuple #[]))) func83 (by kernel_rfl) (by kernel_rfl) (by kernel_rfl) (by kernel_rfl)
 have I:=@run_callFunc_extern prog 84 _ (ReflectliteValue.methodAny (ReflectliteValue.valueError "reflectlite.Value.Type" 0) (fun t _ _ _=>ReflectliteType.toType t)) func84 (by kernel_rfl) (by kernel_rfl) (by kernel_rfl) (by kernel_rfl)
 have J:=@run_callFunc_extern prog 85 _ (ReflectliteValue.method (ReflectliteValue.valueError "reflectlite.Value.IsNil" 0) ReflectliteValue.isNil) func85 (by kernel_rfl) (by kernel_rfl) (by kernel_rfl) (by kernel_rfl)
 have K:=@run_callFunc_extern prog 199 _ (ReflectliteType.abiMethod fun t=>do pure (.int .u8 (<- Rtype.kind t))) func199 (by kernel_rfl) (by kernel_rfl) (by kernel_rfl) (by kernel_rfl)
 have M:=@run_callFunc_extern prog 210 _ (ReflectliteType.method ReflectliteType.elem) func210 (by kernel_rfl) (by kernel_rfl) (by kernel_rfl) (by kernel_rfl)
 have N:=@run_callFunc_extern prog 211 _ (ReflectliteType.relation "Implements" ReflectliteType.implements_) func211 (by kernel_rfl) (by kernel_rfl) (by kernel_rfl) (by kernel_rfl)
 have O:=@run_callFunc_extern prog 87 _ ReflectliteType.typeOf func87 (by kernel_rfl) (by kernel_rfl) (by kernel_rfl) (by kernel_rfl)
 have Q:=@run_callFunc_extern prog 208 _ (ReflectliteType.relation "AssignableTo" ReflectliteType.assignableTo) func208 (by kernel_rfl) (by kernel_rfl) (by kernel_rfl) (by kernel_rfl)
 have U:=JaY
 have W:=JaO
 have X:=JcX
 have Y:=Jco
 have Z:=JdX
 have mK:=Jb4
 have mE:=Jb5
 have mI:=Ja0
 have a0:=JdY
 have kF:=Jeq
 have a1:=JdZ
 have iF:=JbC
 have xA:=JeM
 have xU:=Jbq
 have xV:=Jbe
 have n8:=Jc0 ⟨w.heap.size,0,none⟩ t ((w.alloc (.cells #[.pointer (some t)] 114)).alloc (.cells #[.pointer (some ⟨17,114,none⟩),.pointer (some ⟨w.heap.size,0,none⟩),.int .u64 150] 149)) (by simp)
 have D:12 < w.heap.size:=by
  rcases Nat.lt_or_ge 12 w.heap.size with h | h
  ·exact h
  ·simp [World.cell?,Array.getElem?_eq_none h] at j
 have a2:((w.alloc (.cells #[.pointer (some t)] 114)).alloc (.cells #[.pointer (some ⟨17,114,none⟩),.pointer (some ⟨w.heap.size,0,none⟩),.int .u64 150] 149)).cell? ⟨12,0,none⟩=some (.iface 190 (.agg #[.pointer (some ⟨17,33,none⟩)])):=by
  rw [World.cell?_alloc_lt _ _ ⟨12,0,none⟩ (by simp;omega),World.cell?_alloc_lt _ _ ⟨12,0,none⟩ D];exact j
 go_enter func59,ntmps59
 go_wp2
 refine wp_loop_rounds 1 ?_
 rw [rounds_succ]
 go_wp2
 go_ret
 exact ⟨rfl,(((Below.refl _ _).alloc (Nat.le_refl _) _).alloc (by simp) _).alloc (by simp;omega) _⟩
end
namespace Gf
def tx (a:Nat):Nat:=if a < 128 then a*2 else (a*2 - 256) ^^^ 29
def dP (a:Nat):Nat->Nat
 | 0=>a
 | k+1=>tx (dP a k)
def bT (b i:Nat):Nat:=b / 2 ^ i % 2
def part (a b:Nat):Nat->Nat
 | 0=>0
 | k+1=>if bT b k=1 then part a b k ^^^ dP a k else part a b k
def mul (a b:Nat):Nat:=part a b 8
theorem U2 (h:a < 256):tx a < 256:=by
 unfold tx;split
 ·omega
 ·exact Nat.xor_lt_two_pow (n:=8) (by omega) (by decide)
theorem cY (h:a < 256) (k:Nat):dP a k < 256:=by
 induction k with
 | zero=>exact h
 | succ k ih=>exact U2 ih
theorem eF (h:a < 256) (b k:Nat):part a b k < 256:=by
 induction k with
 | zero=>exact (by decide:(0:Nat) < 256)
 | succ k ih => unfold part; split
                ·exact Nat.xor_lt_two_pow (n:=8) ih (cY h k)
                ·exact ih
theorem aV (h:a < 256) (b:Nat):mul a b < 256:=eF h b 8
theorem yK:∀ a:Nat,a < 256->tx a=(a <<< 1) % 2 ^ 8 ^^^ (29 * (a >>> 7)):=by decide +kernel
theorem B1 (a:Nat) (h:a < 256):a >>> 7=0∨a >>> 7=1:=by
 rw [Nat.shiftRight_eq_div_pow];omega
theorem iK (j:a < 256) (y:b < 256):a ^^^ b < 256:=Nat.xor_lt_two_pow (n:=8) j y
theorem GU (a b:Nat) (j:a < 256) (y:b < 256):tx (a ^^^ b)=tx a ^^^ tx b:=by
 rw [yK _ (iK j y),yK _ j,yK _ y,Nat.shiftLeft_xor_distrib,Nat.shiftRight_xor_distrib,Nat.xor_mod_two_pow]
 have G:29*(a >>> 7 ^^^ b >>> 7)=29*(a >>> 7) ^^^ 29*(b >>> 7):=by
  rcases B1 a j with h | h <;> rcases B1 b y with D | D <;> rw [h,D] <;> rfl
 rw [G]
 ac_rfl
theorem T7 (a b:Nat) (j:a < 256) (y:b < 256) (k:Nat):dP (a ^^^ b) k=dP a k ^^^ dP b k:=by
 induction k with
 | zero=>rfl
 | succ k ih => show tx (dP (a ^^^ b) k) = tx (dP a k) ^^^ tx (dP b k)
                rw [ih,GU _ _ (cY j k) (cY y k)]
theorem C8:tx 0=0:=by decide
theorem NO (k:Nat):dP 0 k=0:=by
 induction k with
 | zero=>rfl
 | succ k ih=>show tx (dP 0 k)=0;rw [ih,C8]
theorem Js4 (b c k:Nat):bT (b ^^^ c) k=(bT b k+bT c k) % 2:=by
 unfold bT
 rw [<- Nat.shiftRight_eq_div_pow,<- Nat.shiftRight_eq_div_pow,<- Nat.shiftRight_eq_div_pow,Nat.shiftRight_xor_distrib]
 have:=Nat.xor_mod_two_pow (a:=b >>> k) (b:=c >>> k) (n:=1)
 simp only [Nat.pow_one] at this
 rw [this]
 rcases Nat.mod_two_eq_zero_or_one (b >>> k) with h | h <;> rcases Nat.mod_two_eq_zero_or_one (c >>> k) with j | j <;> rw [h,j] <;> rfl
theorem wL (b k:Nat):bT b k=0∨bT b k=1:=Nat.mod_two_eq_zero_or_one _
theorem T4 (a a' b:Nat) (j:a < 256) (y:a' < 256) (k:Nat):part (a ^^^ a') b k=part a b k ^^^ part a' b k:=by
 induction k with
 | zero=>exact (Nat.xor_self 0).symm
 | succ k ih =>
  simp only [part]
  rw [ih,T7 a a' j y]
  split
  ·ac_rfl
  ·rfl
theorem MK (a b c:Nat) (k:Nat):part a (b ^^^ c) k=part a b k ^^^ part a c k:=by
 induction k with
 | zero=>exact (Nat.xor_self 0).symm
 | succ k ih =>
  simp only [part]
  rw [ih,Js4]
  have y:dP a k ^^^ dP a k=0:=Nat.xor_self _
  rcases wL b k with h | h <;> rcases wL c k with j | j <;> rw [h,j] <;> simp
  ·ac_rfl
  ·ac_rfl
  ·have:part a b k ^^^ dP a k ^^^ (part a c k ^^^ dP a k)=part a b k ^^^ part a c k ^^^ (dP a k ^^^ dP a k):=by ac_rfl
   rw [this,y,Nat.xor_zero]
theorem mul_left (a a' b:Nat) (j:a < 256) (y:a' < 256):mul (a ^^^ a') b=mul a b ^^^ mul a' b:=T4 a a' b j y 8
theorem mul_right (a b c:Nat):mul a (b ^^^ c)=mul a b ^^^ mul a c:=MK a b c 8
theorem mul_zero (a:Nat):mul a 0=0:=by simp [mul,part,bT]
theorem JpZ (b k:Nat):part 0 b k=0:=by
 induction k with
 | zero=>rfl
 | succ k ih=>unfold part;rw [ih,NO];simp
theorem zero_mul (b:Nat):mul 0 b=0:=JpZ b 8
theorem mul_one (a:Nat):mul a 1=a:=by simp [mul,part,bT,dP]
theorem one_mul:∀ b:Nat,b < 256->mul 1 b=b:=by decide +kernel
theorem JtH (a k:Nat):dP (tx a) k=tx (dP a k):=by
 induction k with
 | zero=>rfl
 | succ k ih=>show tx (dP (tx a) k)=_;rw [ih];rfl
theorem UU (a b:Nat) (j:a < 256) (k:Nat):part (tx a) b k=tx (part a b k):=by
 induction k with
 | zero=>exact C8.symm
 | succ k ih =>
  simp only [part]
  rw [ih,JtH]
  split
  ·rw [GU _ _ (eF j b k) (cY j k)]
  ·rfl
theorem MZ (a b:Nat) (j:a < 256):mul (tx a) b=tx (mul a b):=UU a b j 8
theorem G6 (a b:Nat) (j:a < 256) (k:Nat):mul (dP a k) b=dP (mul a b) k:=by
 induction k with
 | zero=>rfl
 | succ k ih=>show mul (tx (dP a k)) b=tx (dP (mul a b) k);rw [MZ _ _ (cY j k),ih]
theorem MH:∀ b:Nat,b < 256->part 1 b 8=b:=one_mul
theorem O9 (a b:Nat) (j:a < 256) (k:Nat):mul (part 1 b k) a=part a b k:=by
 induction k with
 | zero=>exact zero_mul a
 | succ k ih =>
  simp only [part]
  split
  ·rw [mul_left _ _ _ (eF (by decide) b k) (cY (by decide) k),ih,G6 1 a (by decide) k,one_mul a j]
  ·exact ih
theorem mul_comm (a b:Nat) (j:a < 256) (y:b < 256):mul a b=mul b a:=by
 have h:=O9 a b j 8
 rw [MH b y] at h
 exact h.symm
theorem TP (a b c:Nat) (y:a < 256) (j:b < 256) (k:Nat):part (mul a b) c k=mul a (part b c k):=by
 induction k with
 | zero=>exact (mul_zero a).symm
 | succ k ih =>
  simp only [part]
  split
  ·rw [ih,mul_right,mul_comm a (dP b k) y (cY j k),G6 b a j k,mul_comm b a j y]
  ·exact ih
theorem mul_assoc (a b c:Nat) (j:a < 256) (y:b < 256):mul (mul a b) c=mul a (mul b c):=TP a b c j y 8
def sq (a:Nat):Nat->Nat
 | 0=>a
 | k+1=>mul (sq a k) (sq a k)
def pw (a n:Nat):Nat->Nat
 | 0=>1
 | k+1=>if bT n k=1 then mul (pw a n k) (sq a k) else pw a n k
def fM (a n:Nat):Nat:=pw a n 8
def inv (a:Nat):Nat:=fM a 254
theorem qI (h:a < 256) (k:Nat):sq a k < 256:=by
 induction k with
 | zero=>exact h
 | succ k ih=>exact aV ih _
theorem lL (n k:Nat):pw a n k < 256:=by
 induction k with
 | zero=>exact (by decide:(1:Nat) < 256)
 | succ k ih => unfold pw; split
                ·exact aV ih _
                ·exact ih
theorem PM (a n:Nat):fM a n < 256:=lL n 8
theorem cQ (a:Nat):inv a < 256:=PM a 254
theorem eG:∀ a:Nat,a < 256->a≠0->mul a (inv a)=1:=by decide +kernel
theorem V6 (a:Nat) (h:a < 256) (j:a≠0):mul (inv a) a=1:=by
 rw [mul_comm _ _ (cQ a) h];exact eG a h j
def bZ (a:Nat):Nat->Nat
 | 0=>1
 | n+1=>mul (bZ a n) a
end Gf
namespace Gf
def rprod (a b:Nat):Nat->Nat
 | 0=>0
 | k+1=>if bT b k=1 then rprod a b k ^^^ (a*2 ^ k) else rprod a b k
def wP (i n:Nat):Nat:=if bT n i=1 then n ^^^ (285*2 ^ (i - 8)) else n
def rr (n:Nat):Nat->Nat
 | 0=>n
 | j+1=>wP (14 - j) (rr n j)
def r8 (n:Nat):Nat:=rr n 7 % 256
def JeO (a b:Nat):Nat:=r8 (rprod a b 8)
theorem sS {a:Nat} (h:a < 256) (b:Nat):∀ k,k<=8->rprod a b k < 2 ^ 15
 | 0,_=>by show 0 < 2 ^ 15;decide
 | k+1,hk=>by
  unfold rprod
  have j:a*2 ^ k < 2 ^ 15:=by
   have y:2 ^ k<=2 ^ 7:=Nat.pow_le_pow_right (by decide) (by omega)
   have D:a*2 ^ k<=255*2 ^ 7:=Nat.mul_le_mul (by omega) y
   exact Nat.lt_of_le_of_lt D (by decide)
  split
  ·exact Nat.xor_lt_two_pow (sS h b k (by omega)) j
  ·exact sS h b k (by omega)
theorem RG (G:i<=14) (j:n < 2 ^ 15):wP i n < 2 ^ 15:=by
 unfold wP
 split
 ·refine Nat.xor_lt_two_pow j ?_
  have y:2 ^ (i - 8)<=2 ^ 6:=Nat.pow_le_pow_right (by decide) (by omega)
  have D:285*2 ^ (i - 8)<=285*2 ^ 6:=Nat.mul_le_mul (Nat.le_refl _) y
  exact Nat.lt_of_le_of_lt D (by decide)
 ·exact j
theorem Jt7 {n:Nat} (y:n < 2 ^ 15):∀ j,rr n j < 2 ^ 15
 | 0=>y
 | j+1=>RG (by omega) (Jt7 y j)
theorem JdP (i x y:Nat):wP i (x ^^^ y)=wP i x ^^^ wP i y:=by
 unfold wP
 rw [Js4]
 have D:∀ c:Nat,c ^^^ c=0:=Nat.xor_self
 rcases wL x i with h | h <;> rcases wL y i with j | j <;> rw [h,j] <;> simp
 ·ac_rfl
 ·ac_rfl
 ·have:x ^^^ 285*2 ^ (i - 8) ^^^ (y ^^^ 285*2 ^ (i - 8))=x ^^^ y ^^^ (285*2 ^ (i - 8) ^^^ 285*2 ^ (i - 8)):=by ac_rfl
  rw [this,D,Nat.xor_zero]
theorem JdQ (x y:Nat):∀ j,rr (x ^^^ y) j=rr x j ^^^ rr y j
 | 0=>rfl
 | j+1=>by show wP _ (rr (x ^^^ y) j)=wP _ (rr x j) ^^^ wP _ (rr y j);rw [JdQ x y j,JdP]
theorem Jeb (x y:Nat):r8 (x ^^^ y)=r8 x ^^^ r8 y:=by
 unfold r8
 rw [JdQ]
 exact Nat.xor_mod_two_pow (n:=8)
theorem Jcb:(List.range 8).all (fun k=>(List.range 256).all fun a=>r8 (a*2 ^ k)==dP a k)=true:=by decide +kernel
theorem Jdi (a k:Nat) (y:a < 256) (D:k < 8):r8 (a*2 ^ k)=dP a k:=by
 have h:=List.all_eq_true.1 Jcb k (List.mem_range.2 D)
 have j:=List.all_eq_true.1 h a (List.mem_range.2 y)
 simpa using j
theorem JdR:r8 0=0:=by decide
theorem Jba (a b:Nat) (j:a < 256):∀ k,k<=8->r8 (rprod a b k)=part a b k
 | 0,_=>JdR
 | k+1,hk=>by
  simp only [rprod,part]
  split
  ·rw [Jeb,Jba a b j k (by omega),Jdi a k j (by omega)]
  ·exact Jba a b j k (by omega)
theorem O2 (a b:Nat) (j:a < 256):JeO a b=mul a b:=Jba a b j 8 (Nat.le_refl _)
theorem eN (a b:Nat) (y:a < 256) (D:b < 256) (G:a≠0) (h:mul a b=1):b=inv a:=by
 have j:mul (inv a) (mul a b)=mul (inv a) 1:=by rw [h]
 rw [<- mul_assoc (inv a) a b (cQ a) y,V6 a y G,mul_one,one_mul b D] at j
 exact j
theorem inv_pos (a:Nat) (j:a < 256) (y:a≠0):inv a≠0:=by
 intro h
 have:=eG a j y
 rw [h,mul_zero] at this
 exact absurd this (by decide)
theorem dV (a:Nat):∀ n,bZ a n < 256
 | 0=>by show 1 < 256;decide
 | n+1=>aV (dV a n) a
theorem zJ (a:Nat) (j:a < 256) (m:Nat):∀ n,bZ a (m+n)=mul (bZ a m) (bZ a n)
 | 0=>(mul_one _).symm
 | n+1=>by
  show mul (bZ a (m+n)) a=mul (bZ a m) (mul (bZ a n) a)
  rw [zJ a j m n,mul_assoc _ _ _ (dV a m) (dV a n)]
theorem GM (a:Nat) (j:a < 256):∀ k,sq a k=bZ a (2 ^ k)
 | 0=>by show a=mul 1 a;exact (one_mul a j).symm
 | k+1=>by
  show mul (sq a k) (sq a k)=bZ a (2 ^ (k+1))
  rw [GM a j k,<- zJ a j,Nat.pow_succ]
  congr 1;omega
theorem Js7 (n k:Nat):n % 2 ^ (k+1)=n % 2 ^ k+bT n k*2 ^ k:=by
 unfold bT
 rw [Nat.pow_succ,Nat.mod_mul]
 rw [Nat.mul_comm (2 ^ k)]
theorem BC (a n:Nat) (j:a < 256):∀ k,pw a n k=bZ a (n % 2 ^ k)
 | 0=>by show 1=bZ a (n % 1);rw [Nat.mod_one];rfl
 | k+1=>by
  simp only [pw]
  rw [BC a n j k,GM a j k,Js7]
  rcases wL n k with h | h <;> rw [h] <;> simp
  rw [zJ a j]
theorem iG (a n:Nat) (j:a < 256) (y:n < 256):fM a n=bZ a n:=by
 have:=BC a n j 8
 rw [show n % 2 ^ 8=n from Nat.mod_eq_of_lt y] at this
 exact this
end Gf
namespace Gf
def horner (x:Nat):List Nat->Nat
 | []=>0
 | c :: r=>mul (horner x r) x ^^^ c
def nth (l:List Nat) (i:Nat):Nat:=l.getD i 0
def XY (xs:List Nat) (i x:Nat):Nat->Nat
 | 0=>1
 | k+1=>if k=i then XY xs i x k else mul (XY xs i x k) (x ^^^ nth xs k)
def aQ (xs:List Nat) (i x:Nat):Nat:=mul (XY xs i x xs.length) (inv (XY xs i (nth xs i) xs.length))
def fG (xs j:List Nat) (x:Nat):Nat->Nat
 | 0=>0
 | k+1=>fG xs j x k ^^^ mul (nth j k) (aQ xs k x)
def Bytes (l:List Nat):Prop:=∀ i,nth l i < 256
theorem Bytes.tail {r:List Nat} (h:Bytes (c :: r)):Bytes r:=fun i=>by simpa [nth] using h (i+1)
theorem bF (x:Nat):∀ l:List Nat,Bytes l->horner x l < 256
 | [],_=>by show 0 < 256;decide
 | c :: r,h=>iK (aV (bF x r h.tail) x) (by simpa [nth] using h 0)
theorem bX (xs:List Nat) (i x:Nat):∀ k,XY xs i x k < 256
 | 0=>by show 1 < 256;decide
 | k+1=>by
  unfold XY
  split
  ·exact bX xs i x k
  ·exact aV (bX xs i x k) _
theorem bL (xs:List Nat) (i x:Nat):aQ xs i x < 256:=aV (bX _ _ _ _) _
theorem gY (xs j:List Nat) (x:Nat) (y:Bytes j):∀ k,fG xs j x k < 256
 | 0=>by show 0 < 256;decide
 | k+1=>iK (gY xs j x y k) (aV (y k) _)
theorem aK (l:List Nat) (k:Nat) (h:k < l.length):nth l k=l[k]:=by
 unfold nth;rw [List.getD_eq_getElem?_getD,List.getElem?_eq_getElem h];rfl
theorem PU (l:List Nat) (k:Nat) (h:k < l.length):l.take (k+1)=l.take k ++ [nth l k]:=by
 rw [List.take_succ_eq_append_getElem h,aK l k h]
end Gf
namespace Gf
theorem JaM:Bytes []:=fun i=>by simp [nth]
theorem oG {r:List Nat} (j:c < 256) (y:Bytes r):Bytes (c :: r):=fun i=>by
 cases i with
 | zero=>simpa [nth] using j
 | succ i=>simpa [nth] using y i
theorem BX {r:List Nat} (h:Bytes (c :: r)):c < 256:=by simpa [nth] using h 0
theorem S9 (a b c d:Nat):(a ^^^ b) ^^^ (c ^^^ d)=(a ^^^ c) ^^^ (b ^^^ d):=by ac_rfl
theorem dQ (h:a ^^^ b=0):a=b:=by
 have:(a ^^^ b) ^^^ b=b:=by rw [h,Nat.zero_xor]
 rw [Nat.xor_assoc,Nat.xor_self,Nat.xor_zero] at this
 exact this
theorem xL (h:a≠b):a ^^^ b≠0:=fun e=>h (dQ e)
def j9:List Nat->List Nat->List Nat
 | [],b=>b
 | x :: a,[]=>x :: a
 | x :: a,y :: b=>(x ^^^ y) :: j9 a b
theorem sN:∀ a b:List Nat,Bytes a->Bytes b->Bytes (j9 a b)
 | [],_,_,hb=>hb
 | _ :: _,[],ha,_=>ha
 | _ :: a,_ :: b,ha,hb=>oG (iK (BX ha) (BX hb)) (sN a b ha.tail hb.tail)
theorem JaJ:∀ (a b:List Nat) (n:Nat),a.length<=n->b.length<=n->(j9 a b).length<=n
 | [],_,_,_,hb=>hb
 | _ :: _,[],_,ha,_=>ha
 | _ :: a,_ :: b,n,ha,hb=>by
  cases n with
  | zero=>simp at ha
  | succ n=>simp only [List.length_cons,Nat.add_le_add_iff_right] at ha hb;simp only [j9,List.length_cons,Nat.add_le_add_iff_right];exact JaJ a b n ha hb
theorem pO (x:Nat):∀ a b:List Nat,Bytes a->Bytes b->horner x (j9 a b)=horner x a ^^^ horner x b
 | [],b,_,_=>by show horner x b=0 ^^^ horner x b;rw [Nat.zero_xor]
 | c :: a,[],_,_=>by show horner x (c :: a)=horner x (c :: a) ^^^ 0;rw [Nat.xor_zero]
 | c :: a,d :: b,ha,hb=>by
  show mul (horner x (j9 a b)) x ^^^ (c ^^^ d)=(mul (horner x a) x ^^^ c) ^^^ (mul (horner x b) x ^^^ d)
  rw [pO x a b ha.tail hb.tail,mul_left _ _ _ (bF x a ha.tail) (bF x b hb.tail)]
  exact S9 _ _ _ _
def lR (c:Nat):List Nat->List Nat
 | []=>[]
 | d :: r=>mul c d :: lR c r
theorem pC {c:Nat} (j:c < 256):∀ l:List Nat,Bytes (lR c l)
 | []=>JaM
 | d :: r=>oG (aV j d) (pC j r)
theorem yS (c:Nat):∀ l:List Nat,(lR c l).length=l.length
 | []=>rfl
 | _ :: r=>by simp [lR,yS c r]
theorem xM (c x:Nat) (j:c < 256):∀ l:List Nat,Bytes l->horner x (lR c l)=mul c (horner x l)
 | [],_=>(mul_zero c).symm
 | d :: r,h=>by
  show mul (horner x (lR c r)) x ^^^ mul c d=mul c (mul (horner x r) x ^^^ d)
  rw [xM c x j r h.tail,mul_right,mul_assoc c _ x j (bF x r h.tail)]
def pZ (l:List Nat) (c:Nat):List Nat:=j9 (0 :: l) (lR c l)
theorem VY  (h:Bytes l) (j:c < 256):Bytes (pZ l c):=sN _ _ (oG (by decide) h) (pC j l)
theorem E8  (h:l.length<=n):(pZ l c).length<=n+1:=JaJ _ _ _ (by simpa using h) (by rw [yS];omega)
theorem RW (l:List Nat) (c x:Nat) (h:Bytes l) (j:c < 256):horner x (pZ l c)=mul (horner x l) (x ^^^ c):=by
 unfold pZ
 rw [pO x _ _ (oG (by decide) h) (pC j l),xM c x j l h,mul_right,mul_comm c _ j (bF x l h)]
 show (mul (horner x l) x ^^^ 0) ^^^ _=_
 rw [Nat.xor_zero]
def kR (r:Nat):List Nat->List Nat
 | []=>[]
 | _ :: t=>match t with
  | []=>[]
  | _ :: _=>horner r t :: kR r t
theorem zS (r:Nat):∀ l:List Nat,Bytes l->Bytes (kR r l)
 | [],_=>JaM
 | [_],_=>JaM
 | _ :: d :: t,h=>oG (bF r _ h.tail) (zS r (d :: t) h.tail)
theorem IN (r:Nat):∀ (l:List Nat) (n:Nat),l.length<=n+1->(kR r l).length<=n
 | [],_,_=>Nat.zero_le _
 | [_],_,_=>Nat.zero_le _
 | _ :: d :: t,n,h=>by
  cases n with
  | zero=>simp at h
  | succ n =>
   have:=IN r (d :: t) n (by simpa using h)
   simpa [kR] using this
theorem EI (r x:Nat) (I:r < 256) (y:x < 256):∀ l:List Nat,Bytes l->horner x l=mul (horner x (kR r l)) (x ^^^ r) ^^^ horner r l
 | [],_=>by show 0=mul 0 _ ^^^ 0;rw [zero_mul];rfl
 | [c],_=>by show mul 0 x ^^^ c=mul 0 _ ^^^ (mul 0 r ^^^ c);rw [zero_mul,zero_mul,zero_mul];simp
 | c :: d :: t,h=>by
  have ih:=EI r x I y (d :: t) h.tail
  have j:=bF x _ (zS r (d :: t) h.tail)
  have D:=bF r _ h.tail
  show mul (horner x (d :: t)) x ^^^ c=mul (mul (horner x (kR r (d :: t))) x ^^^ horner r (d :: t)) (x ^^^ r) ^^^ (mul (horner r (d :: t)) r ^^^ c)
  rw [ih]
  generalize horner x (kR r (d :: t))=q at j
  generalize horner r (d :: t)=s at D
  have G:=iK y I
  rw [mul_left _ _ _ (aV j _) D,mul_left _ _ _ (aV j _) D,mul_assoc q _ x j G,mul_assoc q x _ j y,mul_comm (x ^^^ r) x G y,mul_right s x r]
  have e:mul s r ^^^ mul s r=0:=Nat.xor_self _
  have:mul q (mul x (x ^^^ r)) ^^^ (mul s x ^^^ mul s r) ^^^ (mul s r ^^^ c)=mul q (mul x (x ^^^ r)) ^^^ mul s x ^^^ c ^^^ (mul s r ^^^ mul s r):=by ac_rfl
  rw [this,e,Nat.xor_zero]
theorem D3 (D:a < 256) (y:b < 256) (G:b≠0) (h:mul a b=0):a=0:=by
 have j:mul (mul a b) (inv b)=a:=by rw [mul_assoc a b _ D y,eG b y G,mul_one]
 rw [h,zero_mul] at j
 exact j.symm
theorem BF:∀ (rs l:List Nat),Bytes l->l.length<=rs.length->rs.Nodup->(∀ r ∈ rs,r < 256/\horner r l=0)->∀ x,x < 256->horner x l=0
 | [],l,_,hlen,_,_,x,_=>by
  have:l=[]:=List.length_eq_zero_iff.1 (by simpa using hlen)
  rw [this];rfl
 | r :: rs,l,hl,hlen,hn,hz,x,hx=>by
  have D:=hz r (List.mem_cons_self ..)
  have I:=zS r l hl
  have J:∀ y,y < 256->horner y l=mul (horner y (kR r l)) (y ^^^ r):=fun y M=>by
   rw [EI r y D.1 M l hl,D.2,Nat.xor_zero]
  have key:=BF rs (kR r l) I (IN r l _ (by simpa using hlen)) (List.nodup_cons.1 hn).2 (fun s G=>by
   have j:=hz s (List.mem_cons_of_mem _ G)
   refine ⟨j.1,?_⟩
   have K:=J s j.1
   rw [j.2] at K
   refine D3 (bF s _ I) (iK j.1 D.1) (xL ?_) K.symm
   intro e
   rw [e] at G
   exact (List.nodup_cons.1 hn).1 G) x hx
  rw [J x hx,key,zero_mul]
def bK (xs:List Nat) (i:Nat):Nat->List Nat
 | 0=>[1]
 | k+1=>if k=i then bK xs i k else pZ (bK xs i k) (nth xs k)
theorem bM (xs:List Nat) (j:Bytes xs) (i:Nat):∀ k,Bytes (bK xs i k)
 | 0=>oG (by decide) JaM
 | k+1=>by
  unfold bK
  split
  ·exact bM xs j i k
  ·exact VY (bM xs j i k) (j k)
theorem cC (xs:List Nat) (i:Nat):∀ k,(bK xs i k).length<=k+1 - (if i < k then 1 else 0)
 | 0=>by simp [bK]
 | k+1=>by
  have ih:=cC xs i k
  unfold bK
  split
  ·rename_i e
   subst e
   rw [if_neg (Nat.lt_irrefl _)] at ih
   rw [if_pos (Nat.lt_succ_self _)]
   omega
  ·rename_i e
   by_cases h:i < k
   ·rw [if_pos h] at ih
    rw [if_pos (by omega)]
    have:=E8 (c:=nth xs k) ih
    omega
   ·rw [if_neg h] at ih
    rw [if_neg (by omega)]
    have:=E8 (c:=nth xs k) ih
    omega
theorem bH (xs:List Nat) (j:Bytes xs) (i x:Nat):∀ k,horner x (bK xs i k)=XY xs i x k
 | 0=>by show mul 0 x ^^^ 1=1;rw [zero_mul];rfl
 | k+1=>by
  unfold bK XY
  split
  ·exact bH xs j i x k
  ·rw [RW _ _ _ (bM xs j i k) (j k),bH xs j i x k]
def wV (xs j:List Nat) (k:Nat):Nat:=mul (nth j k) (inv (XY xs k (nth xs k) xs.length))
def rK (xs j:List Nat):Nat->List Nat
 | 0=>[]
 | k+1=>j9 (rK xs j k) (lR (wV xs j k) (bK xs k xs.length))
theorem xZ (xs j:List Nat) (y:Bytes j) (k:Nat):wV xs j k < 256:=aV (y k) _
theorem wB (xs j:List Nat) (y:Bytes j):∀ k,Bytes (rK xs j k)
 | 0=>JaM
 | k+1=>sN _ _ (wB xs j y k) (pC (xZ xs j y k) _)
theorem AG (xs j:List Nat):∀ k,k<=xs.length->(rK xs j k).length<=xs.length
 | 0,_=>Nat.zero_le _
 | k+1,h=>by
  refine JaJ _ _ _ (AG xs j k (by omega)) ?_
  rw [yS]
  have:=cC xs k xs.length
  rw [if_pos (by omega)] at this
  omega
theorem x9 (xs j:List Nat) (D:Bytes xs) (y:Bytes j) (x:Nat):∀ k,horner x (rK xs j k)=fG xs j x k
 | 0=>rfl
 | k+1=>by
  show horner x (j9 _ _)=fG xs j x k ^^^ mul (nth j k) (aQ xs k x)
  rw [pO x _ _ (wB xs j y k) (pC (xZ xs j y k) _),x9 xs j D y x k,xM _ x (xZ xs j y k) _ (bM xs D k _),bH xs D k x]
  unfold wV aQ
  rw [mul_assoc _ _ _ (y k) (cQ _),mul_comm (inv _) _ (cQ _) (bX _ _ _ _)]
theorem cJ (xs:List Nat) (i j:Nat) (y:j≠i):∀ k,j < k->XY xs i (nth xs j) k=0
 | 0,h=>absurd h (Nat.not_lt_zero _)
 | k+1,h=>by
  unfold XY
  split
  ·rename_i e
   exact cJ xs i j y k (by omega)
  ·by_cases e:j=k
   ·subst e
    rw [Nat.xor_self,mul_zero]
   ·rw [cJ xs i j y k (by omega),zero_mul]
theorem M0 (xs:List Nat) (J:xs.Nodup) (D:i < xs.length) (G:j < xs.length) (h:nth xs i=nth xs j):i=j:=by
 rw [aK xs i D,aK xs j G] at h
 have I:=List.pairwise_iff_getElem.1 J
 rcases Nat.lt_trichotomy i j with y | y | y
 ·exact absurd h (I i j D G y)
 ·exact y
 ·exact absurd h.symm (I j i G D y)
theorem VI (j:a < 256) (y:b < 256) (D:a≠0) (G:b≠0):mul a b≠0:=fun h=>D (D3 j y G h)
theorem dG (xs:List Nat) (j:Bytes xs) (y:xs.Nodup) (i:Nat) (D:i < xs.length):∀ k,k<=xs.length->XY xs i (nth xs i) k≠0
 | 0,_=>by show (1:Nat)≠0;decide
 | k+1,h=>by
  unfold XY
  split
  ·exact dG xs j y i D k (by omega)
  ·rename_i e
   exact VI (bX _ _ _ _) (iK (j i) (j k)) (dG xs j y i D k (by omega)) (xL fun G=>e (M0 xs y (by omega) D G.symm))
theorem Jn8 (xs:List Nat) (j:Bytes xs) (y:xs.Nodup) (i:Nat) (D:i < xs.length):aQ xs i (nth xs i)=1 :=
 eG _ (bX _ _ _ _) (dG xs j y i D _ (Nat.le_refl _))
theorem W4 (xs:List Nat) (i j:Nat) (y:j < xs.length) (h:j≠i):aQ xs i (nth xs j)=0:=by
 unfold aQ
 rw [cJ xs i j h _ y,zero_mul]
theorem CA (xs y:List Nat) (I:Bytes xs) (J:xs.Nodup) (j:Nat) (D:j < xs.length):∀ k,k<=xs.length->fG xs y (nth xs j) k=if j < k then nth y j else 0
 | 0,_=>by rw [if_neg (Nat.not_lt_zero _)];rfl
 | k+1,h=>by
  unfold fG
  rw [CA xs y I J j D k (by omega)]
  by_cases e:j=k
  ·subst e
   rw [if_neg (Nat.lt_irrefl _),if_pos (Nat.lt_succ_self _),Jn8 xs I J j D,mul_one,Nat.zero_xor]
  ·rw [W4 xs k j D e,mul_zero,Nat.xor_zero]
   by_cases G:j < k
   ·rw [if_pos G,if_pos (by omega)]
   ·rw [if_neg G,if_neg (by omega)]
theorem through (p xs y:List Nat) (J:Bytes p) (G:Bytes xs) (K:Bytes y) (N:xs.Nodup) (Q:p.length<=xs.length) (U:∀ j,j < xs.length->nth y j=horner (nth xs j) p) (x:Nat) (W:x < 256) :
 fG xs y x xs.length=horner x p:=by
 have I:=wB xs y K xs.length
 have M:=BF xs (j9 (rK xs y xs.length) p) (sN _ _ I J) (JaJ _ _ _ (AG xs y _ (Nat.le_refl _)) Q) N (fun r O=>by
  obtain ⟨j,D,rfl⟩:=List.getElem_of_mem O
  rw [<- aK xs j D]
  refine ⟨G j,?_⟩
  rw [pO _ _ _ I J,x9 xs y G K,CA xs y G N j D _ (Nat.le_refl _),if_pos D,U j D,Nat.xor_self]) x W
 rw [pO x _ _ I J,x9 xs y G K] at M
 exact dQ M
end Gf
namespace Gf
def gQ (l:List Nat) (x:Nat):Nat->Nat
 | 0=>0
 | k+1=>gQ l x k ^^^ mul (nth l k) (bZ x k)
theorem iA (l:List Nat) (x:Nat) (h:Bytes l):∀ k,gQ l x k < 256
 | 0=>by show 0 < 256;decide
 | k+1=>iK (iA l x h k) (aV (h k) _)
theorem CD (x c:Nat) (y:x < 256) (j:c < 256):∀ l:List Nat,Bytes l->horner x (l ++ [c])=horner x l ^^^ mul c (bZ x l.length)
 | [],_=>by show mul 0 x ^^^ c=0 ^^^ mul c 1;rw [zero_mul,mul_one]
 | d :: r,h=>by
  show mul (horner x (r ++ [c])) x ^^^ d=(mul (horner x r) x ^^^ d) ^^^ mul c (mul (bZ x r.length) x)
  rw [CD x c y j r h.tail,mul_left _ _ _ (bF x r h.tail) (aV j _),mul_assoc c _ x j (dV x _)]
  ac_rfl
theorem Jn9 (h:Bytes l) (k:Nat):Bytes (l.take k):=fun i=>by
 by_cases j:i < k
 ·have:=h i
  simpa [nth,List.getD_eq_getElem?_getD,List.getElem?_take,j] using this
 ·simp [nth,List.getD_eq_getElem?_getD,List.getElem?_take,j]
theorem KQ (l:List Nat) (x:Nat) (j:x < 256) (h:Bytes l):∀ k,k<=l.length->gQ l x k=horner x (l.take k)
 | 0,_=>by simp [gQ,horner]
 | k+1,hk=>by
  rw [PU l k (by omega),CD x _ j (h k) _ (Jn9 h k),<- KQ l x j h k (by omega)]
  show _ ^^^ _=_
  rw [List.length_take,Nat.min_eq_left (by omega)]
theorem jL (l:List Nat) (x:Nat) (j:x < 256) (h:Bytes l):gQ l x l.length=horner x l:=by
 rw [KQ l x j h _ (Nat.le_refl _),List.take_length]
theorem Jdj (a b:Nat) (y:a < 256) (j:b < 256) (D:a≠0) (G:b≠0):inv (mul a b)=mul (inv a) (inv b):=by
 symm
 refine eN (mul a b) _ (aV y b) (aV (cQ a) _) (VI y j D G) ?_
 rw [mul_assoc a b _ y j,<- mul_assoc b (inv a) _ j (cQ a),mul_comm b (inv a) j (cQ a),mul_assoc (inv a) b _ (cQ a) j,eG b j G,mul_one,eG a y D]
def x3 (xs:List Nat) (i x:Nat):Nat->Nat
 | 0=>1
 | k+1=>if k=i then x3 xs i x k else mul (x3 xs i x k) (mul (x ^^^ nth xs k) (inv (nth xs i ^^^ nth xs k)))
theorem zE (xs:List Nat) (i x:Nat):∀ k,x3 xs i x k < 256
 | 0=>by show 1 < 256;decide
 | k+1=>by
  unfold x3
  split
  ·exact zE xs i x k
  ·exact aV (zE xs i x k) _
theorem JeP (a b c d:Nat) (D:a < 256) (j:b < 256) (y:c < 256):mul (mul a b) (mul c d)=mul (mul a c) (mul b d):=by
 rw [mul_assoc a b _ D j,<- mul_assoc b c d j y,mul_comm b c j y,mul_assoc c b d y j,<- mul_assoc a c _ D y]
theorem Jev:inv 1=1:=by decide +kernel
theorem JdS (xs:List Nat) (j:Bytes xs) (y:xs.Nodup) (i x:Nat) (D:i < xs.length) (G:x < 256):∀ k,k<=xs.length->x3 xs i x k=mul (XY xs i x k) (inv (XY xs i (nth xs i) k))
 | 0,_=>by show 1=mul 1 (inv 1);rw [Jev,mul_one]
 | k+1,hk=>by
  have ih:=JdS xs j y i x D G k (by omega)
  unfold x3 XY
  by_cases e:k=i
  ·rw [if_pos e,if_pos e,if_pos e];exact ih
  ·rw [if_neg e,if_neg e,if_neg e,ih]
   have I:=dG xs j y i D k (by omega)
   have J:nth xs i ^^^ nth xs k≠0:=xL fun K=>e (M0 xs y (by omega) D K.symm)
   rw [Jdj _ _ (bX _ _ _ _) (iK (j i) (j k)) I J]
   exact JeP _ _ _ _ (bX _ _ _ _) (cQ _) (iK G (j k))
theorem D2 (xs:List Nat) (j:Bytes xs) (y:xs.Nodup) (i x:Nat) (D:i < xs.length) (G:x < 256):x3 xs i x xs.length=aQ xs i x:=JdS xs j y i x D G _ (Nat.le_refl _)
end Gf
namespace Lin
abbrev F:=Fin 256
def ad (a b:F):F:=⟨a.1 ^^^ b.1,Gf.iK a.2 b.2⟩
def mu (a b:F):F:=⟨Gf.mul a.1 b.1,Gf.aV a.2 _⟩
def iv (a:F):F:=⟨Gf.inv a.1,Gf.cQ _⟩
theorem uV (a b:F):ad a b=ad b a:=Fin.ext (Nat.xor_comm _ _)
theorem oO (a b c:F):ad (ad a b) c=ad a (ad b c):=Fin.ext (Nat.xor_assoc _ _ _)
theorem cF (a:F):ad a 0=a:=Fin.ext (Nat.xor_zero _)
theorem AN (a:F):ad 0 a=a:=Fin.ext (Nat.zero_xor _)
theorem uG (a:F):ad a a=0:=Fin.ext (Nat.xor_self _)
theorem wR {a b:F} (h:ad a b=0):a=b:=Fin.ext (Gf.dQ (congrArg Fin.val h))
theorem TK (a b c:F):ad a (ad b c)=ad b (ad a c):=by rw [<- oO,uV a b,oO]
theorem Js9 (a b c d:F):ad (ad a b) (ad c d)=ad (ad a c) (ad b d):=by rw [oO,TK b c d,<- oO]
theorem cR (a b:F):mu a b=mu b a:=Fin.ext (Gf.mul_comm _ _ a.2 b.2)
theorem aT (a b c:F):mu (mu a b) c=mu a (mu b c):=Fin.ext (Gf.mul_assoc _ _ _ a.2 b.2)
theorem C6 (a b c:F):mu a (ad b c)=ad (mu a b) (mu a c):=Fin.ext (Gf.mul_right _ _ _)
theorem vR (a b c:F):mu (ad a b) c=ad (mu a c) (mu b c):=Fin.ext (Gf.mul_left _ _ _ a.2 b.2)
theorem bN (a:F):mu a 0=0:=Fin.ext (Gf.mul_zero a.1)
theorem oN (a:F):mu 0 a=0:=Fin.ext (Gf.zero_mul a.1)
theorem oY (a:F):mu a 1=a:=Fin.ext (Gf.mul_one a.1)
theorem dU (a:F):mu 1 a=a:=by rw [cR,oY]
theorem yW (a:F) (h:a≠0):mu a (iv a)=1:=Fin.ext (Gf.eG a.1 a.2 (fun e=>h (Fin.ext e)))
theorem rX (a:F) (h:a≠0):mu (iv a) a=1:=by rw [cR,yW a h]
theorem G5:(1:F)≠0:=by decide
theorem lS {a b:F} (j:a≠0) (y:b≠0):mu a b≠0:=fun h=>j (by
 have:mu (mu a b) (iv b)=a:=by rw [aT,yW b y,oY]
 rw [h,oN] at this
 exact this.symm)
def aL:Nat->(Nat->F)->F
 | 0,_=>0
 | k+1,f=>ad (aL k f) (f k)
theorem aH {f g:Nat->F}:∀ {k:Nat},(∀ i,i < k->f i=g i)->aL k f=aL k g
 | 0,_=>rfl
 | k+1,h=>by show ad _ _=ad _ _;rw [aH (fun i j=>h i (by omega)),h k (by omega)]
theorem bS {f:Nat->F}:∀ {k:Nat},(∀ i,i < k->f i=0)->aL k f=0
 | 0,_=>rfl
 | k+1,h=>by show ad _ _=0;rw [bS (fun i j=>h i (by omega)),h k (by omega),cF]
theorem oT (f g:Nat->F):∀ k,aL k (fun i=>ad (f i) (g i))=ad (aL k f) (aL k g)
 | 0=>(cF 0).symm
 | k+1=>by show ad _ _=ad (ad _ _) (ad _ _);rw [oT f g k,Js9]
theorem bJ (c:F) (f:Nat->F):∀ k,aL k (fun i=>mu c (f i))=mu c (aL k f)
 | 0=>(bN c).symm
 | k+1=>by show ad _ _=mu c (ad _ _);rw [bJ c f k,C6]
theorem Z4 (c:F) (f:Nat->F) (k:Nat):aL k (fun i=>mu (f i) c)=mu (aL k f) c:=by
 rw [cR,<- bJ]
 exact aH fun i _=>cR _ _
theorem bW (f:Nat->Nat->F) (l:Nat):∀ k,aL k (fun i=>aL l (fun j=>f i j))=aL l (fun j=>aL k (fun i=>f i j))
 | 0=>(bS fun _ _=>rfl).symm
 | k+1=>by
  show ad (aL k _) (aL l _)=_
  rw [bW f l k,<- oT]
  rfl
theorem b9 (p:Nat) (f:Nat->F):∀ k,p < k->(∀ i,i < k->i≠p->f i=0)->aL k f=f p
 | 0,h,_=>absurd h (Nat.not_lt_zero _)
 | k+1,h,hz=>by
  show ad (aL k f) (f k)=f p
  by_cases e:p=k
  ·subst e
   rw [bS (fun i j=>hz i (by omega) (by omega)),AN]
  ·rw [b9 p f k (by omega) (fun i j=>hz i (by omega)),hz k (by omega) (fun y=>e y.symm),cF]
def skip (p i:Nat):Nat:=if i < p then i else i+1
theorem O7 (p i:Nat):skip p i≠p:=by unfold skip;split <;> omega
theorem MQ (h:i < k):skip p i < k+1:=by unfold skip;split <;> omega
theorem sY (p:Nat) (f:Nat->F):∀ k,p < k+1->aL (k+1) f=ad (f p) (aL k (fun i=>f (skip p i)))
 | 0,h=>by
  obtain rfl:p=0:=by omega
  show ad 0 (f 0)=ad (f 0) 0
  rw [AN,cF]
 | k+1,h=>by
  by_cases e:p=k+1
  ·subst e
   show ad (aL (k+1) f) (f (k+1))=_
   rw [uV]
   congr 1
   exact aH fun i j=>by unfold skip;rw [if_pos j]
  ·show ad (aL (k+1) f) (f (k+1))=ad (f p) (ad (aL k fun i=>f (skip p i)) (f (skip p k)))
   rw [sY p f k (by omega),show skip p k=k+1 from by unfold skip;rw [if_neg (by omega)],oO]
theorem Jct:∀ (s r:Nat),s < r->∀ a:Nat->Nat->F,∃ c:Nat->F,(∃ i,i < r/\c i≠0)/\∀ j,j < s->aL r (fun i=>mu (c i) (a i j))=0
 | 0,r,h,_=>⟨fun _=>1,⟨0,h,G5⟩,fun j y=>absurd y (Nat.not_lt_zero _)⟩
 | s+1,r,h,a=>by
  by_cases J:∃ p,p < r/\a p s≠0
  ·obtain ⟨p,N,O⟩:=J
   obtain ⟨k,rfl⟩:∃ k,r=k+1:=⟨r - 1,by omega⟩
   obtain ⟨c,⟨K,Q,D⟩,G⟩:=Jct s k (by omega) (fun i j=>ad (a (skip p i) j) (mu (mu (a (skip p i) s) (iv (a p s))) (a p j)))
   let cp:F:=aL k (fun i=>mu (c i) (mu (a (skip p i) s) (iv (a p s))))
   let d:Nat->F:=fun i=>if i=p then cp else c (if i < p then i else i - 1)
   have U:d p=cp:=if_pos rfl
   have M:∀ i,d (skip p i)=c i:=by
    intro i
    show (if skip p i=p then cp else _)=_
    rw [if_neg (O7 p i)]
    congr 1
    by_cases I:i < p
    ·rw [show skip p i=i from if_pos I,if_pos I]
    ·rw [show skip p i=i+1 from if_neg I,if_neg (by omega)];omega
   have key:∀ j,aL (k+1) (fun i=>mu (d i) (a i j))=aL k (fun i=>mu (c i) (ad (a (skip p i) j) (mu (mu (a (skip p i) s) (iv (a p s))) (a p j)))):=by
    intro j
    rw [sY p _ k N,U]
    have W:aL k (fun i=>mu (d (skip p i)) (a (skip p i) j))=aL k (fun i=>mu (c i) (a (skip p i) j)):=aH fun i _=>by rw [M i]
    have X:mu cp (a p j)=aL k (fun i=>mu (c i) (mu (mu (a (skip p i) s) (iv (a p s))) (a p j))):=by
     show mu (aL k _) (a p j)=_
     rw [<- Z4]
     exact aH fun i _=>by rw [aT,aT]
    rw [W,X,uV,<- oT]
    exact aH fun i _=>by rw [C6]
   refine ⟨d,⟨skip p K,MQ Q,by rw [M K];exact D⟩,fun j y=>?_⟩
   rw [key j]
   by_cases e:j=s
   ·subst e
    refine bS fun i _=>?_
    rw [aT (a (skip p i) j),rX _ O,oY,uG,bN]
   ·exact G j (by omega)
  ·obtain ⟨c,D,G⟩:=Jct s r (by omega) a
   refine ⟨c,D,fun j y=>?_⟩
   by_cases e:j=s
   ·subst e
    refine bS fun i Y=>?_
    have:a i j=0:=Classical.byContradiction fun Z=>J ⟨i,Y,Z⟩
    rw [this,bN]
   ·exact G j (by omega)
def Zu (n k:Nat) (v:Nat->Nat->F) (u:Nat->F):Prop:=∃ c:Nat->F,∀ j,j < n->u j=aL k (fun i=>mu (c i) (v i j))
def dD (n k:Nat) (v:Nat->Nat->F):Prop:=∀ c:Nat->F,(∀ j,j < n->aL k (fun i=>mu (c i) (v i j))=0)->∀ i,i < k->c i=0
theorem vJ {u v:Nat->Nat->F} (h:∀ i,i < r->Zu n s v (u i)):∃ a:Nat->Nat->F,∀ i,i < r->∀ j,j < n->u i j=aL s (fun l=>mu (a i l) (v l j)):=by
 have D:∀ i,∃ c:Nat->F,i < r->∀ j,j < n->u i j=aL s (fun l=>mu (c l) (v l j)):=fun i=>by
  by_cases y:i < r
  ·obtain ⟨c,G⟩:=h i y
   exact ⟨c,fun _=>G⟩
  ·exact ⟨fun _=>0,fun h=>absurd h y⟩
 exact ⟨fun i=>Classical.choose (D i),fun i y=>Classical.choose_spec (D i) y⟩
theorem wE {u v:Nat->Nat->F} (Q:dD n r u) (h:∀ i,i < r->Zu n s v (u i)):r<=s:=by
 refine Classical.byContradiction fun U=>?_
 obtain ⟨a,y⟩:=vJ h
 obtain ⟨c,⟨D,G,I⟩,J⟩:=Jct s r (by omega) a
 refine I (Q c (fun j K=>?_) D G)
 have M:aL r (fun i=>mu (c i) (u i j))=aL r (fun i=>aL s (fun l=>mu (mu (c i) (a i l)) (v l j))):=aH fun i N=>by
  rw [y i N j K,<- bJ]
  exact aH fun l _=>(aT _ _ _).symm
 rw [M,bW]
 refine bS fun l O=>?_
 rw [Z4,J l O,oN]
theorem UF {v:Nat->Nat->F} (at_:Nat->Nat) (M:∀ i,i < k->at_ i < n) (N:∀ i,i < k->v i (at_ i)≠0) (O:∀ i j,i < j->j < k->v j (at_ i)=0):dD n k v:=by
 intro c J
 have key:∀ m,∀ i,i < m->i < k->c i=0:=by
  intro m
  induction m with
  | zero=>intro i y;exact absurd y (Nat.not_lt_zero _)
  | succ m ih =>
   intro i y D
   by_cases e:i < m
   ·exact ih i e D
   ·obtain rfl:i=m:=by omega
    have G:=J (at_ i) (M i D)
    rw [b9 i _ k D] at G
    ·refine Classical.byContradiction fun h=>lS h (N i D) G
    ·intro j I Q
     by_cases K:j < i
     ·rw [ih j K I,oN]
     ·rw [O i j (by omega) I,bN]
 exact fun i y=>key k i y y
def n5 (n k:Nat) (v:Nat->Nat->F) (r:Nat):Prop:=∃ b:Nat->Nat->F,dD n r b/\(∀ i,i < r->Zu n k v (b i))/\∀ i,i < k->Zu n r b (v i)
theorem nM {l:Nat} {v w:Nat->Nat->F} {u:Nat->F} (K:Zu n k v u) (M:∀ i,i < k->Zu n l w (v i)):Zu n l w u:=by
 obtain ⟨c,D⟩:=K
 obtain ⟨a,G⟩:=vJ M
 refine ⟨fun m=>aL k (fun i=>mu (c i) (a i m)),fun j y=>?_⟩
 rw [D j y]
 have I:aL k (fun i=>mu (c i) (v i j))=aL k (fun i=>aL l (fun m=>mu (mu (c i) (a i m)) (w m j))):=aH fun i J=>by
  rw [G i J j y,<- bJ]
  exact aH fun m _=>(aT _ _ _).symm
 rw [I,bW]
 exact aH fun m _=>Z4 _ _ _
theorem aU (v:Nat->Nat->F) (D:i < k):Zu n k v (v i) :=
 ⟨fun j=>if j=i then 1 else 0,fun j _=>by
  rw [b9 i _ k D]
  ·show v i j=mu (if i=i then 1 else 0) (v i j);rw [if_pos rfl,dU]
  ·intro l _ y;show mu (if l=i then 1 else 0) (v l j)=0;rw [if_neg y,oN]⟩
theorem G7 {v:Nat->Nat->F} {x y:Nat->F} (J:Zu n k v x) (K:Zu n k v y):Zu n k v (fun j=>ad (x j) (y j)):=by
 obtain ⟨c,G⟩:=J
 obtain ⟨d,I⟩:=K
 refine ⟨fun i=>ad (c i) (d i),fun j D=>?_⟩
 show ad (x j) (y j)=_
 rw [G j D,I j D,<- oT]
 exact aH fun i _=>(vR _ _ _).symm
theorem xF {v:Nat->Nat->F} {x:Nat->F} (G:Zu n k v x) (a:F):Zu n k v (fun j=>mu a (x j)):=by
 obtain ⟨c,y⟩:=G
 refine ⟨fun i=>mu a (c i),fun j D=>?_⟩
 show mu a (x j)=_
 rw [y j D,<- bJ]
 exact aH fun i _=>(aT _ _ _).symm
theorem aX {v w:Nat->Nat->F} {x y:Nat->F} (h:Zu n k v x) (J:∀ i,i < k->∀ j,j < n->v i j=w i j) (K:∀ j,j < n->x j=y j):Zu n k w y:=by
 obtain ⟨c,G⟩:=h
 exact ⟨c,fun j D=>by rw [<- K j D,G j D];exact aH fun i I=>by rw [J i I j D]⟩
theorem dY {v:Nat->Nat->F} (M:n5 n k v r) (N:n5 n k v s):r=s:=by
 obtain ⟨b,y,D,G⟩:=M
 obtain ⟨d,I,J,K⟩:=N
 exact Nat.le_antisymm (wE y fun i j=>nM (D i j) K) (wE I fun i j=>nM (J i j) G)
def mm (n:Nat) (a b:Nat->Nat->F):Nat->Nat->F:=fun i j=>aL n (fun k=>mu (a i k) (b k j))
def one:Nat->Nat->F:=fun i j=>if i=j then 1 else 0
theorem cN (n l:Nat) (a b c:Nat->Nat->F) (i j:Nat):mm l (mm n a b) c i j=mm n a (mm l b c) i j:=by
 show aL l (fun m=>mu (aL n (fun k=>mu (a i k) (b k m))) (c m j))=aL n (fun k=>mu (a i k) (aL l (fun m=>mu (b k m) (c m j))))
 have y:aL l (fun m=>mu (aL n (fun k=>mu (a i k) (b k m))) (c m j))=aL l (fun m=>aL n (fun k=>mu (mu (a i k) (b k m)) (c m j))):=aH fun m _=>(Z4 _ _ _).symm
 have D:aL n (fun k=>mu (a i k) (aL l (fun m=>mu (b k m) (c m j))))=aL n (fun k=>aL l (fun m=>mu (mu (a i k) (b k m)) (c m j))):=aH fun k _=>by
  rw [<- bJ]
  exact aH fun m _=>(aT _ _ _).symm
 rw [y,D,bW]
theorem fK (n:Nat) (a:Nat->Nat->F) (i j:Nat) (D:j < n):mm n a one i j=a i j:=by
 show aL n (fun k=>mu (a i k) (one k j))=_
 rw [b9 j _ n D]
 ·show mu (a i j) (if j=j then 1 else 0)=_
  rw [if_pos rfl,oY]
 ·intro k _ y;show mu (a i k) (if k=j then 1 else 0)=0;rw [if_neg y,bN]
theorem fJ (n:Nat) (a:Nat->Nat->F) (i j:Nat) (D:i < n):mm n one a i j=a i j:=by
 show aL n (fun k=>mu (one i k) (a k j))=_
 rw [b9 i _ n D]
 ·show mu (if i=i then 1 else 0) (a i j)=_
  rw [if_pos rfl,dU]
 ·intro k _ y;show mu (if i=k then 1 else 0) (a k j)=0;rw [if_neg (fun e=>y e.symm),oN]
theorem bQ (n:Nat) {a b c d:Nat->Nat->F} (D:∀ k,k < n->a i k=c i k) (G:∀ k,k < n->b k j=d k j):mm n a b i j=mm n c d i j:=aH fun k y=>by rw [D k y,G k y]
theorem SR (n:Nat):dD n n one:=UF (fun i=>i) (fun _ h=>h) (fun i _=>by show (if i=i then (1:F) else 0)≠0;rw [if_pos rfl];exact G5) (fun i j y _=>by show (if j=i then (1:F) else 0)=0;rw [if_neg (by omega)])
theorem SU {v:Nat->Nat->F} (U:dD n n v) (u:Nat->F):Zu n n v u:=by
 obtain ⟨c,⟨D,W,J⟩,K⟩:=Jct n (n+1) (by omega) (fun i=>if i < n then v i else u)
 have I:∀ j,j < n->ad (aL n (fun i=>mu (c i) (v i j))) (mu (c n) (u j))=0:=by
  intro j y
  have h:=K j y
  have e:aL (n+1) (fun i=>mu (c i) ((if i < n then v i else u) j))=ad (aL n (fun i=>mu (c i) (v i j))) (mu (c n) (u j)):=by
   show ad (aL n _) (mu (c n) ((if n < n then v n else u) j))=_
   rw [if_neg (Nat.lt_irrefl n)]
   congr 1
   exact aH fun i M=>by rw [if_pos M]
  rw [e] at h
  exact h
 by_cases G:c n=0
 ·exfalso
  refine J ?_
  have N:=U c (fun j y=>by have:=I j y;rw [G,oN,cF] at this;exact this)
  by_cases e:D < n
  ·exact N D e
  ·obtain rfl:D=n:=by omega
   exact G
 ·refine ⟨fun i=>mu (iv (c n)) (c i),fun j y=>?_⟩
  have O:=wR (I j y)
  have Q:aL n (fun i=>mu (mu (iv (c n)) (c i)) (v i j))=mu (iv (c n)) (aL n (fun i=>mu (c i) (v i j))):=by
   rw [<- bJ]
   exact aH fun i _=>aT _ _ _
  rw [Q,O,<- aT,rX _ G,dU]
theorem LN {x m:Nat->Nat->F} (h:∀ i j,i < n->j < n->mm n x m i j=one i j):dD n n m:=by
 intro c J
 refine Classical.byContradiction fun K=>?_
 have ⟨p,hp⟩:∃ p,p < n/\c p≠0:=Classical.byContradiction fun M=>K fun i y=>Classical.byContradiction fun N=>M ⟨i,y,N⟩
 obtain ⟨D,O⟩:=hp
 obtain ⟨k,rfl⟩:∃ k,n=k+1:=⟨n - 1,by omega⟩
 have Q:∀ i,i < k+1->Zu (k+1) k (fun i=>m (skip p i)) (one i):=by
  intro i y
  refine ⟨fun l=>ad (x i (skip p l)) (mu (x i p) (mu (iv (c p)) (c (skip p l)))),fun j G=>?_⟩
  have U:=h i j y G
  rw [<- U]
  show aL (k+1) (fun l=>mu (x i l) (m l j))=_
  rw [sY p _ k D]
  have I:=J j G
  rw [sY p _ k D] at I
  have W:m p j=mu (iv (c p)) (aL k (fun l=>mu (c (skip p l)) (m (skip p l) j))):=by
   rw [<- wR I,<- aT,rX _ O,dU]
  have X:aL k (fun l=>mu (ad (x i (skip p l)) (mu (x i p) (mu (iv (c p)) (c (skip p l))))) (m (skip p l) j))=ad (aL k (fun l=>mu (x i (skip p l)) (m (skip p l) j))) (mu (x i p) (mu (iv (c p)) (aL k (fun l=>mu (c (skip p l)) (m (skip p l) j))))):=by
   rw [<- bJ,<- bJ,<- oT]
   exact aH fun l _=>by rw [vR,aT,aT]
  rw [X,<- W,uV]
 have:=wE (SR (k+1)) Q
 omega
theorem cK {x m:Nat->Nat->F} (h:∀ i j,i < n->j < n->mm n x m i j=one i j):∀ i j,i < n->j < n->mm n m x i j=one i j:=by
 have D:=LN h
 intro i j G I
 have key:=D (fun k=>ad (mm n m x i k) (one i k)) (fun l y=>by
  have J:aL n (fun k=>mu (ad (mm n m x i k) (one i k)) (m k l))=ad (mm n (mm n m x) m i l) (mm n one m i l):=by
   show _=ad (aL n _) (aL n _)
   rw [<- oT]
   exact aH fun k _=>vR _ _ _
  have K:mm n (mm n m x) m i l=m i l:=by
   rw [cN]
   show aL n (fun k=>mu (m i k) (mm n x m k l))=_
   rw [aH (g:=fun k=>mu (m i k) (one k l)) fun k M=>by rw [h k l M y]]
   exact fK n m i l y
  rw [J,K,fJ n m i l G,uG]) j I
 exact wR key
theorem dR {m:Nat->Nat->F} (h:dD n n m):∃ x:Nat->Nat->F,∀ i j,i < n->j < n->mm n x m i j=one i j:=by
 obtain ⟨x,y⟩:=vJ (r:=n) (u:=one) fun i _=>SU h (one i)
 exact ⟨x,fun i j D G=>(y i D j G).symm⟩
end Lin
def Qi (n:Nat) (f:Nat->Nat):List Nat:=(List.range n).map f
theorem Jf (n:Nat) (f:Nat->Nat):(Qi n f).length=n:=by simp [Qi]
theorem Yq (n:Nat) (f:Nat->Nat) (j:Nat) (h:j < n):Gf.nth (Qi n f) j=f j:=by
 rw [Gf.aK _ _ (by rw [Jf];exact h)];simp [Qi]
theorem XL (n:Nat) (f:Nat->Nat) (h:∀ j,f j < 256):Gf.Bytes (Qi n f):=fun i=>by
 by_cases y:i < n
 ·rw [Yq n f i y];exact h i
 ·unfold Gf.nth;rw [List.getD_eq_getElem?_getD,List.getElem?_eq_none (by rw [Jf];omega)];decide
theorem YL (n:Nat) (f g:Nat->Nat) (h:∀ j,j < n->f j=g j):Qi n f=Qi n g:=by
 unfold Qi
 exact List.map_congr_left fun j y=>h j (List.mem_range.1 y)
theorem Jp6 (n:Nat) (f:Nat->Nat) (j v:Nat):(Qi n f).set j v=Qi n (fun i=>if i=j then v else f i):=by
 apply List.ext_getElem
 ·simp [Qi]
 ·intro i D G
  rw [List.getElem_set]
  simp only [Qi,List.getElem_map,List.getElem_range]
  by_cases e:j=i
  ·rw [if_pos e,if_pos e.symm]
  ·rw [if_neg e,if_neg (fun y=>e y.symm)]
def Qh (M:List (List Nat)) (i:Nat):List Nat:=M.getD i []
theorem JbW (M:List (List Nat)) (r:List Nat) (i:Nat) (h:i < M.length):Qh (M ++ [r]) i=Qh M i:=by
 unfold Qh;rw [List.getD_eq_getElem?_getD,List.getD_eq_getElem?_getD,List.getElem?_append_left h]
theorem JbX (M:List (List Nat)) (r:List Nat):Qh (M ++ [r]) M.length=r:=by
 unfold Qh;rw [List.getD_eq_getElem?_getD,List.getElem?_append_right (Nat.le_refl _)];simp
def Qm (x:Nat):Lin.F:=⟨x % 256,Nat.mod_lt _ (by decide)⟩
theorem YY (h:x < 256):(Qm x).1=x:=Nat.mod_eq_of_lt h
theorem AP (h:x < 256):Qm x=0↔x=0:=by
 constructor
 ·intro e
  have:=congrArg Fin.val e
  rw [YY h] at this
  exact this
 ·rintro rfl;rfl
theorem qW (j:x < 256) (D:y < 256):Qm (x ^^^ y)=Lin.ad (Qm x) (Qm y):=by
 apply Fin.ext
 rw [YY (Gf.iK j D)]
 show _=(Qm x).1 ^^^ (Qm y).1
 rw [YY j,YY D]
theorem oU (j:x < 256) (D:y < 256):Qm (Gf.mul x y)=Lin.mu (Qm x) (Qm y):=by
 apply Fin.ext
 rw [YY (Gf.aV j y)]
 show _=Gf.mul (Qm x).1 (Qm y).1
 rw [YY j,YY D]
def vec (M:List (List Nat)):Nat->Nat->Lin.F:=fun i j=>Qm (Gf.nth (Qh M i) j)
section
open Lin (F aL ad mu)
theorem E1 (x:Nat) (y:x < 256) (l:List Nat) (h:Gf.Bytes l):Qm (Gf.horner x l)=aL l.length (fun j=>mu (Qm (Gf.nth l j)) (Qm (Gf.bZ x j))):=by
 rw [<- Gf.jL l x y h]
 have key:∀ k,Qm (Gf.gQ l x k)=aL k (fun j=>mu (Qm (Gf.nth l j)) (Qm (Gf.bZ x j))):=by
  intro k
  induction k with
  | zero=>rfl
  | succ k ih =>
   show Qm (Gf.gQ l x k ^^^ Gf.mul (Gf.nth l k) (Gf.bZ x k))=ad _ _
   rw [qW (Gf.iA l x h k) (Gf.aV (h k) _),ih,oU (h k) (Gf.dV x k)]
 exact key _
theorem JrP (f:Nat->F) (m:Nat):∀ k,m<=k->(∀ i,m<=i->i < k->f i=0)->aL k f=aL m f
 | 0, h, _ => by obtain rfl : m = 0 := by omega
                 rfl
 | k+1,h,hz=>by
  by_cases e:m=k+1
  ·rw [e]
  ·show ad (aL k f) (f k)=_
   rw [hz k (by omega) (by omega),Lin.cF]
   exact JrP f m k (by omega) fun i j y=>hz i j (by omega)
theorem AW (X:List Nat) (j:Gf.Bytes X) (K:X.Nodup) (c:Nat->F) (h:∀ p:List Nat,Gf.Bytes p->p.length<=X.length->aL X.length (fun r=>mu (c r) (Qm (Gf.horner (Gf.nth X r) p)))=0):∀ s,s < X.length->c s=0:=by
 intro s y
 have D:=h (Gf.bK X s X.length) (Gf.bM X j s _) (by
  have:=Gf.cC X s X.length
  rw [if_pos y] at this
  omega)
 rw [Lin.b9 s _ X.length y] at D
 ·rw [Gf.bH X j] at D
  refine Classical.byContradiction fun G=>Lin.lS G ?_ D
  intro e
  exact Gf.dG X j K s y _ (Nat.le_refl _) ((AP (Gf.bX _ _ _ _)).1 e)
 ·intro i I J
  rw [Gf.bH X j,Gf.cJ X s i J _ I]
  show mu _ (Qm 0)=0
  exact Lin.bN _
theorem R3 (X:List Nat) (y:Gf.Bytes X) (J:X.Nodup):Lin.dD X.length X.length (fun r j=>Qm (Gf.bZ (Gf.nth X r) j)):=by
 intro c D
 refine AW X y J c fun p G K=>?_
 have I:aL X.length (fun r=>mu (c r) (Qm (Gf.horner (Gf.nth X r) p)))=aL X.length (fun r=>aL p.length (fun j=>mu (Qm (Gf.nth p j)) (mu (c r) (Qm (Gf.bZ (Gf.nth X r) j))))):=Lin.aH fun r _=>by
  rw [E1 _ (y r) p G,<- Lin.bJ]
  exact Lin.aH fun j _=>by rw [<- Lin.aT,Lin.cR (c r),Lin.aT]
 rw [I,Lin.bW]
 refine Lin.bS fun j M=>?_
 rw [Lin.bJ,D j (by omega),Lin.bN]
theorem BW (xs y:List Nat) (D:Gf.Bytes y) (x:Nat):∀ k,Qm (Gf.fG xs y x k)=aL k (fun j=>mu (Qm (Gf.nth y j)) (Qm (Gf.aQ xs j x)))
 | 0=>rfl
 | k+1=>by
  show Qm (Gf.fG xs y x k ^^^ Gf.mul (Gf.nth y k) (Gf.aQ xs k x))=ad _ _
  rw [qW (Gf.gY xs y x D k) (Gf.aV (D k) _),BW xs y D x k,oU (D k) (Gf.bL _ _ _)]
theorem IZ (xs p:List Nat) (I:Gf.Bytes xs) (J:xs.Nodup) (G:Gf.Bytes p) (K:p.length<=xs.length) (x:Nat) (M:x < 256):Qm (Gf.horner x p)=aL xs.length (fun j=>mu (Qm (Gf.horner (Gf.nth xs j) p)) (Qm (Gf.aQ xs j x))):=by
 have D:Gf.Bytes (Qi xs.length fun j=>Gf.horner (Gf.nth xs j) p):=XL _ _ fun j=>Gf.bF _ p G
 rw [<- Gf.through p xs (Qi xs.length fun j=>Gf.horner (Gf.nth xs j) p) G I D J K (fun j y=>Yq _ _ j y) x M,BW _ _ D]
 exact Lin.aH fun j y=>by rw [Yq _ _ j y]
theorem PZ (xs X:List Nat) (K:Gf.Bytes xs) (M:xs.Nodup) (y:Gf.Bytes X) (N:X.Nodup) (Q:X.length=xs.length):Lin.dD xs.length X.length (fun r j=>Qm (Gf.aQ xs j (Gf.nth X r))):=by
 intro c D
 refine AW X y N c fun p G O=>?_
 have I:aL X.length (fun r=>mu (c r) (Qm (Gf.horner (Gf.nth X r) p)))=aL X.length (fun r=>aL xs.length (fun j=>mu (Qm (Gf.horner (Gf.nth xs j) p)) (mu (c r) (Qm (Gf.aQ xs j (Gf.nth X r)))))):=Lin.aH fun r _=>by
  rw [IZ xs p K M G (by omega) _ (y r),<- Lin.bJ]
  exact Lin.aH fun j _=>by rw [<- Lin.aT,Lin.cR (c r),Lin.aT]
 rw [I,Lin.bW]
 refine Lin.bS fun j J=>?_
 rw [Lin.bJ,D j J,Lin.bN]
def nH (m:Nat):List Nat:=Qi (m+1) fun j=>if j=m then 1 else 0
theorem DT (m:Nat):Gf.Bytes (nH m):=XL _ _ fun j=>by split <;> decide
theorem B4 (m x:Nat) (D:x < 256):Qm (Gf.horner x (nH m))=Qm (Gf.bZ x m):=by
 rw [E1 x D _ (DT m),show (nH m).length=m+1 from Jf _ _,Lin.b9 m _ (m+1) (by omega)]
 ·unfold nH
  rw [Yq _ _ m (by omega),if_pos rfl]
  exact Lin.dU _
 ·intro i j y
  unfold nH
  rw [Yq _ _ i j,if_neg y]
  exact Lin.oN _
theorem Y6 (xs:List Nat) (y:Gf.Bytes xs) (G:xs.Nodup) (x m:Nat) (D:x < 256) (I:m < xs.length):aL xs.length (fun j=>mu (Qm (Gf.aQ xs j x)) (Qm (Gf.bZ (Gf.nth xs j) m)))=Qm (Gf.bZ x m):=by
 rw [<- B4 m x D,IZ xs (nH m) y G (DT m) (by rw [show (nH m).length=m+1 from Jf _ _];omega) x D]
 exact Lin.aH fun j _=>by rw [B4 m _ (y j),Lin.cR]
end
namespace Lin
def aZ (g:Nat->Nat->F) (d p k:Nat):Nat->Nat->F:=fun i j=>if i=d then mu (iv (g p k)) (g p j) else if i=p then g d j else g i j
def bE (h:Nat->Nat->F) (d k:Nat):Nat->Nat->F:=fun i j=>if i=d then h i j else ad (h i j) (mu (h i k) (h d j))
structure eO (r n k:Nat) (f g:Nat->Nat->F) (d:Nat):Prop where
 le:d<=r
 to:∀ i,i < r->Zu n r f (g i)
 from_:∀ i,i < r->Zu n r g (f i)
 piv:∃ p:Nat->Nat,(∀ i,i < d->p i < k/\g i (p i)=1/\∀ i',i' < r->i'≠i->g i' (p i)=0)/\∀ i j,i < j->j < d->p i < p j
 zero:∀ i,d<=i->i < r->∀ j,j < k->g i j=0
theorem eO.start (r n:Nat) (f:Nat->Nat->F):eO r n 0 f f 0 where
 le:=Nat.zero_le _
 to:=fun _ j=>aU f j
 from_:=fun _ j=>aU f j
 piv:=⟨fun _=>0,fun _ j=>absurd j (Nat.not_lt_zero _),fun _ _ _ y=>absurd y (Nat.not_lt_zero _)⟩
 zero:=fun _ _ _ _ y=>absurd y (Nat.not_lt_zero _)
theorem eO.skip {f g:Nat->Nat->F} (h:eO r n k f g d) (J:∀ i,d<=i->i < r->g i k=0):eO r n (k+1) f g d where
 le:=h.le
 to:=h.to
 from_:=h.from_
 piv:=by
  obtain ⟨p,D,I⟩:=h.piv
  exact ⟨p,fun i y=>⟨Nat.lt_succ_of_lt (D i y).1,(D i y).2⟩,I⟩
 zero:=fun i G y j K=>by
  by_cases e:j=k
  ·rw [e];exact J i G y
  ·exact h.zero i G y j (by omega)
theorem FH {v:Nat->Nat->F} {x y:Nat->F} (D:Zu n r v x) (a:F) (h:∀ j,y j=mu a (x j)):Zu n r v y:=aX (xF D a) (fun _ _ _ _=>rfl) (fun j _=>(h j).symm)
theorem Jtc {g:Nat->Nat->F} (G:d < r) (I:p < r):∀ i,i < r->Zu n r g (aZ g d p k i):=fun i D=>by
 by_cases e:i=d
 ·exact FH (aU g I) (iv (g p k)) (fun j=>by unfold aZ;rw [if_pos e])
 ·by_cases y:i=p
  ·exact aX (aU g G) (fun _ _ _ _=>rfl) (fun j _=>by unfold aZ;rw [if_neg e,if_pos y])
  ·exact aX (aU g D) (fun _ _ _ _=>rfl) (fun j _=>by unfold aZ;rw [if_neg e,if_neg y])
theorem KY {g:Nat->Nat->F} (G:d < r) (I:p < r) (J:g p k≠0):∀ i,i < r->Zu n r (aZ g d p k) (g i):=fun i D=>by
 by_cases e:i=p
 ·refine FH (aU (aZ g d p k) G) (g p k) (fun j=>?_)
  unfold aZ
  rw [if_pos rfl,<- aT,yW _ J,dU,e]
 ·by_cases y:i=d
  ·refine aX (aU (aZ g d p k) I) (fun _ _ _ _=>rfl) (fun j _=>?_)
   unfold aZ
   rw [if_neg (fun h=>e (by rw [y,h])),if_pos rfl,y]
  ·refine aX (aU (aZ g d p k) D) (fun _ _ _ _=>rfl) (fun j _=>?_)
   unfold aZ
   rw [if_neg y,if_neg e]
theorem WX {h:Nat->Nat->F} (D:d < r):∀ i,i < r->Zu n r h (bE h d k i):=fun i y=>by
 by_cases e:i=d
 ·exact aX (aU h y) (fun _ _ _ _=>rfl) (fun j _=>by unfold bE;rw [if_pos e])
 ·exact aX (G7 (aU h y) (xF (aU h D) (h i k))) (fun _ _ _ _=>rfl) (fun j _=>by unfold bE;rw [if_neg e])
theorem TH {h:Nat->Nat->F} (D:d < r):∀ i,i < r->Zu n r (bE h d k) (h i):=fun i y=>by
 by_cases e:i=d
 ·exact aX (aU (bE h d k) y) (fun _ _ _ _=>rfl) (fun j _=>by unfold bE;rw [if_pos e])
 ·refine aX (G7 (aU (bE h d k) y) (xF (aU (bE h d k) D) (h i k))) (fun _ _ _ _=>rfl) (fun j _=>?_)
  show ad (bE h d k i j) (mu (h i k) (bE h d k d j))=h i j
  unfold bE
  rw [if_neg e,if_pos rfl,oO,uG,cF]
theorem eO.step {f g:Nat->Nat->F} (h:eO r n k f g d) (a4:d<=p) (M:p < r) (a0:g p k≠0):eO r n (k+1) f (bE (aZ g d p k) d k) (d+1):=by
 have G:d < r:=by omega
 have N:∀ j,aZ g d p k d j=mu (iv (g p k)) (g p j):=fun j=>by unfold aZ;rw [if_pos rfl]
 have Y:aZ g d p k d k=1:=by rw [N,rX _ a0]
 have Z:∀ j,bE (aZ g d p k) d k d j=aZ g d p k d j:=fun j=>by unfold bE;rw [if_pos rfl]
 have O:∀ i j,i≠d->aZ g d p k d j=0->bE (aZ g d p k) d k i j=aZ g d p k i j:=fun i j y Q=>by unfold bE;rw [if_neg y,Q,bN,cF]
 have Ck:∀ i,i≠d->bE (aZ g d p k) d k i k=0:=fun i y=>by unfold bE;rw [if_neg y,Y,oY,uG]
 obtain ⟨q,I,q2⟩:=h.piv
 have U:∀ i,i < d->aZ g d p k d (q i)=0:=fun i y=>by rw [N,(I i y).2.2 p M (by omega),bN]
 refine ⟨by omega,fun i y=>nM (nM (WX G i y) (Jtc G M)) h.to,fun i y=>nM (nM (h.from_ i y) (KY G M a0)) (TH G),?_,?_⟩
 ·refine ⟨fun i=>if i=d then k else q i,fun i y=>?_,fun i j a1 hj=>?_⟩
  ·by_cases e:i=d
   ·subst e
    simp only [if_true]
    exact ⟨by omega,by rw [Z,Y],fun J _ W=>Ck J W⟩
   ·simp only [e,if_false]
    have D:i < d:=by omega
    refine ⟨by have:=(I i D).1;omega,?_,fun J W a2=>?_⟩
    ·rw [O i (q i) e (U i D)]
     unfold aZ
     rw [if_neg e,if_neg (by omega)]
     exact (I i D).2.1
    ·by_cases X:J=d
     ·rw [X,Z];exact U i D
     ·rw [O J (q i) X (U i D)]
      unfold aZ
      rw [if_neg X]
      by_cases K:J=p
      ·rw [if_pos K];exact (I i D).2.2 d G (by omega)
      ·rw [if_neg K];exact (I i D).2.2 J W a2
  ·by_cases e:j=d
   ·simp only [e,if_true,show ¬ i=d by omega,if_false]
    exact (I i (by omega)).1
   ·simp only [e,if_false,show ¬ i=d by omega]
    exact q2 i j a1 (by omega)
 ·intro i y a3 j hj
  by_cases e:j=k
  ·rw [e];exact Ck i (by omega)
  ·have Q:aZ g d p k d j=0:=by rw [N,h.zero p a4 M j (by omega),bN]
   rw [O i j (by omega) Q]
   unfold aZ
   rw [if_neg (by omega)]
   by_cases K:i=p
   ·rw [if_pos K];exact h.zero d (Nat.le_refl _) G j (by omega)
   ·rw [if_neg K];exact h.zero i (by omega) a3 j (by omega)
theorem VQ {v:Nat->Nat->F} {u:Nat->F} (h:Zu n r v u) (G:c<=n):Zu c r v u:=by
 obtain ⟨a,y⟩:=h
 exact ⟨a,fun j D=>y j (by omega)⟩
theorem A8 {f:Nat->F} {m:Nat}:∀ {k:Nat},m<=k->(∀ i,m<=i->i < k->f i=0)->aL k f=aL m f
 | 0,h,_=>by rw [show m=0 by omega]
 | k+1,h,hz=>by
  by_cases e:m=k+1
  ·rw [e]
  ·show ad (aL k f) (f k)=_
   rw [hz k (by omega) (by omega),cF]
   exact A8 (by omega) (fun i j y=>hz i j (by omega))
theorem eO.xN {f g:Nat->Nat->F} (h:eO r n c f g d) (O:c<=n):n5 c r f d:=by
 obtain ⟨q,D,_⟩:=h.piv
 refine ⟨g,?_,fun i y=>VQ (h.to i (by have:=h.le;omega)) O,fun i y=>?_⟩
 ·intro a G i y
  have:=G (q i) (D i y).1
  rw [b9 i _ d y (fun I Q J=>by rw [(D i y).2.2 I (by have:=h.le;omega) J,bN]),(D i y).2.1,oY] at this
  exact this
 ·obtain ⟨a,G⟩:=h.from_ i y
  refine ⟨a,fun j K=>?_⟩
  rw [G j (by omega)]
  exact A8 h.le (fun I M N=>by rw [h.zero I M N j K,bN])
theorem eO.diag {f g:Nat->Nat->F} (h:eO r n r f g r):∀ i j,i < r->j < r->g i j=one i j:=by
 obtain ⟨q,G,I⟩:=h.piv
 have M:∀ i,i < r->i<=q i:=fun i=>by
  induction i with
  | zero=>intro _;exact Nat.zero_le _
  | succ i ih=>intro y;have J:=ih (by omega);have D:=I i (i+1) (by omega) y;omega
 have N:∀ m,m < r->q (r - 1 - m)<=r - 1 - m:=fun m=>by
  induction m with
  | zero=>intro O;have:=(G (r - 1) (by omega)).1;show q (r - 1)<=r - 1;omega
  | succ m ih=>intro O;have J:=ih (by omega);have D:=I (r - 1 - (m+1)) (r - 1 - m) (by omega) (by omega);omega
 have id:∀ i,i < r->q i=i:=fun i y=>by
  have J:=M i y
  have D:=N (r - 1 - i) (by omega)
  rw [show r - 1 - (r - 1 - i)=i by omega] at D
  omega
 intro i j y K
 have:=G j K
 rw [id j K] at this
 unfold one
 by_cases e:i=j
 ·rw [if_pos e,e];exact this.2.1
 ·rw [if_neg e];exact this.2.2 i y e
theorem eO.vA {m l:Nat} {f g:Nat->Nat->F} (h:eO r n c f g d) (a:Nat->Nat->F) (N:m+l<=n) (K:∀ i,i < r->∀ j,j < m->f i j=aL l (fun t=>mu (f i (m+t)) (a t j))):∀ i,i < r->∀ j,j < m->g i j=aL l (fun t=>mu (g i (m+t)) (a t j)):=by
 intro i D j G
 obtain ⟨b,y⟩:=h.to i D
 rw [y j (by omega)]
 have I:aL l (fun t=>mu (g i (m+t)) (a t j))=aL l (fun t=>aL r (fun s=>mu (mu (b s) (f s (m+t))) (a t j))):=aH fun t M=>by
  rw [y (m+t) (by omega),<- Z4]
 rw [I,bW]
 refine aH fun s J=>?_
 rw [K s J j G,<- bJ]
 exact aH fun t _=>(aT _ _ _).symm
theorem eO.kM {m f g:Nat->Nat->F} (h:eO r (2*r) r f g r) (J:∀ i j,i < r->j < r->f i j=m i j) (K:∀ i j,i < r->j < r->f i (r+j)=one i j):∀ i j,i < r->j < r->mm r (fun i j=>g i (r+j)) m i j=one i j:=by
 intro i j y D
 have G:=h.vA (m:=r) (l:=r) m (by omega) (fun i y j D=>by
  rw [J i j y D]
  have:aL r (fun t=>mu (f i (r+t)) (m t j))=aL r (fun t=>mu (one i t) (m t j)):=aH fun t I=>by rw [K i t y I]
  rw [this]
  exact (fJ r m i j y).symm) i y j D
 rw [<- h.diag i j y D,G]
 rfl
end Lin
theorem Yl {o:Nat} {v:Value} (h:w.cell? ⟨b,o,none⟩=some v):b < w.heap.size:=by
 rcases Nat.lt_or_ge b w.heap.size with j | j
 ·exact j
 ·simp [World.cell?,Array.getElem?_eq_none j] at h
def Jd (w:World) (ad:Nat->Addr) (y:Value) (c at_:Int):Prop :=
 (y=.nilIface/\c=0/\at_=-1)∨(∃ i,i < 12/\y=.iface 252 (.pointer (some (ad i)))/\c=((i+1:Nat):Int)/\at_=-1) ∨
 ∃ i j,i < 12/\y=.iface 112 (.pointer (some ⟨j,0,none⟩))/\c=((i+1:Nat):Int)/\w.cell? ⟨j,0,none⟩=some (.int .i64 at_)/\w.cell? ⟨j,1,none⟩=some (.iface 252 (.pointer (some (ad i))))
theorem Jd.below {w':World} {ad:Nat->Addr} {G:Value} {c:Int} (h:Jd w ad G c at_) (I:Below w.heap.size w w'):Jd w' ad G c at_:=by
 rcases h with h | h | ⟨i,j,J,K,M,y,D⟩
 ·exact Or.inl h
 ·exact Or.inr (Or.inl h)
 ·exact Or.inr (Or.inr ⟨i,j,J,K,M,(I.cell (p:=⟨j,0,none⟩) (Yl y)).trans y,(I.cell (p:=⟨j,1,none⟩) (Yl D)).trans D⟩)
theorem Jd.nil (w:World) (ad:Nat->Addr):Jd w ad .nilIface 0 (-1):=Or.inl ⟨rfl,rfl,rfl⟩
theorem Jd.b8 {ad:Nat->Addr} (i:Nat) (j:i < 12):Jd w ad (.iface 252 (.pointer (some (ad i)))) ((i+1:Nat):Int) (-1):=Or.inr (Or.inl ⟨i,j,rfl,rfl,rfl⟩)
theorem Jd.some {ad:Nat->Addr} {y:Value} {c:Int} (h:Jd w ad y c at_) (I:0 < c):∃ t v,y=.iface t v:=by
 rcases h with ⟨_,D,_⟩ | ⟨i,_,j,_⟩ | ⟨i,G,_,j,_⟩
 ·omega
 ·exact ⟨_,_,j⟩
 ·exact ⟨_,_,j⟩
end Go.Proofs.YtmikbldbfnlfjaaGreatDoor

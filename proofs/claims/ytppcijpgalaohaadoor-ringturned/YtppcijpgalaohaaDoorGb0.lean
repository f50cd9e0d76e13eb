/- Texts laid together. -/
import Derived.RowKit
namespace Go.Proofs.YtppcijpgalaohaaDoor
open Go.RowKit
variable {a b i n c r j p k s x y d:Nat}{l:List Nat}
namespace Gf
def tx (a:Nat):Nat:=if a < 128 then a*2 else (a*2 - 256) ^^^ 29
def dP (a:Nat):Nat->Nat
 | 0=>a
 | k+1=>tx (dP a k)
def bT (b i:Nat):Nat:=b / 2 ^ i % 2
def Xh (a b:Nat):Nat->Nat
 | 0=>0
 | k+1=>if bT b k=1 then Xh a b k ^^^ dP a k else Xh a b k
def mul (a b:Nat):Nat:=Xh a b 8
theorem U2 (h:a < 256):tx a < 256:=by
 unfold tx;split
 ·omega
 ·exact Nat.xor_lt_two_pow (n:=8) (by omega) (by decide)
theorem cY (h:a < 256) (k:Nat):dP a k < 256:=by
 induction k with
 | zero=>exact h
 | succ k ih=>exact U2 ih
theorem eF (h:a < 256) (b k:Nat):Xh a b k < 256:=by
 induction k with
 | zero=>exact (by decide:(0:Nat) < 256)
 | succ k ih => unfold Xh; split
                ·exact Nat.xor_lt_two_pow (n:=8) ih (cY h k)
                ·exact ih
theorem aV (h:a < 256) (b:Nat):mul a b < 256:=eF h b 8
theorem yK:∀ a:Nat,a < 256->tx a=(a <<< 1) % 2 ^ 8 ^^^ (29 * (a >>> 7)):=by decide +kernel
theorem B1 (a:Nat) (h:a < 256):a >>> 7=0∨a >>> 7=1:=by
 rw [Nat.shiftRight_eq_div_pow];omega
theorem iK (d:a < 256) (f:b < 256):a ^^^ b < 256:=Nat.xor_lt_two_pow (n:=8) d f
theorem GU (a b:Nat) (d:a < 256) (f:b < 256):tx (a ^^^ b)=tx a ^^^ tx b:=by
 rw [yK _ (iK d f),yK _ d,yK _ f,Nat.shiftLeft_xor_distrib,Nat.shiftRight_xor_distrib,Nat.xor_mod_two_pow]
 have o:29*(a >>> 7 ^^^ b >>> 7)=29*(a >>> 7) ^^^ 29*(b >>> 7):=by
  rcases B1 a d with h | h <;> rcases B1 b f with j | j <;> rw [h,j] <;> rfl
 rw [o]
 ac_rfl
theorem T7 (a b:Nat) (d:a < 256) (f:b < 256) (k:Nat):dP (a ^^^ b) k=dP a k ^^^ dP b k:=by
 induction k with
 | zero=>rfl
 | succ k ih => show tx (dP (a ^^^ b) k) = tx (dP a k) ^^^ tx (dP b k)
                rw [ih,GU _ _ (cY d k) (cY f k)]
theorem C8:tx 0=0:=by decide
theorem NO (k:Nat):dP 0 k=0:=by
 induction k with
 | zero=>rfl
 | succ k ih=>show tx (dP 0 k)=0;rw [ih,C8]
theorem j1 (b c k:Nat):bT (b ^^^ c) k=(bT b k+bT c k) % 2:=by
 unfold bT
 rw [<- Nat.shiftRight_eq_div_pow,<- Nat.shiftRight_eq_div_pow,<- Nat.shiftRight_eq_div_pow,Nat.shiftRight_xor_distrib]
 have:=Nat.xor_mod_two_pow (a:=b >>> k) (b:=c >>> k) (n:=1)
 simp only [Nat.pow_one] at this
 rw [this]
 rcases Nat.mod_two_eq_zero_or_one (b >>> k) with h | h <;> rcases Nat.mod_two_eq_zero_or_one (c >>> k) with d | d <;> rw [h,d] <;> rfl
theorem wL (b k:Nat):bT b k=0∨bT b k=1:=Nat.mod_two_eq_zero_or_one _
theorem T4 (a d b:Nat) (f:a < 256) (h:d < 256) (k:Nat):Xh (a ^^^ d) b k=Xh a b k ^^^ Xh d b k:=by
 induction k with
 | zero=>exact (Nat.xor_self 0).symm
 | succ k ih =>
  simp only [Xh]
  rw [ih,T7 a d f h]
  split
  ·ac_rfl
  ·rfl
theorem MK (a b c:Nat) (k:Nat):Xh a (b ^^^ c) k=Xh a b k ^^^ Xh a c k:=by
 induction k with
 | zero=>exact (Nat.xor_self 0).symm
 | succ k ih =>
  simp only [Xh]
  rw [ih,j1]
  have f:dP a k ^^^ dP a k=0:=Nat.xor_self _
  rcases wL b k with h | h <;> rcases wL c k with d | d <;> rw [h,d] <;> simp
  ·ac_rfl
  ·ac_rfl
  ·have:Xh a b k ^^^ dP a k ^^^ (Xh a c k ^^^ dP a k)=Xh a b k ^^^ Xh a c k ^^^ (dP a k ^^^ dP a k):=by ac_rfl
   rw [this,f,Nat.xor_zero]
theorem mul_left (a d b:Nat) (f:a < 256) (h:d < 256):mul (a ^^^ d) b=mul a b ^^^ mul d b:=T4 a d b f h 8
theorem mul_right (a b c:Nat):mul a (b ^^^ c)=mul a b ^^^ mul a c:=MK a b c 8
theorem mul_zero (a:Nat):mul a 0=0:=by simp [mul,Xh,bT]
theorem u0 (b k:Nat):Xh 0 b k=0:=by
 induction k with
 | zero=>rfl
 | succ k ih=>unfold Xh;rw [ih,NO];simp
theorem zero_mul (b:Nat):mul 0 b=0:=u0 b 8
theorem mul_one (a:Nat):mul a 1=a:=by simp [mul,Xh,bT,dP]
theorem one_mul:∀ b:Nat,b < 256->mul 1 b=b:=by decide +kernel
theorem s4 (a k:Nat):dP (tx a) k=tx (dP a k):=by
 induction k with
 | zero=>rfl
 | succ k ih=>show tx (dP (tx a) k)=_;rw [ih];rfl
theorem UU (a b:Nat) (d:a < 256) (k:Nat):Xh (tx a) b k=tx (Xh a b k):=by
 induction k with
 | zero=>exact C8.symm
 | succ k ih =>
  simp only [Xh]
  rw [ih,s4]
  split
  ·rw [GU _ _ (eF d b k) (cY d k)]
  ·rfl
theorem MZ (a b:Nat) (d:a < 256):mul (tx a) b=tx (mul a b):=UU a b d 8
theorem G6 (a b:Nat) (d:a < 256) (k:Nat):mul (dP a k) b=dP (mul a b) k:=by
 induction k with
 | zero=>rfl
 | succ k ih=>show mul (tx (dP a k)) b=tx (dP (mul a b) k);rw [MZ _ _ (cY d k),ih]
theorem MH:∀ b:Nat,b < 256->Xh 1 b 8=b:=one_mul
theorem O9 (a b:Nat) (d:a < 256) (k:Nat):mul (Xh 1 b k) a=Xh a b k:=by
 induction k with
 | zero=>exact zero_mul a
 | succ k ih =>
  simp only [Xh]
  split
  ·rw [mul_left _ _ _ (eF (by decide) b k) (cY (by decide) k),ih,G6 1 a (by decide) k,one_mul a d]
  ·exact ih
theorem mul_comm (a b:Nat) (d:a < 256) (f:b < 256):mul a b=mul b a:=by
 have h:=O9 a b d 8
 rw [MH b f] at h
 exact h.symm
theorem TP (a b c:Nat) (f:a < 256) (d:b < 256) (k:Nat):Xh (mul a b) c k=mul a (Xh b c k):=by
 induction k with
 | zero=>exact (mul_zero a).symm
 | succ k ih =>
  simp only [Xh]
  split
  ·rw [ih,mul_right,mul_comm a (dP b k) f (cY d k),G6 b a d k,mul_comm b a d f]
  ·exact ih
theorem mul_assoc (a b c:Nat) (d:a < 256) (f:b < 256):mul (mul a b) c=mul a (mul b c):=TP a b c d f 8
def sq (a:Nat):Nat->Nat
 | 0=>a
 | k+1=>mul (sq a k) (sq a k)
def pw (a n:Nat):Nat->Nat
 | 0=>1
 | k+1=>if bT n k=1 then mul (pw a n k) (sq a k) else pw a n k
def fM (a n:Nat):Nat:=pw a n 8
def inv (a:Nat):Nat:=fM a 254
theorem qI (h:a < 256) (k:Nat):sq a k < 256:=by
 induction k with
 | zero=>exact h
 | succ k ih=>exact aV ih _
theorem lL (n k:Nat):pw a n k < 256:=by
 induction k with
 | zero=>exact (by decide:(1:Nat) < 256)
 | succ k ih => unfold pw; split
                ·exact aV ih _
                ·exact ih
theorem PM (a n:Nat):fM a n < 256:=lL n 8
theorem cQ (a:Nat):inv a < 256:=PM a 254
set_option maxRecDepth 100000 in
theorem eG:∀ a:Nat,a < 256->a≠0->mul a (inv a)=1:=by decide +kernel
theorem inv_mul (a:Nat) (h:a < 256) (d:a≠0):mul (inv a) a=1:=by
 rw [mul_comm _ _ (cQ a) h];exact eG a h d
def bZ (a:Nat):Nat->Nat
 | 0=>1
 | n+1=>mul (bZ a n) a
end Gf
namespace Gf
def b3 (a b:Nat):Nat->Nat
 | 0=>0
 | k+1=>if bT b k=1 then b3 a b k ^^^ (a*2 ^ k) else b3 a b k
def wP (i n:Nat):Nat:=if bT n i=1 then n ^^^ (285*2 ^ (i - 8)) else n
def rr (n:Nat):Nat->Nat
 | 0=>n
 | j+1=>wP (14 - j) (rr n j)
def bR (n:Nat):Nat:=rr n 7 % 256
def p9 (a b:Nat):Nat:=bR (b3 a b 8)
theorem e4 {a:Nat} (h:a < 256) (b:Nat):∀ k,k<=8->b3 a b k < 2 ^ 15
 | 0,_=>by show 0 < 2 ^ 15;decide
 | k+1,hk=>by
  unfold b3
  have d:a*2 ^ k < 2 ^ 15:=by
   have f:2 ^ k<=2 ^ 7:=Nat.pow_le_pow_right (by decide) (by omega)
   have j:a*2 ^ k<=255*2 ^ 7:=Nat.mul_le_mul (by omega) f
   exact Nat.lt_of_le_of_lt j (by decide)
  split
  ·exact Nat.xor_lt_two_pow (e4 h b k (by omega)) d
  ·exact e4 h b k (by omega)
theorem RG (j:i<=14) (d:n < 2 ^ 15):wP i n < 2 ^ 15:=by
 unfold wP
 split
 ·refine Nat.xor_lt_two_pow d ?_
  have f:2 ^ (i - 8)<=2 ^ 6:=Nat.pow_le_pow_right (by decide) (by omega)
  have h:285*2 ^ (i - 8)<=285*2 ^ 6:=Nat.mul_le_mul (Nat.le_refl _) f
  exact Nat.lt_of_le_of_lt h (by decide)
 ·exact d
theorem sA {n:Nat} (d:n < 2 ^ 15):∀ j,rr n j < 2 ^ 15
 | 0=>d
 | j+1=>RG (by omega) (sA d j)
theorem nS (i x y:Nat):wP i (x ^^^ y)=wP i x ^^^ wP i y:=by
 unfold wP
 rw [j1]
 have f:∀ c:Nat,c ^^^ c=0:=Nat.xor_self
 rcases wL x i with h | h <;> rcases wL y i with d | d <;> rw [h,d] <;> simp
 ·ac_rfl
 ·ac_rfl
 ·have:x ^^^ 285*2 ^ (i - 8) ^^^ (y ^^^ 285*2 ^ (i - 8))=x ^^^ y ^^^ (285*2 ^ (i - 8) ^^^ 285*2 ^ (i - 8)):=by ac_rfl
  rw [this,f,Nat.xor_zero]
theorem e7 (x y:Nat):∀ j,rr (x ^^^ y) j=rr x j ^^^ rr y j
 | 0=>rfl
 | j+1=>by show wP _ (rr (x ^^^ y) j)=wP _ (rr x j) ^^^ wP _ (rr y j);rw [e7 x y j,nS]
theorem p6 (x y:Nat):bR (x ^^^ y)=bR x ^^^ bR y:=by
 unfold bR
 rw [e7]
 exact Nat.xor_mod_two_pow (n:=8)
theorem n4:(List.range 8).all (fun k=>(List.range 256).all fun a=>bR (a*2 ^ k)==dP a k)=true:=by decide +kernel
theorem pL (a k:Nat) (f:a < 256) (j:k < 8):bR (a*2 ^ k)=dP a k:=by
 have h:=List.all_eq_true.1 n4 k (List.mem_range.2 j)
 have d:=List.all_eq_true.1 h a (List.mem_range.2 f)
 simpa using d
theorem y8:bR 0=0:=by decide
theorem cA (a b:Nat) (d:a < 256):∀ k,k<=8->bR (b3 a b k)=Xh a b k
 | 0,_=>y8
 | k+1,hk=>by
  simp only [b3,Xh]
  split
  ·rw [p6,cA a b d k (by omega),pL a k d (by omega)]
  ·exact cA a b d k (by omega)
theorem LL (a b:Nat) (d:a < 256):p9 a b=mul a b:=cA a b d 8 (Nat.le_refl _)
theorem eN (a b:Nat) (f:a < 256) (j:b < 256) (o:a≠0) (h:mul a b=1):b=inv a:=by
 have d:mul (inv a) (mul a b)=mul (inv a) 1:=by rw [h]
 rw [<- mul_assoc (inv a) a b (cQ a) f,inv_mul a f o,mul_one,one_mul b j] at d
 exact d
theorem L1 (a:Nat) (d:a < 256) (f:a≠0):inv a≠0:=by
 intro h
 have:=eG a d f
 rw [h,mul_zero] at this
 exact absurd this (by decide)
theorem dV (a:Nat):∀ n,bZ a n < 256
 | 0=>by show 1 < 256;decide
 | n+1=>aV (dV a n) a
theorem zJ (a:Nat) (d:a < 256) (m:Nat):∀ n,bZ a (m+n)=mul (bZ a m) (bZ a n)
 | 0=>(mul_one _).symm
 | n+1=>by
  show mul (bZ a (m+n)) a=mul (bZ a m) (mul (bZ a n) a)
  rw [zJ a d m n,mul_assoc _ _ _ (dV a m) (dV a n)]
theorem GM (a:Nat) (d:a < 256):∀ k,sq a k=bZ a (2 ^ k)
 | 0=>by show a=mul 1 a;exact (one_mul a d).symm
 | k+1=>by
  show mul (sq a k) (sq a k)=bZ a (2 ^ (k+1))
  rw [GM a d k,<- zJ a d,Nat.pow_succ]
  congr 1;omega
theorem BB (n k:Nat):n % 2 ^ (k+1)=n % 2 ^ k+bT n k*2 ^ k:=by
 unfold bT
 rw [Nat.pow_succ,Nat.mod_mul]
 rw [Nat.mul_comm (2 ^ k)]
theorem BC (a n:Nat) (d:a < 256):∀ k,pw a n k=bZ a (n % 2 ^ k)
 | 0=>by show 1=bZ a (n % 1);rw [Nat.mod_one];rfl
 | k+1=>by
  simp only [pw]
  rw [BC a n d k,GM a d k,BB]
  rcases wL n k with h | h <;> rw [h] <;> simp
  rw [zJ a d]
theorem iG (a n:Nat) (d:a < 256) (f:n < 256):fM a n=bZ a n:=by
 have:=BC a n d 8
 rw [show n % 2 ^ 8=n from Nat.mod_eq_of_lt f] at this
 exact this
end Gf
namespace Gf
def horner (x:Nat):List Nat->Nat
 | []=>0
 | c :: r=>mul (horner x r) x ^^^ c
def nth (l:List Nat) (i:Nat):Nat:=l.getD i 0
def XY (d:List Nat) (i x:Nat):Nat->Nat
 | 0=>1
 | k+1=>if k=i then XY d i x k else mul (XY d i x k) (x ^^^ nth d k)
def aQ (d:List Nat) (i x:Nat):Nat:=mul (XY d i x d.length) (inv (XY d i (nth d i) d.length))
def fG (d f:List Nat) (x:Nat):Nat->Nat
 | 0=>0
 | k+1=>fG d f x k ^^^ mul (nth f k) (aQ d k x)
def Bytes (l:List Nat):Prop:=∀ i,nth l i < 256
theorem Bytes.tail {r:List Nat} (h:Bytes (c :: r)):Bytes r:=fun i=>by simpa [nth] using h (i+1)
theorem bF (x:Nat):∀ l:List Nat,Bytes l->horner x l < 256
 | [],_=>by show 0 < 256;decide
 | c :: r,h=>iK (aV (bF x r h.tail) x) (by simpa [nth] using h 0)
theorem Bytes.drop (h:Bytes l) (n:Nat):Bytes (l.drop n):=fun i=>by
 have:=h (n+i)
 simpa [nth,List.getD_eq_getElem?_getD,List.getElem?_drop] using this
theorem bX (d:List Nat) (i x:Nat):∀ k,XY d i x k < 256
 | 0=>by show 1 < 256;decide
 | k+1=>by
  unfold XY
  split
  ·exact bX d i x k
  ·exact aV (bX d i x k) _
theorem bL (d:List Nat) (i x:Nat):aQ d i x < 256:=aV (bX _ _ _ _) _
theorem gY (f d:List Nat) (x:Nat) (h:Bytes d):∀ k,fG f d x k < 256
 | 0=>by show 0 < 256;decide
 | k+1=>iK (gY f d x h k) (aV (h k) _)
theorem HK (l:List Nat) (i:Nat) (h:i < l.length):l.drop (l.length - (i+1))=nth l (l.length - 1 - i) :: l.drop (l.length - i):=by
 rw [List.drop_eq_getElem_cons (by omega),show l.length - (i+1)+1=l.length - i from by omega]
 congr 1
 unfold nth
 rw [List.getD_eq_getElem?_getD,List.getElem?_eq_getElem (by omega)]
 simp [show l.length - (i+1)=l.length - 1 - i from by omega]
theorem aK (l:List Nat) (k:Nat) (h:k < l.length):nth l k=l[k]:=by
 unfold nth;rw [List.getD_eq_getElem?_getD,List.getElem?_eq_getElem h];rfl
theorem PU (l:List Nat) (k:Nat) (h:k < l.length):l.take (k+1)=l.take k ++ [nth l k]:=by
 rw [List.take_succ_eq_append_getElem h,aK l k h]
theorem H2 (l:List Nat) (k:Nat) (h:k < l.length) (j:nth l k ∈ l.take k):¬ l.Nodup:=by
 intro f
 have d:(l.take (k+1)).Nodup:=f.sublist (List.take_sublist _ _)
 rw [PU l k h,List.nodup_append] at d
 exact d.2.2 _ j _ (List.mem_singleton.2 rfl) rfl
theorem D2 (l:List Nat) (k:Nat) (h:k < l.length) (j:(l.take k).Nodup) (o:nth l k ∉ l.take k):(l.take (k+1)).Nodup:=by
 rw [PU l k h,List.nodup_append]
 refine ⟨j,by simp,?_⟩
 intro a d b f e
 rw [List.mem_singleton] at f
 rw [e,f] at d
 exact o d
end Gf
namespace Gf
theorem p8:Bytes []:=fun i=>by simp [nth]
theorem oG {r:List Nat} (d:c < 256) (f:Bytes r):Bytes (c :: r):=fun i=>by
 cases i with
 | zero=>simpa [nth] using d
 | succ i=>simpa [nth] using f i
theorem BX {r:List Nat} (h:Bytes (c :: r)):c < 256:=by simpa [nth] using h 0
theorem S9 (a b c d:Nat):(a ^^^ b) ^^^ (c ^^^ d)=(a ^^^ c) ^^^ (b ^^^ d):=by ac_rfl
theorem dQ (h:a ^^^ b=0):a=b:=by
 have:(a ^^^ b) ^^^ b=b:=by rw [h,Nat.zero_xor]
 rw [Nat.xor_assoc,Nat.xor_self,Nat.xor_zero] at this
 exact this
theorem B0 (h:a≠b):a ^^^ b≠0:=fun e=>h (dQ e)
def j9:List Nat->List Nat->List Nat
 | [],b=>b
 | x :: a,[]=>x :: a
 | x :: a,y :: b=>(x ^^^ y) :: j9 a b
theorem sN:∀ a b:List Nat,Bytes a->Bytes b->Bytes (j9 a b)
 | [],_,_,hb=>hb
 | _ :: _,[],ha,_=>ha
 | _ :: a,_ :: b,ha,hb=>oG (iK (BX ha) (BX hb)) (sN a b ha.tail hb.tail)
theorem tO:∀ (a b:List Nat) (n:Nat),a.length<=n->b.length<=n->(j9 a b).length<=n
 | [],_,_,_,hb=>hb
 | _ :: _,[],_,ha,_=>ha
 | _ :: a,_ :: b,n,ha,hb=>by
  cases n with
  | zero=>simp at ha
  | succ n=>simp only [List.length_cons,Nat.add_le_add_iff_right] at ha hb;simp only [j9,List.length_cons,Nat.add_le_add_iff_right];exact tO a b n ha hb
theorem pO (x:Nat):∀ a b:List Nat,Bytes a->Bytes b->horner x (j9 a b)=horner x a ^^^ horner x b
 | [],b,_,_=>by show horner x b=0 ^^^ horner x b;rw [Nat.zero_xor]
 | c :: a,[],_,_=>by show horner x (c :: a)=horner x (c :: a) ^^^ 0;rw [Nat.xor_zero]
 | c :: a,d :: b,ha,hb=>by
  show mul (horner x (j9 a b)) x ^^^ (c ^^^ d)=(mul (horner x a) x ^^^ c) ^^^ (mul (horner x b) x ^^^ d)
  rw [pO x a b ha.tail hb.tail,mul_left _ _ _ (bF x a ha.tail) (bF x b hb.tail)]
  exact S9 _ _ _ _
def lR (c:Nat):List Nat->List Nat
 | []=>[]
 | d :: r=>mul c d :: lR c r
theorem pC {c:Nat} (f:c < 256):∀ l:List Nat,Bytes (lR c l)
 | []=>p8
 | d :: r=>oG (aV f d) (pC f r)
theorem yS (c:Nat):∀ l:List Nat,(lR c l).length=l.length
 | []=>rfl
 | _ :: r=>by simp [lR,yS c r]
theorem xM (c x:Nat) (f:c < 256):∀ l:List Nat,Bytes l->horner x (lR c l)=mul c (horner x l)
 | [],_=>(mul_zero c).symm
 | d :: r,h=>by
  show mul (horner x (lR c r)) x ^^^ mul c d=mul c (mul (horner x r) x ^^^ d)
  rw [xM c x f r h.tail,mul_right,mul_assoc c _ x f (bF x r h.tail)]
def pZ (l:List Nat) (c:Nat):List Nat:=j9 (0 :: l) (lR c l)
theorem VY  (h:Bytes l) (d:c < 256):Bytes (pZ l c):=sN _ _ (oG (by decide) h) (pC d l)
theorem E8  (h:l.length<=n):(pZ l c).length<=n+1:=tO _ _ _ (by simpa using h) (by rw [yS];omega)
theorem RW (l:List Nat) (c x:Nat) (h:Bytes l) (d:c < 256):horner x (pZ l c)=mul (horner x l) (x ^^^ c):=by
 unfold pZ
 rw [pO x _ _ (oG (by decide) h) (pC d l),xM c x d l h,mul_right,mul_comm c _ d (bF x l h)]
 show (mul (horner x l) x ^^^ 0) ^^^ _=_
 rw [Nat.xor_zero]
def kR (r:Nat):List Nat->List Nat
 | []=>[]
 | _ :: t=>match t with
  | []=>[]
  | _ :: _=>horner r t :: kR r t
theorem zS (r:Nat):∀ l:List Nat,Bytes l->Bytes (kR r l)
 | [],_=>p8
 | [_],_=>p8
 | _ :: d :: t,h=>oG (bF r _ h.tail) (zS r (d :: t) h.tail)
theorem IN (r:Nat):∀ (l:List Nat) (n:Nat),l.length<=n+1->(kR r l).length<=n
 | [],_,_=>Nat.zero_le _
 | [_],_,_=>Nat.zero_le _
 | _ :: d :: t,n,h=>by
  cases n with
  | zero=>simp at h
  | succ n =>
   have:=IN r (d :: t) n (by simpa using h)
   simpa [kR] using this
theorem EI (r x:Nat) (B:r < 256) (j:x < 256):∀ l:List Nat,Bytes l->horner x l=mul (horner x (kR r l)) (x ^^^ r) ^^^ horner r l
 | [],_=>by show 0=mul 0 _ ^^^ 0;rw [zero_mul];rfl
 | [c],_=>by show mul 0 x ^^^ c=mul 0 _ ^^^ (mul 0 r ^^^ c);rw [zero_mul,zero_mul,zero_mul];simp
 | c :: d :: t,h=>by
  have ih:=EI r x B j (d :: t) h.tail
  have f:=bF x _ (zS r (d :: t) h.tail)
  have o:=bF r _ h.tail
  show mul (horner x (d :: t)) x ^^^ c=mul (mul (horner x (kR r (d :: t))) x ^^^ horner r (d :: t)) (x ^^^ r) ^^^ (mul (horner r (d :: t)) r ^^^ c)
  rw [ih]
  generalize horner x (kR r (d :: t))=q at f
  generalize horner r (d :: t)=s at o
  have A:=iK j B
  rw [mul_left _ _ _ (aV f _) o,mul_left _ _ _ (aV f _) o,mul_assoc q _ x f A,mul_assoc q x _ f j,mul_comm (x ^^^ r) x A j,mul_right s x r]
  have e:mul s r ^^^ mul s r=0:=Nat.xor_self _
  have:mul q (mul x (x ^^^ r)) ^^^ (mul s x ^^^ mul s r) ^^^ (mul s r ^^^ c)=mul q (mul x (x ^^^ r)) ^^^ mul s x ^^^ c ^^^ (mul s r ^^^ mul s r):=by ac_rfl
  rw [this,e,Nat.xor_zero]
theorem D3 (j:a < 256) (f:b < 256) (o:b≠0) (h:mul a b=0):a=0:=by
 have d:mul (mul a b) (inv b)=a:=by rw [mul_assoc a b _ j f,eG b f o,mul_one]
 rw [h,zero_mul] at d
 exact d.symm
theorem BF:∀ (d l:List Nat),Bytes l->l.length<=d.length->d.Nodup->(∀ r ∈ d,r < 256/\horner r l=0)->∀ x,x < 256->horner x l=0
 | [],l,_,hlen,_,_,x,_=>by
  have:l=[]:=List.length_eq_zero_iff.1 (by simpa using hlen)
  rw [this];rfl
 | r :: d,l,hl,hlen,hn,hz,x,hx=>by
  have h:=hz r (List.mem_cons_self ..)
  have o:=zS r l hl
  have q:∀ y,y < 256->horner y l=mul (horner y (kR r l)) (y ^^^ r):=fun y A=>by
   rw [EI r y h.1 A l hl,h.2,Nat.xor_zero]
  have B:=BF d (kR r l) o (IN r l _ (by simpa using hlen)) (List.nodup_cons.1 hn).2 (fun s j=>by
   have f:=hz s (List.mem_cons_of_mem _ j)
   refine ⟨f.1,?_⟩
   have t:=q s f.1
   rw [f.2] at t
   refine D3 (bF s _ o) (iK f.1 h.1) (B0 ?_) t.symm
   intro e
   rw [e] at j
   exact (List.nodup_cons.1 hn).1 j) x hx
  rw [q x hx,B,zero_mul]
def bK (d:List Nat) (i:Nat):Nat->List Nat
 | 0=>[1]
 | k+1=>if k=i then bK d i k else pZ (bK d i k) (nth d k)
theorem bM (d:List Nat) (f:Bytes d) (i:Nat):∀ k,Bytes (bK d i k)
 | 0=>oG (by decide) p8
 | k+1=>by
  unfold bK
  split
  ·exact bM d f i k
  ·exact VY (bM d f i k) (f k)
theorem cC (d:List Nat) (i:Nat):∀ k,(bK d i k).length<=k+1 - (if i < k then 1 else 0)
 | 0=>by simp [bK]
 | k+1=>by
  have ih:=cC d i k
  unfold bK
  split
  ·rename_i e
   subst e
   rw [if_neg (Nat.lt_irrefl _)] at ih
   rw [if_pos (Nat.lt_succ_self _)]
   omega
  ·rename_i e
   by_cases h:i < k
   ·rw [if_pos h] at ih
    rw [if_pos (by omega)]
    have:=E8 (c:=nth d k) ih
    omega
   ·rw [if_neg h] at ih
    rw [if_neg (by omega)]
    have:=E8 (c:=nth d k) ih
    omega
theorem bH (d:List Nat) (f:Bytes d) (i x:Nat):∀ k,horner x (bK d i k)=XY d i x k
 | 0=>by show mul 0 x ^^^ 1=1;rw [zero_mul];rfl
 | k+1=>by
  unfold bK XY
  split
  ·exact bH d f i x k
  ·rw [RW _ _ _ (bM d f i k) (f k),bH d f i x k]
def wV (d f:List Nat) (k:Nat):Nat:=mul (nth f k) (inv (XY d k (nth d k) d.length))
def rK (d f:List Nat):Nat->List Nat
 | 0=>[]
 | k+1=>j9 (rK d f k) (lR (wV d f k) (bK d k d.length))
theorem xZ (f d:List Nat) (h:Bytes d) (k:Nat):wV f d k < 256:=aV (h k) _
theorem wB (f d:List Nat) (h:Bytes d):∀ k,Bytes (rK f d k)
 | 0=>p8
 | k+1=>sN _ _ (wB f d h k) (pC (xZ f d h k) _)
theorem AG (d f:List Nat):∀ k,k<=d.length->(rK d f k).length<=d.length
 | 0,_=>Nat.zero_le _
 | k+1,h=>by
  refine tO _ _ _ (AG d f k (by omega)) ?_
  rw [yS]
  have:=cC d k d.length
  rw [if_pos (by omega)] at this
  omega
theorem x9 (d f:List Nat) (j:Bytes d) (h:Bytes f) (x:Nat):∀ k,horner x (rK d f k)=fG d f x k
 | 0=>rfl
 | k+1=>by
  show horner x (j9 _ _)=fG d f x k ^^^ mul (nth f k) (aQ d k x)
  rw [pO x _ _ (wB d f h k) (pC (xZ d f h k) _),x9 d f j h x k,xM _ x (xZ d f h k) _ (bM d j k _),bH d j k x]
  unfold wV aQ
  rw [mul_assoc _ _ _ (h k) (cQ _),mul_comm (inv _) _ (cQ _) (bX _ _ _ _)]
theorem cJ (d:List Nat) (i j:Nat) (f:j≠i):∀ k,j < k->XY d i (nth d j) k=0
 | 0,h=>absurd h (Nat.not_lt_zero _)
 | k+1,h=>by
  unfold XY
  split
  ·rename_i e
   exact cJ d i j f k (by omega)
  ·by_cases e:j=k
   ·subst e
    rw [Nat.xor_self,mul_zero]
   ·rw [cJ d i j f k (by omega),zero_mul]
theorem M0 (d:List Nat) (t:d.Nodup) (o:i < d.length) (q:j < d.length) (h:nth d i=nth d j):i=j:=by
 rw [aK d i o,aK d j q] at h
 have s:=List.pairwise_iff_getElem.1 t
 rcases Nat.lt_trichotomy i j with f | f | f
 ·exact absurd h (s i j o q f)
 ·exact f
 ·exact absurd h.symm (s j i q o f)
theorem VI (d:a < 256) (f:b < 256) (j:a≠0) (o:b≠0):mul a b≠0:=fun h=>j (D3 d f o h)
theorem dG (d:List Nat) (f:Bytes d) (j:d.Nodup) (i:Nat) (o:i < d.length):∀ k,k<=d.length->XY d i (nth d i) k≠0
 | 0,_=>by show (1:Nat)≠0;decide
 | k+1,h=>by
  unfold XY
  split
  ·exact dG d f j i o k (by omega)
  ·rename_i e
   exact VI (bX _ _ _ _) (iK (f i) (f k)) (dG d f j i o k (by omega)) (B0 fun q=>e (M0 d j (by omega) o q.symm))
theorem k5 (d:List Nat) (f:Bytes d) (h:d.Nodup) (i:Nat) (j:i < d.length):aQ d i (nth d i)=1 :=
 eG _ (bX _ _ _ _) (dG d f h i j _ (Nat.le_refl _))
theorem W4 (d:List Nat) (i j:Nat) (f:j < d.length) (h:j≠i):aQ d i (nth d j)=0:=by
 unfold aQ
 rw [cJ d i j h _ f,zero_mul]
theorem CA (d f:List Nat) (s:Bytes d) (t:d.Nodup) (j:Nat) (o:j < d.length):∀ k,k<=d.length->fG d f (nth d j) k=if j < k then nth f j else 0
 | 0,_=>by rw [if_neg (Nat.not_lt_zero _)];rfl
 | k+1,h=>by
  unfold fG
  rw [CA d f s t j o k (by omega)]
  by_cases e:j=k
  ·subst e
   rw [if_neg (Nat.lt_irrefl _),if_pos (Nat.lt_succ_self _),k5 d s t j o,mul_one,Nat.zero_xor]
  ·rw [W4 d k j o e,mul_zero,Nat.xor_zero]
   by_cases q:j < k
   ·rw [if_pos q,if_pos (by omega)]
   ·rw [if_neg q,if_neg (by omega)]
theorem through (p d f:List Nat) (s:Bytes p) (o:Bytes d) (t:Bytes f) (B:d.Nodup) (G:p.length<=d.length) (H:∀ j,j < d.length->nth f j=horner (nth d j) p) (x:Nat) (I:x < 256) :
 fG d f x d.length=horner x p:=by
 have q:=wB d f t d.length
 have A:=BF d (j9 (rK d f d.length) p) (sN _ _ q s) (tO _ _ _ (AG d f _ (Nat.le_refl _)) G) B (fun r D=>by
  obtain ⟨j,h,rfl⟩:=List.getElem_of_mem D
  rw [<- aK d j h]
  refine ⟨o j,?_⟩
  rw [pO _ _ _ q s,x9 d f o t,CA d f o B j h _ (Nat.le_refl _),if_pos h,H j h,Nat.xor_self]) x I
 rw [pO x _ _ q s,x9 d f o t] at A
 exact dQ A
end Gf
namespace Gf
def gQ (l:List Nat) (x:Nat):Nat->Nat
 | 0=>0
 | k+1=>gQ l x k ^^^ mul (nth l k) (bZ x k)
theorem iA (l:List Nat) (x:Nat) (h:Bytes l):∀ k,gQ l x k < 256
 | 0=>by show 0 < 256;decide
 | k+1=>iK (iA l x h k) (aV (h k) _)
theorem CD (x c:Nat) (j:x < 256) (f:c < 256):∀ l:List Nat,Bytes l->horner x (l ++ [c])=horner x l ^^^ mul c (bZ x l.length)
 | [],_=>by show mul 0 x ^^^ c=0 ^^^ mul c 1;rw [zero_mul,mul_one]
 | d :: r,h=>by
  show mul (horner x (r ++ [c])) x ^^^ d=(mul (horner x r) x ^^^ d) ^^^ mul c (mul (bZ x r.length) x)
  rw [CD x c j f r h.tail,mul_left _ _ _ (bF x r h.tail) (aV f _),mul_assoc c _ x f (dV x _)]
  ac_rfl
theorem o5 (h:Bytes l) (k:Nat):Bytes (l.take k):=fun i=>by
 by_cases d:i < k
 ·have:=h i
  simpa [nth,List.getD_eq_getElem?_getD,List.getElem?_take,d] using this
 ·simp [nth,List.getD_eq_getElem?_getD,List.getElem?_take,d]
theorem KQ (l:List Nat) (x:Nat) (d:x < 256) (h:Bytes l):∀ k,k<=l.length->gQ l x k=horner x (l.take k)
 | 0,_=>by simp [gQ,horner]
 | k+1,hk=>by
  rw [PU l k (by omega),CD x _ d (h k) _ (o5 h k),<- KQ l x d h k (by omega)]
  show _ ^^^ _=_
  rw [List.length_take,Nat.min_eq_left (by omega)]
theorem jL (l:List Nat) (x:Nat) (d:x < 256) (h:Bytes l):gQ l x l.length=horner x l:=by
 rw [KQ l x d h _ (Nat.le_refl _),List.take_length]
theorem p5 (a b:Nat) (f:a < 256) (d:b < 256) (h:a≠0) (j:b≠0):inv (mul a b)=mul (inv a) (inv b):=by
 symm
 refine eN (mul a b) _ (aV f b) (aV (cQ a) _) (VI f d h j) ?_
 rw [mul_assoc a b _ f d,<- mul_assoc b (inv a) _ d (cQ a),mul_comm b (inv a) d (cQ a),mul_assoc (inv a) b _ (cQ a) d,eG b d j,mul_one,eG a f h]
def b0 (d:List Nat) (i x:Nat):Nat->Nat
 | 0=>1
 | k+1=>if k=i then b0 d i x k else mul (b0 d i x k) (mul (x ^^^ nth d k) (inv (nth d i ^^^ nth d k)))
theorem hF (d:List Nat) (i x:Nat):∀ k,b0 d i x k < 256
 | 0=>by show 1 < 256;decide
 | k+1=>by
  unfold b0
  split
  ·exact hF d i x k
  ·exact aV (hF d i x k) _
theorem o0 (a b c d:Nat) (j:a < 256) (f:b < 256) (h:c < 256):mul (mul a b) (mul c d)=mul (mul a c) (mul b d):=by
 rw [mul_assoc a b _ j f,<- mul_assoc b c d f h,mul_comm b c f h,mul_assoc c b d h f,<- mul_assoc a c _ j h]
theorem y5:inv 1=1:=by decide +kernel
theorem e5 (d:List Nat) (f:Bytes d) (h:d.Nodup) (i x:Nat) (j:i < d.length) (o:x < 256):∀ k,k<=d.length->b0 d i x k=mul (XY d i x k) (inv (XY d i (nth d i) k))
 | 0,_=>by show 1=mul 1 (inv 1);rw [y5,mul_one]
 | k+1,hk=>by
  have ih:=e5 d f h i x j o k (by omega)
  unfold b0 XY
  by_cases e:k=i
  ·rw [if_pos e,if_pos e,if_pos e];exact ih
  ·rw [if_neg e,if_neg e,if_neg e,ih]
   have q:=dG d f h i j k (by omega)
   have s:nth d i ^^^ nth d k≠0:=B0 fun t=>e (M0 d h (by omega) j t.symm)
   rw [p5 _ _ (bX _ _ _ _) (iK (f i) (f k)) q s]
   exact o0 _ _ _ _ (bX _ _ _ _) (cQ _) (iK o (f k))
theorem O4 (d:List Nat) (f:Bytes d) (h:d.Nodup) (i x:Nat) (j:i < d.length) (o:x < 256):b0 d i x d.length=aQ d i x:=e5 d f h i x j o _ (Nat.le_refl _)
end Gf
namespace Lin
abbrev F:=Fin 256
def ad (a b:F):F:=⟨a.1 ^^^ b.1,Gf.iK a.2 b.2⟩
def mu (a b:F):F:=⟨Gf.mul a.1 b.1,Gf.aV a.2 _⟩
def iv (a:F):F:=⟨Gf.inv a.1,Gf.cQ _⟩
theorem uV (a b:F):ad a b=ad b a:=Fin.ext (Nat.xor_comm _ _)
theorem oO (a b c:F):ad (ad a b) c=ad a (ad b c):=Fin.ext (Nat.xor_assoc _ _ _)
theorem cF (a:F):ad a 0=a:=Fin.ext (Nat.xor_zero _)
theorem AN (a:F):ad 0 a=a:=Fin.ext (Nat.zero_xor _)
theorem uG (a:F):ad a a=0:=Fin.ext (Nat.xor_self _)
theorem wR {a b:F} (h:ad a b=0):a=b:=Fin.ext (Gf.dQ (congrArg Fin.val h))
theorem TK (a b c:F):ad a (ad b c)=ad b (ad a c):=by rw [<- oO,uV a b,oO]
theorem s9 (a b c d:F):ad (ad a b) (ad c d)=ad (ad a c) (ad b d):=by rw [oO,TK b c d,<- oO]
theorem RC (a b:F):ad a (ad a b)=b:=by rw [<- oO,uG,AN]
theorem cR (a b:F):mu a b=mu b a:=Fin.ext (Gf.mul_comm _ _ a.2 b.2)
theorem aT (a b c:F):mu (mu a b) c=mu a (mu b c):=Fin.ext (Gf.mul_assoc _ _ _ a.2 b.2)
theorem C6 (a b c:F):mu a (ad b c)=ad (mu a b) (mu a c):=Fin.ext (Gf.mul_right _ _ _)
theorem vR (a b c:F):mu (ad a b) c=ad (mu a c) (mu b c):=Fin.ext (Gf.mul_left _ _ _ a.2 b.2)
theorem bN (a:F):mu a 0=0:=Fin.ext (Gf.mul_zero a.1)
theorem cT (a:F):mu 0 a=0:=Fin.ext (Gf.zero_mul a.1)
theorem oY (a:F):mu a 1=a:=Fin.ext (Gf.mul_one a.1)
theorem dU (a:F):mu 1 a=a:=by rw [cR,oY]
theorem yW (a:F) (h:a≠0):mu a (iv a)=1:=Fin.ext (Gf.eG a.1 a.2 (fun e=>h (Fin.ext e)))
theorem rX (a:F) (h:a≠0):mu (iv a) a=1:=by rw [cR,yW a h]
theorem G5:(1:F)≠0:=by decide
theorem lS {a b:F} (d:a≠0) (f:b≠0):mu a b≠0:=fun h=>d (by
 have:mu (mu a b) (iv b)=a:=by rw [aT,yW b f,oY]
 rw [h,cT] at this
 exact this.symm)
def aL:Nat->(Nat->F)->F
 | 0,_=>0
 | k+1,f=>ad (aL k f) (f k)
theorem aH {f g:Nat->F}:∀ {k:Nat},(∀ i,i < k->f i=g i)->aL k f=aL k g
 | 0,_=>rfl
 | k+1,h=>by show ad _ _=ad _ _;rw [aH (fun i d=>h i (by omega)),h k (by omega)]
theorem bS {f:Nat->F}:∀ {k:Nat},(∀ i,i < k->f i=0)->aL k f=0
 | 0,_=>rfl
 | k+1,h=>by show ad _ _=0;rw [bS (fun i d=>h i (by omega)),h k (by omega),cF]
theorem oT (f g:Nat->F):∀ k,aL k (fun i=>ad (f i) (g i))=ad (aL k f) (aL k g)
 | 0=>(cF 0).symm
 | k+1=>by show ad _ _=ad (ad _ _) (ad _ _);rw [oT f g k,s9]
theorem bJ (c:F) (f:Nat->F):∀ k,aL k (fun i=>mu c (f i))=mu c (aL k f)
 | 0=>(bN c).symm
 | k+1=>by show ad _ _=mu c (ad _ _);rw [bJ c f k,C6]
theorem Z4 (c:F) (f:Nat->F) (k:Nat):aL k (fun i=>mu (f i) c)=mu (aL k f) c:=by
 rw [cR,<- bJ]
 exact aH fun i _=>cR _ _
theorem bW (f:Nat->Nat->F) (l:Nat):∀ k,aL k (fun i=>aL l (fun j=>f i j))=aL l (fun j=>aL k (fun i=>f i j))
 | 0=>(bS fun _ _=>rfl).symm
 | k+1=>by
  show ad (aL k _) (aL l _)=_
  rw [bW f l k,<- oT]
  rfl
theorem b9 (p:Nat) (f:Nat->F):∀ k,p < k->(∀ i,i < k->i≠p->f i=0)->aL k f=f p
 | 0,h,_=>absurd h (Nat.not_lt_zero _)
 | k+1,h,hz=>by
  show ad (aL k f) (f k)=f p
  by_cases e:p=k
  ·subst e
   rw [bS (fun i d=>hz i (by omega) (by omega)),AN]
  ·rw [b9 p f k (by omega) (fun i d=>hz i (by omega)),hz k (by omega) (fun j=>e j.symm),cF]
def skip (p i:Nat):Nat:=if i < p then i else i+1
theorem O7 (p i:Nat):skip p i≠p:=by unfold skip;split <;> omega
theorem MQ (h:i < k):skip p i < k+1:=by unfold skip;split <;> omega
theorem sY (p:Nat) (f:Nat->F):∀ k,p < k+1->aL (k+1) f=ad (f p) (aL k (fun i=>f (skip p i)))
 | 0,h=>by
  obtain rfl:p=0:=by omega
  show ad 0 (f 0)=ad (f 0) 0
  rw [AN,cF]
 | k+1,h=>by
  by_cases e:p=k+1
  ·subst e
   show ad (aL (k+1) f) (f (k+1))=_
   rw [uV]
   congr 1
   exact aH fun i d=>by unfold skip;rw [if_pos d]
  ·show ad (aL (k+1) f) (f (k+1))=ad (f p) (ad (aL k fun i=>f (skip p i)) (f (skip p k)))
   rw [sY p f k (by omega),show skip p k=k+1 from by unfold skip;rw [if_neg (by omega)],oO]
theorem uW:∀ (s r:Nat),s < r->∀ a:Nat->Nat->F,∃ c:Nat->F,(∃ i,i < r/\c i≠0)/\∀ j,j < s->aL r (fun i=>mu (c i) (a i j))=0
 | 0,r,h,_=>⟨fun _=>1,⟨0,h,G5⟩,fun j f=>absurd f (Nat.not_lt_zero _)⟩
 | s+1,r,h,a=>by
  by_cases A:∃ p,p < r/\a p s≠0
  ·obtain ⟨p,G,H⟩:=A
   obtain ⟨k,rfl⟩:∃ k,r=k+1:=⟨r - 1,by omega⟩
   obtain ⟨c,⟨B,I,o⟩,q⟩:=uW s k (by omega) (fun i j=>ad (a (skip p i) j) (mu (mu (a (skip p i) s) (iv (a p s))) (a p j)))
   let cp:F:=aL k (fun i=>mu (c i) (mu (a (skip p i) s) (iv (a p s))))
   let d:Nat->F:=fun i=>if i=p then cp else c (if i < p then i else i - 1)
   have J:d p=cp:=if_pos rfl
   have D:∀ i,d (skip p i)=c i:=by
    intro i
    show (if skip p i=p then cp else _)=_
    rw [if_neg (O7 p i)]
    congr 1
    by_cases t:i < p
    ·rw [show skip p i=i from if_pos t,if_pos t]
    ·rw [show skip p i=i+1 from if_neg t,if_neg (by omega)];omega
   have K:∀ j,aL (k+1) (fun i=>mu (d i) (a i j))=aL k (fun i=>mu (c i) (ad (a (skip p i) j) (mu (mu (a (skip p i) s) (iv (a p s))) (a p j)))):=by
    intro j
    rw [sY p _ k G,J]
    have L:aL k (fun i=>mu (d (skip p i)) (a (skip p i) j))=aL k (fun i=>mu (c i) (a (skip p i) j)):=aH fun i _=>by rw [D i]
    have M:mu cp (a p j)=aL k (fun i=>mu (c i) (mu (mu (a (skip p i) s) (iv (a p s))) (a p j))):=by
     show mu (aL k _) (a p j)=_
     rw [<- Z4]
     exact aH fun i _=>by rw [aT,aT]
    rw [L,M,uV,<- oT]
    exact aH fun i _=>by rw [C6]
   refine ⟨d,⟨skip p B,MQ I,by rw [D B];exact o⟩,fun j f=>?_⟩
   rw [K j]
   by_cases e:j=s
   ·subst e
    refine bS fun i _=>?_
    rw [aT (a (skip p i) j),rX _ H,oY,uG,bN]
   ·exact q j (by omega)
  ·obtain ⟨c,o,q⟩:=uW s r (by omega) a
   refine ⟨c,o,fun j f=>?_⟩
   by_cases e:j=s
   ·subst e
    refine bS fun i N=>?_
    have:a i j=0:=Classical.byContradiction fun O=>A ⟨i,N,O⟩
    rw [this,bN]
   ·exact q j (by omega)
def Zu (n k:Nat) (v:Nat->Nat->F) (u:Nat->F):Prop:=∃ c:Nat->F,∀ j,j < n->u j=aL k (fun i=>mu (c i) (v i j))
def dD (n k:Nat) (v:Nat->Nat->F):Prop:=∀ c:Nat->F,(∀ j,j < n->aL k (fun i=>mu (c i) (v i j))=0)->∀ i,i < k->c i=0
theorem vJ {u v:Nat->Nat->F} (h:∀ i,i < r->Zu n s v (u i)):∃ a:Nat->Nat->F,∀ i,i < r->∀ j,j < n->u i j=aL s (fun l=>mu (a i l) (v l j)):=by
 have f:∀ i,∃ c:Nat->F,i < r->∀ j,j < n->u i j=aL s (fun l=>mu (c l) (v l j)):=fun i=>by
  by_cases d:i < r
  ·obtain ⟨c,o⟩:=h i d
   exact ⟨c,fun _=>o⟩
  ·exact ⟨fun _=>0,fun h=>absurd h d⟩
 exact ⟨fun i=>Classical.choose (f i),fun i d=>Classical.choose_spec (f i) d⟩
theorem wE {u v:Nat->Nat->F} (H:dD n r u) (h:∀ i,i < r->Zu n s v (u i)):r<=s:=by
 refine Classical.byContradiction fun I=>?_
 obtain ⟨a,d⟩:=vJ h
 obtain ⟨c,⟨f,o,q⟩,t⟩:=uW s r (by omega) a
 refine q (H c (fun j A=>?_) f o)
 have B:aL r (fun i=>mu (c i) (u i j))=aL r (fun i=>aL s (fun l=>mu (mu (c i) (a i l)) (v l j))):=aH fun i D=>by
  rw [d i D j A,<- bJ]
  exact aH fun l _=>(aT _ _ _).symm
 rw [B,bW]
 refine bS fun l G=>?_
 rw [Z4,t l G,cT]
theorem UF {v:Nat->Nat->F} (at_:Nat->Nat) (B:∀ i,i < k->at_ i < n) (D:∀ i,i < k->v i (at_ i)≠0) (G:∀ i j,i < j->j < k->v j (at_ i)=0):dD n k v:=by
 intro c s
 have t:∀ m,∀ i,i < m->i < k->c i=0:=by
  intro m
  induction m with
  | zero=>intro i d;exact absurd d (Nat.not_lt_zero _)
  | succ m ih =>
   intro i d f
   by_cases e:i < m
   ·exact ih i e f
   ·obtain rfl:i=m:=by omega
    have o:=s (at_ i) (B i f)
    rw [b9 i _ k f] at o
    ·refine Classical.byContradiction fun h=>lS h (D i f) o
    ·intro j q H
     by_cases A:j < i
     ·rw [ih j A q,cT]
     ·rw [G i j (by omega) q,bN]
 exact fun i d=>t k i d d
def cL (n k:Nat) (v:Nat->Nat->F) (r:Nat):Prop:=∃ b:Nat->Nat->F,dD n r b/\(∀ i,i < r->Zu n k v (b i))/\∀ i,i < k->Zu n r b (v i)
theorem nM {l:Nat} {v w:Nat->Nat->F} {u:Nat->F} (s:Zu n k v u) (t:∀ i,i < k->Zu n l w (v i)):Zu n l w u:=by
 obtain ⟨c,f⟩:=s
 obtain ⟨a,h⟩:=vJ t
 refine ⟨fun m=>aL k (fun i=>mu (c i) (a i m)),fun j d=>?_⟩
 rw [f j d]
 have o:aL k (fun i=>mu (c i) (v i j))=aL k (fun i=>aL l (fun m=>mu (mu (c i) (a i m)) (w m j))):=aH fun i q=>by
  rw [h i q j d,<- bJ]
  exact aH fun m _=>(aT _ _ _).symm
 rw [o,bW]
 exact aH fun m _=>Z4 _ _ _
theorem aU (v:Nat->Nat->F) (f:i < k):Zu n k v (v i) :=
 ⟨fun j=>if j=i then 1 else 0,fun j _=>by
  rw [b9 i _ k f]
  ·show v i j=mu (if i=i then 1 else 0) (v i j);rw [if_pos rfl,dU]
  ·intro l _ d;show mu (if l=i then 1 else 0) (v l j)=0;rw [if_neg d,cT]⟩
theorem a7 {l:Nat} {v:Nat->Nat->F} {u:Nat->F} (h:Zu n k v u) (f:k<=l):Zu n l v u :=
 nM h fun _ d=>aU v (by omega)
theorem HQ (n k:Nat) (v:Nat->Nat->F):Zu n k v (fun _=>0):=⟨fun _=>0,fun _ _=>(bS fun _ _=>cT _).symm⟩
theorem G7 {v:Nat->Nat->F} {x y:Nat->F} (q:Zu n k v x) (s:Zu n k v y):Zu n k v (fun j=>ad (x j) (y j)):=by
 obtain ⟨c,h⟩:=q
 obtain ⟨d,o⟩:=s
 refine ⟨fun i=>ad (c i) (d i),fun j f=>?_⟩
 show ad (x j) (y j)=_
 rw [h j f,o j f,<- oT]
 exact aH fun i _=>(vR _ _ _).symm
theorem xF {v:Nat->Nat->F} {x:Nat->F} (h:Zu n k v x) (a:F):Zu n k v (fun j=>mu a (x j)):=by
 obtain ⟨c,d⟩:=h
 refine ⟨fun i=>mu a (c i),fun j f=>?_⟩
 show mu a (x j)=_
 rw [d j f,<- bJ]
 exact aH fun i _=>(aT _ _ _).symm
theorem aX {v w:Nat->Nat->F} {x y:Nat->F} (h:Zu n k v x) (q:∀ i,i < k->∀ j,j < n->v i j=w i j) (s:∀ j,j < n->x j=y j):Zu n k w y:=by
 obtain ⟨c,f⟩:=h
 exact ⟨c,fun j d=>by rw [<- s j d,f j d];exact aH fun i o=>by rw [q i o j d]⟩
theorem dY {v:Nat->Nat->F} (B:cL n k v r) (D:cL n k v s):r=s:=by
 obtain ⟨b,h,j,o⟩:=B
 obtain ⟨d,q,t,A⟩:=D
 exact Nat.le_antisymm (wE h fun i f=>nM (j i f) A) (wE q fun i f=>nM (t i f) o)
def mm (n:Nat) (a b:Nat->Nat->F):Nat->Nat->F:=fun i j=>aL n (fun k=>mu (a i k) (b k j))
def one:Nat->Nat->F:=fun i j=>if i=j then 1 else 0
theorem cN (n l:Nat) (a b c:Nat->Nat->F) (i j:Nat):mm l (mm n a b) c i j=mm n a (mm l b c) i j:=by
 show aL l (fun m=>mu (aL n (fun k=>mu (a i k) (b k m))) (c m j))=aL n (fun k=>mu (a i k) (aL l (fun m=>mu (b k m) (c m j))))
 have d:aL l (fun m=>mu (aL n (fun k=>mu (a i k) (b k m))) (c m j))=aL l (fun m=>aL n (fun k=>mu (mu (a i k) (b k m)) (c m j))):=aH fun m _=>(Z4 _ _ _).symm
 have f:aL n (fun k=>mu (a i k) (aL l (fun m=>mu (b k m) (c m j))))=aL n (fun k=>aL l (fun m=>mu (mu (a i k) (b k m)) (c m j))):=aH fun k _=>by
  rw [<- bJ]
  exact aH fun m _=>(aT _ _ _).symm
 rw [d,f,bW]
theorem fK (n:Nat) (a:Nat->Nat->F) (i j:Nat) (f:j < n):mm n a one i j=a i j:=by
 show aL n (fun k=>mu (a i k) (one k j))=_
 rw [b9 j _ n f]
 ·show mu (a i j) (if j=j then 1 else 0)=_
  rw [if_pos rfl,oY]
 ·intro k _ d;show mu (a i k) (if k=j then 1 else 0)=0;rw [if_neg d,bN]
theorem fJ (n:Nat) (a:Nat->Nat->F) (i j:Nat) (f:i < n):mm n one a i j=a i j:=by
 show aL n (fun k=>mu (one i k) (a k j))=_
 rw [b9 i _ n f]
 ·show mu (if i=i then 1 else 0) (a i j)=_
  rw [if_pos rfl,dU]
 ·intro k _ d;show mu (if i=k then 1 else 0) (a k j)=0;rw [if_neg (fun e=>d e.symm),cT]
theorem bQ (n:Nat) {a b c d:Nat->Nat->F} (h:∀ k,k < n->a i k=c i k) (o:∀ k,k < n->b k j=d k j):mm n a b i j=mm n c d i j:=aH fun k f=>by rw [h k f,o k f]
theorem SR (n:Nat):dD n n one:=UF (fun i=>i) (fun _ h=>h) (fun i _=>by show (if i=i then (1:F) else 0)≠0;rw [if_pos rfl];exact G5) (fun i j d _=>by show (if j=i then (1:F) else 0)=0;rw [if_neg (by omega)])
theorem HJ (n:Nat) (u:Nat->F):Zu n n one u:=⟨u,fun j d=>by
 rw [b9 j _ n d]
 ·show u j=mu (u j) (if j=j then 1 else 0);rw [if_pos rfl,oY]
 ·intro k _ f;show mu (u k) (if k=j then 1 else 0)=0;rw [if_neg f,bN]⟩
theorem SU {v:Nat->Nat->F} (H:dD n n v) (u:Nat->F):Zu n n v u:=by
 obtain ⟨c,⟨f,I,s⟩,t⟩:=uW n (n+1) (by omega) (fun i=>if i < n then v i else u)
 have q:∀ j,j < n->ad (aL n (fun i=>mu (c i) (v i j))) (mu (c n) (u j))=0:=by
  intro j d
  have h:=t j d
  have e:aL (n+1) (fun i=>mu (c i) ((if i < n then v i else u) j))=ad (aL n (fun i=>mu (c i) (v i j))) (mu (c n) (u j)):=by
   show ad (aL n _) (mu (c n) ((if n < n then v n else u) j))=_
   rw [if_neg (Nat.lt_irrefl n)]
   congr 1
   exact aH fun i A=>by rw [if_pos A]
  rw [e] at h
  exact h
 by_cases o:c n=0
 ·exfalso
  refine s ?_
  have B:=H c (fun j d=>by have:=q j d;rw [o,cT,cF] at this;exact this)
  by_cases e:f < n
  ·exact B f e
  ·obtain rfl:f=n:=by omega
   exact o
 ·refine ⟨fun i=>mu (iv (c n)) (c i),fun j d=>?_⟩
  have D:=wR (q j d)
  have G:aL n (fun i=>mu (mu (iv (c n)) (c i)) (v i j))=mu (iv (c n)) (aL n (fun i=>mu (c i) (v i j))):=by
   rw [<- bJ]
   exact aH fun i _=>aT _ _ _
  rw [G,D,<- aT,rX _ o,dU]
theorem LN {x m:Nat->Nat->F} (h:∀ i j,i < n->j < n->mm n x m i j=one i j):dD n n m:=by
 intro c s
 refine Classical.byContradiction fun t=>?_
 have ⟨p,hp⟩:∃ p,p < n/\c p≠0:=Classical.byContradiction fun A=>t fun i d=>Classical.byContradiction fun B=>A ⟨i,d,B⟩
 obtain ⟨f,D⟩:=hp
 obtain ⟨k,rfl⟩:∃ k,n=k+1:=⟨n - 1,by omega⟩
 have G:∀ i,i < k+1->Zu (k+1) k (fun i=>m (skip p i)) (one i):=by
  intro i d
  refine ⟨fun l=>ad (x i (skip p l)) (mu (x i p) (mu (iv (c p)) (c (skip p l)))),fun j o=>?_⟩
  have H:=h i j d o
  rw [<- H]
  show aL (k+1) (fun l=>mu (x i l) (m l j))=_
  rw [sY p _ k f]
  have q:=s j o
  rw [sY p _ k f] at q
  have I:m p j=mu (iv (c p)) (aL k (fun l=>mu (c (skip p l)) (m (skip p l) j))):=by
   rw [<- wR q,<- aT,rX _ D,dU]
  have J:aL k (fun l=>mu (ad (x i (skip p l)) (mu (x i p) (mu (iv (c p)) (c (skip p l))))) (m (skip p l) j))=ad (aL k (fun l=>mu (x i (skip p l)) (m (skip p l) j))) (mu (x i p) (mu (iv (c p)) (aL k (fun l=>mu (c (skip p l)) (m (skip p l) j))))):=by
   rw [<- bJ,<- bJ,<- oT]
   exact aH fun l _=>by rw [vR,aT,aT]
  rw [J,<- I,uV]
 have:=wE (SR (k+1)) G
 omega
theorem cK {x m:Nat->Nat->F} (h:∀ i j,i < n->j < n->mm n x m i j=one i j):∀ i j,i < n->j < n->mm n m x i j=one i j:=by
 have f:=LN h
 intro i j o q
 have s:=f (fun k=>ad (mm n m x i k) (one i k)) (fun l d=>by
  have t:aL n (fun k=>mu (ad (mm n m x i k) (one i k)) (m k l))=ad (mm n (mm n m x) m i l) (mm n one m i l):=by
   show _=ad (aL n _) (aL n _)
   rw [<- oT]
   exact aH fun k _=>vR _ _ _
  have A:mm n (mm n m x) m i l=m i l:=by
   rw [cN]
   show aL n (fun k=>mu (m i k) (mm n x m k l))=_
   rw [aH (g:=fun k=>mu (m i k) (one k l)) fun k B=>by rw [h k l B d]]
   exact fK n m i l d
  rw [t,A,fJ n m i l o,uG]) j q
 exact wR s
theorem dR {m:Nat->Nat->F} (h:dD n n m):∃ x:Nat->Nat->F,∀ i j,i < n->j < n->mm n x m i j=one i j:=by
 obtain ⟨x,d⟩:=vJ (r:=n) (u:=one) fun i _=>SU h (one i)
 exact ⟨x,fun i j f o=>(d i f j o).symm⟩
end Lin
def Qi (n:Nat) (f:Nat->Nat):List Nat:=(List.range n).map f
theorem Jf (n:Nat) (f:Nat->Nat):(Qi n f).length=n:=by simp [Qi]
theorem Yq (n:Nat) (f:Nat->Nat) (j:Nat) (h:j < n):Gf.nth (Qi n f) j=f j:=by
 rw [Gf.aK _ _ (by rw [Jf];exact h)];simp [Qi]
theorem XL (n:Nat) (f:Nat->Nat) (h:∀ j,f j < 256):Gf.Bytes (Qi n f):=fun i=>by
 by_cases d:i < n
 ·rw [Yq n f i d];exact h i
 ·unfold Gf.nth;rw [List.getD_eq_getElem?_getD,List.getElem?_eq_none (by rw [Jf];omega)];decide
theorem YL (n:Nat) (f g:Nat->Nat) (h:∀ j,j < n->f j=g j):Qi n f=Qi n g:=by
 unfold Qi
 exact List.map_congr_left fun j d=>h j (List.mem_range.1 d)
theorem H5 (n:Nat) (f:Nat->Nat) (j v:Nat):(Qi n f).set j v=Qi n (fun i=>if i=j then v else f i):=by
 apply List.ext_getElem
 ·simp [Qi]
 ·intro i h o
  rw [List.getElem_set]
  simp only [Qi,List.getElem_map,List.getElem_range]
  by_cases e:j=i
  ·rw [if_pos e,if_pos e.symm]
  ·rw [if_neg e,if_neg (fun d=>e d.symm)]
theorem O0 (l:List Nat) (n:Nat) (h:l.length=n):Qi n (Gf.nth l)=l:=by
 subst h
 apply List.ext_getElem
 ·simp [Qi]
 ·intro i f d
  simp only [Qi,List.getElem_map,List.getElem_range]
  exact Gf.aK l i d
def Qh (M:List (List Nat)) (i:Nat):List Nat:=M.getD i []
theorem Qy (M:List (List Nat)) (r:List Nat) (i:Nat) (h:i < M.length):Qh (M ++ [r]) i=Qh M i:=by
 unfold Qh;rw [List.getD_eq_getElem?_getD,List.getD_eq_getElem?_getD,List.getElem?_append_left h]
theorem X4 (M:List (List Nat)) (r:List Nat):Qh (M ++ [r]) M.length=r:=by
 unfold Qh;rw [List.getD_eq_getElem?_getD,List.getElem?_append_right (Nat.le_refl _)];simp
def Qa:List Nat->Nat
 | []=>0
 | c :: r=>if c=0 then Qa r+1 else 0
theorem s6:∀ l,Qa l<=l.length
 | []=>Nat.le_refl _
 | c :: r=>by
  unfold Qa
  split
  ·have:=s6 r;simp;omega
  ·simp
theorem k1:∀ (l:List Nat) (i:Nat),i < Qa l->Gf.nth l i=0
 | [],i,h=>absurd h (Nat.not_lt_zero _)
 | c :: r,i,h=>by
  unfold Qa at h
  by_cases e:c=0
  ·rw [if_pos e] at h
   cases i with
   | zero=>simpa [Gf.nth] using e
   | succ i =>
    have:=k1 r i (by omega)
    simpa [Gf.nth] using this
  ·rw [if_neg e] at h;exact absurd h (Nat.not_lt_zero _)
theorem c0:∀ l:List Nat,Qa l < l.length->Gf.nth l (Qa l)≠0
 | [],h=>absurd h (Nat.lt_irrefl _)
 | c :: r,h=>by
  unfold Qa at h ⊢
  by_cases e:c=0
  ·rw [if_pos e] at h ⊢
   have:=c0 r (by simpa using h)
   simpa [Gf.nth] using this
  ·rw [if_neg e];simpa [Gf.nth] using e
def Jy (n:Nat) (row d:List Nat):List Nat:=Qi n fun j=>Gf.nth row j ^^^ Gf.mul (Gf.mul (Gf.nth row (Qa d)) (Gf.inv (Gf.nth d (Qa d)))) (Gf.nth d j)
def Zm (n:Nat) (row:List Nat) (K:List (List Nat)):Nat->List Nat
 | 0=>row
 | k+1=>Jy n (Zm n row K k) (Qh K k)
def Ja (n:Nat) (M:List (List Nat)):Nat->List (List Nat)
 | 0=>[]
 | i+1=>if Qa (Zm n (Qh M i) (Ja n M i) (Ja n M i).length) < n then Ja n M i ++ [Zm n (Qh M i) (Ja n M i) (Ja n M i).length] else Ja n M i
theorem pA (n:Nat) (row:List Nat) (K:List (List Nat)) (h:row.length=n):∀ k,(Zm n row K k).length=n
 | 0=>h
 | _+1=>Jf _ _
theorem sT (n:Nat) (row d:List Nat) (h:Gf.Bytes row):Gf.Bytes (Jy n row d):=XL _ _ fun j=>Gf.iK (h j) (Gf.aV (Gf.aV (h _) _) _)
theorem X5 (n:Nat) (row:List Nat) (K:List (List Nat)) (h:Gf.Bytes row):∀ k,Gf.Bytes (Zm n row K k)
 | 0=>h
 | k+1=>sT _ _ _ (X5 n row K h k)
theorem hQ (n:Nat) (M:List (List Nat)) (f:∀ i,Gf.Bytes (Qh M i)) (h:∀ i,i < M.length->(Qh M i).length=n):∀ i,i<=M.length->∀ k,k < (Ja n M i).length->(Qh (Ja n M i) k).length=n/\Gf.Bytes (Qh (Ja n M i) k)/\Qa (Qh (Ja n M i) k) < n
 | 0,_,k,hk=>absurd hk (Nat.not_lt_zero _)
 | i+1,hi,k,hk=>by
  have ih:=hQ n M f h i (by omega)
  unfold Ja at hk ⊢
  split
  ·rename_i d
   rw [if_pos d] at hk
   by_cases e:k < (Ja n M i).length
   ·rw [Qy _ _ _ e];exact ih k e
   ·obtain rfl:k=(Ja n M i).length:=by simp at hk;omega
    rw [X4]
    exact ⟨pA n _ _ (h i (by omega)) _,X5 n _ _ (f i) _,d⟩
  ·rename_i d
   rw [if_neg d] at hk
   exact ih k hk
theorem qB (n:Nat) (M:List (List Nat)):∀ i,(Ja n M i).length<=i
 | 0=>Nat.le_refl _
 | i+1=>by
  have:=qB n M i
  unfold Ja
  split
  ·simp;omega
  ·omega
def Qm (x:Nat):Lin.F:=⟨x % 256,Nat.mod_lt _ (by decide)⟩
theorem YY (h:x < 256):(Qm x).1=x:=Nat.mod_eq_of_lt h
theorem AP (h:x < 256):Qm x=0↔x=0:=by
 constructor
 ·intro e
  have:=congrArg Fin.val e
  rw [YY h] at this
  exact this
 ·rintro rfl;rfl
theorem qW (d:x < 256) (f:y < 256):Qm (x ^^^ y)=Lin.ad (Qm x) (Qm y):=by
 apply Fin.ext
 rw [YY (Gf.iK d f)]
 show _=(Qm x).1 ^^^ (Qm y).1
 rw [YY d,YY f]
theorem oU (d:x < 256) (f:y < 256):Qm (Gf.mul x y)=Lin.mu (Qm x) (Qm y):=by
 apply Fin.ext
 rw [YY (Gf.aV d y)]
 show _=Gf.mul (Qm x).1 (Qm y).1
 rw [YY d,YY f]
def Xi (M:List (List Nat)):Nat->Nat->Lin.F:=fun i j=>Qm (Gf.nth (Qh M i) j)
def Qu (l:List Nat):Nat->Lin.F:=fun j=>Qm (Gf.nth l j)
theorem x8 (n:Nat) (row d:List Nat) (h:Gf.Bytes row) (o:Gf.Bytes d) (j:Nat) (q:j < n) :
 Qu (Jy n row d) j=Lin.ad (Qu row j) (Lin.mu (Qm (Gf.mul (Gf.nth row (Qa d)) (Gf.inv (Gf.nth d (Qa d))))) (Qu d j)):=by
 have f:=Gf.aV (h (Qa d)) (Gf.inv (Gf.nth d (Qa d)))
 unfold Qu Jy
 rw [Yq n _ j q,qW (h j) (Gf.aV f _),oU f (o j)]
theorem r8 (n:Nat) (row d:List Nat) (j:Gf.Bytes row) (o:Gf.Bytes d) (q:d.length=n) (f:Qa d < n):Gf.nth (Jy n row d) (Qa d)=0:=by
 unfold Jy
 rw [Yq n _ _ f]
 have h:=c0 d (by rw [q];exact f)
 rw [Gf.mul_assoc _ _ _ (j _) (Gf.cQ _),Gf.inv_mul _ (o _) h,Gf.mul_one,Nat.xor_self]
theorem s5 (n:Nat) (row d:List Nat) (j:Nat) (f:j < n) (h:Gf.nth d j=0):Gf.nth (Jy n row d) j=Gf.nth row j:=by
 unfold Jy
 rw [Yq n _ j f,h,Gf.mul_zero,Nat.xor_zero]
def cB (n:Nat) (K:List (List Nat)):Prop:=(∀ k,k < K.length->(Qh K k).length=n/\Gf.Bytes (Qh K k)/\Qa (Qh K k) < n)/\∀ a b,a < b->b < K.length->Gf.nth (Qh K b) (Qa (Qh K a))=0
theorem e8 (n:Nat) (row:List Nat) (K:List (List Nat)) (h:Gf.Bytes row) (d:cB n K):∀ k,k<=K.length->∀ a,a < k->Gf.nth (Zm n row K k) (Qa (Qh K a))=0
 | 0,_,a,ha=>absurd ha (Nat.not_lt_zero _)
 | k+1,hk,a,ha=>by
  have f:=d.1 k (by omega)
  show Gf.nth (Jy n (Zm n row K k) (Qh K k)) (Qa (Qh K a))=0
  by_cases e:a=k
  ·subst e
   exact r8 n _ _ (X5 n row K h a) f.2.1 f.1 f.2.2
  ·rw [s5 n _ _ _ (d.1 a (by omega)).2.2 (d.2 a k (by omega) (by omega))]
   exact e8 n row K h d k (by omega) a (by omega)
theorem dT (n:Nat) (M:List (List Nat)) (j:∀ i,Gf.Bytes (Qh M i)) (o:∀ i,i < M.length->(Qh M i).length=n):∀ i,i<=M.length->cB n (Ja n M i)
 | 0,_=>⟨fun k q=>absurd q (Nat.not_lt_zero _),fun a b _ d=>absurd d (Nat.not_lt_zero _)⟩
 | i+1,hi=>by
  have ih:=dT n M j o i (by omega)
  refine ⟨hQ n M j o (i+1) hi,fun a b f d=>?_⟩
  unfold Ja at d ⊢
  split
  ·rename_i h
   rw [if_pos h] at d
   rw [List.length_append,List.length_singleton] at d
   rw [Qy _ _ a (by omega)]
   by_cases e:b < (Ja n M i).length
   ·rw [Qy _ _ b e];exact ih.2 a b f e
   ·obtain rfl:b=(Ja n M i).length:=by omega
    rw [X4]
    exact e8 n _ _ (j i) ih _ (Nat.le_refl _) a f
  ·rename_i h
   rw [if_neg h] at d
   exact ih.2 a b f d
theorem o6 {K:List (List Nat)} (h:cB n K):Lin.dD n K.length (Xi K) :=
 Lin.UF (fun i=>Qa (Qh K i)) (fun i d=>(h.1 i d).2.2) (fun i d=>by
  have f:=h.1 i d
  intro e
  exact c0 _ (by rw [f.1];exact f.2.2) ((AP (f.2.1 _)).1 e)) (fun i j o q=>by
  show Qm _=0
  rw [h.2 i j o q]
  rfl)
theorem k3 (n:Nat) (row:List Nat) (K:List (List Nat)) (f:Gf.Bytes row) (h:∀ k,k < K.length->Gf.Bytes (Qh K k)):∀ k,k<=K.length->∃ c:Nat->Lin.F,∀ j,j < n->Qu (Zm n row K k) j=Lin.ad (Qu row j) (Lin.aL k (fun i=>Lin.mu (c i) (Xi K i j)))
 | 0,_=>⟨fun _=>0,fun j _=>by show Qu row j=Lin.ad _ 0;rw [Lin.cF]⟩
 | k+1,hk=>by
  obtain ⟨c,o⟩:=k3 n row K f h k (by omega)
  let x:Lin.F:=Qm (Gf.mul (Gf.nth (Zm n row K k) (Qa (Qh K k))) (Gf.inv (Gf.nth (Qh K k) (Qa (Qh K k)))))
  refine ⟨fun i=>if i=k then x else c i,fun j d=>?_⟩
  show Qu (Jy n (Zm n row K k) (Qh K k)) j=_
  rw [x8 n _ _ (X5 n row K f k) (h k (by omega)) j d,o j d,Lin.oO]
  congr 1
  show Lin.ad (Lin.aL k _) (Lin.mu x (Xi K k j))=Lin.ad (Lin.aL k _) (Lin.mu (if k=k then x else c k) (Xi K k j))
  rw [if_pos rfl]
  congr 1
  exact Lin.aH fun i q=>by show Lin.mu (c i) _=Lin.mu (if i=k then x else c i) _;rw [if_neg (by omega)]
theorem hU (K:List (List Nat)) (r:List Nat) (i:Nat) (h:i < K.length):Xi (K ++ [r]) i=Xi K i:=by
 funext j;unfold Xi;rw [Qy K r i h]
theorem eK (K:List (List Nat)) (r:List Nat):Xi (K ++ [r]) K.length=Qu r:=by
 funext j;unfold Xi Qu;rw [X4]
theorem c8 (n:Nat) (M:List (List Nat)) (A:∀ i,Gf.Bytes (Qh M i)) (G:∀ i,i < M.length->(Qh M i).length=n):∀ i,i<=M.length->(∀ k,k < (Ja n M i).length->Lin.Zu n i (Xi M) (Xi (Ja n M i) k))/\∀ k,k < i->Lin.Zu n (Ja n M i).length (Xi (Ja n M i)) (Xi M k)
 | 0,_=>⟨fun k d=>absurd d (Nat.not_lt_zero _),fun k d=>absurd d (Nat.not_lt_zero _)⟩
 | i+1,hi=>by
  obtain ⟨h,B⟩:=c8 n M A G i (by omega)
  have H:=dT n M A G i (by omega)
  obtain ⟨c,o⟩:=k3 n (Qh M i) (Ja n M i) (A i) (fun k d=>(H.1 k d).2.1) (Ja n M i).length (Nat.le_refl _)
  have I:Lin.Zu n (i+1) (Xi M) (Qu (Zm n (Qh M i) (Ja n M i) (Ja n M i).length)):=by
   have q:Lin.Zu n (i+1) (Xi M) (Xi M i):=Lin.aU (Xi M) (by omega)
   have s:Lin.Zu n (i+1) (Xi M) (fun j=>Lin.aL (Ja n M i).length (fun l=>Lin.mu (c l) (Xi (Ja n M i) l j))) :=
    Lin.nM (v:=Xi (Ja n M i)) (k:=(Ja n M i).length) ⟨c,fun j _=>rfl⟩ fun l t=>Lin.a7 (h l t) (by omega)
   exact Lin.aX (Lin.G7 q s) (fun _ _ _ _=>rfl) fun j f=>(o j f).symm
  unfold Ja
  split
  ·rename_i J
   refine ⟨fun k d=>?_,fun k d=>?_⟩
   ·rw [List.length_append,List.length_singleton] at d
    by_cases e:k < (Ja n M i).length
    ·rw [hU _ _ k e];exact Lin.a7 (h k e) (by omega)
    ·obtain rfl:k=(Ja n M i).length:=by omega
     rw [eK];exact I
   ·rw [List.length_append,List.length_singleton]
    have D:∀ u,Lin.Zu n (Ja n M i).length (Xi (Ja n M i)) u->Lin.Zu n ((Ja n M i).length+1) (Xi (Ja n M i ++ [Zm n (Qh M i) (Ja n M i) (Ja n M i).length])) u:=fun u K =>
     Lin.nM K fun l t=>by rw [<- hU (Ja n M i) (Zm n (Qh M i) (Ja n M i) (Ja n M i).length) l t];exact Lin.aU _ (by omega)
    by_cases e:k < i
    ·exact D _ (B k e)
    ·obtain rfl:k=i:=by omega
     have q:Lin.Zu n ((Ja n M k).length+1) (Xi (Ja n M k ++ [Zm n (Qh M k) (Ja n M k) (Ja n M k).length])) (Qu (Zm n (Qh M k) (Ja n M k) (Ja n M k).length)):=by
      have:=Lin.aU (n:=n) (k:=(Ja n M k).length+1) (Xi (Ja n M k ++ [Zm n (Qh M k) (Ja n M k) (Ja n M k).length])) (i:=(Ja n M k).length) (by omega)
      rw [eK] at this
      exact this
     have s:=D (fun j=>Lin.aL (Ja n M k).length (fun l=>Lin.mu (c l) (Xi (Ja n M k) l j))) ⟨c,fun j _=>rfl⟩
     refine Lin.aX (Lin.G7 q s) (fun _ _ _ _=>rfl) fun j f=>?_
     show Lin.ad (Qu _ j) _=Xi M k j
     rw [o j f,Lin.oO,Lin.uG,Lin.cF]
     rfl
  ·rename_i J
   refine ⟨fun k d=>Lin.a7 (h k d) (by omega),fun k d=>?_⟩
   by_cases e:k < i
   ·exact B k e
   ·obtain rfl:k=i:=by omega
    have L:∀ j,j < n->Qu (Zm n (Qh M k) (Ja n M k) (Ja n M k).length) j=0:=fun j f=>by
     unfold Qu
     rw [k1 _ j (by omega)]
     rfl
    refine Lin.aX (⟨c,fun j _=>rfl⟩:Lin.Zu n (Ja n M k).length (Xi (Ja n M k)) (fun j=>Lin.aL (Ja n M k).length (fun l=>Lin.mu (c l) (Xi (Ja n M k) l j)))) (fun _ _ _ _=>rfl) fun j f=>?_
    have:=o j f
    rw [L j f] at this
    exact (Lin.wR this.symm).symm
theorem H4 (n:Nat) (M:List (List Nat)) (d:∀ i,Gf.Bytes (Qh M i)) (f:∀ i,i < M.length->(Qh M i).length=n):Lin.cL n M.length (Xi M) (Ja n M M.length).length :=
 ⟨Xi (Ja n M M.length),o6 (dT n M d f _ (Nat.le_refl _)),(c8 n M d f _ (Nat.le_refl _)).1,(c8 n M d f _ (Nat.le_refl _)).2⟩
section
open Lin (F aL ad mu)
theorem E1 (x:Nat) (f:x < 256) (l:List Nat) (h:Gf.Bytes l):Qm (Gf.horner x l)=aL l.length (fun j=>mu (Qm (Gf.nth l j)) (Qm (Gf.bZ x j))):=by
 rw [<- Gf.jL l x f h]
 have d:∀ k,Qm (Gf.gQ l x k)=aL k (fun j=>mu (Qm (Gf.nth l j)) (Qm (Gf.bZ x j))):=by
  intro k
  induction k with
  | zero=>rfl
  | succ k ih =>
   show Qm (Gf.gQ l x k ^^^ Gf.mul (Gf.nth l k) (Gf.bZ x k))=ad _ _
   rw [qW (Gf.iA l x h k) (Gf.aV (h k) _),ih,oU (h k) (Gf.dV x k)]
 exact d _
theorem y7 (f:Nat->F) (m:Nat):∀ k,m<=k->(∀ i,m<=i->i < k->f i=0)->aL k f=aL m f
 | 0, h, _ => by obtain rfl : m = 0 := by omega
                 rfl
 | k+1,h,hz=>by
  by_cases e:m=k+1
  ·rw [e]
  ·show ad (aL k f) (f k)=_
   rw [hz k (by omega) (by omega),Lin.cF]
   exact y7 f m k (by omega) fun i d j=>hz i d (by omega)
theorem AW (X:List Nat) (d:Gf.Bytes X) (A:X.Nodup) (c:Nat->F) (h:∀ p:List Nat,Gf.Bytes p->p.length<=X.length->aL X.length (fun r=>mu (c r) (Qm (Gf.horner (Gf.nth X r) p)))=0):∀ s,s < X.length->c s=0:=by
 intro s f
 have j:=h (Gf.bK X s X.length) (Gf.bM X d s _) (by
  have:=Gf.cC X s X.length
  rw [if_pos f] at this
  omega)
 rw [Lin.b9 s _ X.length f] at j
 ·rw [Gf.bH X d] at j
  refine Classical.byContradiction fun o=>Lin.lS o ?_ j
  intro e
  exact Gf.dG X d A s f _ (Nat.le_refl _) ((AP (Gf.bX _ _ _ _)).1 e)
 ·intro i q t
  rw [Gf.bH X d,Gf.cJ X s i t _ q]
  show mu _ (Qm 0)=0
  exact Lin.bN _
theorem R3 (X:List Nat) (d:Gf.Bytes X) (q:X.Nodup):Lin.dD X.length X.length (fun r j=>Qm (Gf.bZ (Gf.nth X r) j)):=by
 intro c f
 refine AW X d q c fun p h s=>?_
 have o:aL X.length (fun r=>mu (c r) (Qm (Gf.horner (Gf.nth X r) p)))=aL X.length (fun r=>aL p.length (fun j=>mu (Qm (Gf.nth p j)) (mu (c r) (Qm (Gf.bZ (Gf.nth X r) j))))):=Lin.aH fun r _=>by
  rw [E1 _ (d r) p h,<- Lin.bJ]
  exact Lin.aH fun j _=>by rw [<- Lin.aT,Lin.cR (c r),Lin.aT]
 rw [o,Lin.bW]
 refine Lin.bS fun j t=>?_
 rw [Lin.bJ,f j (by omega),Lin.bN]
theorem BW (f d:List Nat) (h:Gf.Bytes d) (x:Nat):∀ k,Qm (Gf.fG f d x k)=aL k (fun j=>mu (Qm (Gf.nth d j)) (Qm (Gf.aQ f j x)))
 | 0=>rfl
 | k+1=>by
  show Qm (Gf.fG f d x k ^^^ Gf.mul (Gf.nth d k) (Gf.aQ f k x))=ad _ _
  rw [qW (Gf.gY f d x h k) (Gf.aV (h k) _),BW f d h x k,oU (h k) (Gf.bL _ _ _)]
theorem IZ (d p:List Nat) (q:Gf.Bytes d) (s:d.Nodup) (o:Gf.Bytes p) (t:p.length<=d.length) (x:Nat) (A:x < 256):Qm (Gf.horner x p)=aL d.length (fun j=>mu (Qm (Gf.horner (Gf.nth d j) p)) (Qm (Gf.aQ d j x))):=by
 have h:Gf.Bytes (Qi d.length fun j=>Gf.horner (Gf.nth d j) p):=XL _ _ fun j=>Gf.bF _ p o
 rw [<- Gf.through p d (Qi d.length fun j=>Gf.horner (Gf.nth d j) p) o q h s t (fun j f=>Yq _ _ j f) x A,BW _ _ h]
 exact Lin.aH fun j f=>by rw [Yq _ _ j f]
theorem PZ (d X:List Nat) (t:Gf.Bytes d) (A:d.Nodup) (f:Gf.Bytes X) (B:X.Nodup) (G:X.length=d.length):Lin.dD d.length X.length (fun r j=>Qm (Gf.aQ d j (Gf.nth X r))):=by
 intro c h
 refine AW X f B c fun p o D=>?_
 have q:aL X.length (fun r=>mu (c r) (Qm (Gf.horner (Gf.nth X r) p)))=aL X.length (fun r=>aL d.length (fun j=>mu (Qm (Gf.horner (Gf.nth d j) p)) (mu (c r) (Qm (Gf.aQ d j (Gf.nth X r)))))):=Lin.aH fun r _=>by
  rw [IZ d p t A o (by omega) _ (f r),<- Lin.bJ]
  exact Lin.aH fun j _=>by rw [<- Lin.aT,Lin.cR (c r),Lin.aT]
 rw [q,Lin.bW]
 refine Lin.bS fun j s=>?_
 rw [Lin.bJ,h j s,Lin.bN]
def nH (m:Nat):List Nat:=Qi (m+1) fun j=>if j=m then 1 else 0
theorem DT (m:Nat):Gf.Bytes (nH m):=XL _ _ fun j=>by split <;> decide
theorem B4 (m x:Nat) (h:x < 256):Qm (Gf.horner x (nH m))=Qm (Gf.bZ x m):=by
 rw [E1 x h _ (DT m),show (nH m).length=m+1 from Jf _ _,Lin.b9 m _ (m+1) (by omega)]
 ·unfold nH
  rw [Yq _ _ m (by omega),if_pos rfl]
  exact Lin.dU _
 ·intro i d f
  unfold nH
  rw [Yq _ _ i d,if_neg f]
  exact Lin.cT _
theorem Y6 (d:List Nat) (f:Gf.Bytes d) (o:d.Nodup) (x m:Nat) (h:x < 256) (q:m < d.length):aL d.length (fun j=>mu (Qm (Gf.aQ d j x)) (Qm (Gf.bZ (Gf.nth d j) m)))=Qm (Gf.bZ x m):=by
 rw [<- B4 m x h,IZ d (nH m) f o (DT m) (by rw [show (nH m).length=m+1 from Jf _ _];omega) x h]
 exact Lin.aH fun j _=>by rw [B4 m _ (f j),Lin.cR]
end
namespace Lin
def aZ (g:Nat->Nat->F) (d p k:Nat):Nat->Nat->F:=fun i j=>if i=d then mu (iv (g p k)) (g p j) else if i=p then g d j else g i j
def bE (h:Nat->Nat->F) (d k:Nat):Nat->Nat->F:=fun i j=>if i=d then h i j else ad (h i j) (mu (h i k) (h d j))
structure eO (r n k:Nat) (f g:Nat->Nat->F) (d:Nat):Prop where
 le:d<=r
 to:∀ i,i < r->Zu n r f (g i)
 from_:∀ i,i < r->Zu n r g (f i)
 piv:∃ p:Nat->Nat,(∀ i,i < d->p i < k/\g i (p i)=1/\∀ i',i' < r->i'≠i->g i' (p i)=0)/\∀ i j,i < j->j < d->p i < p j
 zero:∀ i,d<=i->i < r->∀ j,j < k->g i j=0
theorem eO.start (r n:Nat) (f:Nat->Nat->F):eO r n 0 f f 0 where
 le:=Nat.zero_le _
 to:=fun _ d=>aU f d
 from_:=fun _ d=>aU f d
 piv:=⟨fun _=>0,fun _ d=>absurd d (Nat.not_lt_zero _),fun _ _ _ h=>absurd h (Nat.not_lt_zero _)⟩
 zero:=fun _ _ _ _ h=>absurd h (Nat.not_lt_zero _)
theorem eO.skip {f g:Nat->Nat->F} (h:eO r n k f g d) (A:∀ i,d<=i->i < r->g i k=0):eO r n (k+1) f g d where
 le:=h.le
 to:=h.to
 from_:=h.from_
 piv:=by
  obtain ⟨p,q,t⟩:=h.piv
  exact ⟨p,fun i o=>⟨Nat.lt_succ_of_lt (q i o).1,(q i o).2⟩,t⟩
 zero:=fun i s o j B=>by
  by_cases e:j=k
  ·rw [e];exact A i s o
  ·exact h.zero i s o j (by omega)
theorem FH {v:Nat->Nat->F} {x y:Nat->F} (d:Zu n r v x) (a:F) (h:∀ j,y j=mu a (x j)):Zu n r v y:=aX (xF d a) (fun _ _ _ _=>rfl) (fun j _=>(h j).symm)
theorem r9 {g:Nat->Nat->F} (o:d < r) (q:p < r):∀ i,i < r->Zu n r g (aZ g d p k i):=fun i h=>by
 by_cases e:i=d
 ·exact FH (aU g q) (iv (g p k)) (fun j=>by unfold aZ;rw [if_pos e])
 ·by_cases f:i=p
  ·exact aX (aU g o) (fun _ _ _ _=>rfl) (fun j _=>by unfold aZ;rw [if_neg e,if_pos f])
  ·exact aX (aU g h) (fun _ _ _ _=>rfl) (fun j _=>by unfold aZ;rw [if_neg e,if_neg f])
theorem KY {g:Nat->Nat->F} (q:d < r) (s:p < r) (t:g p k≠0):∀ i,i < r->Zu n r (aZ g d p k) (g i):=fun i o=>by
 by_cases e:i=p
 ·refine FH (aU (aZ g d p k) q) (g p k) (fun j=>?_)
  unfold aZ
  rw [if_pos rfl,<- aT,yW _ t,dU,e]
 ·by_cases f:i=d
  ·refine aX (aU (aZ g d p k) s) (fun _ _ _ _=>rfl) (fun j _=>?_)
   unfold aZ
   rw [if_neg (fun h=>e (by rw [f,h])),if_pos rfl,f]
  ·refine aX (aU (aZ g d p k) o) (fun _ _ _ _=>rfl) (fun j _=>?_)
   unfold aZ
   rw [if_neg f,if_neg e]
theorem WX {h:Nat->Nat->F} (o:d < r):∀ i,i < r->Zu n r h (bE h d k i):=fun i f=>by
 by_cases e:i=d
 ·exact aX (aU h f) (fun _ _ _ _=>rfl) (fun j _=>by unfold bE;rw [if_pos e])
 ·exact aX (G7 (aU h f) (xF (aU h o) (h i k))) (fun _ _ _ _=>rfl) (fun j _=>by unfold bE;rw [if_neg e])
theorem TH {h:Nat->Nat->F} (o:d < r):∀ i,i < r->Zu n r (bE h d k) (h i):=fun i f=>by
 by_cases e:i=d
 ·exact aX (aU (bE h d k) f) (fun _ _ _ _=>rfl) (fun j _=>by unfold bE;rw [if_pos e])
 ·refine aX (G7 (aU (bE h d k) f) (xF (aU (bE h d k) o) (h i k))) (fun _ _ _ _=>rfl) (fun j _=>?_)
  show ad (bE h d k i j) (mu (h i k) (bE h d k d j))=h i j
  unfold bE
  rw [if_neg e,if_pos rfl,oO,uG,cF]
theorem eO.step {f g:Nat->Nat->F} (h:eO r n k f g d) (Y:d<=p) (G:p < r) (R:g p k≠0):eO r n (k+1) f (bE (aZ g d p k) d k) (d+1):=by
 have t:d < r:=by omega
 have H:∀ j,aZ g d p k d j=mu (iv (g p k)) (g p j):=fun j=>by unfold aZ;rw [if_pos rfl]
 have N:aZ g d p k d k=1:=by rw [H,rX _ R]
 have O:∀ j,bE (aZ g d p k) d k d j=aZ g d p k d j:=fun j=>by unfold bE;rw [if_pos rfl]
 have I:∀ i j,i≠d->aZ g d p k d j=0->bE (aZ g d p k) d k i j=aZ g d p k i j:=fun i j o J=>by unfold bE;rw [if_neg o,J,bN,cF]
 have Q:∀ i,i≠d->bE (aZ g d p k) d k i k=0:=fun i o=>by unfold bE;rw [if_neg o,N,oY,uG]
 obtain ⟨q,A,S⟩:=h.piv
 have K:∀ i,i < d->aZ g d p k d (q i)=0:=fun i o=>by rw [H,(A i o).2.2 p G (by omega),bN]
 refine ⟨by omega,fun i o=>nM (nM (WX t i o) (r9 t G)) h.to,fun i o=>nM (nM (h.from_ i o) (KY t G R)) (TH t),?_,?_⟩
 ·refine ⟨fun i=>if i=d then k else q i,fun i o=>?_,fun i j T U=>?_⟩
  ·by_cases e:i=d
   ·subst e
    simp only [if_true]
    exact ⟨by omega,by rw [O,N],fun B _ L=>Q B L⟩
   ·simp only [e,if_false]
    have s:i < d:=by omega
    refine ⟨by have:=(A i s).1;omega,?_,fun B L V=>?_⟩
    ·rw [I i (q i) e (K i s)]
     unfold aZ
     rw [if_neg e,if_neg (by omega)]
     exact (A i s).2.1
    ·by_cases M:B=d
     ·rw [M,O];exact K i s
     ·rw [I B (q i) M (K i s)]
      unfold aZ
      rw [if_neg M]
      by_cases D:B=p
      ·rw [if_pos D];exact (A i s).2.2 d t (by omega)
      ·rw [if_neg D];exact (A i s).2.2 B L V
  ·by_cases e:j=d
   ·simp only [e,if_true,show ¬ i=d by omega,if_false]
    exact (A i (by omega)).1
   ·simp only [e,if_false,show ¬ i=d by omega]
    exact S i j T (by omega)
 ·intro i o W j U
  by_cases e:j=k
  ·rw [e];exact Q i (by omega)
  ·have J:aZ g d p k d j=0:=by rw [H,h.zero p Y G j (by omega),bN]
   rw [I i j (by omega) J]
   unfold aZ
   rw [if_neg (by omega)]
   by_cases D:i=p
   ·rw [if_pos D];exact h.zero d (Nat.le_refl _) t j (by omega)
   ·rw [if_neg D];exact h.zero i (by omega) W j (by omega)
theorem VQ {v:Nat->Nat->F} {u:Nat->F} (h:Zu n r v u) (o:c<=n):Zu c r v u:=by
 obtain ⟨a,d⟩:=h
 exact ⟨a,fun j f=>d j (by omega)⟩
theorem A8 {f:Nat->F} {m:Nat}:∀ {k:Nat},m<=k->(∀ i,m<=i->i < k->f i=0)->aL k f=aL m f
 | 0,h,_=>by rw [show m=0 by omega]
 | k+1,h,hz=>by
  by_cases e:m=k+1
  ·rw [e]
  ·show ad (aL k f) (f k)=_
   rw [hz k (by omega) (by omega),cF]
   exact A8 (by omega) (fun i d j=>hz i d (by omega))
theorem eO.xN {f g:Nat->Nat->F} (h:eO r n c f g d) (I:c<=n):cL c r f d:=by
 obtain ⟨q,s,_⟩:=h.piv
 refine ⟨g,?_,fun i o=>VQ (h.to i (by have:=h.le;omega)) I,fun i o=>?_⟩
 ·intro a t i o
  have:=t (q i) (s i o).1
  rw [b9 i _ d o (fun A J B=>by rw [(s i o).2.2 A (by have:=h.le;omega) B,bN]),(s i o).2.1,oY] at this
  exact this
 ·obtain ⟨a,t⟩:=h.from_ i o
  refine ⟨a,fun j D=>?_⟩
  rw [t j (by omega)]
  exact A8 h.le (fun A G H=>by rw [h.zero A G H j D,bN])
theorem eO.diag {f g:Nat->Nat->F} (h:eO r n r f g r):∀ i j,i < r->j < r->g i j=one i j:=by
 obtain ⟨q,s,t⟩:=h.piv
 have D:∀ i,i < r->i<=q i:=fun i=>by
  induction i with
  | zero=>intro _;exact Nat.zero_le _
  | succ i ih=>intro d;have A:=ih (by omega);have o:=t i (i+1) (by omega) d;omega
 have G:∀ m,m < r->q (r - 1 - m)<=r - 1 - m:=fun m=>by
  induction m with
  | zero=>intro H;have:=(s (r - 1) (by omega)).1;show q (r - 1)<=r - 1;omega
  | succ m ih=>intro H;have A:=ih (by omega);have o:=t (r - 1 - (m+1)) (r - 1 - m) (by omega) (by omega);omega
 have id:∀ i,i < r->q i=i:=fun i d=>by
  have A:=D i d
  have o:=G (r - 1 - i) (by omega)
  rw [show r - 1 - (r - 1 - i)=i by omega] at o
  omega
 intro i j d B
 have:=s j B
 rw [id j B] at this
 unfold one
 by_cases e:i=j
 ·rw [if_pos e,e];exact this.2.1
 ·rw [if_neg e];exact this.2.2 i d e
theorem eO.vA {m l:Nat} {f g:Nat->Nat->F} (h:eO r n c f g d) (a:Nat->Nat->F) (I:m+l<=n) (G:∀ i,i < r->∀ j,j < m->f i j=aL l (fun t=>mu (f i (m+t)) (a t j))):∀ i,i < r->∀ j,j < m->g i j=aL l (fun t=>mu (g i (m+t)) (a t j)):=by
 intro i q j A
 obtain ⟨b,o⟩:=h.to i q
 rw [o j (by omega)]
 have B:aL l (fun t=>mu (g i (m+t)) (a t j))=aL l (fun t=>aL r (fun s=>mu (mu (b s) (f s (m+t))) (a t j))):=aH fun t H=>by
  rw [o (m+t) (by omega),<- Z4]
 rw [B,bW]
 refine aH fun s D=>?_
 rw [G s D j A,<- bJ]
 exact aH fun t _=>(aT _ _ _).symm
theorem eO.kM {m f g:Nat->Nat->F} (h:eO r (2*r) r f g r) (A:∀ i j,i < r->j < r->f i j=m i j) (B:∀ i j,i < r->j < r->f i (r+j)=one i j):∀ i j,i < r->j < r->mm r (fun i j=>g i (r+j)) m i j=one i j:=by
 intro i j d o
 have q:=h.vA (m:=r) (l:=r) m (by omega) (fun i d j o=>by
  rw [A i j d o]
  have:aL r (fun t=>mu (f i (r+t)) (m t j))=aL r (fun t=>mu (one i t) (m t j)):=aH fun t s=>by rw [B i t d s]
  rw [this]
  exact (fJ r m i j d).symm) i d j o
 rw [<- h.diag i j d o,q]
 rfl
end Lin
namespace Crc
def SS:Nat:=3988292384
def back (c:Nat):Nat:=if c % 2=1 then SS else 0
def step (c b:Nat):Nat:=c / 2 ^^^ back (c ^^^ b)
theorem bA (a b:Nat):(a ^^^ b) % 2=(a % 2+b % 2) % 2:=by
 have h:=Nat.xor_mod_two_pow (a:=a) (b:=b) (n:=1)
 have e:∀ x,x < 2->∀ y,y < 2->x ^^^ y=(x+y) % 2:=by decide
 rw [show 2 ^ 1=2 from rfl] at h
 rw [h,e _ (Nat.mod_lt _ (by decide)) _ (Nat.mod_lt _ (by decide))]
theorem e6 (a b:Nat):(a ^^^ b) / 2=a / 2 ^^^ b / 2:=Nat.xor_div_two
theorem y4 (a b:Nat):back (a ^^^ b)=back a ^^^ back b:=by
 unfold back
 have h:=bA a b
 rcases Nat.mod_two_eq_zero_or_one a with d | d <;> rcases Nat.mod_two_eq_zero_or_one b with f | f <;> rw [d,f] at h <;> simp [h,d,f]
theorem s7 (c d a b:Nat):step (c ^^^ d) (a ^^^ b)=step c a ^^^ step d b:=by
 unfold step
 rw [e6,show (c ^^^ d) ^^^ (a ^^^ b)=(c ^^^ a) ^^^ (d ^^^ b) by ac_rfl,y4]
 ac_rfl
theorem z7:SS < 2 ^ 32:=by decide
theorem BA (c:Nat):back c < 2 ^ 32:=by
 unfold back
 split
 ·exact z7
 ·decide
theorem x3 (h:c < 2 ^ 32) (b:Nat):step c b < 2 ^ 32:=Nat.xor_lt_two_pow (by omega) (BA _)
theorem wH (c b:Nat) (d:b < 2):step c b=step (c ^^^ b) 0:=by
 unfold step
 rw [e6,Nat.xor_zero,show b / 2=0 by omega,Nat.xor_zero]
theorem mA (h:c < 2 ^ 32) (j:c≠0):step c 0≠0:=by
 unfold step back
 rw [Nat.xor_zero]
 by_cases e:c % 2=1
 ·rw [if_pos e]
  intro d
  have f:c / 2=SS:=Gf.dQ d
  unfold SS at f
  omega
 ·rw [if_neg e,Nat.xor_zero]
  omega
def a1 (f:Nat->Nat) (c:Nat):Nat->Nat
 | 0=>c
 | p+1=>step (a1 f c p) (f p)
theorem a6 {f:Nat->Nat} {c:Nat} (h:c < 2 ^ 32):∀ p,a1 f c p < 2 ^ 32
 | 0=>h
 | p+1=>x3 (a6 h p) _
theorem b5 (f g:Nat->Nat) (c d:Nat):∀ p,a1 (fun i=>f i ^^^ g i) (c ^^^ d) p=a1 f c p ^^^ a1 g d p
 | 0=>rfl
 | p+1=>by
  show step (a1 (fun i=>f i ^^^ g i) (c ^^^ d) p) (f p ^^^ g p)=_
  rw [b5 f g c d p,s7]
  rfl
theorem b4 (f:Nat->Nat) (c p:Nat):∀ q,a1 f c (p+q)=a1 (fun i=>f (p+i)) (a1 f c p) q
 | 0=>rfl
 | q+1=>by
  show step (a1 f c (p+q)) (f (p+q))=step (a1 (fun i=>f (p+i)) (a1 f c p) q) (f (p+q))
  rw [b4 f c p q]
theorem X2 {f g:Nat->Nat} {c:Nat}:∀ p,(∀ i,i < p->f i=g i)->a1 f c p=a1 g c p
 | 0,_=>rfl
 | p+1,h=>by
  show step (a1 f c p) (f p)=step (a1 g c p) (g p)
  rw [X2 p (fun i d=>h i (by omega)),h p (by omega)]
def zs (m x:Nat):Nat:=a1 (fun _=>0) x m
theorem n0 (m x y:Nat):zs m (x ^^^ y)=zs m x ^^^ zs m y:=by
 have h:=b5 (fun _=>0) (fun _=>0) x y m
 unfold zs
 rw [<- h]
 exact X2 m (fun _ _=>rfl)
theorem c6 {x:Nat} (h:x < 2 ^ 32) (d:x≠0):∀ m,zs m x≠0
 | 0=>d
 | m+1=>mA (a6 h m) (c6 h d m)
theorem gW:∀ m,zs m 0=0
 | 0=>rfl
 | m+1=>by
  show step (zs m 0) 0=0
  rw [gW m]
  decide
theorem nE (x:Nat):step (2*x) 0=x:=by
 unfold step back
 rw [Nat.xor_zero,if_neg (by omega),Nat.xor_zero]
 omega
theorem n5 (m x:Nat):zs (m+1) x=zs m (step x 0):=by
 have:=b4 (fun _=>0) x 1 m
 unfold zs
 rw [Nat.add_comm m 1,this]
 exact X2 m (fun _ _=>rfl)
theorem e9 (b:Nat):∀ m,zs m (2 ^ m*b)=b
 | 0=>by show 2 ^ 0*b=b;omega
 | m+1=>by
  rw [n5,show 2 ^ (m+1)*b=2*(2 ^ m*b) by rw [Nat.pow_succ];ac_rfl,nE]
  exact e9 b m
def num (f:Nat->Nat):Nat->Nat
 | 0=>0
 | m+1=>num f m ^^^ 2 ^ m*f m
theorem b7 {f:Nat->Nat} (d:∀ i,f i < 2):∀ m,num f m < 2 ^ m
 | 0=>by show 0 < 2 ^ 0;decide
 | m+1=>by
  show num f m ^^^ 2 ^ m*f m < 2 ^ (m+1)
  have j:=b7 d m
  have o:=d m
  have q:2 ^ (m+1)=2*2 ^ m:=by rw [Nat.pow_succ];omega
  have h:2 ^ m*f m < 2 ^ (m+1):=by
   rcases (show f m=0∨f m=1 by omega) with e | e <;> rw [e] <;> omega
  exact Nat.xor_lt_two_pow (by omega) h
theorem hJ {f:Nat->Nat} (j:∀ i,f i < 2):∀ m,(∃ i,i < m/\f i≠0)->num f m≠0
 | 0,⟨_,h,_⟩=>absurd h (Nat.not_lt_zero _)
 | m+1,⟨i,hi,hne⟩=>by
  show num f m ^^^ 2 ^ m*f m≠0
  intro o
  have d:=Gf.dQ o
  have q:=b7 j m
  have s:=j m
  rcases (show f m=0∨f m=1 by omega) with e | e
  ·rw [e,Nat.mul_zero] at d
   refine hJ j m ⟨i,?_,hne⟩ d
   rcases Nat.lt_succ_iff_lt_or_eq.1 hi with h | h
   ·exact h
   ·rw [h,e] at hne;exact absurd rfl hne
  ·rw [e] at d
   omega
theorem j2 {f:Nat->Nat} (d:∀ i,f i < 2) (c:Nat):∀ m,a1 f c m=zs m (c ^^^ num f m)
 | 0=>by show c=c ^^^ 0;rw [Nat.xor_zero]
 | m+1=>by
  show step (a1 f c m) (f m)=step (zs m (c ^^^ (num f m ^^^ 2 ^ m*f m))) 0
  rw [wH _ _ (d m),j2 d c m,<- Nat.xor_assoc,n0 m (c ^^^ num f m),e9]
theorem S0 {f g:Nat->Nat} (S:∀ i,f i < 2) (T:∀ i,g i < 2) (c n a:Nat) (h:∀ p,p < n->f p≠g p->a<=p/\p < a+32) (U:∃ p,p < n/\f p≠g p):a1 f c n≠a1 g c n:=by
 intro B
 have D:a1 (fun i=>f i ^^^ g i) 0 n=0:=by
  have:=b5 f g c c n
  rw [Nat.xor_self] at this
  rw [this,B,Nat.xor_self]
 have d:∀ i,f i ^^^ g i < 2:=fun i=>Nat.xor_lt_two_pow (n:=1) (S i) (T i)
 have o:∀ p,p < n->¬ (a<=p/\p < a+32)->f p ^^^ g p=0:=fun p G H=>by
  have:f p=g p:=Classical.byContradiction fun I=>H (h p G I)
  rw [this,Nat.xor_self]
 obtain ⟨q,J,s⟩:=U
 have K:=h q J s
 have L:a1 (fun i=>f i ^^^ g i) 0 a=0:=by
  rw [X2 (g:=fun _=>0) a (fun i M=>o i (by omega) (by omega))]
  exact gW a
 obtain ⟨m,N,V,W,O⟩:∃ m,m<=32/\a+m<=n/\q < a+m/\∀ p,a+m<=p->p < n->¬ (a<=p/\p < a+32):=by
  by_cases Q:a+32<=n
  ·exact ⟨32,Nat.le_refl _,Q,K.2,fun p j _=>by omega⟩
  ·exact ⟨n - a,by omega,by omega,by omega,fun p j t=>by omega⟩
 have j:a1 (fun i=>f i ^^^ g i) 0 (a+m)=zs m (num (fun i=>f (a+i) ^^^ g (a+i)) m):=by
  rw [b4,L,j2 (fun i=>d (a+i)),Nat.zero_xor]
 have R:num (fun i=>f (a+i) ^^^ g (a+i)) m≠0:=hJ (fun i=>d (a+i)) m ⟨q - a,by omega,by
  show f (a+(q - a)) ^^^ g (a+(q - a))≠0
  rw [show a+(q - a)=q by omega]
  exact Gf.B0 s⟩
 have A:num (fun i=>f (a+i) ^^^ g (a+i)) m < 2 ^ 32:=Nat.lt_of_lt_of_le (b7 (fun i=>d (a+i)) m) (Nat.pow_le_pow_right (by decide) N)
 have t:a1 (fun i=>f i ^^^ g i) 0 n=zs (n - (a+m)) (zs m (num (fun i=>f (a+i) ^^^ g (a+i)) m)):=by
  rw [<- j]
  have:=b4 (fun i=>f i ^^^ g i) 0 (a+m) (n - (a+m))
  rw [show a+m+(n - (a+m))=n by omega] at this
  rw [this]
  exact X2 _ (fun i M=>o (a+m+i) (by omega) (O _ (by omega) (by omega)))
 exact c6 (a6 A m) (c6 A R m) _ (t.symm.trans D)
end Crc
end Go.Proofs.YtppcijpgalaohaaDoor

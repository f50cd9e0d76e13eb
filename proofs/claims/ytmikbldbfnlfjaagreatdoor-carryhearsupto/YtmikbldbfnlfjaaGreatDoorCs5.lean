/- Texts laid together. -/
import Derived.Test.YtmikbldbfnlfjaaGreatDoorCs4
import Derived.Lib.Join
set_option maxRecDepth 10000
set_option maxHeartbeats 4000000
namespace Go.Proofs.YtmikbldbfnlfjaaGreatDoor
open Go.Proofs.Tryz
open Go.RowKit
variable {w:World}{B i n g k p size:Nat}{v:Value}{l:List (Int×ByteArray)}{f:Nat->Int×ByteArray}{X r:List Nat}
theorem Jby (k n i:Nat) (y:i < n):Qh (kK k n) i=Qi k fun j=>Gf.aQ (JB k) j i:=by
 unfold Qh kK
 rw [List.getD_eq_getElem?_getD,List.getElem?_map,List.getElem?_range y]
 rfl
def X3 (s:List Nat) (k y i c:Nat):Nat->Nat
 | 0=>0
 | j+1=>if j*y+c < s.length then X3 s k y i c j ^^^ Gf.mul (Gf.aQ (JB k) j i) (Gf.nth s (j*y+c)) else X3 s k y i c j
def wS (s:List Nat) (k j i:Nat):List Nat:=Qi j fun c=>X3 s k j i c k
theorem Jbs (s:List Nat) (k y i c:Nat):∀ j,X3 s k y i c j < 256
 | 0=>by show 0 < 256;decide
 | j+1=>by
  show (if j*y+c < s.length then X3 s k y i c j ^^^ Gf.mul (Gf.aQ (JB k) j i) (Gf.nth s (j*y+c)) else X3 s k y i c j) < 256
  split
  ·exact Gf.iK (Jbs s k y i c j) (Gf.aV (Gf.bL _ _ _) _)
  ·exact Jbs s k y i c j
def R2 (l:List (Nat×List Nat)):List Value:=l.flatMap fun x=>[.int .i64 (x.1:Int),.string (Jp x.2)]
def L1 (w:World) (B:Nat) (v:Value) (l:List (Nat×List Nat)):Prop:=w.ownsRow B 74 2 v l.length (R2 l)
theorem vH:(prog.info? 74).map (fun i=>(i.zero,i.size,i.bytes))=some (some (.agg #[.int .i64 0,.string ⟨#[]⟩]),2,24):=by kernel_rfl
theorem Jcw (l:List (Nat×List Nat)) (x:Nat×List Nat):R2 (l ++ [x])=R2 l ++ [.int .i64 (x.1:Int),.string (Jp x.2)]:=by simp [R2]
theorem L1.snoc  {l:List (Nat×List Nat)} {row:List Nat} (h:w.ownsRow B 74 2 v (n+1) (R2 l ++ [.int .i64 (i:Int),.string (Jp row)])) (j:n=l.length):L1 w B v (l ++ [(i,row)]):=by
 unfold L1
 rw [Jcw,List.length_append,List.length_singleton,<- j]
 exact h
def Js (l:List (Int×ByteArray)):List Value:=l.flatMap fun x=>[.int .i64 x.1,.string x.2]
theorem DP:∀ (l:List (Int×ByteArray)) (i:Nat),i < l.length->(Js l)[i*2]?=some (.int .i64 (Ji l i).1)/\(Js l)[i*2+1]?=some (.string (Ji l i).2)
 | [],i,h=>absurd h (Nat.not_lt_zero _)
 | x :: t,0,_=>⟨rfl,rfl⟩
 | x :: t,i+1,h=>by
  have j:=DP t i (by simpa using h)
  have e:Js (x :: t)=.int .i64 x.1 :: .string x.2 :: Js t:=rfl
  have y:Ji (x :: t) (i+1)=Ji t i:=rfl
  rw [e,y,show (i+1)*2=i*2+1+1 by omega,show i*2+1+1+1=i*2+1+1+1 from rfl]
  exact ⟨by simpa using j.1,by simpa using j.2⟩
theorem nL   {E:TypeId} (h:w.ownsRow B E 2 v l.length (Js l)):∃ p c,v=.slice p l.length c/\fE w p l:=by
 rcases h.2 with ⟨rfl,I⟩ | ⟨g,J,N,rfl,O,K,Q,U,W,X⟩
 ·have:l=[]:=List.length_eq_zero_iff.1 I
  subst this
  exact ⟨none,0,rfl,Or.inl rfl⟩
 ·refine ⟨some ⟨g,0,none⟩,J,rfl,Or.inr ⟨g,0,rfl,(Array.getElem?_eq_some_iff.1 K).1,fun i M=>?_⟩⟩
  have j:=World.ownsRow.cells (g:=g) h rfl
  have y:=DP l i M
  have D:=j (i*2) _ y.1
  have G:=j (i*2+1) _ y.2
  rw [Addr.add_lit] at D G
  exact ⟨D,by rw [Nat.add_assoc];exact G⟩
theorem zM (size k:Nat) (w:World) (D:1<=k) (G:k<=1000) (I:size<=100000) :
 Calls prog 116 #[.int .i64 (size:Int),.int .i64 (k:Int)] w fun e w'=>e=.returned (.int .i64 ((Jk k size:Nat):Int))/\w'=w:=by
 have y:(1:Int)<=(k:Int):=by omega
 have j:Hid (((size:Int)+(k:Int) - 1) / (k:Int)=((Jk k size:Nat):Int)):=by
  show _=_
  unfold Jk
  rw [Int.natCast_ediv]
  congr 1
  omega
 go_enter func116,ntmps116
 go_wp2
 go_ret
 exact ⟨l4 j.out,rfl⟩
theorem KJ (size:Int) (w:World):Calls prog 130 #[.int .i64 size] w fun e w'=>e=.returned (.bool (decide (0<=size/\size<=1000)))/\w'=w:=by
 by_cases y:0<=size
 ·by_cases D:size<=1000
  ·have j:Hid (decide (0<=size/\size<=1000)=true):=decide_eq_true ⟨y,D⟩
   rw [j.out]
   go_enter func130,ntmps130
   go_wp2
   go_ret
   exact ⟨rfl,rfl⟩
  ·have j:Hid (decide (0<=size/\size<=1000)=false):=decide_eq_false fun h=>D h.2
   rw [j.out]
   go_enter func130,ntmps130
   go_wp2
   go_ret
   exact ⟨rfl,rfl⟩
 ·have j:Hid (decide (0<=size/\size<=1000)=false):=decide_eq_false fun h=>y h.1
  rw [j.out]
  go_enter func130,ntmps130
  go_wp2
  go_ret
  exact ⟨rfl,rfl⟩
theorem GN (size:Int) (w:World) (h:0<=size/\size<=1000):Calls prog 130 #[.int .i64 size] w fun e w'=>e=.returned (.bool true)/\w'=w:=by
 have j:=KJ size w
 rw [decide_eq_true h] at j
 exact j
theorem Jqt (size:Int) (w:World) (h:¬ (0<=size/\size<=1000)):Calls prog 130 #[.int .i64 size] w fun e w'=>e=.returned (.bool false)/\w'=w:=by
 have j:=KJ size w
 rw [decide_eq_false h] at j
 exact j
theorem BZ (n k size:Nat) (z:Addr) (w:World) (N:1<=k) (O:k<=n) (Q:n<=12) (W:size<=1000) (I:w.cell? ⟨11,0,none⟩=some (.iface 252 (.pointer (some z)))) :
 Calls prog 110 #[.int .i64 (n:Int),.int .i64 (k:Int),.int .i64 (size:Int)] w fun e w'=>(∃ j,e=.returned (.tuple #[.slice (some ⟨j,0,none⟩) n n,.nilIface])/\QJ w' (some ⟨j,0,none⟩) (kK k n))/\Below w.heap.size w w':=by
 have y:=Jo4 n k z w N O Q I
 have D:Hid (Calls prog 130 #[.int .i64 (size:Int)] w fun e w'=>e=.returned (.bool true)/\w'=w):=GN _ w (by omega)
 clear I
 go_enter func110,ntmps110
 go_wp2_with fail
 refine D.out.mono ?_
 rintro e J ⟨rfl,G⟩
 rw [G]
 clear G J D
 go_wp2_with fail
 refine y.mono ?_
 rintro e U ⟨⟨j,rfl,K⟩,M⟩
 clear y
 go_wp2
 go_ret2
 exact ⟨⟨j,rfl,K⟩,M⟩
def gN (s:ByteArray) (y:Nat):Nat->Nat->Nat:=fun j c=>Gf.nth (Zj s) (j*y+c)
theorem DM (s:ByteArray) (y j c:Nat):gN s y j c < 256:=xK s _
theorem VE {s:ByteArray} {y j c:Nat} (h:¬ j*y+c < s.size):gN s y j c=0:=by
 show (Zj s).getD _ 0=0
 rw [List.getD_eq_getElem?_getD,List.getElem?_eq_none (by simp [Zj];omega)]
 rfl
def JW (k:Nat) (s:ByteArray) (i:Nat):ByteArray:=Jp (J7 (fun i j=>Gf.aQ (JB k) j i) (gN s (Jk k s.size)) k (Jk k s.size) i)
def fR (k:Nat) (s:ByteArray) (i:Nat):Int×ByteArray:=((i:Int),JW k s i)
def H3 (n k:Nat) (s:ByteArray):List (Int×ByteArray):=(List.range n).map (fR k s)
def i6 (f:Nat->Int×ByteArray):Nat->Value:=fun q=>if q % 2=0 then .int .i64 (f (q / 2)).1 else .string (f (q / 2)).2
def ZE (w:World) (g n:Nat) (f:Nat->Int×ByteArray):Prop:=w.rowIs g 74 (n*2) (i6 f)
theorem PO (f:Nat->Int×ByteArray) (i:Nat):i6 f (i*2)=.int .i64 (f i).1:=by unfold i6;rw [if_pos (by omega),Nat.mul_div_cancel _ (by decide)]
theorem PK (f:Nat->Int×ByteArray) (i:Nat):i6 f (i*2+1)=.string (f i).2:=by unfold i6;rw [if_neg (by omega),show (i*2+1) / 2=i by omega]
theorem ZE.at_  (h:ZE w g n f) (j:i < n):w.cell? ⟨g,i*2,none⟩=some (.int .i64 (f i).1):=by rw [World.rowIs.cell h (by omega),PO]
theorem ZE.text  (h:ZE w g n f) (j:i < n):w.cell? ⟨g,i*2+1,none⟩=some (.string (f i).2):=by rw [World.rowIs.cell h (by omega),PK]
theorem ZE.below {w':World}  (h:ZE w g n f) (j:Below w.heap.size w w'):ZE w' g n f:=yN h j
theorem ZE.congr  {j:Nat->Int×ByteArray} (h:ZE w g n f) (y:∀ i,i < n->f i=j i):ZE w g n j:=World.rowIs.congr h (fun q D=>by unfold i6;rw [y (q / 2) (by omega)])
theorem ZE.set  (h:ZE w g n f) (i:Nat) (x:Int) (t:ByteArray):ZE ((w.setCell ⟨g,i*2,none⟩ (.int .i64 x)).setCell ⟨g,i*2+1,none⟩ (.string t)) g n (fun j=>if j=i then (x,t) else f j):=by
 refine World.rowIs.congr ((World.rowIs.set h (i*2) (.int .i64 x)).set (i*2+1) (.string t)) (fun q _=>?_)
 rcases Nat.mod_two_eq_zero_or_one q with e | e
 ·rw [if_neg (by omega)]
  by_cases y:q=i*2
  ·rw [if_pos y]
   unfold i6
   dsimp only
   rw [if_pos e,if_pos (show q / 2=i by omega)]
  ·rw [if_neg y]
   unfold i6
   dsimp only
   rw [if_pos e,if_pos e,if_neg (show ¬ q / 2=i by omega)]
 ·by_cases y:q=i*2+1
  ·rw [if_pos y]
   unfold i6
   dsimp only
   rw [if_neg (show ¬ q % 2=0 by omega),if_pos (show q / 2=i by omega)]
  ·rw [if_neg y,if_neg (by omega)]
   unfold i6
   dsimp only
   rw [if_neg (show ¬ q % 2=0 by omega),if_neg (show ¬ q % 2=0 by omega),if_neg (show ¬ q / 2=i by omega)]
theorem ZE.made (w:World) (n:Nat):ZE (w.alloc (.cells (madeCells #[.int .i64 0,.string ⟨#[]⟩] (n*2)) 74)) w.heap.size n (fun _=>(0,⟨#[]⟩)):=by
 have:=World.rowIs_alloc w (madeCells #[.int .i64 0,.string ⟨#[]⟩] (n*2)) 74 (i6 fun _=>(0,⟨#[]⟩)) (fun i j=>by
  rw [size_madeCells] at j
  simp only [madeCells]
  rw [Array.getElem?_map,Array.getElem?_eq_getElem (by simpa using j)]
  simp only [Array.getElem_range,Option.map_some]
  unfold i6
  rcases Nat.mod_two_eq_zero_or_one i with e | e
  ·rw [if_pos e];simp [e]
  ·rw [if_neg (by omega)];simp [e])
 rw [size_madeCells] at this
 exact this
theorem Jhx (n:Nat) (K:n<=1000000) (W:World):Sem.run prog (Instr.makeSlice 123 (.int .i64 (n:Int)) (.int .i64 (n:Int))) W=.ok (.slice (some ⟨W.heap.size,0,none⟩) n n) (W.alloc (.cells (madeCells #[.int .i64 0,.string ⟨#[]⟩] (n*2)) 74)):=by
 obtain ⟨y,D,G,I,J⟩:=info_parts vH
 have j:=run_make (P:=prog) W 123 74 y _ underlying123 D G .i64 .i64 n n (by omega) (Int.le_refl _) (by rw [J];omega) (by omega)
 simp only [Int.toNat_natCast,I] at j
 exact j
def rQ (k:Nat):Nat->Nat->Nat:=fun i j=>Gf.aQ (JB k) j i
theorem TF (k i j:Nat):rQ k i j < 256:=Gf.bL _ _ _
def Qg (k:Nat) (l:List (Int×ByteArray)):Nat->List (Int×ByteArray)
 | 0=>[]
 | i+1=>if decide ((Qg k l i).length < k) && !(Qg k l i).any (fun y=>y.1==(Ji l i).1) then Qg k l i ++ [Ji l i] else Qg k l i
theorem rJ  (j:(Qg k l i).length < k) (D:(Qg k l i).any (fun y=>y.1==(Ji l i).1)=false):Qg k l (i+1)=Qg k l i ++ [Ji l i]:=by
 show (if _ then _ else _)=_
 rw [if_pos (by rw [decide_eq_true j,D];rfl)]
theorem qH  (j:¬ (Qg k l i).length < k):Qg k l (i+1)=Qg k l i:=by
 show (if _ then _ else _)=_
 rw [if_neg (by rw [decide_eq_false j];simp)]
theorem tS  (j:(Qg k l i).any (fun y=>y.1==(Ji l i).1)=true):Qg k l (i+1)=Qg k l i:=by
 show (if _ then _ else _)=_
 rw [if_neg (by rw [j];simp)]
theorem A7 (k:Nat) (l:List (Int×ByteArray)):∀ i,(Qg k l i).length<=k
 | 0=>Nat.zero_le _
 | i+1=>by
  by_cases j:(Qg k l i).length < k
  ·by_cases D:(Qg k l i).any (fun y=>y.1==(Ji l i).1)=true
   ·rw [tS D];omega
   ·rw [rJ j (Bool.eq_false_iff.2 D),List.length_append,List.length_singleton];omega
  ·rw [qH j];exact A7 k l i
theorem X9 (k:Nat) (l:List (Int×ByteArray)):∀ i,i<=l.length->∀ x ∈ Qg k l i,x ∈ l
 | 0,_,x,h=>by cases h
 | i+1,hi,x,h=>by
  by_cases j:(Qg k l i).length < k
  ·by_cases D:(Qg k l i).any (fun y=>y.1==(Ji l i).1)=true
   ·rw [tS D] at h;exact X9 k l i (by omega) x h
   ·rw [rJ j (Bool.eq_false_iff.2 D)] at h
    rcases List.mem_append.1 h with h | h
    ·exact X9 k l i (by omega) x h
    ·rw [List.mem_singleton.1 h];exact sE (by omega)
  ·rw [qH j] at h;exact X9 k l i (by omega) x h
theorem sX (k:Nat) (l:List (Int×ByteArray)):∀ i,((Qg k l i).map Prod.fst).Nodup
 | 0=>List.nodup_nil
 | i+1=>by
  by_cases j:(Qg k l i).length < k
  ·by_cases D:(Qg k l i).any (fun y=>y.1==(Ji l i).1)=true
   ·rw [tS D];exact sX k l i
   ·have G:(Qg k l i).any (fun y=>y.1==(Ji l i).1)=false:=Bool.eq_false_iff.2 D
    rw [rJ j G,List.map_append,List.nodup_append]
    refine ⟨sX k l i,by simp,fun a I b J e=>?_⟩
    obtain ⟨y,K,rfl⟩:=List.mem_map.1 I
    have M:b=(Ji l i).1:=by simpa using J
    have:=List.any_eq_false.1 G y K
    exact this (by simp [e,M])
  ·rw [qH j];exact sX k l i
theorem RY (l:List (Int×ByteArray)) (x:Int×ByteArray):Js (l ++ [x])=Js l ++ [.int .i64 x.1,.string x.2]:=by simp [Js]
theorem JlM (j:Nat) (x y:Int) (t:ByteArray) (w:World) (G:w.cell? ⟨j,0,none⟩=some (.int .i64 x)) :
 Calls prog 136 (#[.agg #[.int .i64 y,.string t]] ++ #[.pointer (some ⟨j,0,none⟩)]) w fun e D=>e=.returned (.bool (y==x))/\Below w.heap.size w D:=by
 have I:=Qf G
 go_enter func136,ntmps136
 go_wp2
 go_ret
 exact ⟨rfl,(Below.refl _ _).alloc (Nat.le_refl _) _⟩
def j4 (n:Int) (j:Nat) (x:Int×ByteArray):Bool:=decide (x.1 < 0) || decide (n<=x.1) || !decide (x.2.size=j)
theorem LA (k:Nat) (p:Option Addr) (l:List (Int×ByteArray)) (e2:Nat) (w:World) (hk:k<=1000) (hl:l.length<=1000) (hs:fE w p l) :
 Calls prog 113 #[.int .i64 (k:Int),.slice p l.length e2] w fun e w'=>(∃ p' c',e=.returned (.slice p' (Qg k l l.length).length c')/\fE w' p' (Qg k l l.length))/\Below w.heap.size w w':=by
 have HS:Hid (fE w p l):=hs
 obtain ⟨i1,b2,b3,b4,b5⟩:=info_parts vH
 have d7:∀ W:World,Sem.run prog (Instr.makeSlice 123 (.int .i64 0) (.int .i64 (k:Int))) W=.ok (.slice (some ⟨W.heap.size,0,none⟩) 0 k) (W.alloc (.cells (madeCells #[.int .i64 0,.string ⟨#[]⟩] (k*2)) 74)):=fun W=>by
  have hr:=run_make (P:=prog) W 123 74 i1 _ underlying123 b2 b3 .i64 .i64 0 k (by omega) (by omega) (by rw [b5];omega) (by omega)
  simp only [Int.toNat_natCast,b4] at hr
  exact hr
 clear hs
 go_enter func113,ntmps113
 go_wp2
 have a4:(w.alloc (.cells (madeCells #[.int .i64 0,.string ⟨#[]⟩] (k*2)) 74)).ownsRow w.heap.size 74 2 (.slice (some ⟨w.heap.size,0,none⟩) 0 k) 0 []:=World.ownsRow_made w _ k (Nat.le_refl _) (by unfold maxLen;omega) (size_madeCells _ _)
 have a5:Below w.heap.size w (w.alloc (.cells (madeCells #[.int .i64 0,.string ⟨#[]⟩] (k*2)) 74)):=(Below.refl _ _).alloc (Nat.le_refl _) _
 generalize w.alloc (.cells (madeCells #[.int .i64 0,.string ⟨#[]⟩] (k*2)) 74)=w0 at a4 a5 ⊢
 have b6:Hid (w0.ownsRow w.heap.size 74 2 (.slice (some ⟨w.heap.size,0,none⟩) 0 k) 0 []):=a4
 have b7:Hid (Below w.heap.size w w0):=a5
 clear a4 a5 d7
 go_loopw [5,12] (fun v x wr=>∃ i:Nat,i<=l.length/\x=.int .i64 i/\wr.ownsRow w.heap.size 74 2 v (Qg k l i).length (Js (Qg k l i))/\Below w.heap.size w wr) (fun _ x _=>l.length - (intOf x).toNat)
 case atStart=>exact ⟨0,by omega,rfl,b6.out,b7.out⟩
 case round =>
  obtain ⟨i,hi,rfl,hO,hB⟩:=hrel
  obtain ⟨D,rfl⟩:∃ D,D=wr:=⟨_,rfl⟩
  obtain ⟨J,K,rfl,d0⟩:=nL hO
  have HO:Hid (D.ownsRow w.heap.size 74 2 (.slice J (Qg k l i).length K) (Qg k l i).length (Js (Qg k l i))):=hO
  have HB:Hid (Below w.heap.size w D):=hB
  have d1:Hid (fE D J (Qg k l i)):=d0
  have d2:w.heap.size<=D.heap.size:=hB.size
  clear hO hB d0 b6 b7
  by_cases a6:i < l.length
  ·rcases (HS.out.below HB.out) with h0 | ⟨b1,o1,rfl,e3,d3⟩
   ·rw [h0] at a6;simp at a6
   obtain ⟨q1,q2⟩:=d3 i a6
   clear d3
   have HF:Hid (Qg k l (i+1)=Qg k l (i+1)):=by show _=_;rfl
   have e4:=A7 k l i
   by_cases d4:(Qg k l i).length < k
   ·obtain ⟨G,Q⟩:∃ G,G=D.alloc (.cells #[.int .i64 (Ji l i).1,.string (Ji l i).2] 74):=⟨_,rfl⟩
    have Y:Below D.heap.size D G:=by rw [Q];exact (Below.refl _ _).alloc (Nat.le_refl _) _
    have d5:G.heap.size=D.heap.size+1:=by rw [Q];simp
    have a1:G.cell? ⟨D.heap.size,0,none⟩=some (.int .i64 (Ji l i).1):=by rw [Q,World.cell?_alloc_at _ _ _ _ rfl];rfl
    have a7:G.cell? ⟨D.heap.size,1,none⟩=some (.string (Ji l i).2):=by rw [Q,World.cell?_alloc_at _ _ _ _ rfl];rfl
    have a8:tK G 136 #[.pointer (some ⟨D.heap.size,0,none⟩)] (Qg k l i) (fun y=>y.1==(Ji l i).1):=fun j M w5 h5 =>
     JlM D.heap.size (Ji l i).1 (Ji (Qg k l i) j).1 (Ji (Qg k l i) j).2 w5 ((h5.cell (p:=⟨D.heap.size,0,none⟩) (by show D.heap.size < _;omega)).trans a1)
    have X:=JaT J (Qg k l i) K 136 #[.pointer (some ⟨D.heap.size,0,none⟩)] (fun y=>y.1==(Ji l i).1) G (by omega) (d1.out.below Y) (enters_of func136 (by kernel_rfl) rfl) a8
    have a9:Hid (G=D.alloc (.cells #[.int .i64 (Ji l i).1,.string (Ji l i).2] 74)):=Q
    have U:Hid (Below w.heap.size w G):=HB.out.trans (Y.mono d2)
    have Z:Hid (G.ownsRow w.heap.size 74 2 (.slice J (Qg k l i).length K) (Qg k l i).length (Js (Qg k l i))):=World.ownsRow.kept HO.out (QD Y none) (by cases hv:(Value.slice J (Qg k l i).length K).ownBlock <;> simp)
    have e5:D.heap.size < G.heap.size:=by omega
    by_cases a0:(Qg k l i).any (fun y=>y.1==(Ji l i).1)=true
    ·have HP:Hid (Qg k l (i+1)=Qg k l i):=tS a0
     rw [a0] at X
     clear a0 Q Y d5 a1 a7 a8 HF
     generalize Qg k l i=I at *
     go_wp2_with fail
     rw [<- a9.out]
     refine X.mono ?_
     rintro e N ⟨rfl,O⟩
     have a2:Hid (Below w.heap.size w N):=U.out.trans (O.mono U.out.size)
     have a3:Hid (N.ownsRow w.heap.size 74 2 (.slice J I.length K) I.length (Js I)):=World.ownsRow.kept Z.out (QD O none) (by cases hv:(Value.slice J I.length K).ownBlock <;> simp)
     clear X O
     go_wp2
     go_roundw
     case rel=>exact ⟨i+1,by omega,by go_num,by rw [HP.out];exact a3.out,a2.out⟩
     case measure=>simp [intOf];omega
    ·have b0:(Qg k l i).any (fun y=>y.1==(Ji l i).1)=false:=Bool.eq_false_iff.2 a0
     have HP:Hid (Qg k l (i+1)=Qg k l i ++ [Ji l i]):=rJ d4 b0
     rw [b0] at X
     have d6:Hid (∀ W,Below G.heap.size G W->W.cell? ⟨D.heap.size,0,none⟩=some (.int .i64 (Ji l i).1)/\W.cell? ⟨D.heap.size,1,none⟩=some (.string (Ji l i).2)):=fun W hW=>⟨(hW.cell (p:=⟨D.heap.size,0,none⟩) (by show D.heap.size < _;omega)).trans a1,(hW.cell (p:=⟨D.heap.size,1,none⟩) (by show D.heap.size < _;omega)).trans a7⟩
     clear a0 b0 Q Y d5 a1 a7 a8 HF
     generalize Qg k l i=I at *
     go_wp2_with fail
     rw [<- a9.out]
     refine X.mono ?_
     rintro e N ⟨rfl,O⟩
     have a2:Hid (Below w.heap.size w N):=U.out.trans (O.mono U.out.size)
     have a3:Hid (N.ownsRow w.heap.size 74 2 (.slice J I.length K) I.length (Js I)):=World.ownsRow.kept Z.out (QD O none) (by cases hv:(Value.slice J I.length K).ownBlock <;> simp)
     obtain ⟨r1,r2⟩:=d6.out N O
     have e6:w.heap.size<=N.heap.size:=a2.out.size
     clear X O q1 q2 d6 a9 Z U
     generalize Ji l i=xs at *
     obtain ⟨x,t⟩:=xs
     go_wp2_with (first | (at_builtin;refine wpList_append_own _ rfl (.tmp 26) (.tmp 28) 123 rfl w.heap.size 74 i1 (.agg #[.int .i64 0,.string ⟨#[]⟩]) 2 24 underlying123 b2 b3 b4 b5 rfl (by decide) (.slice J I.length K) I.length (Js I) rfl (World.ownsRow.alloc a3.out _) ⟨N.heap.size,0,none⟩ 1 1 [.int .i64 x,.string t] rfl rfl (fun j u M=>by match j,M with | 0,M=>(simp at M;subst M;simp [Addr.add]) | 1,M=>(simp at M;subst M;simp [Addr.add])) (fun u hu=>by simp at hu;rcases hu with rfl | rfl <;> rfl) (by unfold maxLen;omega) (by omega) (by simp;omega) ?_;intro v' w8 d8 d9 _))
     have e0:Below w.heap.size w w8:=(a2.out.alloc (by omega) _).grown d9 (by simp;omega) (fun g hg=>(World.ownsRow.lt a3.out g hg).1)
     go_roundw
     case rel=>exact ⟨i+1,by omega,by go_num,by rw [HP.out,RY,List.length_append,List.length_singleton];exact d8,e0⟩
     case measure=>simp [intOf];omega
   ·have HP:Hid (Qg k l (i+1)=Qg k l i):=qH d4
    have U:Hid (Below w.heap.size w (D.alloc (.cells #[.int .i64 (Ji l i).1,.string (Ji l i).2] 74))):=HB.out.alloc d2 _
    have Z:Hid ((D.alloc (.cells #[.int .i64 (Ji l i).1,.string (Ji l i).2] 74)).ownsRow w.heap.size 74 2 (.slice J (Qg k l i).length K) (Qg k l i).length (Js (Qg k l i))):=World.ownsRow.alloc HO.out _
    clear HF
    generalize Qg k l i=I at *
    go_wp2
    go_roundw
    case rel=>exact ⟨i+1,by omega,by go_num,by rw [HP.out];exact Z.out,U.out⟩
    case measure=>simp [intOf];omega
  ·have e1:i=l.length:=by omega
   subst e1
   go_wp2
   go_ret
   exact ⟨⟨J,K,rfl,d1.out⟩,HB.out⟩
theorem Jbi (n k:Int) (w:World) (j:1<=k) (y:k<=n) (D:n<=12):Calls prog 53 #[.int .i64 n,.int .i64 k] w fun e w'=>e=.returned (.bool true)/\w'=w:=by
 go_enter func53,ntmps53
 go_wp2
 go_ret
 exact ⟨sB (by simp),rfl⟩
theorem JcJ (n k:Int) (w:World) (h:¬ (1<=k/\k<=n/\n<=12)):Calls prog 53 #[.int .i64 n,.int .i64 k] w fun e w'=>e=.returned (.bool false)/\w'=w:=by
 by_cases y:1<=k
 ·by_cases D:k<=n
  ·have j:¬ n<=12:=fun j=>h ⟨y,D,j⟩
   clear h
   go_enter func53,ntmps53
   go_wp2
   go_ret
   exact ⟨sB (by simp),rfl⟩
  ·clear h
   go_enter func53,ntmps53
   go_wp2
   go_ret
   exact ⟨rfl,rfl⟩
 ·clear h
  go_enter func53,ntmps53
  go_wp2
  go_ret
  exact ⟨rfl,rfl⟩
def Xn (k x:Nat):List Nat:=Qi k fun j=>Gf.aQ (JB k) j x
theorem Jmq {K:Nat} (h:QJ w (some ⟨K,0,none⟩) (kK k n)) (hn:1<=n) (hk:1<=k):∃ N O W:Nat->Nat,K < w.heap.size/\∀ i,i < n->w.cell? ⟨K,i,none⟩=some (.slice (some ⟨N i,O i,none⟩) k (W i))/\jU w (some ⟨N i,O i,none⟩) (Xn k i):=by
 have X:kK k n=XB n k (fun i j=>Gf.aQ (JB k) j i):=rfl
 have Q:∀ i,i < n->∃ D G c,w.cell? ⟨K,i,none⟩=some (.slice (some ⟨D,G,none⟩) k c)/\jU w (some ⟨D,G,none⟩) (Xn k i):=fun i I=>by
  rw [X] at h
  have U:Qh (XB n k fun i j=>Gf.aQ (JB k) j i) i=Xn k i:=XD n k _ i I
  obtain ⟨b,o,D,G,c,M,_,Y,y,J⟩:=h.row (i:=i) (by rw [Zs];exact I) (by rw [U];unfold Xn;rw [Jf];omega)
  injection M with M
  injection M with Z e2 _
  subst Z e2
  rw [U] at y J
  have hl:(Xn k i).length=k:=Jf _ _
  rw [hl,Nat.zero_add] at y
  exact ⟨D,G,c,y,⟨XL _ _ (fun j=>Gf.bL _ _ _),Or.inr ⟨D,G,rfl,Y,J⟩⟩⟩
 have y:∀ i,∃ t:Nat×Nat×Nat,i < n->w.cell? ⟨K,i,none⟩=some (.slice (some ⟨t.1,t.2.1,none⟩) k t.2.2)/\jU w (some ⟨t.1,t.2.1,none⟩) (Xn k i):=fun i=>by
  by_cases I:i < n
  ·obtain ⟨D,G,c,J⟩:=Q i I
   exact ⟨(D,G,c),fun _=>J⟩
  ·exact ⟨(0,0,0),fun h=>absurd h I⟩
 refine ⟨fun i=>(Classical.choose (y i)).1,fun i=>(Classical.choose (y i)).2.1,fun i=>(Classical.choose (y i)).2.2,?_,fun i I=>Classical.choose_spec (y i) I⟩
 obtain ⟨_,_,_,J,_⟩:=Q 0 (by omega)
 exact Qf J
theorem NN  (D:1<=k) (G:k<=12) (I:X.length=k):jQ (X.map (Xn k)):=by
 have y:∀ i,i < X.length->(Qh (X.map (Xn k)) i).length=k:=fun i j=>by
  unfold Qh
  rw [List.getD_eq_getElem?_getD,List.getElem?_map,List.getElem?_eq_getElem j]
  exact Jf _ _
 refine ⟨by rw [List.length_map];omega,by rw [List.length_map];omega,fun i j=>?_⟩
 rw [List.length_map] at j
 rw [y i j,y 0 (by omega)]
 exact ⟨D,by omega,rfl⟩
theorem LB (k:Nat) (X:List Nat):QR (X.map (Xn k)):=fun i=>by
 by_cases y:i < X.length
 ·have:Qh (X.map (Xn k)) i=Xn k X[i]:=by unfold Qh;rw [List.getD_eq_getElem?_getD,List.getElem?_map,List.getElem?_eq_getElem y];rfl
  rw [this]
  exact XL _ _ (fun j=>Gf.bL _ _ _)
 ·intro j
  have:Qh (X.map (Xn k)) i=[]:=by unfold Qh;rw [List.getD_eq_getElem?_getD,List.getElem?_eq_none (by rw [List.length_map];omega)];rfl
  rw [this]
  show ([]:List Nat).getD j 0 < 256
  simp
theorem OX  (U:n<=12) (I:X.length=k) (N:X.Nodup) (O:∀ x ∈ X,x < n) (W:k<=n):Lin.n5 k k (vec (X.map (Xn k))) k:=by
 have J:Gf.Bytes X:=fun i=>by
  by_cases y:i < X.length
  ·rw [Gf.aK X i y];have:=O _ (List.getElem_mem y);omega
  ·show X.getD i 0 < 256
   rw [List.getD_eq_getElem?_getD,List.getElem?_eq_none (by omega)];decide
 have h:=PZ (JB k) X (tA k (by omega)) (sI k) J N (by rw [JE];exact I)
 rw [JE,I] at h
 refine BD ?_
 intro c K
 refine h c (fun j D=>?_)
 rw [<- K j D]
 refine Lin.aH fun r Q=>?_
 have G:r < X.length:=by omega
 have M:Qh (X.map (Xn k)) r=Xn k X[r]:=by unfold Qh;rw [List.getD_eq_getElem?_getD,List.getElem?_map,List.getElem?_eq_getElem G];rfl
 show Lin.mu (c r) (Qm (Gf.aQ (JB k) j (Gf.nth X r)))=Lin.mu (c r) (Qm (Gf.nth (Qh (X.map (Xn k)) r) j))
 rw [M,Gf.aK X r G]
 unfold Xn
 rw [Yq _ _ j D]
def QY (X:List Nat):Nat->Nat->Nat:=fun i j=>Gf.aQ X j i
theorem tW (X:List Nat) (i j:Nat):QY X i j < 256:=Gf.bL _ _ _
def iY (k:Nat) (X:List Nat):Nat->Nat->Lin.F:=fun i j=>Qm (rQ k (Gf.nth X i) j)
theorem CQ  (M:Gf.Bytes X) (hn:X.Nodup) (N:X.length=k) (O:k<=256):∀ i j,i < k->j < k->Lin.mm k (Ym (QY X)) (iY k X) i j=Lin.one i j:=by
 obtain ⟨y,Q⟩:=Lin.dR (IC k O)
 have J:=Lin.cK Q
 have U:∀ i m,i < k->m < k->Lin.mm k (Lin.mm k (Ym (QY X)) (iY k X)) (Ym Gf.bZ) i m=Ym Gf.bZ i m:=fun i m G D=>by
  rw [Lin.cN]
  have W:Lin.mm k (Ym (QY X)) (Lin.mm k (iY k X) (Ym Gf.bZ)) i m=Lin.mm k (Ym (QY X)) (fun r m=>Qm (Gf.bZ (Gf.nth X r) m)) i m:=Lin.bQ k (fun _ _=>rfl) (fun r _=>by
   have:=Y6 (JB k) (tA k O) (sI k) (Gf.nth X r) m (M r) (by rw [JE];exact D)
   rw [JE] at this
   rw [<- this]
   exact Lin.aH fun t Y=>by rw [JbF k t Y];rfl)
  rw [W]
  have:=Y6 X M hn i m (by omega) (by rw [N];exact D)
  rw [N] at this
  exact this
 intro i j G I
 have K:Lin.mm k (Lin.mm k (Ym (QY X)) (iY k X)) Lin.one i j=Lin.mm k (Lin.mm k (Ym (QY X)) (iY k X)) (Lin.mm k (Ym Gf.bZ) y) i j:=Lin.bQ k (fun _ _=>rfl) (fun m D=>(J m j D I).symm)
 rw [Lin.fK k _ i j I] at K
 rw [K,<- Lin.cN]
 have Z:Lin.mm k (Lin.mm k (Lin.mm k (Ym (QY X)) (iY k X)) (Ym Gf.bZ)) y i j=Lin.mm k (Ym Gf.bZ) y i j:=Lin.bQ k (fun m D=>U i m G D) (fun _ _=>rfl)
 rw [Z]
 exact J i j G I
theorem eN  (M:Gf.Bytes X) (N:X.Nodup) (O:X.length=k) (Q:k<=256) {x:Nat->Nat->Nat} (U:∀ i j,x i j < 256) (h:∀ i j,i < k->j < k->Lin.mm k (Ym x) (iY k X) i j=Lin.one i j):∀ i j,i < k->j < k->x i j=QY X i j:=by
 have J:=Lin.cK (CQ M N O Q)
 intro i j G I
 refine zA (U i j) (tW X i j) ?_
 have y:Lin.mm k (Ym x) Lin.one i j=Lin.mm k (Ym x) (Lin.mm k (iY k X) (Ym (QY X))) i j:=Lin.bQ k (fun _ _=>rfl) (fun m D=>(J m j D I).symm)
 rw [Lin.fK k _ i j I,<- Lin.cN] at y
 have K:Lin.mm k (Lin.mm k (Ym x) (iY k X)) (Ym (QY X)) i j=Lin.mm k Lin.one (Ym (QY X)) i j:=Lin.bQ k (fun m D=>h i m G D) (fun _ _=>rfl)
 rw [K,Lin.fJ k _ i j G] at y
 exact y
theorem vB {f val:Nat->Nat->Nat} (y:∀ i j,f i j < 256) (D:∀ j c,val j c < 256) (i c:Nat):∀ m,Qm (Jl f val i c m)=Lin.aL m (fun j=>Lin.mu (Qm (f i j)) (Qm (val j c)))
 | 0=>rfl
 | m+1=>by
  show Qm (Jl f val i c m ^^^ Gf.mul (f i m) (val m c))=Lin.ad (Lin.aL m _) _
  rw [qW (nD y i c m) (Gf.aV (y i m) _),vB y D i c m,oU (y i m) (D m c)]
theorem told  (M:Gf.Bytes X) (N:X.Nodup) (O:X.length=k) (Q:k<=256) {u v:Nat->Nat->Nat} (y:∀ j c,u j c < 256) (U:∀ j c,v j c < 256) (c:Nat) (W:∀ i,i < k->v i c=Jl (rQ k) u (Gf.nth X i) c k) (m:Nat) (D:m < k) :
 Jl (QY X) v m c k=u m c:=by
 refine zA (nD (tW X) _ _ _) (y m c) ?_
 rw [vB (tW X) U]
 have G:Lin.aL k (fun j=>Lin.mu (Qm (QY X m j)) (Qm (v j c)))=Lin.mm k (Ym (QY X)) (Lin.mm k (iY k X) (fun j _=>Qm (u j c))) m 0:=Lin.aH fun j I=>by
  rw [W j I,vB (TF k) y]
  rfl
 rw [G,<- Lin.cN]
 have J:Lin.mm k (Lin.mm k (Ym (QY X)) (iY k X)) (fun j _=>Qm (u j c)) m 0=Lin.mm k Lin.one (fun j _=>Qm (u j c)) m 0:=Lin.bQ k (fun t K=>CQ M N O Q m t D K) (fun _ _=>rfl)
 rw [J,Lin.fJ k _ m 0 D]
theorem A0 {f g val:Nat->Nat->Nat} {i c:Nat}:∀ k,(∀ j,j < k->f i j=g i j)->Jl f val i c k=Jl g val i c k
 | 0,_=>rfl
 | k+1,h=>by
  show Jl f val i c k ^^^ _=Jl g val i c k ^^^ _
  rw [A0 k (fun j y=>h j (by omega)),h k (by omega)]
def gF (g:Nat->Nat->Nat) (j m:Nat):List Nat:=(List.range m).flatMap fun i=>Qi j (g i)
theorem Jbm (g:Nat->Nat->Nat) (j m:Nat):gF g j (m+1)=gF g j m ++ Qi j (g m):=by simp [gF,List.range_succ]
theorem YV (g:Nat->Nat->Nat) (j:Nat):∀ m,(gF g j m).length=m*j
 | 0=>by rw [Nat.zero_mul];rfl
 | m+1=>by rw [Jbm,List.length_append,YV g j m,Jf,Nat.succ_mul]
theorem OR {l:List Nat} (h:p < l.length):Gf.nth (l ++ r) p=Gf.nth l p:=by
 show (l ++ r).getD p 0=l.getD p 0
 rw [List.getD_eq_getElem?_getD,List.getD_eq_getElem?_getD,List.getElem?_append_left h]
theorem Jjl {l:List Nat} (h:l.length<=p):Gf.nth (l ++ r) p=Gf.nth r (p - l.length):=by
 show (l ++ r).getD p 0=r.getD (p - l.length) 0
 rw [List.getD_eq_getElem?_getD,List.getD_eq_getElem?_getD,List.getElem?_append_right h]
theorem G4 (g:Nat->Nat->Nat) (j:Nat):∀ m p,p < m*j->Gf.nth (gF g j m) p=g (p / j) (p % j)
 | 0,p,h=>by rw [Nat.zero_mul] at h;exact absurd h (Nat.not_lt_zero _)
 | m+1,p,h=>by
  rw [Jbm]
  by_cases y:p < m*j
  ·rw [OR (by rw [YV];exact y)]
   exact G4 g j m p y
  ·have J : 0 < j := by
    rcases Nat.eq_zero_or_pos j with e | e
    ·rw [e,Nat.mul_zero] at h;exact absurd h (Nat.not_lt_zero _)
    ·exact e
   have D:p - m*j < j:=by rw [Nat.succ_mul] at h;omega
   have K:p=j*m+(p - m*j):=by rw [Nat.mul_comm j m];omega
   have G:p / j=m:=by
    have I:(j*m+(p - m*j)) / j=m:=by rw [Nat.mul_add_div J,Nat.div_eq_of_lt D,Nat.add_zero]
    rw [<- K] at I
    exact I
   have M:p % j=p - m*j:=by
    have:=Nat.mod_add_div p j
    rw [G,Nat.mul_comm j m] at this
    omega
   rw [Jjl (by rw [YV];omega),YV,Yq _ _ _ D,G,M]
theorem OE (g:Nat->Nat->Nat) (j m size:Nat) (h:size<=m*j):(gF g j m).take size=Qi size fun p=>g (p / j) (p % j):=by
 have D:((gF g j m).take size).length=size:=by rw [List.length_take,YV];omega
 refine BO (by rw [D,Jf]) fun p y=>?_
 rw [D] at y
 rw [Yq _ _ p y,<- G4 g j m p (by omega)]
 show ((gF g j m).take size).getD p 0=(gF g j m).getD p 0
 rw [List.getD_eq_getElem?_getD,List.getD_eq_getElem?_getD,List.getElem?_take_of_lt y]
def Y2 (l:List Nat):List UInt8:=l.map fun n=>UInt8.ofNat n
theorem NP (l:List Nat):(Jp l).data.toList=Y2 l:=by
 unfold Jp Y2
 rw [strOfNums_data,List.map_map]
 rfl
theorem RL (l:List Nat):Jp l=⟨(Y2 l).toArray⟩:=by
 unfold Jp strOfNums Y2
 rw [List.map_map]
 rfl
theorem M7 (xs:List (List UInt8)):Lib.join xs []=xs.flatten:=by
 cases xs with
 | nil=>rfl
 | cons x r =>
  rw [Lib.join_cons]
  unfold Lib.joinTail
  simp
theorem NV (g:Nat->Nat->Nat) (j m:Nat):Lib.join (((List.range m).map fun i=>Jp (Qi j (g i))).map (·.data.toList)) []=Y2 (gF g j m):=by
 rw [M7,List.map_map]
 unfold gF Y2
 rw [List.map_flatMap,List.flatMap_def]
 congr 1
 exact List.map_congr_left fun i _=>NP _
theorem SZ (l:List Nat) (size:Nat):(⟨(Y2 l).toArray⟩:ByteArray).extract 0 size=Jp (l.take size):=by
 rw [ByteArray.extract_mk,RL]
 congr 2
 unfold Y2
 rw [List.drop_zero,Nat.sub_zero,List.map_take]
theorem FX (j:1<=k):size<=k*Jk k size:=by
 rcases Nat.lt_or_ge (Jk k size*k) size with h | h
 ·exact absurd (RS j h) (Nat.lt_irrefl _)
 ·rw [Nat.mul_comm];exact h
def Xo (j:List (Int×ByteArray)):List Nat:=j.map fun x=>x.1.toNat
def Z2 (y:List (Int×ByteArray)):Nat->Nat->Nat:=fun j c=>Gf.nth (Zj (Ji y j).2) c
theorem EN (y:List (Int×ByteArray)) (j c:Nat):Z2 y j c < 256:=xK _ _
def gB (k size:Nat) (j:List (Int×ByteArray)):ByteArray:=Jp (Qi size fun p=>Jl (QY (Xo j)) (Z2 j) (p / Jk k size) (p % Jk k size) k)
theorem JpW (k size:Nat) (j:List (Int×ByteArray)):(gB k size j).size=size:=by
 unfold gB
 rw [xG,Jf]
def gS (n k:Nat) (size y:Int) (t:ByteArray):Bool:=decide (0<=size/\size<=1000/\0<=y/\y < n/\t.size=Jk k size.toNat)
theorem I1 (n k:Nat) (size y:Int) (t:ByteArray) (w:World) (a0:1<=k) (a1:k<=n) (hn:n<=12) :
 Calls prog 107 #[.int .i64 (n:Int),.int .i64 (k:Int),.int .i64 size,.agg #[.int .i64 y,.string t]] w fun e w'=>e=.returned (.bool (gS n k size y t))/\Below w.heap.size w w':=by
 obtain ⟨G,I⟩:∃ G,G=w.alloc (.cells #[.int .i64 y,.string t] 74):=⟨_,rfl⟩
 have N:Hid (Below w.heap.size w G):=by rw [I];exact (Below.refl _ _).alloc (Nat.le_refl _) _
 have f0:G.cell? ⟨w.heap.size,0,none⟩=some (.int .i64 y):=by rw [I,World.cell?_alloc_at _ _ _ _ rfl];rfl
 have f1:G.cell? ⟨w.heap.size,1,none⟩=some (.string t):=by rw [I,World.cell?_alloc_at _ _ _ _ rfl];rfl
 have O:Hid (G=w.alloc (.cells #[.int .i64 y,.string t] 74)):=I
 have Q:Hid (∀ W,Calls prog 101 #[.int .i64 (n:Int),.int .i64 (k:Int)] W fun e w'=>e=.returned (.bool true)/\w'=W):=fun W=>by
  have h:=xC (n:Int) (k:Int) W
  rw [decide_eq_true (show (1:Int)<=(k:Int)/\(k:Int)<=(n:Int)/\(n:Int)<=12 by omega)] at h
  exact h
 clear I
 by_cases j:0<=size/\size<=1000
 ·have J:Hid (∀ W,Calls prog 130 #[.int .i64 size] W fun e w'=>e=.returned (.bool true)/\w'=W):=fun W=>GN _ W j
  by_cases K:0<=y
  ·have X:decide (0<=y)=true:=decide_eq_true K
   by_cases M:y < (n:Int)
   ·have Y:decide (y < (n:Int))=true:=decide_eq_true M
    obtain ⟨s,rfl⟩:=Int.eq_ofNat_of_zero_le j.1
    have Z:Hid (∀ W,Calls prog 116 #[.int .i64 (s:Int),.int .i64 (k:Int)] W fun e w'=>e=.returned (.int .i64 ((Jk k s:Nat):Int))/\w'=W):=fun W=>zM s k W a0 (by omega) (by omega)
    have D:Hid (gS n k (s:Int) y t=((t.size:Int)==((Jk k s:Nat):Int))):=by
     show _=_
     unfold gS
     rw [Int.toNat_natCast]
     by_cases U:t.size=Jk k s
     ·rw [decide_eq_true ⟨j.1,j.2,K,M,U⟩,U];simp
     ·rw [decide_eq_false (fun h=>U h.2.2.2.2)]
      symm
      rw [beq_eq_false_iff_ne]
      omega
    rw [D.out]
    clear j
    generalize Jk k s=wd at *
    go_enter func107,ntmps107
    go_wp2_with (rw [<- O.out])
    go_quiet (first | (go_at_call 101;exact Calls.quiet_of_same (Q.out _)) | (go_at_call 130;exact Calls.quiet_of_same (J.out _)) | (go_at_call 116;exact Calls.quiet_of_same (Z.out _)))
    go_wp2
    go_ret
    exact ⟨rfl,below_drewN N.out _⟩
   ·have Y:decide (y < (n:Int))=false:=decide_eq_false M
    have D:Hid (gS n k size y t=false):=decide_eq_false fun h=>M h.2.2.2.1
    rw [D.out]
    clear j M
    go_enter func107,ntmps107
    go_wp2_with (rw [<- O.out])
    go_quiet (first | (go_at_call 101;exact Calls.quiet_of_same (Q.out _)) | (go_at_call 130;exact Calls.quiet_of_same (J.out _)))
    go_wp2
    go_ret
    exact ⟨rfl,below_drewN N.out _⟩
  ·have X:decide (0<=y)=false:=decide_eq_false K
   have D:Hid (gS n k size y t=false):=decide_eq_false fun h=>K h.2.2.1
   rw [D.out]
   clear j K
   go_enter func107,ntmps107
   go_wp2_with (rw [<- O.out])
   go_quiet (first | (go_at_call 101;exact Calls.quiet_of_same (Q.out _)) | (go_at_call 130;exact Calls.quiet_of_same (J.out _)))
   go_wp2
   go_ret
   exact ⟨rfl,below_drewN N.out _⟩
 ·have J:Hid (∀ W,Calls prog 130 #[.int .i64 size] W fun e w'=>e=.returned (.bool false)/\w'=W):=fun W=>Jqt _ W j
  have D:Hid (gS n k size y t=false):=decide_eq_false fun h=>j ⟨h.1,h.2.1⟩
  rw [D.out]
  clear j
  go_enter func107,ntmps107
  go_wp2_with (rw [<- O.out])
  go_quiet (first | (go_at_call 101;exact Calls.quiet_of_same (Q.out _)) | (go_at_call 130;exact Calls.quiet_of_same (J.out _)))
  go_wp2
  go_ret
  exact ⟨rfl,below_drewN N.out _⟩
theorem N5 {y:Int} {t:ByteArray} (I:size<=1000):(!gS n k (size:Int) y t)=j4 (n:Int) (Jk k size) (y,t):=by
 unfold gS j4
 rw [Int.toNat_natCast]
 by_cases D:y < 0
 ·rw [decide_eq_false (fun h=>by omega),decide_eq_true D];rfl
 ·by_cases G:(n:Int)<=y
  ·rw [decide_eq_false (fun h=>by omega),decide_eq_true G];simp
  ·by_cases j:t.size=Jk k size
   ·rw [decide_eq_true ⟨by omega,by omega,by omega,by omega,j⟩,decide_eq_false D,decide_eq_false G,decide_eq_true j];rfl
   ·rw [decide_eq_false (fun h=>j h.2.2.2.2),decide_eq_false D,decide_eq_false G,decide_eq_false j];rfl
theorem WJ (I J ps n k size:Nat) (y:Int) (t:ByteArray) (w:World) (a3:1<=k) (a4:k<=n) (hn:n<=12) (hs:size<=1000) (M:w.cell? ⟨I,0,none⟩=some (.int .i64 (n:Int))) (N:w.cell? ⟨J,0,none⟩=some (.int .i64 (k:Int))) (O:w.cell? ⟨ps,0,none⟩=some (.int .i64 (size:Int))) :
 Calls prog 112 (#[.agg #[.int .i64 y,.string t]] ++ #[.pointer (some ⟨I,0,none⟩),.pointer (some ⟨J,0,none⟩),.pointer (some ⟨ps,0,none⟩)]) w fun e K=>e=.returned (.bool (j4 (n:Int) (Jk k size) (y,t)))/\Below w.heap.size w K:=by
 have Y:=Qf M
 have Z:=Qf N
 have a0:=Qf O
 have Q:Hid ((!gS n k (size:Int) y t)=j4 (n:Int) (Jk k size) (y,t)):=N5 hs
 rw [<- Q.out]
 obtain ⟨j,D⟩:∃ j,j=w.alloc (.cells #[.int .i64 y,.string t] 74):=⟨_,rfl⟩
 have G:Below w.heap.size w j:=by rw [D];exact (Below.refl _ _).alloc (Nat.le_refl _) _
 have U:Hid (Below w.heap.size w j):=G
 have f0:j.cell? ⟨w.heap.size,0,none⟩=some (.int .i64 y):=by rw [D,World.cell?_alloc_at _ _ _ _ rfl];rfl
 have f1:j.cell? ⟨w.heap.size,1,none⟩=some (.string t):=by rw [D,World.cell?_alloc_at _ _ _ _ rfl];rfl
 have g1:j.cell? ⟨I,0,none⟩=some (.int .i64 (n:Int)):=(G.cell (p:=⟨I,0,none⟩) Y).trans M
 have g2:j.cell? ⟨J,0,none⟩=some (.int .i64 (k:Int)):=(G.cell (p:=⟨J,0,none⟩) Z).trans N
 have g3:j.cell? ⟨ps,0,none⟩=some (.int .i64 (size:Int)):=(G.cell (p:=⟨ps,0,none⟩) a0).trans O
 have a1:Hid (j=w.alloc (.cells #[.int .i64 y,.string t] 74)):=D
 have W:=I1 n k (size:Int) y t j a3 a4 hn
 clear D G M N O Q
 generalize gS n k (size:Int) y t=fb at *
 go_enter func112,ntmps112
 go_wp2_with (rw [<- a1.out])
 refine W.mono ?_
 rintro e K ⟨rfl,X⟩
 have a2:Hid (Below w.heap.size w K):=U.out.trans (X.mono U.out.size)
 clear W X
 go_wp2
 go_ret
 exact ⟨rfl,a2.out⟩
end Go.Proofs.YtmikbldbfnlfjaaGreatDoor

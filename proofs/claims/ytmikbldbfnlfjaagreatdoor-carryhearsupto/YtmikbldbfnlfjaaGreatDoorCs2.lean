/- Texts laid together. -/
import Derived.Test.YtmikbldbfnlfjaaGreatDoorCs1
import Derived.Deep.OwnRows
import Derived.Shelf.LaysM
import Derived.Shelf.Strconv.Clone
import Derived.Shelf.GgClosure.StringsIndexFuncTop
import Derived.Laws.RangeAny
import Derived.Sort.Grow
import Derived.StillTailTactics
set_option maxRecDepth 10000
set_option maxHeartbeats 1000000
namespace Go.Proofs
open Go.Shelf
def Tryz.lays316_ren : Go.Shelf.Ren := ⟨fun | 316 => 55 | n => n, fun | 9 => 9 | 3 => 3 | 4 => 4 | 37 => 138 | 0 => 0 | 127 => 139 | 5 => 5 | n => n, fun | n => n⟩
theorem Tryz.lays316 : Go.Proofs.LaysM.n316 Tryz.prog Tryz.lays316_ren := {
  mixed := by kernel_rfl
  f316 := Tryz.func55.trans (congrArg some (by kernel_rfl))
  t0 := Tryz.underlying0
  a0 := Tryz.isAgg0
  z0 := Tryz.sizeOf0
  v0 := Tryz.zeroValue0
  t3 := Tryz.underlying3
  a3 := Tryz.isAgg3
  z3 := Tryz.sizeOf3
  v3 := Tryz.zeroValue3
  t4 := Tryz.underlying4
  a4 := Tryz.isAgg4
  z4 := Tryz.sizeOf4
  v4 := Tryz.zeroValue4
  t9 := Tryz.underlying9
  a9 := Tryz.isAgg9
  z9 := Tryz.sizeOf9
  v9 := Tryz.zeroValue9
  t37 := Tryz.underlying138
  a37 := Tryz.isAgg138
  z37 := Tryz.sizeOf138
  v37 := Tryz.zeroValue138
  t127 := Tryz.underlying139
  a127 := Tryz.isAgg139
  z127 := Tryz.sizeOf139
  v127 := Tryz.zeroValue139
  t5 := Tryz.underlying5
  a5 := Tryz.isAgg5
  z5 := Tryz.sizeOf5
  v5 := Tryz.zeroValue5
  i0 := by kernel_rfl
  i3 := by kernel_rfl
  i4 := by kernel_rfl
  i5 := by kernel_rfl
  i9 := by kernel_rfl
  i37 := by kernel_rfl
  i127 := by kernel_rfl }
open Go.RowKit in
/-- internal/stringslite.Clone. -/
theorem Tryz.stringslite_Clone (s : ByteArray) (w : World) (hlim : s.size ≤ 281474976710656) :
    Calls Tryz.prog 55 #[.string s] w fun e w' => e = .returned (.string s) ∧ Below w.heap.size w w' := Any.stringslite_Clone Tryz.lays316 s w hlim
def Tryz.laysGw17_ren : Go.Shelf.Ren := ⟨fun | 17 => 103 | 15 => 128 | 20 => 149 | n => n, fun | 9 => 9 | 23 => 174 | 4 => 4 | 3 => 3 | 0 => 0 | 21 => 21 | n => n, fun | n => n⟩
theorem Tryz.laysGw17 : Go.Proofs.LaysGw.n17 Tryz.prog Tryz.laysGw17_ren := {
  mixed := by kernel_rfl
  f15 := Tryz.func128.trans (congrArg some (by kernel_rfl))
  f17 := Tryz.func103.trans (congrArg some (by kernel_rfl))
  f20 := Tryz.func149.trans (congrArg some (by kernel_rfl))
  t0 := Tryz.underlying0
  a0 := Tryz.isAgg0
  z0 := Tryz.sizeOf0
  v0 := Tryz.zeroValue0
  i0 := by kernel_rfl
  t3 := Tryz.underlying3
  a3 := Tryz.isAgg3
  z3 := Tryz.sizeOf3
  v3 := Tryz.zeroValue3
  i3 := by kernel_rfl
  t4 := Tryz.underlying4
  a4 := Tryz.isAgg4
  z4 := Tryz.sizeOf4
  v4 := Tryz.zeroValue4
  i4 := by kernel_rfl
  t9 := Tryz.underlying9
  a9 := Tryz.isAgg9
  z9 := Tryz.sizeOf9
  v9 := Tryz.zeroValue9
  i9 := by kernel_rfl
  t21 := Tryz.underlying21
  a21 := Tryz.isAgg21
  z21 := Tryz.sizeOf21
  v21 := Tryz.zeroValue21
  i21 := by kernel_rfl
  t23 := Tryz.underlying174
  a23 := Tryz.isAgg174
  z23 := Tryz.sizeOf174
  v23 := Tryz.zeroValue174
  i23 := by kernel_rfl }
open Go.RowKit in
/-- strings.ContainsFunc. -/
theorem Tryz.strings_ContainsFunc (g : Nat) (lb : Array Value) (eg : ∀ args w, (callFunc g args).run Tryz.prog w = .ok (.enter g args) w) (p : Nat → Bool) (s : ByteArray) (w : World) (hp : PredAt Tryz.prog g lb encR p w) :
    Calls Tryz.prog 103 #[.string s, .func (.func g) #[] lb] w fun e w' => e = .returned (.bool (decide (0 ≤ Lib.idxFunc p true s))) ∧ Below w.heap.size w w' := Any.strings_ContainsFunc Tryz.laysGw17 g lb eg p s w hp
end Go.Proofs
namespace Go.Proofs.YtmikbldbfnlfjaaGreatDoor
open Go.RowKit
variable {w w':World}{p q:Option Addr}{M:List (List Nat)}{l:List Nat}{B g n i:Nat}{v:Value}{T E:TypeId}
def QJ (w:World) (p:Option Addr) (M:List (List Nat)):Prop :=
 M=[]∨∃ b o,p=some ⟨b,o,none⟩/\b < w.heap.size/\∀ i,i < M.length->∃ q c,w.cell? ⟨b,o+i,none⟩=some (.slice q (Qh M i).length c)/\jU w q (Qh M i)/\(q=none->c=0)
theorem QJ.below  (h:QJ w p M) (j:Below w.heap.size w w'):QJ w' p M:=by
 rcases h with h | ⟨b,o,G,y,I⟩
 ·exact Or.inl h
 ·refine Or.inr ⟨b,o,G,Nat.lt_of_lt_of_le y j.size,fun i J=>?_⟩
  obtain ⟨q,c,K,D⟩:=I i J
  exact ⟨q,c,(j.cell (p:=⟨b,o+i,none⟩) y).trans K,D.1.below j,D.2⟩
theorem QJ.drewN  (h:QJ w p M) (n:Nat):QJ (w.drewN n) p M:=h.below (below_drewN (Below.refl _ _) n)
def jQ (M:List (List Nat)):Prop:=1<=M.length/\M.length<=16/\∀ i,i < M.length->1<=(Qh M i).length/\(Qh M i).length<=16/\(Qh M i).length=(Qh M 0).length
theorem KF:(Tryz.prog.info? 5).map (fun i=>(i.zero,i.size,i.bytes))=some (some (ZM 0),1,1):=by kernel_rfl
def JB (k:Nat):List Nat:=List.range k
theorem jU.kept  {row:Option Nat} (h:jU w q l) (D:w.grownBy w' row) (J:∀ ad,q=some ad->some ad.block≠row):jU w' q l:=by
 refine ⟨h.lt,?_⟩
 rcases h.cells with h | ⟨b,o,j,y,G⟩
 ·exact Or.inl h
 ·refine Or.inr ⟨b,o,j,Nat.lt_of_lt_of_le y D.size,fun i I=>?_⟩
  exact (World.cell?_of_block (a:=⟨b,o+i,none⟩) (D.block b y (J _ j))).trans (G i I)
def Ja7 (B:Nat) (w:World) (e:TypeId) (v:Value) (j:List Value) (M:List (List Nat)):Prop :=
 JM w B e v j/\j.length=M.length/\∀ i,i < M.length->∃ q c,j[i]?=some (.slice q (Qh M i).length c)/\jU w q (Qh M i)/\(q=none->c=0)/\∀ ad,q=some ad->B<=ad.block/\ad.block < w.heap.size/\v.ownBlock≠some ad.block
def T2 (B:Nat) (w:World) (e:TypeId) (v:Value) (M:List (List Nat)):Prop:=∃ j,Ja7 B w e v j M
theorem T2.nil (B:Nat) (w:World) (e:TypeId):T2 B w e (.slice none 0 0) []:=⟨[],JM.nil w B e,rfl,fun _ j=>absurd j (Nat.not_lt_zero _)⟩
theorem pA.form  {e:TypeId}  (h:pA w B e v l) (j:Gf.Bytes l):∃ q c,v=.slice q l.length c/\jU w q l/\(q=none->c=0)/\∀ ad,q=some ad->B<=ad.block/\ad.block < w.heap.size:=by
 rcases h.2 with ⟨rfl,y⟩ | ⟨g,D,N,rfl,G,I,O,Q,U,W⟩
 ·have:l=[]:=List.length_eq_zero_iff.1 y
  subst this
  exact ⟨none,0,rfl,⟨j,Or.inl rfl⟩,fun _=>rfl,fun ad h=>by cases h⟩
 ·refine ⟨some ⟨g,0,none⟩,D,rfl,?_,(fun h=>by cases h),(fun ad h=>by injection h with h;subst h;exact ⟨G,(Array.getElem?_eq_some_iff.1 I).1⟩)⟩
  obtain ⟨p,c,J,K⟩:=h.seg j
  injection J with M X Y
  subst M
  exact K
theorem Ja7.snoc {y K:World} {N r:Value} {X:List Value} {row:List Nat} {o:Obj} (h:Ja7 B w T v X M) (hB:B<=w.heap.size) (hr:pA y w.heap.size E r row) (a5:Gf.Bytes row) (hb:Below w.heap.size w y)
 (hv:JM K B T N (X ++ [r]))
 (I:(y.alloc o).grownBy K v.ownBlock) (j:N.ownBlock=v.ownBlock∨N.ownBlock=some (y.alloc o).heap.size):Ja7 B K T N (X ++ [r]) (M ++ [row]):=by
 obtain ⟨a2,Y,a3⟩:=h
 have hz:=hb.size
 have Z:(y.alloc o).heap.size=y.heap.size+1:=by simp
 have a0:∀ k,v.ownBlock=some k->k < w.heap.size:=fun k O=>(a2.block O).2
 have J:y.grownBy K v.ownBlock:=⟨I.os,I.tape,I.output,by have:=I.size;omega,fun k O a4=>(I.block k (by omega) a4).trans (Below.heap_alloc y o k O)⟩
 refine ⟨hv,by simp [Y],fun i hi=>?_⟩
 rw [List.length_append,List.length_singleton] at hi
 by_cases a1:i < M.length
 ·obtain ⟨q,c,Q,U,W,G⟩:=a3 i a1
  rw [JbW M row i a1]
  refine ⟨q,c,by rw [List.getElem?_append_left (by omega)];exact Q,(U.below hb).kept J (fun ad D=>fun e=>(G ad D).2.2 e.symm),W,fun ad D=>?_⟩
  have:=G ad D
  refine ⟨this.1,by have:=J.size;omega,?_⟩
  rcases j with j | j
  ·rw [j];exact this.2.2
  ·rw [j,Z];intro e;have:=Option.some.inj e;omega
 ·obtain rfl:i=M.length:=by omega
  rw [JbX]
  obtain ⟨q,c,Q,U,W,G⟩:=hr.form a5
  refine ⟨q,c,by rw [List.getElem?_append_right (by omega),Y,Nat.sub_self,Q];rfl,U.kept J (fun ad D=>?_),W,fun ad D=>?_⟩
  ·have:=G ad D
   intro e
   have:=a0 _ e.symm
   omega
  ·have:=G ad D
   refine ⟨by omega,by have:=J.size;omega,?_⟩
   rcases j with j | j
   ·rw [j];intro e;have:=a0 _ e;omega
   ·rw [j,Z];intro e;have:=Option.some.inj e;omega
theorem T2.tU   (h:T2 B w T v M):∃ p c,v=.slice p M.length c/\QJ w p M:=by
 obtain ⟨U,y,j,D⟩:=h
 rcases y.cells with ⟨rfl,rfl⟩ | ⟨g,G,rfl,hB,I,J⟩
 ·have:M=[]:=List.length_eq_zero_iff.1 (by simpa using j.symm)
  subst this
  exact ⟨none,0,rfl,Or.inl rfl⟩
 ·refine ⟨some ⟨g,0,none⟩,G,by rw [j],Or.inr ⟨g,0,rfl,I,fun i K=>?_⟩⟩
  obtain ⟨q,c,N,O,Q,_⟩:=D i K
  refine ⟨q,c,?_,O,Q⟩
  rw [Nat.zero_add]
  exact J i _ N
theorem Jti:(Tryz.prog.info? 138).map (fun i=>(i.zero,i.size,i.bytes))=some (some (.slice none 0 0),1,24):=by kernel_rfl
def Zo (w:World) (B:Nat) (E:TypeId) (g n:Nat) (l:List Nat):Prop:=w.ownsRow B E 1 (.slice (some ⟨g,0,none⟩) n n) n (l.map ZM)
theorem Zo.made (w:World) (B:Nat) (E:TypeId) (n:Nat) (hB:B<=w.heap.size) (j:n<=1000000):Zo (w.alloc (.cells (madeCells #[ZM 0] n) E)) B E w.heap.size n (Qi n fun _=>0):=by
 have h:=World.ownsRow_lit (base:=B) (e:=E) (size:=1) w (madeCells #[ZM 0] n) n hB (by unfold maxLen;omega) (by have:=congrArg List.length (toList_madeCells_one (ZM 0) n);simpa using this)
 rw [toList_madeCells_one] at h
 have e:(Qi n fun _=>0).map ZM=List.replicate n (ZM 0):=by
  simp [Qi,List.map_const']
 unfold Zo
 rw [e]
 exact h
theorem Zo.cell   (h:Zo w B E g n l) (j:Nat) (y:j < n) (D:l.length=n):w.cell? ⟨g,j,none⟩=some (.int .u8 ((Gf.nth l j:Nat):Int)):=by
 rw [World.ownsRow.cellAt (w:=w) h j (by omega),List.getElem?_map,List.getElem?_eq_getElem (by omega),Gf.aK l j (by omega)]
 rfl
theorem Zo.free   (h:Zo w B E g n l) (j:Nat):w.frozen? ⟨g,j,none⟩=false:=World.ownsRow.frozenAt (w:=w) h j
theorem Zo.set   {f:Nat->Nat} (h:Zo w B E g n (Qi n f)) (j v:Nat):Zo (w.setCell ⟨g,j,none⟩ (.int .u8 (v:Int))) B E g n (Qi n (fun i=>if i=j then v else f i)):=by
 have:=(World.ownsRow.stored (w:=w) h j (ZM v)).1
 rw [<- List.map_set,Jp6] at this
 exact this
theorem Zo.drewN   (h:Zo w B E g n l) (m:Nat):Zo (w.drewN m) B E g n l:=World.ownsRow.kept h (JO w m none) (Or.inr (by simp [Value.ownBlock]))
theorem Zo.own   (h:Zo w B E g n l) (j:l.length=n):pA w B E (.slice (some ⟨g,0,none⟩) n n) l:=by
 unfold pA
 rw [j]
 exact h
theorem Zo.lt   (h:Zo w B E g n l):B<=g/\g < w.heap.size:=World.ownsRow.lt h g rfl
def jM (A B:List (List Nat)) (i j:Nat):Nat->Nat
 | 0=>0
 | k+1=>jM A B i j k ^^^ Gf.mul (Gf.nth (Qh A i) k) (Gf.nth (Qh B k) j)
def xW (A B:List (List Nat)) (m:Nat):List (List Nat):=(List.range m).map fun i=>Qi (Qh B 0).length fun j=>jM A B i j B.length
def QR (M:List (List Nat)):Prop:=∀ i,Gf.Bytes (Qh M i)
theorem o8 (A B:List (List Nat)) (y:QR A) (i j:Nat):∀ k,jM A B i j k < 256
 | 0=>by show 0 < 256;decide
 | k+1=>Gf.iK (o8 A B y i j k) (Gf.aV (y i k) _)
theorem QJ.row  (h:QJ w p M) (G:i < M.length) (I:0 < (Qh M i).length) :
 ∃ b o y D c,p=some ⟨b,o,none⟩/\b < w.heap.size/\y < w.heap.size/\w.cell? ⟨b,o+i,none⟩=some (.slice (some ⟨y,D,none⟩) (Qh M i).length c)/\∀ j,j < (Qh M i).length->w.cell? ⟨y,D+j,none⟩=some (.int .u8 ((Gf.nth (Qh M i) j:Nat):Int)):=by
 rcases h with h | ⟨b,o,J,K,N⟩
 ·rw [h] at G;exact absurd G (Nat.not_lt_zero _)
 ·obtain ⟨q,c,O,Q,_⟩:=N i G
  rcases Q.cells with U | ⟨y,D,W,X,Y⟩
  ·rw [U] at I;exact absurd I (Nat.lt_irrefl _)
  ·subst W
   exact ⟨b,o,y,D,c,J,K,X,O,Y⟩
theorem oC (a b:Nat) (w:World) (j:a < 256) (y:b < 256) :
 Calls Tryz.prog 143 #[.int .u8 (a:Int),.int .u8 (b:Int)] w fun e w'=>e=.returned (.int .u8 ((a ^^^ b:Nat):Int))/\w'=w:=by
 go_enter Tryz.func143,Tryz.ntmps143
 go_wp2
 go_ret
 exact ⟨l4 (u8_xor_nat a b j y),rfl⟩
theorem CP (a:Nat) (w:World) (j:a < 256)  :
 Calls Tryz.prog 162 #[.int .u8 (a:Int)] w fun e w'=>e=.returned (.int .u8 ((Gf.tx a:Nat):Int))/\w'=w:=by
 by_cases h:a < 128
 ·go_enter Tryz.func162,Tryz.ntmps162
  go_wp2
  go_ret
  exact ⟨l4 (by simp [Gf.tx,h]),rfl⟩
 ·go_enter Tryz.func162,Tryz.ntmps162
  go_wp2_with fail
  have e:((a:Int)*2 % 256)=((a*2 - 256:Nat):Int):=by omega
  rw [e]
  refine (oC (a*2 - 256) 29 _ (by omega) (by decide)).mono ?_
  rintro e w' ⟨rfl,rfl⟩
  go_wp2
  go_ret
  exact ⟨l4 (by simp [Gf.tx,h]),rfl⟩
theorem S5 (a b:Nat) (w:World) (J:a < 256) (M:b < 256) :
 Calls Tryz.prog 144 #[.int .u8 (a:Int),.int .u8 (b:Int)] w fun e w'=>e=.returned (.int .u8 ((Gf.mul a b:Nat):Int))/\w'=w:=by
 go_enter Tryz.func144,Tryz.ntmps144
 go_wp2
 go_loop [0,5,7] (fun x p i=>∃ k:Nat,k<=8/\i=.int .i64 k/\x=.int .u8 (Gf.dP a k:Nat)/\p=.int .u8 (Gf.part a b k:Nat)) (fun _ _ i=>8 - (intOf i).toNat)
 case atStart=>exact ⟨0,by omega,rfl,rfl,rfl⟩
 case round =>
  obtain ⟨k,N,rfl,rfl,rfl⟩:=hrel
  have y:=Gf.cY J k
  have G:=Gf.eF J b k
  have I:=Jq5 b k M
  by_cases O:k < 8
  ·by_cases j:Gf.bT b k=1
   ·have D:Hid (Gf.part a b (k+1)=Gf.part a b k ^^^ Gf.dP a k):=by show _=_;simp [Gf.part,j]
    rw [decide_eq_true j] at I
    clear j
    go_wp2_with (first | (go_at_call 143;refine (oC _ _ _ G y).mono ?_;rintro e w' ⟨rfl,rfl⟩) | (go_at_call 162;refine (CP _ _ y).mono ?_;rintro e w' ⟨rfl,rfl⟩))
    go_round
    case rel=>exact ⟨k+1,by omega,by go_num,rfl,by rw [D.out]⟩
    case measure=>simp [intOf];omega
   ·have D:Hid (Gf.part a b (k+1)=Gf.part a b k):=by show _=_;simp [Gf.part,j]
    rw [decide_eq_false j] at I
    clear j
    go_wp2_with (first | (go_at_call 143;refine (oC _ _ _ G y).mono ?_;rintro e w' ⟨rfl,rfl⟩) | (go_at_call 162;refine (CP _ _ y).mono ?_;rintro e w' ⟨rfl,rfl⟩))
    go_round
    case rel=>exact ⟨k+1,by omega,by go_num,rfl,by rw [D.out]⟩
    case measure=>simp [intOf];omega
  ·go_wp2
   go_ret
   have K:k=8:=by omega
   subst K
   exact ⟨rfl,rfl⟩
theorem vW (a n:Nat) (w:World) (K:a < 256) (M:n < 256) :
 Calls Tryz.prog 182 #[.int .u8 (a:Int),.int .i64 (n:Int)] w fun e w'=>e=.returned (.int .u8 ((Gf.fM a n:Nat):Int))/\w'=w:=by
 go_enter Tryz.func182,Tryz.ntmps182
 go_wp2
 go_loop [0,5,7] (fun x p i=>∃ k:Nat,k<=8/\i=.int .i64 k/\x=.int .u8 (Gf.sq a k:Nat)/\p=.int .u8 (Gf.pw a n k:Nat)) (fun _ _ i=>8 - (intOf i).toNat)
 case atStart=>exact ⟨0,by omega,rfl,rfl,rfl⟩
 case round =>
  obtain ⟨k,N,rfl,rfl,rfl⟩:=hrel
  have y:=Gf.qI K k
  have I:=Gf.lL (a:=a) n k
  have G:=Jnr n k M
  by_cases O:k < 8
  ·by_cases j:Gf.bT n k=1
   ·have D:Hid (Gf.pw a n (k+1)=Gf.mul (Gf.pw a n k) (Gf.sq a k)):=by show _=_;simp [Gf.pw,j]
    rw [decide_eq_true j] at G
    clear j
    go_wp2_with fail
    refine (S5 _ _ _ I y).mono ?_
    rintro e w' ⟨rfl,rfl⟩
    go_wp2_with fail
    refine (S5 _ _ _ y y).mono ?_
    rintro e w' ⟨rfl,rfl⟩
    go_wp2
    go_round
    case rel=>exact ⟨k+1,by omega,by go_num,rfl,by rw [D.out]⟩
    case measure=>simp [intOf];omega
   ·have D:Hid (Gf.pw a n (k+1)=Gf.pw a n k):=by show _=_;simp [Gf.pw,j]
    rw [decide_eq_false j] at G
    clear j
    go_wp2_with fail
    refine (S5 _ _ _ y y).mono ?_
    rintro e w' ⟨rfl,rfl⟩
    go_wp2
    go_round
    case rel=>exact ⟨k+1,by omega,by go_num,rfl,by rw [D.out]⟩
    case measure=>simp [intOf];omega
  ·go_wp2
   go_ret
   have J:k=8:=by omega
   subst J
   exact ⟨rfl,rfl⟩
theorem JmA (a:Nat) (w:World) (j:a < 256) :
 Calls Tryz.prog 184 #[.int .u8 (a:Int)] w fun e w'=>e=.returned (.int .u8 ((Gf.inv a:Nat):Int))/\w'=w:=by
 go_enter Tryz.func184,Tryz.ntmps184
 go_wp2_with fail
 refine (vW a 254 _ j (by decide)).mono ?_
 rintro e w' ⟨rfl,rfl⟩
 go_wp2
 go_ret
 exact ⟨rfl,rfl⟩
theorem W9 (r:Nat) (D:Nat->Value) (j:Nat) (v:Value):((List.range r).map D).set j v=(List.range r).map (fun i=>if i=j then v else D i):=by
 apply List.ext_getElem?
 intro i
 rw [List.getElem?_set,List.getElem?_map,List.getElem?_map]
 by_cases y:i < r
 ·rw [List.getElem?_range y]
  by_cases e:j=i
  ·subst e;simp [y]
  ·have G:¬ i=j:=fun h=>e h.symm
   simp [e,G]
 ·rw [List.getElem?_eq_none (by simpa using y)]
  by_cases e:j=i
  ·subst e;simp [y]
  ·simp [e]
theorem AX (n:Int) (w:World) :
 Calls Tryz.prog 183 #[.int .i64 n] w fun e w'=>e=.returned (.int .i64 ((red n:Nat):Int))/\w'=w:=by
 have y:Hid (((red n:Nat):Int)=n % 255):=M4 n
 by_cases D:0<=n
 ·go_enter Tryz.func183,Tryz.ntmps183
  go_wp2
  go_ret
  exact ⟨l4 y.out.symm,rfl⟩
 ·have j:Hid (n.tmod 255=-((-n) % 255)):=by show _=_;rw [Jq7,Int.tmod_eq_emod_of_nonneg (by omega)]
  have G:-255 < n.tmod 255:=by rw [j.out];omega
  have I:n.tmod 255<=0:=by rw [j.out];omega
  go_enter Tryz.func183,Tryz.ntmps183
  go_wp2
  ·go_ret
   exact ⟨l4 (by have:=j.out;have:=y.out;omega),rfl⟩
  ·go_ret
   exact ⟨l4 (by have:=j.out;have:=y.out;omega),rfl⟩
theorem LQ (n:Int) (w:World) (j:0 < n) :
 Calls Tryz.prog 171 #[.int .u8 0,.int .i64 n] w fun e w'=>e=.returned (.tuple #[.int .u8 0,.nilIface])/\w'=w:=by
 go_enter Tryz.func171,Tryz.ntmps171
 go_wp2
 go_ret2
 exact ⟨rfl,rfl⟩
theorem Jtk (a:Nat) (n:Int) (w:World) (y:a < 256) (h:a=0->n=0) :
 Calls Tryz.prog 171 #[.int .u8 (a:Int),.int .i64 n] w fun e w'=>e=.returned (.tuple #[.int .u8 (Gf.fM a (red n):Nat),.nilIface])/\w'=w:=by
 have D:=UP n
 by_cases j:a=0
 ·obtain rfl:=h j
  subst j
  clear h
  go_enter Tryz.func171,Tryz.ntmps171
  go_wp2_with (first | (go_at_call 183;refine (AX 0 _).mono ?_;rintro e w' ⟨rfl,rfl⟩) | (go_at_call 182;refine (vW 0 (red 0) _ (by decide) (by omega)).mono ?_;rintro e w' ⟨rfl,rfl⟩))
  go_ret2
  exact ⟨rfl,rfl⟩
 ·have G:((a:Int)==0)=false:=by simpa using j
  clear h j
  go_enter Tryz.func171,Tryz.ntmps171
  go_wp2_with (first | (go_at_call 183;refine (AX n _).mono ?_;rintro e w' ⟨rfl,rfl⟩) | (go_at_call 182;refine (vW a (red n) _ y (by omega)).mono ?_;rintro e w' ⟨rfl,rfl⟩))
  go_ret2
  exact ⟨rfl,rfl⟩
theorem NL (z:Addr) (w:World) (j:w.cell? ⟨11,0,none⟩=some (.iface 252 (.pointer (some z)))) :
 Calls Tryz.prog 175 #[.int .u8 0] w fun e w'=>e=.returned (.tuple #[.int .u8 0,.iface 252 (.pointer (some z))])/\Below w.heap.size w w':=by
 go_enter Tryz.func175,Tryz.ntmps175
 go_wp2
 go_quiet (fail)
 go_wp2
 go_ret2
 exact ⟨rfl,below_drewN (Below.refl _ _) _⟩
theorem TG (a:Nat) (w:World) (y:a < 256) (j:a≠0) :
 Calls Tryz.prog 175 #[.int .u8 (a:Int)] w fun e w'=>e=.returned (.tuple #[.int .u8 (Gf.inv a:Nat),.nilIface])/\w'=w:=by
 have D:((a:Int)==0)=false:=by simpa using j
 clear j
 go_enter Tryz.func175,Tryz.ntmps175
 go_wp2_with (go_at_call 184;refine (JmA a _ y).mono ?_;rintro e w' ⟨rfl,rfl⟩)
 go_ret2
 exact ⟨rfl,rfl⟩
theorem WU  (h:jU w q l) (c:Nat):(convert 138 9 (.slice q l.length c)).run Tryz.prog w=.ok (.string (Jp l)) w:=by
 rcases h.cells with j | ⟨b,o,rfl,G,D⟩
 ·subst j
  cases q with
  | none=>exact run_convert_bytes_nil w 138 5 Tryz.underlying138 Tryz.underlying5 0 c 9 Tryz.underlying9
  | some ad =>
   have j:(loadCells ad 0).run Tryz.prog w=.ok (([]:List Int).map (Value.int .u8)).toArray w:=by simp [loadCells,loadCellsFrom]
   rw [List.length_nil,run_convert_bytes_string w 138 9 5 _ 0 c Tryz.underlying138 Tryz.underlying5 Tryz.underlying9,run_bytesToString w ad 0 c [] j]
   rfl
 ·refine run_convert_bytes_arg w 138 5 Tryz.underlying138 Tryz.underlying5 b o l.length c (l.map Int.ofNat) (by simp) (fun i y=>?_) 9 Tryz.underlying9
  rw [D i y,Gf.aK l i y,List.getD_eq_getElem?_getD,List.getElem?_map,List.getElem?_eq_getElem y]
  rfl
theorem xC (n k:Int) (w:World):Calls Tryz.prog 101 #[.int .i64 n,.int .i64 k] w fun e w'=>e=.returned (.bool (decide (1<=k/\k<=n/\n<=12)))/\w'=w:=by
 by_cases y:1<=k
 ·by_cases D:k<=n
  ·by_cases G:n<=12
   ·have j:Hid (decide (1<=k/\k<=n/\n<=12)=true):=decide_eq_true ⟨y,D,G⟩
    rw [j.out]
    go_enter Tryz.func101,Tryz.ntmps101
    go_wp2
    go_ret
    exact ⟨rfl,rfl⟩
   ·have j:Hid (decide (1<=k/\k<=n/\n<=12)=false):=decide_eq_false fun h=>G h.2.2
    rw [j.out]
    go_enter Tryz.func101,Tryz.ntmps101
    go_wp2
    go_ret
    exact ⟨rfl,rfl⟩
  ·have j:Hid (decide (1<=k/\k<=n/\n<=12)=false):=decide_eq_false fun h=>D h.2.1
   rw [j.out]
   go_enter Tryz.func101,Tryz.ntmps101
   go_wp2
   go_ret
   exact ⟨rfl,rfl⟩
 ·have j:Hid (decide (1<=k/\k<=n/\n<=12)=false):=decide_eq_false fun h=>y h.1
  rw [j.out]
  go_enter Tryz.func101,Tryz.ntmps101
  go_wp2
  go_ret
  exact ⟨rfl,rfl⟩
abbrev Lv:=Option Addr×Nat×Nat
def fI (h:Lv):Value:=.slice h.1 h.2.1 h.2.2
def Jw (x:Zb×Lv):List Value:=[.string x.1.from_,.string x.1.aP,.string x.1.kind,.string x.1.key,.int .i64 x.1.op,.int .i64 x.1.config,.bool x.1.shut,.slice x.2.1 x.2.2.1 x.2.2.2]
def mE:eW (Zb×Lv):=⟨8,by decide,Jw,fun _=>rfl,fun x u j=>by simp [Jw] at j;rcases j with rfl | rfl | rfl | rfl | rfl | rfl | rfl | rfl <;> rfl⟩
structure Jn (w:World) (x:Zb×Lv):Prop where
 len:x.2.2.1=x.1.L.length
 eC:Ql Ze w x.2.1 x.1.L
 room:x.1.L.length<=x.2.2.2
 empty:x.2.1=none->x.1.L=[]/\x.2.2.2=0
theorem Jn.below {x:Zb×Lv} (h:Jn w x) (j:Below w.heap.size w w'):Jn w' x:=⟨h.len,h.eC.below j,h.room,h.empty⟩
def mN (w:World) (p:Option Addr) (l:List Zb):Prop:=∃ j:List (Zb×Lv),j.map Prod.fst=l/\Ql mE w p j/\∀ x ∈ j,Jn w x
theorem mN.below  {l:List Zb} (h:mN w p l) (j:Below w.heap.size w w'):mN w' p l:=by
 obtain ⟨y,D,G,I⟩:=h
 exact ⟨y,D,G.below j,fun x J=>(I x J).below j⟩
theorem mN.nil (w:World) (p:Option Addr):mN w p []:=⟨[],rfl,Ql.nil _ _,fun x j=>by cases j⟩
theorem KE (T:TypeId) (j:(Tryz.prog.info? T).map (fun i=>(i.zero,i.size,i.bytes))=some (some (.agg #[.string ⟨#[]⟩,.string ⟨#[]⟩,.string ⟨#[]⟩,.string ⟨#[]⟩,.int .i64 0,.int .i64 0,.bool false,.slice none 0 0]),8,112)):(Tryz.prog.info? T).map (fun i=>(i.zero,i.size,i.bytes))=some (some (.agg #[.string ⟨#[]⟩,.string ⟨#[]⟩,.string ⟨#[]⟩,.string ⟨#[]⟩,.int .i64 0,.int .i64 0,.bool false,.slice none 0 0]),mE.k,112):=j
theorem JdN:(Tryz.prog.info? 59).map (fun i=>(i.zero,i.size,i.bytes))=some (some (.agg #[.string ⟨#[]⟩,.string ⟨#[]⟩,.string ⟨#[]⟩,.string ⟨#[]⟩,.int .i64 0,.int .i64 0,.bool false,.slice none 0 0]),mE.k,112):=KE _ (by kernel_rfl)
theorem WB  {j:List (Zb×Lv)} (h:Ql mE w p j) (y:i < j.length):∃ b o,p=some ⟨b,o,none⟩/\b < w.heap.size/\w.cell? ⟨b,o+i*8,none⟩=some (.string j[i].1.from_)/\w.cell? ⟨b,o+i*8+1,none⟩=some (.string j[i].1.aP)/\w.cell? ⟨b,o+i*8+2,none⟩=some (.string j[i].1.kind)/\w.cell? ⟨b,o+i*8+3,none⟩=some (.string j[i].1.key)/\w.cell? ⟨b,o+i*8+4,none⟩=some (.int .i64 j[i].1.op)/\w.cell? ⟨b,o+i*8+5,none⟩=some (.int .i64 j[i].1.config)/\w.cell? ⟨b,o+i*8+6,none⟩=some (.bool j[i].1.shut)/\w.cell? ⟨b,o+i*8+7,none⟩=some (.slice j[i].2.1 j[i].2.2.1 j[i].2.2.2):=by
 rcases h with D | ⟨b,o,G,I,J⟩
 ·rw [D] at y;exact absurd y (Nat.not_lt_zero _)
 ·have K:j[i]?=some j[i]:=List.getElem?_eq_getElem y
  have g:=J i _ K
  exact ⟨b,o,G,I,g 0 _ rfl,g 1 _ rfl,g 2 _ rfl,g 3 _ rfl,g 4 _ rfl,g 5 _ rfl,g 6 _ rfl,g 7 _ rfl⟩
def JN (j:List (Zb×Lv)) (i:Nat):Zb×Lv:=j.getD i (⟨⟨#[]⟩,⟨#[]⟩,⟨#[]⟩,⟨#[]⟩,0,0,false,[]⟩,(none,0,0))
theorem rR {j:List (Zb×Lv)} (h:i < j.length):j[i]=JN j i:=by
 unfold JN
 rw [List.getD_eq_getElem?_getD,List.getElem?_eq_getElem h]
 rfl
theorem vV {j:List (Zb×Lv)} (h:i < j.length):JN j i ∈ j:=by
 rw [<- rR h]
 exact List.getElem_mem h
theorem Jea {j:List (Zb×Lv)} (h:i < j.length):j.take (i+1)=j.take i ++ [JN j i]:=by
 rw [List.take_succ_eq_append_getElem h,rR h]
theorem RA (r:Nat) (W:World):Calls Tryz.prog 104 #[.int .i32 (r:Int)] W fun e w'=>e=.returned (.bool (!Xr r))/\w'=W:=by
 have key:∀ b,Xr r=b->Hid ((!Xr r)=(!b)):=fun b h=>by show _=_;rw [h]
 rcases (show (97<=r/\r<=122)∨(48<=r/\r<=57)∨r=45∨122 < r∨(57 < r/\r < 97)∨(r < 48/\r≠45) by omega) with j | j | j | j | j | j
 ·have y:=key true (by simp [Xr,j])
  obtain ⟨G,I⟩:=j
  have D:decide ((r:Int) < 97)=false:=decide_eq_false (by omega)
  have O:decide (122 < (r:Int))=false:=decide_eq_false (by omega)
  rw [y.out]
  clear key
  go_enter Tryz.func104,Tryz.ntmps104
  go_wp2
  go_ret
  exact ⟨rfl,rfl⟩
 ·have y:=key true (by simp [Xr,j])
  obtain ⟨G,I⟩:=j
  have D:decide ((r:Int) < 97)=true:=decide_eq_true (by omega)
  have J:decide ((r:Int) < 48)=false:=decide_eq_false (by omega)
  have K:decide (57 < (r:Int))=false:=decide_eq_false (by omega)
  rw [y.out]
  clear key
  go_enter Tryz.func104,Tryz.ntmps104
  go_wp2
  go_ret
  exact ⟨rfl,rfl⟩
 ·have y:=key true (by simp [Xr,j])
  subst j
  rw [y.out]
  clear key
  go_enter Tryz.func104,Tryz.ntmps104
  go_wp2
  go_ret
  exact ⟨rfl,rfl⟩
 ·have y:=key false (by unfold Xr;rw [decide_eq_false (by omega),decide_eq_false (by omega),decide_eq_false (by omega)];rfl)
  have D:decide ((r:Int) < 97)=false:=decide_eq_false (by omega)
  have O:decide (122 < (r:Int))=true:=decide_eq_true (by omega)
  have J:decide ((r:Int) < 48)=false:=decide_eq_false (by omega)
  have K:decide (57 < (r:Int))=true:=decide_eq_true (by omega)
  have M:((r:Int) != 45)=true:=by rw [bne_iff_ne];omega
  have N:((r:Int)==45)=false:=by rw [beq_eq_false_iff_ne];omega
  rw [y.out]
  clear key
  go_enter Tryz.func104,Tryz.ntmps104
  go_wp2
  go_ret
  exact ⟨rfl,rfl⟩
 ·have y:=key false (by unfold Xr;rw [decide_eq_false (by omega),decide_eq_false (by omega),decide_eq_false (by omega)];rfl)
  obtain ⟨G,I⟩:=j
  have D:decide ((r:Int) < 97)=true:=decide_eq_true (by omega)
  have J:decide ((r:Int) < 48)=false:=decide_eq_false (by omega)
  have K:decide (57 < (r:Int))=true:=decide_eq_true (by omega)
  have M:((r:Int) != 45)=true:=by rw [bne_iff_ne];omega
  have N:((r:Int)==45)=false:=by rw [beq_eq_false_iff_ne];omega
  rw [y.out]
  clear key
  go_enter Tryz.func104,Tryz.ntmps104
  go_wp2
  go_ret
  exact ⟨rfl,rfl⟩
 ·have y:=key false (by unfold Xr;rw [decide_eq_false (by omega),decide_eq_false (by omega),decide_eq_false (by omega)];rfl)
  obtain ⟨G,I⟩:=j
  have D:decide ((r:Int) < 97)=true:=decide_eq_true (by omega)
  have J:decide ((r:Int) < 48)=true:=decide_eq_true (by omega)
  have M:((r:Int) != 45)=true:=by rw [bne_iff_ne];omega
  have N:((r:Int)==45)=false:=by rw [beq_eq_false_iff_ne];omega
  rw [y.out]
  clear key
  go_enter Tryz.func104,Tryz.ntmps104
  go_wp2
  go_ret
  exact ⟨rfl,rfl⟩
theorem AE (s:ByteArray):∀ (f i:Nat),s.size<=i+f->(decide (0<=Lib.idxFuncFrom (fun r=>!Xr r) true s f i)=true↔∃ j,i<=j/\j < s.size/\Xr (Gf.nth (Zj s) j)=false)
 | 0,i,h=>by
  constructor
  ·intro D
   have G:decide ((0:Int)<=-1)=true:=D
   cases G
  ·rintro ⟨j,D,G,_⟩
   omega
 | f+1,i,h=>by
  show decide (0<=(if i < s.size then (if (!Xr (Utf8.decode s i).1)=true then (i:Int) else Lib.idxFuncFrom (fun r=>!Xr r) true s f (i+(Utf8.decode s i).2)) else -1))=true↔_
  by_cases y:i < s.size
  ·rw [if_pos y]
   by_cases K:(s[i]'y).toNat < 128
   ·rw [decode_ascii s i y K,<- uD s i y]
    have ih:=AE s f (i+1) (by omega)
    cases J:Xr (Gf.nth (Zj s) i) with
    | false =>
     rw [if_pos (by rfl)]
     exact ⟨fun _=>⟨i,Nat.le_refl _,y,J⟩,fun _=>decide_eq_true (by omega)⟩
    | true =>
     rw [if_neg (by simp),ih]
     constructor
     ·rintro ⟨j,D,G,I⟩
      exact ⟨j,by omega,G,I⟩
     ·rintro ⟨j,D,G,I⟩
      refine ⟨j,?_,G,I⟩
      by_cases e:j=i
      ·rw [e,J] at I;cases I
      ·omega
   ·have D:=(decode_high s i y (by omega)).1
    have J:Xr (Utf8.decode s i).1=false:=by
     unfold Xr
     rw [decide_eq_false (by omega),decide_eq_false (by omega),decide_eq_false (by omega)]
     rfl
    have M:Xr (Gf.nth (Zj s) i)=false:=by
     rw [uD s i y]
     unfold Xr
     rw [decide_eq_false (by omega),decide_eq_false (by omega),decide_eq_false (by omega)]
     rfl
    rw [J,if_pos (by rfl)]
    exact ⟨fun _=>⟨i,Nat.le_refl _,y,M⟩,fun _=>decide_eq_true (by omega)⟩
  ·rw [if_neg y]
   constructor
   ·intro D
    cases D
   ·rintro ⟨j,D,G,_⟩
    omega
theorem U7 (s:ByteArray):decide (0<=Lib.idxFunc (fun r=>!Xr r) true s)=!((Zj s).all Xr):=by
 have h:=AE s s.size 0 (by omega)
 cases D:(Zj s).all Xr with
 | true =>
  rw [show (!true)=false from rfl,Bool.eq_false_iff]
  intro I
  obtain ⟨j,_,y,J⟩:=h.1 I
  have G:j < (Zj s).length:=by rw [tZ];exact y
  rw [List.all_eq_true] at D
  have:=D (Gf.nth (Zj s) j) (by rw [Gf.aK _ j G];exact List.getElem_mem G)
  rw [J] at this
  cases this
 | false =>
  obtain ⟨x,K,M⟩:=List.all_eq_false.1 D
  obtain ⟨j,y,rfl⟩:=List.getElem_of_mem K
  refine h.2 ⟨j,Nat.zero_le _,by rw [tZ] at y;exact y,?_⟩
  rw [Gf.aK _ j y]
  exact Bool.eq_false_iff.2 M
theorem qF (s:ByteArray) (w:World):Calls Tryz.prog 74 #[.string s] w fun e w'=>e=.returned (.bool (Jo s))/\Below w.heap.size w w':=by
 by_cases M:s.size < 1
 ·have j:Hid (Jo s=false):=CT (by omega)
  have G:decide (1<=(s.size:Int))=false:=decide_eq_false (by omega)
  rw [j.out]
  go_enter Tryz.func74,Tryz.ntmps74
  go_wp2
  go_ret
  exact ⟨rfl,Below.refl _ _⟩
 have G:decide (1<=(s.size:Int))=true:=decide_eq_true (by omega)
 by_cases N:16 < s.size
 ·have j:Hid (Jo s=false):=CT (by omega)
  have I:decide ((s.size:Int)<=16)=false:=decide_eq_false (by omega)
  rw [j.out]
  go_enter Tryz.func74,Tryz.ntmps74
  go_wp2
  go_ret
  exact ⟨rfl,Below.refl _ _⟩
 have I:decide ((s.size:Int)<=16)=true:=decide_eq_true (by omega)
 have y:=Tryz.strings_ContainsFunc 104 #[] (enters_of Tryz.func104 (by kernel_rfl) rfl) (fun r=>!Xr r) s w (fun W r _=>by
  unfold FnGives
  exact (RA r W).mono fun _ _ ⟨J,K⟩=>⟨J,0,K⟩)
 rw [U7] at y
 have j:Hid (Jo s=(Zj s).all Xr):=by show _=_;unfold Jo;rw [decide_eq_true ⟨by omega,by omega⟩,Bool.true_and]
 rw [j.out]
 generalize (Zj s).all Xr=r at *
 clear j
 go_enter Tryz.func74,Tryz.ntmps74
 go_wp2_with fail
 refine y.mono ?_
 rintro e O ⟨rfl,D⟩
 clear y
 cases r with
 | true =>
  go_wp2
  go_ret
  exact ⟨rfl,D⟩
 | false =>
  go_wp2
  go_ret
  exact ⟨rfl,D⟩
theorem P3 (p:Option Addr) (l:List ByteArray) (c:Nat) (s:ByteArray) (w:World) (W:l.length<=1000000) (J:Strs w p l) (h:s ∉ l) :
 Calls Tryz.prog 122 #[.slice p l.length c,.string s] w fun e w'=>e=.returned (.int .i64 (-1))/\w'=w:=by
 have G:Hid (s ∉ l):=h
 clear h
 go_enter Tryz.func122,Tryz.ntmps122
 go_wp2
 go_loop [8] (fun x=>∃ i:Nat,i<=l.length/\x=.int .i64 i) (fun x=>l.length - (intOf x).toNat)
 case atStart=>exact ⟨0,Nat.zero_le _,rfl⟩
 case round =>
  obtain ⟨i,K,rfl⟩:=hrel
  by_cases j:i < l.length
  ·rcases J with I | ⟨b,o,rfl,M,D⟩
   ·rw [I] at j;exact absurd j (Nat.not_lt_zero _)
   have N:=D i j
   have y:Yc l i≠s:=fun e=>G.out (e ▸ oQ j)
   have O:=XT (Ne.symm y)
   have Q:=YT (Ne.symm y)
   have U:=Y8 (Ne.symm y)
   clear y D
   generalize Yc l i=t at *
   go_wp2
   go_round
   case rel=>exact ⟨i+1,by omega,by go_num⟩
   case measure=>simp [intOf];omega
  ·go_wp2
   go_ret
   exact ⟨rfl,rfl⟩
theorem SY (p:Option Addr) (l:List ByteArray) (c:Nat) (s:ByteArray) (w:World) (hl:l.length<=1000000) (Z:Strs w p l) (h:s ∈ l) :
 Calls Tryz.prog 122 #[.slice p l.length c,.string s] w fun e w'=>e=.returned (.int .i64 ((ZJ l s:Nat):Int))/\w'=w:=by
 have O:Hid (s ∈ l):=h
 clear h
 go_enter Tryz.func122,Tryz.ntmps122
 go_wp2
 go_loop [8] (fun x=>∃ i:Nat,i<=l.length/\x=.int .i64 i/\∀ j,j < i->Yc l j≠s) (fun x=>l.length - (intOf x).toNat)
 case atStart=>exact ⟨0,Nat.zero_le _,rfl,fun j G=>absurd G (Nat.not_lt_zero _)⟩
 case round =>
  obtain ⟨i,hi,rfl,J⟩:=hrel
  have I:Hid (∀ j,j < i->Yc l j≠s):=J
  clear J
  have D:i < l.length:=by
   rcases Nat.lt_or_ge i l.length with h | h
   ·exact h
   ·obtain ⟨j,G,e⟩:=tF O.out
    exact absurd e (I.out j (by omega))
  rcases Z with Q | ⟨b,o,rfl,a0,K⟩
  ·rw [Q] at D;exact absurd D (Nat.not_lt_zero _)
  have U:=K i D
  have M:Hid (Yc l i=Yc l i):=by show _=_;rfl
  clear K
  by_cases y:Yc l i=s
  ·have W:Hid (ZJ l s=i):=DQ D y I.out
   rw [y] at U
   clear y M
   go_wp2
   go_ret
   exact ⟨by rw [W.out];rfl,rfl⟩
  ·have X:Hid (Yc l i≠s):=y
   have h1:=XT (Ne.symm y)
   have h2:=YT (Ne.symm y)
   have h3:=Y8 (Ne.symm y)
   clear y M
   generalize N:Yc l i=t at *
   have Y:Hid (Yc l i=t):=N
   clear N
   go_wp2
   go_round
   case rel=>exact ⟨i+1,by omega,by go_num,fun j G=>by
    rcases Nat.lt_or_ge j i with h | h
    ·exact I.out j h
    ·obtain rfl:j=i:=by omega
     rw [Y.out];exact X.out⟩
   case measure=>simp [intOf];omega
theorem vN (p:Option Addr) (l:List ByteArray) (c:Nat) (s:ByteArray) (w:World) (J:l.length<=1000000) (D:Strs w p l) :
 Calls Tryz.prog 92 #[.slice p l.length c,.string s] w fun e w'=>e=.returned (.bool (Xu l s))/\w'=w:=by
 by_cases h:s ∈ l
 ·have G:Hid (Xu l s=true):=Zl.2 h
  have j:=SY p l c s w J D h
  rw [G.out]
  clear h D
  generalize ZJ l s=k at *
  go_enter Tryz.func92,Tryz.ntmps92
  go_wp2_with fail
  refine j.mono ?_
  rintro e I ⟨rfl,y⟩
  rw [y]
  clear y I j
  go_wp2
  go_ret
  exact ⟨rfl,rfl⟩
 ·have G:Hid (Xu l s=false):=Bool.eq_false_iff.2 fun K=>h (Zl.1 K)
  have j:=P3 p l c s w J D h
  rw [G.out]
  clear h D
  go_enter Tryz.func92,Tryz.ntmps92
  go_wp2_with fail
  refine j.mono ?_
  rintro e I ⟨rfl,y⟩
  rw [y]
  clear y I j
  go_wp2
  go_ret
  exact ⟨rfl,rfl⟩
section
open Go.Sort
def gE (a b:Int):Int:=if a < b then -1 else if b < a then 1 else 0
theorem FL (a:Int) (w:World):Calls Tryz.prog 154 #[.int .i64 a] w fun e w'=>e=.returned (.bool false)/\w'=w:=by
 go_enter Tryz.func154,Tryz.ntmps154
 go_wp2
 go_ret
 exact ⟨rfl,rfl⟩
theorem BS (a b:Int) (w:World):Calls Tryz.prog 133 #[.int .i64 a,.int .i64 b] w fun e w'=>e=.returned (.int .i64 (gE a b))/\w'=w:=by
 have G:=fun W=>FL a W
 have I:=fun W=>FL b W
 rcases Int.lt_trichotomy a b with h | h | h
 ·have D:Hid (gE a b=-1):=if_pos h
  rw [D.out]
  go_enter Tryz.func133,Tryz.ntmps133
  go_wp2_with fail
  refine (G _).mono ?_
  rintro e y ⟨rfl,j⟩
  rw [j]
  clear j y
  go_wp2_with fail
  refine (I _).mono ?_
  rintro e y ⟨rfl,j⟩
  rw [j]
  clear j y
  go_wp2
  go_ret
  exact ⟨rfl,rfl⟩
 ·subst h
  have D:Hid (gE a a=0):=by show _=_;unfold gE;rw [if_neg (Int.lt_irrefl _),if_neg (Int.lt_irrefl _)]
  rw [D.out]
  go_enter Tryz.func133,Tryz.ntmps133
  go_wp2_with fail
  refine (G _).mono ?_
  rintro e y ⟨rfl,j⟩
  rw [j]
  clear j y
  go_wp2_with fail
  refine (I _).mono ?_
  rintro e y ⟨rfl,j⟩
  rw [j]
  clear j y
  go_wp2
  go_ret
  exact ⟨rfl,rfl⟩
 ·have D:Hid (gE a b=1):=by show _=_;unfold gE;rw [if_neg (by omega),if_pos h]
  have J:decide (a < b)=false:=decide_eq_false (by omega)
  rw [D.out]
  go_enter Tryz.func133,Tryz.ntmps133
  go_wp2_with fail
  refine (G _).mono ?_
  rintro e y ⟨rfl,j⟩
  rw [j]
  clear j y
  go_wp2_with fail
  refine (I _).mono ?_
  rintro e y ⟨rfl,j⟩
  rw [j]
  clear j y
  go_wp2
  go_ret
  exact ⟨rfl,rfl⟩
def lW (a b:Int):Int:=if a≠0 then a else b
theorem K4 (g o:Nat) (a b:Int) (w:World) (h0:w.cell? ⟨g,o,none⟩=some (.int .i64 a)) (h1:w.cell? ⟨g,o+1,none⟩=some (.int .i64 b)) :
 Calls Tryz.prog 132 #[.slice (some ⟨g,o,none⟩) 2 2] w fun e w'=>e=.returned (.int .i64 (lW a b))/\w'=w:=by
 obtain ⟨f,G⟩:∃ f:Nat->Int,f=fun i=>if i=0 then a else b:=⟨_,rfl⟩
 have X:Hid (∀ i,i < 2->w.cell? ⟨g,o+i,none⟩=some (.int .i64 (f i))):=fun i J=>by
  rw [G]
  match i,J with
  | 0,_=>exact h0
  | 1,_=>exact h1
 obtain ⟨r,K⟩:∃ r,r=lW a b:=⟨_,rfl⟩
 have Y:Hid (∀ i,i < 2->(∀ j,j < i->f j=0)->f i≠0->r=f i):=fun i J D Z=>by
  rw [K,G]
  unfold lW
  match i,J with
  | 0,_=>rw [G] at Z;have a2:a≠0:=Z;rw [if_pos a2];rfl
  | 1,_ =>
   have:=D 0 (by omega)
   rw [G] at this
   have N:a=0:=this
   rw [if_neg (by rw [N];decide)];rfl
 have HZ:Hid ((∀ j,j < 2->f j=0)->r=0):=fun D=>by
  have t0:=D 0 (by omega)
  have t1:=D 1 (by omega)
  rw [G] at t0 t1
  have N:a=0:=t0
  have hb:b=0:=t1
  rw [K,N,hb]
  decide
 rw [<- K]
 clear G K h0 h1
 go_enter Tryz.func132,Tryz.ntmps132
 go_wp2
 go_loop [8] (fun x=>∃ i:Nat,i<=2/\x=.int .i64 i/\∀ j,j < i->f j=0) (fun x=>2 - (intOf x).toNat)
 case atStart=>exact ⟨0,by omega,rfl,fun j O=>absurd O (Nat.not_lt_zero _)⟩
 case round =>
  obtain ⟨i,J,rfl,D⟩:=hrel
  have M:Hid (∀ j,j < i->f j=0):=D
  clear D
  by_cases a0:i < 2
  ·have q1:=X.out i a0
   have Q:Hid (f i≠0->r=f i):=Y.out i a0 M.out
   have U:Hid (f i=0->∀ j,j < i+1->f j=0):=fun h j O=>by
    rcases Nat.lt_or_ge j i with h' | h'
    ·exact M.out j h'
    ·obtain rfl:j=i:=by omega
     exact h
   clear M Y X HZ
   generalize f i=y at *
   by_cases I:y=0
   ·have a1:=U.out I
    subst I
    have a3:Hid (∀ j,j < i+1->f j=0):=a1
    clear a1 U Q
    go_wp2
    go_round
    case rel=>exact ⟨i+1,by omega,by go_num,a3.out⟩
    case measure=>simp [intOf];omega
   ·have W:Hid (r=y):=Q.out I
    have d1:(y==0)=false:=by rw [beq_eq_false_iff_ne];exact I
    have d2:(y != 0)=true:=by rw [bne_iff_ne];exact I
    clear Q U
    go_wp2
    go_ret
    exact ⟨by rw [W.out];rfl,rfl⟩
  ·have W:Hid (r=0):=HZ.out (fun j O=>M.out j (by omega))
   go_wp2
   go_ret
   exact ⟨by rw [W.out];rfl,rfl⟩
def JZ (a b:Int×Int):Int:=lW (gE a.1 b.1) (gE a.2 b.2)
theorem CG {a b:Int×Int}:decide (JZ a b < 0)=Qd a b:=by
 unfold JZ lW gE Qd
 by_cases y:a.1 < b.1
 ·simp [y]
 ·by_cases G:b.1 < a.1
  ·have j:¬ a.1=b.1:=by omega
   simp [y,G,j]
  ·have j:a.1=b.1:=by omega
   simp only [j]
   by_cases D:a.2 < b.2
   ·simp [D]
   ·by_cases I:b.2 < a.2 <;> simp [D,I]
theorem EC (a b:Int×Int) (W:World):Calls Tryz.prog 109 #[.agg #[.int .i64 a.1,.int .i64 a.2],.agg #[.int .i64 b.1,.int .i64 b.2]] W fun e w'=>e=.returned (.int .i64 (JZ a b))/\∃ n os,w'=grow (W.drewN n) os:=by
 obtain ⟨y,D⟩:=a
 obtain ⟨G,I⟩:=b
 obtain ⟨j,J⟩:∃ j,j=(W.alloc (.cells #[.int .i64 y,.int .i64 D] 46)).alloc (.cells #[.int .i64 G,.int .i64 I] 46):=⟨_,rfl⟩
 have Q:Hid (∃ os,j=grow W os):=⟨_,by rw [J,alloc_eq_grow,alloc_eq_grow,grow_grow]⟩
 have U:j.cell? ⟨W.heap.size,0,none⟩=some (.int .i64 y):=by rw [J];simp
 have X:j.cell? ⟨W.heap.size,1,none⟩=some (.int .i64 D):=by rw [J];simp
 have Y:j.cell? ⟨W.heap.size+1,0,none⟩=some (.int .i64 G):=by rw [J];simp
 have Z:j.cell? ⟨W.heap.size+1,1,none⟩=some (.int .i64 I):=by rw [J];simp
 have N:Hid (j=(W.alloc (.cells #[.int .i64 y,.int .i64 D] 46)).alloc (.cells #[.int .i64 G,.int .i64 I] 46)):=J
 clear J
 show Calls Tryz.prog 109 #[.agg #[.int .i64 y,.int .i64 D],.agg #[.int .i64 G,.int .i64 I]] W fun e w'=>e=.returned (.int .i64 (lW (gE y G) (gE D I)))/\∃ n os,w'=grow (W.drewN n) os
 have c1:=fun W=>BS y G W
 have c2:=fun W=>BS D I W
 have c4:=fun g W h0 h1=>K4 g 0 (gE y G) (gE D I) W h0 h1
 generalize gE y G=K at *
 generalize gE D I=M at *
 generalize lW K M=r at *
 have C1:Hid (∀ W,Calls Tryz.prog 133 #[.int .i64 y,.int .i64 G] W fun e w'=>e=.returned (.int .i64 K)/\w'=W):=c1
 have C2:Hid (∀ W,Calls Tryz.prog 133 #[.int .i64 D,.int .i64 I] W fun e w'=>e=.returned (.int .i64 M)/\w'=W):=c2
 have C4:Hid (∀ g W,W.cell? ⟨g,0,none⟩=some (.int .i64 K)->W.cell? ⟨g,1,none⟩=some (.int .i64 M)->Calls Tryz.prog 132 #[.slice (some ⟨g,0,none⟩) 2 2] W fun e w'=>e=.returned (.int .i64 r)/\w'=W):=c4
 clear c1 c2 c4
 go_enter Tryz.func109,Tryz.ntmps109
 go_wp2
 rw [<- N.out]
 clear N
 refine wp_region_still_tail 10 (by kernel_rfl) (by kernel_rfl) ?_
 simp only [List.take_succ_cons,List.take_zero,List.drop_succ_cons,List.drop_zero]
 still_step
 still_step
 still_step
 still_step
 still_call (C1.out _)
 still_step
 still_step
 still_step
 still_step
 still_call (C2.out _)
 refine wpStill_nil ?_
 change wpList _ _ _ _ _ (j.drewN 1)
 have O:Hid (∃ os,j.drewN 1=grow (W.drewN 1) os):=by
  obtain ⟨os,h⟩:=Q.out
  exact ⟨os,by rw [h];rfl⟩
 generalize j.drewN 1=W3 at O ⊢
 clear U X Y Z
 go_wp2_with (go_at_call 132;refine (C4.out _ _ (by simp) (by simp)).mono ?_;rintro e w' ⟨rfl,rfl⟩)
 go_ret
 obtain ⟨os,h⟩:=O.out
 exact ⟨rfl,1,_,by rw [h,alloc_eq_grow,grow_grow]⟩
theorem C7 (w:World) (os:Array Obj) (n:Nat):(grow w os).drewN n=grow (w.drewN n) os:=rfl
end
section
open Go.Sort
theorem PG (a b:Int×Int) (w:World):Calls Tryz.prog 81 #[.agg #[.int .i64 a.1,.int .i64 a.2],.agg #[.int .i64 b.1,.int .i64 b.2]] w fun e w'=>e=.returned (.bool (Qd a b))/\∃ q os,w'=grow (w.drewN q) os:=by
 have D:Hid (∀ W,Calls Tryz.prog 109 #[.agg #[.int .i64 a.1,.int .i64 a.2],.agg #[.int .i64 b.1,.int .i64 b.2]] W fun e w'=>e=.returned (.int .i64 (JZ a b))/\∃ n os,w'=grow (W.drewN n) os):=fun W=>EC a b W
 have G:Hid (decide (JZ a b < 0)=Qd a b):=CG
 generalize JZ a b=c at *
 generalize Qd a b=r at *
 obtain ⟨I,J⟩:=a
 obtain ⟨K,M⟩:=b
 have j:Hid (∃ os,(w.alloc (.cells #[.int .i64 I,.int .i64 J] 46)).alloc (.cells #[.int .i64 K,.int .i64 M] 46)=grow w os):=⟨_,by rw [alloc_eq_grow,alloc_eq_grow,grow_grow]⟩
 go_enter Tryz.func81,Tryz.ntmps81
 go_wp2_with fail
 refine (D.out _).mono ?_
 rintro e N ⟨rfl,n,os,y⟩
 have O:Hid (∃ q os,N=grow (w.drewN q) os):=by
  obtain ⟨Q,U⟩:=j.out
  exact ⟨n,Q ++ os,by rw [y,U,C7,grow_grow]⟩
 clear y j
 go_wp2
 go_ret
 exact ⟨by rw [<- G.out];rfl,O.out⟩
end
end Go.Proofs.YtmikbldbfnlfjaaGreatDoor

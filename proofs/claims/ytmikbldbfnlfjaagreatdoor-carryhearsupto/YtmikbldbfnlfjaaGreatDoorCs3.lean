/- Texts laid together. -/
import Derived.Test.YtmikbldbfnlfjaaGreatDoorCs2
import Derived.RegionTactic
import Derived.BigRegion
set_option maxRecDepth 10000
set_option maxHeartbeats 4000000
namespace Go.Proofs.YtmikbldbfnlfjaaGreatDoor
open Go.Proofs.Tryz
open Go.RowKit
variable {a b c w w':World}{row:Option Nat}{B n y r j k d p i:Nat}{E:TypeId}{g f:Nat->Nat->Nat}{l:List Nat}{D:Nat->Value}{S:Nat->Prop}
theorem QL  (h:a.grownBy b row) (k:b.grownBy c row):a.grownBy c row :=
 ⟨k.os.trans h.os,k.tape.trans h.tape,k.output.trans h.output,Nat.le_trans h.size k.size,fun i j y=>(k.block i (Nat.lt_of_lt_of_le j h.size) y).trans (h.block i j y)⟩
theorem QD (h:Below w.heap.size w w') (row:Option Nat):w.grownBy w' row:=⟨h.os,h.tape,h.output,h.size,fun i j _=>h.block i j⟩
theorem Z8 (w:World) (g j:Nat) (v:Value):w.grownBy (w.setCell ⟨g,j,none⟩ v) (some g) :=
 ⟨rfl,rfl,rfl,by simp [World.setCell],fun i _ y=>Below.heap_setCell w _ v i (fun e=>y (by rw [e]))⟩
theorem Zo.below  {g:Nat} (h:Zo w B E g n l) (j:Below w.heap.size w w'):Zo w' B E g n l:=World.ownsRow.kept h (QD j none) (Or.inr (by simp [Value.ownBlock]))
theorem zL (g n B:Nat) (y val:Nat->Nat) (M:FuncId) (Z:Array Value) (w:World) (hn:n<=1000) (a3:∀ args W,Sem.run prog (callFunc M args) W=.ok (.enter M args) W) (hO:Zo w B 5 g n (Qi n y))
 (hc:∀ j,j < n->∀ D,w.grownBy D (some g)->Zo D B 5 g n (Qi n (fun i=>if i < j then val i else y i)) ->
  Calls prog M (#[.int .i64 (j:Int)] ++ Z) D fun e G=>e=.returned (.int .u8 ((val j:Nat):Int))/\Below D.heap.size D G) :
 Calls prog 158 #[.slice (some ⟨g,0,none⟩) n n,.func (.func M) #[] Z] w fun e w'=>e=.returned (.tuple #[])/\Zo w' B 5 g n (Qi n val)/\w.grownBy w' (some g):=by
 go_enter func158,ntmps158
 go_wp2
 go_loopw [7] (fun x wr=>∃ k:Nat,k<=n/\x=.int .i64 k/\Zo wr B 5 g n (Qi n (fun i=>if i < k then val i else y i))/\w.grownBy wr (some g)) (fun x _=>n - (intOf x).toNat)
 case atStart=>exact ⟨0,by omega,rfl,by simpa using hO,QD (Below.refl _ _) _⟩
 case round =>
  obtain ⟨k,hk,rfl,I,J⟩:=hrel
  by_cases Q:k < n
  ·have U:=hc k Q wr J I
   have X:Hid (Zo wr B 5 g n (Qi n (fun i=>if i < k then val i else y i))):=I
   have Y:Hid (w.grownBy wr (some g)):=J
   clear I J hc hO
   go_wp2_with fail
   refine U.mono ?_
   rintro e G ⟨rfl,N⟩
   have K:=X.out.below N
   have hf:G.frozen? ⟨g,k,none⟩=false:=K.free k
   have a4:=K.cell k Q (Jf _ _)
   have O:=K.set k (val k)
   rw [YL n _ (fun i=>if i < k+1 then val i else y i) (fun i _=>by by_cases e:i=k <;> by_cases e':i < k <;> simp [e,e'] <;> omega)] at O
   have a0:Hid (Zo (G.setCell ⟨g,k,none⟩ (.int .u8 ((val k:Nat):Int))) B 5 g n (Qi n (fun i=>if i < k+1 then val i else y i))):=O
   have a1:Hid (w.grownBy (G.setCell ⟨g,k,none⟩ (.int .u8 ((val k:Nat):Int))) (some g)):=QL (QL Y.out (QD N _)) (Z8 _ _ _ _)
   clear K O N U X Y a3
   go_wp2
   go_roundw
   case rel=>exact ⟨k+1,by omega,by go_num,a0.out,a1.out⟩
   case measure=>simp [intOf];omega
  ·have a2:k=n:=by omega
   subst a2
   go_wp2
   go_end0
   refine ⟨rfl,?_,J⟩
   rw [YL k val (fun i=>if i < k then val i else y i) (fun i hi=>by simp [hi])]
   exact I
theorem JsH (n:Nat) (val:Nat->Nat) (G:FuncId) (U:Array Value) (w:World) (hn:n<=1000) (X:∀ l,val l < 256) (a4:∀ args W,Sem.run prog (callFunc G args) W=.ok (.enter G args) W)
 (j:Nat->Nat) (Y:j 0=0) (Z:∀ l,j (l+1)=j l ^^^ val l) (a0:∀ l,j l < 256)
 (hc:∀ l,l < n->∀ D,Below w.heap.size w D->Calls prog G (#[.int .i64 (l:Int)] ++ U) D fun e I=>e=.returned (.int .u8 ((val l:Nat):Int))/\Below D.heap.size D I) :
 Calls prog 173 #[.int .i64 (n:Int),.func (.func G) #[] U] w fun e w'=>e=.returned (.int .u8 ((j n:Nat):Int))/\Below w.heap.size w w':=by
 have M:Hid (j 0=0):=Y
 have N:Hid (∀ l,j (l+1)=j l ^^^ val l):=Z
 clear Y Z
 go_enter func173,ntmps173
 go_wp2
 go_loopw [5,8] (fun s x wr=>∃ k:Nat,k<=n/\x=.int .i64 k/\s=.int .u8 ((j k:Nat):Int)/\Below w.heap.size w wr) (fun _ x _=>n - (intOf x).toNat)
 case atStart=>exact ⟨0,by omega,rfl,by rw [M.out];rfl,Below.refl _ _⟩
 case round =>
  obtain ⟨k,hk,rfl,rfl,y⟩:=hrel
  by_cases a1:k < n
  ·have J:=hc k a1 wr y
   have O:Hid (Below w.heap.size w wr):=y
   have hz:w.heap.size<=wr.heap.size:=y.size
   have lt:=a0 k
   have lv:=X k
   have K:Hid (j (k+1)=j k ^^^ val k):=N.out k
   clear y hc N M X a0
   generalize j k=t at K lt ⊢
   generalize val k=v at K lv J
   go_wp2_with fail
   refine J.mono ?_
   rintro e I ⟨rfl,Q⟩
   have a2:Hid (Below w.heap.size w I):=O.out.trans (Q.mono hz)
   clear Q J O a4
   go_wp2_with (go_at_call 143;refine (oC t v _ lt lv).mono ?_;rintro e w' ⟨rfl,rfl⟩)
   go_roundw
   case rel=>exact ⟨k+1,by omega,by go_num,by rw [K.out],a2.out⟩
   case measure=>simp [intOf];omega
  ·have a3:k=n:=by omega
   subst a3
   go_wp2
   go_ret
   exact ⟨rfl,y⟩
theorem Y4  {g:Nat} {row:Nat} (h:Zo w B E g n l) (j:w.grownBy w' (some row)) (y:g≠row):Zo w' B E g n l :=
 World.ownsRow.kept h j (Or.inr (fun e=>y (Option.some.inj e)))
def Zy (w:World) (B j r:Nat) (y:Nat->Value):Prop:=w.ownsRow B 138 1 (.slice (some ⟨j,0,none⟩) r r) r ((List.range r).map y)
theorem Zy.made (w:World) (B r:Nat) (hB:B<=w.heap.size) (j:r<=1000000):Zy (w.alloc (.cells (madeCells #[.slice none 0 0] r) 138)) B w.heap.size r (fun _=>.slice none 0 0):=by
 have h:=World.ownsRow_lit (base:=B) (e:=138) (size:=1) w (madeCells #[.slice none 0 0] r) r hB (by unfold maxLen;omega) (by have:=congrArg List.length (toList_madeCells_one (.slice none 0 0) r);simpa using this)
 rw [toList_madeCells_one] at h
 unfold Zy
 rw [List.map_const',List.length_range]
 exact h
theorem Zy.cell  (h:Zy w B y r D) (j:Nat) (G:j < r):w.cell? ⟨y,j,none⟩=some (D j):=by
 rw [World.ownsRow.cellAt (w:=w) h j (by omega),List.getElem?_map,List.getElem?_range G]
 rfl
theorem Zy.free  (h:Zy w B y r D) (j:Nat):w.frozen? ⟨y,j,none⟩=false:=World.ownsRow.frozenAt (w:=w) h j
theorem Zy.set  (h:Zy w B y r D) (j:Nat) (v:Value):Zy (w.setCell ⟨y,j,none⟩ v) B y r (fun i=>if i=j then v else D i):=by
 have:=(World.ownsRow.stored (w:=w) h j v).1
 rw [W9] at this
 exact this
theorem Zy.kept  {y:Nat->Value} (h:Zy w B j r y) (D:w.grownBy w' row) (G:row≠some j):Zy w' B j r y :=
 World.ownsRow.kept h D (Or.inr (fun e=>G e.symm))
theorem Zy.below  {y:Nat->Value} (h:Zy w B j r y) (D:Below w.heap.size w w'):Zy w' B j r y:=h.kept (QD D none) (by simp)
theorem Zy.congr  {j:Nat->Value} (h:Zy w B y r j) (I:∀ i,i < r->j i=D i):Zy w B y r D:=by
 unfold Zy
 rw [List.map_congr_left (g:=j) (fun i G=>(I i (List.mem_range.1 G)).symm)]
 exact h
theorem Zy.lt  {y:Nat->Value} (h:Zy w B j r y):B<=j/\j < w.heap.size:=World.ownsRow.lt h j rfl
def gG (n g:Nat):Value:=.slice (some ⟨g,0,none⟩) n n
structure iT (w:World) (B gm:Nat) (gs:Nat->Nat) (k n:Nat) (f:Nat->Nat->Nat):Prop where
 row:∀ i,i < k->Zo w B 5 (gs i) n (Qi n (f i))
 ne:∀ i,i < k->gs i≠gm
 inj:∀ i j,i < k->j < k->gs i=gs j->i=j
structure Zv (w:World) (B gm:Nat) (gs:Nat->Nat) (r n:Nat) (f:Nat->Nat->Nat):Prop where
 rows:Zy w B gm r (fun i=>gG n (gs i))
 all:iT w B gm gs r n f
theorem iT.below  {y:Nat->Nat}  (h:iT w B j y k n f) (G:Below w.heap.size w w'):iT w' B j y k n f:=⟨fun i D=>(h.row i D).below G,h.ne,h.inj⟩
theorem Zv.below  {y:Nat->Nat}  (h:Zv w B j y r n f) (D:Below w.heap.size w w'):Zv w' B j y r n f:=⟨h.rows.below D,h.all.below D⟩
def XB (r n:Nat) (f:Nat->Nat->Nat):List (List Nat):=(List.range r).map fun i=>Qi n (f i)
theorem Zs (r n:Nat) (f:Nat->Nat->Nat):(XB r n f).length=r:=by simp [XB]
theorem XD (r n:Nat) (f:Nat->Nat->Nat) (i:Nat) (j:i < r):Qh (XB r n f) i=Qi n (f i):=by
 unfold Qh XB
 rw [List.getD_eq_getElem?_getD,List.getElem?_map,List.getElem?_range j]
 rfl
theorem Zv.tU  {J:Nat->Nat}  (h:Zv w B y J r n f) (M:∀ i j,f i j < 256) (k:Nat) (N:k<=r):QJ w (some ⟨y,0,none⟩) (XB k n f):=by
 refine Or.inr ⟨y,0,rfl,h.rows.lt.2,fun i D=>?_⟩
 rw [Zs] at D
 have K:=h.rows.cell i (by omega)
 have G:=h.all.row i (by omega)
 rw [XD _ _ _ i D,Jf,Nat.zero_add]
 refine ⟨_,_,K,⟨XL _ _ (M i),?_⟩,fun e=>by cases e⟩
 refine Or.inr ⟨J i,0,rfl,G.lt.2,fun j I=>?_⟩
 rw [Jf] at I
 rw [Nat.zero_add]
 exact G.cell j I (Jf _ _)
theorem iT.snoc {G:Nat} {y:Nat->Nat} {g:Nat} (h:iT w B G y k n f) (J:∀ i,i < k->y i≠g) (M:g≠G) (N:∀ i,i < k->Zo w' B 5 (y i) n (Qi n (f i))) (O:Zo w' B 5 g n (Qi n (f k))):iT w' B G (fun i=>if i=k then g else y i) (k+1) n f where
 row:=fun i I=>by
  by_cases e:i=k
  ·simp only [e,if_true];exact O
  ·simp only [e,if_false];exact N i (by omega)
 ne:=fun i I=>by
  by_cases e:i=k
  ·simp only [e,if_true];exact M
  ·simp only [e,if_false];exact h.ne i (by omega)
 inj:=fun i j I Q=>by
  by_cases e:i=k <;> by_cases K:j=k <;> simp only [e,K,if_true,if_false]
  ·intro _;trivial
  ·intro D;exact absurd D.symm (J j (by omega))
  ·intro D;exact absurd D (J i (by omega))
  ·exact h.inj i j (by omega) (by omega)
theorem OY (G I k j v:Nat) (D:FuncId) (J:Array Value) (w:World) (N:∀ args W,Sem.run prog (callFunc D args) W=.ok (.enter D args) W)
 (O:w.cell? ⟨G,0,none⟩=some (.func (.func D) #[] J)) (Q:w.cell? ⟨I,0,none⟩=some (.int .i64 (k:Int)))
 (K:Calls prog D (#[.int .i64 (k:Int),.int .i64 (j:Int)] ++ J) w fun e y=>e=.returned (.int .u8 (v:Int))/\Below w.heap.size w y) :
 Calls prog 159 #[.int .i64 (j:Int),.pointer (some ⟨G,0,none⟩),.pointer (some ⟨I,0,none⟩)] w fun e y=>e=.returned (.int .u8 (v:Int))/\Below w.heap.size w y:=by
 go_enter func159,ntmps159
 go_wp2_with fail
 refine K.mono ?_
 rintro e y ⟨rfl,M⟩
 clear N K O Q
 go_wp2
 go_ret
 exact ⟨rfl,M⟩
theorem tP (r n:Nat) (val:Nat->Nat->Nat) (M:FuncId) (N:Array Value) (w:World) (hr:r<=1000) (hn:n<=1000) (e5:∀ args W,Sem.run prog (callFunc M args) W=.ok (.enter M args) W)
 (hc:∀ i j,i < r->j < n->∀ I,Below w.heap.size w I->Calls prog M (#[.int .i64 (i:Int),.int .i64 (j:Int)] ++ N) I fun e O=>e=.returned (.int .u8 ((val i j:Nat):Int))/\Below I.heap.size I O) :
 Calls prog 138 #[.int .i64 (r:Int),.int .i64 (n:Int),.func (.func M) #[] N] w fun e w'=>(∃ gm D,e=.returned (.slice (some ⟨gm,0,none⟩) r r)/\Zv w' w.heap.size gm D r n val)/\Below w.heap.size w w':=by
 obtain ⟨i1,a7,a8,a9,b0⟩:=info_parts Jti
 obtain ⟨i0,b1,b2,b3,b4⟩:=info_parts KF
 have HC:Hid (∀ i j,i < r->j < n->∀ I,Below w.heap.size w I->Calls prog M (#[.int .i64 (i:Int),.int .i64 (j:Int)] ++ N) I fun e O=>e=.returned (.int .u8 ((val i j:Nat):Int))/\Below I.heap.size I O):=hc
 have e6:Hid (∀ args W,Sem.run prog (callFunc M args) W=.ok (.enter M args) W):=e5
 clear hc e5
 go_enter func138,ntmps138
 go_wp2_with (first | (at_make;refine wpList_make_row _ rfl (.tmp 9) (.tmp 9) 162 rfl 138 i1 (.slice none 0 0) underlying162 a7 a8 a9 rfl .i64 .i64 r rfl rfl (by rw [b0];omega) (by omega) ?_))
 obtain ⟨O,U⟩:∃ O,O=(w.alloc (.cells #[.func (.func M) #[] N] 187)).alloc (.cells (madeCells #[.slice none 0 0] r) 138):=⟨_,rfl⟩
 rw [<- U]
 have b5:Hid (Zy O w.heap.size (w.heap.size+1) r (fun _=>.slice none 0 0)):=by
  show Zy _ _ _ _ _
  have:=Zy.made (w.alloc (.cells #[.func (.func M) #[] N] 187)) w.heap.size r (by simp) (by omega)
  rw [U]
  simpa using this
 have b6:Hid (Below w.heap.size w O):=by
  show Below _ _ _
  rw [U]
  exact ((Below.refl _ _).alloc (Nat.le_refl _) _).alloc (by simp) _
 have b7:Hid (O.cell? ⟨w.heap.size,0,none⟩=some (.func (.func M) #[] N)):=by
  show _=_
  rw [U,World.cell?_alloc_past _ _ _ (by simp),World.cell?_alloc_at _ _ _ _ rfl]
  rfl
 clear U
 have e7:∀ W:World,Sem.run prog (Instr.makeSlice 138 (.int .i64 (n:Int)) (.int .i64 (n:Int))) W=.ok (.slice (some ⟨W.heap.size,0,none⟩) n n) (W.alloc (.cells (madeCells #[ZM 0] n) 5)):=fun W=>run_make_row (P:=prog) 138 5 i0 (ZM 0) underlying138 b1 b2 b3 rfl .i64 .i64 n (by rw [b4];omega) (by omega) W
 clear a7 a8 a9 b0 b1 b2 b3 b4
 go_loopw [13] (fun x wr=>∃ (k:Nat) (D:Nat->Nat),k<=r/\x=.int .i64 k/\Zy wr w.heap.size (w.heap.size+1) r (fun i=>if i < k then gG n (D i) else .slice none 0 0)/\iT wr w.heap.size (w.heap.size+1) D k n val/\Below w.heap.size w wr/\wr.cell? ⟨w.heap.size,0,none⟩=some (.func (.func M) #[] N)) (fun x _=>r - (intOf x).toNat)
 case atStart=>exact ⟨0,fun _=>0,by omega,rfl,by simpa using b5.out,⟨fun i J=>absurd J (Nat.not_lt_zero _),fun i J=>absurd J (Nat.not_lt_zero _),fun i j J=>absurd J (Nat.not_lt_zero _)⟩,b6.out,b7.out⟩
 case round =>
  obtain ⟨k,D,hk,rfl,hS,hK,hB,hA⟩:=hrel
  obtain ⟨y,rfl⟩:∃ y,y=wr:=⟨_,rfl⟩
  have HS:Hid (Zy y w.heap.size (w.heap.size+1) r (fun i=>if i < k then gG n (D i) else .slice none 0 0)):=hS
  have HK:Hid (iT y w.heap.size (w.heap.size+1) D k n val):=hK
  have HB:Hid (Below w.heap.size w y):=hB
  have HA:Hid (y.cell? ⟨w.heap.size,0,none⟩=some (.func (.func M) #[] N)):=hA
  have g4:w.heap.size+1 < y.heap.size:=hS.lt.2
  clear b5 b6 b7 hS hK hB hA
  by_cases a4:k < r
  ·go_wp2
   obtain ⟨G,X⟩:∃ G,G=y.alloc (.cells #[.int .i64 (k:Int)] 3):=⟨_,rfl⟩
   rw [<- X]
   have Y:Below y.heap.size y G:=by rw [X];exact (Below.refl _ _).alloc (Nat.le_refl _) _
   have e8:G.heap.size=y.heap.size+1:=by rw [X];simp
   have d0:G.cell? ⟨y.heap.size,0,none⟩=some (.int .i64 (k:Int)):=by rw [X,World.cell?_alloc_at _ _ _ _ rfl];rfl
   have d1:=HS.out.below Y
   have d2:=HK.out.below Y
   have d3:Hid (Below w.heap.size w G):=HB.out.trans (Y.mono (by omega))
   have d4:Hid (G.cell? ⟨w.heap.size,0,none⟩=some (.func (.func M) #[] N)):=(Y.cell (p:=⟨w.heap.size,0,none⟩) (by show w.heap.size < _;omega)).trans HA.out
   have d5:Hid (Zy G w.heap.size (w.heap.size+1) r (fun i=>if i < k then gG n (D i) else .slice none 0 0)):=d1
   have a1:Hid (iT G w.heap.size (w.heap.size+1) D k n val):=d2
   clear X Y d1 d2 HS HK HB HA
   have a2:=d5.out.below ((Below.refl _ G).alloc (Nat.le_refl _) (.cells (madeCells #[ZM 0] n) 5))
   have hf:(G.alloc (.cells (madeCells #[ZM 0] n) 5)).frozen? ⟨w.heap.size+1,k,none⟩=false:=a2.free k
   have e9:(G.alloc (.cells (madeCells #[ZM 0] n) 5)).cell? ⟨w.heap.size+1,k,none⟩=some (.slice none 0 0):=by rw [a2.cell k a4,if_neg (Nat.lt_irrefl _)]
   have d6:Hid (Zy (G.alloc (.cells (madeCells #[ZM 0] n) 5)) w.heap.size (w.heap.size+1) r (fun i=>if i < k then gG n (D i) else .slice none 0 0)):=a2
   clear a2
   go_region
   obtain ⟨K,Z⟩:∃ K,K=((G.alloc (.cells (madeCells #[ZM 0] n) 5)).setCell ⟨w.heap.size+1,k,none⟩ (.slice (some ⟨y.heap.size+1,0,none⟩) n n)).drew:=⟨_,rfl⟩
   rw [<- Z]
   have Q:G.grownBy K (some (w.heap.size+1)):=by
    rw [Z]
    exact QL (World.grownBy_alloc G _ _) (QL (Z8 _ _ _ _) (JO _ 1 _))
   have a5:Zy K w.heap.size (w.heap.size+1) r (fun i=>if i < k+1 then gG n (if i=k then y.heap.size+1 else D i) else .slice none 0 0):=by
    have h1:=d6.out.set k (.slice (some ⟨y.heap.size+1,0,none⟩) n n)
    rw [Z]
    refine Zy.congr (Zy.kept h1 (JO _ 1 none) (by simp)) (fun i _=>?_)
    by_cases e:i=k
    ·simp [e,gG]
    ·by_cases e':i < k
     ·simp [e,e',show i < k+1 by omega]
     ·simp [e,e',show ¬ i < k+1 by omega]
   have d7:Zo K w.heap.size 5 (y.heap.size+1) n (Qi n fun _=>0):=by
    have h1:=Zo.made G w.heap.size 5 n (by omega) (by omega)
    rw [e8] at h1
    rw [Z]
    exact Y4 (row:=w.heap.size+1) h1 (QL (Z8 _ _ _ _) (JO _ 1 _)) (by omega)
   have d8:K.cell? ⟨w.heap.size,0,none⟩=some (.func (.func M) #[] N):=Q.cell d4.out (by show some w.heap.size≠_;intro e;have:=Option.some.inj e;omega)
   have f3:K.cell? ⟨y.heap.size,0,none⟩=some (.int .i64 (k:Int)):=Q.cell d0 (by show some y.heap.size≠_;intro e;have:=Option.some.inj e;omega)
   have d9:Hid (Below w.heap.size w K):=d3.out.grown Q (by omega) (fun k' a0=>by have:=Option.some.inj a0;omega)
   have e0:∀ i,i < k->Zo K w.heap.size 5 (D i) n (Qi n (val i)):=fun i J=>Y4 (a1.out.row i J) Q (a1.out.ne i J)
   have g5:K.cell? ⟨w.heap.size+1,k,none⟩=some (.slice (some ⟨y.heap.size+1,0,none⟩) n n):=by rw [a5.cell k a4];simp [gG]
   have e1:∀ i,i < k->D i < G.heap.size:=fun i J=>(a1.out.row i J).lt.2
   have e2:∀ i,i < k->D i≠y.heap.size+1:=fun i J e=>by have:=e1 i J;omega
   have g6:G.heap.size<=K.heap.size:=Q.size
   have f4:Hid (Zy K w.heap.size (w.heap.size+1) r (fun i=>if i < k+1 then gG n (if i=k then y.heap.size+1 else D i) else .slice none 0 0)):=a5
   have f5:Hid (Zo K w.heap.size 5 (y.heap.size+1) n (Qi n fun _=>0)):=d7
   have f6:Hid (∀ i,i < k->Zo K w.heap.size 5 (D i) n (Qi n (val i))):=e0
   have e3:Hid (∀ i,i < k->D i≠y.heap.size+1):=e2
   have e4:Hid (K.cell? ⟨w.heap.size,0,none⟩=some (.func (.func M) #[] N)):=d8
   clear Z Q a5 d7 e0 e1 e2 d6 d5 d3 d4 hf e9 d0 e7 d8
   have f7:Hid (∀ j,j < n->∀ I,K.grownBy I (some (y.heap.size+1))->Zo I w.heap.size 5 (y.heap.size+1) n (Qi n (fun i=>if i < j then val k i else 0)) ->
    Calls prog 159 (#[.int .i64 (j:Int)] ++ #[.pointer (some ⟨w.heap.size,0,none⟩),.pointer (some ⟨y.heap.size,0,none⟩)]) I fun e O=>e=.returned (.int .u8 ((val k j:Nat):Int))/\Below I.heap.size I O):=by
    intro j hj I a6 _
    exact OY w.heap.size y.heap.size k j (val k j) M N I e6.out (a6.cell e4.out (by show some w.heap.size≠_;intro e;have:=Option.some.inj e;omega)) (a6.cell f3 (by show some y.heap.size≠_;intro e;have:=Option.some.inj e;omega)) (HC.out k j a4 hj I (d9.out.grown a6 (by omega) (fun k' a0=>by have:=Option.some.inj a0;omega)))
   go_wp2_with (go_at_call 158;refine (zL (y.heap.size+1) n w.heap.size (fun _=>0) (val k) 159 #[.pointer (some ⟨w.heap.size,0,none⟩),.pointer (some ⟨y.heap.size,0,none⟩)] K hn (enters_of func159 (by kernel_rfl) rfl) f5.out f7.out).mono ?_;rintro e w6 ⟨rfl,f8,a3⟩)
   have f9:=f4.out.kept a3 (by intro e;have:=Option.some.inj e;omega)
   have g0:=a1.out.snoc (w':=w6) e3.out (by omega) (fun i J=>Y4 (f6.out i J) a3 (e3.out i J)) f8
   have g1:Below w.heap.size w w6:=d9.out.grown a3 (by omega) (fun k' a0=>by have:=Option.some.inj a0;omega)
   have g2:=a3.cell e4.out (by show some w.heap.size≠_;intro e;have:=Option.some.inj e;omega)
   go_roundw
   case rel=>exact ⟨k+1,fun i=>if i=k then y.heap.size+1 else D i,by omega,by go_num,f9,g0,g1,g2⟩
   case measure=>simp [intOf];omega
  ·have g3:k=r:=by omega
   subst g3
   go_wp2
   go_ret
   exact ⟨⟨_,D,rfl,⟨HS.out.congr (fun i J=>by simp [J]),HK.out⟩⟩,HB.out⟩
structure ZI (S:Nat->Prop) (w w':World):Prop where
 os:w'.os=w.os
 tape:w'.tape=w.tape
 output:w'.output=w.output
 size:w.heap.size<=w'.heap.size
 block:∀ k,k < w.heap.size->¬ S k->w'.heap[k]?=w.heap[k]?
theorem ZI.trans  (h:ZI S a b) (k:ZI S b c):ZI S a c :=
 ⟨k.os.trans h.os,k.tape.trans h.tape,k.output.trans h.output,Nat.le_trans h.size k.size,fun i j y=>(k.block i (Nat.lt_of_lt_of_le j h.size) y).trans (h.block i j y)⟩
theorem ZP  (h:Below w.heap.size w w'):ZI S w w':=⟨h.os,h.tape,h.output,h.size,fun i j _=>h.block i j⟩
theorem zO  {row:Nat} (h:w.grownBy w' (some row)) (D:S row):ZI S w w':=⟨h.os,h.tape,h.output,h.size,fun i j y=>h.block i j (fun e=>y (by rw [Option.some.inj e];exact D))⟩
theorem ZI.cell  (h:ZI S w w') {b o:Nat} {v:Value} (j:w.cell? ⟨b,o,none⟩=some v) (y:¬ S b):w'.cell? ⟨b,o,none⟩=some v :=
 (World.cell?_of_block (a:=⟨b,o,none⟩) (h.block b (Qf j) y)).trans j
theorem ZI.below  (h:ZI S w w') (hB:∀ k,S k->B<=k) (D:B<=w.heap.size):Below B w w':=⟨h.os,h.tape,h.output,h.size,fun k y=>h.block k (by omega) (fun j=>by have:=hB k j;omega)⟩
def j7 (g:Nat->Nat->Nat) (d p k:Nat):Nat->Nat->Nat:=fun i j=>if i=d then Gf.mul (Gf.inv (g p k)) (g p j) else if i=p then g d j else g i j
def QH (h:Nat->Nat->Nat) (d k:Nat):Nat->Nat->Nat:=fun i j=>if i=d then h i j else h i j ^^^ Gf.mul (h i k) (h d j)
theorem yD (h:∀ i j,g i j < 256) (d p k i j:Nat):j7 g d p k i j < 256:=by
 unfold j7
 split
 ·exact Gf.aV (Gf.cQ _) _
 ·split <;> exact h _ _
theorem WL (h:∀ i j,g i j < 256) (d k i j:Nat):QH g d k i j < 256:=by
 unfold QH
 split
 ·exact h _ _
 ·exact Gf.iK (h _ _) (Gf.aV (h _ _) _)
def YW {α:Type} (g:Nat->α) (d p:Nat):Nat->α:=fun i=>if i=d then g p else if i=p then g d else g i
theorem oI {α:Type} (g:Nat->α) (d p i:Nat):YW g d p i=g (if i=d then p else if i=p then d else i):=by
 unfold YW
 by_cases a:i=d
 ·rw [if_pos a,if_pos a]
 ·by_cases b:i=p
  ·rw [if_neg a,if_neg a,if_pos b,if_pos b]
  ·rw [if_neg a,if_neg a,if_neg b,if_neg b]
theorem pN (j:d < r) (y:p < r) (D:i < r):(if i=d then p else if i=p then d else i) < r:=by
 by_cases a:i=d
 ·rw [if_pos a];exact y
 ·by_cases b:i=p
  ·rw [if_neg a,if_pos b];exact j
  ·rw [if_neg a,if_neg b];exact D
theorem Jq3 (h:(if i=d then p else if i=p then d else i)=(if j=d then p else if j=p then d else j)):i=j:=by
 split at h <;> split at h <;> (try split at h) <;> (try split at h) <;> omega
theorem iT.swap {J:Nat} {I:Nat->Nat}  (h:iT w B J I r n f) (D:d < r) (G:p < r) (M:∀ i,i < r->Zo w' B 5 (I i) n (Qi n (f i))):iT w' B J (YW I d p) r n (YW f d p) where
 row:=fun i y=>by rw [oI,oI];exact M _ (pN D G y)
 ne:=fun i y=>by rw [oI];exact h.ne _ (pN D G y)
 inj:=fun i j y K e=>by rw [oI,oI] at e;exact Jq3 (h.inj _ _ (pN D G y) (pN D G K) e)
theorem Zv.swap {D:Nat} {y:Nat->Nat}  (h:Zv w B D y r n f) (J:d < r) (K:p < r):Zv ((w.setCell ⟨D,d,none⟩ (gG n (y p))).setCell ⟨D,p,none⟩ (gG n (y d))).drew B D (YW y d p) r n (YW f d p):=by
 have I:w.grownBy ((w.setCell ⟨D,d,none⟩ (gG n (y p))).setCell ⟨D,p,none⟩ (gG n (y d))).drew (some D):=QL (Z8 _ _ _ _) (QL (Z8 _ _ _ _) (JO _ 1 _))
 refine ⟨?_,h.all.swap J K (fun i G=>Y4 (h.all.row i G) I (h.all.ne i G))⟩
 refine Zy.congr (Zy.kept ((h.rows.set d (gG n (y p))).set p (gG n (y d))) (JO _ 1 none) (by simp)) (fun i _=>?_)
 unfold YW
 by_cases e:i=p
 ·by_cases j:i=d
  ·rw [if_pos e,if_pos j,<- e,<- j]
  ·rw [if_pos e,if_neg j,if_pos e]
 ·by_cases j:i=d
  ·rw [if_neg e,if_pos j,if_pos j]
  ·rw [if_neg e,if_neg j,if_neg j,if_neg e]
theorem Zv.change {D:Nat} {j:Nat->Nat}  {v:Nat->Nat} (h:Zv w B D j r n f) (G:d < r) (I:w.grownBy w' (some (j d))) (K:Zo w' B 5 (j d) n (Qi n v)):Zv w' B D j r n (fun i=>if i=d then v else f i) where
 rows:=h.rows.kept I (fun e=>h.all.ne d G (Option.some.inj e))
 all:=⟨fun i y=>by
  by_cases e:i=d
  ·simp only [e,if_true];exact K
  ·simp only [e,if_false];exact Y4 (h.all.row i y) I (fun J=>e (h.all.inj i d y G J)),h.all.ne,h.all.inj⟩
theorem Zv.congr {D:Nat} {G:Nat->Nat} {y:Nat->Nat->Nat} (h:Zv w B D G r n f) (I:∀ i j,f i j=y i j):Zv w B D G r n y:=by
 have:f=y:=funext fun i=>funext fun j=>I i j
 rw [<- this];exact h
theorem K6 (ps y g n j s x:Nat) (w:World) (J:w.cell? ⟨ps,0,none⟩=some (.int .u8 (s:Int))) (K:w.cell? ⟨y,0,none⟩=some (.slice (some ⟨g,0,none⟩) n n)) (M:w.cell? ⟨g,j,none⟩=some (.int .u8 (x:Int))) (N:j < n) (G:s < 256) (I:x < 256) :
 Calls prog 176 #[.int .i64 (j:Int),.pointer (some ⟨ps,0,none⟩),.pointer (some ⟨y,0,none⟩)] w fun e D=>e=.returned (.int .u8 ((Gf.mul s x:Nat):Int))/\Below w.heap.size w D:=by
 go_enter func176,ntmps176
 go_wp2
 go_quiet ((go_at_call 144;exact Calls.quiet_of_same (S5 s x _ G I)))
 go_wp2
 go_ret
 exact ⟨rfl,below_drewN (Below.refl _ _) _⟩
theorem Jq4 (S:Nat->Prop) (B D:Nat) (y:Nat->Nat) (r n d c:Nat) (f:Nat->Nat->Nat) (z:Addr) (w:World) (hr:r<=1000) (hn:n<=1000) (hd:d<=r) (hc:c < n) (hf:∀ i j,f i j < 256) (hG:Zv w B D y r n f) (e4:S D) (d0:∀ i,i < r->S (y i)) (f4:11 < B)
 (hz:w.cell? ⟨11,0,none⟩=some (.iface 252 (.pointer (some z)))) :
 Calls prog 160 #[.slice (some ⟨D,0,none⟩) r r,.int .i64 (d:Int),.int .i64 (c:Int)] w fun e w'=>ZI S w w' /\
  ((e=.returned (.bool false)/\(∀ i,d<=i->i < r->f i c=0)/\Zv w' B D y r n f) ∨
   (e=.returned (.bool true)/\∃ p a7,d<=p/\p < r/\f p c≠0/\(∀ i,i < r->S (a7 i))/\Zv w' B D a7 r n (j7 f d p c))):=by
 have HG:Hid (Zv w B D y r n f):=hG
 have HZ:Hid (w.cell? ⟨11,0,none⟩=some (.iface 252 (.pointer (some z)))):=hz
 clear hG hz
 go_enter func160,ntmps160
 go_wp2
 go_loopw [7] (fun x wr=>∃ i:Nat,d<=i/\i<=r/\x=.int .i64 i/\(∀ J,d<=J->J < i->f J c=0)/\Below w.heap.size w wr) (fun x _=>r - (intOf x).toNat)
 case atStart=>exact ⟨d,Nat.le_refl _,hd,rfl,fun J h1 h2=>by omega,Below.refl _ _⟩
 case round =>
  obtain ⟨i,d3,e5,rfl,h0,hB⟩:=hrel
  obtain ⟨N,rfl⟩:∃ N,N=wr:=⟨_,rfl⟩
  have H0:Hid (∀ J,d<=J->J < i->f J c=0):=h0
  have Q:Hid (Below w.heap.size w N):=hB
  have W:Hid (Zv N B D y r n f):=HG.out.below hB
  clear h0 hB
  by_cases O:i < r
  ·have c1:N.cell? ⟨D,i,none⟩=some (.slice (some ⟨y i,0,none⟩) n n):=W.out.rows.cell i O
   have c2:N.cell? ⟨y i,c,none⟩=some (.int .u8 ((f i c:Nat):Int)):=by rw [(W.out.all.row i O).cell c hc (Jf _ _),Yq _ _ c hc]
   have lx:=hf i c
   by_cases X:f i c=0
   ·have d4:N.cell? ⟨11,0,none⟩=some (.iface 252 (.pointer (some z))):=(Q.out.cell (p:=⟨11,0,none⟩) (by have:=HG.out.rows.lt;show 11 < _;omega)).trans HZ.out
    have HX:Hid (f i c=0):=X
    rw [X] at c2
    clear X lx
    go_wp2_with (go_at_call 175;refine (NL z _ d4).mono ?_;rintro e I ⟨rfl,a8⟩)
    go_roundw
    case rel =>
     refine ⟨i+1,by omega,by omega,by go_num,fun J h1 h2=>?_,?_⟩
     ·by_cases e:J=i
      ·rw [e];exact HX.out
      ·exact H0.out J h1 (by omega)
     ·exact (Q.out.trans (a8.mono Q.out.size)).alloc (by have:=a8.size;have:=Q.out.size;omega) _
    case measure=>simp [intOf];omega
   ·have HX:Hid (f i c≠0):=X
    have HI:=TG (f i c) N lx X
    clear X
    go_wp2_with (first | (go_at_call 175;refine HI.mono ?_;rintro e I ⟨rfl,rfl⟩))
    clear HI c1 c2
    have Y:d < r:=by omega
    have lv:=Gf.cQ (f i c)
    obtain ⟨K,a0⟩:∃ K,K=I.alloc (.cells #[.int .u8 ((Gf.inv (f i c):Nat):Int)] 5):=⟨_,rfl⟩
    rw [<- a0]
    have a5:Below I.heap.size I K:=by rw [a0];exact (Below.refl _ _).alloc (Nat.le_refl _) _
    have e6:K.heap.size=I.heap.size+1:=by rw [a0];simp
    have a9:K.cell? ⟨I.heap.size,0,none⟩=some (.int .u8 ((Gf.inv (f i c):Nat):Int)):=by rw [a0,World.cell?_alloc_at _ _ _ _ rfl];rfl
    have Z:Hid (Zv K B D y r n f):=W.out.below a5
    have b0:Hid (ZI S w K):=ZP (Q.out.trans (a5.mono Q.out.size))
    have e7:D < I.heap.size:=W.out.rows.lt.2
    have e8:y i < I.heap.size:=(W.out.all.row i O).lt.2
    clear a0 a5
    have d1:K.cell? ⟨D,i,none⟩=some (.slice (some ⟨y i,0,none⟩) n n):=Z.out.rows.cell i O
    have d2:K.cell? ⟨D,d,none⟩=some (.slice (some ⟨y d,0,none⟩) n n):=Z.out.rows.cell d Y
    have f1:K.frozen? ⟨D,i,none⟩=false:=Z.out.rows.free i
    have f2:K.frozen? ⟨D,d,none⟩=false:=Z.out.rows.free d
    obtain ⟨v',d5⟩:=cell?_setCell_some (w:=K) (p:=⟨D,d,none⟩) (x:=.slice (some ⟨y i,0,none⟩) n n) (q:=⟨D,i,none⟩) (v:=.slice (some ⟨y i,0,none⟩) n n) d1
    go_region
    obtain ⟨G,a2⟩:∃ G,G=((K.setCell ⟨D,d,none⟩ (.slice (some ⟨y i,0,none⟩) n n)).setCell ⟨D,i,none⟩ (.slice (some ⟨y d,0,none⟩) n n)).drew:=⟨_,rfl⟩
    rw [<- a2]
    have a6:Hid (Zv G B D (YW y d i) r n (YW f d i)):=by
     show Zv _ _ _ _ _ _ _
     rw [a2]
     exact Z.out.swap Y O
    have a3:K.grownBy G (some D):=by
     rw [a2]
     exact QL (Z8 _ _ _ _) (QL (Z8 _ _ _ _) (JO _ 1 _))
    have b1:G.cell? ⟨I.heap.size,0,none⟩=some (.int .u8 ((Gf.inv (f i c):Nat):Int)):=a3.cell a9 (by show some I.heap.size≠_;intro e;have:=Option.some.inj e;omega)
    have b2:Hid (ZI S w G):=b0.out.trans (zO a3 e4)
    have e9:K.heap.size<=G.heap.size:=a3.size
    clear a2 a3 d1 d2 f1 f2 d5 a9 Z b0
    have sd:YW y d i d=y i:=if_pos rfl
    have sf:YW f d i d=f i:=if_pos rfl
    have c6:G.cell? ⟨D,d,none⟩=some (.slice (some ⟨y i,0,none⟩) n n):=by have:=a6.out.rows.cell d Y;rw [sd] at this;exact this
    obtain ⟨M,a1⟩:∃ M,M=G.alloc (.cells #[.slice (some ⟨y i,0,none⟩) n n] 138):=⟨_,rfl⟩
    have a4:Below G.heap.size G M:=by rw [a1];exact (Below.refl _ _).alloc (Nat.le_refl _) _
    have f3:M.heap.size=G.heap.size+1:=by rw [a1];simp
    have b3:M.cell? ⟨G.heap.size,0,none⟩=some (.slice (some ⟨y i,0,none⟩) n n):=by rw [a1,World.cell?_alloc_at _ _ _ _ rfl];rfl
    have b4:M.cell? ⟨I.heap.size,0,none⟩=some (.int .u8 ((Gf.inv (f i c):Nat):Int)):=(a4.cell (p:=⟨I.heap.size,0,none⟩) (by show I.heap.size < _;omega)).trans b1
    have b5:Hid (Zv M B D (YW y d i) r n (YW f d i)):=a6.out.below a4
    have d6:Hid (ZI S w M):=b2.out.trans (ZP a4)
    have d7:Hid (Zo M B 5 (y i) n (Qi n (f i))):=by have:=b5.out.all.row d Y;rw [sd,sf] at this;exact this
    have d8:Hid (∀ j,j < n->∀ U,M.grownBy U (some (y i))->Zo U B 5 (y i) n (Qi n (fun l=>if l < j then Gf.mul (Gf.inv (f i c)) (f i l) else f i l)) ->
     Calls prog 176 (#[.int .i64 (j:Int)] ++ #[.pointer (some ⟨I.heap.size,0,none⟩),.pointer (some ⟨G.heap.size,0,none⟩)]) U fun e w2=>e=.returned (.int .u8 ((Gf.mul (Gf.inv (f i c)) (f i j):Nat):Int))/\Below U.heap.size U w2):=by
     intro j hj U b6 d9
     refine K6 I.heap.size G.heap.size (y i) n j (Gf.inv (f i c)) (f i j) U (b6.cell b4 (by show some I.heap.size≠_;intro e;have:=Option.some.inj e;omega)) (b6.cell b3 (by show some G.heap.size≠_;intro e;have:=Option.some.inj e;omega)) ?_ hj lv (hf i j)
     rw [d9.cell j hj (Jf _ _),Yq _ _ j hj,if_neg (Nat.lt_irrefl _)]
    have e0:Hid (M=G.alloc (.cells #[.slice (some ⟨y i,0,none⟩) n n] 138)):=a1
    clear a1 a4 b1 b3 b4 a6 b2 sd sf hf
    go_wp2_with (go_at_call 158;rw [<- e0.out];refine (zL (y i) n B (f i) (fun l=>Gf.mul (Gf.inv (f i c)) (f i l)) 176 #[.pointer (some ⟨I.heap.size,0,none⟩),.pointer (some ⟨G.heap.size,0,none⟩)] M hn (enters_of func176 (by kernel_rfl) rfl) d7.out d8.out).mono ?_;rintro e w8 ⟨rfl,e1,b7⟩)
    go_ret
    have sd:YW y d i d=y i:=if_pos rfl
    refine ⟨d6.out.trans (zO b7 (d0 i O)),Or.inr ⟨rfl,i,YW y d i,d3,O,HX.out,fun J e2=>by rw [oI];exact d0 _ (pN Y O e2),?_⟩⟩
    refine Zv.congr (b5.out.change (v:=fun l=>Gf.mul (Gf.inv (f i c)) (f i l)) Y (by rw [sd];exact b7) (by rw [sd];exact e1)) (fun J j=>?_)
    unfold j7 YW
    by_cases e:J=d
    ·rw [if_pos e,if_pos e]
    ·by_cases e':J=i
     ·rw [if_neg e,if_neg e,if_neg e,if_pos e',if_pos e']
     ·rw [if_neg e,if_neg e,if_neg e,if_neg e',if_neg e']
  ·have e3:i=r:=by omega
   subst e3
   go_wp2
   go_ret
   exact ⟨ZP Q.out,Or.inl ⟨rfl,H0.out,W.out⟩⟩
theorem RU (D G I J g K M n r j fr t x y:Nat) (w:World) (W:w.cell? ⟨D,0,none⟩=some (.slice (some ⟨g,0,none⟩) n n)) (X:w.cell? ⟨G,0,none⟩=some (.int .u8 (t:Int))) (Y:w.cell? ⟨I,0,none⟩=some (.slice (some ⟨K,0,none⟩) r r)) (Z:w.cell? ⟨J,0,none⟩=some (.int .i64 (fr:Int)))
 (hg:w.cell? ⟨K,fr,none⟩=some (.slice (some ⟨M,0,none⟩) n n)) (hx:w.cell? ⟨g,j,none⟩=some (.int .u8 (x:Int))) (hy:w.cell? ⟨M,j,none⟩=some (.int .u8 (y:Int))) (hj:j < n) (a0:fr < r) (lt:t < 256) (Q:x < 256) (U:y < 256) :
 Calls prog 177 #[.int .i64 (j:Int),.pointer (some ⟨D,0,none⟩),.pointer (some ⟨G,0,none⟩),.pointer (some ⟨I,0,none⟩),.pointer (some ⟨J,0,none⟩)] w fun e N=>e=.returned (.int .u8 ((x ^^^ Gf.mul t y:Nat):Int))/\Below w.heap.size w N:=by
 have O:=Gf.aV lt y
 go_enter func177,ntmps177
 go_wp2
 go_quiet ((first | (go_at_call 144;exact Calls.quiet_of_same (S5 t y _ lt U)) | (go_at_call 143;exact Calls.quiet_of_same (oC x (Gf.mul t y) _ Q O))))
 go_wp2
 go_ret
 exact ⟨rfl,below_drewN (Below.refl _ _) _⟩
theorem JpO (S:Nat->Prop) (B G:Nat) (y:Nat->Nat) (r n d c:Nat) (f:Nat->Nat->Nat) (w:World) (hr:r<=1000) (hn:n<=1000) (hd:d < r) (hc:c < n) (hf:∀ i j,f i j < 256) (hG:Zv w B G y r n f) (b5:∀ i,i < r->S (y i)) (b6:∀ k,S k->k < w.heap.size) (e1:S G) :
 Calls prog 161 #[.slice (some ⟨G,0,none⟩) r r,.int .i64 (d:Int),.int .i64 (c:Int)] w fun e w'=>e=.returned (.tuple #[])/\ZI S w w'/\Zv w' B G y r n (QH f d c):=by
 have HG:Hid (Zv w B G y r n f):=hG
 have a6:Hid (∀ k,S k->k < w.heap.size):=b6
 clear hG b6
 go_enter func161,ntmps161
 go_wp2
 obtain ⟨J,O⟩:∃ J,J=(w.alloc (.cells #[.slice (some ⟨G,0,none⟩) r r] 162)).alloc (.cells #[.int .i64 (d:Int)] 3):=⟨_,rfl⟩
 rw [<- O]
 have a1:Hid (Below w.heap.size w J):=by
  show Below _ _ _
  rw [O]
  exact ((Below.refl _ _).alloc (Nat.le_refl _) _).alloc (by simp) _
 have e2:J.heap.size=w.heap.size+2:=by rw [O];simp
 have a7:Hid (J.cell? ⟨w.heap.size,0,none⟩=some (.slice (some ⟨G,0,none⟩) r r)):=by
  show _=_
  rw [O,World.cell?_alloc_past _ _ _ (by simp),World.cell?_alloc_at _ _ _ _ rfl]
  rfl
 have a8:Hid (J.cell? ⟨w.heap.size+1,0,none⟩=some (.int .i64 (d:Int))):=by
  show _=_
  rw [O,World.cell?_alloc_at _ _ _ _ (by simp)]
  rfl
 clear O
 go_loopw [11] (fun x wr=>∃ k:Nat,k<=r/\x=.int .i64 k/\Zv wr B G y r n (fun i j=>if i < k then QH f d c i j else f i j)/\ZI S w wr/\w.heap.size+2<=wr.heap.size/\wr.cell? ⟨w.heap.size,0,none⟩=some (.slice (some ⟨G,0,none⟩) r r)/\wr.cell? ⟨w.heap.size+1,0,none⟩=some (.int .i64 (d:Int))) (fun x _=>r - (intOf x).toNat)
 case atStart=>exact ⟨0,by omega,rfl,by simpa using HG.out.below a1.out,ZP a1.out,by omega,a7.out,a8.out⟩
 case round =>
  obtain ⟨k,hk,rfl,a9,b0,e3,b1,a2⟩:=hrel
  obtain ⟨D,rfl⟩:∃ D,D=wr:=⟨_,rfl⟩
  have K:Hid (Zv D B G y r n (fun i j=>if i < k then QH f d c i j else f i j)):=a9
  have a3:Hid (ZI S w D):=b0
  have b2:Hid (D.cell? ⟨w.heap.size,0,none⟩=some (.slice (some ⟨G,0,none⟩) r r)):=b1
  clear a9 b0 a1 a7 a8 b1
  by_cases M:k < r
  ·have c1:D.cell? ⟨G,k,none⟩=some (.slice (some ⟨y k,0,none⟩) n n):=K.out.rows.cell k M
   have e4:(D.alloc (.cells #[.slice (some ⟨y k,0,none⟩) n n] 138)).cell? ⟨w.heap.size+1,0,none⟩=some (.int .i64 (d:Int)):=(World.cell?_alloc_past _ _ _ (by show w.heap.size+1 < _;omega)).trans a2
   by_cases a0:k=d
   ·have ht:((k:Int) != (d:Int))=false:=by simp;omega
    have HE:Hid (∀ i j,(if i < k then QH f d c i j else f i j)=if i < k+1 then QH f d c i j else f i j):=fun i j=>by
     by_cases e:i < k
     ·rw [if_pos e,if_pos (by omega)]
     ·by_cases e':i=k
      ·rw [if_neg e,if_pos (by omega)]
       unfold QH
       rw [if_pos (by omega)]
      ·rw [if_neg e,if_neg (by omega)]
    clear a0
    go_wp2
    have Q:Below D.heap.size D (D.alloc (.cells #[.slice (some ⟨y k,0,none⟩) n n] 138)):=(Below.refl _ _).alloc (Nat.le_refl _) _
    go_roundw
    case rel=>exact ⟨k+1,by omega,by go_num,Zv.congr (K.out.below Q) HE.out,a3.out.trans (ZP Q),by simp;omega,(Q.cell (p:=⟨w.heap.size,0,none⟩) (by show w.heap.size < _;omega)).trans b2.out,(Q.cell (p:=⟨w.heap.size+1,0,none⟩) (by show w.heap.size+1 < _;omega)).trans a2⟩
    case measure=>simp [intOf];omega
   ·have ht:((k:Int) != (d:Int))=true:=by simp;omega
    have e5:Hid (k≠d):=a0
    have fk:(fun j=>if k < k then QH f d c k j else f k j)=f k:=funext fun j=>if_neg (Nat.lt_irrefl _)
    have fd:∀ j,(if d < k then QH f d c d j else f d j)=f d j:=fun j=>by
     by_cases e:d < k
     ·rw [if_pos e];unfold QH;rw [if_pos rfl]
     ·rw [if_neg e]
    have c2:D.cell? ⟨y k,c,none⟩=some (.int .u8 ((f k c:Nat):Int)):=by
     have:=K.out.all.row k M
     rw [fk] at this
     rw [this.cell c hc (Jf _ _),Yq _ _ c hc]
    have c3:(D.alloc (.cells #[.slice (some ⟨y k,0,none⟩) n n] 138)).cell? ⟨y k,c,none⟩=some (.int .u8 ((f k c:Nat):Int)):=(World.cell?_alloc_past _ _ _ (Qf c2)).trans c2
    have lt:=hf k c
    have e6:y k < w.heap.size:=a6.out _ (b5 k M)
    have e7:G < w.heap.size:=a6.out _ e1
    obtain ⟨I,U⟩:∃ I,I=(D.alloc (.cells #[.slice (some ⟨y k,0,none⟩) n n] 138)).alloc (.cells #[.int .u8 ((f k c:Nat):Int)] 5):=⟨_,rfl⟩
    have X:Below D.heap.size D I:=by rw [U];exact ((Below.refl _ _).alloc (Nat.le_refl _) _).alloc (by simp) _
    have e8:I.heap.size=D.heap.size+2:=by rw [U];simp
    have b3:I.cell? ⟨D.heap.size,0,none⟩=some (.slice (some ⟨y k,0,none⟩) n n):=by rw [U,World.cell?_alloc_past _ _ _ (by simp),World.cell?_alloc_at _ _ _ _ rfl];rfl
    have b4:I.cell? ⟨D.heap.size+1,0,none⟩=some (.int .u8 ((f k c:Nat):Int)):=by rw [U,World.cell?_alloc_at _ _ _ _ (by simp)];rfl
    have a4:I.cell? ⟨w.heap.size,0,none⟩=some (.slice (some ⟨G,0,none⟩) r r):=(X.cell (p:=⟨w.heap.size,0,none⟩) (by show w.heap.size < _;omega)).trans b2.out
    have a5:I.cell? ⟨w.heap.size+1,0,none⟩=some (.int .i64 (d:Int)):=(X.cell (p:=⟨w.heap.size+1,0,none⟩) (by show w.heap.size+1 < _;omega)).trans a2
    have W:Hid (Zv I B G y r n (fun i j=>if i < k then QH f d c i j else f i j)):=K.out.below X
    have b7:Hid (ZI S w I):=a3.out.trans (ZP X)
    have d0:Hid (Zo I B 5 (y k) n (Qi n (f k))):=by have:=W.out.all.row k M;rw [fk] at this;exact this
    have d1:y k≠G:=W.out.all.ne k M
    have d2:y d≠y k:=fun e=>a0 (W.out.all.inj d k hd M e).symm
    have d3:Hid (∀ j,j < n->∀ N,I.grownBy N (some (y k))->Zo N B 5 (y k) n (Qi n (fun l=>if l < j then f k l ^^^ Gf.mul (f k c) (f d l) else f k l)) ->
     Calls prog 177 (#[.int .i64 (j:Int)] ++ #[.pointer (some ⟨D.heap.size,0,none⟩),.pointer (some ⟨D.heap.size+1,0,none⟩),.pointer (some ⟨w.heap.size,0,none⟩),.pointer (some ⟨w.heap.size+1,0,none⟩)]) N fun e J=>e=.returned (.int .u8 ((f k j ^^^ Gf.mul (f k c) (f d j):Nat):Int))/\Below N.heap.size N J):=by
     intro j Y N d4 d5
     have aS:∀ {b o:Nat} {v:Value},I.cell? ⟨b,o,none⟩=some v->b≠y k->N.cell? ⟨b,o,none⟩=some v:=fun {b o v} h Q=>d4.cell h (by show some b≠_;intro e;exact Q (Option.some.inj e))
     refine RU D.heap.size (D.heap.size+1) w.heap.size (w.heap.size+1) (y k) G (y d) n r j d (f k c) (f k j) (f d j) N (aS b3 (by omega)) (aS b4 (by omega)) (aS a4 (by omega)) (aS a5 (by omega)) (aS (W.out.rows.cell d hd) (fun e=>d1 e.symm)) ?_ (aS ?_ d2) Y hd lt (hf k j) (hf d j)
     ·rw [d5.cell j Y (Jf _ _),Yq _ _ j Y,if_neg (Nat.lt_irrefl _)]
     ·rw [(W.out.all.row d hd).cell j Y (Jf _ _),Yq _ _ j Y,fd j]
    have d6:Hid (I=(D.alloc (.cells #[.slice (some ⟨y k,0,none⟩) n n] 138)).alloc (.cells #[.int .u8 ((f k c:Nat):Int)] 5)):=U
    have HE:Hid (∀ i j,(if i=k then fun l=>f k l ^^^ Gf.mul (f k c) (f d l) else fun j=>if i < k then QH f d c i j else f i j) j=if i < k+1 then QH f d c i j else f i j):=fun i j=>by
     by_cases e:i=k
     ·rw [if_pos e,if_pos (by omega)]
      unfold QH
      rw [if_neg (by omega),e]
     ·rw [if_neg e]
      by_cases e':i < k
      ·rw [if_pos (by omega:i < k+1)];exact if_pos e'
      ·rw [if_neg (by omega:¬ i < k+1)];exact if_neg e'
    have d7:Hid (I.cell? ⟨w.heap.size,0,none⟩=some (.slice (some ⟨G,0,none⟩) r r)):=a4
    have d8:Hid (I.cell? ⟨w.heap.size+1,0,none⟩=some (.int .i64 (d:Int))):=a5
    clear U X b3 b4 a4 a5 fk fd a0 hf
    go_wp2_with (go_at_call 158;rw [<- d6.out];refine (zL (y k) n B (f k) (fun l=>f k l ^^^ Gf.mul (f k c) (f d l)) 177 #[.pointer (some ⟨D.heap.size,0,none⟩),.pointer (some ⟨D.heap.size+1,0,none⟩),.pointer (some ⟨w.heap.size,0,none⟩),.pointer (some ⟨w.heap.size+1,0,none⟩)] I hn (enters_of func177 (by kernel_rfl) rfl) d0.out d3.out).mono ?_;rintro e w8 ⟨rfl,d9,Z⟩)
    go_roundw
    case rel =>
     refine ⟨k+1,by omega,by go_num,Zv.congr (W.out.change M Z d9) HE.out,b7.out.trans (zO Z (b5 k M)),by have:=Z.size;omega,Z.cell d7.out (by show some w.heap.size≠_;intro e;have:=Option.some.inj e;omega),Z.cell d8.out (by show some (w.heap.size+1)≠_;intro e;have:=Option.some.inj e;omega)⟩
    case measure=>simp [intOf];omega
  ·have e0:k=r:=by omega
   subst e0
   go_wp2
   go_end0
   refine ⟨rfl,a3.out,⟨K.out.rows,fun i hi=>?_,K.out.all.ne,K.out.all.inj⟩⟩
   have:=K.out.all.row i hi
   rw [show (fun j=>if i < k then QH f d c i j else f i j)=QH f d c i from funext fun j=>if_pos hi] at this
   exact this
theorem VN (h:∀ i j,g i j < 256) (d p k i j:Nat):Qm (j7 g d p k i j)=Lin.aZ (fun i j=>Qm (g i j)) d p k i j:=by
 have D:Qm (Gf.inv (g p k))=Lin.iv (Qm (g p k)):=Fin.ext (by
  show (Qm (Gf.inv (g p k))).1=Gf.inv (Qm (g p k)).1
  rw [YY (Gf.cQ _),YY (h p k)])
 unfold j7 Lin.aZ
 by_cases e:i=d
 ·rw [if_pos e,if_pos e,oU (Gf.cQ _) (h _ _),D]
 ·by_cases y:i=p
  ·rw [if_neg e,if_neg e,if_pos y,if_pos y]
  ·rw [if_neg e,if_neg e,if_neg y,if_neg y]
theorem JpP (h:∀ i j,g i j < 256) (d k i j:Nat):Qm (QH g d k i j)=Lin.bE (fun i j=>Qm (g i j)) d k i j:=by
 unfold QH Lin.bE
 by_cases e:i=d
 ·rw [if_pos e,if_pos e]
 ·rw [if_neg e,if_neg e,qW (h _ _) (Gf.aV (h _ _) _),oU (h _ _) (h _ _)]
def Ym (f:Nat->Nat->Nat):Nat->Nat->Lin.F:=fun i j=>Qm (f i j)
theorem TJ (h:∀ i j,g i j < 256) (d p k:Nat):Ym (QH (j7 g d p k) d k)=Lin.bE (Lin.aZ (Ym g) d p k) d k:=by
 have y:Ym (j7 g d p k)=Lin.aZ (Ym g) d p k:=funext fun i=>funext fun j=>VN h d p k i j
 rw [<- y]
 exact funext fun i=>funext fun j=>JpP (fun i j=>yD h d p k i j) d k i j
theorem JnT (S:Nat->Prop) (B G:Nat) (O:Nat->Nat) (r n c:Nat) (f:Nat->Nat->Nat) (z:Addr) (w:World) (hr:r<=1000) (hn:n<=1000) (hc:c<=n) (hf:∀ i j,f i j < 256) (hG:Zv w B G O r n f) (b0:S G) (d2:∀ i,i < r->S (O i)) (b1:∀ k,S k->B<=k/\k < w.heap.size) (d3:11 < B)
 (hz:w.cell? ⟨11,0,none⟩=some (.iface 252 (.pointer (some z)))) :
 Calls prog 141 #[.slice (some ⟨G,0,none⟩) r r,.int .i64 (c:Int)] w fun e w'=>ZI S w w'/\∃ (d:Nat) (D:Nat->Nat) (g:Nat->Nat->Nat),e=.returned (.int .i64 (d:Int))/\Zv w' B G D r n g/\(∀ i j,g i j < 256)/\Lin.eO r n c (Ym f) (Ym g) d:=by
 have HG:Hid (Zv w B G O r n f):=hG
 have X:Hid (∀ k,S k->B<=k/\k < w.heap.size):=b1
 have Y:Hid (w.cell? ⟨11,0,none⟩=some (.iface 252 (.pointer (some z)))):=hz
 clear hG b1 hz
 go_enter func141,ntmps141
 go_wp2
 go_loopw [5,8] (fun y x wr=>∃ (k d:Nat) (D:Nat->Nat) (g:Nat->Nat->Nat),k<=c/\x=.int .i64 k/\y=.int .i64 d/\Zv wr B G D r n g/\(∀ i,i < r->S (D i))/\(∀ i j,g i j < 256)/\Lin.eO r n k (Ym f) (Ym g) d/\ZI S w wr) (fun _ x _=>c - (intOf x).toNat)
 case atStart=>exact ⟨0,0,O,f,by omega,rfl,rfl,HG.out,d2,hf,Lin.eO.start _ _ _,ZP (Below.refl _ _)⟩
 case round =>
  obtain ⟨k,d,D,g,hk,rfl,rfl,Z,a0,a1,Q,a2⟩:=hrel
  obtain ⟨J,rfl⟩:∃ J,J=wr:=⟨_,rfl⟩
  have a3:Hid (Zv J B G D r n g):=Z
  have a4:Hid (∀ i,i < r->S (D i)):=a0
  have I:Hid (∀ i j,g i j < 256):=a1
  have U:Hid (Lin.eO r n k (Ym f) (Ym g) d):=Q
  have K:Hid (ZI S w J):=a2
  have b2:d<=r:=Q.le
  clear Z a0 a1 Q a2
  by_cases d4:k < c
  ·have a5:Hid (J.cell? ⟨11,0,none⟩=some (.iface 252 (.pointer (some z)))):=K.out.cell Y.out (fun hs=>by have:=(X.out _ hs).1;omega)
   go_wp2_with (go_at_call 160;refine (Jq4 S B G D r n d k g z _ hr hn b2 (by omega) I.out a3.out b0 a4.out d3 a5.out).mono ?_;rintro e w4 ⟨W,⟨rfl,h0,M⟩ | ⟨rfl,p,N,b3,b4,a6,a7,M⟩⟩)
   ·go_roundw
    case rel=>exact ⟨k+1,d,D,g,by omega,by go_num,rfl,M,a4.out,I.out,U.out.skip (fun i h1 h2=>by show Qm (g i k)=0;rw [h0 i h1 h2];rfl),K.out.trans W⟩
    case measure=>simp [intOf];omega
   ·have a8:Hid (ZI S J w4):=W
    have a9:Hid (∀ i,i < r->S (N i)):=a7
    have b5:Hid (Zv w4 B G N r n (j7 g d p k)):=M
    have b6:Hid (g p k≠0):=a6
    clear W a7 M a6 a5 Y
    go_wp2_with (go_at_call 161;refine (JpO S B G N r n d k (j7 g d p k) _ hr hn (by omega) (by omega) (fun i j=>yD I.out d p k i j) b5.out a9.out (fun q hq=>Nat.lt_of_lt_of_le (X.out q hq).2 (Nat.le_trans K.out.size a8.out.size)) b0).mono ?_;rintro e w5 ⟨rfl,b7,d0⟩)
    go_roundw
    case rel =>
     refine ⟨k+1,d+1,N,QH (j7 g d p k) d k,by omega,by go_num,by go_num,d0,a9.out,fun i j=>WL (fun i j=>yD I.out d p k i j) d k i j,?_,K.out.trans (a8.out.trans b7)⟩
     rw [TJ I.out]
     exact U.out.step b3 b4 (fun h=>b6.out ((AP (I.out p k)).1 h))
    case measure=>simp [intOf];omega
  ·have d1:k=c:=by omega
   subst d1
   go_wp2
   go_ret
   exact ⟨K.out,d,D,g,rfl,a3.out,I.out,U.out⟩
theorem AF {A B:List (List Nat)} (y:QR A) (hB:QR B) (i j:Nat):∀ k,Qm (jM A B i j k)=Lin.aL k (fun t=>Lin.mu (vec A i t) (vec B t j))
 | 0=>rfl
 | k+1=>by
  show Qm (jM A B i j k ^^^ Gf.mul (Gf.nth (Qh A i) k) (Gf.nth (Qh B k) j))=Lin.ad _ _
  rw [qW (o8 A B y i j k) (Gf.aV (y i k) _),oU (y i k) (hB k j),AF y hB i j k]
  rfl
theorem zA {x:Nat} (j:x < 256) (D:y < 256) (h:Qm x=Qm y):x=y:=by
 have:=congrArg Fin.val h
 rw [YY j,YY D] at this
 exact this
theorem J6  (h:∀ i j,f i j < 256):QR (XB r n f):=fun i=>by
 by_cases y:i < r
 ·rw [XD r n f i y];exact XL _ _ (h i)
 ·intro j
  have:Qh (XB r n f) i=[]:=by unfold Qh;rw [List.getD_eq_getElem?_getD,List.getElem?_eq_none (by rw [Zs];omega)];rfl
  rw [this]
  show ([]:List Nat).getD j 0 < 256
  simp
theorem uN  (y:i < r) (D:j < n):vec (XB r n f) i j=Ym f i j:=by
 unfold vec Ym
 rw [XD r n f i y,Yq _ _ j D]
theorem zH  (y:1<=r) (D:r<=16) (G:1<=n) (I:n<=16):jQ (XB r n f):=by
 refine ⟨by rw [Zs];exact y,by rw [Zs];exact D,fun i j=>?_⟩
 rw [Zs] at j
 rw [XD r n f i j,XD r n f 0 (by omega),Jf,Jf]
 exact ⟨G,I,rfl⟩
theorem K1 (A B:List (List Nat)) (m:Nat):xW A B m=XB m (Qh B 0).length (fun i j=>jM A B i j B.length):=rfl
theorem NT {p:Option Addr}  (h:QJ w p (XB r n f)) (Y:1<=r) (Z:1<=n):∃ b o,p=some ⟨b,o,none⟩/\∀ i,i < r->∃ D G c,w.cell? ⟨b,o+i,none⟩=some (.slice (some ⟨D,G,none⟩) n c)/\∀ j,j < n->w.cell? ⟨D,G+j,none⟩=some (.int .u8 ((f i j:Nat):Int)):=by
 have I:∀ i,i < r->(Qh (XB r n f) i).length=n:=fun i y=>by rw [XD r n f i y,Jf]
 obtain ⟨b,o,_,_,_,K,_,_,_,_⟩:=h.row (i:=0) (by rw [Zs];omega) (by rw [I 0 (by omega)];omega)
 refine ⟨b,o,K,fun i y=>?_⟩
 obtain ⟨W,X,D,G,c,J,_,_,M,O⟩:=h.row (i:=i) (by rw [Zs];omega) (by rw [I i y];omega)
 rw [K] at J
 injection J with J
 injection J with Q U _
 subst Q U
 rw [I i y] at M
 refine ⟨D,G,c,M,fun j N=>?_⟩
 rw [O j (by rw [I i y];exact N),XD r n f i y,Yq _ _ j N]
def Jl (f val:Nat->Nat->Nat) (i c:Nat):Nat->Nat
 | 0=>0
 | j+1=>Jl f val i c j ^^^ Gf.mul (f i j) (val j c)
def J7 (f val:Nat->Nat->Nat) (k j i:Nat):List Nat:=Qi j fun c=>Jl f val i c k
theorem nD {f val:Nat->Nat->Nat} (y:∀ i j,f i j < 256) (i c:Nat):∀ j,Jl f val i c j < 256
 | 0=>by show 0 < 256;decide
 | j+1=>Gf.iK (nD y i c j) (Gf.aV (y _ _) _)
theorem CR:(prog.info? 9).map (fun i=>(i.zero,i.size,i.bytes))=some (some (.string ⟨#[]⟩),1,16):=by kernel_rfl
theorem yN {b:Nat} {t:TypeId} {f:Nat->Value} (h:w.rowIs b t n f) (j:Below w.heap.size w w'):w'.rowIs b t n f:=h.of_block (j.block _ h.lt)
def uI (w:World) (G:FuncId) (I:Array Value) (val:Nat->Nat->Nat) (k J:Nat):Prop :=
 ∀ j c,j < k->c < J->∀ y,Below w.heap.size w y->Calls prog G (#[.int .i64 (j:Int),.int .i64 (c:Int)] ++ I) y fun e D=>e=.returned (.int .u8 ((val j c:Nat):Int))/\D=y
theorem F3 (p:Option Addr) (r k G g9:Nat) (f val:Nat->Nat->Nat) (O:FuncId) (a3:Array Value) (w:World) (h0:1<=r) (hr:r<=1000) (h3:1<=k) (hk:k<=1000) (h6:G<=100000)
 (hf:∀ i j,f i j < 256) (hv:∀ j c,val j c < 256) (hm:QJ w p (XB r k f)) (h7:∀ args W,Sem.run prog (callFunc O args) W=.ok (.enter O args) W) (hc:uI w O a3 val k G) :
 Calls prog 115 #[.slice p r g9,.int .i64 (G:Int),.func (.func O) #[] a3] w fun e w'=>e=.returned (.slice (some ⟨w.heap.size,0,none⟩) r r)/\w'.rowIs w.heap.size 9 r (fun i=>.string (Jp (J7 f val k G i)))/\Below w.heap.size w w':=by
 obtain ⟨b,o,rfl,b3⟩:=NT hm h0 h3
 have b4:∀ i,i < r->∃ I K c,b < w.heap.size/\I < w.heap.size/\w.cell? ⟨b,o+i,none⟩=some (.slice (some ⟨I,K,none⟩) k c)/\∀ j,j < k->w.cell? ⟨I,K+j,none⟩=some (.int .u8 ((f i j:Nat):Int)):=fun i hi=>by
  obtain ⟨I,K,c,h1,h2⟩:=b3 i hi
  exact ⟨I,K,c,Qf h1,Qf (h2 0 (by omega)),h1,h2⟩
 have HR:Hid (∀ i,i < r->∃ I K c,b < w.heap.size/\I < w.heap.size/\w.cell? ⟨b,o+i,none⟩=some (.slice (some ⟨I,K,none⟩) k c)/\∀ j,j < k->w.cell? ⟨I,K+j,none⟩=some (.int .u8 ((f i j:Nat):Int))):=b4
 have HC:Hid (uI w O a3 val k G):=hc
 have HF:Hid (∀ i j,f i j < 256):=hf
 have HV:Hid (∀ j c,val j c < 256):=hv
 obtain ⟨i0,b5,b6,b7,d0⟩:=info_parts KF
 obtain ⟨i1,d1,d2,d3,d4⟩:=info_parts CR
 have f4:∀ W:World,Sem.run prog (Instr.makeSlice 22 (.int .i64 (r:Int)) (.int .i64 (r:Int))) W=.ok (.slice (some ⟨W.heap.size,0,none⟩) r r) (W.alloc (.cells (madeCells #[.string ⟨#[]⟩] r) 9)):=fun W=>run_make_row (P:=prog) 22 9 i1 (.string ⟨#[]⟩) underlying22 d1 d2 d3 rfl .i64 .i64 r (by rw [d4];omega) (by omega) W
 have f5:∀ W:World,Sem.run prog (Instr.makeSlice 138 (.int .i64 (G:Int)) (.int .i64 (G:Int))) W=.ok (.slice (some ⟨W.heap.size,0,none⟩) G G) (W.alloc (.cells (madeCells #[ZM 0] G) 5)):=fun W=>run_make_row (P:=prog) 138 5 i0 (ZM 0) underlying138 b5 b6 b7 rfl .i64 .i64 G (by rw [d0];omega) (by omega) W
 clear hm b3 b4 hc hf hv b5 b6 b7 d0 d1 d2 d3 d4
 go_enter func115,ntmps115
 go_wp2
 have a4:(w.alloc (.cells (madeCells #[.string ⟨#[]⟩] r) 9)).rowIs w.heap.size 9 r (fun _=>.string ⟨#[]⟩):=World.rowIs_made w _ r _
 have a5:Below w.heap.size w (w.alloc (.cells (madeCells #[.string ⟨#[]⟩] r) 9)):=(Below.refl _ _).alloc (Nat.le_refl _) _
 generalize w.alloc (.cells (madeCells #[.string ⟨#[]⟩] r) 9)=w0 at a4 a5 ⊢
 have d5:Hid (w0.rowIs w.heap.size 9 r (fun _=>.string ⟨#[]⟩)):=a4
 have d6:Hid (Below w.heap.size w w0):=a5
 clear a4 a5
 go_loopw [19] (fun x wr=>∃ i:Nat,i<=r/\x=.int .i64 i/\wr.rowIs w.heap.size 9 r (fun q=>if q < i then .string (Jp (J7 f val k G q)) else .string ⟨#[]⟩)/\Below w.heap.size w wr) (fun x _=>r - (intOf x).toNat)
 case atStart=>exact ⟨0,by omega,rfl,d5.out.congr (fun q _=>by simp),d6.out⟩
 case round =>
  obtain ⟨i,hi,rfl,hS,hB⟩:=hrel
  obtain ⟨D,rfl⟩:∃ D,D=wr:=⟨_,rfl⟩
  have HS:Hid (D.rowIs w.heap.size 9 r (fun q=>if q < i then .string (Jp (J7 f val k G q)) else .string ⟨#[]⟩)):=hS
  have Q:Hid (Below w.heap.size w D):=hB
  have h4:w.heap.size < D.heap.size:=hS.lt
  clear hS hB d5 d6
  by_cases d7:i < r
  ·obtain ⟨I,K,c1,hb,f6,d8,d9⟩:=HR.out i d7
   have HD:Hid (∀ j,j < k->w.cell? ⟨I,K+j,none⟩=some (.int .u8 ((f i j:Nat):Int))):=d9
   have q0:D.cell? ⟨b,o+i,none⟩=some (.slice (some ⟨I,K,none⟩) k c1):=(Q.out.cell (p:=⟨b,o+i,none⟩) hb).trans d8
   clear d9 d8
   go_wp2
   have a6:Zo (D.alloc (.cells (madeCells #[ZM 0] G) 5)) D.heap.size 5 D.heap.size G (Qi G (fun c=>if c < 0 then Jl f val i c k else 0)):=by
    have:=Zo.made D D.heap.size 5 G (Nat.le_refl _) (by omega)
    rw [YL G _ (fun c=>if c < 0 then Jl f val i c k else 0) (fun c _=>by rw [if_neg (Nat.not_lt_zero _)])] at this
    exact this
   have a7:Below D.heap.size D (D.alloc (.cells (madeCells #[ZM 0] G) 5)):=(Below.refl _ _).alloc (Nat.le_refl _) _
   generalize D.alloc (.cells (madeCells #[ZM 0] G) 5)=w4 at a6 a7 ⊢
   have e0:Hid (Zo w4 D.heap.size 5 D.heap.size G (Qi G (fun c=>if c < 0 then Jl f val i c k else 0))):=a6
   have e1:Hid (Below D.heap.size D w4):=a7
   clear a6 a7 q0
   go_loopw [28] (fun x U=>∃ c:Nat,c<=G/\x=.int .i64 c/\Zo U D.heap.size 5 D.heap.size G (Qi G (fun d=>if d < c then Jl f val i d k else 0))/\Below D.heap.size D U) (fun x _=>G - (intOf x).toNat)
   case atStart=>exact ⟨0,by omega,rfl,e0.out,e1.out⟩
   case round =>
    obtain ⟨c,hc,rfl,e2,e3⟩:=hrel
    obtain ⟨M,rfl⟩:∃ M,M=wr:=⟨_,rfl⟩
    have a0:Hid (Zo M D.heap.size 5 D.heap.size G (Qi G (fun d=>if d < c then Jl f val i d k else 0))):=e2
    have a1:Hid (Below D.heap.size D M):=e3
    clear e2 e3 e0 e1
    by_cases a8:c < G
    ·go_wp2
     go_loopw [33] (fun x U=>∃ j:Nat,j<=k/\x=.int .i64 j/\Zo U D.heap.size 5 D.heap.size G (Qi G (fun d=>if d < c then Jl f val i d k else if d=c then Jl f val i c j else 0))/\Below D.heap.size D U) (fun x _=>k - (intOf x).toNat)
     case atStart =>
      refine ⟨0,by omega,rfl,?_,a1.out⟩
      rw [YL G _ (fun d=>if d < c then Jl f val i d k else 0) (fun d _=>by by_cases e:d=c <;> simp [e,Jl])]
      exact a0.out
     case round =>
      obtain ⟨j,h5,rfl,e4,e5⟩:=hrel
      obtain ⟨J,rfl⟩:∃ J,J=wr:=⟨_,rfl⟩
      have X:Hid (Zo J D.heap.size 5 D.heap.size G (Qi G (fun d=>if d < c then Jl f val i d k else if d=c then Jl f val i c j else 0))):=e4
      have Y:Hid (Below D.heap.size D J):=e5
      clear e4 e5 a0 a1
      by_cases e6:j < k
      ·have q2:J.cell? ⟨I,K+j,none⟩=some (.int .u8 ((f i j:Nat):Int)):=(Y.out.cell (p:=⟨I,K+j,none⟩) (by show I < _;omega)).trans ((Q.out.cell (p:=⟨I,K+j,none⟩) f6).trans (HD.out j e6))
       have q5:J.cell? ⟨D.heap.size,c,none⟩=some (.int .u8 ((Jl f val i c j:Nat):Int)):=by rw [X.out.cell c a8 (Jf _ _),Yq _ _ c a8,if_neg (Nat.lt_irrefl _),if_pos rfl]
       have q6:J.frozen? ⟨D.heap.size,c,none⟩=false:=X.out.free c
       have lx:=HF.out i j
       have ly:=HV.out j c
       have ls:Jl f val i c j < 256:=nD HF.out i c j
       have lm:=Gf.aV lx (val j c)
       have HX:Hid (Jl f val i c (j+1)=Jl f val i c j ^^^ Gf.mul (f i j) (val j c)):=by show _=_;rfl
       have a9:=HC.out j c e6 a8 (J.drewN 1) (below_drewN (Q.out.trans (Y.out.mono (by omega))) 1)
       have n2:D.heap.size≠I:=by omega
       have b0:Hid (Zo J D.heap.size 5 D.heap.size G (Qi G (fun d=>if d < c then Jl f val i d k else if d=c then Jl f val i c j else 0))):=X.out
       generalize Jl f val i c j=N at q5 ls HX b0
       generalize f i j=x at q2 lx lm HX
       generalize val j c=y at ly lm HX a9
       have e7:Hid (Calls prog O (#[.int .i64 (j:Int),.int .i64 (c:Int)] ++ a3) (J.drewN 1) fun e w2=>e=.returned (.int .u8 ((y:Nat):Int))/\w2=J.drewN 1):=a9
       clear a9
       go_wp2
       refine wp_region_still_tail 14 (by kernel_rfl) (by kernel_rfl) ?_
       simp only [List.take_succ_cons,List.take_zero,List.drop_succ_cons,List.drop_zero]
       repeat still_step
       still_call (e7.out)
       still_call (S5 x y _ lx ly)
       still_call (oC N (Gf.mul x y) _ ls lm)
       repeat still_step
       refine wpStill_nil ?_
       have e8:Hid (Zo (J.drewN 1) D.heap.size 5 D.heap.size G (Qi G (fun d=>if d < c then Jl f val i d k else if d=c then N else 0))):=b0.out.drewN 1
       have e9:Hid (Below D.heap.size D (J.drewN 1)):=below_drewN Y.out 1
       have f7:(J.drewN 1).cell? ⟨D.heap.size,c,none⟩=some (.int .u8 (N:Int)):=q5
       have f8:(J.drewN 1).frozen? ⟨D.heap.size,c,none⟩=false:=q6
       change wpList _ _ _ _ _ (J.drewN 1)
       generalize J.drewN 1=w7 at e8 e9 f7 f8 ⊢
       clear q2 q5 q6 X b0 Y e7
       go_wp2
       go_roundw
       case rel =>
        refine ⟨j+1,by omega,by go_num,?_,e9.out.setCell (Nat.le_refl _) _⟩
        have:=e8.out.set c (N ^^^ Gf.mul x y)
        rw [YL G (fun d=>if d < c then Jl f val i d k else if d=c then Jl f val i c (j+1) else 0) (fun d=>if d=c then N ^^^ Gf.mul x y else if d < c then Jl f val i d k else if d=c then N else 0) (fun d _=>by
         by_cases e:d=c
         ·subst e;rw [if_neg (Nat.lt_irrefl _),if_pos rfl,if_pos rfl,HX.out]
         ·rw [if_neg e,if_neg e,if_neg e])]
        exact this
       case measure=>simp [intOf];omega
      ·have f9:j=k:=by omega
       subst f9
       go_wp2
       go_roundw
       case rel =>
        refine ⟨c+1,by omega,by go_num,?_,Y.out⟩
        rw [YL G _ (fun d=>if d < c then Jl f val i d j else if d=c then Jl f val i c j else 0) (fun d _=>by
         by_cases e:d < c
         ·rw [if_pos (by omega),if_pos e]
         ·by_cases Z:d=c
          ·subst Z;rw [if_pos (by omega),if_neg e,if_pos rfl]
          ·rw [if_neg (by omega),if_neg e,if_neg Z])]
        exact X.out
       case measure=>simp [intOf];omega
    ·have g0:c=G:=by omega
     subst g0
     have b2:Zo M D.heap.size 5 D.heap.size c (J7 f val k c i):=by
      unfold J7
      rw [YL c _ (fun d=>if d < c then Jl f val i d k else 0) (fun d hd=>by rw [if_pos hd])]
      exact a0.out
     have g1:Sem.run prog (convert 138 9 (.slice (some ⟨D.heap.size,0,none⟩) c c)) M=.ok (.string (Jp (J7 f val k c i))) M:=by
      have g2:jU M (some ⟨D.heap.size,0,none⟩) (J7 f val k c i):=⟨XL _ _ (fun d=>nD HF.out _ _ _),Or.inr ⟨D.heap.size,0,rfl,b2.lt.2,fun d hd=>by
       have g3:d < c:=by unfold J7 at hd;rw [Jf] at hd;exact hd
       rw [Nat.zero_add]
       exact b2.cell d g3 (Jf _ _)⟩⟩
      have:=WU g2 c
      rw [show (J7 f val k c i).length=c from Jf _ _] at this
      exact this
     have a2:=yN HS.out a1.out
     have qs:M.cell? ⟨w.heap.size,i,none⟩=some (.string ⟨#[]⟩):=by rw [a2.cell d7,if_neg (Nat.lt_irrefl _)]
     have qf:M.frozen? ⟨w.heap.size,i,none⟩=false:=a2.frozen i
     have g4:Hid (M.rowIs w.heap.size 9 r (fun q=>if q < i then .string (Jp (J7 f val k c q)) else .string ⟨#[]⟩)):=a2
     have g5:Hid (Below w.heap.size w M):=Q.out.trans (a1.out.mono (by omega))
     clear b2 a0 a2 f4 f5
     have g6:Hid (Jp (J7 f val k c i)=Jp (J7 f val k c i)):=by show _=_;rfl
     generalize f3:Jp (J7 f val k c i)=st at g1
     have g7:Hid (Jp (J7 f val k c i)=st):=f3
     clear f3 g6
     go_wp2
     go_roundw
     case rel =>
      refine ⟨i+1,by omega,by go_num,(g4.out.set i _).congr (fun q _=>?_),g5.out.setCell (Nat.le_refl _) _⟩
      by_cases e:q=i
      ·rw [if_pos e,if_pos (by omega),e,g7.out]
      ·rw [if_neg e]
       by_cases Z:q < i
       ·rw [if_pos Z,if_pos (by omega)]
       ·rw [if_neg Z,if_neg (by omega)]
     case measure=>simp [intOf];omega
  ·have g8:i=r:=by omega
   subst g8
   go_wp2
   go_ret
   exact ⟨rfl,HS.out.congr (fun q hq=>by rw [if_pos hq]),Q.out⟩
theorem ND:∀ j,0 < j->Gf.bZ 0 j=0
 | 0,h=>absurd h (Nat.lt_irrefl _)
 | j+1,_=>by
  show Gf.mul _ _=0
  first | exact Gf.mul_zero _ | exact Gf.zero_mul _
theorem WV (j:Nat) (h:j < 255):red (j:Int)=j:=by unfold red;omega
theorem TB (i j:Nat) (w:World) (y:i < 256) (J:j < 255) :
 Calls prog 171 #[.int .u8 (i:Int),.int .i64 (j:Int)] w fun e w'=>e=.returned (.tuple #[.int .u8 ((Gf.bZ i j:Nat):Int),.nilIface])/\w'=w:=by
 by_cases h:i=0/\0 < j
 ·obtain ⟨rfl,D⟩:=h
  rw [ND j D]
  exact LQ (j:Int) w (by omega)
 ·have := Jtk i (j : Int) w y (fun G => by
   by_cases I:0 < j
   ·exact absurd ⟨G,I⟩ h
   ·omega)
  rw [WV j J,Gf.iG i j y (by omega)] at this
  exact this
theorem JlI (i j:Nat) (w:World) (D:i < 256) (G:j < 255) :
 Calls prog 170 #[.int .i64 (i:Int),.int .i64 (j:Int)] w fun e w'=>e=.returned (.int .u8 ((Gf.bZ i j:Nat):Int))/\Below w.heap.size w w':=by
 have y:=TB i j w D G
 go_enter func170,ntmps170
 go_wp2_with (go_at_call 171;refine y.mono ?_;rintro e w' ⟨rfl,rfl⟩)
 go_ret
 exact ⟨rfl,Below.refl _ _⟩
theorem K0 (n k:Nat) (w:World) (W:1<=k) (X:k<=n) (Y:n<=12) :
 Calls prog 155 #[.int .i64 (n:Int),.int .i64 (k:Int)] w fun e w'=>(∃ y D,e=.returned (.tuple #[.slice (some ⟨y,0,none⟩) n n,.nilIface])/\Zv w' w.heap.size y D n k Gf.bZ)/\Below w.heap.size w w':=by
 have K:=tP n k Gf.bZ 170 #[] w (by omega) (by omega) (enters_of func170 (by kernel_rfl) rfl) (fun i j Q U G _=>JlI i j G (by omega) (by omega))
 have I:Hid (Calls prog 101 #[.int .i64 (n:Int),.int .i64 (k:Int)] w fun e w'=>e=.returned (.bool true)/\w'=w):=by
  have h:=xC (n:Int) (k:Int) w
  rw [decide_eq_true (show (1:Int)<=(k:Int)/\(k:Int)<=(n:Int)/\(n:Int)<=12 by omega)] at h
  exact h
 go_enter func155,ntmps155
 go_wp2_with fail
 refine I.out.mono ?_
 rintro e M ⟨rfl,J⟩
 rw [J]
 clear J M I
 go_wp2_with (go_at_call 138;refine K.mono ?_;rintro e G ⟨⟨y,D,rfl,N⟩,O⟩)
 go_ret2
 exact ⟨⟨y,D,rfl,N⟩,O⟩
end Go.Proofs.YtmikbldbfnlfjaaGreatDoor

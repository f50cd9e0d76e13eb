/- Texts laid together. -/
import Derived.Test.YtmikbldbfnlfjaaGreatDoorAs11
set_option maxRecDepth 100000
set_option maxHeartbeats 8000000
namespace Go.Proofs.YtmikbldbfnlfjaaGreatDoor
open Go.Proofs.Tryz
open Go.RowKit
variable {n k b B c r a:Nat}{t u:Int×Int}{S:List (Int×ByteArray)}{v:Yb}{w w' W:World}{x y lv:Value}{row:Int×Int->Value}{xs j G:Int}{p:Option Addr}{D:DataW Value}{L:List Yb}{dT:Int×Int->Nat}{left:Lit->Bool}{found:Bool}
theorem Jql (g:Nat) (x y:Int) (t:ByteArray) (w:World) (D:w.cell? ⟨g,3,none⟩=some (.int .i64 x)) :
 Calls prog 131 (#[.agg #[.int .i64 y,.string t]] ++ #[.pointer (some ⟨g,0,none⟩)]) w fun e j=>e=.returned (.bool (y==x))/\Below w.heap.size w j:=by
 have G:=Qf D
 go_enter func131,ntmps131
 go_wp2
 go_ret
 exact ⟨rfl,(Below.refl _ _).alloc (Nat.le_refl _) _⟩
def iP (z:Int) (S:List (Int×ByteArray)) (v:Yb):Int:=if S=[] then v.size else z
def XN (z:Int) (S:List (Int×ByteArray)) (v:Yb):List (Int×ByteArray):=if v.size=iP z S v/\S.any (fun y=>y.1==v.at_)=false then S ++ [(v.at_,v.text)] else S
theorem Jqm  {S:Int×List (Int×ByteArray)} (D:S.1 < 0↔S.2=[]) (G:v.n=t.1/\v.who=t.2/\YO n k v=true):ZT n k t S v=(iP (kH S) S.2 v,XN (kH S) S.2 v):=by
 by_cases j:S.1 < 0
 ·have e:S.2=[]:=D.1 j
  rw [ZO (z:=v.size) G (by rw [if_pos j])]
  unfold XN iP
  rw [e]
  simp
 ·have y:S.2≠[]:=fun e=>j (D.2 e)
  rw [ZO (z:=S.1) G (by rw [if_neg j])]
  unfold XN iP kH
  rw [if_neg y,if_neg y]
structure YK (w:World) (b:Nat) (x y:Value):Prop where
 c0:w.cell? ⟨b,0,none⟩=some x
 c1:w.cell? ⟨b,1,none⟩=some y
 f0:w.frozen? ⟨b,0,none⟩=false
 f1:w.frozen? ⟨b,1,none⟩=false
theorem YK.below  (h:YK w b x y) (D:Below w.heap.size w w'):YK w' b x y :=
 have j:=Qf h.c0
 ⟨(D.cell (p:=⟨b,0,none⟩) j).trans h.c0,(D.cell (p:=⟨b,1,none⟩) j).trans h.c1,(D.frozen (p:=⟨b,0,none⟩) j).trans h.f0,(D.frozen (p:=⟨b,1,none⟩) j).trans h.f1⟩
theorem YK.grown  {row:Option Nat} (h:YK w b x y) (j:w.grownBy w' row) (D:some b≠row):YK w' b x y :=
 have e:=j.block b (Qf h.c0) D
 ⟨(World.cell?_of_block (a:=⟨b,0,none⟩) e).trans h.c0,(World.cell?_of_block (a:=⟨b,1,none⟩) e).trans h.c1,(World.frozen?_of_block (a:=⟨b,0,none⟩) e).trans h.f0,(World.frozen?_of_block (a:=⟨b,1,none⟩) e).trans h.f1⟩
theorem YK.eJ  (h:YK w b x y) (v:Value):YK (w.setCell ⟨b,0,none⟩ v) b v y :=
 ⟨World.cell?_setCell_same _ _ _ h.c0,(World.cell?_setCell_other _ _ _ _ (fun e=>by have j:(0:Nat)=1:=congrArg Addr.off e;omega)).trans h.c1,by simp [h.f0],by simp [h.f1]⟩
theorem YK.eM  (h:YK w b x y) (v:Value):YK (w.setCell ⟨b,1,none⟩ v) b x v :=
 ⟨(World.cell?_setCell_other _ _ _ _ (fun e=>by have j:(1:Nat)=0:=congrArg Addr.off e;omega)).trans h.c0,World.cell?_setCell_same _ _ _ h.c1,by simp [h.f0],by simp [h.f1]⟩
theorem YK.other  (h:YK w b x y) (a:Addr) (v:Value) (j:b≠a.block):YK (w.setCell a v) b x y :=
 ⟨(World.cell?_setCell_other _ _ _ _ (fun e=>j (congrArg Addr.block e).symm)).trans h.c0,(World.cell?_setCell_other _ _ _ _ (fun e=>j (congrArg Addr.block e).symm)).trans h.c1,by simp [h.f0],by simp [h.f1]⟩
theorem pT {row:Option Nat} (h:w.grownBy W row) (a:Addr) (v:Value) (D:w.heap.size<=a.block):w.grownBy (W.setCell a v) row :=
 ⟨h.os,h.tape,h.output,by simp [World.setCell];exact h.size,fun k j y=>(Below.heap_setCell W a v k (by omega)).trans (h.block k j y)⟩
theorem oM  {T:TypeId} {row:Value} {xs:List Value} (h:w.ownsRow B T 2 row n xs) (a:Addr) (v:Value) (y:row.ownBlock≠some a.block):(w.setCell a v).ownsRow B T 2 row n xs :=
 World.ownsRow.kept (row:=some a.block) h ⟨rfl,rfl,rfl,by simp [World.setCell],fun k _ j=>Below.heap_setCell w a v k (fun e=>j (by rw [e]))⟩ (Or.inr y)
theorem SJ (l:List (Int×ByteArray)) (x:Int×ByteArray):Js (l ++ [x])=Js l ++ [.int .i64 x.1,.string x.2]:=by simp [Js]
structure V3 (w:World) (b:Nat) (xs xa:Int) (xt:ByteArray):Prop where
 c2:w.cell? ⟨b,2,none⟩=some (.int .i64 xs)
 c3:w.cell? ⟨b,3,none⟩=some (.int .i64 xa)
 c4:w.cell? ⟨b,4,none⟩=some (.string xt)
theorem V3.block  {y:ByteArray} (h:V3 w b xs j y) (e:w'.heap[b]?=w.heap[b]?):V3 w' b xs j y :=
 ⟨(World.cell?_of_block (a:=⟨b,2,none⟩) e).trans h.c2,(World.cell?_of_block (a:=⟨b,3,none⟩) e).trans h.c3,(World.cell?_of_block (a:=⟨b,4,none⟩) e).trans h.c4⟩
theorem V3.below  {y:ByteArray} (h:V3 w b xs j y) (D:Below w.heap.size w w'):V3 w' b xs j y:=h.block (D.block b (Qf h.c2))
structure iB (w W:World) (B:Nat) (p:Option Addr) (S:List (Int×ByteArray)) (c:Nat) (zv xs xa:Int) (xt:ByteArray):Prop where
 A:YK W w.heap.size (.int .i64 zv) (.slice p S.length c)
 V:V3 W (w.heap.size+1) xs xa xt
 R:YK W (w.heap.size+1+1) (.int .i64 0) (.slice none 0 0)
 own:W.ownsRow B 74 2 (.slice p S.length c) S.length (Js S)
 g:Below w.heap.size w W
 sz:w.heap.size+1+1+1<=W.heap.size
theorem iB.below {y:World}   {D:Int} {I:ByteArray} (h:iB w W B p S c D xs G I) (j:Below W.heap.size W y):iB w y B p S c D xs G I :=
 ⟨h.A.below j,h.V.below j,h.R.below j,World.ownsRow.kept (row:=none) h.own (QD j none) (by cases (Value.slice p S.length c).ownBlock <;> simp),h.g.trans (j.mono h.g.size),Nat.le_trans h.sz j.size⟩
theorem iB.vO    {y:ByteArray} (h:iB w W B p S c G xs j y) (I:∀ g,(Value.slice p S.length c).ownBlock=some g->g < w.heap.size) (D:Int):iB w (W.setCell ⟨w.heap.size,0,none⟩ (.int .i64 D)) B p S c D xs j y :=
 ⟨h.A.eJ _,h.V.block (Below.heap_setCell W _ _ _ (by show w.heap.size+1≠w.heap.size;omega)),h.R.other _ _ (by show w.heap.size+1+1≠w.heap.size;omega),oM h.own _ _ (fun e=>by have:=I _ e;simp at this),h.g.setCell (Nat.le_refl _) _,by simpa [World.setCell] using h.sz⟩
def q8 (B:Nat) (z:Int) (S:List (Int×ByteArray)) (v:Yb) (row:Value) (w:World) (e:Ending) (w':World):Prop :=
 ∃ j,e=.returned (.agg #[.int .i64 (iP z S v),j])/\w'.ownsRow B 74 2 j (XN z S v).length (Js (XN z S v))/\w.grownBy w' row.ownBlock/\(j.ownBlock=row.ownBlock∨∃ g,j.ownBlock=some g/\w.heap.size<=g)/\∃ p c,j=.slice p (XN z S v).length c
theorem Jr1 (z:Int) (S:List (Int×ByteArray)) (row:Value) (v:Yb) (B:Nat) (w:World) (hl:S.length<=1000) (e7:w.ownsRow B 74 2 row S.length (Js S)) (hB:B<=w.heap.size) :
 Calls prog 108 #[.agg #[.int .i64 z,row],.agg #[.int .i64 v.n,.int .i64 v.who,.int .i64 v.size,.int .i64 v.at_,.string v.text]] w (q8 B z S v row w):=by
 obtain ⟨i1,g0,g1,g2,g3⟩:=info_parts vH
 obtain ⟨p,c,rfl,h9⟩:=nL e7
 have g4:∀ g,(Value.slice p S.length c).ownBlock=some g->g < w.heap.size:=fun g hg=>(World.ownsRow.lt e7 g hg).2
 obtain ⟨K,M,xs,D,G⟩:=v
 have i0:∃ N,N=((w.alloc (.cells #[.int .i64 z,.slice p S.length c] 143)).alloc (.cells #[.int .i64 K,.int .i64 M,.int .i64 xs,.int .i64 D,.string G] 76)).alloc (.cells #[.int .i64 0,.slice none 0 0] 143)/\iB w N B p S c z xs D G:=by
  obtain ⟨w1,d8⟩:∃ w1,w1=w.alloc (.cells #[.int .i64 z,.slice p S.length c] 143):=⟨_,rfl⟩
  obtain ⟨w2,d9⟩:∃ w2,w2=w1.alloc (.cells #[.int .i64 K,.int .i64 M,.int .i64 xs,.int .i64 D,.string G] 76):=⟨_,rfl⟩
  obtain ⟨N,b2⟩:∃ N,N=w2.alloc (.cells #[.int .i64 0,.slice none 0 0] 143):=⟨_,rfl⟩
  have e1:w1.heap.size=w.heap.size+1:=by rw [d8];simp
  have e2:w2.heap.size=w.heap.size+1+1:=by rw [d9,<- e1];simp
  have e3:N.heap.size=w.heap.size+1+1+1:=by rw [b2,<- e2];simp
  have g5:Below w.heap.size w w1:=by rw [d8];exact (Below.refl _ _).alloc (Nat.le_refl _) _
  have g6:Below w1.heap.size w1 w2:=by rw [d9];exact (Below.refl _ _).alloc (Nat.le_refl _) _
  have g7:Below w2.heap.size w2 N:=by rw [b2];exact (Below.refl _ _).alloc (Nat.le_refl _) _
  have g8:Below w1.heap.size w1 N:=g6.trans (g7.mono g6.size)
  have g9:Below w.heap.size w N:=g5.trans (g8.mono g5.size)
  have i2:YK w1 w.heap.size (.int .i64 z) (.slice p S.length c):=by
   rw [d8]
   exact ⟨by rw [World.cell?_alloc_at _ _ _ _ rfl];rfl,by rw [World.cell?_alloc_at _ _ _ _ rfl];rfl,World.frozen?_alloc_at _ _ _ _ rfl,World.frozen?_alloc_at _ _ _ _ rfl⟩
  have hR:YK N (w.heap.size+1+1) (.int .i64 0) (.slice none 0 0):=by
   rw [b2]
   exact ⟨by rw [World.cell?_alloc_at _ _ _ _ e2.symm];rfl,by rw [World.cell?_alloc_at _ _ _ _ e2.symm];rfl,World.frozen?_alloc_at _ _ _ _ e2.symm,World.frozen?_alloc_at _ _ _ _ e2.symm⟩
  have i3:V3 w2 (w.heap.size+1) xs D G:=by
   rw [d9]
   exact ⟨by rw [World.cell?_alloc_at _ _ _ _ e1.symm];rfl,by rw [World.cell?_alloc_at _ _ _ _ e1.symm];rfl,by rw [World.cell?_alloc_at _ _ _ _ e1.symm];rfl⟩
  exact ⟨N,by rw [b2,d9,d8],i2.below g8,i3.below g7,hR,World.ownsRow.kept (row:=none) e7 (QD g9 none) (by cases (Value.slice p S.length c).ownBlock <;> simp),g9,by omega⟩
 obtain ⟨N,b2,h0⟩:=i0
 have a9:Hid (N=((w.alloc (.cells #[.int .i64 z,.slice p S.length c] 143)).alloc (.cells #[.int .i64 K,.int .i64 M,.int .i64 xs,.int .i64 D,.string G] 76)).alloc (.cells #[.int .i64 0,.slice none 0 0] 143)):=b2
 have a2:Hid (iB w N B p S c z xs D G):=h0
 have b5:Hid (∀ g,(Value.slice p S.length c).ownBlock=some g->g < w.heap.size):=g4
 have d0:Hid (∀ W O,iB w W B p S c O xs D G->Calls prog 111 #[.slice p S.length c,.func (.func 131) #[] #[.pointer (some ⟨w.heap.size+1,0,none⟩)]] W fun e w'=>e=.returned (.bool (S.any fun y=>y.1==D))/\Below W.heap.size W w'):=fun W O Q=>by
  obtain ⟨p',c',h2,i4⟩:=nL Q.own
  simp at h2
  obtain ⟨rfl,rfl⟩:=h2
  exact JaP p S c 131 #[.pointer (some ⟨w.heap.size+1,0,none⟩)] (fun y=>y.1==D) W (by omega) i4 (enters_of func131 (by kernel_rfl) rfl) (fun i hi w1 h1=>Jql (w.heap.size+1) D (Ji S i).1 (Ji S i).2 w1 (Q.V.below h1).c3)
 have b6:Hid (∀ W O,iB w W B p S c O xs D G->iP z S ⟨K,M,xs,D,G⟩=O->XN z S ⟨K,M,xs,D,G⟩=S->q8 B z S ⟨K,M,xs,D,G⟩ (.slice p S.length c) w (.returned (.agg #[.int .i64 O,.slice p S.length c])) ((W.setCell ⟨w.heap.size+1+1,0,none⟩ (.int .i64 O)).setCell ⟨w.heap.size+1+1,1,none⟩ (.slice p S.length c))):=fun W O Q hz hs=>by
  refine ⟨.slice p S.length c,by rw [hz],?_,?_,Or.inl rfl,p,c,by rw [hs]⟩
  ·rw [hs]
   exact oM (oM Q.own _ _ (fun e=>by have:w.heap.size+1+1 < w.heap.size:=b5.out _ e;omega)) _ _ (fun e=>by have:w.heap.size+1+1 < w.heap.size:=b5.out _ e;omega)
  ·exact pT (pT (QD Q.g _) _ _ (by show w.heap.size<=w.heap.size+1+1;omega)) _ _ (by show w.heap.size<=w.heap.size+1+1;omega)
 have e0:Hid (∀ W O v6 J,iB w W B p S c O xs D G->iP z S ⟨K,M,xs,D,G⟩=O->XN z S ⟨K,M,xs,D,G⟩=S ++ [(D,G)]->J.ownsRow B 74 2 v6 (S.length+1) (Js S ++ [.int .i64 D,.string G])->W.grownBy J (Value.slice p S.length c).ownBlock->(v6.ownBlock=(Value.slice p S.length c).ownBlock∨v6.ownBlock=some W.heap.size) ->
  (∃ p6 c6,v6=.slice p6 (S.length+1) c6)/\YK J w.heap.size (.int .i64 O) (.slice p S.length c)/\YK J (w.heap.size+1+1) (.int .i64 0) (.slice none 0 0)/\q8 B z S ⟨K,M,xs,D,G⟩ (.slice p S.length c) w (.returned (.agg #[.int .i64 O,v6])) (((J.setCell ⟨w.heap.size,1,none⟩ v6).setCell ⟨w.heap.size+1+1,0,none⟩ (.int .i64 O)).setCell ⟨w.heap.size+1+1,1,none⟩ v6)):=fun W O v6 J Q hz hs hO hg h3=>by
  have h4:(S ++ [(D,G)]).length=S.length+1:=by simp
  have h5:J.ownsRow B 74 2 v6 (S ++ [(D,G)]).length (Js (S ++ [(D,G)])):=by rw [SJ,h4];exact hO
  obtain ⟨p6,c6,h6,_⟩:=nL h5
  have i5:some w.heap.size≠(Value.slice p S.length c).ownBlock:=fun e=>by have:=b5.out _ e.symm;omega
  have i7:some (w.heap.size+1+1)≠(Value.slice p S.length c).ownBlock:=fun e=>by have:=b5.out _ e.symm;omega
  have j1:=Q.sz
  have hv:∀ q,q=w.heap.size∨q=w.heap.size+1+1->v6.ownBlock≠some q:=fun q hq e=>by
   rcases h3 with h | h
   ·rw [h] at e
    have:=b5.out _ e
    omega
   ·rw [h] at e
    injection e with e
    omega
  refine ⟨⟨p6,c6,by rw [h6,h4]⟩,Q.A.grown hg i5,Q.R.grown hg i7,v6,by rw [hz],?_,?_,?_,p6,c6,by rw [hs];exact h6⟩
  ·rw [hs]
   exact oM (oM (oM h5 _ _ (hv _ (Or.inl rfl))) _ _ (hv _ (Or.inr rfl))) _ _ (hv _ (Or.inr rfl))
  ·have i8:w.grownBy J (Value.slice p S.length c).ownBlock:=⟨hg.os.trans Q.g.os,hg.tape.trans Q.g.tape,hg.output.trans Q.g.output,Nat.le_trans Q.g.size hg.size,fun k hk i9=>(hg.block k (Nat.lt_of_lt_of_le hk Q.g.size) i9).trans (Q.g.block k hk)⟩
   exact pT (pT (pT i8 _ _ (Nat.le_refl _)) _ _ (by show w.heap.size<=w.heap.size+1+1;omega)) _ _ (by show w.heap.size<=w.heap.size+1+1;omega)
  ·rcases h3 with h | h
   ·exact Or.inl h
   ·exact Or.inr ⟨_,h,by omega⟩
 have h7:B<=w.heap.size:=hB
 clear b2 h0 h9 e7 g4 hB
 have a0:=a2.out.A.c0
 have a1:=a2.out.A.c1
 have e4:=a2.out.A.f0
 have v2:=a2.out.V.c2
 by_cases hS:S=[]
 ·have HZ:Hid (iP z S ⟨K,M,xs,D,G⟩=xs):=by show iP _ _ _=_;unfold iP;rw [if_pos hS]
  have HY:Hid (XN z S ⟨K,M,xs,D,G⟩=S ++ [(D,G)]):=by
   show XN _ _ _=_
   unfold XN
   rw [HZ.out,if_pos ⟨rfl,by rw [hS];rfl⟩]
  have HN:Hid (S.any (fun y=>y.1==D)=false):=by show _=_;rw [hS];rfl
  rw [HN.out] at d0
  have e5:(S.length:Int)=0:=by rw [hS];rfl
  have b0:((S.length:Int)==0)=true:=by rw [e5];rfl
  have d2:Hid (iB w (N.setCell ⟨w.heap.size,0,none⟩ (.int .i64 xs)) B p S c xs xs D G):=a2.out.vO b5.out xs
  have a6:=d0.out _ _ d2.out
  obtain ⟨w4,e8⟩:∃ w4,w4=N.setCell ⟨w.heap.size,0,none⟩ (.int .i64 xs):=⟨_,rfl⟩
  rw [<- e8] at a6 d2
  have h8:Hid (w4=N.setCell ⟨w.heap.size,0,none⟩ (.int .i64 xs)):=e8
  have d1:=d2.out.A.c1
  clear e8 hS e5 HN
  go_enter func108,ntmps108
  go_wp2_with (first | rw [<- a9.out] | rw [<- h8.out])
  refine a6.mono ?_
  rintro e U ⟨rfl,a4⟩
  have I:=d2.out.below a4
  clear a0 a1 e4 v2 d1 a4 a6 d0 a2 d2 a9 h8 b6
  have a0:=I.A.c0
  have a1:=I.A.c1
  have v2:=I.V.c2
  have v3:=I.V.c3
  have v4:=I.V.c4
  obtain ⟨J,a7⟩:∃ J,J=U.alloc (.cells #[.int .i64 D,.string G] 74):=⟨_,rfl⟩
  have b3:Hid (iB w J B p S c xs xs D G):=by show iB _ _ _ _ _ _ _ _ _ _;rw [a7];exact I.below ((Below.refl _ _).alloc (Nat.le_refl _) _)
  have e9:Hid (∀ (j:Nat) (u:Value),[Value.int .i64 D,Value.string G][j]?=some u->J.cell? ((⟨U.heap.size,0,none⟩:Addr).add j)=some u):=fun j u X=>by
   rw [a7,Addr.add_lit]
   match j,X with
   | 0,X=>(simp at X;subst X;rw [World.cell?_alloc_at _ _ _ _ rfl];rfl)
   | 1,X=>(simp at X;subst X;rw [World.cell?_alloc_at _ _ _ _ rfl];rfl)
  have f3:Hid (B<=J.heap.size):=Nat.le_trans h7 b3.out.g.size
  have f4:Hid (J=U.alloc (.cells #[.int .i64 D,.string G] 74)):=a7
  have f5:Hid (J.ownsRow B 74 2 (.slice p S.length c) S.length (Js S)):=b3.out.own
  clear a7 I
  go_wp2_with (first | rw [<- f4.out] | (at_builtin;refine EW rfl (.tmp 27) (.tmp 30) 123 rfl B 74 i1 (.agg #[.int .i64 0,.string ⟨#[]⟩]) 2 24 underlying123 g0 g1 g2 g3 rfl (by decide) (.slice p S.length c) S.length (Js S) rfl f5.out ⟨U.heap.size,0,none⟩ 1 1 [.int .i64 D,.string G] rfl rfl e9.out (fun u hu=>by simp at hu;rcases hu with rfl | rfl <;> rfl) (by unfold maxLen;omega) (by omega) f3.out (by decide) ?_;intro v7 w7 d3 d4 d5;obtain ⟨⟨Y,c7,f6⟩,a5,d6,d7⟩:=e0.out J xs v7 w7 b3.out HZ.out HY.out d3 d4 d5;subst f6;have a8:Hid (q8 B z S ⟨K,M,xs,D,G⟩ (.slice p S.length c) w (.returned (.agg #[.int .i64 xs,.slice Y (S.length+1) c7])) (((w7.setCell ⟨w.heap.size,1,none⟩ (.slice Y (S.length+1) c7)).setCell ⟨w.heap.size+1+1,0,none⟩ (.int .i64 xs)).setCell ⟨w.heap.size+1+1,1,none⟩ (.slice Y (S.length+1) c7))):=d7;have b4:=a5.eM (.slice Y (S.length+1) c7);have a3:=d6.other ⟨w.heap.size,1,none⟩ (.slice Y (S.length+1) c7) (by show w.heap.size+1+1≠w.heap.size;omega);have Z:=(a3.eJ (.int .i64 xs)).eM (.slice Y (S.length+1) c7);have a0:=a5.c0;have a1:=a5.c1;have j0:=a5.f1;have m0:=b4.c0;have m1:=b4.c1;have r0:=a3.c0;have r1:=a3.c1;have f7:=a3.f0;have f8:=a3.f1;have k0:=Z.c0;have k1:=Z.c1;clear d3 d4 d5 a5 d6 d7 b4 a3 Z))
  exact bodyPost_ret (v:=.agg #[.int .i64 xs,.slice Y (S.length+1) c7]) (by simp [results,results108,go_sem,k0,k1]) rfl a8.out
 ·have HZ:Hid (iP z S ⟨K,M,xs,D,G⟩=z):=by show iP _ _ _=_;unfold iP;rw [if_neg hS]
  have e5:¬ (S.length:Int)=0:=fun h=>hS (List.length_eq_zero_iff.1 (by omega))
  have b0:((S.length:Int)==0)=false:=by rw [beq_eq_false_iff_ne];exact e5
  have a6:=d0.out _ _ a2.out
  have b7:Hid (XN z S ⟨K,M,xs,D,G⟩=if xs=z/\S.any (fun y=>y.1==D)=false then S ++ [(D,G)] else S):=by show XN _ _ _=_;unfold XN;rw [HZ.out]
  clear hS d0
  generalize (S.any fun y=>y.1==D)=th at *
  cases th with
  | true =>
   have HY:Hid (XN z S ⟨K,M,xs,D,G⟩=S):=by show XN _ _ _=_;rw [b7.out,if_neg (fun h=>by cases h.2)]
   clear b7 e0
   go_enter func108,ntmps108
   go_wp2_with (rw [<- a9.out])
   refine a6.mono ?_
   rintro e U ⟨rfl,a4⟩
   have I:=a2.out.below a4
   clear a0 a1 e4 v2 a4 a6 a2 a9
   have a8:=b6.out U z I HZ.out HY.out
   have Z:=(I.R.eJ (.int .i64 z)).eM (.slice p S.length c)
   have a0:=I.A.c0
   have a1:=I.A.c1
   have r0:=I.R.c0
   have r1:=I.R.c1
   have f7:=I.R.f0
   have f8:=I.R.f1
   have k0:=Z.c0
   have k1:=Z.c1
   have f9:Hid (q8 B z S ⟨K,M,xs,D,G⟩ (.slice p S.length c) w (.returned (.agg #[.int .i64 z,.slice p S.length c])) ((U.setCell ⟨w.heap.size+1+1,0,none⟩ (.int .i64 z)).setCell ⟨w.heap.size+1+1,1,none⟩ (.slice p S.length c))):=a8
   clear I Z a8 b6
   go_wp2
   exact bodyPost_ret (v:=.agg #[.int .i64 z,.slice p S.length c]) (by simp [results,results108,go_sem,k0,k1]) rfl f9.out
  | false =>
   by_cases e6:xs=z
   ·have HY:Hid (XN z S ⟨K,M,xs,D,G⟩=S ++ [(D,G)]):=by show XN _ _ _=_;rw [b7.out,if_pos ⟨e6,rfl⟩]
    clear b7 b6
    subst e6
    have b1:(xs==xs)=true:=beq_self_eq_true xs
    go_enter func108,ntmps108
    go_wp2_with (rw [<- a9.out])
    refine a6.mono ?_
    rintro e U ⟨rfl,a4⟩
    have I:=a2.out.below a4
    clear a0 a1 e4 v2 a4 a6 a2 a9
    have a0:=I.A.c0
    have a1:=I.A.c1
    have v2:=I.V.c2
    have v3:=I.V.c3
    have v4:=I.V.c4
    obtain ⟨J,a7⟩:∃ J,J=U.alloc (.cells #[.int .i64 D,.string G] 74):=⟨_,rfl⟩
    have b3:Hid (iB w J B p S c xs xs D G):=by show iB _ _ _ _ _ _ _ _ _ _;rw [a7];exact I.below ((Below.refl _ _).alloc (Nat.le_refl _) _)
    have e9:Hid (∀ (j:Nat) (u:Value),[Value.int .i64 D,Value.string G][j]?=some u->J.cell? ((⟨U.heap.size,0,none⟩:Addr).add j)=some u):=fun j u X=>by
     rw [a7,Addr.add_lit]
     match j,X with
     | 0,X=>(simp at X;subst X;rw [World.cell?_alloc_at _ _ _ _ rfl];rfl)
     | 1,X=>(simp at X;subst X;rw [World.cell?_alloc_at _ _ _ _ rfl];rfl)
    have f3:Hid (B<=J.heap.size):=Nat.le_trans h7 b3.out.g.size
    have f4:Hid (J=U.alloc (.cells #[.int .i64 D,.string G] 74)):=a7
    have f5:Hid (J.ownsRow B 74 2 (.slice p S.length c) S.length (Js S)):=b3.out.own
    clear a7 I
    go_wp2_with (first | rw [<- f4.out] | (at_builtin;refine EW rfl (.tmp 27) (.tmp 30) 123 rfl B 74 i1 (.agg #[.int .i64 0,.string ⟨#[]⟩]) 2 24 underlying123 g0 g1 g2 g3 rfl (by decide) (.slice p S.length c) S.length (Js S) rfl f5.out ⟨U.heap.size,0,none⟩ 1 1 [.int .i64 D,.string G] rfl rfl e9.out (fun u hu=>by simp at hu;rcases hu with rfl | rfl <;> rfl) (by unfold maxLen;omega) (by omega) f3.out (by decide) ?_;intro v7 w7 d3 d4 d5;obtain ⟨⟨Y,c7,f6⟩,a5,d6,d7⟩:=e0.out J xs v7 w7 b3.out HZ.out HY.out d3 d4 d5;subst f6;have a8:Hid (q8 B xs S ⟨K,M,xs,D,G⟩ (.slice p S.length c) w (.returned (.agg #[.int .i64 xs,.slice Y (S.length+1) c7])) (((w7.setCell ⟨w.heap.size,1,none⟩ (.slice Y (S.length+1) c7)).setCell ⟨w.heap.size+1+1,0,none⟩ (.int .i64 xs)).setCell ⟨w.heap.size+1+1,1,none⟩ (.slice Y (S.length+1) c7))):=d7;have b4:=a5.eM (.slice Y (S.length+1) c7);have a3:=d6.other ⟨w.heap.size,1,none⟩ (.slice Y (S.length+1) c7) (by show w.heap.size+1+1≠w.heap.size;omega);have Z:=(a3.eJ (.int .i64 xs)).eM (.slice Y (S.length+1) c7);have a0:=a5.c0;have a1:=a5.c1;have j0:=a5.f1;have m0:=b4.c0;have m1:=b4.c1;have r0:=a3.c0;have r1:=a3.c1;have f7:=a3.f0;have f8:=a3.f1;have k0:=Z.c0;have k1:=Z.c1;clear d3 d4 d5 a5 d6 d7 b4 a3 Z))
    exact bodyPost_ret (v:=.agg #[.int .i64 xs,.slice Y (S.length+1) c7]) (by simp [results,results108,go_sem,k0,k1]) rfl a8.out
   ·have HY:Hid (XN z S ⟨K,M,xs,D,G⟩=S):=by show XN _ _ _=_;rw [b7.out,if_neg (fun h=>e6 h.1)]
    have b1:(xs==z)=false:=by rw [beq_eq_false_iff_ne];exact e6
    clear b7 e0
    go_enter func108,ntmps108
    go_wp2_with (rw [<- a9.out])
    refine a6.mono ?_
    rintro e U ⟨rfl,a4⟩
    have I:=a2.out.below a4
    clear a0 a1 e4 v2 a4 a6 a2 a9
    have a8:=b6.out U z I HZ.out HY.out
    have Z:=(I.R.eJ (.int .i64 z)).eM (.slice p S.length c)
    have a0:=I.A.c0
    have a1:=I.A.c1
    have v2:=I.V.c2
    have r0:=I.R.c0
    have r1:=I.R.c1
    have f7:=I.R.f0
    have f8:=I.R.f1
    have k0:=Z.c0
    have k1:=Z.c1
    have f9:Hid (q8 B z S ⟨K,M,xs,D,G⟩ (.slice p S.length c) w (.returned (.agg #[.int .i64 z,.slice p S.length c])) ((U.setCell ⟨w.heap.size+1+1,0,none⟩ (.int .i64 z)).setCell ⟨w.heap.size+1+1,1,none⟩ (.slice p S.length c))):=a8
    clear I Z a8 b6
    go_wp2
    exact bodyPost_ret (v:=.agg #[.int .i64 z,.slice p S.length c]) (by simp [results,results108,go_sem,k0,k1]) rfl f9.out
theorem JqV (a b:Int):YM a b=k9 a b:=by
 unfold YM k9
 by_cases j:0<=a <;> by_cases y:a<=1099511627776 <;> by_cases D:0<=b <;> by_cases G:b<=1099511627776 <;> simp [j,y,D,G]
theorem T8 (n k:Nat) (v:Yb):YO n k v=(YM v.n v.who && gS n k v.size v.at_ v.text):=by
 rw [JqV]
 rfl
theorem JhR {j:Nat} (h:j < L.length):L.take (j+1)=L.take j ++ [Xd L j]:=by rw [List.take_add_one,Xx h];rfl
def ZN (w:World) (B b n k:Nat) (L:List Yb):Prop:=∃ D row dT,Y1 w B b n k L D row dT
theorem ZN.below  (h:ZN w B b n k L) (j:Below w.heap.size w w'):ZN w' B b n k L:=by
 obtain ⟨D,row,dT,h⟩:=h
 exact ⟨D,row,dT,h.below j⟩
theorem ZN.pass   (h:ZN w B b n k L) (j:YO n k v=false):ZN w B b n k (L ++ [v]):=by
 obtain ⟨D,row,dT,h⟩:=h
 exact ⟨D,row,dT,h.pass j⟩
theorem ZN.step   (h:ZN w B b n k L) (O:YO n k v=true) (I:Jr (v.n,v.who)) (hl:L.length<=1000) :
 ∃ (y:Value) (sz:Int),(∀ W,Below w.heap.size w W->(Instr.lookup 140 (.map (some b)) (.agg #[.int .i64 v.n,.int .i64 v.who]) false).run prog W=.ok (.agg #[.int .i64 sz,y]) W)/\(∀ g,y.ownBlock=some g->g < w.heap.size) /\
  ∀ W,Below w.heap.size w W->Calls prog 108 #[.agg #[.int .i64 sz,y],.agg #[.int .i64 v.n,.int .i64 v.who,.int .i64 v.size,.int .i64 v.at_,.string v.text]] W fun e J=>∃ N j,e=.returned N/\W.grownBy J y.ownBlock/\(Instr.mapUpdate 140 (.map (some b)) (.agg #[.int .i64 v.n,.int .i64 v.who]) N).run prog J=.ok () j/\Below B W j/\ZN j B b n k (L ++ [v]):=by
 obtain ⟨D,row,dT,h⟩:=h
 have Q:=LW (n:=n) (k:=k) (t:=(v.n,v.who)) L L.length
 rw [List.take_length] at Q
 have U:=Jqm (BR (n:=n) (k:=k) (t:=(v.n,v.who)) L) (v:=v) (⟨rfl,rfl,O⟩:v.n=((v.n,v.who):Int×Int).1/\v.who=((v.n,v.who):Int×Int).2/\YO n k v=true)
 refine ⟨row (v.n,v.who),kH (Zf n k (v.n,v.who) L),fun W K=>(h.below K).look I,fun g G=>(World.ownsRow.lt (h.own _ I) g G).2,fun W K=>?_⟩
 have M:=h.below K
 have hB:B<=W.heap.size:=Nat.le_trans h.aO (Nat.le_of_lt M.lt)
 refine (Jr1 (kH (Zf n k (v.n,v.who) L)) (Zf n k (v.n,v.who) L).2 (row (v.n,v.who)) v B W (by omega) (M.own _ I) hB).mono ?_
 rintro e J ⟨a2,rfl,X,G,Y,Z⟩
 obtain ⟨j,a0,a1,D',r',b',hT⟩:=M.put O I hB U.symm G X Y Z (by omega)
 exact ⟨_,j,rfl,G,a0,a1,D',r',b',hT⟩
theorem Jo9 (n k:Nat) (p0:Option Addr) (l0 c0:Nat) (p:Option Addr) (LL:List (List Yb)) (m5:Nat) (w:World) (m6:1<=k) (m7:k<=n) (hn:n<=12) (hl:LL.length<=1000) (n5:LL.flatten.length<=1000) (hL:eU w p LL) (i4:∀ v ∈ LL.flatten,Jr (v.n,v.who)) :
 Calls prog 80 #[.agg #[.int .i64 (n:Int),.int .i64 (k:Int),.slice p0 l0 c0],.slice p LL.length m5] w fun e w'=>(∃ b,e=.returned (.map (some b))/\ZN w' (w.heap.size+1) b n k LL.flatten)/\Below w.heap.size w w':=by
 obtain ⟨y,a4⟩:∃ y,y=w.alloc (.cells #[.int .i64 (n:Int),.int .i64 (k:Int),.slice p0 l0 c0] 24):=⟨_,rfl⟩
 have e0:y.heap.size=w.heap.size+1:=by rw [a4];simp
 have b1:Below w.heap.size w y:=by rw [a4];exact (Below.refl _ _).alloc (Nat.le_refl _) _
 have f0:y.cell? ⟨w.heap.size,0,none⟩=some (.int .i64 (n:Int)):=by rw [a4,World.cell?_alloc_at _ _ _ _ rfl];rfl
 have f1:y.cell? ⟨w.heap.size,1,none⟩=some (.int .i64 (k:Int)):=by rw [a4,World.cell?_alloc_at _ _ _ _ rfl];rfl
 obtain ⟨w1,b2⟩:∃ w1,w1=y.alloc (.map #[] 0):=⟨_,rfl⟩
 have d9:Hid (ZN w1 y.heap.size y.heap.size n k []):=by show ZN _ _ _ _ _ _;rw [b2];exact ⟨_,_,_,W5 y n k⟩
 have e8:Below y.heap.size y w1:=by rw [b2];exact (Below.refl _ _).alloc (Nat.le_refl _) _
 have e9:Hid (Below y.heap.size y w1):=e8
 have i5:Hid (y=w.alloc (.cells #[.int .i64 (n:Int),.int .i64 (k:Int),.slice p0 l0 c0] 24)):=a4
 have b3:Hid (∀ W,Below y.heap.size y W->W.cell? ⟨w.heap.size,0,none⟩=some (.int .i64 (n:Int))/\W.cell? ⟨w.heap.size,1,none⟩=some (.int .i64 (k:Int))/\eU W p LL/\Below w.heap.size w W):=fun W J=>by
  have a0:w.heap.size < y.heap.size:=by omega
  exact ⟨(J.cell (p:=⟨w.heap.size,0,none⟩) a0).trans f0,(J.cell (p:=⟨w.heap.size,1,none⟩) a0).trans f1,(hL.below b1).below J,b1.trans (J.mono b1.size)⟩
 have m8:Hid (y.heap.size=w.heap.size+1):=e0
 have f3:Hid (∀ v ∈ LL.flatten,Jr (v.n,v.who)):=i4
 have f4:Hid (∀ i,i < LL.length->(LL.take (i+1)).flatten=(LL.take i).flatten ++ LL.getD i []):=fun i hi=>JfJ hi
 have f5:Hid (∀ i,(LL.take i).flatten.length<=LL.flatten.length):=fun i=>OG LL i
 have f6:Hid (LL.take LL.length=LL):=List.take_length
 rw [<- e0]
 obtain ⟨b,hb⟩:∃ b,b=y.heap.size:=⟨_,rfl⟩
 have f7:Hid (b=y.heap.size):=hb
 have i7:(Instr.makeMap 140 none).run prog y=.ok (.map (some b)) w1:=by rw [hb,b2];kernel_rfl
 rw [<- hb] at d9
 have m9:Hid (w.heap.size+1=b):=by show _=_;rw [hb,e0]
 clear a4 b2 b1 e8 f0 f1 e0 hL i4 hb
 go_enter func80,ntmps80
 go_wp2_with (rw [<- i5.out])
 clear i7
 go_loopw [13] (fun x wr=>∃ i:Nat,i<=LL.length/\x=.int .i64 i/\ZN wr b b n k (LL.take i).flatten/\Below y.heap.size y wr) (fun x _=>LL.length - (intOf x).toNat)
 case atStart=>exact ⟨0,Nat.zero_le _,rfl,d9.out,e9.out⟩
 case round =>
  obtain ⟨i,hi,rfl,hT,hB⟩:=hrel
  obtain ⟨w2,rfl⟩:∃ w2,w2=wr:=⟨_,rfl⟩
  have b4:Hid (ZN w2 b b n k (LL.take i).flatten):=hT
  have e1:Hid (Below y.heap.size y w2):=hB
  clear hT hB d9 e9
  by_cases a5:i < LL.length
  ·have f8:Hid ((LL.take (i+1)).flatten=(LL.take i).flatten ++ LL.getD i []):=f4.out i a5
   have n2:(LL.take i).flatten.length+(LL.getD i []).length<=1000:=by
    have h1:=f5.out (i+1)
    rw [f8.out,List.length_append] at h1
    omega
   have i8:Hid (∀ v ∈ LL.getD i [],Jr (v.n,v.who)):=fun v hv=>f3.out v (by
    rw [<- f6.out]
    rw [List.getD_eq_getElem?_getD,List.getElem?_eq_getElem a5] at hv
    rw [List.take_length]
    exact List.mem_flatten.2 ⟨_,List.getElem_mem a5,hv⟩)
   rcases (b3.out y (Below.refl _ _)).2.2.1 with h0 | ⟨bl,ol,e2,i9,f9⟩
   ·rw [h0] at a5;simp at a5
   obtain ⟨q,cq,g2,g3,n3,j0⟩:=f9 i a5
   have j1:Hid (∀ W,Below y.heap.size y W->Ql Ze W q (LL.getD i [])):=fun W J=>g3.below J
   have j2:w2.cell? ⟨bl,ol+i,none⟩=some (.slice q (LL.getD i []).length cq):=(e1.out.cell (p:=⟨bl,ol+i,none⟩) i9).trans g2
   subst e2
   clear f9 g3 j0 g2 f4 f5 f3
   generalize LL.getD i []=D at *
   generalize (LL.take i).flatten=X at *
   go_wp2
   go_loopw [19] (fun x wr=>∃ j:Nat,j<=D.length/\x=.int .i64 j/\ZN wr b b n k (X ++ D.take j)/\Below y.heap.size y wr) (fun x _=>D.length - (intOf x).toNat)
   case atStart=>exact ⟨0,Nat.zero_le _,rfl,by rw [List.take_zero,List.append_nil];exact b4.out,e1.out⟩
   case round =>
    obtain ⟨j,hj,rfl,hT,hB⟩:=hrel
    have hR:=j1.out wr hB
    obtain ⟨G,rfl⟩:∃ G,G=wr:=⟨_,rfl⟩
    have b5:Hid (ZN G b b n k (X ++ D.take j)):=hT
    have b6:Hid (Below y.heap.size y G):=hB
    have g4:Hid (Ql Ze G q D):=hR
    clear hT hB hR b4 j2
    by_cases e3:j < D.length
    ·have g5:Hid (D.take (j+1)=D.take j ++ [Xd D j]):=JhR e3
     have g6:Jr ((Xd D j).n,(Xd D j).who):=i8.out _ (by have:=Xx e3;exact List.mem_of_getElem? this)
     obtain ⟨b',o',e2,n4,d0,d1,d2,d3,d4⟩:=QU g4.out e3
     subst e2
     have j3:(X ++ D.take j).length<=1000:=by rw [List.length_append,List.length_take];omega
     have a1:Hid (YO n k (Xd D j)=(YM (Xd D j).n (Xd D j).who && gS n k (Xd D j).size (Xd D j).at_ (Xd D j).text)):=T8 n k _
     have e4:Hid (Jr ((Xd D j).n,(Xd D j).who)):=g6
     have e5:Hid (∀ W,ZN W b b n k ((X ++ D.take j) ++ [Xd D j])->ZN W b b n k (X ++ D.take (j+1))):=fun W h=>by rw [g5.out,<- List.append_assoc];exact h
     clear g6 g5
     generalize Xd D j=x at *
     generalize X ++ D.take j=e6 at *
     obtain ⟨K,M,xs,N,O⟩:=x
     dsimp only at d0 d1 d2 d3 d4 a1 e4
     obtain ⟨I,b7⟩:∃ I,I=G.alloc (.cells #[.int .i64 K,.int .i64 M,.int .i64 xs,.int .i64 N,.string O] 76):=⟨_,rfl⟩
     have a2:Below G.heap.size G I:=by rw [b7];exact (Below.refl _ _).alloc (Nat.le_refl _) _
     have a3:Hid (I.cell? ⟨G.heap.size,0,none⟩=some (.int .i64 K)/\I.cell? ⟨G.heap.size,1,none⟩=some (.int .i64 M)/\I.cell? ⟨G.heap.size,2,none⟩=some (.int .i64 xs)/\I.cell? ⟨G.heap.size,3,none⟩=some (.int .i64 N)/\I.cell? ⟨G.heap.size,4,none⟩=some (.string O)):=by
      rw [b7]
      exact ⟨by rw [World.cell?_alloc_at _ _ _ _ rfl];rfl,by rw [World.cell?_alloc_at _ _ _ _ rfl];rfl,by rw [World.cell?_alloc_at _ _ _ _ rfl];rfl,by rw [World.cell?_alloc_at _ _ _ _ rfl];rfl,by rw [World.cell?_alloc_at _ _ _ _ rfl];rfl⟩
     have g7:Hid (I=G.alloc (.cells #[.int .i64 K,.int .i64 M,.int .i64 xs,.int .i64 N,.string O] 76)):=b7
     have g8:Hid (Below y.heap.size y I):=b6.out.trans (a2.mono b6.out.size)
     have g9:Hid (ZN I b b n k e6):=b5.out.below a2
     have d5:Hid (YO n k ⟨K,M,xs,N,O⟩=true->∃ (Y:Value) (sz:Int),(∀ W,Below I.heap.size I W->(Instr.lookup 140 (.map (some b)) (.agg #[.int .i64 K,.int .i64 M]) false).run prog W=.ok (.agg #[.int .i64 sz,Y]) W)/\(∀ g,Y.ownBlock=some g->g < G.heap.size)/\∀ W,Below I.heap.size I W->Calls prog 108 #[.agg #[.int .i64 sz,Y],.agg #[.int .i64 K,.int .i64 M,.int .i64 xs,.int .i64 N,.string O]] W fun e w7=>∃ rv Q,e=.returned rv/\W.grownBy w7 Y.ownBlock/\(Instr.mapUpdate 140 (.map (some b)) (.agg #[.int .i64 K,.int .i64 M]) rv).run prog w7=.ok () Q/\Below b W Q/\ZN Q b b n k (e6 ++ [⟨K,M,xs,N,O⟩])):=fun hc=>by
      obtain ⟨Y,sz,h1,h2,h3⟩:=b5.out.step hc e4.out j3
      exact ⟨Y,sz,fun W J=>h1 W (a2.trans (J.mono a2.size)),h2,fun W J=>h3 W (a2.trans (J.mono a2.size))⟩
     have d6:Hid (∀ W,Calls prog 57 #[.agg #[.int .i64 K,.int .i64 M]] W fun e w'=>e=.returned (.bool (YM K M))/\Below W.heap.size W w'):=fun W=>wI K M W
     have a8:Hid (∀ W,Calls prog 107 #[.int .i64 (n:Int),.int .i64 (k:Int),.int .i64 xs,.agg #[.int .i64 N,.string O]] W fun e w'=>e=.returned (.bool (gS n k xs N O))/\Below W.heap.size W w'):=fun W=>I1 n k xs N O W m6 m7 hn
     have Z:Hid (∀ W,Below I.heap.size I W->((W.cell? ⟨w.heap.size,0,none⟩=some (.int .i64 (n:Int))/\W.cell? ⟨w.heap.size,1,none⟩=some (.int .i64 (k:Int)))/\(W.cell? ⟨G.heap.size,0,none⟩=some (.int .i64 K)/\W.cell? ⟨G.heap.size,1,none⟩=some (.int .i64 M)/\W.cell? ⟨G.heap.size,2,none⟩=some (.int .i64 xs)/\W.cell? ⟨G.heap.size,3,none⟩=some (.int .i64 N)/\W.cell? ⟨G.heap.size,4,none⟩=some (.string O)))/\ZN W b b n k e6/\Below y.heap.size y W):=fun W J=>by
      have a0:=Qf a3.out.1
      have h0:Below y.heap.size y W:=g8.out.trans (J.mono g8.out.size)
      exact ⟨⟨⟨(b3.out W h0).1,(b3.out W h0).2.1⟩,(J.cell (p:=⟨G.heap.size,0,none⟩) a0).trans a3.out.1,(J.cell (p:=⟨G.heap.size,1,none⟩) a0).trans a3.out.2.1,(J.cell (p:=⟨G.heap.size,2,none⟩) a0).trans a3.out.2.2.1,(J.cell (p:=⟨G.heap.size,3,none⟩) a0).trans a3.out.2.2.2.1,(J.cell (p:=⟨G.heap.size,4,none⟩) a0).trans a3.out.2.2.2.2⟩,g9.out.below J,h0⟩
     obtain ⟨⟨⟨g0,g1⟩,k0,k1,k2,k3,k4⟩,_⟩:=Z.out I (Below.refl _ _)
     clear b7 a2 b6 b5 g4 a3 g9 e4
     generalize YM K M=tg at *
     generalize gS n k xs N O=ft at *
     cases tg with
     | false =>
      have HC:Hid (YO n k ⟨K,M,xs,N,O⟩=false):=a1.out
      clear a1 a8 d5
      go_wp2_with (first | rw [<- g7.out] | fail)
      refine (d6.out _).mono ?_
      rintro e w5 ⟨rfl,a6⟩
      obtain ⟨_,h5,h6⟩:=Z.out w5 a6
      have j5:Hid (ZN w5 b b n k (X ++ D.take (j+1))):=e5.out w5 (h5.pass HC.out)
      have j6:Hid (Below y.heap.size y w5):=h6
      clear h5 h6 a6 d6 Z
      go_wp2
      go_roundw
      case rel=>exact ⟨j+1,by omega,by go_num,j5.out,j6.out⟩
      case measure=>simp [intOf];omega
     | true =>
      go_wp2_with (first | rw [<- g7.out] | fail)
      refine (d6.out _).mono ?_
      rintro e w5 ⟨rfl,a6⟩
      have a9:Hid (Below I.heap.size I w5):=a6
      clear g0 g1 k0 k1 k2 k3 k4
      obtain ⟨⟨⟨g0,g1⟩,k0,k1,k2,k3,k4⟩,_⟩:=Z.out w5 a6
      clear a6 d6 d0 d1 d2 d3 d4
      cases ft with
      | false =>
       have HC:Hid (YO n k ⟨K,M,xs,N,O⟩=false):=a1.out
       clear a1 d5
       go_wp2_with fail
       refine (a8.out _).mono ?_
       rintro e U ⟨rfl,b0⟩
       obtain ⟨_,d7,d8⟩:=Z.out U (a9.out.trans (b0.mono a9.out.size))
       have j8:Hid (ZN U b b n k (X ++ D.take (j+1))):=e5.out U (d7.pass HC.out)
       have k6:Hid (Below y.heap.size y U):=d8
       clear d7 d8 b0 a8 Z
       go_wp2
       go_roundw
       case rel=>exact ⟨j+1,by omega,by go_num,j8.out,k6.out⟩
       case measure=>simp [intOf];omega
      | true =>
       have HC:Hid (YO n k ⟨K,M,xs,N,O⟩=true):=a1.out
       clear a1
       go_wp2_with fail
       refine (a8.out _).mono ?_
       rintro e U ⟨rfl,b0⟩
       have a7:Below I.heap.size I U:=a9.out.trans (b0.mono a9.out.size)
       clear g0 g1 k0 k1 k2 k3 k4
       obtain ⟨⟨⟨g0,g1⟩,k0,k1,k2,k3,k4⟩,d7,d8⟩:=Z.out U a7
       obtain ⟨Y,sz,e7,h7,h8⟩:=d5.out HC.out
       have k7:Hid (∀ W,Below U.heap.size U W->Calls prog 108 #[.agg #[.int .i64 sz,Y],.agg #[.int .i64 K,.int .i64 M,.int .i64 xs,.int .i64 N,.string O]] W fun e w7=>∃ rv Q,e=.returned rv/\(w7.cell? ⟨G.heap.size,0,none⟩=some (.int .i64 K)/\w7.cell? ⟨G.heap.size,1,none⟩=some (.int .i64 M))/\(Instr.mapUpdate 140 (.map (some b)) (.agg #[.int .i64 K,.int .i64 M]) rv).run prog w7=.ok () Q/\Below y.heap.size y Q/\ZN Q b b n k (X ++ D.take (j+1))):=fun W J=>by
        have h4:Below I.heap.size I W:=a7.trans (J.mono a7.size)
        refine (h8 W h4).mono ?_
        rintro e w7 ⟨rv,Q,rfl,hg,h9,i0,l3⟩
        obtain ⟨⟨_,q0,q1,_⟩,_,l7⟩:=Z.out W h4
        have l8:some G.heap.size≠Y.ownBlock:=fun e=>by have:=h7 _ e.symm;omega
        have i1:=hg.block G.heap.size (Qf q0) l8
        refine ⟨rv,Q,rfl,⟨(World.cell?_of_block (a:=⟨G.heap.size,0,none⟩) i1).trans q0,(World.cell?_of_block (a:=⟨G.heap.size,1,none⟩) i1).trans q1⟩,h9,?_,e5.out Q l3⟩
        rw [f7.out] at i0
        exact l7.trans i0
       have l1:=e7 U a7
       have l2:=e7 U.drew a7.drew
       clear d7 d8 b0 a7 a8 Z e7 h8 h7 d5 a9
       go_wp2
       go_region_with (go_at_call 108;refine (k7.out _ (by first | exact (Below.refl _ _).drew | exact Below.refl _ _)).mono ?_;rintro e w7 ⟨rv,Q,rfl,⟨n0,n1⟩,h9,l9,m0⟩)
       all_goals (go_wp2;go_roundw)
       all_goals (first | exact ⟨j+1,by omega,by go_num,m0,l9⟩ | (simp [intOf];omega))
    ·have i2:D.take j=D:=List.take_of_length_le (by omega)
     have m4:Hid ((LL.take (i+1)).flatten=X ++ D.take j):=by show _=_;rw [f8.out,i2]
     clear i2
     go_wp2
     go_roundw
     case rel=>exact ⟨i+1,by omega,by go_num,by rw [m4.out];exact b5.out,b6.out⟩
     case measure=>simp [intOf];omega
  ·have i3:i=LL.length:=by omega
   have HF:Hid ((LL.take i).flatten=LL.flatten):=by show _=_;rw [i3,f6.out]
   rw [HF.out] at b4
   clear i3
   go_wp2
   go_ret
   exact ⟨⟨_,rfl,by rw [<- f7.out];exact b4.out⟩,(b3.out w2 e1.out).2.2.2⟩
theorem Jd.setInt {ad:Nat->Addr} {G:Value} {c at_:Int} {z:Int} (h:Jd w ad G c at_) (N:w.cell? ⟨b,1,none⟩=Option.some (Value.int .i64 z)) (i:Nat) (v:Value):Jd (w.setCell ⟨b,i,none⟩ v) ad G c at_:=by
 rcases h with h | h | ⟨k,y,I,J,K,M,j⟩
 ·exact Or.inl h
 ·exact Or.inr (Or.inl h)
 ·have D : y ≠ b := fun e => by
   subst e
   rw [N] at j
   cases j
  exact Or.inr (Or.inr ⟨k,y,I,J,K,(World.cell?_setCell_other _ _ _ _ (fun e=>D (congrArg Addr.block e).symm)).trans M,(World.cell?_setCell_other _ _ _ _ (fun e=>D (congrArg Addr.block e).symm)).trans j⟩)
structure IK (w:World) (l:List ByteArray) (p:Option Addr) (cap:Nat):Prop where
 strs:Strs w p l
 room:l.length<=cap
 empty:p=none->l=[]/\cap=0
 len:l.length<=maxLen
 size:∀ x ∈ l,x.size<=maxLen
section
open Go.Sort
theorem OA (w:World) (n:Nat) (os:Array Obj):RowKit.Below w.heap.size w (grow (w.drewN n) os):=⟨rfl,rfl,rfl,by show w.heap.size<=(w.heap ++ os).size;rw [Array.size_append];omega,fun _ j=>heap_grow_old (w.drewN n) os j⟩
theorem N1 (a b:Int×Int) (w:World):Calls prog 81 #[.agg #[.int .i64 a.1,.int .i64 a.2],.agg #[.int .i64 b.1,.int .i64 b.2]] w fun e w'=>e=.returned (.bool (Qd a b))/\RowKit.Below w.heap.size w w':=(PG a b w).mono fun e w' ⟨j,q,os,y⟩=>⟨j,by rw [y];exact OA w q os⟩
structure JV (n k:Nat) (L:List Yb) (left:Lit->Bool) (t:Int×Int) (found:Bool):Prop where
 no:found=false->t=(0,0)/\∀ u,Jr u->left (YD u)=false->¬ Xp n k L u
 yes:found=true->Jr t/\Xp n k L t/\∀ u,Jr u->left (YD u)=false->Xp n k L u->Qd t u=false
theorem N2  (y:1<=k) (D:∀ v ∈ L,Jr (v.n,v.who)) (h:Xp n k L u):Jr u:=by
 obtain ⟨v,j,e⟩:=nZ y h
 rw [<- e]
 exact D v j
theorem BN  (j:1<=k) (h:Xp n k L u):(Zf n k u L).2≠[]:=fun e=>by
 unfold Xp at h
 rw [e] at h
 simp at h
 omega
theorem OQ    (I:1<=k) (h:Y1 w B b n k L D row dT):JV n k L (Maps.has D) (0,0) false :=
 ⟨fun _=>⟨rfl,fun u y j G=>by
  rw [h.has u y] at j
  exact of_decide_eq_false j (BN I G)⟩,fun e=>by cases e⟩
theorem wF  (D:Jr t) (G:Jr u) (h:(left (YD u) && !(YD u).sameKey (YD t))=false):left (YD u)=false∨u=t:=by
 cases y:left (YD u) with
 | false=>exact Or.inl rfl
 | true =>
  rw [y] at h
  right
  have j:(YD u).sameKey (YD t)=true:=by
   cases j:(YD u).sameKey (YD t) with
   | true=>rfl
   | false=>rw [j] at h;cases h
  exact xX G D (WideAt.sameKey_eq j)
theorem UO   (h:JV n k L left t found) (J:Jr u) (K:¬ Xp n k L u∨found=true/\Qd t u=false):JV n k L (fun z=>left z && !z.sameKey (YD u)) t found:=by
 refine ⟨fun e=>⟨(h.no e).1,fun x D I G=>?_⟩,fun e=>⟨(h.yes e).1,(h.yes e).2.1,fun x D I G=>?_⟩⟩
 ·rcases wF J D I with y | y
  ·exact (h.no e).2 x D y G
  ·subst y
   rcases K with j | j
   ·exact j G
   ·rw [e] at j;cases j.1
 ·rcases wF J D I with y | y
  ·exact (h.yes e).2.2 x D y G
  ·subst y
   rcases K with j | j
   ·exact absurd G j
   ·exact j.2
theorem RH   (h:JV n k L left t found) (J:Jr u) (N:Xp n k L u) (O:found=true->Qd t u=true):JV n k L (fun z=>left z && !z.sameKey (YD u)) u true:=by
 refine ⟨fun e=>(by cases e),fun _=>⟨J,N,fun x y K G=>?_⟩⟩
 rcases wF J y K with j | j
 ·cases D:found with
  | false=>exact absurd G ((h.no D).2 x y j)
  | true =>
   have I:=(h.yes D).2.2 x y j G
   cases M:Qd u x with
   | false=>rfl
   | true=>rw [yQ (O D) M] at I;cases I
 ·subst j
  simp [Qd]
theorem P8   (D:1<=k) (G:∀ v ∈ L,Jr (v.n,v.who)) (h:JV n k L left t found) (I:∀ z,left z=false):Ys n k L L=(t,if found then mP n k L t else ⟨#[]⟩,found):=by
 cases found with
 | false =>
  obtain ⟨rfl,j⟩:=h.no rfl
  rw [GP (fun v J=>j _ (G v J) (I _))]
  rfl
 | true =>
  obtain ⟨_,K,j⟩:=h.yes rfl
  rw [IS D K (fun u y=>j u (N2 D G y) (I _) y)]
  rfl
theorem Y1.entry    (h:Y1 w B b n k L D row dT) (X:∀ z,left z=true->Maps.has D z=true) {x:Int×Int} {c:Int×Option Addr×Nat×Nat} {J:Lit} {y:DataW Value×List MemPlace} (Y:keyOf prog 46 (iO x)=some J) (Z:left J=true) (N:YR (X7 c)=some y) (a0:∀ zd,D.atKey J zd=y.1) :
 Jr x/\J=YD x/\c.2.2.1=(Zf n k x L).2.length:=by
 obtain ⟨t,j,rfl,G⟩:=CC Y
 have O:x=t:=by
  unfold iO at j
  simp at j
  exact Prod.ext j.1 j.2
 subst O
 have M:=X _ Z
 rw [h.has x G] at M
 have Q:=of_decide_eq_true M
 have K:=h.at_ x G Q (.held (X7 c))
 rw [a0] at K
 have U:y=(.held (X7 c),[]):=by rw [zY] at N;exact (Option.some.inj N).symm
 rw [U] at K
 have I:X7 c=.agg #[.int .i64 (Zf n k x L).1,row x]:=by injection K
 obtain ⟨p,cp,W,_⟩:=nL (h.own x G)
 rw [W] at I
 unfold X7 at I
 simp at I
 exact ⟨G,rfl,I.2.2.1⟩
theorem ZL {j:Nat}  (h:w.ranges prog 46 YR b r n D left j):r < w.heap.size/\b < w.heap.size:=⟨World.ranges.lt h,World.ownsMap.lt (World.ranges.owns h)⟩
structure fL (W:World) (a:Nat) (n k:Nat) (lv:Value) (t:Int×Int) (B b:Nat) (L:List Yb) (D:DataW Value) (row:Int×Int->Value) (dT:Int×Int->Nat):Prop where
 c0:W.cell? ⟨a,0,none⟩=some (.int .i64 (n:Int))
 c1:W.cell? ⟨a,1,none⟩=some (.int .i64 (k:Int))
 T:YK W (a+1) (.int .i64 t.1) (.int .i64 t.2)
 dX:Y1 W B b n k L D row dT
 hB:a+1+1<=B
theorem fL.below {y:World}     (h:fL W a n k lv t B b L D row dT) (j:Below W.heap.size W y):fL y a n k lv t B b L D row dT :=
 ⟨(j.cell (p:=⟨a,0,none⟩) (Qf h.c0)).trans h.c0,(j.cell (p:=⟨a,1,none⟩) (Qf h.c0)).trans h.c1,h.T.below j,h.dX.below j,h.hB⟩
theorem fL.set     (h:fL W a n k lv t B b L D row dT) (u:Int×Int):fL ((W.setCell ⟨a+1,0,none⟩ (.int .i64 u.1)).setCell ⟨a+1,1,none⟩ (.int .i64 u.2)) a n k lv u B b L D row dT:=by
 have y:W.grownBy ((W.setCell ⟨a+1,0,none⟩ (.int .i64 u.1)).setCell ⟨a+1,1,none⟩ (.int .i64 u.2)) (some (a+1)):=⟨rfl,rfl,rfl,by simp [World.setCell],fun j _ K=>by
  have G:j≠a+1:=fun e=>K (by rw [e])
  rw [Below.heap_setCell _ _ _ _ G,Below.heap_setCell _ _ _ _ G]⟩
 have I:=y.block a (Qf h.c0) (by simp)
 have Q:=h.hB
 refine ⟨(World.cell?_of_block (a:=⟨a,0,none⟩) I).trans h.c0,(World.cell?_of_block (a:=⟨a,1,none⟩) I).trans h.c1,(h.T.eJ _).eM _,?_,h.hB⟩
 obtain ⟨m,M,N⟩:=h.dX.map
 have U:=h.dX.aO
 refine ⟨⟨m,M,World.ownsMap.kept N y (by simp;omega)⟩,h.dX.aO,h.dX.has,h.dX.at_,fun t J=>World.ownsRow.kept (h.dX.own t J) y ?_,h.dX.eB,h.dX.eA,h.dX.apart⟩
 cases O:(row t).ownBlock with
 | none=>exact Or.inl rfl
 | some g =>
  refine Or.inr fun e=>?_
  injection e with e
  have:=(World.ownsRow.lt (h.dX.own t J) g O).1
  omega
theorem fL.grown {I:World}     (h:fL W a n k lv t B b L D row dT) (j:W.grownBy I (some r)) (O:a+1 < r) (Q:b < r) (N:∀ t,Jr t->∀ g,(row t).ownBlock=some g->g < r):fL I a n k lv t B b L D row dT:=by
 have y:=j.block a (Qf h.c0) (by simp;omega)
 obtain ⟨m,J,K⟩:=h.dX.map
 refine ⟨(World.cell?_of_block (a:=⟨a,0,none⟩) y).trans h.c0,(World.cell?_of_block (a:=⟨a,1,none⟩) y).trans h.c1,h.T.grown j (by simp;omega),⟨⟨m,J,World.ownsMap.kept K j (by simp;omega)⟩,h.dX.aO,h.dX.has,h.dX.at_,fun t G=>World.ownsRow.kept (h.dX.own t G) j ?_,h.dX.eB,h.dX.eA,h.dX.apart⟩,h.hB⟩
 cases M:(row t).ownBlock with
 | none=>exact Or.inl rfl
 | some g =>
  refine Or.inr fun e=>?_
  injection e with e
  have:=N t G g M
  omega
theorem L7 (h:Jt v):Jr (v.n,v.who):=⟨h.1,h.2.1⟩
theorem U4 (ad:Nat->Addr) (c:Xg) (p:Option Addr) (U:Nat) (LL:List (List Yb)) (pl:Option Addr) (cl:Nat) (w:World) (hc:Yn w c p U) (hL:eU w pl LL) (t2:LL.length<=1000) (t3:LL.flatten.length<=1000) (q6:∀ v ∈ LL.flatten,Jt v) (hE:Zp w ad) (z:Addr) (hZ:w.cell? ⟨11,0,none⟩=some (.iface 252 (.pointer (some z)))) :
 Calls prog 58 #[iE c (.slice p c.L.length U),.slice pl LL.length cl] w fun e w'=>(∃ ev,e=.returned (.tuple #[.agg #[.int .i64 (jB c LL).1.1,.int .i64 (jB c LL).1.2],.string (jB c LL).2.1,.bool (jB c LL).2.2,ev])/\Jd w' ad ev (jH c LL).1 (jH c LL).2)/\Below w.heap.size w w':=by
 obtain ⟨w0,e6⟩:∃ w0,w0=w.alloc (.cells #[.int .i64 c.n,.int .i64 c.k,.slice p c.L.length U] 24):=⟨_,rfl⟩
 obtain ⟨Z,e7⟩:∃ Z,Z=w0.alloc (.cells #[.int .i64 0,.int .i64 0] 46):=⟨_,rfl⟩
 have e0:w0.heap.size=w.heap.size+1:=by rw [e6];simp
 have e1:Z.heap.size=w.heap.size+1+1:=by rw [e7,<- e0];simp
 have i3:Below w.heap.size w w0:=by rw [e6];exact (Below.refl _ _).alloc (Nat.le_refl _) _
 have i4:Below w0.heap.size w0 Z:=by rw [e7];exact (Below.refl _ _).alloc (Nat.le_refl _) _
 have b4:Below w.heap.size w Z:=i3.trans (i4.mono i3.size)
 have l3:k8 w0 w.heap.size c (.slice p c.L.length U):=by rw [e6];exact AA w c _ _
 have e8:=l3.below i4
 have l7:YK Z (w.heap.size+1) (.int .i64 0) (.int .i64 0):=by
  rw [e7]
  exact ⟨by rw [World.cell?_alloc_at _ _ _ _ e0.symm];rfl,by rw [World.cell?_alloc_at _ _ _ _ e0.symm];rfl,World.frozen?_alloc_at _ _ _ _ e0.symm,World.frozen?_alloc_at _ _ _ _ e0.symm⟩
 have a9:=qU ad c p U Z (hc.below b4) (hE.below b4)
 have g8:Hid (Z=(w.alloc (.cells #[.int .i64 c.n,.int .i64 c.k,.slice p c.L.length U] 24)).alloc (.cells #[.int .i64 0,.int .i64 0] 46)):=by show _=_;rw [e7,e6]
 have b5:Hid (Below w.heap.size w Z):=b4
 have l8:Hid (Z.heap.size=w.heap.size+1+1):=e1
 have i5:Hid (k8 Z w.heap.size c (.slice p c.L.length U)):=e8
 have g9:Hid (YK Z (w.heap.size+1) (.int .i64 0) (.int .i64 0)):=l7
 have l9:Hid (Zp Z ad):=hE.below b4
 have m0:Hid (eU Z pl LL):=hL.below b4
 have i7:Hid (Z.cell? ⟨11,0,none⟩=some (.iface 252 (.pointer (some z)))):=(b4.cell (p:=⟨11,0,none⟩) (Qf hZ)).trans hZ
 have e9:Hid (∀ v ∈ LL.flatten,Jr (v.n,v.who)):=fun v hv=>L7 (q6 v hv)
 have m4:Hid (2 < w.heap.size):=Yl hE.c2
 have m5:Hid (w.cell? ⟨11,0,none⟩=some (.iface 252 (.pointer (some z)))):=hZ
 have f0:=e8.f0
 have f1:=e8.f1
 have f2:=e8.f2
 unfold iE at a9 ⊢
 clear e6 e7 i3 i4 b4 l3 e8 l7 hc hL q6 hE hZ e0 e1
 by_cases hp:0 < (Jg c).1
 ·obtain ⟨b0,a7⟩:=P0 (LL:=LL) hp
  rw [b0,a7]
  have HP:Hid (0 < (Jg c).1):=hp
  clear hp b0 a7 e9
  generalize Jg c=R at *
  obtain ⟨n,k,L⟩:=c
  dsimp only at *
  go_enter func58,ntmps58
  go_wp2_with (rw [<- g8.out])
  refine a9.mono ?_
  rintro e K ⟨⟨ev,rfl,a8⟩,X⟩
  have a0:=g9.out.below X
  have t0:=a0.c0
  have t1:=a0.c1
  have b6:=a0.f0
  have b7:=a0.f1
  have a4:=(a0.eJ (.int .i64 0)).eM (.int .i64 0)
  have k0:=a4.c0
  have k1:=a4.c1
  have q7:Hid (Jd ((K.setCell ⟨w.heap.size+1,0,none⟩ (.int .i64 0)).setCell ⟨w.heap.size+1,1,none⟩ (.int .i64 0)) ad ev R.1 R.2):=(a8.setInt a0.c1 0 _).setInt (a0.eJ (.int .i64 0)).c1 1 _
  have h4:Hid (Below w.heap.size w ((K.setCell ⟨w.heap.size+1,0,none⟩ (.int .i64 0)).setCell ⟨w.heap.size+1,1,none⟩ (.int .i64 0))):=((b5.out.trans (X.mono b5.out.size)).setCell (by show w.heap.size<=w.heap.size+1;omega) _).setCell (by show w.heap.size<=w.heap.size+1;omega) _
  obtain ⟨et,eu,rfl⟩:=a8.some HP.out
  clear a8 X a9 f0 f1 f2 a0 a4
  go_wp2
  exact bodyPost_ret (v:=.tuple #[.agg #[.int .i64 0,.int .i64 0],.string ⟨#[]⟩,.bool false,.iface et eu]) (by simp [results,results58,go_sem,k0,k1]) rfl ⟨⟨_,rfl,q7.out⟩,h4.out⟩
 ·obtain ⟨hf,hn,h0,_,_⟩:=Xm hp
  rw [h0] at a9
  by_cases h5:c.n < (LL.length:Int)
  ·obtain ⟨b0,a7⟩:=LD (LL:=LL) hp h5
   rw [b0,a7]
   clear hp hn h0 hf b0 a7 e9
   obtain ⟨n,k,L⟩:=c
   dsimp only at *
   go_enter func58,ntmps58
   go_wp2_with (rw [<- g8.out])
   refine a9.mono ?_
   rintro e K ⟨⟨ev,rfl,a8⟩,X⟩
   obtain rfl:=Jd.isNil a8
   have a0:=g9.out.below X
   have t0:=a0.c0
   have t1:=a0.c1
   have b6:=a0.f0
   have b7:=a0.f1
   have a4:=(a0.eJ (.int .i64 0)).eM (.int .i64 0)
   have k0:=a4.c0
   have k1:=a4.c1
   have q2:=(l9.out.below X).c2
   have r0:(⟨w.heap.size+1,0,none⟩:Addr)≠⟨2,0,none⟩:=fun e=>by have h1:w.heap.size+1=2:=congrArg Addr.block e;have:=m4.out;omega
   have r1:(⟨w.heap.size+1,1,none⟩:Addr)≠⟨2,0,none⟩:=fun e=>by have h1:w.heap.size+1=2:=congrArg Addr.block e;have:=m4.out;omega
   have q3:(K.setCell ⟨w.heap.size+1,0,none⟩ (.int .i64 0)).cell? ⟨2,0,none⟩=some (.iface 252 (.pointer (some (ad 2)))):=(World.cell?_setCell_other _ _ _ _ r0).trans q2
   have q4:((K.setCell ⟨w.heap.size+1,0,none⟩ (.int .i64 0)).setCell ⟨w.heap.size+1,1,none⟩ (.int .i64 0)).cell? ⟨2,0,none⟩=some (.iface 252 (.pointer (some (ad 2)))):=(World.cell?_setCell_other _ _ _ _ r1).trans q3
   have h4:Hid (Below w.heap.size w ((K.setCell ⟨w.heap.size+1,0,none⟩ (.int .i64 0)).setCell ⟨w.heap.size+1,1,none⟩ (.int .i64 0))):=((b5.out.trans (X.mono b5.out.size)).setCell (by show w.heap.size<=w.heap.size+1;omega) _).setCell (by show w.heap.size<=w.heap.size+1;omega) _
   have m6:=i5.out.below X
   have g0:=m6.f0
   dsimp only at g0
   clear a8 X a9 f0 f1 f2 a0 a4 m6
   go_wp2
   go_region
   go_wp2
   exact bodyPost_ret (v:=.tuple #[.agg #[.int .i64 0,.int .i64 0],.string ⟨#[]⟩,.bool false,.iface 252 (.pointer (some (ad 2)))]) (by simp [results,results58,go_sem,k0,k1]) rfl ⟨⟨_,rfl,Jd.b8 2 (by decide)⟩,by first | exact h4.out | exact h4.out.drew⟩
  ·obtain ⟨b0,a7⟩:=CM (LL:=LL) hp h5
   obtain ⟨cn,ck,L⟩:=c
   dsimp only at *
   obtain ⟨n,rfl⟩:=Int.eq_ofNat_of_zero_le (show 0<=cn by omega)
   obtain ⟨k,rfl⟩:=Int.eq_ofNat_of_zero_le (show 0<=ck by omega)
   rw [Int.toNat_natCast,Int.toNat_natCast] at a7
   rw [b0]
   have d6:1<=k:=by omega
   have m7:k<=n:=by omega
   have m8:n<=12:=by omega
   obtain ⟨RR,i8⟩:∃ RR,RR=jB ⟨n,k,L⟩ LL:=⟨_,rfl⟩
   rw [<- i8]
   have m9:Hid (RR=Ys n k LL.flatten LL.flatten):=i8.trans a7
   have s6:¬ (n:Int) < (LL.length:Int):=h5
   have n0:Hid (∀ W,eU W pl LL->Calls prog 80 #[.agg #[.int .i64 (n:Int),.int .i64 (k:Int),.slice p L.length U],.slice pl LL.length cl] W fun e w'=>(∃ b,e=.returned (.map (some b))/\ZN w' (W.heap.size+1) b n k LL.flatten)/\Below W.heap.size W w'):=fun W M=>Jo9 n k p L.length U pl LL cl W d6 m7 m8 (by omega) (by omega) M e9.out
   have n1:Hid (∀ left t found,JV n k LL.flatten left t found->(∀ z,left z=false)->RR=(t,if found then mP n k LL.flatten t else ⟨#[]⟩,found)):=fun left t found h hl=>m9.out.trans (P8 d6 e9.out h hl)
   have i9:Hid (∀ t,Xp n k LL.flatten t->(((Zf n k t LL.flatten).1.toNat:Nat):Int)=(Zf n k t LL.flatten).1/\(Zf n k t LL.flatten).1.toNat<=1000/\l5 n k (Zf n k t LL.flatten).1.toNat (Zf n k t LL.flatten).2/\(Zf n k t LL.flatten).2.length<=1000):=fun t hg=>by
    obtain ⟨a1,a2,a3,_⟩:=FF (n:=n) (k:=k) (t:=t) (L:=LL.flatten) d6 (by unfold Xp at hg;omega)
    have:=LW (n:=n) (k:=k) (t:=t) LL.flatten LL.flatten.length
    rw [List.take_length] at this
    exact ⟨a1,a2,a3,by omega⟩
   clear hp hn h0 hf b0 a7 i8 h5 e9 m9
   generalize LL.flatten=G at *
   go_enter func58,ntmps58
   go_wp2_with (rw [<- g8.out])
   refine a9.mono ?_
   rintro e w2 ⟨⟨ev,rfl,a8⟩,d0⟩
   obtain rfl:=Jd.isNil a8
   have f3:=i5.out.below d0
   have g0:=f3.f0
   have g1:=f3.f1
   have g2:=f3.f2
   dsimp only at g0 g1 g2
   have j0:Hid (k8 w2 w.heap.size ⟨(n:Int),(k:Int),L⟩ (.slice p L.length U)):=f3
   have n2:Hid (YK w2 (w.heap.size+1) (.int .i64 0) (.int .i64 0)):=g9.out.below d0
   have j1:Hid (Below w.heap.size w w2):=b5.out.trans (d0.mono b5.out.size)
   have d2:Hid (w.heap.size+1+1<=w2.heap.size):=by show _<=_;rw [<- l8.out];exact d0.size
   have j2:Hid (w2.cell? ⟨11,0,none⟩=some (.iface 252 (.pointer (some z)))):=(d0.cell (p:=⟨11,0,none⟩) (Qf i7.out)).trans i7.out
   have n3:=n0.out w2 (m0.out.below d0)
   clear a8 d0 a9 f0 f1 f2 f3 i5 g9 b5 l8 i7 l9 m0 n0 g8
   go_wp2_with fail
   refine n3.mono ?_
   rintro e K ⟨⟨b,rfl,D,row,dT,f4⟩,X⟩
   have f5:Hid (fL K w.heap.size n k (.slice p L.length U) (0,0) (w2.heap.size+1) b G D row dT):=⟨(j0.out.below X).f0,(j0.out.below X).f1,n2.out.below X,f4,by have:=d2.out;omega⟩
   have n4:Hid (Below w.heap.size w K):=j1.out.trans (X.mono j1.out.size)
   have s7:Hid (K.cell? ⟨11,0,none⟩=some (.iface 252 (.pointer (some z)))):=(X.cell (p:=⟨11,0,none⟩) (Qf j2.out)).trans j2.out
   have H0:Hid (JV n k G (Maps.has D) (0,0) false):=OQ d6 f4
   obtain ⟨m,hm,n5⟩:=f4.map
   have r2:b < K.heap.size:=f4.lt
   clear X n3 g0 g1 g2 j0 n2 j1 j2 f4 hm
   go_wp2_with (first
    | (at_range;refine wpList_range_own _ rfl _ 140 rfl 46 143 qN underlying140 YR b m D rfl n5 ?_;intro w4 n6 d7 r3)
    | go_in)
   go_frame
   have n7:Hid (Below K.heap.size K w4):=⟨d7.os,d7.tape,d7.output,d7.size,fun k hk=>d7.block k hk (by simp)⟩
   have n8:Hid (w4.ranges prog 46 YR b K.heap.size m D (Maps.has D) (Maps.size D)):=n6
   have o0:Hid (fL w4 w.heap.size n k (.slice p L.length U) (0,0) (w2.heap.size+1) b G D row dT):=f5.out.below n7.out
   have f6:Hid (∀ W,Below (w.heap.size+1) w4 W->Below w.heap.size w W/\W.cell? ⟨11,0,none⟩=some (.iface 252 (.pointer (some z)))):=fun W M=>by
    have h0:Below w.heap.size w W:=(n4.out.trans (n7.out.mono n4.out.size)).trans (M.mono (by omega))
    exact ⟨h0,(h0.cell (p:=⟨11,0,none⟩) (Qf m5.out)).trans m5.out⟩
   have o1:Hid (∀ t,Jr t->∀ g,(row t).ownBlock=some g->g < K.heap.size):=fun t ht g hg=>(World.ownsRow.lt (f5.out.dX.own t ht) g hg).2
   have o2:Hid (w.heap.size+1 < K.heap.size):=by
    show _ < _
    have h1:=f5.out.dX.lt
    have h2:=f5.out.dX.aO
    have h3:=d2.out
    omega
   clear n6 d7 r3 n5
   go_loopw [6] (fun fo wr=>∃ (left:Lit->Bool) (f7:Nat) (t:Int×Int) (found:Bool),fo=.bool found/\wr.ranges prog 46 YR b K.heap.size m D left f7/\JV n k G left t found/\(∀ z,left z=true->Maps.has D z=true)/\fL wr w.heap.size n k (.slice p L.length U) t (w2.heap.size+1) b G D row dT/\Below (w.heap.size+1) w4 wr) (fun _ wr=>wr.rangeLeft b K.heap.size)
   case atStart=>exact ⟨Maps.has D,Maps.size D,(0,0),false,rfl,n8.out,H0.out,fun z hz=>hz,o0.out,Below.refl _ _⟩
   case round =>
    obtain ⟨left,f7,t,found,rfl,f8,o3,o4,b1,hB⟩:=hrel
    obtain ⟨N,rfl⟩:∃ N,N=wr:=⟨_,rfl⟩
    have d3:Hid (JV n k G left t found):=o3
    have h6:Hid (∀ z,left z=true->Maps.has D z=true):=o4
    have a5:Hid (fL N w.heap.size n k (.slice p L.length U) t (w2.heap.size+1) b G D row dT):=b1
    have HB:Hid (Below (w.heap.size+1) w4 N):=hB
    clear o3 o4 b1 hB n8 o0 H0 f5
    go_wp2_with (first
     | (at_next;refine wpList_next_ranges (α:=Int×Int) (β:=Int×Option Addr×Nat×Nat) _ rfl _ rfl 46 qN YR iO X7 (fun key kl hk=>by obtain ⟨x,hx,_⟩:=CC hk;exact ⟨x,hx⟩) (fun v y hv=>by obtain ⟨x,hx,_⟩:=FP hv;exact ⟨x,hx⟩) b K.heap.size m D left f7 rfl f8 ?_ ?_)
     | go_in)
    ·intro _ o5
     have j3:Hid (RR=(t,if found then mP n k G t else ⟨#[]⟩,found)):=n1.out left t found d3.out o5
     have hT:=a5.out.T
     clear o5 f8 n1 h6 o1
     cases found with
     | false =>
      have t0:=hT.c0
      have t1:=hT.c1
      have b6:=hT.f0
      have b7:=hT.f1
      have a4:=(hT.eJ (.int .i64 t.1)).eM (.int .i64 t.2)
      have k0:=a4.c0
      have k1:=a4.c1
      have j5:Hid (Below w.heap.size w ((N.setCell ⟨w.heap.size+1,0,none⟩ (.int .i64 t.1)).setCell ⟨w.heap.size+1,1,none⟩ (.int .i64 t.2))):=((f6.out N HB.out).1.setCell (by show w.heap.size<=w.heap.size+1;omega) _).setCell (by show w.heap.size<=w.heap.size+1;omega) _
      clear hT a4 d3 a5 i9 f6
      go_wp2
      exact bodyPost_ret (v:=.tuple #[.agg #[.int .i64 t.1,.int .i64 t.2],.string ⟨#[]⟩,.bool false,.nilIface]) (by simp [results,results58,go_sem,k0,k1]) rfl ⟨⟨_,by rw [j3.out];rfl,Jd.nil _ _⟩,j5.out⟩
     | true =>
      obtain ⟨h7,j6,_⟩:=d3.out.yes rfl
      obtain ⟨q1,q2,q3,q4⟩:=i9.out t j6
      have j8:=BN d6 j6
      have d8:=(a5.out.dX.below (Below.refl _ _).drew).look h7
      obtain ⟨p6,c6,k2,o6⟩:=nL (a5.out.dX.own t h7)
      unfold kH at d8
      rw [if_neg j8,k2,<- q1] at d8
      have r4:Hid (RR=(t,gB k (Zf n k t G).1.toNat (Qg k (Zf n k t G).2 (Zf n k t G).2.length),true)):=j3.out
      have o7:Hid (∀ W,Below N.heap.size N W->Calls prog 82 #[.int .i64 (n:Int),.int .i64 (k:Int),.int .i64 (((Zf n k t G).1.toNat:Nat):Int),.slice p6 (Zf n k t G).2.length c6] W fun e w'=>e=.returned (.tuple #[.string (gB k (Zf n k t G).1.toNat (Qg k (Zf n k t G).2 (Zf n k t G).2.length)),.nilIface])/\Below W.heap.size W w'):=fun W M=>LJ n k (Zf n k t G).1.toNat p6 (Zf n k t G).2 c6 z W d6 m7 m8 q2 q4 q3 (o6.below M) ((M.cell (p:=⟨11,0,none⟩) (Qf (f6.out N HB.out).2)).trans (f6.out N HB.out).2)
      have t0:=hT.c0
      have t1:=hT.c1
      have g0:=a5.out.c0
      have g1:=a5.out.c1
      have h8:Hid (∀ W,Below N.heap.size N W->(W.cell? ⟨w.heap.size,0,none⟩=some (.int .i64 (n:Int))/\W.cell? ⟨w.heap.size,1,none⟩=some (.int .i64 (k:Int))/\W.cell? ⟨w.heap.size+1,0,none⟩=some (.int .i64 t.1)/\W.cell? ⟨w.heap.size+1,1,none⟩=some (.int .i64 t.2)/\(Instr.lookup 140 (.map (some b)) (.agg #[.int .i64 t.1,.int .i64 t.2]) false).run prog W=.ok (.agg #[.int .i64 (((Zf n k t G).1.toNat:Nat):Int),.slice p6 (Zf n k t G).2.length c6]) W/\Below N.heap.size N W)):=fun W M=>by
       have b1:=a5.out.below M
       have hl:=b1.dX.look h7
       unfold kH at hl
       rw [if_neg j8,k2,<- q1] at hl
       exact ⟨b1.c0,b1.c1,b1.T.c0,b1.T.c1,hl,M⟩
      have r5:∀ W,(Instr.field 143 (.agg #[.int .i64 (((Zf n k t G).1.toNat:Nat):Int),.slice p6 (Zf n k t G).2.length c6]) 0).run prog W=.ok (.int .i64 (((Zf n k t G).1.toNat:Nat):Int)) W:=fun W=>by kernel_rfl
      have r6:∀ W,(Instr.field 143 (.agg #[.int .i64 (((Zf n k t G).1.toNat:Nat):Int),.slice p6 (Zf n k t G).2.length c6]) 1).run prog W=.ok (.slice p6 (Zf n k t G).2.length c6) W:=fun W=>by kernel_rfl
      clear d8 k2 o6 j8 q1 q2 q3 q4 j6 h7 hT d3 j3 i9 t0 t1 g0 g1
      generalize gB k (Zf n k t G).1.toNat (Qg k (Zf n k t G).2 (Zf n k t G).2.length)=dt at *
      generalize (Zf n k t G).1.toNat=sz at *
      generalize (Zf n k t G).2.length=ln at *
      have o9:Hid (∀ W,(W.cell? ⟨w.heap.size,0,none⟩=some (.int .i64 (n:Int))/\W.cell? ⟨w.heap.size,1,none⟩=some (.int .i64 (k:Int))/\W.cell? ⟨w.heap.size+1,0,none⟩=some (.int .i64 t.1)/\W.cell? ⟨w.heap.size+1,1,none⟩=some (.int .i64 t.2)/\(Instr.lookup 140 (.map (some b)) (.agg #[.int .i64 t.1,.int .i64 t.2]) false).run prog W=.ok (.agg #[.int .i64 (sz:Int),.slice p6 ln c6]) W/\Below N.heap.size N W)->Calls prog 82 #[.int .i64 (n:Int),.int .i64 (k:Int),.int .i64 (sz:Int),.slice p6 ln c6] W fun e w'=>e=.returned (.tuple #[.string dt,.nilIface])/\(w'.cell? ⟨w.heap.size,0,none⟩=some (.int .i64 (n:Int))/\w'.cell? ⟨w.heap.size,1,none⟩=some (.int .i64 (k:Int))/\w'.cell? ⟨w.heap.size+1,0,none⟩=some (.int .i64 t.1)/\w'.cell? ⟨w.heap.size+1,1,none⟩=some (.int .i64 t.2)/\(Instr.lookup 140 (.map (some b)) (.agg #[.int .i64 t.1,.int .i64 t.2]) false).run prog w'=.ok (.agg #[.int .i64 (sz:Int),.slice p6 ln c6]) w'/\Below N.heap.size N w')):=fun W M=>(o7.out W M.2.2.2.2.2).mono fun e w' ⟨he,hb⟩=>⟨he,h8.out w' (M.2.2.2.2.2.trans (hb.mono M.2.2.2.2.2.size))⟩
      have r7:=h8.out N (Below.refl _ _)
      clear o7
      go_wp2
      go_region_held3 (fun W=>(W.cell? ⟨w.heap.size,0,none⟩=some (.int .i64 (n:Int))/\W.cell? ⟨w.heap.size,1,none⟩=some (.int .i64 (k:Int))/\W.cell? ⟨w.heap.size+1,0,none⟩=some (.int .i64 t.1)/\W.cell? ⟨w.heap.size+1,1,none⟩=some (.int .i64 t.2)/\(Instr.lookup 140 (.map (some b)) (.agg #[.int .i64 t.1,.int .i64 t.2]) false).run prog W=.ok (.agg #[.int .i64 (sz:Int),.slice p6 ln c6]) W/\Below N.heap.size N W)) (first | assumption | exact h8.out _ (Below.refl _ _).drew) (first | (go_at_call 82;refine (o9.out _ (by assumption)).mono ?_;rintro e Y ⟨rfl,p0⟩))
      all_goals
       have k3:Below N.heap.size N Y:=p0.2.2.2.2.2
       have d9:=a5.out.T.below k3
       have t0:=d9.c0
       have t1:=d9.c1
       have b6:=d9.f0
       have b7:=d9.f1
       have a4:=(d9.eJ (.int .i64 t.1)).eM (.int .i64 t.2)
       have k0:=a4.c0
       have k1:=a4.c1
       have j5:Hid (Below w.heap.size w ((Y.setCell ⟨w.heap.size+1,0,none⟩ (.int .i64 t.1)).setCell ⟨w.heap.size+1,1,none⟩ (.int .i64 t.2))):=((f6.out Y (HB.out.trans (k3.mono (by have:=Qf a5.out.T.c0;omega)))).1.setCell (by show w.heap.size<=w.heap.size+1;omega) _).setCell (by show w.heap.size<=w.heap.size+1;omega) _
       clear k3 d9 a4 p0 h8 o9 r7 r5 r6
       go_wp2
       exact bodyPost_ret (v:=.tuple #[.agg #[.int .i64 t.1,.int .i64 t.2],.string dt,.bool true,.nilIface]) (by simp [results,results58,go_sem,k0,k1]) rfl ⟨⟨_,by rw [r4.out],Jd.nil _ _⟩,j5.out⟩
    ·intro I J cz cp cn k4 kl yd yp Y a6 p1 d8 hv p2 f9 p3 d4 s1 s2
     obtain ⟨p4,rfl,k6⟩:=a5.out.dX.entry h6.out p1 d8 hv p2
     dsimp only at k6
     have s3:w.heap.size+1 < K.heap.size:=o2.out
     have p5:=a5.out.grown d4 s3 r2 o1.out
     have k7:Below (w.heap.size+1) w4 Y:=HB.out.trans ⟨d4.os,d4.tape,d4.output,d4.size,fun j hj=>d4.block j (by have:=(ZL f8).1;omega) (fun e=>by injection e with e;omega)⟩
     obtain ⟨Q,e2⟩:∃ Q,Q=(Y.alloc (.cells #[.int .i64 I,.int .i64 J] 46)).alloc (.cells #[.int .i64 cz,.slice cp cn k4] 143):=⟨_,rfl⟩
     have g3:Below Y.heap.size Y Q:=by rw [e2];exact ((Below.refl _ _).alloc (Nat.le_refl _) _).alloc (by simp) _
     have x0:Q.cell? ⟨Y.heap.size,0,none⟩=some (.int .i64 I):=by rw [e2];simp
     have p7:Q.cell? ⟨Y.heap.size,1,none⟩=some (.int .i64 J):=by rw [e2];simp
     have y1:Q.cell? ⟨Y.heap.size+1,1,none⟩=some (.slice cp cn k4):=by rw [e2];simp
     have h9:Hid (Q=(Y.alloc (.cells #[.int .i64 I,.int .i64 J] 46)).alloc (.cells #[.int .i64 cz,.slice cp cn k4] 143)):=e2
     have d5:=p5.below g3
     have l0:Hid (fL Q w.heap.size n k (.slice p L.length U) t (w2.heap.size+1) b G D row dT):=d5
     have i0:Hid (Below (w.heap.size+1) w4 Q):=k7.trans (g3.mono (by have:=k7.size;have:=(ZL f9).1;omega))
     have p8:=rZ f9 (g3.block b (ZL f9).2) (g3.block K.heap.size (ZL f9).1)
     have b2:Hid (Q.ranges prog 46 YR b K.heap.size m D (fun z=>left z && !z.sameKey (YD (I,J))) a6):=p8
     have i1:Hid (a6 < f7):=p3
     have i2:Hid (N.ranges prog 46 YR b K.heap.size m D left f7):=f8
     have d2:Hid (∀ z,(left z && !z.sameKey (YD (I,J)))=true->Maps.has D z=true):=fun z hz=>h6.out z (by simp only [Bool.and_eq_true] at hz;exact hz.1)
     have p9:Hid (Jr (I,J)):=p4
     have l1:Hid (Xp n k G (I,J)↔k<=cn):=by show _↔_;unfold Xp;rw [k6]
     have b3:Hid (∀ W,Calls prog 81 #[.agg #[.int .i64 t.1,.int .i64 t.2],.agg #[.int .i64 I,.int .i64 J]] W fun e w'=>e=.returned (.bool (Qd t (I,J)))/\RowKit.Below W.heap.size W w'):=fun W=>N1 t (I,J) W
     have g1:=d5.c1
     have t0:=d5.T.c0
     have t1:=d5.T.c1
     have b6:=d5.T.f0
     have b7:=d5.T.f1
     have e3:Hid (∀ W,Below Q.heap.size Q W->(¬ k<=cn∨found=true/\Qd t (I,J)=false)->W.ranges prog 46 YR b K.heap.size m D (fun z=>left z && !z.sameKey (YD (I,J))) a6/\JV n k G (fun z=>left z && !z.sameKey (YD (I,J))) t found/\fL W w.heap.size n k (.slice p L.length U) t (w2.heap.size+1) b G D row dT/\Below (w.heap.size+1) w4 W):=fun W M s4 =>
      ⟨rZ b2.out (M.block b (ZL b2.out).2) (M.block K.heap.size (ZL b2.out).1),UO d3.out p9.out (by rcases s4 with h | h;exact Or.inl fun hg=>h (l1.out.1 hg);exact Or.inr h),l0.out.below M,i0.out.trans (M.mono (by have:=i0.out.size;have:=(ZL b2.out).1;omega))⟩
     have e4:Hid (∀ W,Below Q.heap.size Q W->k<=cn->(found=true->Qd t (I,J)=true)->((W.setCell ⟨w.heap.size+1,0,none⟩ (.int .i64 I)).setCell ⟨w.heap.size+1,1,none⟩ (.int .i64 J)).ranges prog 46 YR b K.heap.size m D (fun z=>left z && !z.sameKey (YD (I,J))) a6/\JV n k G (fun z=>left z && !z.sameKey (YD (I,J))) (I,J) true/\fL ((W.setCell ⟨w.heap.size+1,0,none⟩ (.int .i64 I)).setCell ⟨w.heap.size+1,1,none⟩ (.int .i64 J)) w.heap.size n k (.slice p L.length U) (I,J) (w2.heap.size+1) b G D row dT/\Below (w.heap.size+1) w4 ((W.setCell ⟨w.heap.size+1,0,none⟩ (.int .i64 I)).setCell ⟨w.heap.size+1,1,none⟩ (.int .i64 J))):=fun W M hk hp=>by
      have s5:=rZ b2.out (M.block b (ZL b2.out).2) (M.block K.heap.size (ZL b2.out).1)
      have l2:=l0.out.below M
      have s8:=l2.dX.aO
      have s9:=l2.hB
      have q0:b≠w.heap.size+1:=by omega
      have q5:K.heap.size≠w.heap.size+1:=by have:=o2.out;omega
      refine ⟨rZ s5 ?_ ?_,RH d3.out p9.out (l1.out.2 hk) hp,l2.set (I,J),?_⟩
      ·rw [Below.heap_setCell _ _ _ _ q0,Below.heap_setCell _ _ _ _ q0]
      ·rw [Below.heap_setCell _ _ _ _ q5,Below.heap_setCell _ _ _ _ q5]
      ·exact ((i0.out.trans (M.mono (by have:=i0.out.size;have:=(ZL b2.out).1;omega))).setCell (Nat.le_refl _) _).setCell (Nat.le_refl _) _
     clear p1 d8 hv p2 f9 p3 d4 s1 k6 p4 p5 k7 e2 g3 d5 p8 f8 h6 d3 a5 HB l0 l1
     unfold iO X7 at s2 ⊢
     by_cases g4:k<=cn
     ·have d1:decide (k<=cn)=true:=decide_eq_true g4
      cases found with
      | false =>
       have O:=e4.out Q (Below.refl _ _) g4 (fun h=>by cases h)
       clear e3 e4 b3
       go_wp2_with (first | rw [<- h9.out] | fail)
       exact ⟨⟨_,a6,(I,J),true,rfl,O.1,O.2.1,d2.out,O.2.2.1,O.2.2.2⟩,by rw [World.ranges.left_eq O.1,World.ranges.left_eq i2.out];exact i1.out⟩
      | true =>
       cases e5:Qd t (I,J) with
       | false =>
        rw [e5] at b3
        have g5:Hid (∀ W,Below Q.heap.size Q W->W.ranges prog 46 YR b K.heap.size m D (fun z=>left z && !z.sameKey (YD (I,J))) a6/\JV n k G (fun z=>left z && !z.sameKey (YD (I,J))) t true/\fL W w.heap.size n k (.slice p L.length U) t (w2.heap.size+1) b G D row dT/\Below (w.heap.size+1) w4 W):=fun W M=>e3.out W M (Or.inr ⟨rfl,e5⟩)
        clear e3 e4 e5
        go_wp2_with (first | rw [<- h9.out] | fail)
        refine (b3.out _).mono ?_
        rintro e w8 ⟨rfl,g6⟩
        have O:=g5.out w8 g6
        clear g5 b3 g6
        go_wp2
        exact ⟨⟨_,a6,t,true,rfl,O.1,O.2.1,d2.out,O.2.2.1,O.2.2.2⟩,by rw [World.ranges.left_eq O.1,World.ranges.left_eq i2.out];exact i1.out⟩
       | true =>
        rw [e5] at b3
        have g5:Hid (∀ W,Below Q.heap.size Q W->((W.cell? ⟨Y.heap.size,0,none⟩=some (.int .i64 I)/\W.cell? ⟨Y.heap.size,1,none⟩=some (.int .i64 J))/\YK W (w.heap.size+1) (.int .i64 t.1) (.int .i64 t.2))/\((W.setCell ⟨w.heap.size+1,0,none⟩ (.int .i64 I)).setCell ⟨w.heap.size+1,1,none⟩ (.int .i64 J)).ranges prog 46 YR b K.heap.size m D (fun z=>left z && !z.sameKey (YD (I,J))) a6/\JV n k G (fun z=>left z && !z.sameKey (YD (I,J))) (I,J) true/\fL ((W.setCell ⟨w.heap.size+1,0,none⟩ (.int .i64 I)).setCell ⟨w.heap.size+1,1,none⟩ (.int .i64 J)) w.heap.size n k (.slice p L.length U) (I,J) (w2.heap.size+1) b G D row dT/\Below (w.heap.size+1) w4 ((W.setCell ⟨w.heap.size+1,0,none⟩ (.int .i64 I)).setCell ⟨w.heap.size+1,1,none⟩ (.int .i64 J))):=fun W M=>⟨⟨⟨(M.cell (p:=⟨Y.heap.size,0,none⟩) (Qf x0)).trans x0,(M.cell (p:=⟨Y.heap.size,1,none⟩) (Qf x0)).trans p7⟩,YK.below ⟨t0,t1,b6,b7⟩ M⟩,e4.out W M g4 (fun _=>e5)⟩
        clear e3 e4 e5
        go_wp2_with (first | rw [<- h9.out] | fail)
        refine (b3.out _).mono ?_
        rintro e w8 ⟨rfl,g6⟩
        obtain ⟨⟨⟨z0,z1⟩,g7⟩,O⟩:=g5.out w8 g6
        clear t0 t1 b6 b7
        have t0:=g7.c0
        have t1:=g7.c1
        have b6:=g7.f0
        have b7:=g7.f1
        clear g5 b3 g6 g7 x0 p7 y1
        go_wp2
        exact ⟨⟨_,a6,(I,J),true,rfl,O.1,O.2.1,d2.out,O.2.2.1,O.2.2.2⟩,by rw [World.ranges.left_eq O.1,World.ranges.left_eq i2.out];exact i1.out⟩
     ·have d1:decide (k<=cn)=false:=decide_eq_false g4
      have O:=e3.out Q (Below.refl _ _) (Or.inl g4)
      clear e3 e4 b3
      go_wp2_with (first | rw [<- h9.out] | fail)
      exact ⟨⟨_,a6,t,found,rfl,O.1,O.2.1,d2.out,O.2.2.1,O.2.2.2⟩,by rw [World.ranges.left_eq O.1,World.ranges.left_eq i2.out];exact i1.out⟩
end
end Go.Proofs.YtmikbldbfnlfjaaGreatDoor

import Derived.Test.YtghpdhegfnhmkaaGreatDoorS5
import Derived.Test.YtghpdhegfnhmkaaGreatDoorS33
import Derived.Test.YtghpdhegfnhmkaaGreatDoorS0
import Derived.Test.YtghpdhegfnhmkaaGreatDoorS23
namespace Go.Proofs.YtghpdhegfnhmkaaGreatDoor
open Go.RowKit
set_option maxRecDepth 10000 in
theorem with1_any (g:Nat) (x y:Int) (t:ByteArray) (w:World) (hx:w.cell? ⟨g,3,none⟩=some (.int .i64 x)) :
 Calls Tryz.prog 114 (#[.agg #[.int .i64 y,.string t]] ++ #[.pointer (some ⟨g,0,none⟩)]) w fun e w2=>e=.returned (.bool (y==x))/\Below w.heap.size w w2:=by
 have hlt:=lt_of_cell hx
 go_enter Tryz.func114,Tryz.ntmps114
 go_wp2
 go_ret
 exact ⟨rfl,(Below.refl _ _).alloc (Nat.le_refl _) _⟩
def withZ (z:Int) (S:List (Int×ByteArray)) (v:Ver):Int:=if S=[] then v.size else z
def withS (z:Int) (S:List (Int×ByteArray)) (v:Ver):List (Int×ByteArray):=if v.size=withZ z S v/\S.any (fun y=>y.1==v.at_)=false then S ++ [(v.at_,v.text)] else S
theorem with_step {n k:Nat} {t:Int×Int} {S:Int×List (Int×ByteArray)} {v:Ver} (hS:S.1 < 0↔S.2=[]) (hy:v.n=t.1/\v.who=t.2/\canB n k v=true):shStep n k t S v=(withZ (sizeT S) S.2 v,withS (sizeT S) S.2 v):=by
 by_cases hz:S.1 < 0
 ·have e:S.2=[]:=hS.1 hz
  rw [shStep_yes (z:=v.size) hy (by rw [if_pos hz])]
  unfold withS withZ
  rw [e]
  simp
 ·have hne:S.2≠[]:=fun e=>hz (hS.2 e)
  rw [shStep_yes (z:=S.1) hy (by rw [if_neg hz])]
  unfold withS withZ sizeT
  rw [if_neg hne,if_neg hne]
structure TwoC (w:World) (b:Nat) (x y:Value):Prop where
 c0:w.cell? ⟨b,0,none⟩=some x
 c1:w.cell? ⟨b,1,none⟩=some y
 f0:w.frozen? ⟨b,0,none⟩=false
 f1:w.frozen? ⟨b,1,none⟩=false
theorem TwoC.below {w w':World} {b:Nat} {x y:Value} (h:TwoC w b x y) (hb:Below w.heap.size w w'):TwoC w' b x y :=
 have hlt:=lt_of_cell h.c0
 ⟨(hb.cell (p:=⟨b,0,none⟩) hlt).trans h.c0,(hb.cell (p:=⟨b,1,none⟩) hlt).trans h.c1,(hb.frozen (p:=⟨b,0,none⟩) hlt).trans h.f0,(hb.frozen (p:=⟨b,1,none⟩) hlt).trans h.f1⟩
theorem TwoC.grown {w w':World} {b:Nat} {x y:Value} {row:Option Nat} (h:TwoC w b x y) (hb:w.grownBy w' row) (hne:some b≠row):TwoC w' b x y :=
 have e:=hb.block b (lt_of_cell h.c0) hne
 ⟨(World.cell?_of_block (a:=⟨b,0,none⟩) e).trans h.c0,(World.cell?_of_block (a:=⟨b,1,none⟩) e).trans h.c1,(World.frozen?_of_block (a:=⟨b,0,none⟩) e).trans h.f0,(World.frozen?_of_block (a:=⟨b,1,none⟩) e).trans h.f1⟩
theorem TwoC.set0 {w:World} {b:Nat} {x y:Value} (h:TwoC w b x y) (v:Value):TwoC (w.setCell ⟨b,0,none⟩ v) b v y :=
 ⟨World.cell?_setCell_same _ _ _ h.c0,(World.cell?_setCell_other _ _ _ _ (fun e=>by have h2:(0:Nat)=1:=congrArg Addr.off e;omega)).trans h.c1,by simp [h.f0],by simp [h.f1]⟩
theorem TwoC.set1 {w:World} {b:Nat} {x y:Value} (h:TwoC w b x y) (v:Value):TwoC (w.setCell ⟨b,1,none⟩ v) b x v :=
 ⟨(World.cell?_setCell_other _ _ _ _ (fun e=>by have h2:(1:Nat)=0:=congrArg Addr.off e;omega)).trans h.c0,World.cell?_setCell_same _ _ _ h.c1,by simp [h.f0],by simp [h.f1]⟩
theorem TwoC.other {w:World} {b:Nat} {x y:Value} (h:TwoC w b x y) (a:Addr) (v:Value) (hne:b≠a.block):TwoC (w.setCell a v) b x y :=
 ⟨(World.cell?_setCell_other _ _ _ _ (fun e=>hne (congrArg Addr.block e).symm)).trans h.c0,(World.cell?_setCell_other _ _ _ _ (fun e=>hne (congrArg Addr.block e).symm)).trans h.c1,by simp [h.f0],by simp [h.f1]⟩
theorem wgrown_cell {w W:World} {row:Option Nat} (h:w.grownBy W row) (a:Addr) (v:Value) (ha:w.heap.size<=a.block):w.grownBy (W.setCell a v) row :=
 ⟨h.os,h.tape,h.output,by simp [World.setCell];exact h.size,fun k hk hne=>(Below.heap_setCell W a v k (by omega)).trans (h.block k hk hne)⟩
theorem own_set {w:World} {B:Nat} {T:TypeId} {row:Value} {n:Nat} {xs:List Value} (h:w.ownsRow B T 2 row n xs) (a:Addr) (v:Value) (ha:row.ownBlock≠some a.block):(w.setCell a v).ownsRow B T 2 row n xs :=
 World.ownsRow.kept (row:=some a.block) h ⟨rfl,rfl,rfl,by simp [World.setCell],fun k _ hne=>Below.heap_setCell w a v k (fun e=>hne (by rw [e]))⟩ (Or.inr ha)
theorem vals_snoc (l:List (Int×ByteArray)) (x:Int×ByteArray):shVals (l ++ [x])=shVals l ++ [.int .i64 x.1,.string x.2]:=by simp [shVals]
structure V3 (w:World) (b:Nat) (xs xa:Int) (xt:ByteArray):Prop where
 c2:w.cell? ⟨b,2,none⟩=some (.int .i64 xs)
 c3:w.cell? ⟨b,3,none⟩=some (.int .i64 xa)
 c4:w.cell? ⟨b,4,none⟩=some (.string xt)
theorem V3.block {w w':World} {b:Nat} {xs xa:Int} {xt:ByteArray} (h:V3 w b xs xa xt) (e:w'.heap[b]?=w.heap[b]?):V3 w' b xs xa xt :=
 ⟨(World.cell?_of_block (a:=⟨b,2,none⟩) e).trans h.c2,(World.cell?_of_block (a:=⟨b,3,none⟩) e).trans h.c3,(World.cell?_of_block (a:=⟨b,4,none⟩) e).trans h.c4⟩
theorem V3.below {w w':World} {b:Nat} {xs xa:Int} {xt:ByteArray} (h:V3 w b xs xa xt) (hb:Below w.heap.size w w'):V3 w' b xs xa xt:=h.block (hb.block b (lt_of_cell h.c2))
structure WAt (w W:World) (B:Nat) (p:Option Addr) (S:List (Int×ByteArray)) (c:Nat) (zv xs xa:Int) (xt:ByteArray):Prop where
 A:TwoC W w.heap.size (.int .i64 zv) (.slice p S.length c)
 V:V3 W (w.heap.size+1) xs xa xt
 R:TwoC W (w.heap.size+1+1) (.int .i64 0) (.slice none 0 0)
 own:W.ownsRow B 45 2 (.slice p S.length c) S.length (shVals S)
 g:Below w.heap.size w W
 sz:w.heap.size+1+1+1<=W.heap.size
theorem WAt.below {w W W':World} {B:Nat} {p:Option Addr} {S:List (Int×ByteArray)} {c:Nat} {zv xs xa:Int} {xt:ByteArray} (h:WAt w W B p S c zv xs xa xt) (hb:Below W.heap.size W W'):WAt w W' B p S c zv xs xa xt :=
 ⟨h.A.below hb,h.V.below hb,h.R.below hb,World.ownsRow.kept (row:=none) h.own (below_grown hb none) (by cases (Value.slice p S.length c).ownBlock <;> simp),h.g.trans (hb.mono h.g.size),Nat.le_trans h.sz hb.size⟩
theorem WAt.setz {w W:World} {B:Nat} {p:Option Addr} {S:List (Int×ByteArray)} {c:Nat} {zv xs xa:Int} {xt:ByteArray} (h:WAt w W B p S c zv xs xa xt) (hr:∀ g,(Value.slice p S.length c).ownBlock=some g->g < w.heap.size) (z':Int):WAt w (W.setCell ⟨w.heap.size,0,none⟩ (.int .i64 z')) B p S c z' xs xa xt :=
 ⟨h.A.set0 _,h.V.block (Below.heap_setCell W _ _ _ (by show w.heap.size+1≠w.heap.size;omega)),h.R.other _ _ (by show w.heap.size+1+1≠w.heap.size;omega),own_set h.own _ _ (fun e=>by have:=hr _ e;simp at this),h.g.setCell (Nat.le_refl _) _,by simpa [World.setCell] using h.sz⟩
def WithOk (B:Nat) (z:Int) (S:List (Int×ByteArray)) (v:Ver) (row:Value) (w:World) (e:Ending) (w':World):Prop :=
 ∃ row',e=.returned (.agg #[.int .i64 (withZ z S v),row'])/\w'.ownsRow B 45 2 row' (withS z S v).length (shVals (withS z S v))/\w.grownBy w' row.ownBlock/\(row'.ownBlock=row.ownBlock∨∃ g,row'.ownBlock=some g/\w.heap.size<=g)/\∃ p c,row'=.slice p (withS z S v).length c
set_option maxRecDepth 10000 in
set_option maxHeartbeats 8000000 in
theorem with_any (z:Int) (S:List (Int×ByteArray)) (row:Value) (v:Ver) (B:Nat) (w:World) (hl:S.length<=1000) (hown:w.ownsRow B 45 2 row S.length (shVals S)) (hB:B<=w.heap.size) :
 Calls Tryz.prog 103 #[.agg #[.int .i64 z,row],.agg #[.int .i64 v.n,.int .i64 v.who,.int .i64 v.size,.int .i64 v.at_,.string v.text]] w (WithOk B z S v row w):=by
 obtain ⟨i1,hi1,hy0,hy1,hy2⟩:=info_parts shinfo
 obtain ⟨p,c,rfl,hsh⟩:=shs_of_own hown
 have hrb:∀ g,(Value.slice p S.length c).ownBlock=some g->g < w.heap.size:=fun g hg=>(World.ownsRow.lt hown g hg).2
 obtain ⟨xn,xw,xs,xa,xt⟩:=v
 have hw0:∃ w3,w3=((w.alloc (.cells #[.int .i64 z,.slice p S.length c] 166)).alloc (.cells #[.int .i64 xn,.int .i64 xw,.int .i64 xs,.int .i64 xa,.string xt] 47)).alloc (.cells #[.int .i64 0,.slice none 0 0] 166)/\WAt w w3 B p S c z xs xa xt:=by
  obtain ⟨w1,hw1⟩:∃ w1,w1=w.alloc (.cells #[.int .i64 z,.slice p S.length c] 166):=⟨_,rfl⟩
  obtain ⟨w2,hw2⟩:∃ w2,w2=w1.alloc (.cells #[.int .i64 xn,.int .i64 xw,.int .i64 xs,.int .i64 xa,.string xt] 47):=⟨_,rfl⟩
  obtain ⟨w3,hw3⟩:∃ w3,w3=w2.alloc (.cells #[.int .i64 0,.slice none 0 0] 166):=⟨_,rfl⟩
  have e1:w1.heap.size=w.heap.size+1:=by rw [hw1];simp
  have e2:w2.heap.size=w.heap.size+1+1:=by rw [hw2,<- e1];simp
  have e3:w3.heap.size=w.heap.size+1+1+1:=by rw [hw3,<- e2];simp
  have hb1:Below w.heap.size w w1:=by rw [hw1];exact (Below.refl _ _).alloc (Nat.le_refl _) _
  have hb2:Below w1.heap.size w1 w2:=by rw [hw2];exact (Below.refl _ _).alloc (Nat.le_refl _) _
  have hb3:Below w2.heap.size w2 w3:=by rw [hw3];exact (Below.refl _ _).alloc (Nat.le_refl _) _
  have hb13:Below w1.heap.size w1 w3:=hb2.trans (hb3.mono hb2.size)
  have hb03:Below w.heap.size w w3:=hb1.trans (hb13.mono hb1.size)
  have hA1:TwoC w1 w.heap.size (.int .i64 z) (.slice p S.length c):=by
   rw [hw1]
   exact ⟨by rw [World.cell?_alloc_at _ _ _ _ rfl];rfl,by rw [World.cell?_alloc_at _ _ _ _ rfl];rfl,World.frozen?_alloc_at _ _ _ _ rfl,World.frozen?_alloc_at _ _ _ _ rfl⟩
  have hR:TwoC w3 (w.heap.size+1+1) (.int .i64 0) (.slice none 0 0):=by
   rw [hw3]
   exact ⟨by rw [World.cell?_alloc_at _ _ _ _ e2.symm];rfl,by rw [World.cell?_alloc_at _ _ _ _ e2.symm];rfl,World.frozen?_alloc_at _ _ _ _ e2.symm,World.frozen?_alloc_at _ _ _ _ e2.symm⟩
  have hV2:V3 w2 (w.heap.size+1) xs xa xt:=by
   rw [hw2]
   exact ⟨by rw [World.cell?_alloc_at _ _ _ _ e1.symm];rfl,by rw [World.cell?_alloc_at _ _ _ _ e1.symm];rfl,by rw [World.cell?_alloc_at _ _ _ _ e1.symm];rfl⟩
  exact ⟨w3,by rw [hw3,hw2,hw1],hA1.below hb13,hV2.below hb3,hR,World.ownsRow.kept (row:=none) hown (below_grown hb03 none) (by cases (Value.slice p S.length c).ownBlock <;> simp),hb03,by omega⟩
 obtain ⟨w3,hw3,hat⟩:=hw0
 have HW3:Hid (w3=((w.alloc (.cells #[.int .i64 z,.slice p S.length c] 166)).alloc (.cells #[.int .i64 xn,.int .i64 xw,.int .i64 xs,.int .i64 xa,.string xt] 47)).alloc (.cells #[.int .i64 0,.slice none 0 0] 166)):=hw3
 have HAT:Hid (WAt w w3 B p S c z xs xa xt):=hat
 have HRB:Hid (∀ g,(Value.slice p S.length c).ownBlock=some g->g < w.heap.size):=hrb
 have HCN:Hid (∀ W zv,WAt w W B p S c zv xs xa xt->Calls Tryz.prog 104 #[.slice p S.length c,.func (.func 114) #[] #[.pointer (some ⟨w.heap.size+1,0,none⟩)]] W fun e w'=>e=.returned (.bool (S.any fun y=>y.1==xa))/\Below W.heap.size W w'):=fun W zv hW=>by
  obtain ⟨p',c',hpc,hsh'⟩:=shs_of_own hW.own
  simp at hpc
  obtain ⟨rfl,rfl⟩:=hpc
  exact contains_any p S c 114 #[.pointer (some ⟨w.heap.size+1,0,none⟩)] (fun y=>y.1==xa) W (by omega) hsh' (enters_of Tryz.func114 (by kernel_rfl) rfl) (fun i hi w1 h1=>with1_any (w.heap.size+1) xa (shAt S i).1 (shAt S i).2 w1 (hW.V.below h1).c3)
 have HEND:Hid (∀ W zv,WAt w W B p S c zv xs xa xt->withZ z S ⟨xn,xw,xs,xa,xt⟩=zv->withS z S ⟨xn,xw,xs,xa,xt⟩=S->WithOk B z S ⟨xn,xw,xs,xa,xt⟩ (.slice p S.length c) w (.returned (.agg #[.int .i64 zv,.slice p S.length c])) ((W.setCell ⟨w.heap.size+1+1,0,none⟩ (.int .i64 zv)).setCell ⟨w.heap.size+1+1,1,none⟩ (.slice p S.length c))):=fun W zv hW hz hs=>by
  refine ⟨.slice p S.length c,by rw [hz],?_,?_,Or.inl rfl,p,c,by rw [hs]⟩
  ·rw [hs]
   exact own_set (own_set hW.own _ _ (fun e=>by have:w.heap.size+1+1 < w.heap.size:=HRB.out _ e;omega)) _ _ (fun e=>by have:w.heap.size+1+1 < w.heap.size:=HRB.out _ e;omega)
  ·exact wgrown_cell (wgrown_cell (below_grown hW.g _) _ _ (by show w.heap.size<=w.heap.size+1+1;omega)) _ _ (by show w.heap.size<=w.heap.size+1+1;omega)
 have HAPP:Hid (∀ W zv v6 w6,WAt w W B p S c zv xs xa xt->withZ z S ⟨xn,xw,xs,xa,xt⟩=zv->withS z S ⟨xn,xw,xs,xa,xt⟩=S ++ [(xa,xt)]->w6.ownsRow B 45 2 v6 (S.length+1) (shVals S ++ [.int .i64 xa,.string xt])->W.grownBy w6 (Value.slice p S.length c).ownBlock->(v6.ownBlock=(Value.slice p S.length c).ownBlock∨v6.ownBlock=some W.heap.size) ->
  (∃ p6 c6,v6=.slice p6 (S.length+1) c6)/\TwoC w6 w.heap.size (.int .i64 zv) (.slice p S.length c)/\TwoC w6 (w.heap.size+1+1) (.int .i64 0) (.slice none 0 0)/\WithOk B z S ⟨xn,xw,xs,xa,xt⟩ (.slice p S.length c) w (.returned (.agg #[.int .i64 zv,v6])) (((w6.setCell ⟨w.heap.size,1,none⟩ v6).setCell ⟨w.heap.size+1+1,0,none⟩ (.int .i64 zv)).setCell ⟨w.heap.size+1+1,1,none⟩ v6)):=fun W zv v6 w6 hW hz hs hO hg hloc=>by
  have hlen:(S ++ [(xa,xt)]).length=S.length+1:=by simp
  have hO':w6.ownsRow B 45 2 v6 (S ++ [(xa,xt)]).length (shVals (S ++ [(xa,xt)])):=by rw [vals_snoc,hlen];exact hO
  obtain ⟨p6,c6,hv6,_⟩:=shs_of_own hO'
  have hnA:some w.heap.size≠(Value.slice p S.length c).ownBlock:=fun e=>by have:=HRB.out _ e.symm;omega
  have hnR:some (w.heap.size+1+1)≠(Value.slice p S.length c).ownBlock:=fun e=>by have:=HRB.out _ e.symm;omega
  have hsz:=hW.sz
  have hv:∀ q,q=w.heap.size∨q=w.heap.size+1+1->v6.ownBlock≠some q:=fun q hq e=>by
   rcases hloc with h | h
   ·rw [h] at e
    have:=HRB.out _ e
    omega
   ·rw [h] at e
    injection e with e
    omega
  refine ⟨⟨p6,c6,by rw [hv6,hlen]⟩,hW.A.grown hg hnA,hW.R.grown hg hnR,v6,by rw [hz],?_,?_,?_,p6,c6,by rw [hs];exact hv6⟩
  ·rw [hs]
   exact own_set (own_set (own_set hO' _ _ (hv _ (Or.inl rfl))) _ _ (hv _ (Or.inr rfl))) _ _ (hv _ (Or.inr rfl))
  ·have hwg:w.grownBy w6 (Value.slice p S.length c).ownBlock:=⟨hg.os.trans hW.g.os,hg.tape.trans hW.g.tape,hg.output.trans hW.g.output,Nat.le_trans hW.g.size hg.size,fun k hk hne=>(hg.block k (Nat.lt_of_lt_of_le hk hW.g.size) hne).trans (hW.g.block k hk)⟩
   exact wgrown_cell (wgrown_cell (wgrown_cell hwg _ _ (Nat.le_refl _)) _ _ (by show w.heap.size<=w.heap.size+1+1;omega)) _ _ (by show w.heap.size<=w.heap.size+1+1;omega)
  ·rcases hloc with h | h
   ·exact Or.inl h
   ·exact Or.inr ⟨_,h,by omega⟩
 have hHB:B<=w.heap.size:=hB
 clear hw3 hat hsh hown hrb hB
 have a0:=HAT.out.A.c0
 have a1:=HAT.out.A.c1
 have af0:=HAT.out.A.f0
 have v2:=HAT.out.V.c2
 by_cases hS:S=[]
 ·have HZ:Hid (withZ z S ⟨xn,xw,xs,xa,xt⟩=xs):=by show withZ _ _ _=_;unfold withZ;rw [if_pos hS]
  have HY:Hid (withS z S ⟨xn,xw,xs,xa,xt⟩=S ++ [(xa,xt)]):=by
   show withS _ _ _=_
   unfold withS
   rw [HZ.out,if_pos ⟨rfl,by rw [hS];rfl⟩]
  have HN:Hid (S.any (fun y=>y.1==xa)=false):=by show _=_;rw [hS];rfl
  rw [HN.out] at HCN
  have hl0:(S.length:Int)=0:=by rw [hS];rfl
  have b0:((S.length:Int)==0)=true:=by rw [hl0];rfl
  have HAT':Hid (WAt w (w3.setCell ⟨w.heap.size,0,none⟩ (.int .i64 xs)) B p S c xs xs xa xt):=HAT.out.setz HRB.out xs
  have HCN':=HCN.out _ _ HAT'.out
  obtain ⟨w4,hw4⟩:∃ w4,w4=w3.setCell ⟨w.heap.size,0,none⟩ (.int .i64 xs):=⟨_,rfl⟩
  rw [<- hw4] at HCN' HAT'
  have HW4:Hid (w4=w3.setCell ⟨w.heap.size,0,none⟩ (.int .i64 xs)):=hw4
  have d1:=HAT'.out.A.c1
  clear hw4 hS hl0 HN
  go_enter Tryz.func103,Tryz.ntmps103
  go_wp2_with (first | rw [<- HW3.out] | rw [<- HW4.out])
  refine HCN'.mono ?_
  rintro e w5 ⟨rfl,hb5⟩
  have hat5:=HAT'.out.below hb5
  clear a0 a1 af0 v2 d1 hb5 HCN' HCN HAT HAT' HW3 HW4 HEND
  have a0:=hat5.A.c0
  have a1:=hat5.A.c1
  have v2:=hat5.V.c2
  have v3:=hat5.V.c3
  have v4:=hat5.V.c4
  obtain ⟨w6,hw6⟩:∃ w6,w6=w5.alloc (.cells #[.int .i64 xa,.string xt] 45):=⟨_,rfl⟩
  have HAT6:Hid (WAt w w6 B p S c xs xs xa xt):=by show WAt _ _ _ _ _ _ _ _ _ _;rw [hw6];exact hat5.below ((Below.refl _ _).alloc (Nat.le_refl _) _)
  have HN6:Hid (∀ (j:Nat) (u:Value),[Value.int .i64 xa,Value.string xt][j]?=some u->w6.cell? ((⟨w5.heap.size,0,none⟩:Addr).add j)=some u):=fun j u hj=>by
   rw [hw6,Addr.add_lit]
   match j,hj with
   | 0,hj=>(simp at hj;subst hj;rw [World.cell?_alloc_at _ _ _ _ rfl];rfl)
   | 1,hj=>(simp at hj;subst hj;rw [World.cell?_alloc_at _ _ _ _ rfl];rfl)
  have HB6:Hid (B<=w6.heap.size):=Nat.le_trans hHB HAT6.out.g.size
  have HW6:Hid (w6=w5.alloc (.cells #[.int .i64 xa,.string xt] 45)):=hw6
  have HO6:Hid (w6.ownsRow B 45 2 (.slice p S.length c) S.length (shVals S)):=HAT6.out.own
  clear hw6 hat5
  go_wp2_with (first | rw [<- HW6.out] | (at_builtin;refine wpList_append_at rfl (.tmp 27) (.tmp 30) 32 rfl B 45 i1 (.agg #[.int .i64 0,.string ⟨#[]⟩]) 2 24 Tryz.underlying32 hi1 hy0 hy1 hy2 rfl (by decide) (.slice p S.length c) S.length (shVals S) rfl HO6.out ⟨w5.heap.size,0,none⟩ 1 1 [.int .i64 xa,.string xt] rfl rfl HN6.out (fun u hu=>by simp at hu;rcases hu with rfl | rfl <;> rfl) (by unfold maxLen;omega) (by omega) HB6.out (by decide) ?_;intro v7 w7 hO7 hg7 hl7;obtain ⟨⟨p7,c7,hv7⟩,hA7,hR7,hE7⟩:=HAPP.out w6 xs v7 w7 HAT6.out HZ.out HY.out hO7 hg7 hl7;subst hv7;have HE7:Hid (WithOk B z S ⟨xn,xw,xs,xa,xt⟩ (.slice p S.length c) w (.returned (.agg #[.int .i64 xs,.slice p7 (S.length+1) c7])) (((w7.setCell ⟨w.heap.size,1,none⟩ (.slice p7 (S.length+1) c7)).setCell ⟨w.heap.size+1+1,0,none⟩ (.int .i64 xs)).setCell ⟨w.heap.size+1+1,1,none⟩ (.slice p7 (S.length+1) c7))):=hE7;have hA8:=hA7.set1 (.slice p7 (S.length+1) c7);have hR8:=hR7.other ⟨w.heap.size,1,none⟩ (.slice p7 (S.length+1) c7) (by show w.heap.size+1+1≠w.heap.size;omega);have hR9:=(hR8.set0 (.int .i64 xs)).set1 (.slice p7 (S.length+1) c7);have a0:=hA7.c0;have a1:=hA7.c1;have af1:=hA7.f1;have m0:=hA8.c0;have m1:=hA8.c1;have r0:=hR8.c0;have r1:=hR8.c1;have rf0:=hR8.f0;have rf1:=hR8.f1;have k0:=hR9.c0;have k1:=hR9.c1;clear hO7 hg7 hl7 hA7 hR7 hE7 hA8 hR8 hR9))
  exact bodyPost_ret (v:=.agg #[.int .i64 xs,.slice p7 (S.length+1) c7]) (by simp [results,Tryz.results103,go_sem,k0,k1]) rfl HE7.out
 ·have HZ:Hid (withZ z S ⟨xn,xw,xs,xa,xt⟩=z):=by show withZ _ _ _=_;unfold withZ;rw [if_neg hS]
  have hl0:¬ (S.length:Int)=0:=fun h=>hS (List.length_eq_zero_iff.1 (by omega))
  have b0:((S.length:Int)==0)=false:=by rw [beq_eq_false_iff_ne];exact hl0
  have HCN':=HCN.out _ _ HAT.out
  have HYD:Hid (withS z S ⟨xn,xw,xs,xa,xt⟩=if xs=z/\S.any (fun y=>y.1==xa)=false then S ++ [(xa,xt)] else S):=by show withS _ _ _=_;unfold withS;rw [HZ.out]
  clear hS HCN
  generalize (S.any fun y=>y.1==xa)=th at *
  cases th with
  | true =>
   have HY:Hid (withS z S ⟨xn,xw,xs,xa,xt⟩=S):=by show withS _ _ _=_;rw [HYD.out,if_neg (fun h=>by cases h.2)]
   clear HYD HAPP
   go_enter Tryz.func103,Tryz.ntmps103
   go_wp2_with (rw [<- HW3.out])
   refine HCN'.mono ?_
   rintro e w5 ⟨rfl,hb5⟩
   have hat5:=HAT.out.below hb5
   clear a0 a1 af0 v2 hb5 HCN' HAT HW3
   have HE7:=HEND.out w5 z hat5 HZ.out HY.out
   have hR9:=(hat5.R.set0 (.int .i64 z)).set1 (.slice p S.length c)
   have a0:=hat5.A.c0
   have a1:=hat5.A.c1
   have r0:=hat5.R.c0
   have r1:=hat5.R.c1
   have rf0:=hat5.R.f0
   have rf1:=hat5.R.f1
   have k0:=hR9.c0
   have k1:=hR9.c1
   have HE8:Hid (WithOk B z S ⟨xn,xw,xs,xa,xt⟩ (.slice p S.length c) w (.returned (.agg #[.int .i64 z,.slice p S.length c])) ((w5.setCell ⟨w.heap.size+1+1,0,none⟩ (.int .i64 z)).setCell ⟨w.heap.size+1+1,1,none⟩ (.slice p S.length c))):=HE7
   clear hat5 hR9 HE7 HEND
   go_wp2
   exact bodyPost_ret (v:=.agg #[.int .i64 z,.slice p S.length c]) (by simp [results,Tryz.results103,go_sem,k0,k1]) rfl HE8.out
  | false =>
   by_cases hxz:xs=z
   ·have HY:Hid (withS z S ⟨xn,xw,xs,xa,xt⟩=S ++ [(xa,xt)]):=by show withS _ _ _=_;rw [HYD.out,if_pos ⟨hxz,rfl⟩]
    clear HYD HEND
    subst hxz
    have b1:(xs==xs)=true:=beq_self_eq_true xs
    go_enter Tryz.func103,Tryz.ntmps103
    go_wp2_with (rw [<- HW3.out])
    refine HCN'.mono ?_
    rintro e w5 ⟨rfl,hb5⟩
    have hat5:=HAT.out.below hb5
    clear a0 a1 af0 v2 hb5 HCN' HAT HW3
    have a0:=hat5.A.c0
    have a1:=hat5.A.c1
    have v2:=hat5.V.c2
    have v3:=hat5.V.c3
    have v4:=hat5.V.c4
    obtain ⟨w6,hw6⟩:∃ w6,w6=w5.alloc (.cells #[.int .i64 xa,.string xt] 45):=⟨_,rfl⟩
    have HAT6:Hid (WAt w w6 B p S c xs xs xa xt):=by show WAt _ _ _ _ _ _ _ _ _ _;rw [hw6];exact hat5.below ((Below.refl _ _).alloc (Nat.le_refl _) _)
    have HN6:Hid (∀ (j:Nat) (u:Value),[Value.int .i64 xa,Value.string xt][j]?=some u->w6.cell? ((⟨w5.heap.size,0,none⟩:Addr).add j)=some u):=fun j u hj=>by
     rw [hw6,Addr.add_lit]
     match j,hj with
     | 0,hj=>(simp at hj;subst hj;rw [World.cell?_alloc_at _ _ _ _ rfl];rfl)
     | 1,hj=>(simp at hj;subst hj;rw [World.cell?_alloc_at _ _ _ _ rfl];rfl)
    have HB6:Hid (B<=w6.heap.size):=Nat.le_trans hHB HAT6.out.g.size
    have HW6:Hid (w6=w5.alloc (.cells #[.int .i64 xa,.string xt] 45)):=hw6
    have HO6:Hid (w6.ownsRow B 45 2 (.slice p S.length c) S.length (shVals S)):=HAT6.out.own
    clear hw6 hat5
    go_wp2_with (first | rw [<- HW6.out] | (at_builtin;refine wpList_append_at rfl (.tmp 27) (.tmp 30) 32 rfl B 45 i1 (.agg #[.int .i64 0,.string ⟨#[]⟩]) 2 24 Tryz.underlying32 hi1 hy0 hy1 hy2 rfl (by decide) (.slice p S.length c) S.length (shVals S) rfl HO6.out ⟨w5.heap.size,0,none⟩ 1 1 [.int .i64 xa,.string xt] rfl rfl HN6.out (fun u hu=>by simp at hu;rcases hu with rfl | rfl <;> rfl) (by unfold maxLen;omega) (by omega) HB6.out (by decide) ?_;intro v7 w7 hO7 hg7 hl7;obtain ⟨⟨p7,c7,hv7⟩,hA7,hR7,hE7⟩:=HAPP.out w6 xs v7 w7 HAT6.out HZ.out HY.out hO7 hg7 hl7;subst hv7;have HE7:Hid (WithOk B xs S ⟨xn,xw,xs,xa,xt⟩ (.slice p S.length c) w (.returned (.agg #[.int .i64 xs,.slice p7 (S.length+1) c7])) (((w7.setCell ⟨w.heap.size,1,none⟩ (.slice p7 (S.length+1) c7)).setCell ⟨w.heap.size+1+1,0,none⟩ (.int .i64 xs)).setCell ⟨w.heap.size+1+1,1,none⟩ (.slice p7 (S.length+1) c7))):=hE7;have hA8:=hA7.set1 (.slice p7 (S.length+1) c7);have hR8:=hR7.other ⟨w.heap.size,1,none⟩ (.slice p7 (S.length+1) c7) (by show w.heap.size+1+1≠w.heap.size;omega);have hR9:=(hR8.set0 (.int .i64 xs)).set1 (.slice p7 (S.length+1) c7);have a0:=hA7.c0;have a1:=hA7.c1;have af1:=hA7.f1;have m0:=hA8.c0;have m1:=hA8.c1;have r0:=hR8.c0;have r1:=hR8.c1;have rf0:=hR8.f0;have rf1:=hR8.f1;have k0:=hR9.c0;have k1:=hR9.c1;clear hO7 hg7 hl7 hA7 hR7 hE7 hA8 hR8 hR9))
    exact bodyPost_ret (v:=.agg #[.int .i64 xs,.slice p7 (S.length+1) c7]) (by simp [results,Tryz.results103,go_sem,k0,k1]) rfl HE7.out
   ·have HY:Hid (withS z S ⟨xn,xw,xs,xa,xt⟩=S):=by show withS _ _ _=_;rw [HYD.out,if_neg (fun h=>hxz h.1)]
    have b1:(xs==z)=false:=by rw [beq_eq_false_iff_ne];exact hxz
    clear HYD HAPP
    go_enter Tryz.func103,Tryz.ntmps103
    go_wp2_with (rw [<- HW3.out])
    refine HCN'.mono ?_
    rintro e w5 ⟨rfl,hb5⟩
    have hat5:=HAT.out.below hb5
    clear a0 a1 af0 v2 hb5 HCN' HAT HW3
    have HE7:=HEND.out w5 z hat5 HZ.out HY.out
    have hR9:=(hat5.R.set0 (.int .i64 z)).set1 (.slice p S.length c)
    have a0:=hat5.A.c0
    have a1:=hat5.A.c1
    have v2:=hat5.V.c2
    have r0:=hat5.R.c0
    have r1:=hat5.R.c1
    have rf0:=hat5.R.f0
    have rf1:=hat5.R.f1
    have k0:=hR9.c0
    have k1:=hR9.c1
    have HE8:Hid (WithOk B z S ⟨xn,xw,xs,xa,xt⟩ (.slice p S.length c) w (.returned (.agg #[.int .i64 z,.slice p S.length c])) ((w5.setCell ⟨w.heap.size+1+1,0,none⟩ (.int .i64 z)).setCell ⟨w.heap.size+1+1,1,none⟩ (.slice p S.length c))):=HE7
    clear hat5 hR9 HE7 HEND
    go_wp2
    exact bodyPost_ret (v:=.agg #[.int .i64 z,.slice p S.length c]) (by simp [results,Tryz.results103,go_sem,k0,k1]) rfl HE8.out
end Go.Proofs.YtghpdhegfnhmkaaGreatDoor

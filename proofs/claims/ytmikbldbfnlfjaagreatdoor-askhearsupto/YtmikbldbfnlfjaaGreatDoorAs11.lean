/- Texts laid together. -/
import Derived.Test.YtmikbldbfnlfjaaGreatDoorAs10
import Derived.Deep.RegionLaw
import Derived.Deep.RegionHeld3
set_option maxRecDepth 10000
set_option maxHeartbeats 16000000
namespace Go.Proofs.YtmikbldbfnlfjaaGreatDoor
open Go.Proofs.Tryz
open Go.RowKit
variable {y v:Value}{x:Zb×Lv}{o:Oper}{w J w':World}{K:Act->World->Prop}{a:Act}{Q:Exit->Act->World->Prop}{α:Type}{E':Prop}{T:TypeId}{B:Nat}{j:List (Zb×Lv)}
theorem IV (a:Za):a.bR.next=a.next:=by
 unfold Za.bR
 split <;> rfl
theorem uQ {a:Za} {m:Zb} (h:a.aM m=true) (j:a.st=.sealing):a.aD m=fU (a.heard m):=by
 unfold Za.aD fU
 have e:(a.heard m).c=a.c:=rfl
 rw [if_neg (by rw [h];decide),if_neg (fun y=>y.2 j),e]
 split
 ·rfl
 ·rw [if_neg (by rw [j];decide)]
section
variable {w w1 w3:World} {B:Nat} {S:Nat->Prop} {ab:Nat} {a:Za} {mv nv fv lv:Value} {vs:List Value}
theorem Xh.from (h:Xh w B S ab a mv nv fv lv vs) {x:ByteArray} (Y:Zq w1 B y (a.from_ ++ [x])) (K:w.grownBy w1 fv.ownBlock) (M:y.ownBlock=fv.ownBlock∨y.ownBlock=some w.heap.size) :
 Xh (w1.setCell ⟨ab,14,none⟩ y) B (fun k=>S k∨y.ownBlock=some k) ab { a with from_:=a.from_ ++ [x] } mv nv y lv vs/\Yd S (fun k=>S k∨y.ownBlock=some k) w (w1.setCell ⟨ab,14,none⟩ y):=by
 have U:=h.aO ab h.self
 have hz:=K.size
 have Z:∀ k,fv.ownBlock=some k->B<=k:=fun k j=>(h.aO k (h.sF k j).1).1
 have a0:Below B w w1:=(Below.refl _ _).grown K h.vP Z
 have D:Below B w (w1.setCell ⟨ab,14,none⟩ y):=a0.setCell U.1 _
 have a1:some ab≠fv.ownBlock:=fun e=>(h.sF ab e.symm).2 rfl
 have a2:w1.heap[ab]?=w.heap[ab]?:=K.block ab U.2 a1
 have W:∀ k,y.ownBlock=some k->k≠ab:=fun k j=>by
  rcases M with e | e
  ·exact (h.sF k (by rw [<- e];exact j)).2
  ·rw [e] at j;have:=Option.some.inj j;omega
 have N:∀ k,k < w.heap.size->k≠ab->fv.ownBlock≠some k->(w1.setCell ⟨ab,14,none⟩ y).heap[k]?=w.heap[k]?:=fun k j G I=>(Below.heap_setCell w1 _ _ k G).trans (K.block k j (fun e=>I e.symm))
 refine ⟨⟨(O1 (a2.trans h.dT) 14 y).trans rfl,h.mem.eK D,h.rD.eK D,O3 Y fun k j=>Below.heap_setCell w1 _ _ k (W k j),?_,Or.inl h.self,fun k j=>⟨Or.inr j,W k j⟩,fun k j=>?_,fun v J k j=>?_,fun k j=>?_⟩,⟨D.os,D.tape,D.output,D.size,fun k j X=>?_,fun k j=>?_⟩⟩
 ·exact O6 h.told D.size (fun k j=>N k (h.aO k (h.sL k j).1).2 (h.sL k j).2.1 (h.sL k j).2.2) (fun v J k j=>N k (h.aO k (h.sV v J k j).1).2 (h.sV v J k j).2.1 (h.sV v J k j).2.2)
 ·obtain ⟨G,I,O⟩:=h.sL k j
  refine ⟨Or.inl G,I,?_⟩
  rcases M with e | e
  ·rw [e];exact O
  ·rw [e];intro Q;have:=Option.some.inj Q;have:=(h.aO k G).2;omega
 ·obtain ⟨G,I,O⟩:=h.sV v J k j
  refine ⟨Or.inl G,I,?_⟩
  rcases M with e | e
  ·rw [e];exact O
  ·rw [e];intro Q;have:=Option.some.inj Q;have:=(h.aO k G).2;omega
 ·rcases j with j | j
  ·have:=h.aO k j;exact ⟨this.1,Nat.lt_of_lt_of_le this.2 D.size⟩
  ·have:=Y.block j
   exact ⟨this.1,by have e:(w1.setCell ⟨ab,14,none⟩ y).heap.size=w1.heap.size:=(by simp [World.setCell]);omega⟩
 ·exact N k j (fun e=>X (by rw [e];exact h.self)) (fun e=>X (h.sF k e).1)
 ·rcases j with j | j
  ·exact Or.inl j
  ·rcases M with e | e
   ·exact Or.inl (h.sF k (by rw [<- e];exact j)).1
   ·rw [e] at j;have:=Option.some.inj j;exact Or.inr (by omega)
theorem Xh.list (h:Xh w B S ab a mv nv fv lv vs) {r:Value} {row:List Yb} {E:TypeId} {o:Obj} (Z:Zc Ze E w1 w.heap.size r row) (I:Below w.heap.size w w1) (hv:JM w3 B 55 y (vs ++ [r])) (J:(w1.alloc o).grownBy w3 lv.ownBlock) (N:y.ownBlock=lv.ownBlock∨y.ownBlock=some (w1.alloc o).heap.size) :
 Xh (w3.setCell ⟨ab,15,none⟩ y) B (fun k=>S k∨y.ownBlock=some k∨r.ownBlock=some k) ab { a with L:=a.L ++ [row] } mv nv fv y (vs ++ [r])/\Yd S (fun k=>S k∨y.ownBlock=some k∨r.ownBlock=some k) w (w3.setCell ⟨ab,15,none⟩ y):=by
 have Q:=h.aO ab h.self
 have hz:=I.size
 have K:(w1.alloc o).heap.size=w1.heap.size+1:=by simp
 have a4:=J.size
 have U:(w3.setCell ⟨ab,15,none⟩ y).heap.size=w3.heap.size:=by simp [World.setCell]
 have hT:=xL.snoc h.told h.vP Z I hv J N
 have a0:∀ k,lv.ownBlock=some k->B<=k:=fun k j=>(h.aO k (h.sL k j).1).1
 have a1:Below B w (w1.alloc o):=(I.mono h.vP).alloc (Nat.le_trans h.vP hz) _
 have a2:Below B w w3:=a1.trans ((Below.refl _ _).grown J (by rw [K];have:=h.vP;omega) a0)
 have G:Below B w (w3.setCell ⟨ab,15,none⟩ y):=a2.setCell Q.1 _
 have M:∀ k,r.ownBlock=some k->w.heap.size<=k/\k < w1.heap.size:=fun k j=>Z.block j
 have W:∀ k,y.ownBlock=some k->k≠ab:=fun k j=>by
  rcases N with e | e
  ·exact (h.sL k (by rw [<- e];exact j)).2.1
  ·rw [e,K] at j;have:=Option.some.inj j;omega
 have X:∀ k,k < w.heap.size->k≠ab->lv.ownBlock≠some k->(w3.setCell ⟨ab,15,none⟩ y).heap[k]?=w.heap[k]?:=fun k j h1 h2=>(Below.heap_setCell w3 _ _ k h1).trans ((J.block k (by omega) (fun e=>h2 e.symm)).trans ((Below.heap_alloc w1 o k (by omega)).trans (I.block k j)))
 have a3:w3.heap[ab]?=w.heap[ab]?:=(J.block ab (by omega) (fun e=>(h.sL ab e.symm).2.1 rfl)).trans ((Below.heap_alloc w1 o ab (by omega)).trans (I.block ab Q.2))
 refine ⟨⟨(O1 (a3.trans h.dT) 15 y).trans rfl,h.mem.eK G,h.rD.eK G,O3 h.from_ fun k j=>X k (h.aO k (h.sF k j).1).2 (h.sF k j).2 (fun e=>(h.sL k e).2.2 j),?_,Or.inl h.self,fun k j=>⟨Or.inl (h.sF k j).1,(h.sF k j).2⟩,fun k j=>?_,fun v D k j=>?_,fun k j=>?_⟩,⟨G.os,G.tape,G.output,G.size,fun k j Y=>?_,fun k j=>?_⟩⟩
 ·refine O6 hT (Nat.le_of_eq U.symm) (fun k j=>Below.heap_setCell w3 _ _ k (W k j)) (fun v D k j=>Below.heap_setCell w3 _ _ k ?_)
  rcases List.mem_append.1 D with D | D
  ·exact (h.sV v D k j).2.1
  ·rw [List.mem_singleton.1 D] at j;have:=(M k j).1;show k≠ab;omega
 ·refine ⟨Or.inr (Or.inl j),W k j,fun e=>?_⟩
  rcases N with O | O
  ·exact (h.sL k (by rw [<- O];exact j)).2.2 e
  ·rw [O,K] at j;have:=Option.some.inj j;have:=(h.aO k (h.sF k e).1).2;omega
 ·rcases List.mem_append.1 D with D | D
  ·exact ⟨Or.inl (h.sV v D k j).1,(h.sV v D k j).2⟩
  ·rw [List.mem_singleton.1 D] at j
   have:=(M k j).1
   exact ⟨Or.inr (Or.inr j),by omega,fun e=>by have:=(h.aO k (h.sF k e).1).2;omega⟩
 ·rw [U]
  rcases j with j | j | j
  ·have:=h.aO k j;exact ⟨this.1,by omega⟩
  ·have:=hv.block j;exact this
  ·have:=M k j;have:=h.vP;exact ⟨by omega,by omega⟩
 ·exact X k j (fun e=>Y (by rw [e];exact h.self)) (fun e=>Y (h.sL k e).1)
 ·rcases j with j | j | j
  ·exact Or.inl j
  ·rcases N with e | e
   ·exact Or.inl (h.sL k (by rw [<- e];exact j)).1
   ·rw [e,K] at j;have:=Option.some.inj j;exact Or.inr (by omega)
  ·exact Or.inr (M k j).1
end
theorem Yd.trans {S S1 I:Nat->Prop} {K:World} (j:Yd S S1 w J) (y:Yd S1 I J K):Yd S I w K :=
 ⟨y.os.trans j.os,y.tape.trans j.tape,y.output.trans j.output,Nat.le_trans j.size y.size,fun k D G=>(y.block k (Nat.lt_of_lt_of_le D j.size) (fun h=>(j.new k h).elim G (by omega))).trans (j.block k D G),fun k D=>(y.new k D).elim (j.new k) (fun h=>Or.inr (Nat.le_trans j.size h))⟩
theorem Jy {P:Program} {J:Array Oper}   {E:Prop}
 (hg:o.guard=none) (s x:Operand) (t:TypeId) (a1:o.op=Op.call { callee:=Callee.builtin Builtin.append,args:=#[s,x],argTypes:=#[t,t] })
 (B:Nat) (e:TypeId) (i:TypeInfo) (z:Value) (bytes:Nat) (M:P.underlying t=some (.slice e)) (N:P.info? e=some i) (O:i.zero=some z) (a2:z.cells.size=1) (U:i.size=1) (W:i.bytes=bytes) (X:bytes<=64)
 (v:Value) (l:List Value) (hs:a.eval s=v) (Y:JM w B e v l) (ad:Addr) (c:Nat) (u:Value) (Z:u.oneCell'=true) (G:a.eval x=.slice (some ad) 1 c) (hb:w.cell? ad=some u) (hl:l.length+1<=1000000) (a3:B<=w.heap.size)
 (hK:∀ y w',JM w' B e y (l ++ [u])->w.grownBy w' v.ownBlock->(y.ownBlock=v.ownBlock∨y.ownBlock=some w.heap.size)->K (a.put o.dst y) w') :
 if Region.wanted o (yielded J a.tmps)=true then Oper.wp P o a w K Q else E:=by
 have hw:Region.wanted o (yielded J a.tmps)=true:=by simp [Region.wanted,hg]
 rw [if_pos hw]
 have a0:∀ j x,[u][j]?=some x->w.cell? (ad.add j)=some x:=by
  intro j x D
  match j,D with
  | 0,D =>
   obtain rfl:u=x:=by simpa using D
   simpa [Addr.add] using hb
 have a4:(l.length+1)*bytes<=1000000*64:=Nat.mul_le_mul hl X
 obtain ⟨y,w',I,h2,h3,_⟩:=run_append_own (P:=P) w B t o.type e i z 1 bytes M N O U W a2 (by decide) v l.length l Y ad 1 c [u] rfl a0 (fun x G=>by rw [List.mem_singleton.1 G];exact Z) (by unfold maxLen;omega) (by omega) a3
 have h4:=Jgr B t o.type e i z bytes M N O U W X v l Y ad c u Z hb hl I
 have h5:JM w' B e y (l ++ [u]):=by
  unfold JM
  rw [List.length_append]
  exact h2
 unfold Oper.wp
 simp [execOp,a1,resolve,invoke,builtin,hs,G,I,Result.andThen]
 exact hK y w' h5 h3 h4
theorem Jai {E:eW α} {M:Array Oper}   
 (a4:o.guard=none) (s x:Operand) (t T:TypeId) (N:o.op=.call { callee:=.builtin .append,args:=#[s,x],argTypes:=#[t,t] }) (z:Value) (bytes:Nat) (O:prog.underlying t=some (.slice T))
 (a5:(prog.info? T).map (fun i=>(i.zero,i.size,i.bytes))=some (some z,E.k,bytes)) (a6:z.cells.size=E.k)
 (B:Nat) (v:Value) (l:List α) (U:a.eval s=v) (D:Zc E T w B v l) (q:Option Addr) (r:List α) (c:Nat) (W:a.eval x=.slice q r.length c) (hq:Ql E w q r) (a7:q=none->r=[]/\c=0) (hl:l.length+r.length<=maxLen) (a8:(l.length+r.length)*bytes<=140737488355328) (X:B<=w.heap.size)
 (h:∀ y w',Zc E T w' B y (l ++ r)->Below B w w'->K (a.put o.dst y) w') :
 if Region.wanted o (yielded M a.tmps)=true then Oper.wp prog o a w K Q else E':=by
 have Y:Region.wanted o (yielded M a.tmps)=true:=by simp [Region.wanted,a4]
 rw [if_pos Y]
 obtain ⟨I,J,Z,a0,a1⟩:=info_parts a5
 cases q with
 | none =>
  obtain ⟨hr,hc⟩:=a7 rfl
  subst hr hc
  have a2:a.eval x=.slice none 0 0:=W
  have G:=run_append_owned_none (P:=prog) (w:=w) B t o.type T I E.k O J v l.length (Qb E l) D
  unfold Oper.wp
  simp [execOp,N,resolve,invoke,builtin,U,a2,G,Result.andThen]
  exact h v w (by rw [List.append_nil];exact D) (Below.refl _ _)
 | some ad =>
  have hn:∀ j u,(Qb E r)[j]?=some u->w.cell? (ad.add j)=some u:=by
   rcases hq with h0 | ⟨b,o',hp,_,a3⟩
   ·subst h0
    intro j u hj
    simp [Qb] at hj
   ·obtain rfl:ad=⟨b,o',none⟩:=by simpa using hp
    exact Ql.cells a3
  obtain ⟨y,w',G,h2,h3,_⟩:=run_append_own (P:=prog) w B t o.type T I z E.k bytes O J Z a0 a1 a6 E.pos v l.length (Qb E l) D ad r.length c (Qb E r) (Qr E r) hn (Zz E r) hl a8 X
  unfold Oper.wp
  simp [execOp,N,resolve,invoke,builtin,U,W,G,Result.andThen]
  refine h y w' ?_ ((Below.refl _ _).grown h3 X (fun k hk=>(D.block hk).1))
  unfold Zc
  rw [Qj,List.length_append]
  exact h2
def J1 (T:TypeId) (B:Nat) (w:World) (v:Value) (j:List (Zb×Lv)):Prop:=Zc mE T w B v j/\∀ x ∈ j,Jn w x/\∀ b o,x.2.1=some ⟨b,o,none⟩->(B<=b/\b < w.heap.size)/\v.ownBlock≠some b
theorem KB  {row:Option Nat} (h:Jn w x) (j:w.grownBy w' row) (y:∀ b o,x.2.1=some ⟨b,o,none⟩->some b≠row):Jn w' x:=⟨h.len,NM h.eC j y,h.room,h.empty⟩
theorem J1.snoc  {K Q:World} {M:Value} {U:List (Zb×Lv)} (h:J1 T B J v U) (hB:B<=J.heap.size) (X:Below J.heap.size J K) (Z:Jn K x) (N:∀ b o,x.2.1=some ⟨b,o,none⟩->J.heap.size<=b/\b < K.heap.size)
 (hO:Zc mE T Q B M (U ++ [x])) (W:K.grownBy Q v.ownBlock) (Y:M.ownBlock=v.ownBlock∨M.ownBlock=some K.heap.size):J1 T B Q M (U ++ [x]):=by
 have hz:=X.size
 have a0:=W.size
 refine ⟨hO,fun y G=>?_⟩
 rcases List.mem_append.1 G with G | G
 ·obtain ⟨O,D⟩:=h.2 y G
  refine ⟨KB (O.below X) W (fun b o j e=>(D b o j).2 e.symm),fun b o j=>⟨⟨(D b o j).1.1,by have:=(D b o j).1.2;omega⟩,?_⟩⟩
  have:=(D b o j).1.2
  rcases Y with e | e
  ·rw [e];exact (D b o j).2
  ·rw [e];intro I;have:=Option.some.inj I;omega
 ·rw [List.mem_singleton.1 G]
  refine ⟨KB Z W (fun b o j e=>?_),fun b o j=>⟨⟨by have:=(N b o j).1;omega,by have:=(N b o j).2;omega⟩,?_⟩⟩
  ·have O:=N b o j
   have D:=(h.1.block e.symm).2
   omega
  ·have O:=N b o j
   rcases Y with e | e
   ·rw [e]
    intro I
    have:=(h.1.block I).2
    omega
   ·rw [e];intro I;have:=Option.some.inj I;omega
theorem J1.nil (T:TypeId) (B:Nat) (w:World):J1 T B w (.slice none 0 0) []:=⟨Zc.nil _ _ _,fun x j=>by cases j⟩
theorem J1.kept   {G:List (Zb×Lv)} (h:J1 T B w v G) (D:Below w.heap.size w w'):J1 T B w' v G:=⟨h.1.kept D,fun x j=>⟨(h.2 x j).1.below D,fun b o y=>⟨⟨((h.2 x j).2 b o y).1.1,Nat.lt_of_lt_of_le ((h.2 x j).2 b o y).1.2 D.size⟩,((h.2 x j).2 b o y).2⟩⟩⟩
theorem J1.at_   (h:J1 T B w v j):∃ p c,v=.slice p j.length c/\pD B w p (j.map Prod.fst):=by
 obtain ⟨p,c,D,G,_,_,I⟩:=h.1.form
 exact ⟨p,c,D,j,rfl,G,fun x y=>⟨(h.2 x y).1,fun b o e=>((h.2 x y).2 b o e).1.1⟩,fun b o e=>(I b o e).1⟩
theorem J1.SO   (h:J1 T B w v j):∃ p c,v=.slice p j.length c/\QE c B w p (j.map Prod.fst):=by
 obtain ⟨p,c,G,I,J,y,K⟩:=h.1.form
 exact ⟨p,c,G,⟨⟨j,rfl,I,fun x D=>⟨(h.2 x D).1,fun b o e=>((h.2 x D).2 b o e).1⟩,K⟩,by rw [List.length_map];exact J,fun e=>by rw [List.length_map,(y e).1];exact ⟨rfl,(y e).2⟩⟩⟩
theorem Jev {n k:Nat} {s:ByteArray} {i:Nat} (h:i < n):Ji (sA n k s) i=((i:Int),JW k s i):=by
 unfold Ji sA
 rw [List.getD_eq_getElem?_getD,List.getElem?_map,List.getElem?_range h]
 rfl
theorem JeI:(prog.info? 59).map (fun i=>(i.zero,i.size,i.bytes))=some (some (.agg #[.string ⟨#[]⟩,.string ⟨#[]⟩,.string ⟨#[]⟩,.string ⟨#[]⟩,.int .i64 0,.int .i64 0,.bool false,.slice none 0 0]),8,112):=by kernel_rfl
section
section
variable {P:Program} {w:World}
theorem yO (base:Nat) (t I e:TypeId) (i:TypeInfo) (z:Value) (size bytes:Nat) (M:P.underlying t=some (.slice e)) (N:P.info? e=some i) (Z:i.zero=some z)
 (a4:i.size=size) (a5:i.bytes=bytes) (v:Value) (n:Nat) (xs:List Value) (O:w.ownsRow base e size v n xs)
 (a:Addr) (m c:Nat) (y:List Value) (J:y.length=m*size) (Q:∀ j u,y[j]?=some u->w.cell? (a.add j)=some u) (h1:∀ u ∈ y,u.oneCell'=true)
 (a6:n+m<=maxLen) (a0:(n+m)*bytes<=140737488355328) (hm:0 < m) {U:Value} 
 (D:(Builtin.append_ #[t,t] I #[v,.slice (some a) m c]).run P w=.ok U w'):U.ownBlock=v.ownBlock∨U.ownBlock=some w.heap.size:=by
 subst a4
 subst a5
 have a7:n+m<=9223372036854775807:=by simp only [maxLen] at a6;omega
 rcases O.2 with ⟨rfl,rfl⟩ | ⟨g,K,W,rfl,a8,hg,a9,b0,a1,b1⟩
 ·have:=run_append_nil (P:=P) w t I e i z M N Z a m c y J Q (by omega) (by omega) (by have hb:=a0;simp only [Nat.zero_add] at hb;omega)
  rw [this] at D
  injection D with G X
  subst G
  exact Or.inr rfl
 ·by_cases Y:n+m<=K
  ·have a2:n*i.size+y.length<=W.size:=by rw [J,a1,<- Nat.add_mul];exact Nat.mul_le_mul_right _ Y
   have:=run_append_room (P:=P) w t I e i M N g n K W hg a m c y J Q h1 Y a2
   rw [this] at D
   injection D with G X
   subst G
   exact Or.inl rfl
  ·have a3:∀ j u,xs[j]?=some u->w.cell? ((⟨g,0,none⟩:Addr).add j)=some u:=O.cells (g:=g) rfl
   have:=run_append_grow (P:=P) w t I e i z M N Z ⟨g,0,none⟩ n K xs O.1 a3 a m c y J Q (by omega) (by omega) (growslice_fits (by omega) a0)
   rw [this] at D
   injection D with G X
   subst G
   exact Or.inr rfl
theorem EW {I:Array Oper} {J:List Oper}  (a2:o.guard=none) (s x:Operand) (t:TypeId)
 (ho:o.op=.call { callee:=.builtin .append,args:=#[s,x],argTypes:=#[t,t] })
 (base:Nat) (e:TypeId) (i:TypeInfo) (z:Value) (size bytes:Nat) (M:P.underlying t=some (.slice e)) (N:P.info? e=some i) (O:i.zero=some z)
 (U:i.size=size) (W:i.bytes=bytes) (a3:z.cells.size=size) (a4:0 < size)
 (v:Value) (n:Nat) (xs:List Value) (hs:a.eval s=v) (X:w.ownsRow base e size v n xs)
 (ad:Addr) (m c:Nat) (D:List Value) (hx:a.eval x=.slice (some ad) m c) (Y:D.length=m*size) (Z:∀ j u,D[j]?=some u->w.cell? (ad.add j)=some u) (h1:∀ u ∈ D,u.oneCell'=true)
 (a0:n+m<=maxLen) (a1:(n+m)*bytes<=140737488355328) (a5:base<=w.heap.size) (hm:0 < m)
 (h:∀ y w',w'.ownsRow base e size y (n+m) (xs ++ D)->w.grownBy w' v.ownBlock->(y.ownBlock=v.ownBlock∨y.ownBlock=some w.heap.size)->wpList P I Q J (a.put o.dst y) w'):wpList P I Q (o :: J) a w:=by
 refine wpList_plain a2 fun K hK=>?_
 obtain ⟨y,w',G,h2,h3,h4⟩:=run_append_own (P:=P) w base t o.type e i z size bytes M N O U W a3 a4 v n xs X ad m c D Y Z h1 a0 a1 a5
 have hw:=yO base t o.type e i z size bytes M N O U W v n xs X ad m c D Y Z h1 a0 a1 hm G
 unfold Oper.wp execOp
 simp only [ho,resolve,invoke,builtin,Sem.run_bind,Sem.run_pure,Result.andThen_ok,List.map_toArray,List.map_cons,List.map_nil,hs,hx,G]
 exact hK _ _ (h y w' h2 h3 hw)
end
end
theorem NJ {E:eW α} {X:Array Oper}   
 (a1:o.guard=none) (s x:Operand) (t T:TypeId) (ho:o.op=.call { callee:=.builtin .append,args:=#[s,x],argTypes:=#[t,t] }) (z:Value) (bytes:Nat) (Y:prog.underlying t=some (.slice T))
 (a2:(prog.info? T).map (fun i=>(i.zero,i.size,i.bytes))=some (some z,E.k,bytes)) (a3:z.cells.size=E.k)
 (B:Nat) (v:Value) (l:List α) (hs:a.eval s=v) (Z:Zc E T w B v l) (b:Nat) (c:Nat) (r:α) (hx:a.eval x=.slice (some ⟨b,0,none⟩) 1 c) (hc:∀ j u,(E.enc r)[j]?=some u->w.cell? ⟨b,j,none⟩=some u) (hl:l.length+1<=maxLen) (a0:(l.length+1)*bytes<=140737488355328) (a4:B<=w.heap.size)
 (h:∀ y w',Zc E T w' B y (l ++ [r])->w.grownBy w' v.ownBlock->(y.ownBlock=v.ownBlock∨y.ownBlock=some w.heap.size)->K (a.put o.dst y) w') :
 if Region.wanted o (yielded X a.tmps)=true then Oper.wp prog o a w K Q else E':=by
 have hw:Region.wanted o (yielded X a.tmps)=true:=by simp [Region.wanted,a1]
 rw [if_pos hw]
 obtain ⟨D,G,I,J,M⟩:=info_parts a2
 have N:∀ j u,(E.enc r)[j]?=some u->w.cell? ((⟨b,0,none⟩:Addr).add j)=some u:=fun j u hj=>by
  have O:=hc j u hj
  by_cases e:j=0
  ·subst e;simpa [Addr.add] using O
  ·simpa [Addr.add,e] using O
 have U:(E.enc r).length=1*E.k:=by rw [E.len,Nat.one_mul]
 obtain ⟨y,w',W,h2,h3,_⟩:=run_append_own (P:=prog) w B t o.type T D z E.k bytes Y G I J M a3 E.pos v l.length (Qb E l) Z ⟨b,0,none⟩ 1 c (E.enc r) U N (E.one r) hl a0 a4
 have h4:=yO B t o.type T D z E.k bytes Y G I J M v l.length (Qb E l) Z ⟨b,0,none⟩ 1 c (E.enc r) U N (E.one r) hl a0 (by decide) W
 unfold Oper.wp
 simp [execOp,ho,resolve,invoke,builtin,hs,hx,W,Result.andThen]
 refine h y w' ?_ h3 h4
 unfold Zc
 rw [Qj,qK,List.length_append]
 exact h2
theorem Jd9 (k:Nat) (w:World) (hk:k<=100) :
 Calls prog 121 #[.int .i64 (k:Int)] w fun e w'=>(∃ v,e=.returned v/\hY w' w.heap.size 5 v (JB k))/\Below w.heap.size w w':=by
 obtain ⟨J,K,M,N,O⟩:=info_parts KF
 go_enter func121,ntmps121
 go_wp2
 go_loopw [3,4] (fun v j wr=>∃ n:Nat,n<=k/\j=.int .i64 n/\hY wr w.heap.size 5 v (JB n)/\Below w.heap.size w wr) (fun _ j _=>k - (intOf j).toNat)
 case atStart=>exact ⟨0,by omega,rfl,hY.nil _ _ _,Below.refl _ _⟩
 case round =>
  obtain ⟨n,hn,rfl,G,y⟩:=hrel
  have D:Hid (hY wr w.heap.size 5 u3 (JB n)):=G
  have I:Hid (Below w.heap.size w wr):=y
  have Q:w.heap.size<=wr.heap.size:=y.size
  have a2:(JB n).length=n:=by simp [JB]
  clear G y
  by_cases a3:n < k
  ·have U:Hid (JB (n+1)=JB n ++ [n]):=by show _=_;simp [JB,List.range_succ]
   go_wp2_with (first | (at_builtin;refine Jak rfl (.tmp 10) (.tmp 13) 138 rfl w.heap.size 5 J underlying138 K M N O u3 (JB n) rfl (D.out.kept (World.grownBy_alloc wr _ none) (by cases hv:u3.ownBlock <;> simp)) ⟨wr.heap.size,0,none⟩ 1 n rfl (by simp [ZM]) (by omega) (by simp;omega) ?_;intro v1 W X Y a4))
   have Z:Below w.heap.size w W:=(I.out.alloc Q _).grown Y (by simp;omega) (fun k' a0=>(D.out.block a0).1)
   go_roundw
   case rel=>exact ⟨n+1,by omega,by go_num,by rw [U.out];exact X,Z⟩
   case measure=>simp [intOf];omega
  ·have a1:n=k:=by omega
   subst a1
   go_wp2
   go_ret
   exact ⟨⟨u3,rfl,D.out⟩,I.out⟩
theorem JcH (n k:Nat) (w:World) (hn:n<=100) (f5:1<=k) (U:k<=100) :
 Calls prog 90 #[.int .i64 (n:Int),.int .i64 (k:Int)] w fun e w'=>(∃ K X,e=.returned (.slice K n X)/\QJ w' K (kK k n))/\Below w.heap.size w w':=by
 obtain ⟨i1,b6,b7,d0,d1⟩:=info_parts Jti
 obtain ⟨i0,d2,d3,d4,d5⟩:=info_parts KF
 go_enter func90,ntmps90
 go_wp2_with fail
 refine (Jd9 k _ U).mono ?_
 rintro e D ⟨⟨vx,rfl,a7⟩,Y⟩
 obtain ⟨Z,cx,a8,a9⟩:=a7.seg (tA k (by omega))
 rw [JE] at a8
 subst a8
 have d6:Hid (jU D Z (JB k)):=a9
 have d7:Hid (Below w.heap.size w D):=Y
 have d8:w.heap.size<=D.heap.size:=Y.size
 clear a7 a9 Y
 go_wp2
 go_loopw [6,7] (fun v x wr=>∃ i:Nat,i<=n/\x=.int .i64 i/\H3 D.heap.size wr 138 v (kK k i)/\Below D.heap.size D wr) (fun _ x _=>n - (intOf x).toNat)
 case atStart=>exact ⟨0,by omega,rfl,H3.nil _ _ _,Below.refl _ _⟩
 case round =>
  obtain ⟨i,hi,rfl,hO,a0⟩:=hrel
  have HO:Hid (H3 D.heap.size wr 138 u6 (kK k i)):=hO
  have a1:Hid (Below D.heap.size D wr):=a0
  have b0:D.heap.size<=wr.heap.size:=a0.size
  clear hO a0
  by_cases f3:i < n
  ·go_wp2_with (first | (at_make;refine wpList_make_row _ rfl (.tmp 17) (.tmp 17) 138 rfl 5 i0 (ZM 0) underlying138 d2 d3 d4 rfl .i64 .i64 k rfl rfl (by rw [d5];omega) (by omega) ?_))
   obtain ⟨y,rfl⟩:∃ y,y=wr:=⟨_,rfl⟩
   have a2:Zo (y.alloc (.cells (madeCells #[ZM 0] k) 5)) y.heap.size 5 y.heap.size k (Qi k (fun c=>if c < 0 then Gf.aQ (JB k) c i else 0)):=by
    have:=Zo.made y y.heap.size 5 k (Nat.le_refl _) (by omega)
    rw [YL k _ (fun c=>if c < 0 then Gf.aQ (JB k) c i else 0) (fun c _=>by rw [if_neg (Nat.not_lt_zero _)])] at this
    exact this
   have a3:Below y.heap.size y (y.alloc (.cells (madeCells #[ZM 0] k) 5)):=(Below.refl _ _).alloc (Nat.le_refl _) _
   generalize y.alloc (.cells (madeCells #[ZM 0] k) 5)=w4 at a2 a3 ⊢
   have b1:Hid (Zo w4 y.heap.size 5 y.heap.size k (Qi k (fun c=>if c < 0 then Gf.aQ (JB k) c i else 0))):=a2
   have b2:Hid (Below y.heap.size y w4):=a3
   clear a2 a3
   go_loopw [9] (fun x wq=>∃ j:Nat,j<=k/\x=.int .i64 j/\Zo wq y.heap.size 5 y.heap.size k (Qi k (fun c=>if c < j then Gf.aQ (JB k) c i else 0))/\Below y.heap.size y wq) (fun x _=>k - (intOf x).toNat)
   case atStart=>exact ⟨0,by omega,rfl,b1.out,b2.out⟩
   case round =>
    obtain ⟨j,hj,rfl,b3,a4⟩:=hrel
    obtain ⟨I,rfl⟩:∃ I,I=wr:=⟨_,rfl⟩
    have M:Hid (Zo I y.heap.size 5 y.heap.size k (Qi k (fun c=>if c < j then Gf.aQ (JB k) c i else 0))):=b3
    have G:Hid (Below y.heap.size y I):=a4
    have f4:y.heap.size<=I.heap.size:=a4.size
    clear b3 a4 b1 b2
    by_cases a5:j < k
    ·have b4:Hid (jU I Z (JB k)):=(d6.out.below a1.out).below G.out
     go_wp2_with fail
     refine (Jde Z k cx j i _ (by omega) U a5 b4.out).mono ?_
     rintro e J ⟨rfl,m,a6⟩
     have N:Hid (Zo J y.heap.size 5 y.heap.size k (Qi k (fun c=>if c < j then Gf.aQ (JB k) c i else 0))):=by rw [a6];exact M.out.drewN m
     have d9:Hid (Below y.heap.size y J):=by rw [a6];exact below_drewN G.out m
     have q5:J.cell? ⟨y.heap.size,j,none⟩=some (.int .u8 ((0:Nat):Int)):=by rw [N.out.cell j a5 (Jf _ _),Yq _ _ j a5,if_neg (Nat.lt_irrefl _)]
     have q6:J.frozen? ⟨y.heap.size,j,none⟩=false:=N.out.free j
     have HT:Hid (Zo (J.setCell ⟨y.heap.size,j,none⟩ (.int .u8 ((Gf.aQ (JB k) j i:Nat):Int))) y.heap.size 5 y.heap.size k (Qi k (fun c=>if c < j+1 then Gf.aQ (JB k) c i else 0))):=by
      have:=N.out.set j (Gf.aQ (JB k) j i)
      rw [YL k (fun c=>if c < j+1 then Gf.aQ (JB k) c i else 0) (fun c=>if c=j then Gf.aQ (JB k) j i else if c < j then Gf.aQ (JB k) c i else 0) (fun c _=>by
       by_cases e:c=j
       ·subst e;rw [if_pos (by omega),if_pos rfl]
       ·rw [if_neg e]
        by_cases e':c < j
        ·rw [if_pos (by omega),if_pos e']
        ·rw [if_neg (by omega),if_neg e'])]
      exact this
     clear a6 M G b4 N
     generalize Gf.aQ (JB k) j i=sh at HT ⊢
     go_wp2
     go_roundw
     case rel=>exact ⟨j+1,by omega,by go_num,HT.out,d9.out.setCell (Nat.le_refl _) _⟩
     case measure=>simp [intOf];omega
    ·have e0:j=k:=by omega
     subst e0
     obtain ⟨O,Q⟩:=HO.out
     have e1:Hid (O4 D.heap.size y 138 u6 O (kK j i)):=Q
     have HV:Hid (JM y D.heap.size 138 u6 O):=Q.1
     have e2:Hid (O.length=i):=Q.2.1.trans (JaC j i)
     have hr:Hid (hY I y.heap.size 5 (.slice (some ⟨y.heap.size,0,none⟩) j j) (Qi j fun c=>Gf.aQ (JB j) c i)):=by
      refine Zo.own ?_ (Jf _ _)
      rw [YL j _ (fun c=>if c < j then Gf.aQ (JB j) c i else 0) (fun c hc=>by rw [if_pos hc])]
      exact M.out
     clear Q M
     go_wp2_with (first | (at_builtin;refine yL rfl (.tmp 32) (.tmp 34) 162 rfl D.heap.size 138 i1 (.slice none 0 0) 24 underlying162 b6 b7 rfl d0 d1 (by decide) u6 O rfl (((HV.out.kept (row:=none) ⟨G.out.os,G.out.tape,G.out.output,G.out.size,fun k U _=>G.out.block k U⟩ (by cases W:u6.ownBlock <;> simp))).kept (World.grownBy_alloc I _ none) (by cases W:u6.ownBlock <;> simp)) ⟨I.heap.size,0,none⟩ 1 (.slice (some ⟨y.heap.size,0,none⟩) j j) rfl rfl (by simp) (by have:=e2.out;omega) (by simp;omega) ?_;intro v' w8 e3 b5 e4))
     have e5:=e1.out.snoc b0 hr.out (XL _ _ fun c=>Gf.bL _ c _) G.out e3 b5 e4
     have e6:Below D.heap.size D w8:=((a1.out.trans (G.out.mono b0)).alloc (by omega) _).grown b5 (by simp;omega) (fun k' e7=>(HV.out.block e7).1)
     go_roundw
     case rel=>exact ⟨i+1,by omega,by go_num,⟨_,by rw [JcA];exact e5⟩,e6⟩
     case measure=>simp [intOf];omega
  ·have e8:i=n:=by omega
   subst e8
   obtain ⟨K,X,W,e9⟩:=HO.out.tU
   rw [JaC] at W
   subst W
   clear HO
   go_wp2
   go_ret
   exact ⟨⟨K,X,rfl,e9⟩,d7.out.trans (a1.out.mono d8)⟩
theorem JcM (n k:Nat) (s:ByteArray) (w:World) (b4:1<=k) (j5:k<=n) (hn:n<=12) (hs:s.size<=3000) :
 Calls prog 65 #[.int .i64 (n:Int),.int .i64 (k:Int),.string s] w fun e w'=>(∃ v,e=.returned v/\sT w' w.heap.size v ((List.range n).map fun i=>(i,X1 (Zj s) k (Jk k s.size) i)))/\Below w.heap.size w w':=by
 obtain ⟨i1,e4,e5,e6,e7⟩:=info_parts vH
 obtain ⟨i0,e8,e9,f3,f4⟩:=info_parts KF
 have i8:=xR (size:=s.size) b4
 go_enter func65,ntmps65
 go_wp2_with fail
 refine (JaY k s.size _ b4 (by omega) (by omega)).mono ?_
 rintro e w' ⟨rfl,b5⟩
 rw [b5]
 clear b5 w'
 go_wp2_with fail
 refine (JcH n k _ (by omega) b4 (by omega)).mono ?_
 rintro e I ⟨⟨p2,c2,rfl,b6⟩,a1⟩
 have f5:Hid (QJ I p2 (kK k n)):=b6
 have f6:Hid (Below w.heap.size w I):=a1
 have b7:w.heap.size<=I.heap.size:=a1.size
 clear b6 a1
 generalize d0:Jk k s.size=D at *
 have f7:Hid (Jk k s.size=D):=d0
 clear d0
 go_wp2
 have i9:(Zj s).length=s.size:=by simp [Zj]
 go_loopw [9,10] (fun v x wr=>∃ i:Nat,i<=n/\x=.int .i64 i/\sT wr I.heap.size v ((List.range i).map fun i=>(i,X1 (Zj s) k D i))/\Below I.heap.size I wr) (fun _ x _=>n - (intOf x).toNat)
 case atStart=>exact ⟨0,by omega,rfl,World.ownsRow_nil _ _ _ _,Below.refl _ _⟩
 case round =>
  obtain ⟨i,hi,rfl,hO,hB⟩:=hrel
  obtain ⟨G,rfl⟩:∃ G,G=wr:=⟨_,rfl⟩
  have HO:Hid (sT G I.heap.size u9 ((List.range i).map fun i=>(i,X1 (Zj s) k D i))):=hO
  have Z:Hid (Below I.heap.size I G):=hB
  have f8:I.heap.size<=G.heap.size:=hB.size
  clear hO hB
  by_cases a2:i < n
  ·go_wp2_with (first | (at_make;refine wpList_make_row _ rfl (.tmp 26) (.tmp 26) 138 rfl 5 i0 (ZM 0) underlying138 e8 e9 f3 rfl .i64 .i64 D rfl rfl (by rw [f4];omega) (by omega) ?_))
   have a3:Zo (G.alloc (.cells (madeCells #[ZM 0] D) 5)) G.heap.size 5 G.heap.size D (Qi D (fun c=>if c < 0 then Qu (Zj s) k D i c k else 0)):=by
    have:=Zo.made G G.heap.size 5 D (Nat.le_refl _) (by omega)
    rw [YL D _ (fun c=>if c < 0 then Qu (Zj s) k D i c k else 0) (fun c _=>by rw [if_neg (Nat.not_lt_zero _)])] at this
    exact this
   have a4:Below G.heap.size G (G.alloc (.cells (madeCells #[ZM 0] D) 5)):=(Below.refl _ _).alloc (Nat.le_refl _) _
   generalize G.alloc (.cells (madeCells #[ZM 0] D) 5)=w4 at a3 a4 ⊢
   have d1:Hid (Zo w4 G.heap.size 5 G.heap.size D (Qi D (fun c=>if c < 0 then Qu (Zj s) k D i c k else 0))):=a3
   have d2:Hid (Below G.heap.size G w4):=a4
   clear a3 a4
   go_loopw [12] (fun x U=>∃ c:Nat,c<=D/\x=.int .i64 c/\Zo U G.heap.size 5 G.heap.size D (Qi D (fun d=>if d < c then Qu (Zj s) k D i d k else 0))/\Below G.heap.size G U) (fun x _=>D - (intOf x).toNat)
   case atStart=>exact ⟨0,by omega,rfl,d1.out,d2.out⟩
   case round =>
    obtain ⟨c,hc,rfl,d3,d4⟩:=hrel
    obtain ⟨K,rfl⟩:∃ K,K=wr:=⟨_,rfl⟩
    have a0:Hid (Zo K G.heap.size 5 G.heap.size D (Qi D (fun d=>if d < c then Qu (Zj s) k D i d k else 0))):=d3
    have M:Hid (Below G.heap.size G K):=d4
    clear d3 d4 d1 d2
    by_cases d5:c < D
    ·go_wp2
     go_loopw [13] (fun x U=>∃ j:Nat,j<=k/\x=.int .i64 j/\Zo U G.heap.size 5 G.heap.size D (Qi D (fun d=>if d < c then Qu (Zj s) k D i d k else if d=c then Qu (Zj s) k D i c j else 0))/\Below G.heap.size G U) (fun x _=>k - (intOf x).toNat)
     case atStart =>
      refine ⟨0,by omega,rfl,?_,M.out⟩
      rw [YL D _ (fun d=>if d < c then Qu (Zj s) k D i d k else 0) (fun d _=>by by_cases e:d=c <;> simp [e,Qu])]
      exact a0.out
     case round =>
      obtain ⟨j,j0,rfl,d6,d7⟩:=hrel
      obtain ⟨J,rfl⟩:∃ J,J=wr:=⟨_,rfl⟩
      have Q:Hid (Zo J G.heap.size 5 G.heap.size D (Qi D (fun d=>if d < c then Qu (Zj s) k D i d k else if d=c then Qu (Zj s) k D i c j else 0))):=d6
      have X:Hid (Below G.heap.size G J):=d7
      clear d6 d7 a0 M
      by_cases d8:j < k
      ·have hb:j*D<=12*3000:=Nat.mul_le_mul (by omega) (by omega)
       have j1:(0:Int)<=(j:Int)*(D:Int):=by rw [<- Int.natCast_mul];omega
       have j2:(j:Int)*(D:Int)<=36000:=by rw [<- Int.natCast_mul];omega
       by_cases a5:j*D+c < s.size
       ·have N:(j:Int)*(D:Int)+(c:Int) < (s.size:Int):=by rw [<- Int.natCast_mul];omega
        have d9:(Qh (kK k n) i).length=k:=by rw [Jbw k n i a2,Jf]
        obtain ⟨bm,om,b1,o1,c1,f9,g0,g1,a6,a7⟩:=f5.out.row (i:=i) (by rw [JaC];exact a2) (by rw [d9];omega)
        subst f9
        rw [d9] at a6 a7
        have a8:∀ b o,b < I.heap.size->J.cell? ⟨b,o,none⟩=I.cell? ⟨b,o,none⟩:=fun b o hb=>(X.out.cell (p:=⟨b,o,none⟩) (by show b < _;omega)).trans (Z.out.cell (p:=⟨b,o,none⟩) hb)
        have q1:J.cell? ⟨bm,om+i,none⟩=some (.slice (some ⟨b1,o1,none⟩) k c1):=(a8 _ _ g0).trans a6
        have q2:J.cell? ⟨b1,o1+j,none⟩=some (.int .u8 ((Gf.aQ (JB k) j i:Nat):Int)):=by rw [a8 _ _ g1,a7 j d8,Jbw k n i a2,Yq _ _ j d8]
        have q5:J.cell? ⟨G.heap.size,c,none⟩=some (.int .u8 ((Qu (Zj s) k D i c j:Nat):Int)):=by rw [Q.out.cell c d5 (Jf _ _),Yq _ _ c d5,if_neg (Nat.lt_irrefl _),if_pos rfl]
        have q6:J.frozen? ⟨G.heap.size,c,none⟩=false:=Q.out.free c
        have lx:=Gf.bL (JB k) j i
        have ly:=xK s (j*D+c)
        have ls:=Jbq (Zj s) k D i c j
        have lm:=Gf.aV lx (Gf.nth (Zj s) (j*D+c))
        have h0:(0:Int)<=(j:Int)*(D:Int)+(c:Int):=by omega
        have e0:∀ W,Sem.run prog (Instr.index 9 (.string s) (.int .i64 ((j:Int)*(D:Int)+(c:Int)))) W=.ok (.int .u8 ((Gf.nth (Zj s) (j*D+c):Nat):Int)) W:=fun W=>by
         rw [run_index_string W 9 s .i64 _ underlying9,dif_pos ⟨h0,N⟩]
         rw [uD s (j*D+c) a5]
         congr 3
        have HX:Hid (bits .xor .u8 ((Qu (Zj s) k D i c j:Nat):Int) ((Gf.mul (Gf.aQ (JB k) j i) (Gf.nth (Zj s) (j*D+c)):Nat):Int)=((Qu (Zj s) k D i c (j+1):Nat):Int)):=by
         show _=_
         rw [u8_xor_nat _ _ ls lm]
         show _=(((if j*D+c < (Zj s).length then _ else _):Nat):Int)
         rw [if_pos (by omega)]
        have g2:IntKind.i64.wrap ((j:Int)*(D:Int))=(j:Int)*(D:Int):=by rw [IntKind.wrap_i64];omega
        have g3:IntKind.i64.wrap ((j:Int)*(D:Int)+(c:Int))=(j:Int)*(D:Int)+(c:Int):=by rw [IntKind.wrap_i64];omega
        have n1:G.heap.size≠bm:=by omega
        have n2:G.heap.size≠b1:=by omega
        clear a8 a6 a7 a5 hb
        generalize Gf.aQ (JB k) j i=x at q2 lx lm HX
        generalize Gf.nth (Zj s) (j*D+c)=y at e0 ly lm HX
        have a9:Hid (Zo J G.heap.size 5 G.heap.size D (Qi D (fun d=>if d < c then Qu (Zj s) k D i d k else if d=c then Qu (Zj s) k D i c j else 0))):=Q.out
        generalize Qu (Zj s) k D i c j=b0 at q5 ls HX a9
        go_wp2
        refine wp_region_still_tail 23 (by kernel_rfl) (by kernel_rfl) ?_
        simp only [List.take_succ_cons,List.take_zero,List.drop_succ_cons,List.drop_zero]
        repeat still_step
        still_call (O0 x y _ lx ly)
        repeat still_step
        refine wpStill_nil ?_
        rw [HX.out]
        have e1:Hid (Zo (J.drewN 1) G.heap.size 5 G.heap.size D (Qi D (fun d=>if d < c then Qu (Zj s) k D i d k else if d=c then b0 else 0))):=a9.out.drewN 1
        have e2:Hid (Below G.heap.size G (J.drewN 1)):=below_drewN X.out 1
        have g4:(J.drewN 1).cell? ⟨G.heap.size,c,none⟩=some (.int .u8 (b0:Int)):=q5
        have g5:(J.drewN 1).frozen? ⟨G.heap.size,c,none⟩=false:=q6
        change wpList _ _ _ _ _ (J.drewN 1)
        generalize J.drewN 1=w7 at e1 e2 g4 g5 ⊢
        clear q1 q2 q5 q6 Q a9 X e0 g2 g3 h0 N
        go_wp2
        go_roundw
        case rel =>
         refine ⟨j+1,by omega,by go_num,?_,e2.out.setCell (Nat.le_refl _) _⟩
         have:=e1.out.set c (Qu (Zj s) k D i c (j+1))
         rw [YL D (fun d=>if d < c then Qu (Zj s) k D i d k else if d=c then Qu (Zj s) k D i c (j+1) else 0) (fun d=>if d=c then Qu (Zj s) k D i c (j+1) else if d < c then Qu (Zj s) k D i d k else if d=c then b0 else 0) (fun d _=>by
          by_cases e:d=c
          ·subst e;rw [if_neg (Nat.lt_irrefl _),if_pos rfl,if_pos rfl]
          ·rw [if_neg e,if_neg e,if_neg e])]
         exact this
        case measure=>simp [intOf];omega
       ·have N:¬ (j:Int)*(D:Int)+(c:Int) < (s.size:Int):=by rw [<- Int.natCast_mul];omega
        have HE:Hid (Qu (Zj s) k D i c (j+1)=Qu (Zj s) k D i c j):=by
         show (if j*D+c < (Zj s).length then _ else _)=_
         rw [if_neg (by omega)]
        clear hb a5
        go_wp2
        go_roundw
        case rel=>exact ⟨j+1,by omega,by go_num,by rw [HE.out];exact Q.out,X.out⟩
        case measure=>simp [intOf];omega
      ·have g6:j=k:=by omega
       subst g6
       go_wp2
       go_roundw
       case rel =>
        refine ⟨c+1,by omega,by go_num,?_,X.out⟩
        rw [YL D _ (fun d=>if d < c then Qu (Zj s) j D i d j else if d=c then Qu (Zj s) j D i c j else 0) (fun d _=>by
         by_cases e:d < c
         ·rw [if_pos (by omega),if_pos e]
         ·by_cases e':d=c
          ·subst e';rw [if_pos (by omega),if_neg e,if_pos rfl]
          ·rw [if_neg (by omega),if_neg e,if_neg e'])]
        exact Q.out
       case measure=>simp [intOf];omega
    ·have g7:c=D:=by omega
     subst g7
     have b2:Zo K G.heap.size 5 G.heap.size c (X1 (Zj s) k c i):=by
      unfold X1
      rw [YL c _ (fun d=>if d < c then Qu (Zj s) k c i d k else 0) (fun d Y=>by rw [if_pos Y])]
      exact a0.out
     have g8:Sem.run prog (convert 138 9 (.slice (some ⟨G.heap.size,0,none⟩) c c)) K=.ok (.string (Jp (X1 (Zj s) k c i))) K:=by
      have g9:jU K (some ⟨G.heap.size,0,none⟩) (X1 (Zj s) k c i):=⟨XL _ _ (fun d=>Jbq _ _ _ _ _ _),Or.inr ⟨G.heap.size,0,rfl,b2.lt.2,fun d Y=>by
       have h3:d < c:=by unfold X1 at Y;rw [Jf] at Y;exact Y
       rw [Nat.zero_add]
       exact b2.cell d h3 (Jf _ _)⟩⟩
      have:=WU g9 c
      rw [show (X1 (Zj s) k c i).length=c from Jf _ _] at this
      exact this
     have j3:G.heap.size<=K.heap.size:=M.out.size
     have b3:Hid (sT K I.heap.size u9 ((List.range i).map fun i=>(i,X1 (Zj s) k c i))):=World.ownsRow.kept HO.out (⟨M.out.os,M.out.tape,M.out.output,M.out.size,fun k hk _=>M.out.block k hk⟩:G.grownBy K none) (by cases hv:u9.ownBlock <;> simp)
     have h4:Hid (Below I.heap.size I K):=Z.out.trans (M.out.mono f8)
     have HL:Hid (((List.range i).map fun i=>(i,X1 (Zj s) k c i)).length=i):=by show _=_;simp
     clear b2 a0
     have HR:Hid ((List.range (i+1)).map (fun i=>(i,X1 (Zj s) k c i))=((List.range i).map fun i=>(i,X1 (Zj s) k c i)) ++ [(i,X1 (Zj s) k c i)]):=by show _=_;simp [List.range_succ]
     generalize X1 (Zj s) k c i=row at g8 HR
     generalize ((List.range i).map fun i=>(i,X1 (Zj s) k c i))=e3 at b3 HL HR
     go_wp2_with (first | (at_builtin;refine wpList_append_own _ rfl (.tmp 69) (.tmp 74) 123 rfl I.heap.size 74 i1 (.agg #[.int .i64 0,.string ⟨#[]⟩]) 2 24 underlying123 e4 e5 e6 e7 rfl (by decide) u9 e3.length (x6 e3) rfl (World.ownsRow.alloc b3.out _) ⟨K.heap.size,0,none⟩ 1 1 [.int .i64 (i:Int),.string (Jp row)] rfl rfl (fun j u O=>by match j,O with | 0,O=>(simp at O;subst O;simp [Addr.add]) | 1,O=>(simp at O;subst O;simp [Addr.add])) (fun u hu=>by simp at hu;rcases hu with rfl | rfl <;> rfl) (by rw [HL.out];unfold maxLen;omega) (by rw [HL.out];omega) (by simp;omega) ?_;intro v' w8 h5 h6 _))
     have h7:Below I.heap.size I w8:=(h4.out.alloc (by omega) _).grown h6 (by simp;omega) (fun g hg=>(World.ownsRow.lt b3.out g hg).1)
     have h8:=sT.snoc h5 rfl
     go_roundw
     case rel=>exact ⟨i+1,by omega,by go_num,by rw [HR.out];exact h8,h7⟩
     case measure=>simp [intOf];omega
  ·have h9:i=n:=by omega
   subst h9
   have HF:Hid (sT G w.heap.size u9 ((List.range i).map fun j=>(j,X1 (Zj s) k (Jk k s.size) j))):=by
    show sT _ _ _ _
    rw [f7.out]
    obtain ⟨h1,N⟩:=HO.out
    refine ⟨h1,?_⟩
    rcases N with N | ⟨g',i2,i3,e,i4,i5⟩
    ·exact Or.inl N
    ·exact Or.inr ⟨g',i2,i3,e,Nat.le_trans b7 i4,i5⟩
   have i7:Hid (Below w.heap.size w G):=f6.out.trans (Z.out.mono b7)
   clear HO Z
   go_wp2
   go_ret
   exact ⟨⟨_,rfl,HF.out⟩,i7.out⟩
section
open Go
section
variable {P:Program} {ops:Array Oper} {Q:Exit->Act->World->Prop} {md:Region.Mode} {S:World->Prop} {fuel:Nat} {listed:Array Bool} {a:Act} {w:World}
theorem tk (i:Nat) (oi:Oper) {v:Value} (hS:S w) (h:wpAnyH P md ops Q S fuel (listed.setIfInBounds i true) (a.put oi.dst v) w) (hi:ops[i]?=some oi:=by (try simp only [List.getElem?_toArray,List.getElem?_cons_zero,List.getElem?_cons_succ]);all_goals rfl) (hs:Region.noSelect ops=true:=by kernel_rfl) (hf:Region.free md ops listed i=true:=by kernel_rfl) (hr:(Region.ready md ops listed).contains i=true:=by kernel_rfl) (hw:Region.wanted oi (yielded ops a.tmps)=true:=by rfl) (hy:∀ w,S w->(execOp a.eval oi).run P w=.ok (.value v) w:=by intro w hSw;(try dsimp only at hSw);go_simp;try with_reducible rfl) (hQ:∀ c a w,Q (.panic c) (a.put oi.dst v) w->Q (.panic c) a w:=by exact fun _ _ _ h=>h):wpAnyH P md ops Q S (fuel+1) listed a w :=
 wpAnyH_take hi hs hf hr hQ (Or.inl ⟨hw,hy⟩) hS h
theorem rdy (i:Nat) (rs:List Nat) (o:Oper) (h:∀ K':Act->World->Prop,Shut (∀ a w,S w->(S w->wpAnyH P md ops Q S fuel (listed.setIfInBounds i true) a w)->K' a w)->if Region.wanted o (yielded ops a.tmps)=true then Oper.wp P o a w K' Q else K' (a.put o.dst undef) w) (hs:AllReadyH P md ops Q S fuel listed a w rs) (ho:ops[i]?=some o:=by (try simp only [List.getElem?_toArray,List.getElem?_cons_zero,List.getElem?_cons_succ]);all_goals rfl) (hr:Region.ready md ops listed=i :: rs:=by kernel_rfl):wpAnyH P md ops Q S (fuel+1) listed a w :=
 wpAnyH_ready hr (by simp) (AllReadyH.cons ho h hs)
end
end
theorem qG (x m:Int) (w:World):Calls prog 79 #[.int .i64 x,.int .i64 m] w fun e w'=>e=.returned (.bool (decide (0<=x/\x<=m)))/\w'=w:=by
 by_cases y:0<=x
 ·by_cases D:x<=m
  ·have j:Hid (decide (0<=x/\x<=m)=true):=decide_eq_true ⟨y,D⟩
   rw [j.out]
   go_enter func79,ntmps79
   go_wp2
   go_ret
   exact ⟨rfl,rfl⟩
  ·have j:Hid (decide (0<=x/\x<=m)=false):=decide_eq_false fun h=>D h.2
   rw [j.out]
   go_enter func79,ntmps79
   go_wp2
   go_ret
   exact ⟨rfl,rfl⟩
 ·have j:Hid (decide (0<=x/\x<=m)=false):=decide_eq_false fun h=>y h.1
  rw [j.out]
  go_enter func79,ntmps79
  go_wp2
  go_ret
  exact ⟨rfl,rfl⟩
def YM (a b:Int):Bool:=decide (0<=a/\a<=1099511627776) && decide (0<=b/\b<=1099511627776)
theorem wI (a b:Int) (w:World):Calls prog 57 #[.agg #[.int .i64 a,.int .i64 b]] w fun e w'=>e=.returned (.bool (YM a b))/\Below w.heap.size w w':=by
 obtain ⟨j,G⟩:∃ j,j=w.alloc (.cells #[.int .i64 a,.int .i64 b] 46):=⟨_,rfl⟩
 have K:Hid (Below w.heap.size w j):=by rw [G];exact (Below.refl _ _).alloc (Nat.le_refl _) _
 have f0:j.cell? ⟨w.heap.size,0,none⟩=some (.int .i64 a):=by rw [G,World.cell?_alloc_at _ _ _ _ rfl];rfl
 have f1:j.cell? ⟨w.heap.size,1,none⟩=some (.int .i64 b):=by rw [G,World.cell?_alloc_at _ _ _ _ rfl];rfl
 have M:Hid (j=w.alloc (.cells #[.int .i64 a,.int .i64 b] 46)):=G
 have J:Hid (Calls prog 79 #[.int .i64 a,.int .i64 1099511627776] j fun e w'=>e=.returned (.bool (decide (0<=a/\a<=1099511627776)))/\w'=j):=qG _ _ j
 have N:Hid (Calls prog 79 #[.int .i64 b,.int .i64 1099511627776] j fun e w'=>e=.returned (.bool (decide (0<=b/\b<=1099511627776)))/\w'=j):=qG _ _ j
 have O:Hid (YM a b=(decide (0<=a/\a<=1099511627776) && decide (0<=b/\b<=1099511627776))):=by show _=_;rfl
 rw [O.out]
 clear G O
 generalize decide (0<=a/\a<=1099511627776)=x at *
 generalize decide (0<=b/\b<=1099511627776)=y at *
 cases x with
 | false =>
  go_enter func57,ntmps57
  go_wp2_with fail
  rw [<- M.out]
  refine J.out.mono ?_
  rintro e I ⟨rfl,D⟩
  rw [D]
  clear D I J
  go_wp2
  go_ret
  exact ⟨rfl,K.out⟩
 | true =>
  go_enter func57,ntmps57
  go_wp2_with fail
  rw [<- M.out]
  refine J.out.mono ?_
  rintro e I ⟨rfl,D⟩
  rw [D]
  clear D I J
  go_wp2_with fail
  refine N.out.mono ?_
  rintro e I ⟨rfl,D⟩
  rw [D]
  clear D I N
  go_wp2
  go_ret
  exact ⟨rfl,K.out⟩
section
open Go.Extern.Stop Go.Stop Go.Extern
theorem Jep (v:Value) (j:TypeId) (w:World):(Instr.typeAssert (.iface 112 v) j 201 true).run prog w=.ok (.tuple #[.nilIface,.bool false]) w:=run_typeAssert_lacksB underlying201 (by kernel_rfl) (by kernel_rfl) v j w
theorem JbT (v:Value) (j:TypeId) (w:World):(Instr.typeAssert (.iface 112 v) j 197 true).run prog w=.ok (.tuple #[.iface 112 v,.bool true]) w:=run_typeAssert_hasB underlying197 (by kernel_rfl) v j w
theorem Jbf (v:Value) (w:World):(Go.method 383 112 v "Unwrap").run prog w=.ok (203,v) w:=by kernel_rfl
theorem JcD (y:Nat) (b:Addr) (w:World) (h1:w.cell? ⟨y,1,none⟩=some (.iface 252 (.pointer (some b)))) :
 Calls prog 60 #[.iface 112 (.pointer (some ⟨y,0,none⟩)),.iface 252 (.pointer (some b))] w fun e w'=>e=.returned (.bool true)/\w'=w:=by
 obtain ⟨i,D,G⟩:=Option.map_eq_some_iff.1 JbU
 obtain ⟨j,I,J⟩:=Option.map_eq_some_iff.1 JbV
 have K:=@run_callFunc_extern prog 87 _ Extern.ReflectliteType.typeOf func87 (by kernel_rfl) (by kernel_rfl) (by kernel_rfl) (by kernel_rfl)
 have M:=@run_callFunc_extern prog 209 _ R2 func209 (by kernel_rfl) (by kernel_rfl) (by kernel_rfl) (by kernel_rfl)
 have N:=O5
 have O:=Jaz
 have Q:=Jag
 have U:=Jep
 have W:=JbT
 have X:=Jbf
 have Y:=run_eql_iface_ptr_same (P:=prog) w b underlying33 underlying252 D G I
 have Z:=run_eql_iface_types (P:=prog) 112 252 (.pointer (some ⟨y,0,none⟩)) (.pointer (some b)) underlying33 (by decide) w
 go_enter func60,ntmps60
 go_wp2
 refine wp_loop_rounds 2 ?_
 rw [rounds_succ]
 go_wp2
 rw [rounds_succ]
 go_wp2
 go_ret
 exact ⟨rfl,rfl⟩
theorem Jci (y:Nat) (a b:Addr) (K M:Array Value) (N O:TypeId) (w:World) (h1:w.cell? ⟨y,1,none⟩=some (.iface 252 (.pointer (some a)))) (Q:a≠b) (U:w.heap[a.block]?=some (.cells K N (0,0))) (W:w.heap[b.block]?=some (.cells M O (0,0))) :
 Calls prog 60 #[.iface 112 (.pointer (some ⟨y,0,none⟩)),.iface 252 (.pointer (some b))] w fun e w'=>e=.returned (.bool false)/\w'=w:=by
 obtain ⟨i,D,G⟩:=Option.map_eq_some_iff.1 JbU
 obtain ⟨j,I,J⟩:=Option.map_eq_some_iff.1 JbV
 have X:=@run_callFunc_extern prog 87 _ Extern.ReflectliteType.typeOf func87 (by kernel_rfl) (by kernel_rfl) (by kernel_rfl) (by kernel_rfl)
 have Y:=@run_callFunc_extern prog 209 _ R2 func209 (by kernel_rfl) (by kernel_rfl) (by kernel_rfl) (by kernel_rfl)
 have Z:=O5
 have cT:=Jaz
 have mR:=Jag
 have nE:=Jeq
 have uE:=Jbp
 have vE:=Jbc
 have nW:=Jep
 have uW:=JbT
 have mU:=Jbf
 have a0:=run_eql_iface_ptr_other (P:=prog) w underlying33 underlying252 D G I (by rw [J];decide) Q U W
 have a1:=run_eql_iface_types (P:=prog) 112 252 (.pointer (some ⟨y,0,none⟩)) (.pointer (some b)) underlying33 (by decide) w
 go_enter func60,ntmps60
 go_wp2
 refine wp_loop_rounds 2 ?_
 rw [rounds_succ]
 go_wp2
 rw [rounds_succ]
 go_wp2
 go_ret
 exact ⟨rfl,rfl⟩
theorem JeB (v:Value) (w:World):(ReflectliteType.typeOf #[.iface 112 v]).run prog w=.ok (.iface 190 (.agg #[.pointer (some ⟨17,112,none⟩)])) w:=by kernel_rfl
theorem JcO (w:World):(ReflectliteType.relation "AssignableTo" ReflectliteType.assignableTo #[.agg #[.pointer (some ⟨17,112,none⟩)],.iface 190 (.agg #[.pointer (some ⟨17,112,none⟩)])]).run prog w=.ok (.bool true) w:=by kernel_rfl
theorem Jei (e:Addr) (w:World):(ReflectliteValue.unpack (.iface 112 (.pointer (some e)))).run prog w
 = .ok (.agg #[.pointer (some ⟨17,112,none⟩),.pointer (some ⟨w.heap.size,0,none⟩),.int .u64 150]) (w.alloc (.cells #[.pointer (some e)] 112)):=by kernel_rfl
theorem Jej (w:World):(Rtype.elem? 114).run prog w=.ok (some 112) w:=by kernel_rfl
theorem mkF (p:Addr) (w:World):(ReflectliteValue.mk 112 p ReflectliteValue.flagAddr).run prog w=.ok (.agg #[.pointer (some ⟨17,112,none⟩),.pointer (some p),.int .u64 406]) w:=by kernel_rfl
theorem JeC (a p:Addr) (W:World) (j:W.cell? a=some (.pointer (some p))) :
 (ReflectliteValue.method (ReflectliteValue.valueError "reflectlite.Value.Elem" 0) ReflectliteValue.elem #[.agg #[.pointer (some ⟨17,114,none⟩),.pointer (some a),.int .u64 150]]).run prog W
  = .ok (.agg #[.pointer (some ⟨17,112,none⟩),.pointer (some p),.int .u64 406]) W:=by
 rw [rlm]
 simp only [Sem.run_bind,JcT,Result.andThen]
 simp [ReflectliteValue.elem,loadVar,isAgg,underlying,underlying114,j,Result.andThen,Jej,mkF]
theorem JeD (a:Addr) (w:World):(ReflectliteValue.parts (.agg #[.pointer (some ⟨17,112,none⟩),.pointer (some a),.int .u64 406])).run prog w=.ok (some (112,a,406)) w:=by kernel_rfl
theorem JeJ (a:Addr) (w:World):(ReflectliteValue.parts (.agg #[.pointer (some ⟨17,112,none⟩),.pointer (some a),.int .u64 150])).run prog w=.ok (some (112,a,150)) w:=by kernel_rfl
theorem JeE (w:World):(Rtype.directlyAssignable 112 112).run prog w=.ok true w:=by kernel_rfl
theorem JeP (j b e:Addr) (y:Value) (W:World) (D:W.cell? b=some (.pointer (some e))) (G:W.cell? j=some y) (I:W.frozen? j=false) :
 (ReflectliteValue.set #[.agg #[.pointer (some ⟨17,112,none⟩),.pointer (some j),.int .u64 406],.agg #[.pointer (some ⟨17,112,none⟩),.pointer (some b),.int .u64 150]]).run prog W
  = .ok (.tuple #[]) (W.setCell j (.pointer (some e))):=by
 delta ReflectliteValue.set ReflectliteValue.set.match_3
 dsimp only [Array.casesOn,Array.rec]
 rw [dif_pos (show (#[_,_]:Array Value).size=2 from rfl)]
 simp only [Array.getLit,List.getElem_toArray,List.getElem_cons_zero,List.getElem_cons_succ,Sem.run_bind,JeD,JeJ,Result.andThen]
 simp [ReflectliteValue.flagAddr,loadVar,isAgg,underlying,underlying112,D,Result.andThen,JeE,storeVar,Value.cells,storeCells,Addr.add]
 rw [run_store prog W j _ _ (by rfl)]
 simp [G,I]
theorem JeK (e t:Addr) (D:Value) (w:World) (G:w.cell? ⟨12,0,none⟩=some (.iface 190 (.agg #[.pointer (some ⟨17,33,none⟩)]))) (I:w.cell? t=some D) (M:w.frozen? t=false) :
 Calls prog 59 #[.iface 112 (.pointer (some e)),.iface 114 (.pointer (some t))] w fun J w'=>J=.returned (.bool true)/\∃ j,Below w.heap.size w j/\w'=j.setCell t (.pointer (some e)):=by
 have N:=@run_callFunc_extern prog 83 _ (fun args=>ReflectliteValue.unpack (args.getD 0 (.tuple #[]))) func83 (by kernel_rfl) (by kernel_rfl) (by kernel_rfl) (by kernel_rfl)
 have O:=@run_callFunc_extern prog 84 _ (ReflectliteValue.methodAny (ReflectliteValue.valueError "reflectlite.Value.Type" 0) (fun t _ _ _=>ReflectliteType.toType t)) func84 (by kernel_rfl) (by kernel_rfl) (by kernel_rfl) (by kernel_rfl)
 have Q:=@run_callFunc_extern prog 85 _ (ReflectliteValue.method (ReflectliteValue.valueError "reflectlite.Value.IsNil" 0) ReflectliteValue.isNil) func85 (by kernel_rfl) (by kernel_rfl) (by kernel_rfl) (by kernel_rfl)
 have U:=@run_callFunc_extern prog 199 _ (ReflectliteType.abiMethod fun t=>do pure (.int .u8 (<- Rtype.kind t))) func199 (by kernel_rfl) (by kernel_rfl) (by kernel_rfl) (by kernel_rfl)
 have W:=@run_callFunc_extern prog 210 _ (ReflectliteType.method ReflectliteType.elem) func210 (by kernel_rfl) (by kernel_rfl) (by kernel_rfl) (by kernel_rfl)
 have X:=@run_callFunc_extern prog 211 _ (ReflectliteType.relation "Implements" ReflectliteType.implements_) func211 (by kernel_rfl) (by kernel_rfl) (by kernel_rfl) (by kernel_rfl)
 have Y:=@run_callFunc_extern prog 87 _ ReflectliteType.typeOf func87 (by kernel_rfl) (by kernel_rfl) (by kernel_rfl) (by kernel_rfl)
 have Z:=@run_callFunc_extern prog 208 _ (ReflectliteType.relation "AssignableTo" ReflectliteType.assignableTo) func208 (by kernel_rfl) (by kernel_rfl) (by kernel_rfl) (by kernel_rfl)
 have a0:=@run_callFunc_extern prog 119 _ (ReflectliteValue.method (ReflectliteValue.valueError "reflectlite.Value.Elem" 0) ReflectliteValue.elem) func119 (by kernel_rfl) (by kernel_rfl) (by kernel_rfl) (by kernel_rfl)
 have a1:=@run_callFunc_extern prog 120 _ ReflectliteValue.set func120 (by kernel_rfl) (by kernel_rfl) (by kernel_rfl) (by kernel_rfl)
 have tO:=JeB
 have mA:=JaK
 have aF:=JcO
 have vF:=Jei
 have f6:=Jcc
 have f7:=JdR
 have mK:=JbW
 have mE:=JbX
 have mI:=JaX
 have a2:=JdS
 have kF:=Jer
 have a3:=JdT
 have iF:=JbA
 have n8:=JcU ⟨w.heap.size,0,none⟩ t ((w.alloc (.cells #[.pointer (some t)] 114)).alloc (.cells #[.pointer (some ⟨17,114,none⟩),.pointer (some ⟨w.heap.size,0,none⟩),.int .u64 150] 149)) (by simp)
 have K:=Qf G
 have a4:((w.alloc (.cells #[.pointer (some t)] 114)).alloc (.cells #[.pointer (some ⟨17,114,none⟩),.pointer (some ⟨w.heap.size,0,none⟩),.int .u64 150] 149)).cell? ⟨12,0,none⟩=some (.iface 190 (.agg #[.pointer (some ⟨17,33,none⟩)])):=by
  rw [World.cell?_alloc_lt _ _ ⟨12,0,none⟩ (by simp;omega),World.cell?_alloc_lt _ _ ⟨12,0,none⟩ K];exact G
 have y:t.block < w.heap.size:=by
  rcases Nat.lt_or_ge t.block w.heap.size with h | h
  ·exact h
  ·simp [World.cell?,Array.getElem?_eq_none h] at I
 have el:=JeC ⟨w.heap.size,0,none⟩ t (((w.alloc (.cells #[.pointer (some t)] 114)).alloc (.cells #[.pointer (some ⟨17,114,none⟩),.pointer (some ⟨w.heap.size,0,none⟩),.int .u64 150] 149)).alloc (.cells #[.pointer (some ⟨17,114,none⟩),.pointer (some ⟨w.heap.size,0,none⟩),.int .u64 150] 149)) (by rw [World.cell?_alloc_lt _ _ ⟨w.heap.size,0,none⟩ (by simp;omega)];simp)
 have st:=JeP t ⟨w.heap.size+1+1+1,0,none⟩ e D ((((w.alloc (.cells #[.pointer (some t)] 114)).alloc (.cells #[.pointer (some ⟨17,114,none⟩),.pointer (some ⟨w.heap.size,0,none⟩),.int .u64 150] 149)).alloc (.cells #[.pointer (some ⟨17,114,none⟩),.pointer (some ⟨w.heap.size,0,none⟩),.int .u64 150] 149)).alloc (.cells #[.pointer (some e)] 112))
  (by rw [World.cell?_alloc_at _ _ _ _ (by simp)];rfl)
  (by rw [World.cell?_alloc_lt _ _ t (by simp;omega),World.cell?_alloc_lt _ _ t (by simp;omega),World.cell?_alloc_lt _ _ t (by simp;omega),World.cell?_alloc_lt _ _ t y];exact I)
  (by rw [World.frozen?_alloc_old _ _ t (by simp;omega),World.frozen?_alloc_old _ _ t (by simp;omega),World.frozen?_alloc_old _ _ t (by simp;omega),World.frozen?_alloc_old _ _ t (Nat.ne_of_lt y)];exact M)
 go_enter func59,ntmps59
 go_wp2
 refine wp_loop_rounds 1 ?_
 rw [rounds_succ]
 go_wp2
 go_ret
 exact ⟨rfl,_,((((Below.refl _ _).alloc (Nat.le_refl _) _).alloc (by simp) _).alloc (by simp;omega) _).alloc (by simp;omega) _,rfl⟩
end
section
open Go.Extern.Stop Go.Stop Go.Extern
theorem JcC (ad:Nat->Addr) (i j:Nat) (at_:Int) (hi:i < 12) (w:World) (hS:x3 w ad) (h0:w.cell? ⟨j,0,none⟩=some (.int .i64 at_)) (h1:w.cell? ⟨j,1,none⟩=some (.iface 252 (.pointer (some (ad i))))) :
 Calls prog 38 #[.iface 112 (.pointer (some ⟨j,0,none⟩))] w fun e w'=>e=.returned (.tuple #[.int .i64 ((i+1:Nat):Int),.int .i64 at_])/\Below w.heap.size w w':=by
 have J:j < w.heap.size:=Qf h0
 have O:Below w.heap.size w (w.alloc (.cells #[.pointer none] 112)):=(Below.refl _ _).alloc (Nat.le_refl _) _
 have a1:=hS.below O
 have Q:(w.alloc (.cells #[.pointer none] 112)).cell? ⟨w.heap.size,0,none⟩=some (.pointer none):=by simp
 have a2:(w.alloc (.cells #[.pointer none] 112)).frozen? ⟨w.heap.size,0,none⟩=false:=by simp
 go_enter func38,ntmps38
 go_wp2_with fail
 refine (JeK ⟨j,0,none⟩ ⟨w.heap.size,0,none⟩ (.pointer none) _ a1.S5 Q a2).mono ?_
 rintro e D ⟨rfl,wx,U,W⟩
 have G:Below w.heap.size w D:=by rw [W];exact (O.trans (U.mono (by simp))).setCell (Nat.le_refl _) _
 have X:=hS.below G
 have b0:D.cell? ⟨w.heap.size,0,none⟩=some (.pointer (some ⟨j,0,none⟩)):=by
  rw [W]
  exact World.cell?_setCell_same wx ⟨w.heap.size,0,none⟩ _ ((U.cell (p:=⟨w.heap.size,0,none⟩) (by simp)).trans Q)
 have b1:D.cell? ⟨j,0,none⟩=some (.int .i64 at_):=(G.cell (p:=⟨j,0,none⟩) J).trans h0
 have a3:D.cell? ⟨j,1,none⟩=some (.iface 252 (.pointer (some (ad i)))):=(G.cell (p:=⟨j,1,none⟩) J).trans h1
 have a4:j < D.heap.size:=Nat.lt_of_lt_of_le J G.size
 have Y:Hid (Below w.heap.size w D):=G
 clear W U wx G a1 O Q a2 h0 h1 hS J
 have b2:=X
 obtain ⟨c0,c1,c2,c3,c4,c5,c6,c7,c8,c9,oN,oP,_,_,_⟩:=b2
 go_wp2
 clear c0 c1 c2 c3 c4 c5 c6 c7 c8 c9 oN oP b0 b1
 have K:Below D.heap.size D (D.alloc (.cells (wH ad) 33)):=(Below.refl _ _).alloc (Nat.le_refl _) _
 have I:=X.below K
 have M:=Jbo ad D
 have N:=(K.cell (p:=⟨j,1,none⟩) a4).trans a3
 have Z:Hid (Below w.heap.size w (D.alloc (.cells (wH ad) 33))):=Y.out.trans (K.mono Y.out.size)
 unfold wH at I M Z N
 generalize D.alloc (.cells _ 33)=w3 at I M Z N ⊢
 clear K X Y a3 a4
 go_loop [3,30] (fun y x=>y=.int .i64 at_/\∃ k:Nat,k<=i/\x=.int .i64 k) (fun _ x=>12 - (intOf x).toNat)
 case atStart=>exact ⟨rfl,0,by omega,rfl⟩
 case round =>
  obtain ⟨rfl,k,hk,rfl⟩:=hrel
  have a0:k < 12:=by omega
  have hc:=M k a0
  obtain ⟨ca,ta,a5⟩:=I.row i hi
  obtain ⟨cb,tb,a6⟩:=I.row k a0
  have a7:Hid (w3.cell? ⟨j,1,none⟩=some (.iface 252 (.pointer (some (ad i))))):=N
  clear M N
  by_cases a8:k=i
  ·subst a8
   go_wp2_with (go_at_call 60;refine (JcD j (ad k) _ a7.out).mono ?_;rintro e w' ⟨rfl,rfl⟩)
   go_ret2
   exact ⟨by simp,Z.out⟩
  ·have a9:=I.ne i k hi a0 (fun h=>a8 h.symm)
   have HN:Hid (ad i≠ad k):=a9
   have HA:Hid (w3.heap[(ad i).block]?=some (.cells ca ta (0,0))):=a5
   have HB:Hid (w3.heap[(ad k).block]?=some (.cells cb tb (0,0))):=a6
   clear a9 a5 a6
   go_wp2_with (go_at_call 60;refine (Jci j (ad i) (ad k) ca cb ta tb _ a7.out HN.out HA.out HB.out).mono ?_;rintro e w' ⟨rfl,rfl⟩)
   go_round
   case rel=>exact ⟨rfl,k+1,by omega,by go_num⟩
   case measure=>simp [intOf];omega
theorem JeA (ad:Nat->Addr) (y:Value) (c at_:Int) (w:World) (D:x3 w ad) (K:Jd w ad y c at_) :
 Calls prog 38 #[y] w fun e w'=>e=.returned (.tuple #[.int .i64 c,.int .i64 at_])/\Below w.heap.size w w':=by
 rcases K with ⟨rfl,rfl,rfl⟩ | ⟨i,j,rfl,rfl,rfl⟩ | ⟨i,G,j,rfl,rfl,I,J⟩
 ·refine (Jee w).mono ?_
  rintro e w' ⟨rfl,rfl⟩
  exact ⟨rfl,Below.refl _ _⟩
 ·exact JdN ad i j w D
 ·exact JcC ad i G at_ j w D I J
end
section
open Go.Extern.Stop Go.Stop Go.Extern
theorem Jbj (ad:Nat->Addr) (O:Value) (c at_:Int) (w:World) (Y:x3 w ad) (Z:Jd w ad O c at_) :
 Calls prog 12 #[O,.agg #[.int .i64 c,.int .i64 at_]] w fun e w'=>e=.returned (.bool true)/\Below w.heap.size w w':=by
 obtain ⟨j,y⟩:∃ j,j=w.alloc (.cells #[.int .i64 c,.int .i64 at_] 39):=⟨_,rfl⟩
 have I:Below w.heap.size w j:=by rw [y];exact (Below.refl _ _).alloc (Nat.le_refl _) _
 have D:j.cell? ⟨w.heap.size,0,none⟩=some (.int .i64 c):=by rw [y,World.cell?_alloc_at _ _ _ _ rfl];rfl
 have G:j.cell? ⟨w.heap.size,1,none⟩=some (.int .i64 at_):=by rw [y,World.cell?_alloc_at _ _ _ _ rfl];rfl
 have Q:=JeA ad O c at_ j (Y.below I) (Z.below I)
 have U:Hid (j=w.alloc (.cells #[.int .i64 c,.int .i64 at_] 39)):=y
 have K:Hid (Below w.heap.size w j):=I
 have W:Hid (j.cell? ⟨w.heap.size,0,none⟩=some (.int .i64 c)/\j.cell? ⟨w.heap.size,1,none⟩=some (.int .i64 at_)/\w.heap.size < j.heap.size):=⟨D,G,by rw [y];simp⟩
 have HZ:Hid (c=0∨c≠0):=by
  show c=0∨c≠0
  omega
 clear y I D G Y Z
 go_enter func12,ntmps12
 go_wp2_with fail
 rw [<- U.out]
 refine Q.mono ?_
 rintro e w1 ⟨rfl,J⟩
 obtain ⟨D,G,M⟩:=W.out
 have r1:=(J.cell (p:=⟨w.heap.size,0,none⟩) M).trans D
 have r2:=(J.cell (p:=⟨w.heap.size,1,none⟩) M).trans G
 have X:Hid (Below w.heap.size w w1):=K.out.trans (J.mono K.out.size)
 clear Q J D G W K M U
 rcases HZ.out with N | N
 ·subst N
  go_wp2
  go_ret
  exact ⟨rfl,X.out⟩
 ·have a0 : (c == 0) = false := by
   rw [beq_eq_false_iff_ne]
   exact N
  go_wp2
  go_ret
  exact ⟨rfl,X.out⟩
end
section
variable {w w':World} {B:Nat} {S:Nat->Prop} {ab:Nat} {a:Za} {mv nv fv lv:Value} {vs:List Value}
theorem H7 (h:Xh w B S ab a mv nv fv lv vs):Calls prog 45 #[.pointer (some ⟨ab,0,none⟩)] w fun e w'=>e=.returned (.string a.st.waits)/\w'=w:=by
 have j:w.cell? ⟨ab,13,none⟩=some (.string a.st.word):=h.cell 13
 clear h
 generalize a.st=st at *
 cases st with
 | looking =>
  have q:w.cell? ⟨ab,13,none⟩=some (.string ⟨#[108,111,111,107,105,110,103]⟩):=j
  clear j
  go_enter func45,ntmps45
  go_wp2
  go_ret
  exact ⟨rfl,rfl⟩
 | sealing =>
  have q:w.cell? ⟨ab,13,none⟩=some (.string ⟨#[115,101,97,108,105,110,103]⟩):=j
  clear j
  go_enter func45,ntmps45
  go_wp2
  go_ret
  exact ⟨rfl,rfl⟩
 | keeping =>
  have q:w.cell? ⟨ab,13,none⟩=some (.string ⟨#[107,101,101,112,105,110,103]⟩):=j
  clear j
  go_enter func45,ntmps45
  go_wp2
  go_ret
  exact ⟨rfl,rfl⟩
 | done =>
  have q:w.cell? ⟨ab,13,none⟩=some (.string ⟨#[100,111,110,101]⟩):=j
  clear j
  go_enter func45,ntmps45
  go_wp2
  go_ret
  exact ⟨rfl,rfl⟩
 | refused =>
  have q:w.cell? ⟨ab,13,none⟩=some (.string ⟨#[114,101,102,117,115,101,100]⟩):=j
  clear j
  go_enter func45,ntmps45
  go_wp2
  go_ret
  exact ⟨rfl,rfl⟩
def Za.msg (a:Za) (kind:ByteArray) (j:Bool) (i:Nat):Zb:=⟨a.name,Yc a.c.L i,kind,a.key,a.op,a.config,false,if j then [a.sQ i] else []⟩
theorem Jbr (a:Za) (kind:ByteArray) (j:Bool):a.send kind j=(List.range a.c.L.length).map (a.msg kind j):=rfl
theorem Ja2 (f:Nat->α) (i:Nat):(List.range (i+1)).map f=(List.range i).map f ++ [f i]:=by rw [List.range_succ,List.map_append];rfl
theorem JbS (h:Xh w B S ab a mv nv fv lv vs) (kind:ByteArray) (hl:a.c.L.length<=1000):Calls prog 43 #[.pointer (some ⟨ab,0,none⟩),.string kind,.bool false] w fun e w'=>(∃ p c,e=.returned (.slice p (a.send kind false).length c)/\mN w' p (a.send kind false))/\Below w.heap.size w w':=by
 have b6:Hid (Xh w B S ab a mv nv fv lv vs):=h
 obtain ⟨mp,mc,b7,a4,e9,f3,d2⟩:=h.mem.at_
 subst b7
 have f4:ab < w.heap.size:=(h.aO ab h.self).2
 have a5:Hid (∀ W,Below w.heap.size w W->(W.cell? ⟨ab,0,none⟩=some (.string a.name)/\W.cell? ⟨ab,1,none⟩=some (.string a.key)/\W.cell? ⟨ab,3,none⟩=some (.int .i64 a.op)/\W.cell? ⟨ab,4,none⟩=some (.int .i64 a.config)/\W.cell? ⟨ab,7,none⟩=some (.slice mp a.c.L.length mc))/\Strs W mp a.c.L):=fun W hW=>by
  have J:=b6.out.below hW
  exact ⟨⟨J.cell 0,J.cell 1,J.cell 3,J.cell 4,J.cell 7⟩,a4.below hW⟩
 have d5:Hid ((a.send kind false).length=a.c.L.length):=by show _=_;rw [Jbr,List.length_map,List.length_range]
 have d6:Hid (a.send kind false=(List.range a.c.L.length).map (a.msg kind false)):=Jbr a kind false
 obtain ⟨f,O⟩:∃ f:Nat->Zb×Lv,f=fun i=>(a.msg kind false i,(none,0,0)):=⟨_,rfl⟩
 have HF:Hid (∀ i,f i=(a.msg kind false i,(none,0,0))):=fun i=>by rw [O]
 have d8:Hid (∀ W,∀ x ∈ (List.range a.c.L.length).map f,Jn W x):=fun W x hx=>by
  obtain ⟨i,_,rfl⟩:=List.mem_map.1 hx
  rw [O]
  exact ⟨rfl,Ql.nil _ _,Nat.le_refl _,fun _=>⟨rfl,rfl⟩⟩
 have d9:Hid (((List.range a.c.L.length).map f).map Prod.fst=a.send kind false):=by
  show _=_
  rw [d6.out,List.map_map,O]
  rfl
 rw [d5.out]
 clear h a4 d2 O
 obtain ⟨⟨c0,c1,c3,c4,c7⟩,_⟩:=a5.out w (Below.refl _ _)
 go_enter func43,ntmps43
 go_wp2
 go_loopw [8,9] (fun v x wr=>∃ i:Nat,i<=a.c.L.length/\x=.int .i64 i/\Zc mE 59 wr w.heap.size v ((List.range i).map f)/\Below w.heap.size w wr) (fun _ x _=>a.c.L.length - (intOf x).toNat)
 case atStart=>exact ⟨0,Nat.zero_le _,rfl,Zc.nil _ _ _,Below.refl _ _⟩
 case round =>
  obtain ⟨i,hi,rfl,Z,hB⟩:=hrel
  obtain ⟨y,rfl⟩:∃ y,y=wr:=⟨_,rfl⟩
  obtain ⟨K,Q,rfl,a6,f5,e0,_⟩:=Z.form
  have f6:((List.range i).map f).length<=1000:=by rw [List.length_map,List.length_range];omega
  have HO:Hid (Zc mE 59 y w.heap.size (.slice K ((List.range i).map f).length Q) ((List.range i).map f)):=Z
  have U:Hid (Below w.heap.size w y):=hB
  have a7:Hid (Ql mE y K ((List.range i).map f)):=a6
  obtain ⟨⟨d0,d1,d3,d4,d7⟩,a8⟩:=a5.out y hB
  have f7:w.heap.size<=y.heap.size:=hB.size
  clear Z a6 e0 c0 c1 c3 c4 c7
  by_cases a0:i < a.c.L.length
  ·rcases a8 with h0 | ⟨b,o,e1,f8,a9⟩
   ·rw [h0] at a0;exact absurd a0 (Nat.not_lt_zero _)
   have q1:=a9 i a0
   have HT:Hid ((List.range (i+1)).map f=(List.range i).map f ++ [f i]):=Ja2 f i
   have b0:Hid (f i=(⟨a.name,Yc a.c.L i,kind,a.key,a.op,a.config,false,[]⟩,(none,0,0))):=HF.out i
   have f9:ab < y.heap.size:=by omega
   subst e1
   clear a9 hB
   generalize Yc a.c.L i=t at *
   generalize (List.range i).map f=M at *
   go_wp2
   go_region
   obtain ⟨D,X⟩:∃ D,D=(y.alloc (.cells #[.string a.name,.string t,.string kind,.string a.key,.int .i64 a.op,.int .i64 a.config,.bool false,.slice none 0 0] 59)).drew:=⟨_,rfl⟩
   have a1:Below y.heap.size y D:=by rw [X];exact ((Below.refl _ _).alloc (Nat.le_refl _) _).drew
   have I:∀ j u,(#[Value.string a.name,.string t,.string kind,.string a.key,.int .i64 a.op,.int .i64 a.config,.bool false,.slice none 0 0])[j]?=some u->D.cell? ⟨y.heap.size,j,none⟩=some u:=fun j u Y=>by
    rw [X]
    show (y.alloc _).cell? ⟨y.heap.size,j,none⟩=some u
    rw [World.cell?_alloc_at _ _ _ _ rfl]
    exact Y
   have m0:=I 0 _ rfl
   have m1:=I 1 _ rfl
   have m2:=I 2 _ rfl
   have m3:=I 3 _ rfl
   have m4:=I 4 _ rfl
   have m5:=I 5 _ rfl
   have m6:=I 6 _ rfl
   have m7:=I 7 _ rfl
   obtain ⟨G,N⟩:∃ G,G=D.alloc (.cells #[.string a.name,.string t,.string kind,.string a.key,.int .i64 a.op,.int .i64 a.config,.bool false,.slice none 0 0] 59):=⟨_,rfl⟩
   have b1:Below D.heap.size D G:=by rw [N];exact (Below.refl _ _).alloc (Nat.le_refl _) _
   have a2:Below y.heap.size y G:=a1.trans (b1.mono a1.size)
   have e2:Hid (∀ j u,(mE.enc (f i))[j]?=some u->G.cell? ⟨D.heap.size,0+j,none⟩=some u):=fun j u Y=>by
    rw [N,World.cell?_alloc_at _ _ _ _ rfl,Nat.zero_add]
    rw [b0.out] at Y
    simpa [mE,Jw] using Y
   have e3:Hid (D=(y.alloc (.cells #[.string a.name,.string t,.string kind,.string a.key,.int .i64 a.op,.int .i64 a.config,.bool false,.slice none 0 0] 59)).drew):=X
   have e4:Hid (G=D.alloc (.cells #[.string a.name,.string t,.string kind,.string a.key,.int .i64 a.op,.int .i64 a.config,.bool false,.slice none 0 0] 59)):=N
   have b2:Hid (Zc mE 59 G w.heap.size (.slice K M.length Q) M):=HO.out.kept a2
   have a3:Hid (Below w.heap.size w G):=U.out.trans (a2.mono U.out.size)
   have b3:Hid (w.heap.size<=G.heap.size/\D.heap.size < G.heap.size):=⟨a3.out.size,by rw [N];simp⟩
   clear X N a1 b1 a2 I HO U a7 b0
   rw [<- e3.out]
   clear d0 d1 d3 d4 d7 q1
   go_wp2_with (first | rw [<- e4.out] | (at_builtin;refine wJ (E:=mE) rfl (.tmp 80) (.tmp 82) 27 59 rfl (.agg #[.string ⟨#[]⟩,.string ⟨#[]⟩,.string ⟨#[]⟩,.string ⟨#[]⟩,.int .i64 0,.int .i64 0,.bool false,.slice none 0 0]) 112 underlying27 JdF rfl w.heap.size (.slice K M.length Q) M rfl b2.out D.heap.size 0 1 (f i) rfl e2.out (by unfold maxLen;omega) (by omega) b3.out.1 b3.out.2 ?_;intro v5 w5 b4 b5))
   have e5:Hid (Zc mE 59 w5 w.heap.size v5 (M ++ [f i])):=b4
   have e6:Hid (Below w.heap.size w w5):=a3.out.trans b5
   clear b4 b5 b2 a3 m0 m1 m2 m3 m4 m5 m6 m7
   go_wp2
   go_roundw
   case rel=>exact ⟨i+1,by omega,by go_num,by rw [HT.out];exact e5.out,e6.out⟩
   case measure=>simp [intOf];omega
  ·have e7:i=a.c.L.length:=by omega
   subst e7
   clear a8 hB
   have e8:Hid (((List.range a.c.L.length).map f).length=a.c.L.length):=by show _=_;rw [List.length_map,List.length_range]
   rw [e8.out]
   go_wp2
   go_ret
   exact ⟨⟨K,Q,rfl,_,d9.out,a7.out,d8.out _⟩,U.out⟩
end
section
variable {w w':World} {B:Nat} {S:Nat->Prop} {ab:Nat} {a:Za} {mv nv fv lv:Value} {vs:List Value}
theorem Jd8 (h:Xh w B S ab a mv nv fv lv vs) (x:Zb×Lv) (hl:a.c.L.length<=1000) (e6:a.from_.length<=1000) (a0:a.aM x.1=false):Calls prog 20 #[.pointer (some ⟨ab,0,none⟩),.agg #[.string x.1.from_,.string x.1.aP,.string x.1.kind,.string x.1.key,.int .i64 x.1.op,.int .i64 x.1.config,.bool x.1.shut,.slice x.2.1 x.2.2.1 x.2.2.2]] w fun e w'=>e=.returned (.slice none 0 0)/\Below w.heap.size w w':=by
 obtain ⟨mp,Z,b6,b0,e4,b7,d6⟩:=h.mem.at_
 obtain ⟨fp,fc,d7,b1,e5,d8,_⟩:=h.from_.form
 subst b6 d7
 obtain ⟨⟨m1,m2,m3,m4,m5,m6,m7,mL⟩,lp,ln,lc⟩:=x
 dsimp only at *
 obtain ⟨j,M⟩:∃ j,j=w.alloc (.cells #[.string m1,.string m2,.string m3,.string m4,.int .i64 m5,.int .i64 m6,.bool m7,.slice lp ln lc] 59):=⟨_,rfl⟩
 have a1:Below w.heap.size w j:=by rw [M];exact (Below.refl _ _).alloc (Nat.le_refl _) _
 have Q:=h.below a1
 have D:=H7 Q
 have c0:j.cell? ⟨ab,0,none⟩=some (.string a.name):=Q.cell 0
 have c1:j.cell? ⟨ab,1,none⟩=some (.string a.key):=Q.cell 1
 have c3:j.cell? ⟨ab,3,none⟩=some (.int .i64 a.op):=Q.cell 3
 have c4:j.cell? ⟨ab,4,none⟩=some (.int .i64 a.config):=Q.cell 4
 have c7:j.cell? ⟨ab,7,none⟩=some (.slice mp a.c.L.length Z):=Q.cell 7
 have a4:j.cell? ⟨ab,14,none⟩=some (.slice fp a.from_.length fc):=Q.cell 14
 have d0:j.cell? ⟨w.heap.size,0,none⟩=some (.string m1):=by rw [M,World.cell?_alloc_at _ _ _ _ rfl];rfl
 have d1:j.cell? ⟨w.heap.size,1,none⟩=some (.string m2):=by rw [M,World.cell?_alloc_at _ _ _ _ rfl];rfl
 have d2:j.cell? ⟨w.heap.size,2,none⟩=some (.string m3):=by rw [M,World.cell?_alloc_at _ _ _ _ rfl];rfl
 have d3:j.cell? ⟨w.heap.size,3,none⟩=some (.string m4):=by rw [M,World.cell?_alloc_at _ _ _ _ rfl];rfl
 have d4:j.cell? ⟨w.heap.size,4,none⟩=some (.int .i64 m5):=by rw [M,World.cell?_alloc_at _ _ _ _ rfl];rfl
 have d5:j.cell? ⟨w.heap.size,5,none⟩=some (.int .i64 m6):=by rw [M,World.cell?_alloc_at _ _ _ _ rfl];rfl
 have a5:Hid (∀ W,Below j.heap.size j W->Strs W mp a.c.L):=fun W N=>(b0.below a1).below N
 have a7:Hid (∀ W,Below j.heap.size j W->Strs W fp a.from_):=fun W N=>(b1.below a1).below N
 have U:Hid (j=w.alloc (.cells #[.string m1,.string m2,.string m3,.string m4,.int .i64 m5,.int .i64 m6,.bool m7,.slice lp ln lc] 59)):=M
 have K:Hid (Below w.heap.size w j):=a1
 have O:a.st.waits=⟨#[]⟩∨m3≠a.st.waits∨m2≠a.name∨m4≠a.key∨m5≠a.op∨m6≠a.config∨m1 ∉ a.c.L∨m1 ∈ a.from_:=by
  unfold Za.aM at a0
  by_cases X:a.st.waits=⟨#[]⟩
  ·exact Or.inl X
  by_cases g1:m3=a.st.waits
  ·by_cases g2:m2=a.name
   ·by_cases g3:m4=a.key
    ·by_cases g4:m5=a.op
     ·by_cases g5:m6=a.config
      ·rw [decide_eq_true ⟨X,g1,g2,g3,g4,g5⟩,Bool.true_and] at a0
       by_cases Y:m1 ∈ a.c.L
       ·rw [Zl.2 Y,Bool.true_and] at a0
        right;right;right;right;right;right;right
        cases hq:Xu a.from_ m1 with
        | true=>exact Zl.1 hq
        | false=>rw [hq] at a0;cases a0
       ·right;right;right;right;right;right;left;exact Y
      ·right;right;right;right;right;left;exact g5
     ·right;right;right;right;left;exact g4
    ·right;right;right;left;exact g3
   ·right;right;left;exact g2
  ·right;left;exact g1
 clear h b0 d6 b1 d8 b7 a1 M Q a0
 generalize a.st.waits=wt at *
 generalize a.name=nm at *
 generalize a.key=ky at *
 generalize a.op=b2 at *
 generalize a.config=b3 at *
 by_cases X:wt=⟨#[]⟩
 ·subst X
  clear O
  go_enter func20,ntmps20
  go_wp2_with (first | rw [<- U.out] | fail)
  refine D.mono ?_
  rintro e G ⟨rfl,y⟩
  rw [y]
  clear y G D
  go_wp2
  go_quiet (fail)
  go_wp2
  go_ret
  exact ⟨rfl,below_drewN K.out _⟩
 ·skip
  have t0:=XT X
  have u0:=YT X
  have v0:=Y8 X
  have e0:(⟨#[]⟩:ByteArray).toList=[]:=by decide +kernel
  rw [e0] at t0 u0
  by_cases g1:m3=wt
  ·subst g1
   by_cases g2:m2=nm
   ·subst g2
    by_cases g3:m4=ky
    ·subst g3
     by_cases g4:m5=b2
     ·subst g4
      by_cases g5:m6=b3
      ·subst g5
       have a8:m1 ∉ a.c.L∨m1 ∈ a.from_:=by
        rcases O with h | h | h | h | h | h | h
        ·exact absurd h X
        ·exact absurd rfl h
        ·exact absurd rfl h
        ·exact absurd rfl h
        ·exact absurd rfl h
        ·exact absurd rfl h
        ·exact h
       by_cases Y:m1 ∈ a.c.L
       ·have g7:m1 ∈ a.from_:=by rcases a8 with h | h;exact absurd Y h;exact h
        have a9:Hid (∀ W,Below j.heap.size j W->Calls prog 46 #[.slice mp a.c.L.length Z,.string m1] W fun e w'=>e=.returned (.int .i64 ((ZJ a.c.L m1:Nat):Int))/\w'=W):=fun W N=>wS mp a.c.L Z m1 W (by omega) (a5.out W N) Y
        have d9:Hid (∀ W,Below j.heap.size j W->Calls prog 46 #[.slice fp a.from_.length fc,.string m1] W fun e w'=>e=.returned (.int .i64 ((ZJ a.from_ m1:Nat):Int))/\w'=W):=fun W N=>wS fp a.from_ fc m1 W (by omega) (a7.out W N) g7
        clear O a8 Y g7 a5 a7
        generalize ZJ a.c.L m1=j1 at *
        generalize ZJ a.from_ m1=j2 at *
        have n1:decide ((j1:Int) < 0)=false:=decide_eq_false (by omega)
        have n2:decide ((0:Int)<=(j2:Int))=true:=decide_eq_true (by omega)
        go_enter func20,ntmps20
        go_wp2_with (first | rw [<- U.out] | fail)
        refine D.mono ?_
        rintro e G ⟨rfl,y⟩
        rw [y]
        clear y G D
        go_wp2
        go_quiet (fail)
        generalize I:World.drewN j _=J
        have e1:J.cell? ⟨ab,7,none⟩=some (.slice mp a.c.L.length Z):=by rw [<- I];exact c7
        have e2:J.cell? ⟨ab,14,none⟩=some (.slice fp a.from_.length fc):=by rw [<- I];exact a4
        have e3:J.cell? ⟨w.heap.size,0,none⟩=some (.string m1):=by rw [<- I];exact d0
        have a2:Below j.heap.size j J:=by rw [<- I];exact below_drewN (Below.refl _ _) _
        have a3:Hid (Below j.heap.size j J):=a2
        have a6:=a3.out
        clear I c0 c1 c3 c4 c7 a4 d0 d1 d2 d3 d4 d5 a2
        go_wp2
        go_quiet (first | (go_at_call 46;with_reducible exact Calls.quiet_of_same (a9.out _ (below_drewN a6 _))) | (go_at_call 46;with_reducible exact Calls.quiet_of_same (d9.out _ (below_drewN a6 _))))
        go_wp2
        go_ret
        exact ⟨rfl,below_drewN (K.out.trans (a3.out.mono K.out.size)) _⟩
       ·have a9:Hid (∀ W,Below j.heap.size j W->Calls prog 46 #[.slice mp a.c.L.length Z,.string m1] W fun e w'=>e=.returned (.int .i64 (-1))/\w'=W):=fun W N=>BL mp a.c.L Z m1 W (by omega) (a5.out W N) Y
        clear O a8 Y a5 a7
        go_enter func20,ntmps20
        go_wp2_with (first | rw [<- U.out] | fail)
        refine D.mono ?_
        rintro e G ⟨rfl,y⟩
        rw [y]
        clear y G D
        go_wp2
        go_quiet (fail)
        generalize I:World.drewN j _=J
        have e1:J.cell? ⟨ab,7,none⟩=some (.slice mp a.c.L.length Z):=by rw [<- I];exact c7
        have e2:J.cell? ⟨ab,14,none⟩=some (.slice fp a.from_.length fc):=by rw [<- I];exact a4
        have e3:J.cell? ⟨w.heap.size,0,none⟩=some (.string m1):=by rw [<- I];exact d0
        have a2:Below j.heap.size j J:=by rw [<- I];exact below_drewN (Below.refl _ _) _
        have a3:Hid (Below j.heap.size j J):=a2
        have a6:=a3.out
        clear I c0 c1 c3 c4 c7 a4 d0 d1 d2 d3 d4 d5 a2
        go_wp2
        go_quiet ((go_at_call 46;exact Calls.quiet_of_same (a9.out _ (below_drewN a6 _))))
        go_wp2
        go_ret
        exact ⟨rfl,below_drewN (K.out.trans (a3.out.mono K.out.size)) _⟩
      ·have b5:(m6==b3)=false:=by rw [beq_eq_false_iff_ne];exact g5
       clear O
       go_enter func20,ntmps20
       go_wp2_with (first | rw [<- U.out] | fail)
       refine D.mono ?_
       rintro e G ⟨rfl,y⟩
       rw [y]
       clear y G D
       go_wp2
       go_quiet (fail)
       go_wp2
       go_ret
       exact ⟨rfl,below_drewN K.out _⟩
     ·have b4:(m5==b2)=false:=by rw [beq_eq_false_iff_ne];exact g4
      clear O
      go_enter func20,ntmps20
      go_wp2_with (first | rw [<- U.out] | fail)
      refine D.mono ?_
      rintro e G ⟨rfl,y⟩
      rw [y]
      clear y G D
      go_wp2
      go_quiet (fail)
      go_wp2
      go_ret
      exact ⟨rfl,below_drewN K.out _⟩
    ·skip
     have t3:=XT g3
     have u3:=YT g3
     have v3:=Y8 g3
     clear O
     go_enter func20,ntmps20
     go_wp2_with (first | rw [<- U.out] | fail)
     refine D.mono ?_
     rintro e G ⟨rfl,y⟩
     rw [y]
     clear y G D
     go_wp2
     go_quiet (fail)
     go_wp2
     go_ret
     exact ⟨rfl,below_drewN K.out _⟩
   ·skip
    have t2:=XT g2
    have u2:=YT g2
    have v2:=Y8 g2
    clear O
    go_enter func20,ntmps20
    go_wp2_with (first | rw [<- U.out] | fail)
    refine D.mono ?_
    rintro e G ⟨rfl,y⟩
    rw [y]
    clear y G D
    go_wp2
    go_quiet (fail)
    go_wp2
    go_ret
    exact ⟨rfl,below_drewN K.out _⟩
  ·skip
   have t1:=XT g1
   have u1:=YT g1
   have v1:=Y8 g1
   clear O
   go_enter func20,ntmps20
   go_wp2_with (first | rw [<- U.out] | fail)
   refine D.mono ?_
   rintro e G ⟨rfl,y⟩
   rw [y]
   clear y G D
   go_wp2
   go_quiet (fail)
   go_wp2
   go_ret
   exact ⟨rfl,below_drewN K.out _⟩
end
section
variable {w w':World} {B:Nat} {S:Nat->Prop} {ab:Nat} {a:Za} {mv nv fv lv:Value} {vs:List Value}
theorem Jch (h:Xh w B S ab a mv nv fv lv vs) (x:Zb×Lv) (hl:a.c.L.length<=1000) (h0:a.from_.length<=1000) (a0:a.aM x.1=true) (e9:x.1.shut=true) (a1:a.st≠.sealing):Calls prog 20 #[.pointer (some ⟨ab,0,none⟩),.agg #[.string x.1.from_,.string x.1.aP,.string x.1.kind,.string x.1.key,.int .i64 x.1.op,.int .i64 x.1.config,.bool x.1.shut,.slice x.2.1 x.2.2.1 x.2.2.2]] w fun e w'=>e=.returned (.slice none 0 0)/\Xh w' B S ab { a with st:=.refused } mv nv fv lv vs/\Yd S S w w':=by
 obtain ⟨mp,O,b5,a2,f3,b6,b7⟩:=h.mem.at_
 obtain ⟨M,Q,d7,a3,f4,d8,_⟩:=h.from_.form
 have a4:Hid (Xh w B S ab a mv nv fv lv vs):=h
 subst b5 d7
 obtain ⟨⟨m1,m2,m3,Z,m5,m6,m7,mL⟩,lp,ln,lc⟩:=x
 dsimp only at *
 subst e9
 obtain ⟨j,D⟩:∃ j,j=w.alloc (.cells #[.string m1,.string m2,.string m3,.string Z,.int .i64 m5,.int .i64 m6,.bool true,.slice lp ln lc] 59):=⟨_,rfl⟩
 have K:Below w.heap.size w j:=by rw [D];exact (Below.refl _ _).alloc (Nat.le_refl _) _
 have y:=h.below K
 have a5:=H7 y
 have c0:j.cell? ⟨ab,0,none⟩=some (.string a.name):=y.cell 0
 have c1:j.cell? ⟨ab,1,none⟩=some (.string a.key):=y.cell 1
 have c3:j.cell? ⟨ab,3,none⟩=some (.int .i64 a.op):=y.cell 3
 have c4:j.cell? ⟨ab,4,none⟩=some (.int .i64 a.config):=y.cell 4
 have c7:j.cell? ⟨ab,7,none⟩=some (.slice mp a.c.L.length O):=y.cell 7
 have a6:j.cell? ⟨ab,14,none⟩=some (.slice M a.from_.length Q):=y.cell 14
 have d0:j.cell? ⟨w.heap.size,0,none⟩=some (.string m1):=by rw [D,World.cell?_alloc_at _ _ _ _ rfl];rfl
 have d1:j.cell? ⟨w.heap.size,1,none⟩=some (.string m2):=by rw [D,World.cell?_alloc_at _ _ _ _ rfl];rfl
 have d2:j.cell? ⟨w.heap.size,2,none⟩=some (.string m3):=by rw [D,World.cell?_alloc_at _ _ _ _ rfl];rfl
 have d3:j.cell? ⟨w.heap.size,3,none⟩=some (.string Z):=by rw [D,World.cell?_alloc_at _ _ _ _ rfl];rfl
 have d4:j.cell? ⟨w.heap.size,4,none⟩=some (.int .i64 m5):=by rw [D,World.cell?_alloc_at _ _ _ _ rfl];rfl
 have d5:j.cell? ⟨w.heap.size,5,none⟩=some (.int .i64 m6):=by rw [D,World.cell?_alloc_at _ _ _ _ rfl];rfl
 have a7:Hid (∀ W,Below j.heap.size j W->Strs W mp a.c.L):=fun W G=>(a2.below K).below G
 have a8:Hid (∀ W,Below j.heap.size j W->Strs W M a.from_):=fun W G=>(a3.below K).below G
 have d9:Hid (j=w.alloc (.cells #[.string m1,.string m2,.string m3,.string Z,.int .i64 m5,.int .i64 m6,.bool true,.slice lp ln lc] 59)):=D
 have f5:Hid (Below w.heap.size w j):=K
 have d6:j.cell? ⟨w.heap.size,6,none⟩=some (.bool true):=by rw [D,World.cell?_alloc_at _ _ _ _ rfl];rfl
 have a9:j.cell? ⟨ab,13,none⟩=some (.string a.st.word):=y.cell 13
 have b0:j.frozen? ⟨ab,13,none⟩=false:=y.free 13
 have f6:¬ a.st.word.toList=[115,101,97,108,105,110,103]:=by cases hq:a.st <;> first | exact absurd hq a1 | decide +kernel
 have f7:(a.st.word.toList==[115,101,97,108,105,110,103])=false:=by cases hq:a.st <;> first | exact absurd hq a1 | decide +kernel
 have e1:Hid (∀ W,Below j.heap.size j W->Xh (W.setCell ⟨ab,13,none⟩ (.string ⟨#[114,101,102,117,115,101,100]⟩)) B S ab { a with st:=.refused } (.slice mp a.c.L.length O) nv (.slice M a.from_.length Q) lv vs/\Yd S S w (W.setCell ⟨ab,13,none⟩ (.string ⟨#[114,101,102,117,115,101,100]⟩))):=fun W G=>by
  have e2:=y.below G
  have U:Below w.heap.size w W:=K.trans (G.mono K.size)
  refine ⟨e2.set 13 _ rfl rfl rfl rfl rfl rfl rfl,⟨U.os,U.tape,U.output,by simpa [World.setCell] using U.size,fun k hk hs=>?_,fun k hk=>Or.inl hk⟩⟩
  exact (Below.heap_setCell W _ _ k (fun e=>hs (by rw [e];exact a4.out.self))).trans (U.block k hk)
 obtain ⟨g0,g1,g2,g3,g4,g5,g6,g7⟩:a.st.waits≠⟨#[]⟩/\m3=a.st.waits/\m2=a.name/\Z=a.key/\m5=a.op/\m6=a.config/\m1 ∈ a.c.L/\m1 ∉ a.from_:=by
  unfold Za.aM at a0
  rw [Bool.and_eq_true,Bool.and_eq_true] at a0
  obtain ⟨q1,q2,q3⟩:=a0
  have N:=of_decide_eq_true q1
  exact ⟨N.1,N.2.1,N.2.2.1,N.2.2.2.1,N.2.2.2.2.1,N.2.2.2.2.2,Zl.1 q2,fun hm=>by rw [Zl.2 hm] at q3;cases q3⟩
 have e3:Hid (∀ W,Below j.heap.size j W->Calls prog 46 #[.slice mp a.c.L.length O,.string m1] W fun e w'=>e=.returned (.int .i64 ((ZJ a.c.L m1:Nat):Int))/\w'=W):=fun W G=>wS mp a.c.L O m1 W (by omega) (a7.out W G) g6
 have e4:Hid (∀ W,Below j.heap.size j W->Calls prog 46 #[.slice M a.from_.length Q,.string m1] W fun e w'=>e=.returned (.int .i64 (-1))/\w'=W):=fun W G=>BL M a.from_ Q m1 W (by omega) (a8.out W G) g7
 clear h a2 b7 a3 d8 b6 K D y a0 a1 a4 g6 g7 a7 a8
 generalize ZJ a.c.L m1=j1 at *
 have n1:decide ((j1:Int) < 0)=false:=decide_eq_false (by omega)
 have t0:=XT g0
 have u0:=YT g0
 have v0:=Y8 g0
 have e0:(⟨#[]⟩:ByteArray).toList=[]:=by decide +kernel
 rw [e0] at t0 u0
 subst g1 g2 g3 g4 g5
 generalize a.st.waits=wt at *
 generalize a.st.word=sw at *
 clear g0
 go_enter func20,ntmps20
 go_wp2_with (first | rw [<- d9.out] | fail)
 refine a5.mono ?_
 rintro e w2 ⟨rfl,b1⟩
 rw [b1]
 clear b1 w2 a5
 go_wp2
 go_quiet (fail)
 generalize J:World.drewN j _=I
 have e5:I.cell? ⟨ab,7,none⟩=some (.slice mp a.c.L.length O):=by rw [<- J];exact c7
 have b2:I.cell? ⟨ab,13,none⟩=some (.string sw):=by rw [<- J];exact a9
 have e6:I.cell? ⟨ab,14,none⟩=some (.slice M a.from_.length Q):=by rw [<- J];exact a6
 have e7:I.cell? ⟨w.heap.size,0,none⟩=some (.string m1):=by rw [<- J];exact d0
 have b3:I.cell? ⟨w.heap.size,6,none⟩=some (.bool true):=by rw [<- J];exact d6
 have X:Below j.heap.size j I:=by rw [<- J];exact below_drewN (Below.refl _ _) _
 have f8:Hid (Below j.heap.size j I):=X
 have b4:I.frozen? ⟨ab,13,none⟩=false:=by rw [<- J];exact b0
 clear J c0 c1 c3 c4 c7 a9 a6 d0 d1 d2 d3 d4 d5 d6 b0
 go_wp2
 go_quiet (first | (go_at_call 46;with_reducible exact Calls.quiet_of_same (e3.out _ (below_drewN X _))) | (go_at_call 46;with_reducible exact Calls.quiet_of_same (e4.out _ (below_drewN X _))))
 generalize Y:World.drewN I _=wr
 have f9:wr.cell? ⟨ab,13,none⟩=some (.string sw):=by rw [<- Y];exact b2
 have g8:wr.cell? ⟨w.heap.size,6,none⟩=some (.bool true):=by rw [<- Y];exact b3
 have g9:wr.frozen? ⟨ab,13,none⟩=false:=by rw [<- Y];exact b4
 have e8:Hid (Below j.heap.size j wr):=by rw [<- Y];exact below_drewN X _
 clear Y e5 b2 e6 e7 b3 b4 X
 go_wp2
 go_ret
 exact ⟨rfl,e1.out wr e8.out⟩
end
end Go.Proofs.YtmikbldbfnlfjaaGreatDoor

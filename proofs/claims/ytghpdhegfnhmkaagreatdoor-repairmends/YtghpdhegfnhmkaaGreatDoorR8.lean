import Derived.Test.YtghpdhegfnhmkaaGreatDoorR7
import Derived.Deep.OwnRows
import Derived.Deep.Heap
import Derived.Test.YtghpdhegfnhmkaaGreatDoorR6
import Derived.Test.YtghpdhegfnhmkaaGreatDoorR2
import Derived.Deep.QuietTactic
import Derived.BigQuiet
import Derived.WalkSmall
import Derived.Shelf.Abstract
import Derived.Test.YtghpdhegfnhmkaaGreatDoorR5
import Derived.Deep.RegionWith
import Derived.StillTailTactics
import Derived.Test.YtghpdhegfnhmkaaGreatDoorR0
import Derived.Laws.RangeAny
namespace Go.Proofs.YtghpdhegfnhmkaaGreatDoor
open Go.RowKit
theorem Seg.kept {w w':World} {q:Option Addr} {l:List Nat} {row:Option Nat} (h:Seg w q l) (hg:w.grownBy w' row) (hne:∀ ad,q=some ad->some ad.block≠row):Seg w' q l:=by
 refine ⟨h.lt,?_⟩
 rcases h.cells with h | ⟨b,o,hp,hlt,hc⟩
 ·exact Or.inl h
 ·refine Or.inr ⟨b,o,hp,Nat.lt_of_lt_of_le hlt hg.size,fun i hi=>?_⟩
  exact (World.cell?_of_block (a:=⟨b,o+i,none⟩) (hg.block b hlt (hne _ hp))).trans (hc i hi)
def OwnMatV (B:Nat) (w:World) (e:TypeId) (v:Value) (vs:List Value) (M:List (List Nat)):Prop :=
 OwnV w B e v vs/\vs.length=M.length/\∀ i,i < M.length->∃ q c,vs[i]?=some (.slice q (rowOf M i).length c)/\Seg w q (rowOf M i)/\(q=none->c=0)/\∀ ad,q=some ad->B<=ad.block/\ad.block < w.heap.size/\v.ownBlock≠some ad.block
def OwnMat (B:Nat) (w:World) (e:TypeId) (v:Value) (M:List (List Nat)):Prop:=∃ vs,OwnMatV B w e v vs M
theorem OwnMat.nil (B:Nat) (w:World) (e:TypeId):OwnMat B w e (.slice none 0 0) []:=⟨[],OwnV.nil w B e,rfl,fun _ hi=>absurd hi (Nat.not_lt_zero _)⟩
theorem Own.form {w:World} {B:Nat} {e:TypeId} {v:Value} {l:List Nat} (h:Own w B e v l) (hl:Gf.Bytes l):∃ q c,v=.slice q l.length c/\Seg w q l/\(q=none->c=0)/\∀ ad,q=some ad->B<=ad.block/\ad.block < w.heap.size:=by
 rcases h.2 with ⟨rfl,h0⟩ | ⟨g,cap,cur,rfl,hb,hg,hnc,hcm,hcs,htake⟩
 ·have:l=[]:=List.length_eq_zero_iff.1 h0
  subst this
  exact ⟨none,0,rfl,⟨hl,Or.inl rfl⟩,fun _=>rfl,fun ad h=>by cases h⟩
 ·refine ⟨some ⟨g,0,none⟩,cap,rfl,?_,(fun h=>by cases h),(fun ad h=>by injection h with h;subst h;exact ⟨hb,(Array.getElem?_eq_some_iff.1 hg).1⟩)⟩
  obtain ⟨p,c,hv,hs⟩:=h.seg hl
  injection hv with h1 h2 h3
  subst h1
  exact hs
theorem OwnMatV.snoc {B:Nat} {w w1 w3:World} {T E:TypeId} {v v' r:Value} {vs:List Value} {M:List (List Nat)} {row:List Nat} {o:Obj} (h:OwnMatV B w T v vs M) (hB:B<=w.heap.size) (hr:Own w1 w.heap.size E r row) (hrow:Gf.Bytes row) (hb:Below w.heap.size w w1)
 (hv:OwnV w3 B T v' (vs ++ [r]))
 (hg:(w1.alloc o).grownBy w3 v.ownBlock) (hw:v'.ownBlock=v.ownBlock∨v'.ownBlock=some (w1.alloc o).heap.size):OwnMatV B w3 T v' (vs ++ [r]) (M ++ [row]):=by
 obtain ⟨hvs,hlen,hall⟩:=h
 have hz:=hb.size
 have hsz:(w1.alloc o).heap.size=w1.heap.size+1:=by simp
 have hvb:∀ k,v.ownBlock=some k->k < w.heap.size:=fun k hk=>(hvs.block hk).2
 have hg1:w1.grownBy w3 v.ownBlock:=⟨hg.os,hg.tape,hg.output,by have:=hg.size;omega,fun k hk hne=>(hg.block k (by omega) hne).trans (Below.heap_alloc w1 o k hk)⟩
 refine ⟨hv,by simp [hlen],fun i hi=>?_⟩
 rw [List.length_append,List.length_singleton] at hi
 by_cases hlt:i < M.length
 ·obtain ⟨q,c,h1,h2,h3,h4⟩:=hall i hlt
  rw [rowOf_append_lt M row i hlt]
  refine ⟨q,c,by rw [List.getElem?_append_left (by omega)];exact h1,(h2.below hb).kept hg1 (fun ad hq=>fun e=>(h4 ad hq).2.2 e.symm),h3,fun ad hq=>?_⟩
  have:=h4 ad hq
  refine ⟨this.1,by have:=hg1.size;omega,?_⟩
  rcases hw with hw | hw
  ·rw [hw];exact this.2.2
  ·rw [hw,hsz];intro e;have:=Option.some.inj e;omega
 ·obtain rfl:i=M.length:=by omega
  rw [rowOf_append_eq]
  obtain ⟨q,c,h1,h2,h3,h4⟩:=hr.form hrow
  refine ⟨q,c,by rw [List.getElem?_append_right (by omega),hlen,Nat.sub_self,h1];rfl,h2.kept hg1 (fun ad hq=>?_),h3,fun ad hq=>?_⟩
  ·have:=h4 ad hq
   intro e
   have:=hvb _ e.symm
   omega
  ·have:=h4 ad hq
   refine ⟨by omega,by have:=hg1.size;omega,?_⟩
   rcases hw with hw | hw
   ·rw [hw];intro e;have:=hvb _ e;omega
   ·rw [hw,hsz];intro e;have:=Option.some.inj e;omega
theorem OwnMat.mat {B:Nat} {w:World} {T:TypeId} {v:Value} {M:List (List Nat)} (h:OwnMat B w T v M):∃ p c,v=.slice p M.length c/\Mat w p M:=by
 obtain ⟨vs,hvs,hlen,hall⟩:=h
 rcases hvs.cells with ⟨rfl,rfl⟩ | ⟨g,cap,rfl,hB,hg,hcell⟩
 ·have:M=[]:=List.length_eq_zero_iff.1 (by simpa using hlen.symm)
  subst this
  exact ⟨none,0,rfl,Or.inl rfl⟩
 ·refine ⟨some ⟨g,0,none⟩,cap,by rw [hlen],Or.inr ⟨g,0,rfl,hg,fun i hi=>?_⟩⟩
  obtain ⟨q,c,h1,h2,h3,_⟩:=hall i hi
  refine ⟨q,c,?_,h2,h3⟩
  rw [Nat.zero_add]
  exact hcell i _ h1
theorem rowinfo:(Tryz.prog.info? 76).map (fun i=>(i.zero,i.size,i.bytes))=some (some (.slice none 0 0),1,24):=by kernel_rfl
def OwnN (w:World) (B:Nat) (E:TypeId) (g n:Nat) (l:List Nat):Prop:=w.ownsRow B E 1 (.slice (some ⟨g,0,none⟩) n n) n (l.map byteV)
theorem OwnN.made (w:World) (B:Nat) (E:TypeId) (n:Nat) (hB:B<=w.heap.size) (hn:n<=1000000):OwnN (w.alloc (.cells (madeCells #[byteV 0] n) E)) B E w.heap.size n (rowFn n fun _=>0):=by
 have h:=World.ownsRow_lit (base:=B) (e:=E) (size:=1) w (madeCells #[byteV 0] n) n hB (by unfold maxLen;omega) (by have:=congrArg List.length (toList_madeCells_one (byteV 0) n);simpa using this)
 rw [toList_madeCells_one] at h
 have e:(rowFn n fun _=>0).map byteV=List.replicate n (byteV 0):=by
  simp [rowFn,List.map_const']
 unfold OwnN
 rw [e]
 exact h
theorem OwnN.cell {w:World} {B:Nat} {E:TypeId} {g n:Nat} {l:List Nat} (h:OwnN w B E g n l) (j:Nat) (hj:j < n) (hl:l.length=n):w.cell? ⟨g,j,none⟩=some (.int .u8 ((Gf.nth l j:Nat):Int)):=by
 rw [World.ownsRow.cellAt (w:=w) h j (by omega),List.getElem?_map,List.getElem?_eq_getElem (by omega),Gf.nth_getElem l j (by omega)]
 rfl
theorem OwnN.free {w:World} {B:Nat} {E:TypeId} {g n:Nat} {l:List Nat} (h:OwnN w B E g n l) (j:Nat):w.frozen? ⟨g,j,none⟩=false:=World.ownsRow.frozenAt (w:=w) h j
theorem OwnN.set {w:World} {B:Nat} {E:TypeId} {g n:Nat} {f:Nat->Nat} (h:OwnN w B E g n (rowFn n f)) (j v:Nat):OwnN (w.setCell ⟨g,j,none⟩ (.int .u8 (v:Int))) B E g n (rowFn n (fun i=>if i=j then v else f i)):=by
 have:=(World.ownsRow.stored (w:=w) h j (byteV v)).1
 rw [<- List.map_set,rowFn_set] at this
 exact this
theorem OwnN.drewN {w:World} {B:Nat} {E:TypeId} {g n:Nat} {l:List Nat} (h:OwnN w B E g n l) (m:Nat):OwnN (w.drewN m) B E g n l:=World.ownsRow.kept h (grownBy_drewN w m none) (Or.inr (by simp [Value.ownBlock]))
theorem OwnN.own {w:World} {B:Nat} {E:TypeId} {g n:Nat} {l:List Nat} (h:OwnN w B E g n l) (hl:l.length=n):Own w B E (.slice (some ⟨g,0,none⟩) n n) l:=by
 unfold Own
 rw [hl]
 exact h
theorem OwnN.lt {w:World} {B:Nat} {E:TypeId} {g n:Nat} {l:List Nat} (h:OwnN w B E g n l):B<=g/\g < w.heap.size:=World.ownsRow.lt h g rfl
def dotN (A B:List (List Nat)) (i j:Nat):Nat->Nat
 | 0=>0
 | k+1=>dotN A B i j k ^^^ Gf.mul (Gf.nth (rowOf A i) k) (Gf.nth (rowOf B k) j)
def prodM (A B:List (List Nat)) (m:Nat):List (List Nat):=(List.range m).map fun i=>rowFn (rowOf B 0).length fun j=>dotN A B i j B.length
def BytesM (M:List (List Nat)):Prop:=∀ i,Gf.Bytes (rowOf M i)
theorem dotN_lt (A B:List (List Nat)) (hA:BytesM A) (i j:Nat):∀ k,dotN A B i j k < 256
 | 0=>by show 0 < 256;decide
 | k+1=>Gf.xlt (dotN_lt A B hA i j k) (Gf.mul_lt (hA i k) _)
theorem Mat.row {w:World} {p:Option Addr} {M:List (List Nat)} (h:Mat w p M) {i:Nat} (hi:i < M.length) (hne:0 < (rowOf M i).length) :
 ∃ b o b1 o1 c,p=some ⟨b,o,none⟩/\b < w.heap.size/\b1 < w.heap.size/\w.cell? ⟨b,o+i,none⟩=some (.slice (some ⟨b1,o1,none⟩) (rowOf M i).length c)/\∀ j,j < (rowOf M i).length->w.cell? ⟨b1,o1+j,none⟩=some (.int .u8 ((Gf.nth (rowOf M i) j:Nat):Int)):=by
 rcases h with h | ⟨b,o,hp,hb,hc⟩
 ·rw [h] at hi;exact absurd hi (Nat.not_lt_zero _)
 ·obtain ⟨q,c,h1,h2,_⟩:=hc i hi
  rcases h2.cells with h3 | ⟨b1,o1,hq,hb1,hc1⟩
  ·rw [h3] at hne;exact absurd hne (Nat.lt_irrefl _)
  ·subst hq
   exact ⟨b,o,b1,o1,c,hp,hb,hb1,h1,hc1⟩
theorem OwnT.setC {w:World} {B b:Nat} {v:Value} {l:List ByteArray} (h:OwnT w B v l) (hb:b < B) (i:Nat) (x:Value):OwnT (w.setCell ⟨b,i,none⟩ x) B v l :=
 World.ownsRow.kept (row:=some b) h ⟨rfl,rfl,rfl,by simp,fun k _ hne=>Deep.blk_setCell_other _ _ _ _ (fun e=>hne (by rw [e]))⟩ (Or.inr fun e=>by have:=(h.block e).1;omega)
set_option maxRecDepth 10000 in
set_option maxHeartbeats 2000000 in
theorem ownConfig_any (c:Cfg) (p:Option Addr) (cap:Nat) (w:World) (hl:c.L.length<=8796093021952) (hs:Strs w p c.L) (hn:p=none->c.L=[]/\cap=0) :
 Calls Tryz.prog 12 #[cfgA c (.slice p c.L.length cap)] w fun e w'=>(∃ q d,e=.returned (cfgA c (.slice q c.L.length d))/\Strs w' q c.L/\c.L.length<=d/\(q=none->c.L=[]/\d=0))/\Below w.heap.size w w':=by
 obtain ⟨cn,ck,cL⟩:=c
 unfold cfgA
 simp only [] at *
 obtain ⟨w1,hw1⟩:∃ w1,w1=(w.alloc (.cells #[.int .i64 cn,.int .i64 ck,.slice p cL.length cap] 24)).alloc (.cells #[.int .i64 0,.int .i64 0,.slice none 0 0] 24):=⟨_,rfl⟩
 have HW1:Hid (w1=(w.alloc (.cells #[.int .i64 cn,.int .i64 ck,.slice p cL.length cap] 24)).alloc (.cells #[.int .i64 0,.int .i64 0,.slice none 0 0] 24)):=hw1
 have hb1:Below w.heap.size w w1:=by rw [hw1];exact ((Below.refl _ _).alloc (Nat.le_refl _) _).alloc (by simp) _
 have e2:(w.alloc (.cells #[.int .i64 cn,.int .i64 ck,.slice p cL.length cap] 24)).heap.size=w.heap.size+1:=by simp
 have hx1:w1.heap[w.heap.size]?=some (.cells #[.int .i64 cn,.int .i64 ck,.slice p cL.length cap] 24 (0,0)):=by
  rw [hw1,heap_alloc_old _ _ (by rw [e2];omega)]
  exact heap_alloc_new _ _
 have hy1:w1.heap[w.heap.size+1]?=some (.cells #[.int .i64 0,.int .i64 0,.slice none 0 0] 24 (0,0)):=by
  rw [hw1,<- e2]
  exact heap_alloc_new _ _
 have hs1:w1.heap.size=w.heap.size+2:=by rw [hw1];simp
 have HS1:Hid (Strs w1 p cL):=hs.below hb1
 have HF1:Hid (w1.heap[w.heap.size]?=some (.cells #[.int .i64 cn,.int .i64 ck,.slice p cL.length cap] 24 (0,0))/\w1.heap[w.heap.size+1]?=some (.cells #[.int .i64 0,.int .i64 0,.slice none 0 0] 24 (0,0))/\Below w.heap.size w w1/\w1.heap.size=w.heap.size+2):=⟨hx1,hy1,hb1,hs1⟩
 have q2:w1.cell? ⟨w.heap.size,2,none⟩=some (.slice p cL.length cap):=by simp [World.cell?,hx1]
 clear hw1 hb1 e2 hx1 hy1 hs1 hs
 go_enter Tryz.func12,Tryz.ntmps12
 go_wp2_with (first | (at_builtin;rw [<- HW1.out];refine wpList_append_strs rfl (.tmp 4) (.tmp 6) rfl w1.heap.size (.slice none 0 0) [] rfl (OwnT.nil _ _) p cL cap rfl HS1.out hn (by show 0+cL.length<=_;omega) (Nat.le_refl _) ?_;intro v2 w2 hO2 hb2;rw [List.nil_append] at hO2;obtain ⟨q,d,hv2,hS2,hd2,hn2,hbk2⟩:=hO2.form;subst hv2;have hx2:=(hb2.block _ (by have:=HF1.out.2.2.2;omega)).trans HF1.out.1;have hy2:=(hb2.block _ (by have:=HF1.out.2.2.2;omega)).trans HF1.out.2.1;have HN2:Hid (q=none->cL=[]/\d=0):=(fun e=>⟨(by rcases hS2 with h | ⟨b,o,hq,_⟩;exact h;rw [e] at hq;cases hq),hn2 e⟩);have HO2:Hid (OwnT w2 w1.heap.size (.slice q cL.length d) cL/\cL.length<=d/\Below w.heap.size w w2):=⟨hO2,hd2,HF1.out.2.2.1.trans (hb2.mono HF1.out.2.2.1.size)⟩;have k0:w2.cell? ⟨w.heap.size,0,none⟩=some (.int .i64 cn):=(by simp [World.cell?,hx2]);have k1:w2.cell? ⟨w.heap.size,1,none⟩=some (.int .i64 ck):=(by simp [World.cell?,hx2]);have k2:w2.cell? ⟨w.heap.size,2,none⟩=some (.slice p cL.length cap):=(by simp [World.cell?,hx2]);have k3:w2.frozen? ⟨w.heap.size,2,none⟩=false:=(by simp [World.frozen?,hx2]);have z0:w2.cell? ⟨w.heap.size+1,0,none⟩=some (.int .i64 0):=(by simp [World.cell?,hy2]);have z1:w2.cell? ⟨w.heap.size+1,1,none⟩=some (.int .i64 0):=(by simp [World.cell?,hy2]);have z2:w2.cell? ⟨w.heap.size+1,2,none⟩=some (.slice none 0 0):=(by simp [World.cell?,hy2]);have z3:∀ i,w2.frozen? ⟨w.heap.size+1,i,none⟩=false:=(fun i=>by simp [World.frozen?,hy2]);clear hO2 hb2 hS2 hd2 hn2 hbk2 hx2 hy2 q2))
 refine bodyPost_ret (v:=.agg #[.int .i64 cn,.int .i64 ck,.slice q cL.length d]) (by simp [results,Tryz.results12,go_sem,z0,z1,z2]) rfl ?_
 have hsz:=HF1.out.2.2.2
 have ho:=(((HO2.out.1.setC (b:=w.heap.size) (by omega) 2 (.slice q cL.length d)).setC (b:=w.heap.size+1) (by omega) 0 (.int .i64 cn)).setC (b:=w.heap.size+1) (by omega) 1 (.int .i64 ck)).setC (b:=w.heap.size+1) (by omega) 2 (.slice q cL.length d)
 obtain ⟨q',d',hv,hS,_⟩:=ho.form
 injection hv with e1 _ e2
 subst e1 e2
 exact ⟨⟨q,d,rfl,hS,HO2.out.2.1,HN2.out⟩,(((HO2.out.2.2.setCell (p:=⟨w.heap.size,2,none⟩) (Nat.le_refl _) _).setCell (p:=⟨w.heap.size+1,0,none⟩) (by show w.heap.size<=w.heap.size+1;omega) _).setCell (p:=⟨w.heap.size+1,1,none⟩) (by show w.heap.size<=w.heap.size+1;omega) _).setCell (p:=⟨w.heap.size+1,2,none⟩) (by show w.heap.size<=w.heap.size+1;omega) _⟩
theorem grown_trans {a b c:World} {row:Option Nat} (h:a.grownBy b row) (k:b.grownBy c row):a.grownBy c row :=
 ⟨k.os.trans h.os,k.tape.trans h.tape,k.output.trans h.output,Nat.le_trans h.size k.size,fun i hi hne=>(k.block i (Nat.lt_of_lt_of_le hi h.size) hne).trans (h.block i hi hne)⟩
theorem below_grown {w w':World} (h:Below w.heap.size w w') (row:Option Nat):w.grownBy w' row:=⟨h.os,h.tape,h.output,h.size,fun i hi _=>h.block i hi⟩
theorem grown_set (w:World) (g j:Nat) (v:Value):w.grownBy (w.setCell ⟨g,j,none⟩ v) (some g) :=
 ⟨rfl,rfl,rfl,by simp [World.setCell],fun i _ hne=>Below.heap_setCell w _ v i (fun e=>hne (by rw [e]))⟩
theorem OwnN.below {w w':World} {B:Nat} {E:TypeId} {g n:Nat} {l:List Nat} (h:OwnN w B E g n l) (hb:Below w.heap.size w w'):OwnN w' B E g n l:=World.ownsRow.kept h (below_grown hb none) (Or.inr (by simp [Value.ownBlock]))
set_option maxRecDepth 10000 in
set_option maxHeartbeats 2000000 in
theorem change_any (g n B:Nat) (old val:Nat->Nat) (fn:FuncId) (caps:Array Value) (w:World) (hn:n<=1000) (hent:∀ args W,Sem.run Tryz.prog (callFunc fn args) W=.ok (.enter fn args) W) (hO:OwnN w B 5 g n (rowFn n old))
 (hc:∀ j,j < n->∀ w1,w.grownBy w1 (some g)->OwnN w1 B 5 g n (rowFn n (fun i=>if i < j then val i else old i)) ->
  Calls Tryz.prog fn (#[.int .i64 (j:Int)] ++ caps) w1 fun e w2=>e=.returned (.int .u8 ((val j:Nat):Int))/\Below w1.heap.size w1 w2) :
 Calls Tryz.prog 130 #[.slice (some ⟨g,0,none⟩) n n,.func (.func fn) #[] caps] w fun e w'=>e=.returned (.tuple #[])/\OwnN w' B 5 g n (rowFn n val)/\w.grownBy w' (some g):=by
 go_enter Tryz.func130,Tryz.ntmps130
 go_wp2
 go_loopw [7] (fun x wr=>∃ k:Nat,k<=n/\x=.int .i64 k/\OwnN wr B 5 g n (rowFn n (fun i=>if i < k then val i else old i))/\w.grownBy wr (some g)) (fun x _=>n - (intOf x).toNat)
 case atStart=>exact ⟨0,by omega,rfl,by simpa using hO,below_grown (Below.refl _ _) _⟩
 case round =>
  obtain ⟨k,hk,rfl,hO1,hg1⟩:=hrel
  by_cases hlt:k < n
  ·have HC:=hc k hlt wr hg1 hO1
   have HO:Hid (OwnN wr B 5 g n (rowFn n (fun i=>if i < k then val i else old i))):=hO1
   have HG:Hid (w.grownBy wr (some g)):=hg1
   clear hO1 hg1 hc hO
   go_wp2_with fail
   refine HC.mono ?_
   rintro e w2 ⟨rfl,hb2⟩
   have hO2:=HO.out.below hb2
   have hf:w2.frozen? ⟨g,k,none⟩=false:=hO2.free k
   have hcl:=hO2.cell k hlt (rowFn_length _ _)
   have hO3:=hO2.set k (val k)
   rw [rowFn_congr n _ (fun i=>if i < k+1 then val i else old i) (fun i _=>by by_cases e:i=k <;> by_cases e':i < k <;> simp [e,e'] <;> omega)] at hO3
   have HO3:Hid (OwnN (w2.setCell ⟨g,k,none⟩ (.int .u8 ((val k:Nat):Int))) B 5 g n (rowFn n (fun i=>if i < k+1 then val i else old i))):=hO3
   have HG3:Hid (w.grownBy (w2.setCell ⟨g,k,none⟩ (.int .u8 ((val k:Nat):Int))) (some g)):=grown_trans (grown_trans HG.out (below_grown hb2 _)) (grown_set _ _ _ _)
   clear hO2 hO3 hb2 HC HO HG hent
   go_wp2
   go_roundw
   case rel=>exact ⟨k+1,by omega,by go_num,HO3.out,HG3.out⟩
   case measure=>simp [intOf];omega
  ·have hke:k=n:=by omega
   subst hke
   go_wp2
   go_end0
   refine ⟨rfl,?_,hg1⟩
   rw [rowFn_congr k val (fun i=>if i < k then val i else old i) (fun i hi=>by simp [hi])]
   exact hO1
set_option maxRecDepth 10000 in
set_option maxHeartbeats 2000000 in
theorem sum_any (n:Nat) (val:Nat->Nat) (fn:FuncId) (caps:Array Value) (w:World) (hn:n<=1000) (hval:∀ l,val l < 256) (hent:∀ args W,Sem.run Tryz.prog (callFunc fn args) W=.ok (.enter fn args) W)
 (tot:Nat->Nat) (ht0:tot 0=0) (hts:∀ l,tot (l+1)=tot l ^^^ val l) (htl:∀ l,tot l < 256)
 (hc:∀ l,l < n->∀ w1,Below w.heap.size w w1->Calls Tryz.prog fn (#[.int .i64 (l:Int)] ++ caps) w1 fun e w2=>e=.returned (.int .u8 ((val l:Nat):Int))/\Below w1.heap.size w1 w2) :
 Calls Tryz.prog 139 #[.int .i64 (n:Int),.func (.func fn) #[] caps] w fun e w'=>e=.returned (.int .u8 ((tot n:Nat):Int))/\Below w.heap.size w w':=by
 have HT0:Hid (tot 0=0):=ht0
 have HTS:Hid (∀ l,tot (l+1)=tot l ^^^ val l):=hts
 clear ht0 hts
 go_enter Tryz.func139,Tryz.ntmps139
 go_wp2
 go_loopw [5,8] (fun s x wr=>∃ k:Nat,k<=n/\x=.int .i64 k/\s=.int .u8 ((tot k:Nat):Int)/\Below w.heap.size w wr) (fun _ x _=>n - (intOf x).toNat)
 case atStart=>exact ⟨0,by omega,rfl,by rw [HT0.out];rfl,Below.refl _ _⟩
 case round =>
  obtain ⟨k,hk,rfl,rfl,hb⟩:=hrel
  by_cases hlt:k < n
  ·have HC:=hc k hlt wr hb
   have HB:Hid (Below w.heap.size w wr):=hb
   have hz:w.heap.size<=wr.heap.size:=hb.size
   have lt:=htl k
   have lv:=hval k
   have HS:Hid (tot (k+1)=tot k ^^^ val k):=HTS.out k
   clear hb hc HTS HT0 hval htl
   generalize tot k=t at HS lt ⊢
   generalize val k=v at HS lv HC
   go_wp2_with fail
   refine HC.mono ?_
   rintro e w2 ⟨rfl,hb2⟩
   have HB2:Hid (Below w.heap.size w w2):=HB.out.trans (hb2.mono hz)
   clear hb2 HC HB hent
   go_wp2_with (go_at_call 112;refine (add_any t v _ lt lv).mono ?_;rintro e w' ⟨rfl,rfl⟩)
   go_roundw
   case rel=>exact ⟨k+1,by omega,by go_num,by rw [HS.out],HB2.out⟩
   case measure=>simp [intOf];omega
  ·have hke:k=n:=by omega
   subst hke
   go_wp2
   go_ret
   exact ⟨rfl,hb⟩
theorem fits_any (n:Nat) (w:World) (hn:n < 2 ^ 62):Calls Tryz.prog 129 #[.int .i64 (n:Int)] w fun e w'=>e=.returned (.bool (decide (1<=n/\n<=16)))/\w'=w:=by
 by_cases h1:1<=n
 ·by_cases h2:n<=16
  ·have HD:Hid (decide (1<=n/\n<=16)=true):=decide_eq_true ⟨h1,h2⟩
   go_enter Tryz.func129,Tryz.ntmps129
   go_wp2
   go_ret
   exact ⟨ret_bool ((decide_eq_true (by omega)).trans HD.out.symm),rfl⟩
  ·have HD:Hid (decide (1<=n/\n<=16)=false):=decide_eq_false (fun h=>h2 h.2)
   go_enter Tryz.func129,Tryz.ntmps129
   go_wp2
   go_ret
   exact ⟨ret_bool ((decide_eq_false (by omega)).trans HD.out.symm),rfl⟩
 ·rw [decide_eq_false (fun h=>h1 h.1:¬ (1<=n/\n<=16))]
  go_enter Tryz.func129,Tryz.ntmps129
  go_wp2
  go_ret
  exact ⟨rfl,rfl⟩
theorem fits_yes (n:Nat) (w:World) (h1:1<=n) (h2:n<=16):Calls Tryz.prog 129 #[.int .i64 (n:Int)] w fun e w'=>e=.returned (.bool true)/\w'=w:=by
 have:=fits_any n w (by omega)
 rw [decide_eq_true (⟨h1,h2⟩:1<=n/\n<=16)] at this
 exact this
set_option maxRecDepth 10000 in
set_option maxHeartbeats 2000000 in
theorem check_ok (p:Option Addr) (M:List (List Nat)) (cap:Nat) (w:World) (hM:IsMat M) (h:Mat w p M) :
 Calls Tryz.prog 117 #[.slice p M.length cap] w fun e w'=>e=.returned .nilIface/\w'=w:=by
 have HM:Hid (IsMat M):=hM
 have l1:1<=M.length:=hM.1
 have l2:M.length<=16:=hM.2.1
 have n1:1<=(rowOf M 0).length:=(hM.2.2 0 (by omega)).1
 have n2:(rowOf M 0).length<=16:=(hM.2.2 0 (by omega)).2.1
 clear hM
 rcases h with h | ⟨b,o,rfl,hb,hc⟩
 ·rw [h] at l1;simp at l1
 obtain ⟨q0,c0,hc0,_⟩:=hc 0 (by omega)
 have hc0':w.cell? ⟨b,o,none⟩=some (.slice q0 (rowOf M 0).length c0):=hc0
 have HC:Hid (∀ i,i < M.length->∃ q c,w.cell? ⟨b,o+i,none⟩=some (.slice q (rowOf M 0).length c)):=fun i hi=>by
  obtain ⟨q,c,h1,_⟩:=hc i hi
  rw [(HM.out.2.2 i hi).2.2] at h1
  exact ⟨q,c,h1⟩
 clear hc hc0
 generalize (rowOf M 0).length=n at *
 go_enter Tryz.func117,Tryz.ntmps117
 go_wp2_with (first | (go_at_call 129;with_reducible refine (fits_yes M.length _ l1 l2).mono ?_;rintro e w' ⟨rfl,rfl⟩) | (go_at_call 129;refine (fits_yes n _ n1 n2).mono ?_;rintro e w' ⟨rfl,rfl⟩))
 go_loop [20] (fun j=>∃ k:Nat,k<=M.length/\j=.int .i64 k) (fun j=>M.length - (intOf j).toNat)
 case atStart=>exact ⟨0,by omega,rfl⟩
 case round =>
  obtain ⟨k,hk,rfl⟩:=hrel
  by_cases hlt:k < M.length
  ·obtain ⟨q,c,hq⟩:=HC.out k hlt
   go_wp2
   go_round
   case rel=>exact ⟨k+1,by omega,by go_num⟩
   case measure=>simp [intOf];omega
  ·go_wp2
   go_ret
   exact ⟨rfl,rfl⟩
theorem Mat.at {w:World} {p:Option Addr} {M:List (List Nat)} (h:Mat w p M) {i j:Nat} (hi:i < M.length) (hj:j < (rowOf M i).length) :
 ∃ b o b1 o1 c,p=some ⟨b,o,none⟩/\w.cell? ⟨b,o+i,none⟩=some (.slice (some ⟨b1,o1,none⟩) (rowOf M i).length c)/\w.cell? ⟨b1,o1+j,none⟩=some (.int .u8 ((Gf.nth (rowOf M i) j:Nat):Int)):=by
 obtain ⟨b,o,b1,o1,c,h1,_,_,h2,h3⟩:=h.row hi (by omega)
 exact ⟨b,o,b1,o1,c,h1,h2,h3 j hj⟩
theorem diag_any (i j:Nat) (w:World):Calls Tryz.prog 120 #[.int .i64 (i:Int),.int .i64 (j:Int)] w fun e w'=>e=.returned (.int .u8 ((if i=j then 1 else 0:Nat):Int))/\w'=w:=by
 by_cases e:i=j
 ·subst e
  rw [if_pos rfl]
  go_enter Tryz.func120,Tryz.ntmps120
  go_wp2
  go_ret
  exact ⟨rfl,rfl⟩
 ·have ht:((i:Int)==(j:Int))=false:=by simp;omega
  rw [if_neg e]
  clear e
  go_enter Tryz.func120,Tryz.ntmps120
  go_wp2
  go_ret
  exact ⟨rfl,rfl⟩
set_option maxRecDepth 10000 in
theorem invert1_any (ps pm i j side cap:Nat) (p:Option Addr) (M:List (List Nat)) (w:World) (hi:i < M.length) (hj:j < 2*side) (hs:(rowOf M i).length=side) (hn:side<=1000) (hps:w.cell? ⟨ps,0,none⟩=some (.int .i64 (side:Int))) (hp:w.cell? ⟨pm,0,none⟩=some (.slice p M.length cap)) (h:Mat w p M) :
 Calls Tryz.prog 119 #[.int .i64 (i:Int),.int .i64 (j:Int),.pointer (some ⟨ps,0,none⟩),.pointer (some ⟨pm,0,none⟩)] w fun e w'=>e=.returned (.int .u8 (((if j < side then Gf.nth (rowOf M i) j else if i=j - side then 1 else 0:Nat)):Int))/\Below w.heap.size w w':=by
 by_cases hlt:j < side
 ·obtain ⟨b,o,b1,o1,c,rfl,h1,h2⟩:=h.at hi (by rw [hs];exact hlt)
  rw [hs] at h1
  rw [if_pos hlt]
  clear hs h
  go_enter Tryz.func119,Tryz.ntmps119
  go_wp2
  go_ret
  exact ⟨rfl,Below.refl _ _⟩
 ·rw [if_neg hlt]
  have hsub:((j:Int) - (side:Int))=((j - side:Nat):Int):=by omega
  clear hs h
  go_enter Tryz.func119,Tryz.ntmps119
  go_wp2_with (go_at_call 120;first | (rw [hsub];refine (diag_any i (j - side) _).mono ?_;rintro e w' ⟨rfl,rfl⟩) | (refine (diag_any i (j - side) _).mono ?_;rintro e w' ⟨rfl,rfl⟩))
  all_goals (go_ret;exact ⟨rfl,Below.refl _ _⟩)
set_option maxRecDepth 10000 in
theorem invert2_any (pb ps i j side gm r n:Nat) (gs:Nat->Nat) (x:Nat) (w:World) (hi:i < r) (hj:side+j < n) (hn:n<=1000) (hb:w.cell? ⟨pb,0,none⟩=some (.slice (some ⟨gm,0,none⟩) r r)) (hs:w.cell? ⟨ps,0,none⟩=some (.int .i64 (side:Int))) (h1:w.cell? ⟨gm,i,none⟩=some (.slice (some ⟨gs i,0,none⟩) n n)) (h2:w.cell? ⟨gs i,side+j,none⟩=some (.int .u8 (x:Int))) :
 Calls Tryz.prog 122 #[.int .i64 (i:Int),.int .i64 (j:Int),.pointer (some ⟨pb,0,none⟩),.pointer (some ⟨ps,0,none⟩)] w fun e w'=>e=.returned (.int .u8 (x:Int))/\Below w.heap.size w w':=by
 go_enter Tryz.func122,Tryz.ntmps122
 go_wp2
 go_quiet (fail)
 go_wp2
 go_ret
 exact ⟨rfl,below_drewN (Below.refl _ _) _⟩
set_option maxRecDepth 10000 in
set_option maxHeartbeats 1000000 in
theorem times11_any (pa pi pb pj i j l ca cb:Nat) (a b:Option Addr) (A B:List (List Nat)) (w:World) (hi:i < A.length) (hl:l < (rowOf A i).length) (hlb:l < B.length) (hj:j < (rowOf B l).length) (hA:w.cell? ⟨pa,0,none⟩=some (.slice a A.length ca)) (hB:w.cell? ⟨pb,0,none⟩=some (.slice b B.length cb)) (hI:w.cell? ⟨pi,0,none⟩=some (.int .i64 (i:Int))) (hJ:w.cell? ⟨pj,0,none⟩=some (.int .i64 (j:Int))) (mA:Mat w a A) (mB:Mat w b B) (bA:BytesM A) (bB:BytesM B) :
 Calls Tryz.prog 140 #[.int .i64 (l:Int),.pointer (some ⟨pa,0,none⟩),.pointer (some ⟨pi,0,none⟩),.pointer (some ⟨pb,0,none⟩),.pointer (some ⟨pj,0,none⟩)] w fun e w'=>e=.returned (.int .u8 ((Gf.mul (Gf.nth (rowOf A i) l) (Gf.nth (rowOf B l) j):Nat):Int))/\Below w.heap.size w w':=by
 obtain ⟨a1,a2,a3,a4,a5,rfl,a6,a7⟩:=mA.at hi hl
 obtain ⟨b1,b2,b3,b4,b5,rfl,b6,b7⟩:=mB.at hlb hj
 have lx:=bA i l
 have ly:=bB l j
 clear mA mB
 generalize Gf.nth (rowOf A i) l=x at *
 generalize Gf.nth (rowOf B l) j=y at *
 go_enter Tryz.func140,Tryz.ntmps140
 go_wp2
 go_quiet ((go_at_call 113;exact Calls.quiet_of_same (mul_any x y _ lx ly)))
 go_wp2
 go_ret
 exact ⟨rfl,below_drewN (Below.refl _ _) _⟩
set_option maxRecDepth 10000 in
set_option maxHeartbeats 1000000 in
theorem rmul_any (a b:Nat) (w:World) (ha:a < 256) (_hb:b < 256) :
 Calls Tryz.prog 30 #[.int .u8 (a:Int),.int .u8 (b:Int)] w fun e w'=>e=.returned (.int .u8 ((Gf.mul a b:Nat):Int))/\w'=w:=by
 go_enter Tryz.func30,Tryz.ntmps30
 go_wp2
 go_loop [5,6] (fun p i=>∃ k:Nat,k<=8/\i=.int .i64 k/\p=.int .i64 (Gf.rprod a b k:Nat)) (fun _ i=>8 - (intOf i).toNat)
 case atStart=>exact ⟨0,by omega,rfl,rfl⟩
 case round =>
  obtain ⟨k,hk,rfl,rfl⟩:=hrel
  have hp:=Gf.rprod_lt ha b k hk
  by_cases hlt:k < 8
  ·have hbt:=tmod_test b k
   have hak:a*2 ^ k < 2 ^ 15:=by
    have h1:2 ^ k<=2 ^ 7:=Nat.pow_le_pow_right (by decide) (by omega)
    have h2:a*2 ^ k<=255*2 ^ 7:=Nat.mul_le_mul (by omega) h1
    omega
   have hw1:wrap64 ((a:Int)*2 ^ k)=((a*2 ^ k:Nat):Int):=by
    have:=wrap64_small (a*2 ^ k) (by omega)
    simpa using this
   have HX:Hid (bits .xor .i64 ((Gf.rprod a b k:Nat):Int) (wrap64 ((a:Int)*2 ^ k))=((Gf.rprod a b k ^^^ (a*2 ^ k):Nat):Int)):=by show _=_;rw [hw1];exact i64_xor_nat _ _ (by omega) (by omega)
   clear hw1
   by_cases hbit:Gf.bitOf b k=1
   ·have HP:Hid (Gf.rprod a b (k+1)=Gf.rprod a b k ^^^ (a*2 ^ k)):=by show _=_;simp [Gf.rprod,hbit]
    rw [decide_eq_true hbit] at hbt
    clear hbit
    go_wp2
    exact ⟨⟨k+1,by omega,by go_num,by rw [HP.out,HX.out]⟩,by simp [intOf];omega⟩
   ·have HP:Hid (Gf.rprod a b (k+1)=Gf.rprod a b k):=by show _=_;simp [Gf.rprod,hbit]
    rw [decide_eq_false hbit] at hbt
    clear hbit
    go_wp2
    exact ⟨⟨k+1,by omega,by go_num,by rw [HP.out]⟩,by simp [intOf];omega⟩
  ·have hk8:k=8:=by omega
   subst hk8
   go_wp2
   have hn:Hid (Gf.rprod a b 8 < 2 ^ 15):=hp
   have HR:Hid (Gf.rmod (Gf.rprod a b 8)=Gf.mul a b):=Gf.rmul_eq a b ha
   generalize Gf.rprod a b 8=n at hn HR hp ⊢
   go_loop [5,7] (fun p i=>∃ m:Nat,7<=m/\m<=14/\i=.int .i64 m/\p=.int .i64 (Gf.rr n (14 - m):Nat)) (fun _ i=>(intOf i).toNat)
   case atStart=>exact ⟨14,by omega,by omega,rfl,rfl⟩
   case round =>
    obtain ⟨m,hm7,hm,rfl,rfl⟩:=hrel
    have hp2:=Gf.rr_lt hn.out (14 - m)
    have HE:Hid (Gf.rr n (14 - (m - 1))=if 8<=m then Gf.rstep m (Gf.rr n (14 - m)) else Gf.rr n (14 - (m - 1))):=by
     show _=_
     by_cases h8:8<=m
     ·rw [if_pos h8,show 14 - (m - 1)=(14 - m)+1 from by omega]
      show Gf.rstep (14 - (14 - m)) _=_
      rw [show 14 - (14 - m)=m from by omega]
     ·rw [if_neg h8]
    by_cases h8:8<=m
    ·have hbt:=tmod_test (Gf.rr n (14 - m)) m
     have h285:285*2 ^ (m - 8) < 2 ^ 15:=by
      have h1:2 ^ (m - 8)<=2 ^ 6:=Nat.pow_le_pow_right (by decide) (by omega)
      have h2:285*2 ^ (m - 8)<=285*2 ^ 6:=Nat.mul_le_mul (Nat.le_refl _) h1
      omega
     have hw1:wrap64 ((285:Int)*2 ^ (m - 8))=((285*2 ^ (m - 8):Nat):Int):=by
      have:=wrap64_small (285*2 ^ (m - 8)) (by omega)
      simpa using this
     have HX:Hid (bits .xor .i64 ((Gf.rr n (14 - m):Nat):Int) (wrap64 ((285:Int)*2 ^ (m - 8)))=((Gf.rr n (14 - m) ^^^ (285*2 ^ (m - 8)):Nat):Int)):=by show _=_;rw [hw1];exact i64_xor_nat _ _ (by omega) (by omega)
     have HE':Hid (Gf.rr n (14 - (m - 1))=Gf.rstep m (Gf.rr n (14 - m))):=by have:=HE.out;rw [if_pos h8] at this;exact this
     clear hw1 HE
     by_cases hbit:Gf.bitOf (Gf.rr n (14 - m)) m=1
     ·have HP:Hid (Gf.rstep m (Gf.rr n (14 - m))=Gf.rr n (14 - m) ^^^ (285*2 ^ (m - 8))):=by show _=_;simp [Gf.rstep,hbit]
      rw [decide_eq_true hbit] at hbt
      clear hbit
      go_wp2
      exact ⟨⟨m - 1,by omega,by omega,by congr 1;omega,by rw [HE'.out,HP.out,HX.out]⟩,by simp [intOf];omega⟩
     ·have HP:Hid (Gf.rstep m (Gf.rr n (14 - m))=Gf.rr n (14 - m)):=by show _=_;simp [Gf.rstep,hbit]
      rw [decide_eq_false hbit] at hbt
      clear hbit
      go_wp2
      exact ⟨⟨m - 1,by omega,by omega,by congr 1;omega,by rw [HE'.out,HP.out]⟩,by simp [intOf];omega⟩
    ·have hm':m=7:=by omega
     subst hm'
     go_wp2
     go_ret
     refine ⟨ret_int ?_,rfl⟩
     have:=HR.out
     rw [<- this]
     simp [Gf.rmod]
theorem rmul_as (a b c:Nat) (w:World) (ha:a < 256) (hb:b < 256) (h:Gf.mul a b=c) :
 Calls Tryz.prog 30 #[.int .u8 (a:Int),.int .u8 (b:Int)] w fun e w'=>e=.returned (.int .u8 ((c:Nat):Int))/\w'=w:=h ▸ rmul_any a b w ha hb
set_option maxRecDepth 10000 in
set_option maxHeartbeats 1000000 in
theorem rinv_any (a:Nat) (w:World) (ha:a < 256) (h0:a≠0) :
 Calls Tryz.prog 69 #[.int .u8 (a:Int)] w fun e w'=>e=.returned (.int .u8 ((Gf.inv a:Nat):Int))/\w'=w:=by
 have hi:=Gf.inv_lt a
 have hip:=Gf.inv_pos a ha h0
 have HM:Hid (Gf.mul a (Gf.inv a)=1):=Gf.mul_inv a ha h0
 have HU:Hid (∀ b,b < 256->Gf.mul a b=1->b=Gf.inv a):=fun b hb h=>Gf.inv_unique a b ha hb h0 h
 clear h0
 go_enter Tryz.func69,Tryz.ntmps69
 go_wp2
 go_loop [3] (fun i=>∃ k:Nat,1<=k/\k<=Gf.inv a/\i=.int .i64 k) (fun i=>256 - (intOf i).toNat)
 case atStart=>exact ⟨1,by omega,by omega,rfl⟩
 case round =>
  obtain ⟨k,hk1,hk,rfl⟩:=hrel
  by_cases hki:k=Gf.inv a
  ·subst hki
   go_wp2_with fail
   refine (rmul_as a (Gf.inv a) 1 _ ha hi HM.out).mono ?_
   rintro e w' ⟨rfl,rfl⟩
   go_wp2
   go_ret
   exact ⟨rfl,rfl⟩
  ·have hn1 : (((Gf.mul a k : Nat) : Int) == 1) = false := by
    simp only [beq_eq_false_iff_ne,ne_eq]
    intro h
    exact hki (HU.out k (by omega) (by omega))
   go_wp2_with fail
   refine (rmul_any a k _ ha (by omega)).mono ?_
   rintro e w' ⟨rfl,rfl⟩
   go_wp2
   exact ⟨⟨k+1,by omega,by omega,by go_num⟩,by simp [intOf];omega⟩
set_option maxRecDepth 10000 in
set_option maxHeartbeats 2000000 in
theorem basis_any (p:Option Addr) (l:List Nat) (cap i x:Nat) (w:World) (hx:x < 256) (hl:l.length < 2 ^ 40) (hi:i < l.length) (hn:l.Nodup) (hs:Seg w p l) :
 Calls Tryz.prog 48 #[.slice p l.length cap,.int .i64 (i:Int),.int .u8 (x:Int)] w fun e w'=>e=.returned (.int .u8 ((Gf.shareOf l i x:Nat):Int))/\∃ n,w'=w.drewN n:=by
 obtain ⟨hlt,hs⟩:=hs
 rcases hs with hs | ⟨b,o,rfl,hb,hc⟩
 ·rw [hs] at hi;simp at hi
 have hxi:=hlt i
 have HE:Hid (Gf.bas l i x l.length=Gf.shareOf l i x):=Gf.bas_share l hlt hn i x hi hx
 have HI:Hid (∀ k,k < l.length->k≠i->Gf.nth l i ^^^ Gf.nth l k≠0):=fun k hk e=>Gf.xor_ne fun h'=>e (Gf.nth_inj l hn hk hi h'.symm)
 clear hn
 go_enter Tryz.func48,Tryz.ntmps48
 go_wp2
 go_loopw [7,8] (fun s j wr=>(∃ n,wr=w.drewN n)/\∃ k:Nat,k<=l.length/\j=.int .i64 k/\s=.int .u8 (Gf.bas l i x k:Nat)) (fun _ j _=>l.length - (intOf j).toNat)
 case atStart=>exact ⟨⟨0,rfl⟩,0,by omega,rfl,rfl⟩
 case round =>
  obtain ⟨hw0,k,hk,rfl,rfl⟩:=hrel
  have HW:Hid (∃ n,wr=w.drewN n):=hw0
  clear hw0
  have hpa:=Gf.bas_lt l i x k
  by_cases hlt2:k < l.length
  ·have hc1 : wr.cell? ⟨b, o + k, none⟩ = some (.int .u8 ((Gf.nth l k : Nat) : Int)) := by
    obtain ⟨n,hn⟩:=HW.out
    rw [hn]
    exact hc k hlt2
   have hc2:wr.cell? ⟨b,o+i,none⟩=some (.int .u8 ((Gf.nth l i:Nat):Int)):=by
    obtain ⟨n,hn⟩:=HW.out
    rw [hn]
    exact hc i hi
   have hkl:=hlt k
   have HA:Hid (Gf.bas l i x (k+1)=if k=i then Gf.bas l i x k else Gf.mul (Gf.bas l i x k) (Gf.mul (x ^^^ Gf.nth l k) (Gf.inv (Gf.nth l i ^^^ Gf.nth l k)))):=rfl
   clear hc
   by_cases hki:k=i
   ·have HA':=HA.out
    rw [if_pos hki] at HA'
    have HA2:Hid (Gf.bas l i x (k+1)=Gf.bas l i x k):=HA'
    have ht:((k:Int) != (i:Int))=false:=by simp;omega
    clear HA HA' hki
    go_wp2
    go_roundw
    case rel=>exact ⟨HW.out,k+1,by omega,by go_num,by rw [HA2.out]⟩
    case measure=>simp [intOf];omega
   ·have HA':=HA.out
    rw [if_neg hki] at HA'
    have HA2:Hid (Gf.bas l i x (k+1)=Gf.mul (Gf.bas l i x k) (Gf.mul (x ^^^ Gf.nth l k) (Gf.inv (Gf.nth l i ^^^ Gf.nth l k)))):=HA'
    have HZ:Hid (Gf.nth l i ^^^ Gf.nth l k≠0):=HI.out k hlt2 hki
    have ht:((k:Int) != (i:Int))=true:=by simp;omega
    clear HA HA' hki HI
    generalize Gf.bas l i x k=pa at hpa HA2 ⊢
    generalize Gf.nth l k=c at hc1 hkl HA2 HZ
    generalize Gf.nth l i=d at hc2 hxi HA2 HZ
    have hxc:=Gf.xlt hx hkl
    have hdc:=Gf.xlt hxi hkl
    have hb1:=u8_xor_nat x c hx hkl
    have hb2:=u8_xor_nat d c hxi hkl
    have hin:=Gf.inv_lt (d ^^^ c)
    have hm:=Gf.mul_lt hxc (Gf.inv (d ^^^ c))
    go_wp2
    go_quiet ((first | (go_at_call 69;exact Calls.quiet_of_same (rinv_any (d ^^^ c) _ hdc HZ.out)) | (go_at_call_of 30 (Value.int IntKind.u8 ((x ^^^ c:Nat):Int));exact Calls.quiet_of_same (rmul_any (x ^^^ c) (Gf.inv (d ^^^ c)) _ hxc hin)) | (go_at_call_of 30 (Value.int IntKind.u8 ((pa:Nat):Int));exact Calls.quiet_of_same (rmul_any pa (Gf.mul (x ^^^ c) (Gf.inv (d ^^^ c))) _ hpa hm))))
    go_wp2
    go_roundw
    case rel =>
     obtain ⟨n,hn⟩:=HW.out
     exact ⟨⟨n+nq,by rw [hn,World.drewN_drewN]⟩,k+1,by omega,by go_num,by rw [HA2.out]⟩
    case measure=>simp [intOf];omega
  ·have hke:k=l.length:=by omega
   subst hke
   go_wp2
   go_ret
   exact ⟨by simp [HE.out],HW.out⟩
def spreadM (k n:Nat):List (List Nat):=(List.range n).map fun i=>rowFn k fun j=>Gf.shareOf (upToL k) j i
theorem spreadM_succ (k n:Nat):spreadM k (n+1)=spreadM k n ++ [rowFn k fun j=>Gf.shareOf (upToL k) j n]:=by simp [spreadM,List.range_succ]
theorem spreadM_length (k n:Nat):(spreadM k n).length=n:=by simp [spreadM]
theorem upToL_nodup (k:Nat):(upToL k).Nodup:=List.nodup_range
theorem upToL_length (k:Nat):(upToL k).length=k:=by simp [upToL]
theorem upToL_bytes (k:Nat) (h:k<=256):Gf.Bytes (upToL k):=fun i=>by
 by_cases hi:i < k
 ·rw [Gf.nth_getElem _ _ (by rw [upToL_length];exact hi)];simp [upToL];omega
 ·unfold Gf.nth;rw [List.getD_eq_getElem?_getD,List.getElem?_eq_none (by rw [upToL_length];omega)];decide
theorem basis_told (p:Option Addr) (k cap j x:Nat) (w:World) (hx:x < 256) (hk:k<=100) (hj:j < k) (hs:Seg w p (upToL k)) :
 Calls Tryz.prog 48 #[.slice p k cap,.int .i64 (j:Int),.int .u8 (x:Int)] w fun e w'=>e=.returned (.int .u8 ((Gf.shareOf (upToL k) j x:Nat):Int))/\∃ n,w'=w.drewN n:=by
 have h:=basis_any p (upToL k) cap j x w hx (by rw [upToL_length];omega) (by rw [upToL_length];exact hj) (upToL_nodup k) hs
 rw [upToL_length] at h
 exact h
theorem spreadM_row (k n i:Nat) (hi:i < n):rowOf (spreadM k n) i=rowFn k fun j=>Gf.shareOf (upToL k) j i:=by
 unfold rowOf spreadM
 rw [List.getD_eq_getElem?_getD,List.getElem?_map,List.getElem?_range hi]
 rfl
def encN (s:List Nat) (k wd i c:Nat):Nat->Nat
 | 0=>0
 | j+1=>if j*wd+c < s.length then encN s k wd i c j ^^^ Gf.mul (Gf.shareOf (upToL k) j i) (Gf.nth s (j*wd+c)) else encN s k wd i c j
def encRow (s:List Nat) (k wd i:Nat):List Nat:=rowFn wd fun c=>encN s k wd i c k
theorem encN_lt (s:List Nat) (k wd i c:Nat):∀ j,encN s k wd i c j < 256
 | 0=>by show 0 < 256;decide
 | j+1=>by
  show (if j*wd+c < s.length then encN s k wd i c j ^^^ Gf.mul (Gf.shareOf (upToL k) j i) (Gf.nth s (j*wd+c)) else encN s k wd i c j) < 256
  split
  ·exact Gf.xlt (encN_lt s k wd i c j) (Gf.mul_lt (Gf.shareOf_lt _ _ _) _)
  ·exact encN_lt s k wd i c j
def shCells (l:List (Nat×List Nat)):List Value:=l.flatMap fun x=>[.int .i64 (x.1:Int),.string (strOf x.2)]
def OwnSh (w:World) (B:Nat) (v:Value) (l:List (Nat×List Nat)):Prop:=w.ownsRow B 45 2 v l.length (shCells l)
theorem shinfo:(Tryz.prog.info? 45).map (fun i=>(i.zero,i.size,i.bytes))=some (some (.agg #[.int .i64 0,.string ⟨#[]⟩]),2,24):=by kernel_rfl
theorem shCells_snoc (l:List (Nat×List Nat)) (x:Nat×List Nat):shCells (l ++ [x])=shCells l ++ [.int .i64 (x.1:Int),.string (strOf x.2)]:=by simp [shCells]
theorem OwnSh.snoc {w:World} {B:Nat} {v:Value} {l:List (Nat×List Nat)} {i:Nat} {row:List Nat} {n:Nat} (h:w.ownsRow B 45 2 v (n+1) (shCells l ++ [.int .i64 (i:Int),.string (strOf row)])) (hn:n=l.length):OwnSh w B v (l ++ [(i,row)]):=by
 unfold OwnSh
 rw [shCells_snoc,List.length_append,List.length_singleton,<- hn]
 exact h
def canB (n k:Nat) (v:Ver):Bool:=tagB v.n v.who && decide (0<=v.size/\v.size<=1000/\0<=v.at_/\v.at_ < n/\v.text.size=wideN k v.size.toNat)
set_option maxRecDepth 10000 in
set_option maxHeartbeats 4000000 in
theorem canBe_any (n k:Nat) (p:Option Addr) (ln cap:Nat) (v:Ver) (w:World) (hk1:1<=k) (hk:k<=12) :
 Calls Tryz.prog 86 #[.agg #[.int .i64 (n:Int),.int .i64 (k:Int),.slice p ln cap],.agg #[.int .i64 v.n,.int .i64 v.who,.int .i64 v.size,.int .i64 v.at_,.string v.text]] w fun e w'=>e=.returned (.bool (canB n k v))/\Below w.heap.size w w':=by
 obtain ⟨wc,hwc⟩:∃ wc,wc=w.alloc (.cells #[.int .i64 (n:Int),.int .i64 (k:Int),.slice p ln cap] 24):=⟨_,rfl⟩
 have e1:wc.heap.size=w.heap.size+1:=by rw [hwc];simp
 obtain ⟨w0,hw0⟩:∃ w0,w0=wc.alloc (.cells #[.int .i64 v.n,.int .i64 v.who,.int .i64 v.size,.int .i64 v.at_,.string v.text] 47):=⟨_,rfl⟩
 have hbc:Below w.heap.size w wc:=by rw [hwc];exact (Below.refl _ _).alloc (Nat.le_refl _) _
 have hb0c:Below wc.heap.size wc w0:=by rw [hw0];exact (Below.refl _ _).alloc (Nat.le_refl _) _
 have HB0:Hid (Below w.heap.size w w0):=hbc.trans (hb0c.mono hbc.size)
 have a0:w0.cell? ⟨w.heap.size,0,none⟩=some (.int .i64 (n:Int)):=(hb0c.cell (p:=⟨w.heap.size,0,none⟩) (by show w.heap.size < _;omega)).trans (by rw [hwc,World.cell?_alloc_at _ _ _ _ rfl];rfl)
 have a1:w0.cell? ⟨w.heap.size,1,none⟩=some (.int .i64 (k:Int)):=(hb0c.cell (p:=⟨w.heap.size,1,none⟩) (by show w.heap.size < _;omega)).trans (by rw [hwc,World.cell?_alloc_at _ _ _ _ rfl];rfl)
 have b0:w0.cell? ⟨w.heap.size+1,0,none⟩=some (.int .i64 v.n):=by rw [hw0,World.cell?_alloc_at _ _ _ _ e1.symm];rfl
 have b1:w0.cell? ⟨w.heap.size+1,1,none⟩=some (.int .i64 v.who):=by rw [hw0,World.cell?_alloc_at _ _ _ _ e1.symm];rfl
 have b2:w0.cell? ⟨w.heap.size+1,2,none⟩=some (.int .i64 v.size):=by rw [hw0,World.cell?_alloc_at _ _ _ _ e1.symm];rfl
 have b3:w0.cell? ⟨w.heap.size+1,3,none⟩=some (.int .i64 v.at_):=by rw [hw0,World.cell?_alloc_at _ _ _ _ e1.symm];rfl
 have b4:w0.cell? ⟨w.heap.size+1,4,none⟩=some (.string v.text):=by rw [hw0,World.cell?_alloc_at _ _ _ _ e1.symm];rfl
 have HALL:Hid (∀ W,Below w0.heap.size w0 W->W.cell? ⟨w.heap.size,0,none⟩=some (.int .i64 (n:Int))/\W.cell? ⟨w.heap.size,1,none⟩=some (.int .i64 (k:Int))/\W.cell? ⟨w.heap.size+1,2,none⟩=some (.int .i64 v.size)/\W.cell? ⟨w.heap.size+1,3,none⟩=some (.int .i64 v.at_)/\W.cell? ⟨w.heap.size+1,4,none⟩=some (.string v.text)):=fun W hW=>by
  have hx:w.heap.size+1 < w0.heap.size:=lt_of_cellH b0
  have hy:w.heap.size < w0.heap.size:=lt_of_cellH a0
  exact ⟨(hW.cell (p:=⟨w.heap.size,0,none⟩) hy).trans a0,(hW.cell (p:=⟨w.heap.size,1,none⟩) hy).trans a1,(hW.cell (p:=⟨w.heap.size+1,2,none⟩) hx).trans b2,(hW.cell (p:=⟨w.heap.size+1,3,none⟩) hx).trans b3,(hW.cell (p:=⟨w.heap.size+1,4,none⟩) hx).trans b4⟩
 have HW0:Hid (w0=(w.alloc (.cells #[.int .i64 (n:Int),.int .i64 (k:Int),.slice p ln cap] 24)).alloc (.cells #[.int .i64 v.n,.int .i64 v.who,.int .i64 v.size,.int .i64 v.at_,.string v.text] 47)):=by rw [<- hwc];exact hw0
 have HTG:Hid (∀ W,Calls Tryz.prog 68 #[.agg #[.int .i64 v.n,.int .i64 v.who]] W fun e w'=>e=.returned (.bool (tagB v.n v.who))/\Below W.heap.size W w'):=fun W=>isTag_any v.n v.who W
 have HW:Hid ((tagB v.n v.who=false/\canB n k v=false)∨tagB v.n v.who=true/\((v.size < 0/\canB n k v=false)∨¬ v.size < 0/\((1000 < v.size/\canB n k v=false)∨¬ 1000 < v.size/\((v.at_ < 0/\canB n k v=false)∨¬ v.at_ < 0/\(((n:Int)<=v.at_/\canB n k v=false)∨¬ (n:Int)<=v.at_/\canB n k v=decide (v.text.size=wideN k v.size.toNat)))))):=by
  show _∨_
  unfold canB
  cases hT:tagB v.n v.who with
  | false=>exact Or.inl ⟨rfl,rfl⟩
  | true =>
   refine Or.inr ⟨rfl,?_⟩
   rw [Bool.true_and]
   by_cases g1:v.size < 0
   ·exact Or.inl ⟨g1,decide_eq_false (by omega)⟩
   refine Or.inr ⟨g1,?_⟩
   by_cases g2:1000 < v.size
   ·exact Or.inl ⟨g2,decide_eq_false (by omega)⟩
   refine Or.inr ⟨g2,?_⟩
   by_cases g3:v.at_ < 0
   ·exact Or.inl ⟨g3,decide_eq_false (by omega)⟩
   refine Or.inr ⟨g3,?_⟩
   by_cases g4:(n:Int)<=v.at_
   ·exact Or.inl ⟨g4,decide_eq_false (by omega)⟩
   refine Or.inr ⟨g4,?_⟩
   congr 1
   exact propext ⟨fun h=>h.2.2.2.2,fun h=>⟨by omega,by omega,by omega,by omega,h⟩⟩
 have HWD:Hid (∀ W (z:Nat),(z:Int)=v.size->z<=1000->Calls Tryz.prog 28 #[.int .i64 (k:Int),.int .i64 v.size] W fun e w'=>e=.returned (.int .i64 ((wideN k z:Nat):Int))/\w'=W):=fun W z hz h2=>by
  rw [<- hz]
  exact rwide_any k z W hk1 (by omega) (by omega)
 clear hwc hw0 hbc hb0c e1 b2 b3 b4 a0 a1
 generalize tagB v.n v.who=tb at *
 generalize canB n k v=r at *
 rcases HW.out with ⟨rfl,rfl⟩ | ⟨rfl,⟨g,rfl⟩ | ⟨g1,⟨g,rfl⟩ | ⟨g2,⟨g,rfl⟩ | ⟨g3,⟨g,rfl⟩ | ⟨g4,hr⟩⟩⟩⟩⟩
 all_goals
  go_enter Tryz.func86,Tryz.ntmps86
  go_wp2_with (rw [<- HW0.out])
  refine (HTG.out _).mono ?_
  rintro e w1 ⟨rfl,hb1⟩
  obtain ⟨m0,m1,m3,m4,m5⟩:=HALL.out w1 hb1
  have HB1:Hid (Below w.heap.size w w1):=HB0.out.trans (hb1.mono HB0.out.size)
  clear HTG hb1 b0 b1
  try (go_wp2;go_ret;exact ⟨rfl,HB1.out⟩)
 have HR:Hid (r=decide (v.text.size=wideN k v.size.toNat)):=hr
 have hz:((v.size.toNat:Nat):Int)=v.size:=by omega
 have HC:Hid (∀ W,Calls Tryz.prog 28 #[.int .i64 (k:Int),.int .i64 v.size] W fun e w'=>e=.returned (.int .i64 ((wideN k v.size.toNat:Nat):Int))/\w'=W):=fun W=>HWD.out W v.size.toNat hz (by omega)
 clear hr hz HWD HW
 generalize wideN k v.size.toNat=wd at *
 by_cases hq:v.text.size=wd
 ·have HR2:Hid (r=true):=by show _=_;rw [HR.out];exact decide_eq_true hq
  clear HR
  subst hq
  go_wp2
  go_quiet ((go_at_call 28;exact Calls.quiet_of_same (HC.out _)))
  go_wp2
  go_ret
  exact ⟨by rw [HR2.out];simp,below_drewN HB1.out _⟩
 ·have HR2:Hid (r=false):=by show _=_;rw [HR.out];exact decide_eq_false hq
  clear HR
  have d:(((v.text.size:Nat):Int)==(wd:Int))=false:=by rw [beq_eq_false_iff_ne];omega
  go_wp2
  go_quiet ((go_at_call 28;exact Calls.quiet_of_same (HC.out _)))
  go_wp2
  go_ret
  exact ⟨by rw [HR2.out];rfl,below_drewN HB1.out _⟩
set_option maxRecDepth 10000 in
set_option maxHeartbeats 4000000 in
theorem rspread_any (n k:Nat) (w:World) (hn:n<=100) (hk1:1<=k) (hk:k<=100) :
 Calls Tryz.prog 29 #[.int .i64 (n:Int),.int .i64 (k:Int)] w fun e w'=>(∃ p' c',e=.returned (.slice p' n c')/\Mat w' p' (spreadM k n))/\Below w.heap.size w w':=by
 obtain ⟨i1,hi1,hy0,hy1,hy2⟩:=info_parts rowinfo
 obtain ⟨i0,hi0,hz0,hz1,hzb⟩:=info_parts u8info
 go_enter Tryz.func29,Tryz.ntmps29
 go_wp2_with fail
 refine (upTo_any k _ hk).mono ?_
 rintro e w2 ⟨⟨vx,rfl,hox⟩,hb2⟩
 obtain ⟨px,cx,hvx,hsx⟩:=hox.seg (upToL_bytes k (by omega))
 rw [upToL_length] at hvx
 subst hvx
 have HSX:Hid (Seg w2 px (upToL k)):=hsx
 have HB2:Hid (Below w.heap.size w w2):=hb2
 have hzw:w.heap.size<=w2.heap.size:=hb2.size
 clear hox hsx hb2
 go_wp2
 go_loopw [6,7] (fun v x wr=>∃ i:Nat,i<=n/\x=.int .i64 i/\OwnMat w2.heap.size wr 76 v (spreadM k i)/\Below w2.heap.size w2 wr) (fun _ x _=>n - (intOf x).toNat)
 case atStart=>exact ⟨0,by omega,rfl,OwnMat.nil _ _ _,Below.refl _ _⟩
 case round =>
  obtain ⟨i,hi,rfl,hO,hBr⟩:=hrel
  have HO:Hid (OwnMat w2.heap.size wr 76 u6 (spreadM k i)):=hO
  have HBr:Hid (Below w2.heap.size w2 wr):=hBr
  have hz2:w2.heap.size<=wr.heap.size:=hBr.size
  clear hO hBr
  by_cases hil:i < n
  ·go_wp2_with (first | (at_make;refine wpList_make_row _ rfl (.tmp 17) (.tmp 17) 76 rfl 5 i0 (byteV 0) Tryz.underlying76 hi0 hz0 hz1 rfl .i64 .i64 k rfl rfl (by rw [hzb];omega) (by omega) ?_))
   obtain ⟨w3,rfl⟩:∃ w3,w3=wr:=⟨_,rfl⟩
   have hmk:OwnN (w3.alloc (.cells (madeCells #[byteV 0] k) 5)) w3.heap.size 5 w3.heap.size k (rowFn k (fun c=>if c < 0 then Gf.shareOf (upToL k) c i else 0)):=by
    have:=OwnN.made w3 w3.heap.size 5 k (Nat.le_refl _) (by omega)
    rw [rowFn_congr k _ (fun c=>if c < 0 then Gf.shareOf (upToL k) c i else 0) (fun c _=>by rw [if_neg (Nat.not_lt_zero _)])] at this
    exact this
   have hbk:Below w3.heap.size w3 (w3.alloc (.cells (madeCells #[byteV 0] k) 5)):=(Below.refl _ _).alloc (Nat.le_refl _) _
   generalize w3.alloc (.cells (madeCells #[byteV 0] k) 5)=w4 at hmk hbk ⊢
   have HMK:Hid (OwnN w4 w3.heap.size 5 w3.heap.size k (rowFn k (fun c=>if c < 0 then Gf.shareOf (upToL k) c i else 0))):=hmk
   have HBK:Hid (Below w3.heap.size w3 w4):=hbk
   clear hmk hbk
   go_loopw [9] (fun x wq=>∃ j:Nat,j<=k/\x=.int .i64 j/\OwnN wq w3.heap.size 5 w3.heap.size k (rowFn k (fun c=>if c < j then Gf.shareOf (upToL k) c i else 0))/\Below w3.heap.size w3 wq) (fun x _=>k - (intOf x).toNat)
   case atStart=>exact ⟨0,by omega,rfl,HMK.out,HBK.out⟩
   case round =>
    obtain ⟨j,hj,rfl,hON,hBq⟩:=hrel
    obtain ⟨w5,rfl⟩:∃ w5,w5=wr:=⟨_,rfl⟩
    have HON:Hid (OwnN w5 w3.heap.size 5 w3.heap.size k (rowFn k (fun c=>if c < j then Gf.shareOf (upToL k) c i else 0))):=hON
    have HBq:Hid (Below w3.heap.size w3 w5):=hBq
    have hz5:w3.heap.size<=w5.heap.size:=hBq.size
    clear hON hBq HMK HBK
    by_cases hjl:j < k
    ·have HS5:Hid (Seg w5 px (upToL k)):=(HSX.out.below HBr.out).below HBq.out
     go_wp2_with fail
     refine (basis_told px k cx j i _ (by omega) hk hjl HS5.out).mono ?_
     rintro e w6 ⟨rfl,m,hw6⟩
     have HO6:Hid (OwnN w6 w3.heap.size 5 w3.heap.size k (rowFn k (fun c=>if c < j then Gf.shareOf (upToL k) c i else 0))):=by rw [hw6];exact HON.out.drewN m
     have HB6:Hid (Below w3.heap.size w3 w6):=by rw [hw6];exact below_drewN HBq.out m
     have q5:w6.cell? ⟨w3.heap.size,j,none⟩=some (.int .u8 ((0:Nat):Int)):=by rw [HO6.out.cell j hjl (rowFn_length _ _),nth_rowFn _ _ j hjl,if_neg (Nat.lt_irrefl _)]
     have q6:w6.frozen? ⟨w3.heap.size,j,none⟩=false:=HO6.out.free j
     have HT:Hid (OwnN (w6.setCell ⟨w3.heap.size,j,none⟩ (.int .u8 ((Gf.shareOf (upToL k) j i:Nat):Int))) w3.heap.size 5 w3.heap.size k (rowFn k (fun c=>if c < j+1 then Gf.shareOf (upToL k) c i else 0))):=by
      have:=HO6.out.set j (Gf.shareOf (upToL k) j i)
      rw [rowFn_congr k (fun c=>if c < j+1 then Gf.shareOf (upToL k) c i else 0) (fun c=>if c=j then Gf.shareOf (upToL k) j i else if c < j then Gf.shareOf (upToL k) c i else 0) (fun c _=>by
       by_cases e:c=j
       ·subst e;rw [if_pos (by omega),if_pos rfl]
       ·rw [if_neg e]
        by_cases e':c < j
        ·rw [if_pos (by omega),if_pos e']
        ·rw [if_neg (by omega),if_neg e'])]
      exact this
     clear hw6 HON HBq HS5 HO6
     generalize Gf.shareOf (upToL k) j i=sh at HT ⊢
     go_wp2
     go_roundw
     case rel=>exact ⟨j+1,by omega,by go_num,HT.out,HB6.out.setCell (Nat.le_refl _) _⟩
     case measure=>simp [intOf];omega
    ·have hje:j=k:=by omega
     subst hje
     obtain ⟨vs,hmv⟩:=HO.out
     have HMV:Hid (OwnMatV w2.heap.size w3 76 u6 vs (spreadM j i)):=hmv
     have HV:Hid (OwnV w3 w2.heap.size 76 u6 vs):=hmv.1
     have HVL:Hid (vs.length=i):=hmv.2.1.trans (spreadM_length j i)
     have hr:Hid (Own w5 w3.heap.size 5 (.slice (some ⟨w3.heap.size,0,none⟩) j j) (rowFn j fun c=>Gf.shareOf (upToL j) c i)):=by
      refine OwnN.own ?_ (rowFn_length _ _)
      rw [rowFn_congr j _ (fun c=>if c < j then Gf.shareOf (upToL j) c i else 0) (fun c hc=>by rw [if_pos hc])]
      exact HON.out
     clear hmv HON
     go_wp2_with (first | (at_builtin;refine wpList_append_val rfl (.tmp 32) (.tmp 34) 74 rfl w2.heap.size 76 i1 (.slice none 0 0) 24 Tryz.underlying74 hi1 hy0 rfl hy1 hy2 (by decide) u6 vs rfl (((HV.out.kept (row:=none) ⟨HBq.out.os,HBq.out.tape,HBq.out.output,HBq.out.size,fun k hk _=>HBq.out.block k hk⟩ (by cases hv:u6.ownBlock <;> simp))).kept (World.grownBy_alloc w5 _ none) (by cases hv:u6.ownBlock <;> simp)) ⟨w5.heap.size,0,none⟩ 1 (.slice (some ⟨w3.heap.size,0,none⟩) j j) rfl rfl (by simp) (by have:=HVL.out;omega) (by simp;omega) ?_;intro v' w8 hV' hg' hw'))
     have hmv3:=HMV.out.snoc hz2 hr.out (rowFn_bytes _ _ fun c=>Gf.shareOf_lt _ c _) HBq.out hV' hg' hw'
     have hb8:Below w2.heap.size w2 w8:=((HBr.out.trans (HBq.out.mono hz2)).alloc (by omega) _).grown hg' (by simp;omega) (fun k' hk'=>(HV.out.block hk').1)
     go_roundw
     case rel=>exact ⟨i+1,by omega,by go_num,⟨_,by rw [spreadM_succ];exact hmv3⟩,hb8⟩
     case measure=>simp [intOf];omega
  ·have hie:i=n:=by omega
   subst hie
   obtain ⟨p',c',hv,hmat⟩:=HO.out.mat
   rw [spreadM_length] at hv
   subst hv
   clear HO
   go_wp2
   go_ret
   exact ⟨⟨p',c',rfl,hmat⟩,HB2.out.trans (HBr.out.mono hzw)⟩
set_option maxRecDepth 10000 in
set_option maxHeartbeats 1000000 in
theorem sign_any (r:Nat) (W:World):Calls Tryz.prog 50 #[.int .i32 (r:Int)] W fun e w'=>e=.returned (.bool (!letterB r))/\w'=W:=by
 have key:∀ b,letterB r=b->Hid ((!letterB r)=(!b)):=fun b h=>by show _=_;rw [h]
 rcases (show (97<=r/\r<=122)∨(48<=r/\r<=57)∨r=45∨122 < r∨(57 < r/\r < 97)∨(r < 48/\r≠45) by omega) with hc | hc | hc | hc | hc | hc
 ·have HL:=key true (by simp [letterB,hc])
  obtain ⟨hc1,hc2⟩:=hc
  have d1:decide ((r:Int) < 97)=false:=decide_eq_false (by omega)
  have d2:decide (122 < (r:Int))=false:=decide_eq_false (by omega)
  rw [HL.out]
  clear key
  go_enter Tryz.func50,Tryz.ntmps50
  go_wp2
  go_ret
  exact ⟨rfl,rfl⟩
 ·have HL:=key true (by simp [letterB,hc])
  obtain ⟨hc1,hc2⟩:=hc
  have d1:decide ((r:Int) < 97)=true:=decide_eq_true (by omega)
  have d3:decide ((r:Int) < 48)=false:=decide_eq_false (by omega)
  have d4:decide (57 < (r:Int))=false:=decide_eq_false (by omega)
  rw [HL.out]
  clear key
  go_enter Tryz.func50,Tryz.ntmps50
  go_wp2
  go_ret
  exact ⟨rfl,rfl⟩
 ·have HL:=key true (by simp [letterB,hc])
  subst hc
  rw [HL.out]
  clear key
  go_enter Tryz.func50,Tryz.ntmps50
  go_wp2
  go_ret
  exact ⟨rfl,rfl⟩
 ·have HL:=key false (by unfold letterB;rw [decide_eq_false (by omega),decide_eq_false (by omega),decide_eq_false (by omega)];rfl)
  have d1:decide ((r:Int) < 97)=false:=decide_eq_false (by omega)
  have d2:decide (122 < (r:Int))=true:=decide_eq_true (by omega)
  have d3:decide ((r:Int) < 48)=false:=decide_eq_false (by omega)
  have d4:decide (57 < (r:Int))=true:=decide_eq_true (by omega)
  have d5:((r:Int) != 45)=true:=by rw [bne_iff_ne];omega
  have d6:((r:Int)==45)=false:=by rw [beq_eq_false_iff_ne];omega
  rw [HL.out]
  clear key
  go_enter Tryz.func50,Tryz.ntmps50
  go_wp2
  go_ret
  exact ⟨rfl,rfl⟩
 ·have HL:=key false (by unfold letterB;rw [decide_eq_false (by omega),decide_eq_false (by omega),decide_eq_false (by omega)];rfl)
  obtain ⟨hc1,hc2⟩:=hc
  have d1:decide ((r:Int) < 97)=true:=decide_eq_true (by omega)
  have d3:decide ((r:Int) < 48)=false:=decide_eq_false (by omega)
  have d4:decide (57 < (r:Int))=true:=decide_eq_true (by omega)
  have d5:((r:Int) != 45)=true:=by rw [bne_iff_ne];omega
  have d6:((r:Int)==45)=false:=by rw [beq_eq_false_iff_ne];omega
  rw [HL.out]
  clear key
  go_enter Tryz.func50,Tryz.ntmps50
  go_wp2
  go_ret
  exact ⟨rfl,rfl⟩
 ·have HL:=key false (by unfold letterB;rw [decide_eq_false (by omega),decide_eq_false (by omega),decide_eq_false (by omega)];rfl)
  obtain ⟨hc1,hc2⟩:=hc
  have d1:decide ((r:Int) < 97)=true:=decide_eq_true (by omega)
  have d3:decide ((r:Int) < 48)=true:=decide_eq_true (by omega)
  have d5:((r:Int) != 45)=true:=by rw [bne_iff_ne];omega
  have d6:((r:Int)==45)=false:=by rw [beq_eq_false_iff_ne];omega
  rw [HL.out]
  clear key
  go_enter Tryz.func50,Tryz.ntmps50
  go_wp2
  go_ret
  exact ⟨rfl,rfl⟩
theorem idxFrom (s:ByteArray):∀ (f i:Nat),s.size<=i+f->(decide (0<=Lib.idxFuncFrom (fun r=>!letterB r) true s f i)=true↔∃ j,i<=j/\j < s.size/\letterB (Gf.nth (bytesOf s) j)=false)
 | 0,i,h=>by
  constructor
  ·intro h1
   have h2:decide ((0:Int)<=-1)=true:=h1
   cases h2
  ·rintro ⟨j,h1,h2,_⟩
   omega
 | f+1,i,h=>by
  show decide (0<=(if i < s.size then (if (!letterB (Utf8.decode s i).1)=true then (i:Int) else Lib.idxFuncFrom (fun r=>!letterB r) true s f (i+(Utf8.decode s i).2)) else -1))=true↔_
  by_cases hi:i < s.size
  ·rw [if_pos hi]
   by_cases ha:(s[i]'hi).toNat < 128
   ·rw [decode_ascii s i hi ha,<- bytesOf_nth s i hi]
    have ih:=idxFrom s f (i+1) (by omega)
    cases hl:letterB (Gf.nth (bytesOf s) i) with
    | false =>
     rw [if_pos (by rfl)]
     exact ⟨fun _=>⟨i,Nat.le_refl _,hi,hl⟩,fun _=>decide_eq_true (by omega)⟩
    | true =>
     rw [if_neg (by simp),ih]
     constructor
     ·rintro ⟨j,h1,h2,h3⟩
      exact ⟨j,by omega,h2,h3⟩
     ·rintro ⟨j,h1,h2,h3⟩
      refine ⟨j,?_,h2,h3⟩
      by_cases e:j=i
      ·rw [e,hl] at h3;cases h3
      ·omega
   ·have h1:=(decode_high s i hi (by omega)).1
    have hl:letterB (Utf8.decode s i).1=false:=by
     unfold letterB
     rw [decide_eq_false (by omega),decide_eq_false (by omega),decide_eq_false (by omega)]
     rfl
    have hl2:letterB (Gf.nth (bytesOf s) i)=false:=by
     rw [bytesOf_nth s i hi]
     unfold letterB
     rw [decide_eq_false (by omega),decide_eq_false (by omega),decide_eq_false (by omega)]
     rfl
    rw [hl,if_pos (by rfl)]
    exact ⟨fun _=>⟨i,Nat.le_refl _,hi,hl2⟩,fun _=>decide_eq_true (by omega)⟩
  ·rw [if_neg hi]
   constructor
   ·intro h1
    cases h1
   ·rintro ⟨j,h1,h2,_⟩
    omega
theorem idxOf (s:ByteArray):decide (0<=Lib.idxFunc (fun r=>!letterB r) true s)=!((bytesOf s).all letterB):=by
 have h:=idxFrom s s.size 0 (by omega)
 cases ha:(bytesOf s).all letterB with
 | true =>
  rw [show (!true)=false from rfl,Bool.eq_false_iff]
  intro h1
  obtain ⟨j,_,hj,h3⟩:=h.1 h1
  have hj':j < (bytesOf s).length:=by rw [bytesOf_length];exact hj
  rw [List.all_eq_true] at ha
  have:=ha (Gf.nth (bytesOf s) j) (by rw [Gf.nth_getElem _ j hj'];exact List.getElem_mem hj')
  rw [h3] at this
  cases this
 | false =>
  obtain ⟨x,hx,hne⟩:=List.all_eq_false.1 ha
  obtain ⟨j,hj,rfl⟩:=List.getElem_of_mem hx
  refine h.2 ⟨j,Nat.zero_le _,by rw [bytesOf_length] at hj;exact hj,?_⟩
  rw [Gf.nth_getElem _ j hj]
  exact Bool.eq_false_iff.2 hne
set_option maxRecDepth 10000 in
set_option maxHeartbeats 1000000 in
theorem pname_any (s:ByteArray) (w:World):Calls Tryz.prog 32 #[.string s] w fun e w'=>e=.returned (.bool (isN s))/\Below w.heap.size w w':=by
 by_cases h1:s.size < 1
 ·have HE:Hid (isN s=false):=isN_len (by omega)
  have d1:decide (1<=(s.size:Int))=false:=decide_eq_false (by omega)
  rw [HE.out]
  go_enter Tryz.func32,Tryz.ntmps32
  go_wp2
  go_ret
  exact ⟨rfl,Below.refl _ _⟩
 have d1:decide (1<=(s.size:Int))=true:=decide_eq_true (by omega)
 by_cases h2:16 < s.size
 ·have HE:Hid (isN s=false):=isN_len (by omega)
  have d2:decide ((s.size:Int)<=16)=false:=decide_eq_false (by omega)
  rw [HE.out]
  go_enter Tryz.func32,Tryz.ntmps32
  go_wp2
  go_ret
  exact ⟨rfl,Below.refl _ _⟩
 have d2:decide ((s.size:Int)<=16)=true:=decide_eq_true (by omega)
 have HC:=Tryz.strings_ContainsFunc 50 #[] (enters_of Tryz.func50 (by kernel_rfl) rfl) (fun r=>!letterB r) s w (fun W r _=>by
  unfold FnGives
  exact (sign_any r W).mono fun _ _ ⟨he,hw⟩=>⟨he,0,hw⟩)
 rw [idxOf] at HC
 have HE:Hid (isN s=(bytesOf s).all letterB):=by show _=_;unfold isN;rw [decide_eq_true ⟨by omega,by omega⟩,Bool.true_and]
 rw [HE.out]
 generalize (bytesOf s).all letterB=r at *
 clear HE
 go_enter Tryz.func32,Tryz.ntmps32
 go_wp2_with fail
 refine HC.mono ?_
 rintro e w1 ⟨rfl,hb1⟩
 clear HC
 cases r with
 | true =>
  go_wp2
  go_ret
  exact ⟨rfl,hb1⟩
 | false =>
  go_wp2
  go_ret
  exact ⟨rfl,hb1⟩
end Go.Proofs.YtghpdhegfnhmkaaGreatDoor

/- Texts laid together. -/
import Derived.Test.YtmikbldbfnlfjaaGreatDoorCs10
set_option maxRecDepth 10000
set_option maxHeartbeats 16000000
namespace Go.Proofs.YtmikbldbfnlfjaaGreatDoor
open Go.Proofs.Tryz
open Go.RowKit
variable {w w' J:World}{b o h:Nat}{v cv cv':Value}{p:Option Addr}{S0 S1 S:Nat->Prop}{dT:Int}{text x:ByteArray}{row:ByteArray->Value}{D:DataW Value}{X:TypeId}{j I:Array Value}{m:Zb}
section
def Za.obj (a:Za):Int×Int×ByteArray×Bool:=if (a.st=.keeping∨a.st=.done)/\a.found=true then (a.tag.1,a.tag.2,a.text,true) else (0,0,⟨#[]⟩,false)
def Za.first (a:Za):Prop:=a.st=.looking∨a.st=.sealing
structure J0 where
 c:Xg
 num:Int
 v:Value
def JG (a:Za) (P:J0) (aw:ByteArray) (j:Nat) (y:Value) (F T:J0) (asks:ByteArray) (cv:Value):Array Value:=#[.string a.name,.string a.key,.int .i64 a.op,.int .i64 P.c.n,.int .i64 P.c.k,P.v,.int .i64 P.num,.string aw,.int .i64 (j:Int),y,.int .i64 F.c.n,.int .i64 F.c.k,F.v,.int .i64 F.num,.int .i64 T.c.n,.int .i64 T.c.k,T.v,.int .i64 T.num,.string asks,cv,.string a.st.word,.int .i64 a.obj.1,.int .i64 a.obj.2.1,.string a.obj.2.2.1,.bool a.obj.2.2.2]
def qE (put:Bool) (dT:Int) (text:ByteArray) (c:Xg) (LL:List (List Yb)):Value:=if put then .agg #[.int .i64 (XF LL+1),.int .i64 dT,.string text,.bool true] else .agg #[.int .i64 (Ys c.n.toNat c.k.toNat LL.flatten LL.flatten).1.1,.int .i64 (Ys c.n.toNat c.k.toNat LL.flatten LL.flatten).1.2,.string (Ys c.n.toNat c.k.toNat LL.flatten LL.flatten).2.1,.bool (Ys c.n.toNat c.k.toNat LL.flatten LL.flatten).2.2]
structure KN (W:World) (ad:Nat->Addr) (z:Addr) (c:Xg) (mp:Option Addr) (mc:Nat) (p:Option Addr) (LL:List (List Yb)):Prop where
 cfg:Yn W c mp mc
 aN:¬ 0 < (Jg c).1
 wO:eU W p LL
 le:¬ c.n < (LL.length:Int)
 m1:LL.length<=1000
 m2:LL.flatten.length<=1000
 m3:∀ l ∈ LL,l.length<=1000
 int:∀ v ∈ LL.flatten,Jt v
 eZ:Zp W ad
 zero:W.cell? ⟨11,0,none⟩=some (.iface 252 (.pointer (some z)))
def jY (w:World) (S0:Nat->Prop) (put:Bool) (dT:Int) (text:ByteArray) (cv:Value):Prop :=
 ∃ j y,cv=.func (.func j) #[] y/\(∀ args W,Sem.run prog (callFunc j args) W=.ok (.enter j args) W)/\∀ W,(∀ k,S0 k->W.heap[k]?=w.heap[k]?)->∀ ad z c mp G p LL I,KN W ad z c mp G p LL->Calls prog j (#[.agg #[.int .i64 c.n,.int .i64 c.k,.slice mp c.L.length G],.slice p LL.length I] ++ y) W fun e w'=>e=.returned (qE put dT text c LL)/\Below W.heap.size W w'
structure ZC (w:World) (b:Nat) (F:List ByteArray) (D:DataW Value) (row:ByteArray->Value):Prop where
 own:∃ n,QX w b n D
 has:∀ x,x.size<=maxLen->Maps.has D (Xv x)=Xu F x
 at_:∀ x,x ∈ F->∀ z,D.atKey (Xv x) z=.held (row x)
 size:Maps.size D=F.length
structure jC (w:World) (S0:Nat->Prop) (P:J0):Prop where
 aN:¬ 0 < (Jg P.c).1
 mem:∃ p c,P.v=.slice p P.c.L.length c/\Strs w p P.c.L/\P.c.L.length<=c/\(p=none->P.c.L=[]/\c=0)/\∀ b o,p=some ⟨b,o,none⟩->S0 b
structure l6 (w:World) (S0:Nat->Prop) (a:Za) (F T:J0) (cv:Value) (row:ByteArray->Value):Prop where
 fr:jC w S0 F
 aP:jC w S0 T
 ch:a.first->jY w S0 a.put a.dT a.text cv
 rows:a.first->∀ x ∈ a.from_,∃ q c,row x=.slice q (QK a x).length c/\Ql Ze w q (QK a x)/\(QK a x).length<=c/\(q=none->QK a x=[]/\c=0)/\∀ b o,q=some ⟨b,o,none⟩->S0 b
 lt:∀ k,S0 k->k < w.heap.size
structure QN (a:Za):Prop where
 cfg:¬ 0 < (Jg a.c).1
 key:a.key.size<=100
 name:a.name.size<=100
 text:a.text.size<=1000
 still:a.aI=false->a.st≠.sealing
 aI:a.aI=true->a.st≠.looking
 nodup:a.from_.Nodup
 sub:∀ x ∈ a.from_,x ∈ a.c.L
 both:a.from_.length=a.L.length
 aS:a.st=.keeping->a.found=true
 cM:∀ l ∈ a.L,∀ v ∈ l,Jt v
structure B6 (a:Za) (P F T:J0) (asks:ByteArray):Prop where
 rC:a.first->P=F/\F.c=a.c/\F.num=a.config/\T.c=a.keeps.c/\T.num=a.keeps.config
 yR:a.st=.keeping->P=T/\T.c=a.c/\T.num=a.config
 sJ:a.aI=false->F.c=a.c/\F.num=a.config
 kind:asks=if a.aI then O1 else rO
structure JF (X:TypeId) (w:World) (B:Nat) (h:Nat) (S S0:Nat->Prop) (a:Za) (P F T:J0) (asks:ByteArray) (cv:Value) (aw:ByteArray) (m:Option Nat) (D:DataW Value) (row:ByteArray->Value):Prop where
 eK:w.heap[h]?=some (.cells (JG a P aw (Jh P.c) (.map m) F T asks cv) X (0,0))
 self:S h
 aO:∀ k,S k->B<=k/\k < w.heap.size
 stat:l6 w S0 a F T cv row
 s0:∀ k,S0 k->S k/\k≠h/\m≠some k
 aN:QN a
 fF:B6 a P F T asks
 open_:a.first∨a.st=.keeping->∃ b,m=some b/\S b/\b≠h/\ZC w b a.from_ D row
 shut:a.st=.done∨a.st=.refused->m=none
 rY:a.first∨a.st=.keeping->aw=a.st.waits
def ZR (X:TypeId) (w:World) (B:Nat) (h:Nat) (S:Nat->Prop) (a:Za):Prop:=∃ S0 P F T asks cv aw m D row,JF X w B h S S0 a P F T asks cv aw m D row
theorem YC  (h:w.cell? ⟨b,o,none⟩=some v):b < w.heap.size:=by
 rcases Nat.lt_or_ge b w.heap.size with j | j
 ·exact j
 ·simp [World.cell?,Array.getElem?_eq_none j] at h
theorem Strs.same  {L:List ByteArray} (h:Strs w p L) (J:w.heap.size<=w'.heap.size) (K:∀ b o,p=some ⟨b,o,none⟩->w'.heap[b]?=w.heap[b]?):Strs w' p L:=by
 rcases h with h | ⟨b,o,j,y,G⟩
 ·exact Or.inl h
 ·exact Or.inr ⟨b,o,j,Nat.lt_of_lt_of_le y J,fun i I=>(World.cell?_of_block (a:=⟨b,o+i,none⟩) (K b o j)).trans (G i I)⟩
theorem Ql.sameAt {α:Type} {E:eW α}  {l:List α} (h:Ql E w p l) (N:w.heap.size<=w'.heap.size) (O:∀ b o,p=some ⟨b,o,none⟩->w'.heap[b]?=w.heap[b]?):Ql E w' p l:=by
 rcases h with h | ⟨b,o,y,I,J⟩
 ·exact Or.inl h
 ·exact Or.inr ⟨b,o,y,Nat.lt_of_lt_of_le I N,fun j x K G u M=>(World.cell?_of_block (a:=⟨b,o+j*E.k+G,none⟩) (O b o y)).trans (J j x K G u M)⟩
theorem jY.aS  {put:Bool}  (h:jY w S0 put dT text cv) (N:∀ k,S0 k->w'.heap[k]?=w.heap[k]?):jY w' S0 put dT text cv:=by
 obtain ⟨y,G,I,J,K⟩:=h
 exact ⟨y,G,I,J,fun W M=>K W (fun k j=>(M k j).trans (N k j))⟩
theorem jY.more  {put:Bool}  (h:jY w S0 put dT text cv) (N:∀ k,S0 k->S1 k):jY w S1 put dT text cv:=by
 obtain ⟨j,y,G,I,J⟩:=h
 exact ⟨j,y,G,I,fun W K=>J W (fun k M=>K k (N k M))⟩
theorem jC.aS  {P:J0} (h:jC w S0 P) (M:w.heap.size<=w'.heap.size) (N:∀ k,S0 k->w'.heap[k]?=w.heap[k]?):jC w' S0 P:=by
 obtain ⟨p,c,y,G,I,J,j⟩:=h.mem
 exact ⟨h.aN,p,c,y,G.same M (fun b o K=>N b (j b o K)),I,J,j⟩
theorem jC.more  {P:J0} (h:jC w S0 P) (M:∀ k,S0 k->S1 k):jC w S1 P:=by
 obtain ⟨p,c,j,y,G,I,J⟩:=h.mem
 exact ⟨h.aN,p,c,j,y,G,I,fun b o K=>M b (J b o K)⟩
theorem l6.aS  {a:Za} {F T:J0}  (h:l6 w S0 a F T cv row) (j:w.heap.size<=w'.heap.size) (y:∀ k,S0 k->w'.heap[k]?=w.heap[k]?):l6 w' S0 a F T cv row:=by
 refine ⟨h.fr.aS j y,h.aP.aS j y,fun G=>(h.ch G).aS y,fun G x J=>?_,fun k K=>Nat.lt_of_lt_of_le (h.lt k K) j⟩
 obtain ⟨q,c,M,N,O,Q,I⟩:=h.rows G x J
 exact ⟨q,c,M,N.sameAt j (fun b o U=>y b (I b o U)),O,Q,I⟩
theorem ZC.same  {F:List ByteArray}  (h:ZC w b F D row) (y:w'.heap[b]?=w.heap[b]?):ZC w' b F D row:=by
 obtain ⟨n,j⟩:=h.own
 exact ⟨⟨n,j.same y⟩,h.has,h.at_,h.size⟩
theorem ZC.made  (row:ByteArray->Value) (N:w.heap[b]?=some (.map #[] 0)):ZC w b [] (.map []) row:=by
 refine ⟨⟨0,#[],0,N,?_⟩,fun _ _=>rfl,(fun x y=>by cases y),rfl⟩
 obtain ⟨O,Q,j,G,I,J⟩:=World.ownsMap_made w prog 9 iW
 have e:(w.alloc (.map #[] 0)).heap[w.heap.size]?=some (.map #[] 0):=by
  show (w.heap.push _)[w.heap.size]?=_
  simp
 rw [e] at j
 injection j with j
 injection j with K M
 subst K M
 exact ⟨G,I,J⟩
variable {X:TypeId} {w w':World} {B h:Nat} {S S0:Nat->Prop} {a:Za} {P F T:J0} {asks:ByteArray} {cv:Value} {aw:ByteArray} {m:Option Nat} {D:DataW Value} {row:ByteArray->Value}
theorem JF.aS (j:JF X w B h S S0 a P F T asks cv aw m D row) (J:w.heap.size<=w'.heap.size) (G:∀ k,S k->w'.heap[k]?=w.heap[k]?):JF X w' B h S S0 a P F T asks cv aw m D row where
 eK:=(G h j.self).trans j.eK
 self:=j.self
 aO:=fun k y=>⟨(j.aO k y).1,Nat.lt_of_lt_of_le (j.aO k y).2 J⟩
 stat:=j.stat.aS J (fun k y=>G k (j.s0 k y).1)
 s0:=j.s0
 aN:=j.aN
 fF:=j.fF
 open_:=fun K=>by
  obtain ⟨b,M,I,N,O⟩:=j.open_ K
  exact ⟨b,M,I,N,O.same (G b I)⟩
 shut:=j.shut
 rY:=j.rY
theorem JF.below (j:JF X w B h S S0 a P F T asks cv aw m D row) (y:Below w.heap.size w w'):JF X w' B h S S0 a P F T asks cv aw m D row:=j.aS y.size (fun k G=>y.block k (j.aO k G).2)
theorem JF.cell (j:JF X w B h S S0 a P F T asks cv aw m D row) (i:Nat):w.cell? ⟨h,i,none⟩=(JG a P aw (Jh P.c) (.map m) F T asks cv)[i]?:=by simp [World.cell?,j.eK]
theorem JF.lt (j:JF X w B h S S0 a P F T asks cv aw m D row):h < w.heap.size:=(j.aO h j.self).2
theorem JF.here (y:JF X w B h S S0 a P F T asks cv aw m D row) (j:a.first∨a.st=.keeping):jC w S0 P/\P.c=a.c/\P.num=a.config:=by
 rcases j with j | j
 ·obtain ⟨G,I,J,_⟩:=y.fF.rC j
  subst G
  exact ⟨y.stat.fr,I,J⟩
 ·obtain ⟨G,I,J⟩:=y.fF.yR j
  subst G
  exact ⟨y.stat.aP,I,J⟩
theorem ZC.look {F:List ByteArray} (y:ZC w b F D row) (G:x.size<=maxLen):(Instr.lookup 89 (.map (some b)) (.string x) false).run prog w=.ok (if Xu F x then row x else .slice none 0 0) w:=by
 have I:(zeroValue 55).run prog w=.ok (.slice none 0 0) w:=by kernel_rfl
 obtain ⟨n,J⟩:=y.own
 obtain ⟨v,ps,K,M⟩:=World.ownsMap.lookup J kE underlying89 I (zd:=.held (.slice none 0 0)) (zp:=[]) rfl (qP G)
 rw [K]
 have e:DataW.held v=D.atKey (Xv x) (.held (.slice none 0 0)):=congrArg Prod.fst (Option.some.inj M)
 by_cases j:Xu F x=true
 ·rw [if_pos j]
  rw [y.at_ x (Zl.1 j)] at e
  injection e with e
  rw [e]
 ·rw [if_neg j]
  rw [Maps.atKey_of_not_has (by rw [y.has x G];simpa using j)] at e
  injection e with e
  rw [e]
theorem ZC.pY {F:List ByteArray} (y:ZC w b F D row) (G:x.size<=maxLen):(Instr.lookup 89 (.map (some b)) (.string x) true).run prog w=.ok (.tuple #[if Xu F x then row x else .slice none 0 0,.bool (Xu F x)]) w:=by
 have I:(zeroValue 55).run prog w=.ok (.slice none 0 0) w:=by kernel_rfl
 obtain ⟨n,J⟩:=y.own
 obtain ⟨v,ps,K,M⟩:=World.ownsMap.look_ok J kE underlying89 I (zd:=.held (.slice none 0 0)) (zp:=[]) rfl (qP G)
 rw [K,y.has x G]
 have e:DataW.held v=D.atKey (Xv x) (.held (.slice none 0 0)):=congrArg Prod.fst (Option.some.inj M)
 by_cases j:Xu F x=true
 ·rw [if_pos j]
  rw [y.at_ x (Zl.1 j)] at e
  injection e with e
  rw [e]
 ·rw [if_neg j]
  rw [Maps.atKey_of_not_has (by rw [y.has x G];simpa using j)] at e
  injection e with e
  rw [e]
theorem ZC.len {F:List ByteArray} (j:ZC w b F D row) (y:TypeId):(Builtin.len_ #[89] y #[.map (some b)]).run prog w=.ok (.int .i64 (F.length:Nat)) w:=by
 obtain ⟨n,G⟩:=j.own
 rw [World.ownsMap.len G underlying89 y,j.size]
theorem ZC.put {F:List ByteArray} (j:ZC w b F D row) (U:x.size<=maxLen) (W:x ∉ F) (v:Value) (Y:∃ n,QX w' b n (D.put (Xv x) (.held v))):ZC w' b (F ++ [x]) (D.put (Xv x) (.held v)) (fun y=>if y=x then v else row y):=by
 obtain ⟨n,M⟩:=j.own
 have O:=World.ownsMap.tidy M kE
 have N:=World.ownsMap.isMap M
 refine ⟨Y,fun y I=>?_,fun y I z=>?_,?_⟩
 ·by_cases e:y=x
  ·subst e
   rw [Maps.has_put_same N (qR y)]
   exact (Zl.2 (by simp)).symm
  ·rw [Maps.has_put_other (fun J=>e (rF J)),j.has y I]
   by_cases G:y ∈ F
   ·rw [Zl.2 G,Zl.2 (by simp [G])]
   ·have K:Xu F y=false:=Bool.eq_false_iff.2 fun h=>G (Zl.1 h)
    have Q:Xu (F ++ [x]) y=false:=Bool.eq_false_iff.2 fun h=>by
     rcases List.mem_append.1 (Zl.1 h) with h | h
     ·exact G h
     ·exact e (List.mem_singleton.1 h)
    rw [K,Q]
 ·by_cases e:y=x
  ·subst e
   rw [Maps.atKey_put_same N (qR y)]
   simp
  ·rw [Maps.atKey_put_other (fun J => e (rF J)), j.at_ y (by
    rcases List.mem_append.1 I with h | h
    ·exact h
    ·exact absurd (List.mem_singleton.1 h) e)]
   simp [e]
 ·have K:Maps.has D (Xv x)=false:=by rw [j.has x U];exact Bool.eq_false_iff.2 fun h=>W (Zl.1 h)
  rw [Maps.size_put O,K,j.size]
  simp
end
structure YB (X:TypeId) (h:Nat) (cs:Array Value) (w w':World):Prop where
 os:w'.os=w.os
 tape:w'.tape=w.tape
 output:w'.output=w.output
 size:w.heap.size<=w'.heap.size
 eK:w'.heap[h]?=some (.cells cs X (0,0))
 cW:∀ k,k < w.heap.size->k≠h->w'.heap[k]?=w.heap[k]?
theorem YB.lt  {y:Array Value} (D:YB X h y w w'):h < w'.heap.size:=by
 rcases Nat.lt_or_ge h w'.heap.size with j | j
 ·exact j
 ·have:=D.eK
  rw [Array.getElem?_eq_none j] at this
  cases this
theorem YB.refl   (y:w.heap[h]?=some (.cells j X (0,0))):YB X h j w w:=⟨rfl,rfl,rfl,Nat.le_refl _,y,fun _ _ _=>rfl⟩
theorem YB.set  {D:Array Value} (j:YB X h D w w') (i:Nat) (v:Value):YB X h (D.setIfInBounds i v) w (w'.setCell ⟨h,i,none⟩ v):=⟨j.os,j.tape,j.output,by simpa [World.setCell] using j.size,V0 j.eK i v,fun k G y=>(Below.heap_setCell w' _ v k y).trans (j.cW k G y)⟩
theorem YB.below  {D:World} (j:YB X h I w D) (y:Below D.heap.size D J):YB X h I w J:=⟨y.os.trans j.os,y.tape.trans j.tape,y.output.trans j.output,Nat.le_trans j.size y.size,(y.block h j.lt).trans j.eK,fun k G K=>(y.block k (Nat.lt_of_lt_of_le G j.size)).trans (j.cW k G K)⟩
theorem YB.trans  {M:Array Value} {K:World} (j:YB X h M w J) (y:YB X h I J K):YB X h I w K:=⟨y.os.trans j.os,y.tape.trans j.tape,y.output.trans j.output,Nat.le_trans j.size y.size,y.eK,fun k D G=>(y.cW k (Nat.lt_of_lt_of_le D j.size) G).trans (j.cW k D G)⟩
theorem YB.nJ  {G:Array Value} {S':Nat->Prop} (j:YB X h G w w') (I:S h) (J:∀ k,S' k->S k∨w.heap.size<=k):Yd S S' w w':=⟨j.os,j.tape,j.output,j.size,fun k y D=>j.cW k y (fun e=>D (e ▸ I)),J⟩
theorem Jb  {T:TypeId} (y:w.heap[h]?=some (.cells j T (0,0))) (i:Nat):w.cell? ⟨h,i,none⟩=j[i]?/\w.frozen? ⟨h,i,none⟩=false:=⟨by simp [World.cell?,y],by simp [World.frozen?,y]⟩
theorem Jog {P:Program} {W:World} {a:Addr} {u:Value} (j:W.cell? a=some u) (y:W.frozen? a=false) (D:v.oneCell'=true):Sem.run P (store a v) W=.ok () (W.setCell a v):=by
 rw [run_store _ _ _ _ _ D,j]
 simp [y]
theorem UW   (y:w.heap[h]?=some (.cells j X (0,0))) (I:∃ v,j[9]?=some v):Calls prog 93 #[.pointer (some ⟨h,0,none⟩)] w fun e w'=>e=.returned (.tuple #[])/\YB X h (j.setIfInBounds 9 (.map none)) w w':=by
 obtain ⟨v,D⟩:=I
 have c9:w.cell? ⟨h,9,none⟩=some v:=by rw [(Jb y 9).1,D]
 have J:=(Jb y 9).2
 have G:Hid (YB X h (j.setIfInBounds 9 (.map none)) w (w.setCell ⟨h,9,none⟩ (.map none))):=(YB.refl y).set 9 _
 clear y D
 go_enter func93,ntmps93
 go_wp2
 go_end0
 exact ⟨rfl,G.out⟩
def nT (j:Array Value) (P:J0) (kind:ByteArray) (mb:Nat):Array Value:=((((((j.setIfInBounds 3 (.int .i64 P.c.n)).setIfInBounds 4 (.int .i64 P.c.k)).setIfInBounds 5 P.v).setIfInBounds 6 (.int .i64 P.num)).setIfInBounds 7 (.string kind)).setIfInBounds 8 (.int .i64 ((Jh P.c:Nat):Int))).setIfInBounds 9 (.map (some mb))
theorem ED   (ad:Nat->Addr) (P:J0) (p:Option Addr) (G:Nat) (kind:ByteArray) (hb:w.heap[h]?=some (.cells I X (0,0))) (hs:I.size=25) (hf:¬ 0 < (Jg P.c).1) (hv:P.v=.slice p P.c.L.length G) (hE:∀ W:World,w.heap.size<=W.heap.size->(∀ k,k < w.heap.size->k≠h->W.heap[k]?=w.heap[k]?)->Yn W P.c p G/\Zp W ad) :
 Calls prog 76 #[.pointer (some ⟨h,0,none⟩),.agg #[.int .i64 P.c.n,.int .i64 P.c.k,P.v,.int .i64 P.num],.string kind] w fun e w'=>e=.returned (.tuple #[])/\∃ mb,w.heap.size<=mb/\YB X h (nT I P kind mb) w w'/\w'.heap[mb]?=some (.map #[] 0):=by
 obtain ⟨c,num,v⟩:=P
 dsimp only at *
 subst hv
 have b3:h < w.heap.size:=(YB.refl hb).lt
 obtain ⟨y,O⟩:∃ y,y=w.alloc (.cells #[.int .i64 c.n,.int .i64 c.k,(.slice p c.L.length G),.int .i64 num] 88):=⟨_,rfl⟩
 have a4:Below w.heap.size w y:=by rw [O];exact (Below.refl _ _).alloc (Nat.le_refl _) _
 have b4:y.heap.size=w.heap.size+1:=by rw [O];simp
 have K:y.heap[w.heap.size]?=some (.cells #[.int .i64 c.n,.int .i64 c.k,(.slice p c.L.length G),.int .i64 num] 88 (0,0)):=by
  rw [O]
  show (w.heap.push _)[w.heap.size]?=_
  simp
 have b5:h≠w.heap.size:=by omega
 have b6:w.heap.size≠h:=by omega
 have J:YB X h I w y:=(YB.refl hb).below a4
 have d0:y.cell? ⟨w.heap.size,0,none⟩=some (.int .i64 c.n):=by simp [World.cell?,K]
 have d1:y.cell? ⟨w.heap.size,1,none⟩=some (.int .i64 c.k):=by simp [World.cell?,K]
 have d2:y.cell? ⟨w.heap.size,2,none⟩=some (.slice p c.L.length G):=by simp [World.cell?,K]
 have d3:y.cell? ⟨w.heap.size,3,none⟩=some (.int .i64 num):=by simp [World.cell?,K]
 have M:∀ i,i < 25->∃ v,y.cell? ⟨h,i,none⟩=some v:=fun i hi=>⟨I[i]'(by omega),by rw [(Jb J.eK i).1];exact Array.getElem?_eq_getElem (by omega)⟩
 obtain ⟨v3,c3⟩:=M 3 (by decide)
 obtain ⟨v4,c4⟩:=M 4 (by decide)
 obtain ⟨v5,c5⟩:=M 5 (by decide)
 obtain ⟨v6,c6⟩:=M 6 (by decide)
 obtain ⟨v7,c7⟩:=M 7 (by decide)
 have f3:=(Jb J.eK 3).2
 have f4:=(Jb J.eK 4).2
 have f5:=(Jb J.eK 5).2
 have f6:=(Jb J.eK 6).2
 have f7:=(Jb J.eK 7).2
 obtain ⟨D,Q⟩:∃ D,D=(((((y.setCell ⟨h,3,none⟩ (.int .i64 c.n)).setCell ⟨h,4,none⟩ (.int .i64 c.k)).setCell ⟨h,5,none⟩ (.slice p c.L.length G)).setCell ⟨h,6,none⟩ (.int .i64 num)).setCell ⟨h,7,none⟩ (.string kind)):=⟨_,rfl⟩
 have Y:YB X h (((((I.setIfInBounds 3 (.int .i64 c.n)).setIfInBounds 4 (.int .i64 c.k)).setIfInBounds 5 (.slice p c.L.length G)).setIfInBounds 6 (.int .i64 num)).setIfInBounds 7 (.string kind)) w D:=by rw [Q];exact ((((J.set 3 _).set 4 _).set 5 _).set 6 _).set 7 _
 have b7:D.heap.size=y.heap.size:=by rw [Q];simp [World.setCell]
 have Z:D.heap[w.heap.size]?=some (.cells #[.int .i64 c.n,.int .i64 c.k,(.slice p c.L.length G),.int .i64 num] 88 (0,0)):=by
  rw [<- K,Q]
  simp [Below.heap_setCell,b6]
 have g0:D.cell? ⟨w.heap.size,0,none⟩=some (.int .i64 c.n):=by simp [World.cell?,Z]
 have g1:D.cell? ⟨w.heap.size,1,none⟩=some (.int .i64 c.k):=by simp [World.cell?,Z]
 have g2:D.cell? ⟨w.heap.size,2,none⟩=some (.slice p c.L.length G):=by simp [World.cell?,Z]
 obtain ⟨a5,a6⟩:=hE D Y.size (fun k hk hn=>Y.cW k hk hn)
 have a0:=JlQ ad c p G D a5 a6
 rw [if_neg hf] at a0
 unfold iE at a0
 have h0:Jg c=(0,-1):=(Xm hf).2.2.1
 have a7:Hid (Calls prog 105 #[.agg #[.int .i64 c.n,.int .i64 c.k,.slice p c.L.length G]] D fun e w'=>∃ ev,e=.returned (.tuple #[.int .i64 ((Jh c:Nat):Int),ev])/\Hid (Below D.heap.size D w')):=a0.mono fun e w' hq=>by
  obtain ⟨⟨ev,h1,_⟩,h3⟩:=hq
  exact ⟨ev,h1,h3⟩
 have d4:Hid (y=w.alloc (.cells #[.int .i64 c.n,.int .i64 c.k,(.slice p c.L.length G),.int .i64 num] 88)):=O
 have a8:Hid (D=(((((y.setCell ⟨h,3,none⟩ (.int .i64 c.n)).setCell ⟨h,4,none⟩ (.int .i64 c.k)).setCell ⟨h,5,none⟩ (.slice p c.L.length G)).setCell ⟨h,6,none⟩ (.int .i64 num)).setCell ⟨h,7,none⟩ (.string kind))):=Q
 have a9:Hid (YB X h (((((I.setIfInBounds 3 (.int .i64 c.n)).setIfInBounds 4 (.int .i64 c.k)).setIfInBounds 5 (.slice p c.L.length G)).setIfInBounds 6 (.int .i64 num)).setIfInBounds 7 (.string kind)) w D):=Y
 have b0:Hid (I.size=25):=hs
 clear hb hs hf hE O a4 b4 K J M Q Y b7 Z a5 a6 a0 h0 b5 b3
 go_enter func76,ntmps76
 go_wp2_with (first | rw [<- d4.out] | rw [<- a8.out] | fail)
 refine a7.out.mono ?_
 rintro e U ⟨ev,rfl,b1⟩
 have N:=a9.out.below b1.out
 have d5:w.heap.size<=U.heap.size:=N.size
 have d6:=N.lt
 have c8:∃ u,U.cell? ⟨h,8,none⟩=some u:=⟨I[8]'(by have:=b0.out;omega),by rw [(Jb N.eK 8).1];simp⟩
 obtain ⟨u8,c8⟩:=c8
 have f8:=(Jb N.eK 8).2
 obtain ⟨j,a1⟩:∃ j,j=U.setCell ⟨h,8,none⟩ (.int .i64 ((Jh c:Nat):Int)):=⟨_,rfl⟩
 have a3:=N.set 8 (.int .i64 ((Jh c:Nat):Int))
 rw [<- a1] at a3
 have d7:j.heap.size=U.heap.size:=by rw [a1];simp [World.setCell]
 have b2:Below j.heap.size j (j.alloc (.map #[] 0)):=(Below.refl _ _).alloc (Nat.le_refl _) _
 have a2:=a3.below b2
 have c9:∃ u,(j.alloc (.map #[] 0)).cell? ⟨h,9,none⟩=some u:=⟨I[9]'(by have:=b0.out;omega),by rw [(Jb a2.eK 9).1];simp⟩
 obtain ⟨u9,c9⟩:=c9
 have f9:=(Jb a2.eK 9).2
 have e2:(Instr.makeMap 89 none).run prog j=.ok (.map (some j.heap.size)) (j.alloc (.map #[] 0)):=by kernel_rfl
 have d8:Hid (j=U.setCell ⟨h,8,none⟩ (.int .i64 ((Jh c:Nat):Int))):=a1
 have d9:Hid (YB X h (nT I ⟨c,num,.slice p c.L.length G⟩ kind j.heap.size) w ((j.alloc (.map #[] 0)).setCell ⟨h,9,none⟩ (.map (some j.heap.size)))):=a2.set 9 _
 have e0:Hid (((j.alloc (.map #[] 0)).setCell ⟨h,9,none⟩ (.map (some j.heap.size))).heap[j.heap.size]?=some (.map #[] 0)):=by
  show _=_
  rw [Below.heap_setCell _ _ _ _ (by show j.heap.size≠h;omega)]
  show (j.heap.push _)[j.heap.size]?=_
  simp
 have e1:Hid (w.heap.size<=j.heap.size):=by show _<=_;omega
 clear N a3 a2 b2 a1 d7 d5 d6 b1 a7 a9 a8 c3 c4 c5 c6 c7 f3 f4 f5 f6 f7 d0 d1 d2 d3 g0 g1 g2
 go_wp2_with (first | rw [<- d8.out] | fail)
 go_end0
 exact ⟨rfl,_,e1.out,d9.out,e0.out⟩
theorem wK  {K:Array Value} (st:ByteArray) (y D:Int) (G:ByteArray) (I:Bool) (W:w.heap[h]?=some (.cells K X (0,0))) (hs:K.size=25):Calls prog 67 #[.pointer (some ⟨h,0,none⟩),.string st,.agg #[.int .i64 y,.int .i64 D,.string G,.bool I]] w fun e w'=>e=.returned (.tuple #[])/\YB X h (((((((K.setIfInBounds 20 (.string st)).setIfInBounds 21 (.int .i64 y)).setIfInBounds 22 (.int .i64 D)).setIfInBounds 23 (.string G)).setIfInBounds 24 (.bool I)).setIfInBounds 19 .nilFunc).setIfInBounds 9 (.map none)) w w':=by
 obtain ⟨j,M⟩:∃ j,j=w.alloc (.cells #[.int .i64 y,.int .i64 D,.string G,.bool I] 80):=⟨_,rfl⟩
 have Y:Below w.heap.size w j:=by rw [M];exact (Below.refl _ _).alloc (Nat.le_refl _) _
 have a7:h < w.heap.size:=(YB.refl W).lt
 have J:YB X h K w j:=(YB.refl W).below Y
 have a8:h≠w.heap.size:=by omega
 have a9:w.heap.size≠h:=by omega
 have d0:j.cell? ⟨w.heap.size,0,none⟩=some (.int .i64 y):=by rw [M,World.cell?_alloc_at _ _ _ _ rfl];rfl
 have d1:j.cell? ⟨w.heap.size,1,none⟩=some (.int .i64 D):=by rw [M,World.cell?_alloc_at _ _ _ _ rfl];rfl
 have d2:j.cell? ⟨w.heap.size,2,none⟩=some (.string G):=by rw [M,World.cell?_alloc_at _ _ _ _ rfl];rfl
 have d3:j.cell? ⟨w.heap.size,3,none⟩=some (.bool I):=by rw [M,World.cell?_alloc_at _ _ _ _ rfl];rfl
 have N:∀ i,i < 25->∃ v,j.cell? ⟨h,i,none⟩=some v:=fun i hi=>⟨K[i]'(by omega),by rw [(Jb J.eK i).1];exact Array.getElem?_eq_getElem (by omega)⟩
 obtain ⟨b0,wH⟩:=N 20 (by decide)
 obtain ⟨b1,x8⟩:=N 19 (by decide)
 obtain ⟨b2,b3⟩:=N 21 (by decide)
 obtain ⟨b4,b5⟩:=N 22 (by decide)
 obtain ⟨b6,b7⟩:=N 23 (by decide)
 obtain ⟨d4,d5⟩:=N 24 (by decide)
 have d6:=(Jb J.eK 20).2
 have d7:=(Jb J.eK 19).2
 have d8:=(Jb J.eK 21).2
 have d9:=(Jb J.eK 22).2
 have e0:=(Jb J.eK 23).2
 have e1:=(Jb J.eK 24).2
 have a3:Hid (j=w.alloc (.cells #[.int .i64 y,.int .i64 D,.string G,.bool I] 80)):=M
 have O:YB X h (((((K.setIfInBounds 20 (.string st)).setIfInBounds 21 (.int .i64 y)).setIfInBounds 22 (.int .i64 D)).setIfInBounds 23 (.string G)).setIfInBounds 24 (.bool I)) w (((((j.setCell ⟨h,20,none⟩ (.string st)).setCell ⟨h,21,none⟩ (.int .i64 y)).setCell ⟨h,22,none⟩ (.int .i64 D)).setCell ⟨h,23,none⟩ (.string G)).setCell ⟨h,24,none⟩ (.bool I)).drew:=(((((J.set 20 _).set 21 _).set 22 _).set 23 _).set 24 _).below (Below.refl _ _).drew
 have a4:∃ u,((((((j.setCell ⟨h,20,none⟩ (.string st)).setCell ⟨h,21,none⟩ (.int .i64 y)).setCell ⟨h,22,none⟩ (.int .i64 D)).setCell ⟨h,23,none⟩ (.string G)).setCell ⟨h,24,none⟩ (.bool I)).drew).cell? ⟨h,19,none⟩=some u:=⟨K[19]'(by omega),by rw [(Jb O.eK 19).1];simp⟩
 obtain ⟨e2,Z⟩:=a4
 have a5:Sem.run prog (store ⟨h,19,none⟩ .nilFunc) ((((((j.setCell ⟨h,20,none⟩ (.string st)).setCell ⟨h,21,none⟩ (.int .i64 y)).setCell ⟨h,22,none⟩ (.int .i64 D)).setCell ⟨h,23,none⟩ (.string G)).setCell ⟨h,24,none⟩ (.bool I)).drew)=.ok () (((((((j.setCell ⟨h,20,none⟩ (.string st)).setCell ⟨h,21,none⟩ (.int .i64 y)).setCell ⟨h,22,none⟩ (.int .i64 D)).setCell ⟨h,23,none⟩ (.string G)).setCell ⟨h,24,none⟩ (.bool I)).drew).setCell ⟨h,19,none⟩ .nilFunc):=Jog Z (Jb O.eK 19).2 rfl
 have Q:=O.set 19 .nilFunc
 obtain ⟨U,a0⟩:∃ U,U=((((((j.setCell ⟨h,20,none⟩ (.string st)).setCell ⟨h,21,none⟩ (.int .i64 y)).setCell ⟨h,22,none⟩ (.int .i64 D)).setCell ⟨h,23,none⟩ (.string G)).setCell ⟨h,24,none⟩ (.bool I)).drew).setCell ⟨h,19,none⟩ .nilFunc:=⟨_,rfl⟩
 rw [<- a0] at Q a5
 have a1:Hid (Calls prog 93 #[.pointer (some ⟨h,0,none⟩)] U fun e w'=>e=.returned (.tuple #[])/\YB X h ((((((((K.setIfInBounds 20 (.string st)).setIfInBounds 21 (.int .i64 y)).setIfInBounds 22 (.int .i64 D)).setIfInBounds 23 (.string G)).setIfInBounds 24 (.bool I)).setIfInBounds 19 .nilFunc)).setIfInBounds 9 (.map none)) w w'):=(UW Q.eK ⟨K[9]'(by omega),by simp⟩).mono fun e w' hp=>⟨hp.1,Q.trans hp.2⟩
 clear W hs M Y J N O Q Z a0
 go_enter func67,ntmps67
 go_wp2
 rw [<- a3.out]
 go_region
 go_wp2_with fail
 refine a1.out.mono ?_
 rintro e w7 ⟨rfl,a2⟩
 have a6:Hid (YB X h _ w w7):=a2
 clear a2 a1
 go_wp2
 go_end0
 exact ⟨rfl,a6.out⟩
section
theorem Yo  (O:w.cell? ⟨b,o,none⟩=some v):w.setCell ⟨b,o,none⟩ v=w:=by
 have G:(w.setCell ⟨b,o,none⟩ v).heap=w.heap:=by
  refine Array.ext (by simp [World.setCell]) fun i Q I=>?_
  have J:(w.setCell ⟨b,o,none⟩ v).heap[i]?=w.heap[i]?:=by
   by_cases e:i=b
   ·subst e
    have K:w.heap[i]?=some w.heap[i]:=Array.getElem?_eq_getElem I
    have U:∀ y,w.heap[i]=y->(match y with | .cells c elem frozen=>Obj.cells (c.setIfInBounds o v) elem frozen | o''=>o'')=y:=fun y W=>by
     cases y with
     | cells c t f =>
      have M:c[o]?=some v:=by
       unfold World.cell? at O
       simpa [K,W] using O
      have Y:c.setIfInBounds o v=c:=by
       obtain ⟨Z,h4⟩:=Array.getElem?_eq_some_iff.1 M
       refine Array.ext_getElem? fun j=>?_
       rw [Array.getElem?_setIfInBounds]
       by_cases N:o=j
       ·subst N
        rw [if_pos rfl,if_pos Z,M]
       ·rw [if_neg N]
      show Obj.cells (c.setIfInBounds o v) t f=_
      rw [Y]
     | _=>rfl
    have:=U _ rfl
    simp only [World.setCell,Array.getElem?_modify,K,if_true,Option.map_some]
    exact congrArg some this
   ·exact Below.heap_setCell w _ v i e
  have a1:=Array.getElem?_eq_getElem Q
  have a2:=Array.getElem?_eq_getElem I
  rw [a1,a2] at J
  exact Option.some.inj J
 cases w
 unfold World.setCell at G ⊢
 simp only at G ⊢
 rw [G]
variable {X:TypeId} {w w':World} {B h:Nat} {S S0:Nat->Prop} {a:Za} {P F T:J0} {asks:ByteArray} {cv:Value} {aw:ByteArray} {m:Option Nat} {D:DataW Value} {row:ByteArray->Value}
theorem uF {F:List ByteArray} (y:Nat) (G:ZC w b F D row) (c9:w.cell? ⟨h,9,none⟩=some (.map (some b))) (c8:w.cell? ⟨h,8,none⟩=some (.int .i64 (y:Int))):Calls prog 95 #[.pointer (some ⟨h,0,none⟩)] w fun e w'=>e=.returned (.bool (decide (y<=F.length)))/\Below w.heap.size w w':=by
 have I:∀ n j,(Builtin.len_ #[89] j #[.map (some b)]).run prog (w.drewN n)=.ok (.int .i64 (F.length:Nat)) (w.drewN n):=fun n j=>(G.same (w':=w.drewN n) rfl).len j
 clear G
 go_enter func95,ntmps95
 go_wp2
 go_quiet (fail)
 go_wp2
 go_ret
 exact ⟨rfl,below_drewN (Below.refl _ _) _⟩
theorem VF (w:World):Calls prog 123 #[.slice none 0 0] w fun e w'=>e=.returned (.slice none 0 0)/\w'=w:=by
 have j:∀ W,Sem.run prog (binOp .eql 55 (.slice none 0 0) (.slice none 0 0)) W=.ok (.bool true) W:=fun W=>by kernel_rfl
 go_enter func123,ntmps123
 go_wp2
 go_ret
 exact ⟨rfl,rfl⟩
theorem V8 (ad:Addr) (c:Nat) (w:World):Calls prog 123 #[.slice (some ad) 0 c] w fun e w'=>(∃ j,e=.returned j/\Zc Ze 76 w' w.heap.size j [])/\Below w.heap.size w w':=by
 have y:∀ W,Sem.run prog (binOp .eql 55 (.slice (some ad) 0 c) (.slice none 0 0)) W=.ok (.bool false) W:=fun W=>by kernel_rfl
 go_enter func123,ntmps123
 go_wp2
 go_ret
 refine ⟨⟨_,rfl,rfl,Or.inr ⟨w.heap.size,0,#[],rfl,Nat.le_refl _,?_,Nat.le_refl _,by unfold maxLen;omega,rfl,rfl⟩⟩,(Below.refl _ _).alloc (Nat.le_refl _) _⟩
 show (w.heap.push _)[w.heap.size]?=_
 simp
theorem IQ (q:Option Addr) (l:List Yb) (c:Nat) (w:World) (hr:Ql Ze w q l) (hq:q=none->l=[]/\c=0) (hl:l.length<=1000):Calls prog 123 #[.slice q l.length c] w fun e w'=>(∃ I,e=.returned I/\Zc Ze 76 w' w.heap.size I l)/\Below w.heap.size w w':=by
 cases q with
 | none =>
  obtain ⟨G,J⟩:=hq rfl
  subst G J
  exact (VF w).mono fun e w' y=>⟨⟨_,y.1,Zc.nil _ _ _⟩,by rw [y.2];exact Below.refl _ _⟩
 | some ad =>
  by_cases K:l=[]
  ·subst K
   exact (V8 ad c w).mono fun e w' y=>⟨y.1,y.2⟩
  ·rcases hr with G | ⟨b,o,y,a1,N⟩
   ·exact absurd G K
   obtain rfl:ad=⟨b,o,none⟩:=Option.some.inj y
   obtain ⟨O,Q,U,Y,Z⟩:=info_parts qS
   have a0:∀ j u,(Qb Ze l)[j]?=some u->w.cell? ⟨b,o+j,none⟩=some u:=fun j u hj=>by
    have:=Ql.cells (E:=Ze) N j u hj
    by_cases M:j=0
    ·subst M;simpa [Addr.add] using this
    ·simpa [Addr.add,M] using this
   exact (slices_Clone O _ 5 48 Q U Y Z rfl (by decide) (fun W=>by kernel_rfl) b o l.length c (Qb Ze l) w (Qr Ze l) (by unfold maxLen;omega) (by omega) a0 (Zz Ze l)).mono fun e w' ⟨I,G,J,_,h4⟩=>⟨⟨I,G,J⟩,h4⟩
theorem GH {n:Nat} (I:ByteArray) (q:Option Addr) (l:List Yb) (c:Nat) (e7:h < w.heap.size) (c9:w.cell? ⟨h,9,none⟩=some (.map (some b))) (a6:QX w b n D) (hn:n < maxLen) (hf:I.size<=1000000) (hr:Ql Ze w q l) (hq:q=none->l=[]/\c=0) (hl:l.length<=1000) (d0:∀ v ∈ l,v.text.size<=1000000) :
 Calls prog 94 #[.pointer (some ⟨h,0,none⟩),.string I,.slice q l.length c] w fun e w'=>e=.returned (.tuple #[])/\∃ v' j,Zc Ze 76 j w.heap.size v' l/\Below w.heap.size w j/\jA j w' b D I v':=by
 have a7:=IQ q l c w hr hq hl
 have HQ:Hid (∀ W,Below w.heap.size w W->W.cell? ⟨h,9,none⟩=some (.map (some b))):=fun W G=>(G.cell (p:=⟨h,9,none⟩) e7).trans c9
 have d1:b < w.heap.size:=World.ownsMap.lt a6
 have a8:Hid (∀ M,Below w.heap.size w M->∀ v W,Below M.heap.size M W->∃ w',(Instr.mapUpdate 89 (.map (some b)) (.string I) v).run prog W=.ok () w'/\jA M w' b D I v):=fun M d2 v W G=>zC (a6.same (d2.block b d1)) hn (by unfold maxLen;omega) G
 have a0:Hid (∀ s:ByteArray,s.size<=1000000->∀ W,Calls prog 33 #[.string s] W fun e w'=>e=.returned (.string s)/\Below W.heap.size W w'):=fun s hs W=>Xs s W (by omega)
 have d3:Hid (∀ v ∈ l,v.text.size<=1000000):=d0
 clear a6 hr hq d0 c9
 go_enter func94,ntmps94
 go_wp2_with fail
 refine a7.mono ?_
 rintro e j ⟨⟨v1,rfl,a1⟩,a9⟩
 obtain ⟨J,c1,d4,b0,_,_,_⟩:=a1.form
 subst d4
 have b1:Hid (Zc Ze 76 j w.heap.size (.slice J l.length c1) l):=a1
 have d5:Hid (Ql Ze j J l):=b0
 have N:Hid (Below w.heap.size w j):=a9
 clear a1 b0 a9 a7
 go_wp2
 go_loopw [12] (fun x wr=>∃ i:Nat,i<=l.length/\x=.int .i64 i/\Below j.heap.size j wr) (fun x _=>l.length - (intOf x).toNat)
 case atStart=>exact ⟨0,Nat.zero_le _,rfl,Below.refl _ _⟩
 case round =>
  obtain ⟨i,hi,rfl,hB⟩:=hrel
  obtain ⟨y,rfl⟩:∃ y,y=wr:=⟨_,rfl⟩
  have O:Hid (Below j.heap.size j y):=hB
  by_cases b2:i < l.length
  ·obtain ⟨vb,vo,a2,d6,v0,v1,v2,v3,v4⟩:=QU (d5.out.below hB) b2
   have d7:(Xd l i).text.size<=1000000:=d3.out _ (List.mem_of_getElem? (Xx b2))
   have Q:=a0.out _ d7 y
   obtain ⟨g,Y,Z,b3,d8,b4⟩:∃ g Y Z,Value.slice J l.length c1=.slice (some ⟨g,0,none⟩) l.length Y/\g < j.heap.size/\j.heap[g]?=some (.cells Z 76 (0,0)):=by
    rcases b1.out.2 with ⟨h1,h2⟩ | ⟨g,Y,Z,h1,h2,U,_⟩
    ·omega
    ·refine ⟨g,Y,Z,h1,?_,U⟩
     rcases Nat.lt_or_ge g j.heap.size with h' | h'
     ·exact h'
     ·rw [Array.getElem?_eq_none h'] at U;cases U
   have b5:J=some ⟨g,0,none⟩:=by injection b3
   rw [b5] at a2
   obtain ⟨rfl,rfl⟩:g=vb/\0=vo:=by injection a2 with h1;injection h1 with h2 U;exact ⟨h2,U⟩
   rw [Nat.zero_add] at v4
   have b6:∀ W,Below j.heap.size j W->∀ o,W.frozen? ⟨g,o,none⟩=false:=fun W G o=>by simp [World.frozen?,(G.block g d8).trans b4]
   have d9:Hid (∀ W,Below j.heap.size j W->∀ o,W.frozen? ⟨g,o,none⟩=false):=b6
   subst b5
   clear b3 b4 v0 v1 v2 v3 hB a2 b6
   generalize (Xd l i).text=tx at *
   go_wp2_with fail
   refine Q.mono ?_
   rintro e K ⟨rfl,a3⟩
   have a4:Below j.heap.size j K:=O.out.trans (a3.mono O.out.size)
   have e0:Hid (Below j.heap.size j K):=a4
   have k4:K.cell? ⟨g,i*5+4,none⟩=some (.string tx):=(a3.cell (p:=⟨g,i*5+4,none⟩) d6).trans v4
   have f4:=d9.out K a4 (i*5+4)
   have e1:Hid (K.setCell ⟨g,i*5+4,none⟩ (.string tx)=K):=Yo k4
   clear a3 a4 Q v4
   go_wp2_with (first | rw [e1.out] | fail)
   go_roundw
   case rel=>exact ⟨i+1,by omega,by go_num,e0.out⟩
   case measure=>simp [intOf];omega
  ·have e2:=HQ.out y (N.out.trans (hB.mono N.out.size))
   have e3:Hid (∀ W,Below y.heap.size y W->W.cell? ⟨h,9,none⟩=some (.map (some b))):=fun W G=>(G.cell (p:=⟨h,9,none⟩) (by have:=O.out.size;have:=N.out.size;show h < y.heap.size;omega)).trans e2
   have e4:Hid (∀ W,Below y.heap.size y W->∃ w',(Instr.mapUpdate 89 (.map (some b)) (.string I) (.slice J l.length c1)).run prog W=.ok () w'/\jA j w' b D I (.slice J l.length c1)):=fun W G=>a8.out j N.out _ W (O.out.trans (G.mono O.out.size))
   have Q:=a0.out _ hf
   have e5:Hid (∀ W,Calls prog 33 #[.string I] W fun e w'=>e=.returned (.string I)/\Below W.heap.size W w'):=Q
   clear hB a8 Q a0 HQ
   go_wp2
   go_region_with (go_at_call 33;refine (e5.out _).mono ?_;rintro e w5 ⟨rfl,b7⟩;have a5:=xB b7;have q5:=e3.out w5 a5;obtain ⟨w9,e8,e6⟩:=e4.out w5 a5;clear b7 a5)
   all_goals
    go_wp2
    go_end0
    exact ⟨rfl,_,j,b1.out,N.out,e6⟩
theorem M1 (M:JF X w B h S S0 a P F T asks cv aw m D row) (a0:a.first):Calls prog 96 #[.pointer (some ⟨h,0,none⟩)] w fun e w'=>(∃ p c,e=.returned (.slice p (Yt a a.c.L).length c)/\eU w' p (Yt a a.c.L))/\Below w.heap.size w w':=by
 obtain ⟨i0,b6,b7,d0,d1⟩:=info_parts VU
 obtain ⟨b,d2,_,_,U⟩:=M.open_ (Or.inl a0)
 subst d2
 obtain ⟨a1,a2,_⟩:=M.here (Or.inl a0)
 obtain ⟨mp,mc,Y,Z,_,_,_⟩:=a1.mem
 rw [a2] at Y Z
 obtain ⟨⟨_,_,e7⟩,e8,_,a3,_⟩:=Xm M.aN.cfg
 have e9:a.c.L.length<=12:=by omega
 have d3:Hid (∀ W,Below w.heap.size w W->Strs W mp a.c.L):=fun W I=>Z.below I
 have d4:Hid (∀ W,Below w.heap.size w W->W.cell? ⟨h,9,none⟩=some (.map (some b))):=fun W I=>(M.below I).cell 9
 have c5:w.cell? ⟨h,5,none⟩=some (.slice mp a.c.L.length mc):=by rw [<- Y];exact M.cell 5
 have a4:Hid (∀ i,i < a.c.L.length->∃ q c,(∀ W,Below w.heap.size w W->(Instr.lookup 89 (.map (some b)) (.string (Yc a.c.L i)) false).run prog W=.ok (.slice q (if Xu a.from_ (Yc a.c.L i) then QK a (Yc a.c.L i) else []).length c) W)/\Ql Ze w q (if Xu a.from_ (Yc a.c.L i) then QK a (Yc a.c.L i) else [])/\(if Xu a.from_ (Yc a.c.L i) then QK a (Yc a.c.L i) else []).length<=c/\(q=none->(if Xu a.from_ (Yc a.c.L i) then QK a (Yc a.c.L i) else [])=[]/\c=0)):=fun i J=>by
  have d5:(Yc a.c.L i).size<=maxLen:=by
   rw [Xk _ _ J]
   have:=QF (a3 _ (List.getElem_mem J))
   unfold maxLen
   omega
  have N:∀ W,Below w.heap.size w W->_:=fun W I=>(U.same (I.block b (by obtain ⟨n,hn⟩:=U.own;exact World.ownsMap.lt hn))).look d5
  by_cases j:Xu a.from_ (Yc a.c.L i)=true
  ·obtain ⟨q,c,h1,h2,h3,h4,_⟩:=M.stat.rows a0 _ (Zl.1 j)
   refine ⟨q,c,fun W I=>?_,?_,?_,?_⟩
   ·rw [N W I,if_pos j,if_pos j,h1]
   ·rw [if_pos j];exact h2
   ·rw [if_pos j];exact h3
   ·rw [if_pos j];exact h4
  ·refine ⟨none,0,fun W I=>?_,?_,?_,?_⟩
   ·rw [N W I,if_neg j,if_neg j];rfl
   ·rw [if_neg j];exact Ql.nil _ _
   ·rw [if_neg j];exact Nat.le_refl _
   ·rw [if_neg j];exact fun _=>⟨rfl,rfl⟩
 have a5:Hid (∀ i,i < a.c.L.length->Yt a (a.c.L.take (i+1))=Yt a (a.c.L.take i) ++ [if Xu a.from_ (Yc a.c.L i) then QK a (Yc a.c.L i) else []]):=fun i J=>NH J
 have d6:Hid (∀ i,(Yt a (a.c.L.take i)).length<=12):=fun i=>by unfold Yt;rw [List.length_map,List.length_take];omega
 clear M Z U a3 a1 a2 Y
 go_enter func96,ntmps96
 go_wp2
 go_loopw [3,13] (fun v x wr=>∃ i:Nat,i<=a.c.L.length/\x=.int .i64 i/\(∃ y,JM wr w.heap.size 55 v y/\lT w y (Yt a (a.c.L.take i)))/\Below w.heap.size w wr) (fun _ x _=>a.c.L.length - (intOf x).toNat)
 case atStart=>exact ⟨0,Nat.zero_le _,rfl,⟨[],JM.nil _ _ _,rfl,fun i J=>absurd J (Nat.not_lt_zero _)⟩,Below.refl _ _⟩
 case round =>
  obtain ⟨i,J,rfl,⟨y,Q,K⟩,hB⟩:=hrel
  obtain ⟨G,rfl⟩:∃ G,G=wr:=⟨_,rfl⟩
  obtain ⟨v,rfl⟩:∃ v,v=u3:=⟨_,rfl⟩
  have HO:Hid (JM G w.heap.size 55 v y):=Q
  have d7:Hid (lT w y (Yt a (a.c.L.take i))):=K
  have HB:Hid (Below w.heap.size w G):=hB
  have f3:y.length<=12:=by rw [K.1];exact d6.out i
  have d8:w.heap.size<=G.heap.size:=hB.size
  by_cases O:i < a.c.L.length
  ·rcases d3.out G hB with h0 | ⟨bs,os,e0,f4,a6⟩
   ·rw [h0] at O;exact absurd O (Nat.not_lt_zero _)
   have q1:=a6 i O
   obtain ⟨rq,rc,N,a7,a8,a9⟩:=a4.out i O
   have e1:Hid (Yt a (a.c.L.take (i+1))=Yt a (a.c.L.take i) ++ [if Xu a.from_ (Yc a.c.L i) then QK a (Yc a.c.L i) else []]):=a5.out i O
   have d9:=d4.out G hB
   have f5:=N G hB
   have e2:Hid (lT w (y ++ [.slice rq (if Xu a.from_ (Yc a.c.L i) then QK a (Yc a.c.L i) else []).length rc]) (Yt a (a.c.L.take i) ++ [if Xu a.from_ (Yc a.c.L i) then QK a (Yc a.c.L i) else []])):=K.snoc a7 a8 a9
   subst e0
   clear a6 N a7 a8 a9 Q K hB a4 a5
   generalize (if Xu a.from_ (Yc a.c.L i) then QK a (Yc a.c.L i) else [])=b0 at *
   generalize Yc a.c.L i=t at *
   go_wp2_with (at_builtin;refine yL rfl (.tmp 17) (.tmp 24) 44 rfl w.heap.size 55 i0 (.slice none 0 0) 24 underlying44 b6 b7 rfl d0 d1 (by decide) v y rfl (JM.kept (row:=none) HO.out ⟨rfl,rfl,rfl,by simp,fun k hk _=>Below.heap_alloc _ _ k hk⟩ (by cases v.ownBlock <;> simp)) ⟨G.heap.size,0,none⟩ 1 (.slice rq b0.length rc) rfl rfl (by rw [World.cell?_alloc_at _ _ _ _ rfl];rfl) (by omega) (by simp;omega) ?_;intro v4 w4 b1 b2 _)
   have e3:Hid (JM w4 w.heap.size 55 v4 (y ++ [.slice rq b0.length rc])):=b1
   have e4:Hid (Below w.heap.size w w4):=(HB.out.alloc d8 _).grown b2 (by simp;omega) (fun k hk=>(HO.out.block hk).1)
   clear b1 b2
   go_wp2
   go_roundw
   case rel=>exact ⟨i+1,by omega,by go_num,⟨_,e3.out,by rw [e1.out];exact e2.out⟩,e4.out⟩
   case measure=>simp [intOf];omega
  ·have b3:a.c.L.take i=a.c.L:=List.take_of_length_le (by omega)
   have b4:lT w y (Yt a a.c.L):=by rw [b3] at K;exact K
   obtain ⟨pw,cw,e5,b5⟩:=b4.wO hB Q
   subst e5
   have e6:Hid (eU G pw (Yt a a.c.L)):=b5
   clear b3 b5 HO d7 b4 Q K hB
   go_wp2
   go_ret
   exact ⟨⟨pw,cw,rfl,e6.out⟩,HB.out⟩
end
section
theorem Z9 {a:Za} (h:a.aM m=true):(a.first∨a.st=.keeping)/\m.from_ ∈ a.c.L/\m.from_ ∉ a.from_:=by
 unfold Za.aM at h
 rw [Bool.and_eq_true,Bool.and_eq_true] at h
 obtain ⟨G,I,y⟩:=h
 refine ⟨?_,Zl.1 I,fun J=>by rw [Zl.2 J] at y;cases y⟩
 have j:=(of_decide_eq_true G).1
 unfold Za.first
 cases e:a.st with
 | looking=>exact Or.inl (Or.inl rfl)
 | sealing=>exact Or.inl (Or.inr rfl)
 | keeping=>exact Or.inr rfl
 | done=>rw [e] at j;exact absurd rfl j
 | refused=>rw [e] at j;exact absurd rfl j
theorem QN.heard {a:Za} (h:QN a) (M:a.aM m=true) (N:∀ v ∈ m.L,Jt v):QN (a.heard m):=by
 obtain ⟨_,I,J⟩:=Z9 M
 refine ⟨h.cfg,h.key,h.name,h.text,h.still,h.aI,?_,?_,?_,h.aS,?_⟩
 ·show (a.from_ ++ [m.from_]).Nodup
  rw [List.nodup_append]
  exact ⟨h.nodup,by simp,fun x j y K=>by rw [List.mem_singleton.1 K];intro e;exact J (e ▸ j)⟩
 ·intro x j
  rcases List.mem_append.1 j with j | j
  ·exact h.sub x j
  ·rw [List.mem_singleton.1 j];exact I
 ·show (a.from_ ++ [m.from_]).length=(a.L ++ [m.L]).length
  simp [h.both]
 ·intro l G
  rcases List.mem_append.1 G with G | G
  ·exact h.cM l G
  ·rw [List.mem_singleton.1 G];exact N
theorem V7 {a:Za} (h:QN a):a.bR.text.size<=1000:=by
 unfold Za.bR
 split
 ·exact h.text
 ·obtain ⟨⟨j,_,_⟩,_⟩:=Xm h.cfg
  exact y9 (by omega) _ _ (by decide)
theorem QN.ended {a:Za} (h:QN a) {st:St} (j:st=.done∨st=.refused):QN { a with st:=st }:=⟨h.cfg,h.key,h.name,h.text,(by intro _ e;rcases j with j | j <;> rw [j] at e <;> cases e),(by intro _ e;rcases j with j | j <;> rw [j] at e <;> cases e),h.nodup,h.sub,h.both,(fun e=>by rcases j with j | j <;> rw [j] at e <;> cases e),h.cM⟩
theorem mT {a:Za} (h:a.first):a.st≠.keeping/\a.st≠.done/\a.st≠.refused:=by
 rcases h with h | h <;> rw [h] <;> exact ⟨(fun e=>by cases e),(fun e=>by cases e),(fun e=>by cases e)⟩
theorem QN.found {a:Za} (h:QN a) (N:a.first):QN a.bR:=by
 obtain ⟨G,K,M,I,_,_,_,j,y,J,_⟩:=YE a
 exact ⟨by rw [G];exact h.cfg,by rw [K];exact h.key,by rw [M];exact h.name,V7 h,by rw [I,j];exact h.still,by rw [I,j];exact h.aI,by rw [y];exact h.nodup,by rw [y,G];exact h.sub,by rw [y,J];exact h.both,(fun e=>by rw [j] at e;exact absurd e (mT N).1),by rw [J];exact h.cM⟩
theorem Q2 (a:Za):a.keeps.name=a.name/\a.keeps.key=a.key/\a.keeps.op=a.op/\a.keeps.text=a.text/\a.keeps.aI=a.aI/\a.keeps.st=.keeping/\a.keeps.from_=[]/\a.keeps.L=[]/\a.keeps.found=a.found/\a.keeps.tag=a.tag:=by
 unfold Za.keeps
 split <;> exact ⟨rfl,rfl,rfl,rfl,rfl,rfl,rfl,rfl,rfl,rfl⟩
theorem Zw (a:Za):a.keeps.c=(if a.aI=true then a.next else a.c)/\a.keeps.config=(if a.aI=true then a.config+1 else a.config):=by
 unfold Za.keeps
 by_cases h:a.aI=true
 ·rw [if_pos h,if_pos h,if_pos h];exact ⟨rfl,rfl⟩
 ·rw [if_neg h,if_neg h,if_neg h];exact ⟨rfl,rfl⟩
theorem QN.keeps {a:Za} (h:QN a) (Q:a.found=true) (U:¬ 0 < (Jg a.keeps.c).1):QN a.keeps:=by
 obtain ⟨K,M,_,N,_,y,j,G,O,_⟩:=Q2 a
 exact ⟨U,by rw [M];exact h.key,by rw [K];exact h.name,by rw [N];exact h.text,(fun _ e=>by rw [y] at e;cases e),(fun _ e=>by rw [y] at e;cases e),by rw [j];exact List.nodup_nil,(fun x I=>by rw [j] at I;cases I),by rw [j,G];rfl,(fun _=>by rw [O];exact Q),(fun l J=>by rw [G] at J;cases J)⟩
theorem JlY (a:Za):a.bR.keeps.c=a.keeps.c/\a.bR.keeps.config=a.keeps.config:=by
 obtain ⟨j,_,_,y,_,_,G,_⟩:=YE a
 rw [(Zw a).1,(Zw a).2,(Zw a.bR).1,(Zw a.bR).2,j,y,G,IV]
 exact ⟨rfl,rfl⟩
variable {X:TypeId} {w w':World} {B h:Nat} {S S0:Nat->Prop} {a:Za} {P F T:J0} {asks:ByteArray} {cv:Value} {aw:ByteArray} {m:Option Nat} {D:DataW Value} {row:ByteArray->Value}
theorem l6.shut {a':Za} {G:ByteArray->Value} (j:l6 w S0 a F T cv row) (y:¬ a'.first):l6 w S0 a' F T cv' G:=⟨j.fr,j.aP,fun e=>absurd e y,fun e=>absurd e y,j.lt⟩
theorem JF.ended {a':Za} (j:JF X w B h S S0 a P F T asks cv aw m D row) (I:YB X h (JG a' P aw (Jh P.c) (.map none) F T asks cv') w w') (U:a'.c=a.c) (W:a'.config=a.config) (M:a'.aI=a.aI) (J:QN a') (N:a'.st=.done∨a'.st=.refused):ZR X w' B h S a':=by
 have G:¬ a'.first:=fun J=>by have:=mT J;rcases N with e | e;exact this.2.1 e;exact this.2.2 e
 have K:a'.st≠.keeping:=by rcases N with e | e <;> rw [e] <;> intro O <;> cases O
 have Q:l6 w' S0 a F T cv row:=j.stat.aS I.size (fun k y=>I.cW k (j.stat.lt k y) (j.s0 k y).2.1)
 exact ⟨S0,P,F,T,asks,cv',aw,none,D,row,I.eK,j.self,fun k y=>⟨(j.aO k y).1,Nat.lt_of_lt_of_le (j.aO k y).2 I.size⟩,Q.shut G,fun k y=>⟨(j.s0 k y).1,(j.s0 k y).2.1,fun e=>by cases e⟩,J,⟨fun e=>absurd e G,fun e=>absurd e K,fun e=>by rw [U,W];exact j.fF.sJ (M ▸ e),by rw [M];exact j.fF.kind⟩,(fun e=>by rcases e with e | e;exact absurd e G;exact absurd e K),(fun _=>rfl),(fun e=>by rcases e with e | e;exact absurd e G;exact absurd e K)⟩
theorem JF.kept {a':Za} {mb:Nat} (j:JF X w B h S S0 a P F T asks cv aw m D row) (G:YB X h (JG a' T iS (Jh T.c) (.map (some mb)) F T asks cv') w w') (O:T.c=a'.c/\T.num=a'.config) (Z:a'.aI=false->F.c=a'.c/\F.num=a'.config) (hm:a'.aI=a.aI) (I:QN a') (K:a'.st=.keeping) (hn:a'.from_=[]) (a0:w.heap.size<=mb) (M:w'.heap[mb]?=some (.map #[] 0)):∃ Q U,JF X w' B h (fun k=>S k∨k=mb) S0 a' T F T asks cv' iS (some mb) U Q:=by
 have N:¬ a'.first:=fun I=>(mT I).1 K
 have W:l6 w' S0 a F T cv row:=j.stat.aS G.size (fun k y=>G.cW k (j.stat.lt k y) (j.s0 k y).2.1)
 have Y:mb < w'.heap.size:=by
  rcases Nat.lt_or_ge mb w'.heap.size with J | J
  ·exact J
  ·rw [Array.getElem?_eq_none J] at M;cases M
 have hB:B<=mb:=Nat.le_trans (j.aO h j.self).1 (Nat.le_trans (Nat.le_of_lt j.lt) a0)
 refine ⟨fun _=>.slice none 0 0,.map [],G.eK,Or.inl j.self,?_,W.shut N,fun k y=>⟨Or.inl (j.s0 k y).1,(j.s0 k y).2.1,fun e=>?_⟩,I,⟨fun e=>absurd e N,fun _=>⟨rfl,O.1,O.2⟩,Z,by rw [hm];exact j.fF.kind⟩,fun _=>⟨mb,rfl,Or.inr rfl,?_,?_⟩,(fun e=>by rw [K] at e;rcases e with e | e <;> cases e),(fun _=>by rw [K];rfl)⟩
 ·rintro k (y | rfl)
  ·exact ⟨(j.aO k y).1,Nat.lt_of_lt_of_le (j.aO k y).2 G.size⟩
  ·exact ⟨hB,Y⟩
 ·have:=j.stat.lt k y
  have:=Option.some.inj e
  omega
 ·have:=j.lt
  omega
 ·rw [hn]
  exact ZC.made _ M
theorem JF.heard {I:Zb} {l:List Yb} {K:Value} {w1:World} (G:JF X w B h S S0 a P F T asks cv aw (some b) D row) (ht:a.aM I=true) (hv:∀ v ∈ I.L,Jt v) (hl:a.first->l=I.L) (b3:I.from_.size<=maxLen)
 (ho:Zc Ze 76 w1 w.heap.size K l) (Q:Below w.heap.size w w1) (hs:jA w1 w' b D I.from_ K) :
 ∃ S1 a7 D' a8,JF X w' B h S1 a7 (a.heard I) P F T asks cv aw (some b) D' a8/\Yd S S1 w w':=by
 obtain ⟨h1,h2,h3⟩:=Z9 ht
 obtain ⟨M,a9,a2,a5,hH⟩:=G.open_ h1
 obtain rfl:b=M:=Option.some.inj a9
 have J:=hs.grown
 have b4:b < w.heap.size:=(G.aO b a2).2
 have a3:w.heap.size<=w'.heap.size:=Nat.le_trans Q.size J.size
 have a4:∀ k,k < w.heap.size->k≠b->w'.heap[k]?=w.heap[k]?:=fun k j b0=>(J.block k (Nat.lt_of_lt_of_le j Q.size) (fun e=>b0 (Option.some.inj e))).trans (Q.block k j)
 have a0:∀ k,K.ownBlock=some k->w.heap.size<=k/\k < w1.heap.size:=fun k j=>ho.block j
 have b5:B<=w.heap.size:=Nat.le_trans (G.aO h G.self).1 (Nat.le_of_lt G.lt)
 have b1:∀ k,S0 k->w'.heap[k]?=w.heap[k]?:=fun k j=>a4 k (G.stat.lt k j) (fun e=>(G.s0 k j).2.2 (by rw [e]))
 have U:l6 w' S0 a F T cv row:=G.stat.aS a3 b1
 have b2:B6 (a.heard I) P F T asks:=⟨fun e=>by
  obtain ⟨N,W,Y,Z,O⟩:=G.fF.rC e
  refine ⟨N,W,Y,?_,?_⟩
  ·rw [Z,(Zw a).1,(Zw (a.heard I)).1];rfl
  ·rw [O,(Zw a).2,(Zw (a.heard I)).2];rfl,G.fF.yR,G.fF.sJ,G.fF.kind⟩
 refine ⟨fun k=>S k∨K.ownBlock=some k,fun k=>S0 k∨K.ownBlock=some k,D.put (Xv I.from_) (.held K),fun y=>if y=I.from_ then K else row y,⟨?_,Or.inl G.self,?_,⟨U.fr.more (fun _=>Or.inl),U.aP.more (fun _=>Or.inl),fun a1=>(U.ch a1).more (fun _=>Or.inl),fun a1 x hx=>?_,?_⟩,?_,G.aN.heard ht hv,b2,fun _=>⟨b,rfl,Or.inl a2,a5,?_⟩,G.shut,G.rY⟩,⟨J.os.trans Q.os,J.tape.trans Q.tape,J.output.trans Q.output,a3,?_,?_⟩⟩
 ·rw [a4 h G.lt (fun e=>a5 e.symm)]
  exact G.eK
 ·rintro k (j | j)
  ·exact ⟨(G.aO k j).1,Nat.lt_of_lt_of_le (G.aO k j).2 a3⟩
  ·have:=a0 k j;exact ⟨by omega,Nat.lt_of_lt_of_le this.2 J.size⟩
 ·by_cases e:x=I.from_
  ·subst e
   rw [if_pos rfl,JrX G.aN.both h3,<- hl a1]
   obtain ⟨q,c,N,W,Y,Z,O⟩:=ho.form
   refine ⟨q,c,N,W.sameAt J.size fun M o' e'=>?_,Y,Z,fun M o' e'=>Or.inr (by rw [N,e'];rfl)⟩
   exact J.block M (O M o' e').2 (fun e2=>by have:=(O M o' e').1;have:=Option.some.inj e2;omega)
  ·have a6 : x ∈ a.from_ := by
    rcases List.mem_append.1 hx with hx | hx
    ·exact hx
    ·exact absurd (List.mem_singleton.1 hx) e
   rw [if_neg e,JrW G.aN.both a6]
   obtain ⟨q,c,N,W,Y,Z,O⟩:=U.rows a1 x a6
   exact ⟨q,c,N,W,Y,Z,fun b o e=>Or.inl (O b o e)⟩
 ·rintro k (j | j)
  ·exact U.lt k j
  ·exact Nat.lt_of_lt_of_le (a0 k j).2 J.size
 ·rintro k (j | j)
  ·exact ⟨Or.inl (G.s0 k j).1,(G.s0 k j).2⟩
  ·have:=a0 k j
   have:=G.lt
   exact ⟨Or.inr j,by omega,fun e=>by have:=Option.some.inj e;omega⟩
 ·exact hH.put b3 h3 K hs.own
 ·intro k j hn
  exact a4 k j (fun e=>hn (by rw [e];exact a2))
 ·rintro k (j | j)
  ·exact Or.inl j
  ·exact Or.inr (a0 k j).1
end
section
theorem OK (a:Za) (m:Zb) (h:a.st.waits≠⟨#[]⟩):a.aM m=(decide (m.aP=a.name/\m.kind=a.st.waits/\m.key=a.key/\m.op=a.op/\m.config=a.config) && (Xu a.c.L m.from_ && !Xu a.from_ m.from_)):=by
 unfold Za.aM
 congr 1
 exact decide_eq_decide.2 ⟨fun g=>⟨g.2.2.1,g.2.1,g.2.2.2.1,g.2.2.2.2.1,g.2.2.2.2.2⟩,fun g=>⟨h,g.2.1,g.1,g.2.2.1,g.2.2.2.1,g.2.2.2.2⟩⟩
variable {X:TypeId} {w w':World} {B h:Nat} {S S0:Nat->Prop} {a:Za} {P F T:J0} {asks:ByteArray} {cv:Value} {aw:ByteArray} {m:Option Nat} {D:DataW Value} {row:ByteArray->Value}
theorem N0 (hp:JF X w B h S S0 a P F T asks cv aw m D row) (x:Zb×Lv) (e7:x.1.from_.size<=maxLen):Calls prog 66 #[.pointer (some ⟨h,0,none⟩),.agg #[.string x.1.from_,.string x.1.aP,.string x.1.kind,.string x.1.key,.int .i64 x.1.op,.int .i64 x.1.config,.bool x.1.shut,.slice x.2.1 x.2.2.1 x.2.2.2]] w fun e w'=>e=.returned (.bool (a.aM x.1))/\Below w.heap.size w w':=by
 have f6:a.c.L.length<=1000:=by
  obtain ⟨⟨_,_,h3⟩,h4,_⟩:=Xm hp.aN.cfg
  omega
 have b2:Hid (a.st.waits≠⟨#[]⟩->a.aM x.1=(decide (x.1.aP=a.name/\x.1.kind=a.st.waits/\x.1.key=a.key/\x.1.op=a.op/\x.1.config=a.config) && (Xu a.c.L x.1.from_ && !Xu a.from_ x.1.from_))):=fun hw=>OK a x.1 hw
 obtain ⟨⟨m1,m2,m3,Z,O,Q,m7,mL⟩,lp,ln,lc⟩:=x
 dsimp only at *
 obtain ⟨j,U⟩:∃ j,j=w.alloc (.cells #[.string m1,.string m2,.string m3,.string Z,.int .i64 O,.int .i64 Q,.bool m7,.slice lp ln lc] 57):=⟨_,rfl⟩
 have b0:Below w.heap.size w j:=by rw [U];exact (Below.refl _ _).alloc (Nat.le_refl _) _
 have I:=hp.below b0
 have c0:j.cell? ⟨h,0,none⟩=some (.string a.name):=I.cell 0
 have c1:j.cell? ⟨h,1,none⟩=some (.string a.key):=I.cell 1
 have c2:j.cell? ⟨h,2,none⟩=some (.int .i64 a.op):=I.cell 2
 have c8:j.cell? ⟨h,7,none⟩=some (.string aw):=I.cell 7
 have c9:j.cell? ⟨h,9,none⟩=some (.map m):=I.cell 9
 have d0:j.cell? ⟨w.heap.size,0,none⟩=some (.string m1):=by rw [U,World.cell?_alloc_at _ _ _ _ rfl];rfl
 have d1:j.cell? ⟨w.heap.size,1,none⟩=some (.string m2):=by rw [U,World.cell?_alloc_at _ _ _ _ rfl];rfl
 have d2:j.cell? ⟨w.heap.size,2,none⟩=some (.string m3):=by rw [U,World.cell?_alloc_at _ _ _ _ rfl];rfl
 have d3:j.cell? ⟨w.heap.size,3,none⟩=some (.string Z):=by rw [U,World.cell?_alloc_at _ _ _ _ rfl];rfl
 have d4:j.cell? ⟨w.heap.size,4,none⟩=some (.int .i64 O):=by rw [U,World.cell?_alloc_at _ _ _ _ rfl];rfl
 have d5:j.cell? ⟨w.heap.size,5,none⟩=some (.int .i64 Q):=by rw [U,World.cell?_alloc_at _ _ _ _ rfl];rfl
 have a1:Hid (j=w.alloc (.cells #[.string m1,.string m2,.string m3,.string Z,.int .i64 O,.int .i64 Q,.bool m7,.slice lp ln lc] 57)):=U
 have Y:Hid (Below w.heap.size w j):=b0
 by_cases K:a.first∨a.st=.keeping
 ·obtain ⟨d9,e0,e1⟩:=I.here K
  obtain ⟨mp,mc,b3,b6,_,_,_⟩:=d9.mem
  rw [e0] at b3 b6
  have c3:j.cell? ⟨h,6,none⟩=some (.int .i64 a.config):=by rw [<- e1];exact I.cell 6
  have c6:j.cell? ⟨h,5,none⟩=some (.slice mp a.c.L.length mc):=by rw [<- b3];exact I.cell 5
  have a3:Hid (∀ W,Below j.heap.size j W->Calls prog 92 #[.slice mp a.c.L.length mc,.string m1] W fun e w'=>e=.returned (.bool (Xu a.c.L m1))/\w'=W):=fun W hW=>vN mp a.c.L mc m1 W (by omega) (b6.below hW)
  obtain ⟨b,e8,_,_,hH⟩:=I.open_ K
  subst e8
  have e2:a.st.waits=aw:=(I.rY K).symm
  have e3:a.st.waits≠⟨#[]⟩:=by
   rcases K with (e | e) | e <;> rw [e] <;> decide +kernel
  have b7:=b2.out e3
  rw [e2] at b7
  obtain ⟨a4,e4⟩:∃ a4,a4=(if Xu a.from_ m1 then row m1 else .slice none 0 0):=⟨_,rfl⟩
  have a2:Hid (∀ W:World,W.heap[b]?=j.heap[b]?->(Instr.lookup 89 (.map (some b)) (.string m1) true).run prog W=.ok (.tuple #[a4,.bool (Xu a.from_ m1)]) W):=fun W hW=>by rw [e4];exact (hH.same hW).pY e7
  have M:Hid (a.aM ⟨m1,m2,m3,Z,O,Q,m7,mL⟩=(decide (m2=a.name/\m3=aw/\Z=a.key/\O=a.op/\Q=a.config) && (Xu a.c.L m1 && !Xu a.from_ m1))):=b7
  have e9:=FI b
  clear hp I b6 b0 U b2 b7 e2 e3 K hH e4 e7 d9 e0 e1 b3
  generalize a.aM ⟨m1,m2,m3,Z,O,Q,m7,mL⟩=R at *
  generalize a.name=nm at *
  generalize a.key=ky at *
  generalize a.op=e5 at *
  generalize a.config=e6 at *
  by_cases g1:m2=nm
  ·subst g1
   by_cases g2:m3=aw
   ·subst g2
    by_cases g3:Z=ky
    ·subst g3
     by_cases g4:O=e5
     ·subst g4
      by_cases g5:Q=e6
      ·subst g5
       have G:Hid (R=(Xu a.c.L m1 && !Xu a.from_ m1)):=by show _=_;rw [M.out,decide_eq_true ⟨rfl,rfl,rfl,rfl,rfl⟩,Bool.true_and]
       clear M
       generalize Xu a.c.L m1=q1 at *
       generalize Xu a.from_ m1=q2 at *
       cases q2 with
       | true =>
        go_enter func66,ntmps66
        go_wp2
        rw [<- a1.out]
        go_quiet (fail)
        generalize J:World.drewN j _=y
        have a5:y.cell? ⟨h,5,none⟩=some (.slice mp a.c.L.length mc):=by rw [<- J];exact c6
        have d6:y.cell? ⟨h,9,none⟩=some (.map (some b)):=by rw [<- J];exact c9
        have a6:y.cell? ⟨w.heap.size,0,none⟩=some (.string m1):=by rw [<- J];exact d0
        have a7:Below j.heap.size j y:=by rw [<- J];exact below_drewN (Below.refl _ _) _
        have a8:Hid (Below j.heap.size j y):=a7
        have a9:y.heap=j.heap:=by rw [<- J];rfl
        have d7:∀ n,(Instr.lookup 89 (.map (some b)) (.string m1) true).run prog (y.drewN n)=.ok (.tuple #[a4,.bool true]) (y.drewN n):=fun n=>a2.out (y.drewN n) (by show y.heap[b]?=_;rw [a9])
        clear J c0 c1 c2 c3 c6 c8 c9 d0 d1 d2 d3 d4 d5 a7 a9
        go_wp2
        go_quiet (fail)
        generalize a0:World.drewN y _=wr
        have f3:wr.cell? ⟨h,5,none⟩=some (.slice mp a.c.L.length mc):=by rw [<- a0];exact a5
        have f4:wr.cell? ⟨w.heap.size,0,none⟩=some (.string m1):=by rw [<- a0];exact a6
        have b1:Below j.heap.size j wr:=by rw [<- a0];exact below_drewN a8.out _
        have d8:Hid (Below j.heap.size j wr):=b1
        clear a0 a5 d6 a6 d7 a8
        go_wp2
        go_quiet (fail)
        go_wp2
        go_ret
        exact ⟨by rw [G.out];simp,below_drewN (Y.out.trans (d8.out.mono Y.out.size)) _⟩
       | false =>
        go_enter func66,ntmps66
        go_wp2
        rw [<- a1.out]
        go_quiet (fail)
        generalize J:World.drewN j _=y
        have a5:y.cell? ⟨h,5,none⟩=some (.slice mp a.c.L.length mc):=by rw [<- J];exact c6
        have d6:y.cell? ⟨h,9,none⟩=some (.map (some b)):=by rw [<- J];exact c9
        have a6:y.cell? ⟨w.heap.size,0,none⟩=some (.string m1):=by rw [<- J];exact d0
        have a7:Below j.heap.size j y:=by rw [<- J];exact below_drewN (Below.refl _ _) _
        have a8:Hid (Below j.heap.size j y):=a7
        have a9:y.heap=j.heap:=by rw [<- J];rfl
        have d7:∀ n,(Instr.lookup 89 (.map (some b)) (.string m1) true).run prog (y.drewN n)=.ok (.tuple #[a4,.bool false]) (y.drewN n):=fun n=>a2.out (y.drewN n) (by show y.heap[b]?=_;rw [a9])
        clear J c0 c1 c2 c3 c6 c8 c9 d0 d1 d2 d3 d4 d5 a7 a9
        go_wp2
        go_quiet (fail)
        generalize a0:World.drewN y _=wr
        have f3:wr.cell? ⟨h,5,none⟩=some (.slice mp a.c.L.length mc):=by rw [<- a0];exact a5
        have f4:wr.cell? ⟨w.heap.size,0,none⟩=some (.string m1):=by rw [<- a0];exact a6
        have b1:Below j.heap.size j wr:=by rw [<- a0];exact below_drewN a8.out _
        have d8:Hid (Below j.heap.size j wr):=b1
        clear a0 a5 d6 a6 d7 a8
        go_wp2
        go_quiet ((go_at_call 92;with_reducible exact Calls.quiet_of_same (a3.out _ (below_drewN b1 _))))
        go_wp2
        go_ret
        exact ⟨by rw [G.out];simp,below_drewN (Y.out.trans (d8.out.mono Y.out.size)) _⟩
      ·skip
       have G:Hid (R=false):=by show _=_;rw [M.out,decide_eq_false (fun N=>g5 N.2.2.2.2),Bool.false_and]
       clear M a3 a2
       have b5:(Q==e6)=false:=by rw [beq_eq_false_iff_ne];exact g5
       go_enter func66,ntmps66
       go_wp2
       rw [<- a1.out]
       go_quiet (fail)
       go_wp2
       go_ret
       exact ⟨by rw [G.out];rfl,below_drewN Y.out _⟩
     ·skip
      have G:Hid (R=false):=by show _=_;rw [M.out,decide_eq_false (fun N=>g4 N.2.2.2.1),Bool.false_and]
      clear M a3 a2
      have b4:(O==e5)=false:=by rw [beq_eq_false_iff_ne];exact g4
      go_enter func66,ntmps66
      go_wp2
      rw [<- a1.out]
      go_quiet (fail)
      go_wp2
      go_ret
      exact ⟨by rw [G.out];rfl,below_drewN Y.out _⟩
    ·skip
     have G:Hid (R=false):=by show _=_;rw [M.out,decide_eq_false (fun N=>g3 N.2.2.1),Bool.false_and]
     clear M a3 a2
     have t3:=XT g3
     have u3:=YT g3
     have v3:=Y8 g3
     go_enter func66,ntmps66
     go_wp2
     rw [<- a1.out]
     go_quiet (fail)
     go_wp2
     go_ret
     exact ⟨by rw [G.out];rfl,below_drewN Y.out _⟩
   ·skip
    have G:Hid (R=false):=by show _=_;rw [M.out,decide_eq_false (fun N=>g2 N.2.1),Bool.false_and]
    clear M a3 a2
    have t2:=XT g2
    have u2:=YT g2
    have v2:=Y8 g2
    go_enter func66,ntmps66
    go_wp2
    rw [<- a1.out]
    go_quiet (fail)
    go_wp2
    go_ret
    exact ⟨by rw [G.out];rfl,below_drewN Y.out _⟩
  ·skip
   have G:Hid (R=false):=by show _=_;rw [M.out,decide_eq_false (fun N=>g1 N.1),Bool.false_and]
   clear M a3 a2
   have t1:=XT g1
   have u1:=YT g1
   have v1:=Y8 g1
   go_enter func66,ntmps66
   go_wp2
   rw [<- a1.out]
   go_quiet (fail)
   go_wp2
   go_ret
   exact ⟨by rw [G.out];rfl,below_drewN Y.out _⟩
 ·have f5 : m = none := I.shut (by
   cases hs:a.st with
   | looking=>exact absurd (Or.inl (Or.inl hs)) K
   | sealing=>exact absurd (Or.inl (Or.inr hs)) K
   | keeping=>exact absurd (Or.inr hs) K
   | done=>exact Or.inl rfl
   | refused=>exact Or.inr rfl)
  have G:Hid (a.aM ⟨m1,m2,m3,Z,O,Q,m7,mL⟩=false):=by
   show _=_
   unfold Za.aM
   have e:a.st.waits=⟨#[]⟩:=by
    cases hs:a.st with
    | looking=>exact absurd (Or.inl (Or.inl hs)) K
    | sealing=>exact absurd (Or.inl (Or.inr hs)) K
    | keeping=>exact absurd (Or.inr hs) K
    | done=>rfl
    | refused=>rfl
   rw [decide_eq_false (fun N=>N.1 e),Bool.false_and]
  subst f5
  have e9:=AD
  clear hp I b0 U b2 K
  generalize a.aM ⟨m1,m2,m3,Z,O,Q,m7,mL⟩=R at *
  go_enter func66,ntmps66
  go_wp2
  rw [<- a1.out]
  go_quiet (fail)
  go_wp2
  go_ret
  exact ⟨by rw [G.out];rfl,below_drewN Y.out _⟩
end
section
variable {X:TypeId} {w w':World} {B h:Nat} {S S0:Nat->Prop} {a:Za} {P F T:J0} {asks:ByteArray} {cv:Value} {aw:ByteArray} {m:Option Nat} {D:DataW Value} {row:ByteArray->Value}
theorem CU (j:JF X w B h S S0 a P F T asks cv aw m D row):Calls prog 50 #[.pointer (some ⟨h,0,none⟩)] w fun e w'=>e=.returned (.string a.st.word)/\Below w.heap.size w w':=by
 have wH:w.cell? ⟨h,20,none⟩=some (.string a.st.word):=j.cell 20
 clear j
 generalize a.st.word=y at *
 go_enter func50,ntmps50
 go_wp2
 go_ret
 exact ⟨rfl,Below.refl _ _⟩
theorem JlK (O:JF X w B h S S0 a P F T asks cv aw m D row):Calls prog 51 #[.pointer (some ⟨h,0,none⟩)] w fun e w'=>e=.returned (if a.st=.done/\a.found=true then .tuple #[.agg #[.int .i64 a.tag.1,.int .i64 a.tag.2],.string a.text,.bool true] else .tuple #[.agg #[.int .i64 0,.int .i64 0],.string ⟨#[]⟩,.bool false])/\Below w.heap.size w w':=by
 obtain ⟨j,y⟩:∃ j,j=w.alloc (.cells #[.int .i64 0,.int .i64 0] 46):=⟨_,rfl⟩
 have J:Below w.heap.size w j:=by rw [y];exact (Below.refl _ _).alloc (Nat.le_refl _) _
 have Z:=O.below J
 have M:w.heap.size < j.heap.size:=by rw [y];simp
 have k0:j.cell? ⟨w.heap.size,0,none⟩=some (.int .i64 0):=by rw [y,World.cell?_alloc_at _ _ _ _ rfl];rfl
 have k1:j.cell? ⟨w.heap.size,1,none⟩=some (.int .i64 0):=by rw [y,World.cell?_alloc_at _ _ _ _ rfl];rfl
 have f0:j.frozen? ⟨w.heap.size,0,none⟩=false:=by rw [y];exact World.frozen?_alloc_at _ _ _ _ rfl
 have f1:j.frozen? ⟨w.heap.size,1,none⟩=false:=by rw [y];exact World.frozen?_alloc_at _ _ _ _ rfl
 have wH:j.cell? ⟨h,20,none⟩=some (.string a.st.word):=Z.cell 20
 have a0:Hid (j=w.alloc (.cells #[.int .i64 0,.int .i64 0] 46)):=y
 have a3:Hid (Below w.heap.size w j):=J
 have a4:a.obj.2.2.1.size<=1000:=by
  unfold Za.obj
  split
  ·exact O.aN.text
  ·decide
 by_cases G:a.st=.done
 ·have a1 : (if a.st = .done /\ a.found = true then (.tuple #[.agg #[.int .i64 a.tag.1, .int .i64 a.tag.2], .string a.text, .bool true] : Value) else .tuple #[.agg #[.int .i64 0, .int .i64 0], .string ⟨#[]⟩, .bool false]) = .tuple #[.agg #[.int .i64 a.obj.1, .int .i64 a.obj.2.1], .string a.obj.2.2.1, .bool a.obj.2.2.2] := by
   unfold Za.obj
   by_cases Q:a.found=true
   ·rw [if_pos ⟨G,Q⟩,if_pos ⟨Or.inr G,Q⟩]
   ·rw [if_neg (fun e=>Q e.2),if_neg (fun e=>Q e.2)]
  rw [a1]
  have q:j.cell? ⟨h,20,none⟩=some (.string ⟨#[100,111,110,101]⟩):=by rw [wH,G];rfl
  have HS:Hid (∀ W,Below w.heap.size w W->(W.cell? ⟨h,21,none⟩=some (.int .i64 a.obj.1)/\W.cell? ⟨h,22,none⟩=some (.int .i64 a.obj.2.1)/\W.cell? ⟨h,23,none⟩=some (.string a.obj.2.2.1)/\W.cell? ⟨h,24,none⟩=some (.bool a.obj.2.2.2)/\Below w.heap.size w W)):=fun W I=>by
   have K:=O.below I
   exact ⟨K.cell 21,K.cell 22,K.cell 23,K.cell 24,I⟩
  generalize a.obj=ob at *
  obtain ⟨U,Y,N,o4⟩:=ob
  dsimp only at *
  have a5:Hid (Calls prog 33 #[.string N] j.drew fun e w'=>e=.returned (.string N)/\(w'.cell? ⟨h,21,none⟩=some (.int .i64 U)/\w'.cell? ⟨h,22,none⟩=some (.int .i64 Y)/\w'.cell? ⟨h,23,none⟩=some (.string N)/\w'.cell? ⟨h,24,none⟩=some (.bool o4)/\Below w.heap.size w w')/\(w'.cell? ⟨w.heap.size,0,none⟩=some (.int .i64 0)/\w'.cell? ⟨w.heap.size,1,none⟩=some (.int .i64 0)/\w'.frozen? ⟨w.heap.size,0,none⟩=false/\w'.frozen? ⟨w.heap.size,1,none⟩=false)):=(Xs N j.drew (by omega)).mono fun e w' K=>by
   have I:Below j.heap.size j w':=(Below.refl _ j).drew.trans K.2
   exact ⟨K.1,HS.out w' (J.trans (I.mono J.size)),(I.cell (p:=⟨w.heap.size,0,none⟩) M).trans k0,(I.cell (p:=⟨w.heap.size,1,none⟩) M).trans k1,(I.frozen (p:=⟨w.heap.size,0,none⟩) M).trans f0,(I.frozen (p:=⟨w.heap.size,1,none⟩) M).trans f1⟩
  have a6:=HS.out j.drew J.drew
  clear O Z wH y J a1 G M
  go_enter func51,ntmps51
  go_wp2_with (first | rw [<- a0.out] | fail)
  go_region_held3 (fun W=>(W.cell? ⟨h,21,none⟩=some (.int .i64 U)/\W.cell? ⟨h,22,none⟩=some (.int .i64 Y)/\W.cell? ⟨h,23,none⟩=some (.string N)/\W.cell? ⟨h,24,none⟩=some (.bool o4)/\Below w.heap.size w W)) (first | assumption | exact a6 | exact HS.out _ ((a2.2.2.2.2.setCell (Nat.le_refl _) _).setCell (Nat.le_refl _) _)) (first | (go_at_call 33;refine a5.out.mono ?_;rintro e w2 ⟨rfl,a2,x0,x1,y0,y1⟩))
  have a7:Hid (Below w.heap.size w ((w2.setCell ⟨w.heap.size,0,none⟩ (.int .i64 U)).setCell ⟨w.heap.size,1,none⟩ (.int .i64 Y))):=(a2.2.2.2.2.setCell (Nat.le_refl _) _).setCell (Nat.le_refl _) _
  go_wp2
  exact bodyPost_ret (v:=.tuple #[.agg #[.int .i64 U,.int .i64 Y],.string N,.bool o4]) (by simp [results,results51,go_sem,x0,x1]) rfl ⟨rfl,a7.out⟩
 ·rw [if_neg (fun e=>G e.1)]
  have a8:¬ a.st.word.toList=[100,111,110,101]:=by
   generalize a.st=st at *
   cases st <;> first | exact absurd rfl G | decide +kernel
  have a9:(a.st.word.toList==[100,111,110,101])=false:=by
   generalize a.st=st at *
   cases st <;> first | exact absurd rfl G | decide +kernel
  clear O Z y J G M a4
  generalize a.st.word=sw at *
  go_enter func51,ntmps51
  go_wp2_with (first | rw [<- a0.out] | fail)
  exact bodyPost_ret (v:=.tuple #[.agg #[.int .i64 0,.int .i64 0],.string ⟨#[]⟩,.bool false]) (by simp [results,results51,go_sem,k0,k1]) rfl ⟨rfl,(a3.out.setCell (Nat.le_refl _) _).setCell (Nat.le_refl _) _⟩
theorem yI {a a':Za} (P:J0) (aw:ByteArray) (j:Nat) (y:Value) (F T:J0) (asks:ByteArray) (cv:Value) (G:a'.name=a.name) (I:a'.key=a.key) (J:a'.op=a.op):(((((((JG a P aw j y F T asks cv).setIfInBounds 20 (.string a'.st.word)).setIfInBounds 21 (.int .i64 a'.obj.1)).setIfInBounds 22 (.int .i64 a'.obj.2.1)).setIfInBounds 23 (.string a'.obj.2.2.1)).setIfInBounds 24 (.bool a'.obj.2.2.2)).setIfInBounds 19 .nilFunc).setIfInBounds 9 (.map none)=JG a' P aw j (.map none) F T asks .nilFunc:=by
 unfold JG
 rw [G,I,J]
 generalize a.obj=K
 generalize a'.obj=M
 simp only [List.setIfInBounds_toArray,List.set_cons_zero,List.set_cons_succ]
theorem JnB (I:JF X w B h S S0 a P F T asks cv aw m D row) (j:Zb) (ht:a.aM j=true) (a2:a.st=.keeping) (hv:∀ v ∈ j.L,Jt v) (hf:j.from_.size<=6000) :
 Calls prog 68 #[.pointer (some ⟨h,0,none⟩),.string j.from_] w fun e w'=>e=.returned (.tuple #[])/\∃ S',ZR X w' B h S' (if (a.heard j).from_.length < Jh a.c then a.heard j else { a.heard j with st:=.done })/\Yd S S' w w':=by
 obtain ⟨b,d1,d7,d8,hH⟩:=I.open_ (Or.inr a2)
 subst d1
 obtain ⟨n0,a7⟩:=hH.own
 have a8:=a7.tight
 have d2:Maps.size D<=12:=by
  rw [hH.size]
  obtain ⟨⟨_,_,h3⟩,h4,_⟩:=Xm I.aN.cfg
  have:=YS I.aN.nodup I.aN.sub
  omega
 have d3:=I.lt
 have a9:=GH j.from_ none [] 0 d3 (I.cell 9) a8 (by unfold maxLen;omega) (by omega) (Ql.nil _ _) (fun _=>⟨rfl,rfl⟩) (by decide) (fun v hv=>by cases hv)
 have a3:Hid (Calls prog 94 #[.pointer (some ⟨h,0,none⟩),.string j.from_,.slice none 0 0] w fun e w'=>e=.returned (.tuple #[])/\∃ S1 O Q U,JF X w' B h S1 O (a.heard j) P F T asks cv aw (some b) Q U/\Yd S S1 w w'):=a9.mono fun e w' hq=>by
  obtain ⟨h1,v',w1,W,h3,h4⟩:=hq
  exact ⟨h1,I.heard ht hv (fun e=>absurd a2 (mT e).1) (by unfold maxLen;omega) W h3 h4⟩
 have Y:Hid ((a.heard j).st=.keeping):=a2
 have b0:Hid (Jh P.c=Jh a.c):=by show _=_;rw [(I.here (Or.inr a2)).2.1]
 clear a8 a7 hH a9 d2 I hv a2 ht
 generalize a.heard j=a' at *
 generalize j.from_=mf at *
 by_cases b1:a'.from_.length < Jh a.c
 ·rw [if_pos b1]
  go_enter func68,ntmps68
  go_wp2_with fail
  refine a3.out.mono ?_
  rintro e J ⟨rfl,S1,O,Q,U,y,Z⟩
  obtain ⟨b2,a4,_,_,a0⟩:=y.open_ (Or.inr Y.out)
  have K:=uF (h:=h) (Jh P.c) a0 (by rw [y.cell 9,a4];rfl) (y.cell 8)
  have a1:decide (Jh P.c<=a'.from_.length)=false:=decide_eq_false (by rw [b0.out];omega)
  rw [a1] at K
  have a5:Hid (JF X J B h S1 O a' P F T asks cv aw (some b) Q U):=y
  have a6:Hid (Yd S S1 w J):=Z
  clear y Z a0 a1 a3
  go_wp2_with fail
  refine K.mono ?_
  rintro e M ⟨rfl,N⟩
  have b3:Hid (Below J.heap.size J M):=N
  clear N K
  go_wp2
  go_end0
  exact ⟨rfl,S1,⟨_,_,_,_,_,_,_,_,_,_,a5.out.below b3.out⟩,a6.out.trans (Yd.aJ b3.out)⟩
 ·rw [if_neg b1]
  go_enter func68,ntmps68
  go_wp2_with fail
  refine a3.out.mono ?_
  rintro e J ⟨rfl,S1,O,Q,U,y,Z⟩
  obtain ⟨b2,a4,_,_,a0⟩:=y.open_ (Or.inr Y.out)
  have K:=uF (h:=h) (Jh P.c) a0 (by rw [y.cell 9,a4];rfl) (y.cell 8)
  have a1:decide (Jh P.c<=a'.from_.length)=true:=decide_eq_true (by rw [b0.out];omega)
  rw [a1] at K
  have a5:Hid (JF X J B h S1 O a' P F T asks cv aw (some b) Q U):=y
  have a6:Hid (Yd S S1 w J):=Z
  clear y Z a0 a1 a3
  go_wp2_with fail
  refine K.mono ?_
  rintro e M ⟨rfl,N⟩
  have G:=a5.out.below N
  have b4:a'.obj=(a'.tag.1,a'.tag.2,a'.text,true):=if_pos ⟨Or.inl Y.out,G.aN.aS Y.out⟩
  have d9:M.cell? ⟨h,21,none⟩=some (.int .i64 a'.obj.1):=G.cell 21
  have e0:M.cell? ⟨h,22,none⟩=some (.int .i64 a'.obj.2.1):=G.cell 22
  have e1:M.cell? ⟨h,23,none⟩=some (.string a'.obj.2.2.1):=G.cell 23
  have e2:M.cell? ⟨h,24,none⟩=some (.bool a'.obj.2.2.2):=G.cell 24
  have b5:=wK ⟨#[100,111,110,101]⟩ a'.obj.1 a'.obj.2.1 a'.obj.2.2.1 a'.obj.2.2.2 G.eK rfl
  have b6:Hid (Calls prog 67 #[.pointer (some ⟨h,0,none⟩),.string ⟨#[100,111,110,101]⟩,.agg #[.int .i64 a'.obj.1,.int .i64 a'.obj.2.1,.string a'.obj.2.2.1,.bool a'.obj.2.2.2]] M fun e w'=>e=.returned (.tuple #[])/\ZR X w' B h S1 { a' with st:=.done }/\Yd S S1 w w'):=b5.mono fun e w' hq=>by
   obtain ⟨h1,W⟩:=hq
   have d4:({ a' with st:=.done }:Za).obj=a'.obj:=by rw [b4];exact if_pos ⟨Or.inr rfl,G.aN.aS Y.out⟩
   refine ⟨h1,G.ended (cv':=.nilFunc) (a':={ a' with st:=.done }) ?_ rfl rfl rfl (G.aN.ended (Or.inl rfl)) (Or.inl rfl),(a6.out.trans (Yd.aJ N)).trans (W.nJ G.self (fun k hk=>Or.inl hk))⟩
   rw [<- d4] at W
   exact (yI (a:=a') (a':={ a' with st:=.done }) P aw _ (.map (some b)) F T asks cv rfl rfl rfl) ▸ W
  clear G N K b5 b4
  generalize a'.obj=ob at *
  obtain ⟨o1,o2,o3,o4⟩:=ob
  dsimp only at *
  go_wp2_with fail
  refine b6.out.mono ?_
  rintro e w4 ⟨rfl,b7,d0⟩
  have d5:Hid (ZR X w4 B h S1 { a' with st:=.done }):=b7
  have d6:Hid (Yd S S1 w w4):=d0
  clear b7 d0 b6
  go_wp2
  go_end0
  exact ⟨rfl,S1,d5.out,d6.out⟩
end
theorem NW:(prog.info? 57).map (fun i=>(i.zero,i.size,i.bytes))=some (some (.agg #[.string ⟨#[]⟩,.string ⟨#[]⟩,.string ⟨#[]⟩,.string ⟨#[]⟩,.int .i64 0,.int .i64 0,.bool false,.slice none 0 0]),mE.k,112):=KE _ (by kernel_rfl)
def zD (w:World) (j:FuncId) (y:Array Value) (n:Nat) (D:Nat->Zb):Prop :=
 ∀ i,i < n->∀ W,Below w.heap.size w W->Calls prog j (#[.int .i64 (i:Int)] ++ y) W fun e w'=>(∃ lv:Lv,e=.returned (.slice lv.1 lv.2.1 lv.2.2)/\Jn w' (D i,lv)/\∀ b o,lv.1=some ⟨b,o,none⟩->W.heap.size<=b/\b < w'.heap.size)/\Below W.heap.size W w'
theorem LH (j:Nat->Zb) (i:Nat):(List.range (i+1)).map j=(List.range i).map j ++ [j i]:=by rw [List.range_succ,List.map_append];rfl
theorem A4 (h n:Nat) (nm O kind:ByteArray) (op cn ck N:Int) (L:List ByteArray) (p:Option Addr) (a5:Nat) (fn:FuncId) (a2:Array Value) (D:Nat->Zb) (w:World)
 (q0:w.cell? ⟨h,0,none⟩=some (.string nm)) (q1:w.cell? ⟨h,1,none⟩=some (.string O)) (q2:w.cell? ⟨h,2,none⟩=some (.int .i64 op))
 (hL:L.length=n) (a6:Strs w p L) (hn:n<=1000) (j1:nm.size<=1000000) (j2:O.size<=1000000) (g0:∀ x ∈ L,x.size<=1000000)
 (g4:∀ i,i < n->(D i).from_=nm/\(D i).aP=Yc L i/\(D i).kind=kind/\(D i).key=O/\(D i).op=op/\(D i).config=N/\(D i).shut=false)
 (j3:∀ args W,Sem.run prog (callFunc fn args) W=.ok (.enter fn args) W) (hg:zD w fn a2 n D) :
 Calls prog 63 #[.pointer (some ⟨h,0,none⟩),.agg #[.int .i64 cn,.int .i64 ck,.slice p n a5,.int .i64 N],.string kind,.func (.func fn) #[] a2] w fun e w'=>(∃ p c,e=.returned (.slice p n c)/\QE c w.heap.size w' p ((List.range n).map D))/\Below w.heap.size w w':=by
 have a3:h < w.heap.size:=YC q0
 obtain ⟨y,a0⟩:∃ y,y=w.alloc (.cells #[.int .i64 cn,.int .i64 ck,.slice p n a5,.int .i64 N] 88):=⟨_,rfl⟩
 have Y:Below w.heap.size w y:=by rw [a0];exact (Below.refl _ _).alloc (Nat.le_refl _) _
 have a7:w.heap.size < y.heap.size:=by rw [a0];simp
 have q3:y.cell? ⟨w.heap.size,3,none⟩=some (.int .i64 N):=by rw [a0,World.cell?_alloc_at _ _ _ _ rfl];rfl
 have q6:y.cell? ⟨w.heap.size,2,none⟩=some (.slice p n a5):=by rw [a0,World.cell?_alloc_at _ _ _ _ rfl];rfl
 replace q0:=(Y.cell (p:=⟨h,0,none⟩) a3).trans q0
 replace q1:=(Y.cell (p:=⟨h,1,none⟩) a3).trans q1
 replace q2:=(Y.cell (p:=⟨h,2,none⟩) a3).trans q2
 replace a6:=a6.below Y
 have b7:zD y fn a2 n D:=fun i hi W K=>hg i hi W (Y.trans (K.mono Y.size))
 have g5:Hid (y=w.alloc (.cells #[.int .i64 cn,.int .i64 ck,.slice p n a5,.int .i64 N] 88)):=a0
 have a8:Hid (Below w.heap.size w y):=Y
 obtain ⟨Q,a9⟩:∃ Q,Q=w.heap.size:=⟨_,rfl⟩
 rw [<- a9] at q3 q6 a7
 have g6:Hid (Q=w.heap.size):=a9
 have b0:h < y.heap.size:=YC q0
 have g7:Hid (Strs y p L):=a6
 have b1:Hid (L.length=n):=hL
 have g8:Hid (∀ x ∈ L,x.size<=1000000):=g0
 have g9:Hid (∀ i,i < n->(D i).from_=nm/\(D i).aP=Yc L i/\(D i).kind=kind/\(D i).key=O/\(D i).op=op/\(D i).config=N/\(D i).shut=false):=g4
 have HG:Hid (zD y fn a2 n D):=b7
 have HS:Hid (∀ W,Below y.heap.size y W->(W.cell? ⟨h,0,none⟩=some (.string nm)/\W.cell? ⟨h,1,none⟩=some (.string O)/\W.cell? ⟨h,2,none⟩=some (.int .i64 op)/\W.cell? ⟨Q,3,none⟩=some (.int .i64 N)/\Below y.heap.size y W)):=fun W K =>
  ⟨(K.cell (p:=⟨h,0,none⟩) b0).trans q0,(K.cell (p:=⟨h,1,none⟩) b0).trans q1,(K.cell (p:=⟨h,2,none⟩) b0).trans q2,(K.cell (p:=⟨Q,3,none⟩) a7).trans q3,K⟩
 clear a6 hL g0 g4 hg b7 q0 q1 q2 q3 a0 Y a3 a9 a7
 go_enter func63,ntmps63
 go_wp2_with (first | rw [<- g5.out,<- g6.out] | fail)
 go_loopw [9,16] (fun v x wr=>∃ i:Nat,i<=n/\x=.int .i64 i/\(∃ I,I.map Prod.fst=(List.range i).map D/\J1 57 y.heap.size wr v I)/\Below y.heap.size y wr) (fun _ x _=>n - (intOf x).toNat)
 case atStart=>exact ⟨0,Nat.zero_le _,rfl,⟨[],rfl,J1.nil _ _ _⟩,Below.refl _ _⟩
 case round =>
  obtain ⟨i,hi,rfl,⟨I,b2,hO⟩,hB⟩:=hrel
  obtain ⟨G,rfl⟩:∃ G,G=wr:=⟨_,rfl⟩
  obtain ⟨pv,cv,rfl,_,_,_,_⟩:=hO.1.form
  have d0:I.length=i:=by have:=congrArg List.length b2;simpa using this
  have i5:I.length<=1000:=by omega
  have d1:Hid (I.map Prod.fst=(List.range i).map D):=b2
  have h6:Hid (I.length=i):=d0
  have HO:Hid (J1 57 y.heap.size G (.slice pv I.length cv) I):=hO
  have U:Hid (Below y.heap.size y G):=hB
  have b3:y.heap.size<=G.heap.size:=hB.size
  clear hO b2 d0
  by_cases a4:i < n
  ·rcases g7.out.below hB with h0 | ⟨b,o,h7,i7,d2⟩
   ·have:L.length=0:=by rw [h0];rfl
    have:=b1.out
    omega
   have q7:=d2 i (by rw [b1.out];exact a4)
   have i8:(Yc L i).size<=1000000:=by
    rw [Xk L i (by rw [b1.out];exact a4)]
    exact g8.out _ (List.getElem_mem _)
   obtain ⟨f1,f2,f3,f4,f5,f6,f7⟩:=g9.out i a4
   have HM:Hid ((D i).from_=nm/\(D i).aP=Yc L i/\(D i).kind=kind/\(D i).key=O/\(D i).op=op/\(D i).config=N/\(D i).shut=false):=⟨f1,f2,f3,f4,f5,f6,f7⟩
   have HT:Hid ((List.range (i+1)).map D=(List.range i).map D ++ [D i]):=LH D i
   subst h7
   generalize Yc L i=t at *
   have d3:Hid (∀ s W,s.size<=1000000->Hid (Below G.heap.size G W)->Calls prog 33 #[.string s] W fun e w'=>e=.returned (.string s)/\Hid (Below G.heap.size G w')/\(w'.cell? ⟨h,0,none⟩=some (.string nm)/\w'.cell? ⟨h,1,none⟩=some (.string O)/\w'.cell? ⟨h,2,none⟩=some (.int .i64 op)/\w'.cell? ⟨Q,3,none⟩=some (.int .i64 N)/\Below y.heap.size y w')):=fun s W hs K=>(Xs s W (by omega)).mono fun e w' hp=>by
    have h1:Below G.heap.size G w':=K.out.trans (hp.2.mono K.out.size)
    exact ⟨hp.1,h1,HS.out w' (U.out.trans (h1.mono U.out.size))⟩
   have HV:Hid (∀ W,Hid (Below G.heap.size G W)->Calls prog fn (#[.int .i64 (i:Int)] ++ a2) W fun e w'=>∃ lv:Lv,e=.returned (.slice lv.1 lv.2.1 lv.2.2)/\Hid (Jn w' (D i,lv)/\∀ b o,lv.1=some ⟨b,o,none⟩->G.heap.size<=b/\b < w'.heap.size)/\Hid (Below G.heap.size G w')/\(w'.cell? ⟨h,0,none⟩=some (.string nm)/\w'.cell? ⟨h,1,none⟩=some (.string O)/\w'.cell? ⟨h,2,none⟩=some (.int .i64 op)/\w'.cell? ⟨Q,3,none⟩=some (.int .i64 N)/\Below y.heap.size y w')):=fun W K=>(HG.out i a4 W (U.out.trans (K.out.mono U.out.size))).mono fun e w' hp=>by
    obtain ⟨⟨lv,h1,h2,h3⟩,h4⟩:=hp
    have h5:Below G.heap.size G w':=K.out.trans (h4.mono K.out.size)
    exact ⟨lv,h1,⟨h2,fun b o e=>⟨Nat.le_trans K.out.size (h3 b o e).1,(h3 b o e).2⟩⟩,h5,HS.out w' (U.out.trans (h5.mono U.out.size))⟩
   have h8:Hid (Below G.heap.size G G.drew):=(Below.refl _ _).drew
   have d4:=HS.out G.drew hB.drew
   have d5:Hid (∀ J (lv:Lv),Hid (Below G.heap.size G J)->Hid (Jn J (D i,lv)/\∀ b o,lv.1=some ⟨b,o,none⟩->G.heap.size<=b/\b < J.heap.size)->∀ X,X=Obj.cells #[.string nm,.string t,.string kind,.string O,.int .i64 op,.int .i64 N,.bool false,.slice lv.1 lv.2.1 lv.2.2] 57->Zc mE 57 (J.alloc X) y.heap.size (.slice pv I.length cv) I/\(∀ j u,(mE.enc (D i,lv))[j]?=some u->(J.alloc X).cell? ⟨J.heap.size,j,none⟩=some u)/\y.heap.size<=(J.alloc X).heap.size/\∀ Z M,Zc mE 57 M y.heap.size Z (I ++ [(D i,lv)])->(J.alloc X).grownBy M (Value.slice pv I.length cv).ownBlock->(Z.ownBlock=(Value.slice pv I.length cv).ownBlock∨Z.ownBlock=some (J.alloc X).heap.size)->J1 57 y.heap.size M Z (I ++ [(D i,lv)])/\(M.cell? ⟨h,0,none⟩=some (.string nm)/\M.cell? ⟨h,1,none⟩=some (.string O)/\M.cell? ⟨h,2,none⟩=some (.int .i64 op)/\M.cell? ⟨Q,3,none⟩=some (.int .i64 N)/\Below y.heap.size y M)):=fun J lv d6 b4 X h9=>by
    have b5:Below J.heap.size J (J.alloc X):=(Below.refl _ _).alloc (Nat.le_refl _) _
    have a1:Below G.heap.size G (J.alloc X):=d6.out.trans (b5.mono d6.out.size)
    have d7:=HO.out.kept a1
    refine ⟨d7.1,fun j u hj=>?_,Nat.le_trans b3 a1.size,fun Z M g1 g2 g3=>⟨HO.out.snoc b3 a1 (b4.out.1.below b5) (fun b o e=>⟨(b4.out.2 b o e).1,Nat.lt_of_lt_of_le (b4.out.2 b o e).2 b5.size⟩) g1 g2 g3,HS.out M ?_⟩⟩
    ·subst h9
     rw [World.cell?_alloc_at _ _ _ _ rfl]
     obtain ⟨f1,f2,f3,f4,f5,f6,f7⟩:=HM.out
     simpa [mE,Jw,f1,f2,f3,f4,f5,f6,f7] using hj
    ·exact (U.out.trans (a1.mono U.out.size)).grown g2 (Nat.le_trans b3 a1.size) (fun k hk=>(d7.1.block hk).1)
   clear d2 f1 f2 f3 f4 f5 f6 f7 hB
   go_wp2
   go_region_held3 (fun W=>(W.cell? ⟨h,0,none⟩=some (.string nm)/\W.cell? ⟨h,1,none⟩=some (.string O)/\W.cell? ⟨h,2,none⟩=some (.int .i64 op)/\W.cell? ⟨Q,3,none⟩=some (.int .i64 N)/\Below y.heap.size y W)) (first | assumption | exact d4 | exact HS.out _ (b6.2.2.2.2.alloc b6.2.2.2.2.size _)) (first | (go_at_call 33;refine (d3.out _ _ (by assumption) (by assumption)).mono ?_;rintro e wn ⟨rfl,i9,j0⟩) | (refine (HV.out _ (by assumption)).mono ?_;rintro e J ⟨lv,rfl,d8,d9,b6⟩) | (obtain ⟨e0,e1,e2,e3⟩:=d5.out J lv d9 d8 _ rfl;refine NJ (E:=mE) rfl (.tmp 21) (.tmp 45) 51 57 rfl (.agg #[.string ⟨#[]⟩,.string ⟨#[]⟩,.string ⟨#[]⟩,.string ⟨#[]⟩,.int .i64 0,.int .i64 0,.bool false,.slice none 0 0]) 112 underlying51 NW rfl y.heap.size (.slice pv I.length cv) I (by simp [Act.eval]) e0 J.heap.size 1 (D i,lv) (by simp [Act.eval]) e1 (by unfold maxLen;omega) (by omega) e2 ?_;intro Z M e4 e5 e6;obtain ⟨e7,e8⟩:=e3 Z M e4 e5 e6;clear e0 e1 e2 e3 e4 e5 e6))
   have i0:Hid (J1 57 y.heap.size M Z (I ++ [(D i,lv)])):=e7
   have i1:Hid (Below y.heap.size y M):=e8.2.2.2.2
   have i2:Hid ((I ++ [(D i,lv)]).map Prod.fst=(List.range (i+1)).map D):=by show _=_;rw [List.map_append,d1.out,HT.out];rfl
   clear e7 e8 b6 d9 d8 d3 HV d5 d4 h8 HO
   go_wp2
   go_roundw
   case rel=>exact ⟨i+1,by omega,by go_num,⟨_,i2.out,i0.out⟩,i1.out⟩
   case measure=>simp [intOf];omega
  ·have e9:i=n:=by omega
   obtain ⟨p6,c6,f8,f9⟩:=HO.out.SO
   have i3:Hid (QE c6 y.heap.size G p6 (I.map Prod.fst)):=f9
   have i4:Hid (Value.slice pv I.length cv=.slice p6 I.length c6):=f8
   clear f8 f9
   go_wp2
   go_ret
   refine ⟨⟨p6,c6,?_,?_⟩,a8.out.trans (U.out.mono a8.out.size)⟩
   ·rw [i4.out,h6.out,e9]
    rfl
   ·have:=i3.out
    rw [d1.out,e9] at this
    exact this.mono a8.out.size
theorem TC (i:Int) (W:World):Calls prog 64 (#[.int .i64 i] ++ #[]) W fun e w'=>e=.returned (.slice none 0 0)/\w'=W:=by
 show Calls prog 64 #[.int .i64 i] W _
 go_enter func64,ntmps64
 go_wp2
 go_ret
 exact ⟨rfl,rfl⟩
theorem GQ {c:Xg} (h:¬ 0 < (Jg c).1):∃ n k:Nat,c.n=(n:Int)/\c.k=(k:Int)/\1<=k/\k<=n/\n<=12/\c.L.length=n/\∀ x ∈ c.L,x.size<=100:=by
 obtain ⟨⟨D,G,I⟩,J,_,j,_⟩:=Xm h
 exact ⟨c.n.toNat,c.k.toNat,by omega,by omega,by omega,by omega,by omega,by omega,fun x y=>by have:=QF (j x y);omega⟩
def gZ (a:Za) (F:J0) (asks:ByteArray):List Zb:=(List.range F.c.L.length).map fun i=>⟨a.name,Yc F.c.L i,asks,a.key,a.op,F.num,false,[]⟩
theorem KA  {B:Nat} {a:Za} {P F T:J0} {asks:ByteArray} {aw:ByteArray} {m:Option Nat}  (j:JF X w B h S S0 a P F T asks cv aw m D row):Calls prog 42 #[.pointer (some ⟨h,0,none⟩)] w fun e w'=>(∃ p c,e=.returned (.slice p (gZ a F asks).length c)/\QE c w.heap.size w' p (gZ a F asks))/\Below w.heap.size w w':=by
 obtain ⟨n,k,U,Y,a0,a1,a2,G,M⟩:=GQ j.stat.fr.aN
 obtain ⟨p,I,J,N,_,_,_⟩:=j.stat.fr.mem
 rw [G] at J
 have O:(gZ a F asks).length=n:=by unfold gZ;simp [G]
 have wH:w.cell? ⟨h,10,none⟩=some (.int .i64 F.c.n):=j.cell 10
 have x8:w.cell? ⟨h,11,none⟩=some (.int .i64 F.c.k):=j.cell 11
 have a3:w.cell? ⟨h,12,none⟩=some (.slice p n I):=by rw [<- J];exact j.cell 12
 have a4:w.cell? ⟨h,13,none⟩=some (.int .i64 F.num):=j.cell 13
 have a5:w.cell? ⟨h,18,none⟩=some (.string asks):=j.cell 18
 have Q:Hid (Calls prog 63 #[.pointer (some ⟨h,0,none⟩),.agg #[.int .i64 F.c.n,.int .i64 F.c.k,.slice p n I,.int .i64 F.num],.string asks,.func (.func 64) #[] #[]] w.drew fun e w'=>(∃ p c,e=.returned (.slice p n c)/\Hid (QE c w.heap.size w' p (gZ a F asks)))/\Hid (Below w.heap.size w w')):=by
  have y:=j.below (Below.refl _ w).drew
  refine (A4 h n a.name a.key asks a.op F.c.n F.c.k F.num F.c.L p I 64 #[] (fun i=>(⟨a.name,Yc F.c.L i,asks,a.key,a.op,F.num,false,[]⟩:Zb)) w.drew (y.cell 0) (y.cell 1) (y.cell 2) G (N.below (Below.refl _ w).drew) (by omega) (by have:=j.aN.name;omega) (by have:=j.aN.key;omega) (fun x Z=>by have:=M x Z;omega) (fun i _=>⟨rfl,rfl,rfl,rfl,rfl,rfl,rfl⟩) (fun args W=>by kernel_rfl) (fun i _ W _=>(TC i W).mono fun e w' y=>⟨⟨(none,0,0),y.1,⟨rfl,Ql.nil _ _,Nat.le_refl _,fun _=>⟨rfl,rfl⟩⟩,fun b o e=>by cases e⟩,by rw [y.2];exact Below.refl _ _⟩)).mono fun e w' y=>?_
  obtain ⟨⟨K,c1,e1,e2⟩,e3⟩:=y
  refine ⟨⟨K,c1,e1,?_⟩,(Below.refl _ w).drew.trans e3⟩
  unfold gZ
  rw [G]
  exact e2
 rw [O]
 clear N M J O j U Y
 go_enter func42,ntmps42
 go_wp2
 refine wp_region_still_tail 11 (by kernel_rfl) (by kernel_rfl) ?_
 simp only [List.take_succ_cons,List.take_zero,List.drop_succ_cons,List.drop_zero]
 still_step
 still_step
 still_step
 still_step
 still_step
 still_step
 still_step
 still_step
 still_step
 still_step
 still_step
 refine wpStill_nil ?_
 go_wp2_with fail
 refine Q.out.mono ?_
 rintro e w1 ⟨⟨K,c1,rfl,hm⟩,hb⟩
 clear Q
 go_wp2
 go_ret
 exact ⟨⟨K,c1,rfl,hm.out⟩,hb.out⟩
end Go.Proofs.YtmikbldbfnlfjaaGreatDoor

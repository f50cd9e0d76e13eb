/- Texts laid together. -/
import Derived.Test.YtgapmoniajcliaaGreatDoorV9
set_option maxRecDepth 10000
set_option maxHeartbeats 16000000
open Option renaming some->aa,none->N
open Nat renaming lt_of_lt_of_le->ab,le_trans->am,le_refl->aC,lt_or_ge->za,zero_le->zk,not_lt_zero->ba,le_of_lt->bk
open Go.RowKit renaming Below->ac
open Go renaming Value->ae,below_drewN->af,Calls->an,maxLen->aB,TypeId->aE,DataW->bf,Addr->bg
open Option.some renaming inj->ag
open Array renaming getElem?_eq_getElem->ah,getElem?_eq_none->ar
open Or renaming inl->ai,inr->ap
open Bool renaming false->aj,true->ao,false_and->av,eq_false_iff->aD,and_eq_true->aY
open Go.World renaming cell?->ak,setCell->ax,frozen?_alloc_at->zb,drewN->zf,cell?_of_block->aR,cell?_alloc_at->zg,frozen?->bi
open List renaming mem_singleton->al,range->au,mem_append->ay,getElem_mem->aW,map_append->bb
open Go.RowKit.Below renaming refl->aq,heap_setCell->az
open Go.Instr renaming lookup->aA,mapUpdate->bc
open Prod renaming fst->ze
namespace Go.Proofs.YtgapmoniajcliaaGreatDoor
open Go.Proofs.Tryz
open Go.RowKit
variable {w w' K:World}{b o h:Nat}{v cv cv':ae}{p:Option bg}{S0 S1 S:Nat->Prop}{who:Int}{text x:BA}{row:BA->ae}{D:bf ae}{X:aE}{B J:Array ae}{m:Zb}
section
def Za.obj (a:Za):Int×Int×BA×Bool:=if(a.st=.keeping∨a.st=.done)/\a.found=ao then(a.tag.1,a.tag.2,a.text,ao)else(0,0,⟨#[]⟩,aj)
def Za.first (a:Za):Prop:=a.st=.looking∨a.st=.sealing
structure J0 where
 c:Xg
 num:Int
 v:ae
def JG (a:Za)(P:J0)(aw:BA)(H:Nat)(I:ae)(F T:J0)(asks:BA)(cv:ae):Array Value:=#[.string a.name,.string a.key,.int .i64 a.op,.int .i64 P.c.n,.int .i64 P.c.k,P.v,.int .i64 P.num,.string aw,.int .i64 (H:Int),I,.int .i64 F.c.n,.int .i64 F.c.k,F.v,.int .i64 F.num,.int .i64 T.c.n,.int .i64 T.c.k,T.v,.int .i64 T.num,.string asks,cv,.string a.st.word,.int .i64 a.obj.1,.int .i64 a.obj.2.1,.string a.obj.2.2.1,.bool a.obj.2.2.2]
def qE (put:Bool)(who:Int)(text:BA)(c:Xg)(LL:List (List Yb)):Value:=if put then .agg #[.int .i64 (XF LL+1),.int .i64 who,.string text,.bool ao]else .agg #[.int .i64 (Ys c.n.toNat c.k.toNat LL.flatten LL.flatten).1.1,.int .i64 (Ys c.n.toNat c.k.toNat LL.flatten LL.flatten).1.2,.string (Ys c.n.toNat c.k.toNat LL.flatten LL.flatten).2.1,.bool (Ys c.n.toNat c.k.toNat LL.flatten LL.flatten).2.2]
structure KN (W:World) (ad:Nat->bg) (z:bg) (c:Xg) (mp:Option bg) (mc:Nat) (p:Option bg) (LL:List (List Yb)):Prop where
 cfg:Yn W c mp mc
 aN:¬0<(Jg c).1
 wO:eU W p LL
 le:¬c.n<(LL.length:Int)
 m1:LL.length<=1000
 m2:LL.flatten.length<=1000
 m3:∀l∈LL,l.length<=1000
 int:∀v∈LL.flatten,Jt v
 eZ:Zp W ad
 zero:W.cell? ⟨9,0,N⟩=aa (.iface 287 (.pointer (aa z)))
def jY (w:World)(S0:Nat->Prop)(put:Bool)(who:Int)(text:BA)(cv:ae):Prop :=
 ∃H I,cv=.func (.func H) #[] I/\(∀args W,Sem.run prog (callFunc H args) W=.ok (.enter H args) W)/\∀W,(∀k,S0 k->W.heap[k]?=w.heap[k]?)->∀ad z c mp J p LL cl,KN W ad z c mp J p LL->an prog H (#[.agg #[.int .i64 c.n,.int .i64 c.k,.slice mp c.L.length J],.slice p LL.length cl]++I) W fun e w'=>e=.returned (qE put who text c LL)/\ac W.heap.size W w'
structure ZC (w:World) (b:Nat) (F:List BA) (D:bf ae) (row:BA->ae):Prop where
 own:∃n,QX w b n D
 has:∀x,x.size<=aB->Maps.has D (Xv x)=Xu F x
 at_:∀x,x∈F->∀z,D.atKey (Xv x) z=.held (row x)
 size:Maps.size D=F.length
structure jC (w:World) (S0:Nat->Prop) (P:J0):Prop where
 aN:¬0<(Jg P.c).1
 mem:∃p c,P.v=.slice p P.c.L.length c/\Strs w p P.c.L/\P.c.L.length<=c/\(p=N->P.c.L=[]/\c=0)/\∀b o,p=aa ⟨b,o,N⟩->S0 b
structure l6 (w:World) (S0:Nat->Prop) (a:Za) (F T:J0) (cv:ae) (row:BA->ae):Prop where
 fr:jC w S0 F
 aP:jC w S0 T
 ch:a.first->jY w S0 a.put a.who a.text cv
 rows:a.first->∀x∈a.from_,∃q c,row x=.slice q (QK a x).length c/\Ql Ze w q (QK a x)/\(QK a x).length<=c/\(q=N->QK a x=[]/\c=0)/\∀b o,q=aa ⟨b,o,N⟩->S0 b
 lt:∀k,S0 k->k<w.heap.size
structure QN (a:Za):Prop where
 cfg:¬0<(Jg a.c).1
 key:a.key.size<=100
 name:a.name.size<=100
 text:a.text.size<=1000
 still:a.aI=aj->a.st≠.sealing
 aI:a.aI=ao->a.st≠.looking
 nodup:a.from_.Nodup
 sub:∀x∈a.from_,x∈a.c.L
 both:a.from_.length=a.L.length
 aS:a.st=.keeping->a.found=ao
 cM:∀l∈a.L,∀v∈l,Jt v
structure B6 (a:Za) (P F T:J0) (asks:BA):Prop where
 rC:a.first->P=F/\F.c=a.c/\F.num=a.config/\T.c=a.keeps.c/\T.num=a.keeps.config
 yR:a.st=.keeping->P=T/\T.c=a.c/\T.num=a.config
 sJ:a.aI=aj->F.c=a.c/\F.num=a.config
 kind:asks=if a.aI then pX else rO
structure JF (X:aE) (w:World) (B:Nat) (h:Nat) (S S0:Nat->Prop) (a:Za) (P F T:J0) (asks:BA) (cv:ae) (aw:BA) (m:Option Nat) (D:bf ae) (row:BA->ae):Prop where
 blk:w.heap[h]?=aa (.cells (JG a P aw (Jh P.c) (.map m) F T asks cv) X (0,0))
 self:S h
 aO:∀k,S k->B<=k/\k<w.heap.size
 stat:l6 w S0 a F T cv row
 s0:∀k,S0 k->S k/\k≠h/\m≠aa k
 aN:QN a
 fF:B6 a P F T asks
 open_:a.first∨a.st=.keeping->∃b,m=aa b/\S b/\b≠h/\ZC w b a.from_ D row
 shut:a.st=.done∨a.st=.refused->m=N
 rY:a.first∨a.st=.keeping->aw=a.st.waits
def ZR (X:aE)(w:World)(B:Nat)(h:Nat)(S:Nat->Prop)(a:Za):Prop:=∃S0 P F T asks cv aw m D row,JF X w B h S S0 a P F T asks cv aw m D row
theorem YC (h:w.cell? ⟨b,o,N⟩=aa v):b<w.heap.size:=by
 rcases za b w.z with H|H
 ·exact H
 ·simp[ak,ar H]at h
theorem Strs.same {L:List BA}(h:Strs w p L)(O:w.heap.size<=w'.heap.size)(U:∀b o,p=aa ⟨b,o,N⟩->w'.heap[b]?=w.heap[b]?):Strs w' p L:=by
 rcases h with h|⟨b,o,H,I,J⟩
 ·exact ai h
 ·exact ap ⟨b,o,H,ab I O,fun i K=>(aR (a:=(pA b (o+i))) (U b o H)).trans (J i K)⟩
theorem Ql.sameAt {α:Type}{E:eW α}{l:List α}(h:Ql E w p l)(Z:w.heap.size<=w'.heap.size)(hb:∀b o,p=aa ⟨b,o,N⟩->w'.heap[b]?=w.heap[b]?):Ql E w' p l:=by
 rcases h with h|⟨b,o,H,J,K⟩
 ·exact ai h
 ·exact ap ⟨b,o,H,ab J Z,fun j x O I u U=>(aR (a:=(pA b (o+j*E.k+I))) (hb b o H)).trans (K j x O I u U)⟩
theorem jY.aS {put:Bool}(h:jY w S0 put who text cv)(hb:∀k,S0 k->w'.heap[k]?=w.heap[k]?):jY w' S0 put who text cv:=by
 obtain⟨I,J,K,O,U⟩:=h;exact⟨I,J,K,O,fun W Z=>U W (fun k H=>(Z k H).trans (hb k H))⟩
theorem jY.more {put:Bool}(h:jY w S0 put who text cv)(hs:∀k,S0 k->S1 k):jY w S1 put who text cv:=by
 obtain⟨H,I,J,K,O⟩:=h;exact⟨H,I,J,K,fun W U=>O W (fun k Z=>U k (hs k Z))⟩
theorem jC.aS {P:J0}(h:jC w S0 P)(Z:w.heap.size<=w'.heap.size)(hb:∀k,S0 k->w'.heap[k]?=w.heap[k]?):jC w' S0 P:=by
 obtain⟨p,c,I,J,K,O,H⟩:=h.mem;exact⟨h.aN,p,c,I,J.same Z (fun b o U=>hb b (H b o U)),K,O,H⟩
theorem jC.more {P:J0}(h:jC w S0 P)(Z:∀k,S0 k->S1 k):jC w S1 P:=by
 obtain⟨p,c,H,I,J,K,O⟩:=h.mem;exact⟨h.aN,p,c,H,I,J,K,fun b o U=>Z b (O b o U)⟩
theorem l6.aS {a:Za}{F T:J0}(h:l6 w S0 a F T cv row)(H:w.heap.size<=w'.heap.size)(I:∀k,S0 k->w'.heap[k]?=w.heap[k]?):l6 w' S0 a F T cv row:=by
 refine⟨h.fr.aS H I,h.aP.aS H I,fun J=>(h.ch J).aS I,fun J x O=>?_,fun k U=>ab (h.lt k U) H⟩;obtain⟨q,c,Z,h2,h3,h4,K⟩:=h.rows J x O;exact⟨q,c,Z,h2.sameAt H (fun b o hp=>I b (K b o hp)),h3,h4,K⟩
theorem ZC.same {F:List BA}(h:ZC w b F D row)(I:w'.heap[b]?=w.heap[b]?):ZC w' b F D row:=by
 obtain⟨n,H⟩:=h.own;exact⟨⟨n,H.same I⟩,h.has,h.at_,h.size⟩
theorem ZC.made (row:BA->ae)(hm:w.heap[b]?=aa (.map #[] 0)):ZC w b [] (.map []) row:=by
 refine⟨⟨0,#[],0,hm,?_⟩,fun _ _=>rfl,(fun x I=>by cases I),rfl⟩;obtain⟨es,a0,H,J,K,O⟩:=World.ownsMap_made w prog 9 iW;have e:(w.alloc (.map #[] 0)).heap[w.z]?=aa (.map #[] 0):=by
  show(w.heap.push _)[w.z]?=_;simp
 rw[e]at H;injection H with H
 injection H with U Z
 subst U Z;exact⟨J,K,O⟩
variable {X:aE} {w w':World} {B h:Nat} {S S0:Nat->Prop} {a:Za} {P F T:J0} {asks:BA} {cv:ae} {aw:BA} {m:Option Nat} {D:bf ae} {row:BA->ae}
theorem JF.aS (H:JF X w B h S S0 a P F T asks cv aw m D row)(O:w.heap.size<=w'.heap.size)(J:∀k,S k->w'.heap[k]?=w.heap[k]?):JF X w' B h S S0 a P F T asks cv aw m D row where
 blk:=(J h H.self).trans H.blk
 self:=H.self
 aO:=fun k I=>⟨(H.aO k I).1,ab (H.aO k I).2 O⟩
 stat:=H.stat.aS O (fun k I=>J k (H.s0 k I).1)
 s0:=H.s0
 aN:=H.aN
 fF:=H.fF
 open_:=fun U=>by
  obtain⟨b,Z,K,h3,h4⟩:=H.open_ U;exact⟨b,Z,K,h3,h4.same (J b K)⟩
 shut:=H.shut
 rY:=H.rY
theorem JF.below (H:JF X w B h S S0 a P F T asks cv aw m D row)(I:ac w.heap.size w w'):JF X w' B h S S0 a P F T asks cv aw m D row:=H.aS I.size (fun k J=>I.block k (H.aO k J).2)
theorem JF.cell (H:JF X w B h S S0 a P F T asks cv aw m D row)(i:Nat):w.cell? ⟨h,i,N⟩=(JG a P aw (Jh P.c) (.map m) F T asks cv)[i]?:=by simp[ak,H.blk]
theorem JF.lt (H:JF X w B h S S0 a P F T asks cv aw m D row):h<w.heap.size:=(H.aO h H.self).2
theorem JF.here (I:JF X w B h S S0 a P F T asks cv aw m D row)(H:a.first∨a.st=.keeping):jC w S0 P/\P.c=a.c/\P.num=a.config:=by
 rcases H with H|H
 ·obtain⟨J,K,O,_⟩:=I.fF.rC H;subst J;exact⟨I.stat.fr,K,O⟩
 ·obtain⟨J,K,O⟩:=I.fF.yR H;subst J;exact⟨I.stat.aP,K,O⟩
theorem ZC.look {F:List BA}(I:ZC w b F D row)(J:x.size<=aB):(aA 122 (.map (aa b)) (.string x) aj).run prog w=.ok (if Xu F x then row x else .slice N 0 0) w:=by
 have K:(zeroValue 88).run prog w=.ok (.slice N 0 0) w:=by kernel_rfl
 obtain⟨n,O⟩:=I.own;obtain⟨v,ps,U,Z⟩:=World.ownsMap.lookup O kE underlying122 K (zd:=.held (.slice N 0 0)) (zp:=[]) rfl (qP J);rw[U];have e:=congrArg ze (ag Z);by_cases H:Xu F x=ao
 ·rw[if_pos H];rw[I.at_ x (Zl.1 H)]at e;injection e with e
  rw[e]
 ·rw[if_neg H];rw[Maps.atKey_of_not_has (by rw[I.has x J];simpa using H)]at e;injection e with e
  rw[e]
theorem ZC.pY {F:List BA}(I:ZC w b F D row)(J:x.size<=aB):(aA 122 (.map (aa b)) (.string x) ao).run prog w=.ok (.tuple #[if Xu F x then row x else .slice N 0 0,.bool (Xu F x)]) w:=by
 have K:(zeroValue 88).run prog w=.ok (.slice N 0 0) w:=by kernel_rfl
 obtain⟨n,O⟩:=I.own;obtain⟨v,ps,U,Z⟩:=World.ownsMap.look_ok O kE underlying122 K (zd:=.held (.slice N 0 0)) (zp:=[]) rfl (qP J);rw[U,I.has x J];have e:=congrArg ze (ag Z);by_cases H:Xu F x=ao
 ·rw[if_pos H];rw[I.at_ x (Zl.1 H)]at e;injection e with e
  rw[e]
 ·rw[if_neg H];rw[Maps.atKey_of_not_has (by rw[I.has x J];simpa using H)]at e;injection e with e
  rw[e]
theorem ZC.len {F:List BA}(H:ZC w b F D row)(I:aE):(Builtin.len_ #[122] I #[.map (aa b)]).run prog w=.ok (.int .i64 (F.length:Nat)) w:=by
 obtain⟨n,J⟩:=H.own;rw[World.ownsMap.len J underlying122 I,H.size]
theorem ZC.put {F:List BA}(H:ZC w b F D row)(hx:x.size<=aB)(hn:x∉F)(v:ae)(hw:∃n,QX w' b n (D.put (Xv x) (.held v))):ZC w' b (F++ [x]) (D.put (Xv x) (.held v)) (fun y=>if y=x then v else row y):=by
 obtain⟨n,U⟩:=H.own;have ht:=World.ownsMap.tidy U kE;have Z:=World.ownsMap.isMap U;refine⟨hw,fun y J=>?_,fun y J z=>?_,?_⟩
 ·by_cases e:y=x
  ·subst e;rw[Maps.has_put_same Z (qR y)];exact(Zl.2 (by simp)).symm
  ·rw[Maps.has_put_other (fun K=>e (rF K)),H.has y J];by_cases I:y∈F
   ·rw[Zl.2 I,Zl.2 (by simp[I])]
   ·have O:Xu F y=false:=aD.2 fun h=>I (Zl.1 h)
    have e2:Xu (F++ [x]) y=false:=aD.2 fun h=>by
     rcases ay.1 (Zl.1 h)with h|h
     ·exact I h
     ·exact e (al.1 h)
    rw[O,e2]
 ·by_cases e:y=x
  ·subst e;rw[Maps.atKey_put_same Z (qR y)];simp
  ·rw[Maps.atKey_put_other (fun K=>e (rF K)),H.at_ y (by
    rcases ay.1 J with h|h
    ·exact h
    ·exact absurd (al.1 h) e)]
   simp[e]
 ·have O:Maps.has D (Xv x)=false:=by rw[H.has x hx];exact aD.2 fun h=>hn (Zl.1 h)
  rw[Maps.size_put ht,O,H.size];simp
end
structure YB (X:aE) (h:Nat) (cs:Array ae) (w w':World):Prop where
 os:w'.os=w.os
 tape:w'.tape=w.tape
 output:w'.output=w.output
 size:w.heap.size<=w'.heap.size
 blk:w'.heap[h]?=aa (.cells cs X (0,0))
 cW:∀k,k<w.heap.size->k≠h->w'.heap[k]?=w.heap[k]?
theorem YB.lt {D:Array ae}(H:YB X h D w w'):h<w'.heap.size:=by
 rcases za h w'.z with B|B
 ·exact B
 ·have:=H.blk;rw[ar B]at this;cases this
theorem YB.refl (D:w.heap[h]?=aa (.cells B X (0,0))):YB X h B w w:=⟨rfl,rfl,rfl,aC _,D,fun _ _ _=>rfl⟩
theorem YB.set {H:Array ae}(B:YB X h H w w')(i:Nat)(v:ae):YB X h (H.setIfInBounds i v) w (w'.setCell ⟨h,i,N⟩ v):=⟨B.os,B.tape,B.output,by simpa[ax]using B.size,Jtn B.blk i v,fun k I D=>(az w' _ v k D).trans (B.cW k I D)⟩
theorem YB.below {H:World}(B:YB X h J w H)(D:ac H.heap.size H K):YB X h J w K:=⟨D.os.trans B.os,D.tape.trans B.tape,D.output.trans B.output,am B.size D.size,(D.block h B.lt).trans B.blk,fun k I O=>(D.block k (ab I B.size)).trans (B.cW k I O)⟩
theorem YB.trans {U:Array ae}{O:World}(B:YB X h U w K)(D:YB X h J K O):YB X h J w O:=⟨D.os.trans B.os,D.tape.trans B.tape,D.output.trans B.output,am B.size D.size,D.blk,fun k H I=>(D.cW k (ab H B.size) I).trans (B.cW k H I)⟩
theorem YB.nJ {D:Nat->Prop}(B:YB X h J w w')(K:S h)(O:∀k,D k->S k∨w.heap.size<=k):Yd S D w w':=⟨B.os,B.tape,B.output,B.size,fun k H I=>B.cW k H (fun e=>I (e▸K)),O⟩
theorem Jb {T:aE}(D:w.heap[h]?=aa (.cells B T (0,0)))(i:Nat):w.cell? ⟨h,i,N⟩=B[i]?/\w.frozen? ⟨h,i,N⟩=false:=⟨by simp[ak,D],by simp[bi,D]⟩
theorem Jog {P:Program}{W:World}{a:bg}{u:ae}(B:W.cell? a=aa u)(D:W.frozen? a=aj)(H:v.oneCell'=ao):Sem.run P (store a v) W=.ok () (W.setCell a v):=by
 rw[run_store _ _ _ _ _ H,B];simp[D]
theorem UW (D:w.heap[h]?=aa (.cells B X (0,0)))(J:∃v,B[9]?=aa v):an prog 130 #[.pointer (aa ⟨h,0,N⟩)] w fun e w'=>e=.returned (.tuple #[])/\YB X h (B.setIfInBounds 9 (.map N)) w w':=by
 obtain⟨v,H⟩:=J;have c9:w.cell? (pA h 9)=aa v:=by rw[(Jb D 9).1,H]
 have K:=(Jb D 9).2;have I:Hid (YB X h (B.setIfInBounds 9 (.map N)) w (w.setCell (pA h 9) (.map N))):=(YB.refl D).set 9 _;clear D H;go_enter func130,ntmps130;go_wp2
 go_end0
 exact⟨rfl,I.out⟩
def nT (B:Array ae)(P:J0)(kind:BA)(mb:Nat):Array Value:=((((((B.setIfInBounds 3 (.int .i64 P.c.n)).setIfInBounds 4 (.int .i64 P.c.k)).setIfInBounds 5 P.v).setIfInBounds 6 (.int .i64 P.num)).setIfInBounds 7 (.string kind)).setIfInBounds 8 (.int .i64 ((Jh P.c:Nat):Int))).setIfInBounds 9 (.map (aa mb))
theorem ED {I:Array ae}(ad:Nat->bg)(P:J0)(p:Option bg)(cap:Nat)(kind:BA)(hb:w.heap[h]?=aa (.cells I X (0,0)))(hs:I.size=25)(hf:¬0<(Jg P.c).1)(hv:P.v=.slice p P.c.L.length cap)(hE:∀W:World,w.heap.size<=W.heap.size->(∀k,k<w.heap.size->k≠h->W.heap[k]?=w.heap[k]?)->Yn W P.c p cap/\Zp W ad):
 an prog 90 #[.pointer (aa ⟨h,0,N⟩),.agg #[.int .i64 P.c.n,.int .i64 P.c.k,P.v,.int .i64 P.num],.string kind] w fun e w'=>e=.returned (.tuple #[])/\∃mb,w.heap.size<=mb/\YB X h (nT I P kind mb) w w'/\w'.heap[mb]?=aa (.map #[] 0):=by
 obtain⟨c,num,v⟩:=P;dsimp only at *;subst hv;have b7:=(YB.refl hb).lt;obtain⟨J,Z⟩:=Xb (w.alloc (.cells #[.int .i64 c.n,.int .i64 c.k,(.slice p c.L.length cap),.int .i64 num] 121));have a8:=Zk Z;have b8:=QT Z;have K:=JH Z;have d4:h≠w.heap.size:=by omega
 have d5:w.heap.size≠h:=by omega
 have H:=(YB.refl hb).below a8;have d0:J.cell? (pA w.heap.size 0)=aa (.int .i64 c.n):=by simp[ak,K]
 have d1:J.cell? (pA w.heap.size 1)=aa (.int .i64 c.k):=by simp[ak,K]
 have d2:J.cell? (pA w.heap.size 2)=aa (.slice p c.L.length cap):=by simp[ak,K]
 have d3:J.cell? (pA w.heap.size 3)=aa (.int .i64 num):=by simp[ak,K]
 have O:∀i,i<25->∃v,J.cell? (pA h i)=aa v:=fun i hi=>⟨I[i]'(by omega),by rw[(Jb H.blk i).1];exact ah (by omega)⟩
 obtain⟨v3,c3⟩:=O 3 (by decide);obtain⟨v4,c4⟩:=O 4 (by decide);obtain⟨v5,c5⟩:=O 5 (by decide);obtain⟨v6,c6⟩:=O 6 (by decide);obtain⟨v7,c7⟩:=O 7 (by decide);have f3:=(Jb H.blk 3).2;have f4:=(Jb H.blk 4).2;have f5:=(Jb H.blk 5).2;have f6:=(Jb H.blk 6).2;have f7:=(Jb H.blk 7).2;obtain⟨D,a0⟩:=Xb ((((((J.setCell (pA h 3) (.int .i64 c.n)).setCell (pA h 4) (.int .i64 c.k)).setCell (pA h 5) (.slice p c.L.length cap)).setCell (pA h 6) (.int .i64 num)).setCell (pA h 7) (.string kind)));have a2:YB X h (((((I.setIfInBounds 3 (.int .i64 c.n)).setIfInBounds 4 (.int .i64 c.k)).setIfInBounds 5 (.slice p c.L.length cap)).setIfInBounds 6 (.int .i64 num)).setIfInBounds 7 (.string kind)) w D:=by rw[a0];exact((((H.set 3 _).set 4 _).set 5 _).set 6 _).set 7 _
 have d6:D.heap.size=J.heap.size:=by rw[a0];simp[ax]
 have a3:D.heap[w.heap.size]?=aa (.cells #[.int .i64 c.n,.int .i64 c.k,(.slice p c.L.length cap),.int .i64 num] 121 (0,0)):=by
  rw[<-K,a0];simp[az,d5]
 have g0:D.cell? (pA w.heap.size 0)=aa (.int .i64 c.n):=by simp[ak,a3]
 have g1:D.cell? (pA w.heap.size 1)=aa (.int .i64 c.k):=by simp[ak,a3]
 have g2:D.cell? (pA w.heap.size 2)=aa (.slice p c.L.length cap):=by simp[ak,a3]
 obtain⟨a9,b0⟩:=hE D a2.size (fun k hk hn=>a2.cW k hk hn);have a4:=JlQ ad c p cap D a9 b0;rw[if_neg hf]at a4;unfold iE at a4;have h0:=(Xm hf).2.2.1;have b1:Hid (an prog 118 #[.agg #[.int .i64 c.n,.int .i64 c.k,.slice p c.L.length cap]] D fun e w'=>∃ev,e=.returned (.tuple #[.int .i64 ((Jh c:Nat):Int),ev])/\Hid (ac D.heap.size D w')):=a4.mono fun e w' hq=>by
  obtain⟨⟨ev,h1,_⟩,h3⟩:=hq;exact⟨ev,h1,h3⟩
 have d7:Hid _:=Z;have b2:Hid _:=a0;have b3:Hid _:=a2;have b4:Hid _:=hs;clear hb hs hf hE Z a8 b8 K H O a0 a2 d6 a3 a9 b0 a4 h0 d4 b7;go_enter func90,ntmps90;go_wp2_with (first|rw[<-d7.out]|rw[<-b2.out]|fail)
 refine b1.out.mono ?_;rintro e w3 ⟨ev,rfl,b5⟩;have U:=b3.out.below b5.out;have d8:=U.size;have d9:=U.lt;have c8:∃u,w3.cell? (pA h 8)=aa u:=⟨I[8]'(by have:=b4.out;omega),by rw[(Jb U.blk 8).1];simp⟩;obtain⟨u8,c8⟩:=c8;have f8:=(Jb U.blk 8).2;obtain⟨B,a5⟩:=Xb (w3.setCell (pA h 8) (.int .i64 ((Jh c:Nat):Int)));have a7:=U.set 8 (.int .i64 ((Jh c:Nat):Int));rw[<-a5]at a7;have e0:B.heap.size=w3.heap.size:=by rw[a5];simp[ax]
 have b6:ac B.heap.size B (B.alloc (.map #[] 0)):=bR.alloc nR _;have a6:=a7.below b6;have c9:∃u,(B.alloc (.map #[] 0)).cell? (pA h 9)=aa u:=⟨I[9]'(by have:=b4.out;omega),by rw[(Jb a6.blk 9).1];simp⟩;obtain⟨u9,c9⟩:=c9;have f9:=(Jb a6.blk 9).2;have e5:(Instr.makeMap 122 N).run prog B=.ok (.map (aa B.heap.size)) (B.alloc (.map #[] 0)):=by kernel_rfl
 have e1:Hid _:=a5;have e2:Hid (YB X h (nT I ⟨c,num,.slice p c.L.length cap⟩ kind B.heap.size) w ((B.alloc (.map #[] 0)).setCell (pA h 9) (.map (aa B.heap.size)))):=a6.set 9 _;have e3:Hid (((B.alloc (.map #[] 0)).setCell (pA h 9) (.map (aa B.heap.size))).heap[B.heap.size]?=aa (.map #[] 0)):=by
  show _=_;rw[az _ _ _ _ (by show B.heap.size≠h;omega)];show(B.heap.push _)[B.heap.size]?=_;simp
 have e4:Hid (w.heap.size<=B.heap.size):=by show _<=_;omega
 clear U a7 a6 b6 a5 e0 d8 d9 b5 b1 b3 b2 c3 c4 c5 c6 c7 f3 f4 f5 f6 f7 d0 d1 d2 d3 g0 g1 g2;go_wp2_with (rw[<-e1.out])
 go_end0
 exact⟨rfl,_,e4.out,e2.out,e3.out⟩
theorem wK {O:Array ae}(st:BA)(B D:Int)(H:BA)(I:Bool)(hb:w.heap[h]?=aa (.cells O X (0,0)))(hs:O.size=25):an prog 106 #[.pointer (aa ⟨h,0,N⟩),.string st,.agg #[.int .i64 B,.int .i64 D,.string H,.bool I]] w fun e w'=>e=.returned (.tuple #[])/\YB X h (((((((O.setIfInBounds 20 (.string st)).setIfInBounds 21 (.int .i64 B)).setIfInBounds 22 (.int .i64 D)).setIfInBounds 23 (.string H)).setIfInBounds 24 (.bool I)).setIfInBounds 19 .nilFunc).setIfInBounds 9 (.map N)) w w':=by
 obtain⟨J,U⟩:=Xb (w.alloc (.cells #[.int .i64 B,.int .i64 D,.string H,.bool I] 127));have a3:=Zk U;have b2:=(YB.refl hb).lt;have K:=(YB.refl hb).below a3;have b3:h≠w.heap.size:=by omega
 have b4:w.heap.size≠h:=by omega
 have d0:J.cell? (pA w.heap.size 0)=aa (.int .i64 B):=XX U rfl;have d1:J.cell? (pA w.heap.size 1)=aa (.int .i64 D):=XX U rfl;have d2:J.cell? (pA w.heap.size 2)=aa (.string H):=XX U rfl;have d3:J.cell? (pA w.heap.size 3)=aa (.bool I):=XX U rfl;have Z:∀i,i<25->∃v,J.cell? (pA h i)=aa v:=fun i hi=>⟨O[i]'(by omega),by rw[(Jb K.blk i).1];exact ah (by omega)⟩
 obtain⟨b5,b6⟩:=Z 20 (by decide);obtain⟨b7,b8⟩:=Z 19 (by decide);obtain⟨c8,d4⟩:=Z 21 (by decide);obtain⟨d5,d6⟩:=Z 22 (by decide);obtain⟨d7,d8⟩:=Z 23 (by decide);obtain⟨d9,e0⟩:=Z 24 (by decide);have e1:=(Jb K.blk 20).2;have e2:=(Jb K.blk 19).2;have e3:=(Jb K.blk 21).2;have e4:=(Jb K.blk 22).2;have e5:=(Jb K.blk 23).2;have e6:=(Jb K.blk 24).2;have a8:Hid _:=U;have a0:YB X h (((((O.setIfInBounds 20 (.string st)).setIfInBounds 21 (.int .i64 B)).setIfInBounds 22 (.int .i64 D)).setIfInBounds 23 (.string H)).setIfInBounds 24 (.bool I)) w (((((J.setCell (pA h 20) (.string st)).setCell (pA h 21) (.int .i64 B)).setCell (pA h 22) (.int .i64 D)).setCell (pA h 23) (.string H)).setCell (pA h 24) (.bool I)).drew:=(((((K.set 20 _).set 21 _).set 22 _).set 23 _).set 24 _).below bR.drew;have a9:∃u,((((((J.setCell (pA h 20) (.string st)).setCell (pA h 21) (.int .i64 B)).setCell (pA h 22) (.int .i64 D)).setCell (pA h 23) (.string H)).setCell (pA h 24) (.bool I)).drew).cell? (pA h 19)=aa u:=⟨O[19]'(by omega),by rw[(Jb a0.blk 19).1];simp⟩;obtain⟨e7,a4⟩:=a9;have b0:Sem.run prog (store (pA h 19) .nilFunc) ((((((J.setCell (pA h 20) (.string st)).setCell (pA h 21) (.int .i64 B)).setCell (pA h 22) (.int .i64 D)).setCell (pA h 23) (.string H)).setCell (pA h 24) (.bool I)).drew)=.ok () (((((((J.setCell (pA h 20) (.string st)).setCell (pA h 21) (.int .i64 B)).setCell (pA h 22) (.int .i64 D)).setCell (pA h 23) (.string H)).setCell (pA h 24) (.bool I)).drew).setCell (pA h 19) .nilFunc):=Jog a4 (Jb a0.blk 19).2 rfl;have a2:=a0.set 19 .nilFunc;obtain⟨w6,a5⟩:=Xb (((((((J.setCell (pA h 20) (.string st)).setCell (pA h 21) (.int .i64 B)).setCell (pA h 22) (.int .i64 D)).setCell (pA h 23) (.string H)).setCell (pA h 24) (.bool I)).drew).setCell (pA h 19) .nilFunc);rw[<-a5]at a2 b0;have a6:Hid (an prog 130 #[.pointer (aa (pA h 0))] w6 fun e w'=>e=.returned (.tuple #[])/\YB X h ((((((((O.setIfInBounds 20 (.string st)).setIfInBounds 21 (.int .i64 B)).setIfInBounds 22 (.int .i64 D)).setIfInBounds 23 (.string H)).setIfInBounds 24 (.bool I)).setIfInBounds 19 .nilFunc)).setIfInBounds 9 (.map N)) w w'):=(UW a2.blk ⟨O[9]'(by omega),by simp⟩).mono fun e w' hp=>⟨hp.1,a2.trans hp.2⟩
 clear hb hs U a3 K Z a0 a2 a4 a5;go_enter func106,ntmps106;go_wp2;rw[<-a8.out];go_region
 go_wp2_with fail
 refine a6.out.mono ?_;rintro e w7 ⟨rfl,a7⟩;have b1:Hid _:=a7;clear a7 a6;go_wp2
 go_end0
 exact⟨rfl,b1.out⟩
section
theorem Yo (hc:w.cell? ⟨b,o,N⟩=aa v):w.setCell ⟨b,o,N⟩ v=w:=by
 have I:(w.setCell (pA b o) v).heap=w.heap:=by
  refine Array.ext (by simp[ax]) fun i h1 J=>?_
  have K:(w.setCell (pA b o) v).heap[i]?=w.heap[i]?:=by
   by_cases e:i=b
   ·subst e;have O:=ah J;have hf:∀H,w.heap[i]=H->(match H with| .cells c elem frozen=>Obj.cells (c.setIfInBounds o v) elem frozen|o''=>o'')=H:=fun H ho=>by
     cases H with
     |cells c t f =>
      have U:c[o]?=aa v:=by
       unfold ak at hc;simpa[O,ho]using hc
      have hs:c.setIfInBounds o v=c:=by
       obtain⟨h3,h4⟩:=Array.getElem?_eq_some_iff.1 U;refine Array.ext_getElem? fun j=>?_
       rw[Array.getElem?_setIfInBounds];by_cases Z:o=j
       ·subst Z;rw[if_pos rfl,if_pos h3,U]
       ·rw[if_neg Z]
      show Obj.cells (c.setIfInBounds o v) t f=_;rw[hs]
     |_=>rfl
    have:=hf _ rfl;simp only[ax,Array.getElem?_modify,O,if_true,Option.map_some];exact congrArg aa this
   ·exact az w _ v i e
  have a1:=ah h1;have a2:=ah J;rw[a1,a2]at K;exact ag K
 cases w;unfold ax at I ⊢;simp only at I ⊢;rw[I]
variable {X:aE} {w w':World} {B h:Nat} {S S0:Nat->Prop} {a:Za} {P F T:J0} {asks:BA} {cv:ae} {aw:BA} {m:Option Nat} {D:bf ae} {row:BA->ae}
theorem uF {F:List BA}(I:Nat)(J:ZC w b F D row)(c9:w.cell? ⟨h,9,N⟩=aa (.map (aa b)))(O:w.cell? ⟨h,8,N⟩=aa (.int .i64 (I:Int))):an prog 132 #[.pointer (aa ⟨h,0,N⟩)] w fun e w'=>e=.returned (.bool (decide (I<=F.length)))/\ac w.heap.size w w':=by
 have K:∀n H,(Builtin.len_ #[122] H #[.map (aa b)]).run prog (w.drewN n)=.ok (.int .i64 (F.length:Nat)) (w.drewN n):=fun n H=>(J.same (w':=w.drewN n) rfl).len H
 clear J;go_enter func132,ntmps132;go_wp2;go_quiet (fail)
 go_wp2;go_ret;exact⟨rfl,af bR _⟩
theorem VF (w:World):an prog 69 #[.slice N 0 0] w fun e w'=>e=.returned (.slice N 0 0)/\w'=w:=by
 have H:∀W,Sem.run prog (binOp .eql 88 (.slice N 0 0) (.slice N 0 0)) W=.ok (.bool ao) W:=fun W=>by kernel_rfl
 go_enter func69,ntmps69;go_wp2;go_ret;exact⟨rfl,rfl⟩
theorem V8 (ad:bg)(c:Nat)(w:World):an prog 69 #[.slice (aa ad) 0 c] w fun e w'=>(∃H,e=.returned H/\Zc Ze 142 w' w.heap.size H [])/\ac w.heap.size w w':=by
 have I:∀W,Sem.run prog (binOp .eql 88 (.slice (aa ad) 0 c) (.slice N 0 0)) W=.ok (.bool aj) W:=fun W=>by kernel_rfl
 go_enter func69,ntmps69;go_wp2;go_ret;refine⟨⟨_,rfl,rfl,ap ⟨w.z,0,#[],rfl,aC _,?_,aC _,by unfold aB;omega,rfl,rfl⟩⟩,bR.alloc nR _⟩;show(w.heap.push _)[w.z]?=_;simp
theorem IQ (q:Option bg)(l:List Yb)(c:Nat)(w:World)(hr:Ql Ze w q l)(hq:q=N->l=[]/\c=0)(hl:l.length<=1000):an prog 69 #[.slice q l.length c] w fun e w'=>(∃J,e=.returned J/\Zc Ze 142 w' w.heap.size J l)/\ac w.heap.size w w':=by
 cases q with
 |none =>
  obtain⟨I,K⟩:=hq rfl;subst I K;exact(VF w).mono fun e w' H=>⟨⟨_,H.1,Zc.nil _ _ _⟩,by rw[H.2];exact aq _ _⟩
 |some ad =>
  by_cases O:l=[]
  ·subst O;exact(V8 ad c w).mono fun e w' H=>⟨H.1,H.2⟩
  ·rcases hr with I|⟨b,o,H,a6,Z⟩
   ·exact absurd I O
   obtain rfl:ad=(pA b o):=ag H;obtain⟨i0,a0,a2,a3,a4⟩:=info_parts qS;have a5:∀j u,(Qb Ze l)[j]?=aa u->w.cell? (pA b (o+j))=aa u:=fun j u hj=>by
    have:=Ql.cells (E:=Ze) Z j u hj;by_cases U:j=0
    ·subst U;simpa[Addr.add]using this
    ·simpa[Addr.add,U]using this
   exact(slices_Clone i0 _ 5 48 a0 a2 a3 a4 rfl (by decide) (fun W=>by kernel_rfl) b o l.length c (Qb Ze l) w (Qr Ze l) (by unfold aB;omega) (by omega) a5 (Zz Ze l)).mono fun e w' ⟨J,I,K,_,h4⟩=>⟨⟨J,I,K⟩,h4⟩
theorem GH {n:Nat}(K:BA)(q:Option bg)(l:List Yb)(c:Nat)(e8:h<w.heap.size)(c9:w.cell? ⟨h,9,N⟩=aa (.map (aa b)))(a9:QX w b n D)(hn:n<aB)(hf:K.size<=1000000)(hr:Ql Ze w q l)(hq:q=N->l=[]/\c=0)(hl:l.length<=1000)(d1:∀v∈l,v.text.size<=1000000):
 an prog 131 #[.pointer (aa ⟨h,0,N⟩),.string K,.slice q l.length c] w fun e w'=>e=.returned (.tuple #[])/\∃v' H,Zc Ze 142 H w.heap.size v' l/\ac w.heap.size w H/\jA H w' b D K v':=by
 have b0:=IQ q l c w hr hq hl;have HQ:Hid (∀W,ac w.heap.size w W->W.cell? (pA h 9)=aa (.map (aa b))):=fun W I=>(I.cell (p:=(pA h 9)) e8).trans c9
 have d2:=World.ownsMap.lt a9;have b1:Hid (∀O,ac w.heap.size w O->∀v W,ac O.heap.size O W->∃w',(bc 122 (.map (aa b)) (.string K) v).run prog W=.ok () w'/\jA O w' b D K v):=fun O d3 v W I=>zC (a9.same (d3.block b d2)) hn (by unfold aB;omega) I
 have a3:Hid (∀s:BA,s.size<=1000000->∀W,an prog 19 #[.string s] W fun e w'=>e=.returned (.string s)/\ac W.heap.size W w'):=fun s hs W=>Xs s W (by omega)
 have d4:Hid _:=d1;clear a9 hr hq d1 c9;go_enter func131,ntmps131;go_wp2_with fail
 refine b0.mono ?_;rintro e H ⟨⟨v1,rfl,a4⟩,b2⟩;obtain⟨U,c1,d5,b3,_,_,_⟩:=a4.form;subst d5;have b4:Hid _:=a4;have d6:Hid (Ql Ze H U l):=b3;have Z:Hid _:=b2;clear a4 b3 b2 b0;go_wp2;go_loopw [12] (fun x wr=>∃i:Nat,i<=l.length/\x=.int .i64 i/\ac H.heap.size H wr) (fun x _=>l.length-(intOf x).toNat)
 case atStart=>exact⟨0,zk _,rfl,aq _ _⟩
 case round =>
  obtain⟨i,hi,rfl,hB⟩:=hrel;obtain⟨J,rfl⟩:=Xb wr;have HB:Hid _:=hB;by_cases b5:i<l.length
  ·obtain⟨vb,vo,a5,d7,v0,v1,v2,v3,v4⟩:=QU (d6.out.below hB) b5;have d8:=d4.out _ (List.mem_of_getElem? (Xx b5));have a0:=a3.out _ d8 J;obtain⟨g,cap,a2,b6,d9,b7⟩:∃g cap a2,Value.slice U l.length c1=.slice (aa (pA g 0)) l.length cap/\g<H.heap.size/\H.heap[g]?=aa (.cells a2 142 (0,0)):=by
    rcases b4.out.2 with⟨h1,h2⟩|⟨g,cap,a2,h1,h2,h3,_⟩
    ·omega
    ·refine⟨g,cap,a2,h1,?_,h3⟩;rcases za g H.heap.size with h'|h'
     ·exact h'
     ·rw[ar h']at h3;cases h3
   have b8:U=aa (pA g 0):=by injection b6
   rw[b8]at a5;obtain⟨rfl,rfl⟩:g=vb/\0=vo:=by injection a5 with h1;injection h1 with h2 h3;exact⟨h2,h3⟩
   rw[Nat.zero_add]at v4;have c8:∀W,ac H.heap.size H W->∀o,W.frozen? (pA g o)=false:=fun W I o=>by simp[bi,(I.block g d9).trans b7]
   have e0:Hid _:=c8;subst b8;clear b6 b7 v0 v1 v2 v3 hB a5 c8;generalize (Xd l i).text=tx at *;go_wp2_with fail
   refine a0.mono ?_;rintro e w3 ⟨rfl,a6⟩;have a7:=HB.out.trans (a6.mono HB.out.size);have e1:Hid _:=a7;have k4:=(a6.cell (p:=(pA g (i*5+4))) d7).trans v4;have f4:=e0.out w3 a7 (i*5+4);have e2:Hid _:=Yo k4;clear a6 a7 a0 v4;go_wp2_with (rw[e2.out])
   go_roundw
   case rel=>exact⟨i+1,by omega,by go_num,e1.out⟩
   case measure=>simp[intOf];omega
  ·have e3:=HQ.out J (Z.out.trans (hB.mono Z.out.size));have e4:Hid (∀W,ac J.heap.size J W->W.cell? (pA h 9)=aa (.map (aa b))):=fun W I=>(I.cell (p:=(pA h 9)) (by have:=HB.out.size;have:=Z.out.size;show h<J.heap.size;omega)).trans e3
   have e5:Hid (∀W,ac J.heap.size J W->∃w',(bc 122 (.map (aa b)) (.string K) (.slice U l.length c1)).run prog W=.ok () w'/\jA H w' b D K (.slice U l.length c1)):=fun W I=>b1.out H Z.out _ W (HB.out.trans (I.mono HB.out.size))
   have a0:=a3.out _ hf;have e6:Hid _:=a0;clear hB b1 a0 a3 HQ;go_wp2;go_region_with (go_at_call 19;refine(e6.out _).mono ?_;rintro e w5 ⟨rfl,d0⟩;have a8:=xB d0;have q5:=e4.out w5 a8;obtain⟨w9,e9,e7⟩:=e5.out w5 a8;clear d0 a8)
   all_goals
    go_wp2
    go_end0
    exact⟨rfl,_,H,b4.out,Z.out,e7⟩
theorem M1 (U:JF X w B h S S0 a P F T asks cv aw m D row)(a5:a.first):an prog 133 #[.pointer (aa ⟨h,0,N⟩)] w fun e w'=>(∃p c,e=.returned (.slice p (Yt a a.c.L).length c)/\eU w' p (Yt a a.c.L))/\ac w.heap.size w w':=by
 obtain⟨i0,d1,d2,d3,d4⟩:=info_parts VU;obtain⟨b,d5,_,_,hH⟩:=U.open_ (ai a5);subst d5;obtain⟨a6,a7,_⟩:=U.here (ai a5);obtain⟨mp,mc,a3,a4,_,_,_⟩:=a6.mem;rw[a7]at a3 a4;obtain⟨⟨_,_,f3⟩,f4,_,a8,_⟩:=Xm U.aN.cfg;have f5:a.c.L.length<=12:=by omega
 have d6:Hid (∀W,ac w.heap.size w W->Strs W mp a.c.L):=fun W I=>a4.below I
 have d7:Hid (∀W,ac w.heap.size w W->W.cell? (pA h 9)=aa (.map (aa b))):=fun W I=>(U.below I).cell 9
 have c5:w.cell? (pA h 5)=aa (.slice mp a.c.L.length mc):=by rw[<-a3];exact U.cell 5
 have a9:Hid (∀i,i<a.c.L.length->∃q c,(∀W,ac w.heap.size w W->(aA 122 (.map (aa b)) (.string (Yc a.c.L i)) aj).run prog W=.ok (.slice q (if Xu a.from_ (Yc a.c.L i)then QK a (Yc a.c.L i)else []).length c) W)/\Ql Ze w q (if Xu a.from_ (Yc a.c.L i)then QK a (Yc a.c.L i)else [])/\(if Xu a.from_ (Yc a.c.L i)then QK a (Yc a.c.L i)else []).length<=c/\(q=N->(if Xu a.from_ (Yc a.c.L i)then QK a (Yc a.c.L i)else [])=[]/\c=0)):=fun i K=>by
  have d8:(Yc a.c.L i).size<=maxLen:=by
   rw[Xk _ _ K];have:=QF (a8 _ (aW K));unfold aB;omega
  have a0:∀W,ac w.heap.size w W->_:=fun W I=>(hH.same (I.block b (by obtain⟨n,hn⟩:=hH.own;exact World.ownsMap.lt hn))).look d8
  by_cases H:Xu a.from_ (Yc a.c.L i)=ao
  ·obtain⟨q,c,h1,h2,h3,h4,_⟩:=U.stat.rows a5 _ (Zl.1 H);refine⟨q,c,fun W I=>?_,?_,?_,?_⟩
   ·rw[a0 W I,if_pos H,if_pos H,h1]
   ·rw[if_pos H];exact h2
   ·rw[if_pos H];exact h3
   ·rw[if_pos H];exact h4
  ·refine⟨N,0,fun W I=>?_,?_,?_,?_⟩
   ·rw[a0 W I,if_neg H,if_neg H];rfl
   ·rw[if_neg H];exact Ql.nil _ _
   ·rw[if_neg H];exact aC _
   ·rw[if_neg H];exact fun _=>⟨rfl,rfl⟩
 have b0:Hid (∀i,i<a.c.L.length->Yt a (a.c.L.take (i+1))=Yt a (a.c.L.take i)++ [if Xu a.from_ (Yc a.c.L i)then QK a (Yc a.c.L i)else []]):=fun i K=>NH K
 have e0:Hid (∀i,(Yt a (a.c.L.take i)).length<=12):=fun i=>by unfold Yt;rw[List.length_map,List.length_take];omega
 clear U a4 hH a8 a6 a7 a3;go_enter func133,ntmps133;go_wp2;go_loopw [3,13] (fun v x wr=>∃i:Nat,i<=a.c.L.length/\x=.int .i64 i/\(∃J,JM wr w.heap.size 88 v J/\lT w J (Yt a (a.c.L.take i)))/\ac w.heap.size w wr) (fun _ x _=>a.c.L.length-(intOf x).toNat)
 case atStart=>exact⟨0,zk _,rfl,⟨[],JM.nil _ _ _,rfl,fun i K=>absurd K (ba _)⟩,aq _ _⟩
 case round =>
  obtain⟨i,K,rfl,⟨J,hO,O⟩,hB⟩:=hrel;obtain⟨Z,rfl⟩:=Xb wr;obtain⟨v,rfl⟩:=Xb u3;have HO:Hid (JM Z w.heap.size 88 v J):=hO;have e1:Hid _:=O;have HB:Hid _:=hB;have f6:J.length<=12:=by rw[O.1];exact e0.out i
  have e2:=hB.size;by_cases a2:i<a.c.L.length
  ·rcases d6.out Z hB with h0|⟨bs,os,e3,f7,b1⟩
   ·rw[h0]at a2;exact absurd a2 (ba _)
   have q1:=b1 i a2;obtain⟨rq,rc,a0,b2,b3,b4⟩:=a9.out i a2;have e4:Hid (Yt a (a.c.L.take (i+1))=Yt a (a.c.L.take i)++ [if Xu a.from_ (Yc a.c.L i)then QK a (Yc a.c.L i)else []]):=b0.out i a2;have d9:=d7.out Z hB;have f8:=a0 Z hB;have e5:Hid (lT w (J++ [.slice rq (if Xu a.from_ (Yc a.c.L i)then QK a (Yc a.c.L i)else []).length rc]) (Yt a (a.c.L.take i)++ [if Xu a.from_ (Yc a.c.L i)then QK a (Yc a.c.L i)else []])):=O.snoc b2 b3 b4;subst e3;clear b1 a0 b2 b3 b4 hO O hB a9 b0;generalize (if Xu a.from_ (Yc a.c.L i)then QK a (Yc a.c.L i)else [])=b5 at *;generalize Yc a.c.L i=t at *;go_wp2_with (at_builtin;refine yL rfl (.tmp 17) (.tmp 24) 152 rfl w.heap.size 88 i0 (.slice N 0 0) 24 underlying152 d1 d2 rfl d3 d4 (by decide) v J rfl (JM.kept (row:=N) HO.out ⟨rfl,rfl,rfl,by simp,fun k hk _=>Below.heap_alloc _ _ k hk⟩ (by cases v.ownBlock<;>simp)) (pA Z.heap.size 0) 1 (.slice rq b5.length rc) rfl rfl (by rw[zg _ _ _ _ rfl];rfl) (by omega) (by simp;omega) ?_;intro v4 w4 b6 b7 _)
   have e6:Hid (JM w4 w.heap.size 88 v4 (J++ [.slice rq b5.length rc])):=b6;have e7:Hid (ac w.heap.size w w4):=(HB.out.alloc e2 _).grown b7 (by simp;omega) (fun k hk=>(HO.out.block hk).1);clear b6 b7;go_wp2;go_roundw
   case rel=>exact⟨i+1,by omega,by go_num,⟨_,e6.out,by rw[e4.out];exact e5.out⟩,e7.out⟩
   case measure=>simp[intOf];omega
  ·have b8:a.c.L.take i=a.c.L:=List.take_of_length_le (by omega);have c8:lT w J (Yt a a.c.L):=by rw[b8]at O;exact O
   obtain⟨pw,cw,e8,d0⟩:=c8.wO hB hO;subst e8;have e9:Hid (eU Z pw (Yt a a.c.L)):=d0;clear b8 d0 HO e1 c8 hO O hB;go_wp2;go_ret;exact⟨⟨pw,cw,rfl,e9.out⟩,HB.out⟩
end
section
theorem Z9 {a:Za}(h:a.aM m=ao):(a.first∨a.st=.keeping)/\m.from_∈a.c.L/\m.from_∉a.from_:=by
 unfold Za.aM at h;rw[aY,aY]at h;obtain⟨J,K,I⟩:=h;refine⟨?_,Zl.1 K,fun O=>by rw[Zl.2 O]at I;cases I⟩;have H:=(of_decide_eq_true J).1;unfold Za.first;cases e:a.st with
 |looking=>exact ai (ai rfl)
 |sealing=>exact ai (ap rfl)
 |keeping=>exact ap rfl
 |done=>rw[e]at H;exact absurd rfl H
 |refused=>rw[e]at H;exact absurd rfl H
theorem QN.heard {a:Za}(h:QN a)(U:a.aM m=ao)(Z:∀v∈m.L,Jt v):QN (a.heard m):=by
 obtain⟨_,J,K⟩:=Z9 U;refine⟨h.cfg,h.key,h.name,h.text,h.still,h.aI,?_,?_,?_,h.aS,?_⟩
 ·show(a.from_++ [m.from_]).Nodup;rw[List.nodup_append];exact⟨h.nodup,by simp,fun x H y O=>by rw[al.1 O];intro e;exact K (e▸H)⟩
 ·intro x H;rcases ay.1 H with H|H
  ·exact h.sub x H
  ·rw[al.1 H];exact J
 ·show(a.from_++ [m.from_]).length=(a.L++ [m.L]).length;simp[h.both]
 ·intro l I;rcases ay.1 I with I|I
  ·exact h.cM l I
  ·rw[al.1 I];exact Z
theorem V7 {a:Za}(h:QN a):a.aF.text.size<=1000:=by
 unfold Za.aF;split
 ·exact h.text
 ·obtain⟨⟨H,_,_⟩,_⟩:=Xm h.cfg;exact y9 (by omega) _ _ (by decide)
theorem QN.ended {a:Za}(h:QN a){st:St}(H:st=.done∨st=.refused):QN {a with st:=st}:=⟨h.cfg,h.key,h.name,h.text,(by intro _ e;rcases H with H|H<;>rw[H]at e<;>cases e),(by intro _ e;rcases H with H|H<;>rw[H]at e<;>cases e),h.nodup,h.sub,h.both,(fun e=>by rcases H with H|H<;>rw[H]at e<;>cases e),h.cM⟩
theorem mT {a:Za}(h:a.first):a.st≠.keeping/\a.st≠.done/\a.st≠.refused:=by
 rcases h with h|h<;>rw[h]<;>exact⟨(fun e=>by cases e),(fun e=>by cases e),(fun e=>by cases e)⟩
theorem QN.found {a:Za}(h:QN a)(a0:a.first):QN a.aF:=by
 obtain⟨J,U,Z,K,_,_,_,H,I,O,_⟩:=YE a;exact⟨by rw[J];exact h.cfg,by rw[U];exact h.key,by rw[Z];exact h.name,V7 h,by rw[K,H];exact h.still,by rw[K,H];exact h.aI,by rw[I];exact h.nodup,by rw[I,J];exact h.sub,by rw[I,O];exact h.both,(fun e=>by rw[H]at e;exact absurd e (mT a0).1),by rw[O];exact h.cM⟩
theorem Q2 (a:Za):a.keeps.name=a.name/\a.keeps.key=a.key/\a.keeps.op=a.op/\a.keeps.text=a.text/\a.keeps.aI=a.aI/\a.keeps.st=.keeping/\a.keeps.from_=[]/\a.keeps.L=[]/\a.keeps.found=a.found/\a.keeps.tag=a.tag:=by
 unfold Za.keeps;split<;>exact⟨rfl,rfl,rfl,rfl,rfl,rfl,rfl,rfl,rfl,rfl⟩
theorem Zw (a:Za):a.keeps.c=(if a.aI=ao then a.next else a.c)/\a.keeps.config=(if a.aI=ao then a.config+1 else a.config):=by
 unfold Za.keeps;by_cases h:a.aI=ao
 ·rw[if_pos h,if_pos h,if_pos h];exact⟨rfl,rfl⟩
 ·rw[if_neg h,if_neg h,if_neg h];exact⟨rfl,rfl⟩
theorem QN.keeps {a:Za}(h:QN a)(hf:a.found=ao)(hc:¬0<(Jg a.keeps.c).1):QN a.keeps:=by
 obtain⟨U,Z,_,e4,_,I,H,J,e9,_⟩:=Q2 a;exact⟨hc,by rw[Z];exact h.key,by rw[U];exact h.name,by rw[e4];exact h.text,(fun _ e=>by rw[I]at e;cases e),(fun _ e=>by rw[I]at e;cases e),by rw[H];exact List.nodup_nil,(fun x K=>by rw[H]at K;cases K),by rw[H,J];rfl,(fun _=>by rw[e9];exact hf),(fun l O=>by rw[J]at O;cases O)⟩
theorem JlY (a:Za):a.aF.keeps.c=a.keeps.c/\a.aF.keeps.config=a.keeps.config:=by
 obtain⟨H,_,_,I,_,_,J,_⟩:=YE a;rw[(Zw a).1,(Zw a).2,(Zw a.aF).1,(Zw a.aF).2,H,I,J,IV];exact⟨rfl,rfl⟩
variable {X:aE} {w w':World} {B h:Nat} {S S0:Nat->Prop} {a:Za} {P F T:J0} {asks:BA} {cv:ae} {aw:BA} {m:Option Nat} {D:bf ae} {row:BA->ae}
theorem l6.shut {a':Za}{J:BA->ae}(H:l6 w S0 a F T cv row)(I:¬a'.first):l6 w S0 a' F T cv' J:=⟨H.fr,H.aP,fun e=>absurd e I,fun e=>absurd e I,H.lt⟩
theorem JF.ended {a':Za}(H:JF X w B h S S0 a P F T asks cv aw m D row)(K:YB X h (JG a' P aw (Jh P.c) (.map N) F T asks cv') w w')(hc:a'.c=a.c)(a2:a'.config=a.config)(Z:a'.aI=a.aI)(O:QN a')(hs:a'.st=.done∨a'.st=.refused):ZR X w' B h S a':=by
 have J:¬a'.first:=fun O=>by have:=mT O;rcases hs with e|e;exact this.2.1 e;exact this.2.2 e
 have U:a'.st≠.keeping:=by rcases hs with e|e<;>rw[e]<;>intro e'<;>cases e'
 have a0:=H.stat.aS K.size (fun k I=>K.cW k (H.stat.lt k I) (H.s0 k I).2.1);exact⟨S0,P,F,T,asks,cv',aw,N,D,row,K.blk,H.self,fun k I=>⟨(H.aO k I).1,ab (H.aO k I).2 K.size⟩,a0.shut J,fun k I=>⟨(H.s0 k I).1,(H.s0 k I).2.1,fun e=>by cases e⟩,O,⟨fun e=>absurd e J,fun e=>absurd e U,fun e=>by rw[hc,a2];exact H.fF.sJ (Z▸e),by rw[Z];exact H.fF.kind⟩,(fun e=>by rcases e with e|e;exact absurd e J;exact absurd e U),(fun _=>rfl),(fun e=>by rcases e with e|e;exact absurd e J;exact absurd e U)⟩
theorem JF.kept {a':Za}{mb:Nat}(H:JF X w B h S S0 a P F T asks cv aw m D row)(J:YB X h (JG a' T iS (Jh T.c) (.map (aa mb)) F T asks cv') w w')(hT:T.c=a'.c/\T.num=a'.config)(hb:a'.aI=aj->F.c=a'.c/\F.num=a'.config)(hm:a'.aI=a.aI)(K:QN a')(U:a'.st=.keeping)(hn:a'.from_=[])(a5:w.heap.size<=mb)(Z:w'.heap[mb]?=aa (.map #[] 0)):∃a2 D',JF X w' B h (fun k=>S k∨k=mb) S0 a' T F T asks cv' iS (aa mb) D' a2:=by
 have a0:¬a'.first:=fun K=>(mT K).1 U
 have a3:=H.stat.aS J.size (fun k I=>J.cW k (H.stat.lt k I) (H.s0 k I).2.1);have a4:mb<w'.heap.size:=by
  rcases za mb w'.heap.size with O|O
  ·exact O
  ·rw[ar O]at Z;cases Z
 have hB:B<=mb:=am (H.aO h H.self).1 (am (bk H.lt) a5);refine⟨fun _=>.slice N 0 0,.map [],J.blk,ai H.self,?_,a3.shut a0,fun k I=>⟨ai (H.s0 k I).1,(H.s0 k I).2.1,fun e=>?_⟩,K,⟨fun e=>absurd e a0,fun _=>⟨rfl,hT.1,hT.2⟩,hb,by rw[hm];exact H.fF.kind⟩,fun _=>⟨mb,rfl,ap rfl,?_,?_⟩,(fun e=>by rw[U]at e;rcases e with e|e<;>cases e),(fun _=>by rw[U];rfl)⟩
 ·rintro k (I|rfl)
  ·exact⟨(H.aO k I).1,ab (H.aO k I).2 J.size⟩
  ·exact⟨hB,a4⟩
 ·have:=H.stat.lt k I;have:=ag e;omega
 ·have:=H.lt;omega
 ·rw[hn];exact ZC.made _ Z
theorem JF.heard {J:Zb}{l:List Yb}{O:ae}{w1:World}(I:JF X w B h S S0 a P F T asks cv aw (aa b) D row)(ht:a.aM J=ao)(hv:∀v∈J.L,Jt v)(hl:a.first->l=J.L)(b5:J.from_.size<=aB)
 (ho:Zc Ze 142 w1 w.heap.size O l) (hb:ac w.heap.size w w1) (hs:jA w1 w' b D J.from_ O):
 ∃S1 a9 D' b0,JF X w' B h S1 a9 (a.heard J) P F T asks cv aw (aa b) D' b0/\Yd S S1 w w':=by
 obtain⟨h1,h2,h3⟩:=Z9 ht;obtain⟨U,b1,a4,a7,hH⟩:=I.open_ h1;obtain rfl:b=U:=ag b1;have K:=hs.grown;have b6:=(I.aO b a4).2;have a5:=am hb.size K.size;have a6:∀k,k<w.heap.size->k≠b->w'.heap[k]?=w.heap[k]?:=fun k H b2=>(K.block k (ab H hb.size) (fun e=>b2 (ag e))).trans (hb.block k H)
 have a2:∀k,O.ownBlock=aa k->w.heap.size<=k/\k<w1.heap.size:=fun k H=>ho.block H
 have b7:=am (I.aO h I.self).1 (bk I.lt);have b3:∀k,S0 k->w'.heap[k]?=w.heap[k]?:=fun k H=>a6 k (I.stat.lt k H) (fun e=>(I.s0 k H).2.2 (by rw[e]))
 have a0:=I.stat.aS a5 b3;have b4:B6 (a.heard J) P F T asks:=⟨fun e=>by
  obtain⟨Z,g2,g3,g4,g5⟩:=I.fF.rC e;refine⟨Z,g2,g3,?_,?_⟩
  ·rw[g4,(Zw a).1,(Zw (a.heard J)).1];rfl
  ·rw[g5,(Zw a).2,(Zw (a.heard J)).2];rfl,I.fF.yR,I.fF.sJ,I.fF.kind⟩
 refine⟨fun k=>S k∨O.ownBlock=aa k,fun k=>S0 k∨O.ownBlock=aa k,D.put (Xv J.from_) (.held O),fun y=>if y=J.from_ then O else row y,⟨?_,ai I.self,?_,⟨a0.fr.more (fun _=>ai),a0.aP.more (fun _=>ai),fun a3=>(a0.ch a3).more (fun _=>ai),fun a3 x hx=>?_,?_⟩,?_,I.aN.heard ht hv,b4,fun _=>⟨b,rfl,ai a4,a7,?_⟩,I.shut,I.rY⟩,⟨K.os.trans hb.os,K.tape.trans hb.tape,K.output.trans hb.output,a5,?_,?_⟩⟩
 ·rw[a6 h I.lt (fun e=>a7 e.symm)];exact I.blk
 ·rintro k (H|H)
  ·exact⟨(I.aO k H).1,ab (I.aO k H).2 a5⟩
  ·have:=a2 k H;exact⟨by omega,ab this.2 K.size⟩
 ·by_cases e:x=J.from_
  ·subst e;rw[if_pos rfl,JrX I.aN.both h3,<-hl a3];obtain⟨q,c,Z,g2,g3,g4,g5⟩:=ho.form;refine⟨q,c,Z,g2.sameAt K.size fun U o' e'=>?_,g3,g4,fun U o' e'=>ap (by rw[Z,e'];rfl)⟩;exact K.block U (g5 U o' e').2 (fun e2=>by have:=(g5 U o' e').1;have:=ag e2;omega)
  ·have a8:x∈a.from_:=by
    rcases ay.1 hx with hx|hx
    ·exact hx
    ·exact absurd (al.1 hx) e
   rw[if_neg e,JrW I.aN.both a8];obtain⟨q,c,Z,g2,g3,g4,g5⟩:=a0.rows a3 x a8;exact⟨q,c,Z,g2,g3,g4,fun b o e=>ai (g5 b o e)⟩
 ·rintro k (H|H)
  ·exact a0.lt k H
  ·exact ab (a2 k H).2 K.size
 ·rintro k (H|H)
  ·exact⟨ai (I.s0 k H).1,(I.s0 k H).2⟩
  ·have:=a2 k H;have:=I.lt;exact⟨ap H,by omega,fun e=>by have:=ag e;omega⟩
 ·exact hH.put b5 h3 O hs.own
 ·intro k H hn;exact a6 k H (fun e=>hn (by rw[e];exact a4))
 ·rintro k (H|H)
  ·exact ai H
  ·exact ap (a2 k H).1
end
section
theorem OK (a:Za)(m:Zb)(h:a.st.waits≠⟨#[]⟩):a.aM m=(decide (m.aP=a.name/\m.kind=a.st.waits/\m.key=a.key/\m.op=a.op/\m.config=a.config)&&(Xu a.c.L m.from_&&!Xu a.from_ m.from_)):=by
 unfold Za.aM
 congr 1
 exact decide_eq_decide.2 ⟨fun g=>⟨g.2.2.1,g.2.1,g.2.2.2.1,g.2.2.2.2.1,g.2.2.2.2.2⟩,fun g=>⟨h,g.2.1,g.1,g.2.2.1,g.2.2.2.1,g.2.2.2.2⟩⟩
variable {X:aE} {w w':World} {B h:Nat} {S S0:Nat->Prop} {a:Za} {P F T:J0} {asks:BA} {cv:ae} {aw:BA} {m:Option Nat} {D:bf ae} {row:BA->ae}
theorem N0 (hp:JF X w B h S S0 a P F T asks cv aw m D row)(x:Zb×Lv)(e9:x.1.from_.size<=aB):an prog 105 #[.pointer (aa ⟨h,0,N⟩),.agg #[.string x.1.from_,.string x.1.aP,.string x.1.kind,.string x.1.key,.int .i64 x.1.op,.int .i64 x.1.config,.bool x.1.shut,.slice x.2.1 x.2.2.1 x.2.2.2]] w fun e w'=>e=.returned (.bool (a.aM x.1))/\ac w.heap.size w w':=by
 have f8:a.c.L.length<=1000:=by
  obtain⟨⟨_,_,h3⟩,h4,_⟩:=Xm hp.aN.cfg;omega
 have b6:Hid (a.st.waits≠⟨#[]⟩->a.aM x.1=(decide (x.1.aP=a.name/\x.1.kind=a.st.waits/\x.1.key=a.key/\x.1.op=a.op/\x.1.config=a.config)&&(Xu a.c.L x.1.from_&&!Xu a.from_ x.1.from_))):=fun hw=>OK a x.1 hw
 obtain⟨⟨m1,m2,m3,m4,m5,m6,m7,mL⟩,lp,ln,lc⟩:=x;dsimp only at *;obtain⟨H,a0⟩:=Xb (w.alloc (.cells #[.string m1,.string m2,.string m3,.string m4,.int .i64 m5,.int .i64 m6,.bool m7,.slice lp ln lc] 90));have b2:=Zk a0;have K:=hp.below b2;have c0:H.cell? ⟨h,0,N⟩=aa (.string a.name):=K.cell 0;have c1:H.cell? ⟨h,1,N⟩=aa (.string a.key):=K.cell 1;have c2:H.cell? ⟨h,2,N⟩=aa (.int .i64 a.op):=K.cell 2;have c8:H.cell? ⟨h,7,N⟩=aa (.string aw):=K.cell 7;have c9:H.cell? ⟨h,9,N⟩=aa (.map m):=K.cell 9;have d0:H.cell? ⟨w.heap.size,0,N⟩=aa (.string m1):=XX a0 rfl;have d1:H.cell? ⟨w.heap.size,1,N⟩=aa (.string m2):=XX a0 rfl;have d2:H.cell? ⟨w.heap.size,2,N⟩=aa (.string m3):=XX a0 rfl;have d3:H.cell? ⟨w.heap.size,3,N⟩=aa (.string m4):=XX a0 rfl;have d4:H.cell? ⟨w.heap.size,4,N⟩=aa (.int .i64 m5):=XX a0 rfl;have d5:H.cell? ⟨w.heap.size,5,N⟩=aa (.int .i64 m6):=XX a0 rfl;have a4:Hid (H=w.alloc (.cells #[.string m1,.string m2,.string m3,.string m4,.int .i64 m5,.int .i64 m6,.bool m7,.slice lp ln lc] 90)):=a0;have a2:Hid (ac w.heap.size w H):=b2;by_cases U:a.first∨a.st=.keeping
 ·obtain⟨e1,e2,e3⟩:=K.here U;obtain⟨mp,mc,b7,b8,_,_,_⟩:=e1.mem;rw[e2]at b7 b8;have c3:H.cell? ⟨h,6,N⟩=aa (.int .i64 a.config):=by rw[<-e3];exact K.cell 6
  have c6:H.cell? ⟨h,5,N⟩=aa (.slice mp a.c.L.length mc):=by rw[<-b7];exact K.cell 5
  have a6:Hid (∀W,ac H.heap.size H W->an prog 51 #[.slice mp a.c.L.length mc,.string m1] W fun e w'=>e=.returned (.bool (Xu a.c.L m1))/\w'=W):=fun W hW=>vN mp a.c.L mc m1 W (by omega) (b8.below hW)
  obtain⟨b,f3,_,_,hH⟩:=K.open_ U;subst f3;have e4:a.st.waits=aw:=(K.rY U).symm;have e5:a.st.waits≠⟨#[]⟩:=by
   rcases U with(e|e)|e<;>rw[e]<;>decide +kernel
  have d6:=b6.out e5;rw[e4]at d6;obtain⟨d7,e6⟩:=Xb ((if Xu a.from_ m1 then row m1 else .slice N 0 0));have a5:Hid (∀W:World,W.heap[b]?=H.heap[b]?->(aA 122 (.map (aa b)) (.string m1) ao).run prog W=.ok (.tuple #[d7,.bool (Xu a.from_ m1)]) W):=fun W hW=>by rw[e6];exact(hH.same hW).pY e9
  have Z:Hid (a.aM ⟨m1,m2,m3,m4,m5,m6,m7,mL⟩=(decide (m2=a.name/\m3=aw/\m4=a.key/\m5=a.op/\m6=a.config)&&(Xu a.c.L m1&&!Xu a.from_ m1))):=d6;have f4:=FI b;clear hp K b8 b2 a0 b6 d6 e4 e5 U hH e6 e9 e1 e2 e3 b7;generalize a.aM ⟨m1,m2,m3,m4,m5,m6,m7,mL⟩=R at *;generalize a.name=nm at *;generalize a.key=ky at *;generalize a.op=e7 at *;generalize a.config=e8 at *;by_cases g1:m2=nm
  ·subst g1;by_cases g2:m3=aw
   ·subst g2;by_cases g3:m4=ky
    ·subst g3;by_cases g4:m5=e7
     ·subst g4;by_cases g5:m6=e8
      ·subst g5;have J:Hid (R=(Xu a.c.L m1&&!Xu a.from_ m1)):=by show _=_;rw[Z.out,decide_eq_true ⟨rfl,rfl,rfl,rfl,rfl⟩,Bool.true_and]
       clear Z;generalize Xu a.c.L m1=q1 at *;generalize Xu a.from_ m1=q2 at *;cases q2 with
       |true =>
        go_enter func105,ntmps105;go_wp2;rw[<-a4.out];go_quiet (fail)
        generalize O:zf H _=I;have a7:I.cell? ⟨h,5,N⟩=aa (.slice mp a.c.L.length mc):=by rw[<-O];exact c6
        have d8:I.cell? ⟨h,9,N⟩=aa (.map (aa b)):=by rw[<-O];exact c9
        have a8:I.cell? ⟨w.heap.size,0,N⟩=aa (.string m1):=by rw[<-O];exact d0
        have a9:ac H.heap.size H I:=by rw[<-O];exact af bR _
        have b0:Hid (ac H.heap.size H I):=a9;have b1:I.heap=H.heap:=by rw[<-O];rfl
        have d9:∀n,(aA 122 (.map (aa b)) (.string m1) ao).run prog (I.drewN n)=.ok (.tuple #[d7,.bool ao]) (I.drewN n):=fun n=>a5.out (I.drewN n) (by show I.heap[b]?=_;rw[b1])
        clear O c0 c1 c2 c3 c6 c8 c9 d0 d1 d2 d3 d4 d5 a9 b1;go_wp2;go_quiet (fail)
        generalize a3:zf I _=wr;have f5:wr.cell? ⟨h,5,N⟩=aa (.slice mp a.c.L.length mc):=by rw[<-a3];exact a7
        have f6:wr.cell? ⟨w.heap.size,0,N⟩=aa (.string m1):=by rw[<-a3];exact a8
        have b3:ac H.heap.size H wr:=by rw[<-a3];exact af b0.out _
        have e0:Hid (ac H.heap.size H wr):=b3;clear a3 a7 d8 a8 d9 b0;go_wp2;go_quiet (fail)
        go_wp2;go_ret;exact⟨by rw[J.out];simp,af (a2.out.trans (e0.out.mono a2.out.size)) _⟩
       |false =>
        go_enter func105,ntmps105;go_wp2;rw[<-a4.out];go_quiet (fail)
        generalize O:zf H _=I;have a7:I.cell? ⟨h,5,N⟩=aa (.slice mp a.c.L.length mc):=by rw[<-O];exact c6
        have d8:I.cell? ⟨h,9,N⟩=aa (.map (aa b)):=by rw[<-O];exact c9
        have a8:I.cell? ⟨w.heap.size,0,N⟩=aa (.string m1):=by rw[<-O];exact d0
        have a9:ac H.heap.size H I:=by rw[<-O];exact af bR _
        have b0:Hid (ac H.heap.size H I):=a9;have b1:I.heap=H.heap:=by rw[<-O];rfl
        have d9:∀n,(aA 122 (.map (aa b)) (.string m1) ao).run prog (I.drewN n)=.ok (.tuple #[d7,.bool aj]) (I.drewN n):=fun n=>a5.out (I.drewN n) (by show I.heap[b]?=_;rw[b1])
        clear O c0 c1 c2 c3 c6 c8 c9 d0 d1 d2 d3 d4 d5 a9 b1;go_wp2;go_quiet (fail)
        generalize a3:zf I _=wr;have f5:wr.cell? ⟨h,5,N⟩=aa (.slice mp a.c.L.length mc):=by rw[<-a3];exact a7
        have f6:wr.cell? ⟨w.heap.size,0,N⟩=aa (.string m1):=by rw[<-a3];exact a8
        have b3:ac H.heap.size H wr:=by rw[<-a3];exact af b0.out _
        have e0:Hid (ac H.heap.size H wr):=b3;clear a3 a7 d8 a8 d9 b0;go_wp2;go_quiet ((go_at_call 51;with_reducible exact Calls.quiet_of_same (a6.out _ (af b3 _))))
        go_wp2;go_ret;exact⟨by rw[J.out];simp,af (a2.out.trans (e0.out.mono a2.out.size)) _⟩
      ·skip
       have J:Hid (R=aj):=by show _=_;rw[Z.out,decide_eq_false (fun hq=>g5 hq.2.2.2.2),av]
       clear Z a6 a5;have b5:(m6==e8)=false:=by rw[beq_eq_false_iff_ne];exact g5
       go_enter func105,ntmps105;go_wp2;rw[<-a4.out];go_quiet (fail)
       go_wp2;go_ret;exact⟨by rw[J.out];rfl,af a2.out _⟩
     ·skip
      have J:Hid (R=aj):=by show _=_;rw[Z.out,decide_eq_false (fun hq=>g4 hq.2.2.2.1),av]
      clear Z a6 a5;have b4:(m5==e7)=false:=by rw[beq_eq_false_iff_ne];exact g4
      go_enter func105,ntmps105;go_wp2;rw[<-a4.out];go_quiet (fail)
      go_wp2;go_ret;exact⟨by rw[J.out];rfl,af a2.out _⟩
    ·skip
     have J:Hid (R=aj):=by show _=_;rw[Z.out,decide_eq_false (fun hq=>g3 hq.2.2.1),av]
     clear Z a6 a5;have t3:=XT g3;have u3:=YT g3;have v3:=Y8 g3;go_enter func105,ntmps105;go_wp2;rw[<-a4.out];go_quiet (fail)
     go_wp2;go_ret;exact⟨by rw[J.out];rfl,af a2.out _⟩
   ·skip
    have J:Hid (R=aj):=by show _=_;rw[Z.out,decide_eq_false (fun hq=>g2 hq.2.1),av]
    clear Z a6 a5;have t2:=XT g2;have u2:=YT g2;have v2:=Y8 g2;go_enter func105,ntmps105;go_wp2;rw[<-a4.out];go_quiet (fail)
    go_wp2;go_ret;exact⟨by rw[J.out];rfl,af a2.out _⟩
  ·skip
   have J:Hid (R=aj):=by show _=_;rw[Z.out,decide_eq_false (fun hq=>g1 hq.1),av]
   clear Z a6 a5;have t1:=XT g1;have u1:=YT g1;have v1:=Y8 g1;go_enter func105,ntmps105;go_wp2;rw[<-a4.out];go_quiet (fail)
   go_wp2;go_ret;exact⟨by rw[J.out];rfl,af a2.out _⟩
 ·have f7:m=none:=K.shut (by
   cases hs:a.st with
   |looking=>exact absurd (ai (ai hs)) U
   |sealing=>exact absurd (ai (ap hs)) U
   |keeping=>exact absurd (ap hs) U
   |done=>exact ai rfl
   |refused=>exact ap rfl)
  have J:Hid (a.aM ⟨m1,m2,m3,m4,m5,m6,m7,mL⟩=aj):=by
   show _=_;unfold Za.aM;have e:a.st.waits=⟨#[]⟩:=by
    cases hs:a.st with
    |looking=>exact absurd (ai (ai hs)) U
    |sealing=>exact absurd (ai (ap hs)) U
    |keeping=>exact absurd (ap hs) U
    |done=>rfl
    |refused=>rfl
   rw[decide_eq_false (fun hq=>hq.1 e),av]
  subst f7;have f4:=AD;clear hp K b2 a0 b6 U;generalize a.aM ⟨m1,m2,m3,m4,m5,m6,m7,mL⟩=R at *;go_enter func105,ntmps105;go_wp2;rw[<-a4.out];go_quiet (fail)
  go_wp2;go_ret;exact⟨by rw[J.out];rfl,af a2.out _⟩
end
section
variable {X:aE} {w w':World} {B h:Nat} {S S0:Nat->Prop} {a:Za} {P F T:J0} {asks:BA} {cv:ae} {aw:BA} {m:Option Nat} {D:bf ae} {row:BA->ae}
theorem CU (H:JF X w B h S S0 a P F T asks cv aw m D row):an prog 68 #[.pointer (aa ⟨h,0,N⟩)] w fun e w'=>e=.returned (.string a.st.word)/\ac w.heap.size w w':=by
 have I:w.cell? ⟨h,20,N⟩=aa (.string a.st.word):=H.cell 20;clear H;generalize a.st.word=J at *;go_enter func68,ntmps68;go_wp2;go_ret;exact⟨rfl,aq _ _⟩
theorem JlK (hp:JF X w B h S S0 a P F T asks cv aw m D row):an prog 110 #[.pointer (aa ⟨h,0,N⟩)] w fun e w'=>e=.returned (if a.st=.done/\a.found=ao then .tuple #[.agg #[.int .i64 a.tag.1,.int .i64 a.tag.2],.string a.text,.bool ao]else .tuple #[.agg #[.int .i64 0,.int .i64 0],.string ⟨#[]⟩,.bool aj])/\ac w.heap.size w w':=by
 obtain⟨H,I⟩:=Xb (w.alloc (.cells #[.int .i64 0,.int .i64 0] 39));have O:=Zk I;have a0:=hp.below O;have Z:=fQ I;obtain⟨k0,k1⟩:=lO (JH I);have f0:H.frozen? ⟨w.heap.size,0,N⟩=false:=by rw[I];exact zb _ _ _ _ rfl
 have f1:H.frozen? ⟨w.heap.size,1,N⟩=false:=by rw[I];exact zb _ _ _ _ rfl
 have a2:H.cell? ⟨h,20,N⟩=aa (.string a.st.word):=a0.cell 20;have a3:Hid _:=I;have a6:Hid _:=O;have a7:a.obj.2.2.1.size<=1000:=by
  unfold Za.obj;split
  ·exact hp.aN.text
  ·decide
 by_cases J:a.st=.done
 ·have a4:(if a.st=.done/\a.found=ao then(.tuple #[.agg #[.int .i64 a.tag.1,.int .i64 a.tag.2],.string a.text,.bool ao]:ae)else .tuple #[.agg #[.int .i64 0,.int .i64 0],.string ⟨#[]⟩,.bool aj])=.tuple #[.agg #[.int .i64 a.obj.1,.int .i64 a.obj.2.1],.string a.obj.2.2.1,.bool a.obj.2.2.2]:=by
   unfold Za.obj;by_cases hf:a.found=ao
   ·rw[if_pos ⟨J,hf⟩,if_pos ⟨ap J,hf⟩]
   ·rw[if_neg (fun e=>hf e.2),if_neg (fun e=>hf e.2)]
  rw[a4];have q:H.cell? ⟨h,20,N⟩=aa (.string ⟨#[100,111,110,101]⟩):=by rw[a2,J];rfl
  have HS:Hid (∀W,ac w.heap.size w W->(W.cell? ⟨h,21,N⟩=aa (.int .i64 a.obj.1)/\W.cell? ⟨h,22,N⟩=aa (.int .i64 a.obj.2.1)/\W.cell? ⟨h,23,N⟩=aa (.string a.obj.2.2.1)/\W.cell? ⟨h,24,N⟩=aa (.bool a.obj.2.2.2)/\ac w.heap.size w W)):=fun W K=>by
   have U:=hp.below K;exact⟨U.cell 21,U.cell 22,U.cell 23,U.cell 24,K⟩
  generalize a.obj=ob at *;obtain⟨o1,o2,o3,o4⟩:=ob;dsimp only at *;have a8:Hid (an prog 19 #[.string o3] H.drew fun e w'=>e=.returned (.string o3)/\(w'.cell? ⟨h,21,N⟩=aa (.int .i64 o1)/\w'.cell? ⟨h,22,N⟩=aa (.int .i64 o2)/\w'.cell? ⟨h,23,N⟩=aa (.string o3)/\w'.cell? ⟨h,24,N⟩=aa (.bool o4)/\ac w.heap.size w w')/\(w'.cell? ⟨w.heap.size,0,N⟩=aa (.int .i64 0)/\w'.cell? ⟨w.heap.size,1,N⟩=aa (.int .i64 0)/\w'.frozen? ⟨w.heap.size,0,N⟩=aj/\w'.frozen? ⟨w.heap.size,1,N⟩=aj)):=(Xs o3 H.drew (by omega)).mono fun e w' U=>by
   have K:=(aq _ H).drew.trans U.2;exact⟨U.1,HS.out w' (O.trans (K.mono O.size)),(K.cell (p:=⟨w.heap.size,0,N⟩) Z).trans k0,(K.cell (p:=⟨w.heap.size,1,N⟩) Z).trans k1,(K.frozen (p:=⟨w.heap.size,0,N⟩) Z).trans f0,(K.frozen (p:=⟨w.heap.size,1,N⟩) Z).trans f1⟩
  have a9:=HS.out H.drew O.drew;clear hp a0 a2 I O a4 J Z;go_enter func110,ntmps110;go_wp2_with (rw[<-a3.out])
  go_region_held3 (fun W=>(W.cell? ⟨h,21,N⟩=aa (.int .i64 o1)/\W.cell? ⟨h,22,N⟩=aa (.int .i64 o2)/\W.cell? ⟨h,23,N⟩=aa (.string o3)/\W.cell? ⟨h,24,N⟩=aa (.bool o4)/\ac w.heap.size w W)) (first|assumption|exact a9|exact HS.out _ ((a5.2.2.2.2.setCell nR _).setCell nR _)) (first|(go_at_call 19;refine a8.out.mono ?_;rintro e w2 ⟨rfl,a5,x0,x1,y0,y1⟩))
  have b0:Hid (ac w.heap.size w ((w2.setCell ⟨w.heap.size,0,N⟩ (.int .i64 o1)).setCell ⟨w.heap.size,1,N⟩ (.int .i64 o2))):=(a5.2.2.2.2.setCell nR _).setCell nR _;go_wp2;exact bodyPost_ret (v:=.tuple #[.agg #[.int .i64 o1,.int .i64 o2],.string o3,.bool o4]) (by simp[results,results110,go_sem,x0,x1]) rfl ⟨rfl,b0.out⟩
 ·rw[if_neg (fun e=>J e.1)];have b1:¬a.st.word.toList=[100,111,110,101]:=by
   generalize a.st=st at *;cases st<;>first|exact absurd rfl J|decide +kernel
  have b2:(a.st.word.toList==[100,111,110,101])=false:=by
   generalize a.st=st at *;cases st<;>first|exact absurd rfl J|decide +kernel
  clear hp a0 I O J Z a7;generalize a.st.word=sw at *;go_enter func110,ntmps110;go_wp2_with (rw[<-a3.out])
  exact bodyPost_ret (v:=.tuple #[.agg #[.int .i64 0,.int .i64 0],.string ⟨#[]⟩,.bool aj]) (by simp[results,results110,go_sem,k0,k1]) rfl ⟨rfl,(a6.out.setCell nR _).setCell nR _⟩
theorem yI {a a':Za}(P:J0)(aw:BA)(H:Nat)(I:ae)(F T:J0)(asks:BA)(cv:ae)(J:a'.name=a.name)(K:a'.key=a.key)(O:a'.op=a.op):(((((((JG a P aw H I F T asks cv).setIfInBounds 20 (.string a'.st.word)).setIfInBounds 21 (.int .i64 a'.obj.1)).setIfInBounds 22 (.int .i64 a'.obj.2.1)).setIfInBounds 23 (.string a'.obj.2.2.1)).setIfInBounds 24 (.bool a'.obj.2.2.2)).setIfInBounds 19 .nilFunc).setIfInBounds 9 (.map N)=JG a' P aw H (.map N) F T asks .nilFunc:=by
 unfold JG;rw[J,K,O];generalize a.obj=U;generalize a'.obj=Z;simp only[List.setIfInBounds_toArray,List.set_cons_zero,List.set_cons_succ]
theorem JnB (K:JF X w B h S S0 a P F T asks cv aw m D row)(H:Zb)(ht:a.aM H=ao)(a4:a.st=.keeping)(hv:∀v∈H.L,Jt v)(hf:H.from_.size<=6000):
 an prog 107 #[.pointer (aa ⟨h,0,N⟩),.string H.from_] w fun e w'=>e=.returned (.tuple #[])/\∃S',ZR X w' B h S' (if(a.heard H).from_.length<Jh a.c then a.heard H else {a.heard H with st:=.done})/\Yd S S' w w':=by
 obtain⟨b,d3,d9,e0,hH⟩:=K.open_ (ap a4);subst d3;obtain⟨n0,b1⟩:=hH.own;have b3:=b1.tight;have d4:Maps.size D<=12:=by
  rw[hH.size];obtain⟨⟨_,_,h3⟩,h4,_⟩:=Xm K.aN.cfg;have:=YS K.aN.nodup K.aN.sub;omega
 have d5:=K.lt;have b4:=GH H.from_ N [] 0 d5 (K.cell 9) b3 (by unfold aB;omega) (by omega) (Ql.nil _ _) (fun _=>⟨rfl,rfl⟩) (by decide) (fun v hv=>by cases hv);have a5:Hid (an prog 131 #[.pointer (aa ⟨h,0,N⟩),.string H.from_,.slice N 0 0] w fun e w'=>e=.returned (.tuple #[])/\∃S1 a6 D' a7,JF X w' B h S1 a6 (a.heard H) P F T asks cv aw (aa b) D' a7/\Yd S S1 w w'):=b4.mono fun e w' hq=>by
  obtain⟨h1,v',w1,h2,h3,h4⟩:=hq;exact⟨h1,K.heard ht hv (fun e=>absurd a4 (mT e).1) (by unfold aB;omega) h2 h3 h4⟩
 have a0:Hid ((a.heard H).st=.keeping):=a4;have b5:Hid (Jh P.c=Jh a.c):=by show _=_;rw[(K.here (ap a4)).2.1]
 clear b3 b1 hH b4 d4 K hv a4 ht;generalize a.heard H=a' at *;generalize H.from_=mf at *;by_cases b6:a'.from_.length<Jh a.c
 ·rw[if_pos b6];go_enter func107,ntmps107;go_wp2_with fail
  refine a5.out.mono ?_;rintro e w2 ⟨rfl,S1,a6,D',a7,I,hU⟩;obtain⟨b2,a8,_,_,a2⟩:=I.open_ (ap a0.out);have O:=uF (h:=h) (Jh P.c) a2 (by rw[I.cell 9,a8];rfl) (I.cell 8);have a3:decide (Jh P.c<=a'.from_.length)=false:=decide_eq_false (by rw[b5.out];omega);rw[a3]at O;have a9:Hid _:=I;have b0:Hid _:=hU;clear I hU a2 a3 a5;go_wp2_with fail
  refine O.mono ?_;rintro e U ⟨rfl,Z⟩;have b7:Hid (ac w2.heap.size w2 U):=Z;clear Z O;go_wp2
  go_end0
  exact⟨rfl,S1,⟨_,_,_,_,_,_,_,_,_,_,a9.out.below b7.out⟩,b0.out.trans (Yd.aJ b7.out)⟩
 ·rw[if_neg b6];go_enter func107,ntmps107;go_wp2_with fail
  refine a5.out.mono ?_;rintro e w2 ⟨rfl,S1,a6,D',a7,I,hU⟩;obtain⟨b2,a8,_,_,a2⟩:=I.open_ (ap a0.out);have O:=uF (h:=h) (Jh P.c) a2 (by rw[I.cell 9,a8];rfl) (I.cell 8);have a3:decide (Jh P.c<=a'.from_.length)=true:=decide_eq_true (by rw[b5.out];omega);rw[a3]at O;have a9:Hid (JF X w2 B h S1 a6 a' P F T asks cv aw (aa b) D' a7):=I;have b0:Hid (Yd S S1 w w2):=hU;clear I hU a2 a3 a5;go_wp2_with fail
  refine O.mono ?_;rintro e U ⟨rfl,Z⟩;have J:=a9.out.below Z;have b8:a'.obj=(a'.tag.1,a'.tag.2,a'.text,ao):=if_pos ⟨ai a0.out,J.aN.aS a0.out⟩;have e1:U.cell? ⟨h,21,N⟩=aa (.int .i64 a'.obj.1):=J.cell 21;have e2:U.cell? ⟨h,22,N⟩=aa (.int .i64 a'.obj.2.1):=J.cell 22;have e3:U.cell? ⟨h,23,N⟩=aa (.string a'.obj.2.2.1):=J.cell 23;have e4:U.cell? ⟨h,24,N⟩=aa (.bool a'.obj.2.2.2):=J.cell 24;have c8:=wK ⟨#[100,111,110,101]⟩ a'.obj.1 a'.obj.2.1 a'.obj.2.2.1 a'.obj.2.2.2 J.blk rfl;have d0:Hid (an prog 106 #[.pointer (aa ⟨h,0,N⟩),.string ⟨#[100,111,110,101]⟩,.agg #[.int .i64 a'.obj.1,.int .i64 a'.obj.2.1,.string a'.obj.2.2.1,.bool a'.obj.2.2.2]] U fun e w'=>e=.returned (.tuple #[])/\ZR X w' B h S1 {a' with st:=.done}/\Yd S S1 w w'):=c8.mono fun e w' hq=>by
   obtain⟨h1,h2⟩:=hq;have d6:({a' with st:=.done}:Za).obj=a'.obj:=by rw[b8];exact if_pos ⟨ap rfl,J.aN.aS a0.out⟩
   refine⟨h1,J.ended (cv':=.nilFunc) (a':={a' with st:=.done}) ?_ rfl rfl rfl (J.aN.ended (ai rfl)) (ai rfl),(b0.out.trans (Yd.aJ Z)).trans (h2.nJ J.self (fun k hk=>ai hk))⟩;rw[<-d6]at h2;exact(yI (a:=a') (a':={a' with st:=.done}) P aw _ (.map (aa b)) F T asks cv rfl rfl rfl)▸h2
  clear J Z O c8 b8;generalize a'.obj=ob at *;obtain⟨o1,o2,o3,o4⟩:=ob;dsimp only at *;go_wp2_with fail
  refine d0.out.mono ?_;rintro e w4 ⟨rfl,d1,d2⟩;have d7:Hid (ZR X w4 B h S1 {a' with st:=.done}):=d1;have d8:Hid (Yd S S1 w w4):=d2;clear d1 d2 d0;go_wp2
  go_end0
  exact⟨rfl,S1,d7.out,d8.out⟩
end
theorem NW:(prog.info? 90).map (fun i=>(i.zero,i.size,i.bytes))=aa (aa (.agg #[.string ⟨#[]⟩,.string ⟨#[]⟩,.string ⟨#[]⟩,.string ⟨#[]⟩,.int .i64 0,.int .i64 0,.bool aj,.slice N 0 0]),mE.k,112):=KE _ (by kernel_rfl)
def zD (w:World)(B:FuncId)(D:Array ae)(n:Nat)(H:Nat->Zb):Prop :=
 ∀i,i<n->∀W,ac w.heap.size w W->an prog B (#[.int .i64 (i:Int)]++D) W fun e w'=>(∃lv:Lv,e=.returned (.slice lv.1 lv.2.1 lv.2.2)/\Jn w' (H i,lv)/\∀b o,lv.1=aa ⟨b,o,N⟩->W.heap.size<=b/\b<w'.heap.size)/\ac W.heap.size W w'
theorem LH (B:Nat->Zb)(i:Nat):(au (i+1)).map B=(au i).map B++ [B i]:=by rw[List.range_succ,bb];rfl
theorem A4 (h n:Nat)(nm U kind:BA)(op cn ck cf:Int)(L:List BA)(p:Option bg)(cap:Nat)(fn:FuncId)(a4:Array ae)(B:Nat->Zb)(w:World)
 (q0:w.cell? ⟨h,0,N⟩=aa (.string nm)) (q1:w.cell? ⟨h,1,N⟩=aa (.string U)) (q2:w.cell? ⟨h,2,N⟩=aa (.int .i64 op))
 (hL:L.length=n) (a7:Strs w p L) (hn:n<=1000) (j2:nm.size<=1000000) (k0:U.size<=1000000) (f9:∀x∈L,x.size<=1000000)
 (g0:∀i,i<n->(B i).from_=nm/\(B i).aP=Yc L i/\(B i).kind=kind/\(B i).key=U/\(B i).op=op/\(B i).config=cf/\(B i).shut=aj)
 (k2:∀args W,Sem.run prog (callFunc fn args) W=.ok (.enter fn args) W) (hg:zD w fn a4 n B):
 an prog 92 #[.pointer (aa ⟨h,0,N⟩),.agg #[.int .i64 cn,.int .i64 ck,.slice p n cap,.int .i64 cf],.string kind,.func (.func fn) #[] a4] w fun e w'=>(∃p c,e=.returned (.slice p n c)/\QE c w.heap.size w' p ((au n).map B))/\ac w.heap.size w w':=by
 have a5:=YC q0;obtain⟨D,a2⟩:=Xb (w.alloc (.cells #[.int .i64 cn,.int .i64 ck,.slice p n cap,.int .i64 cf] 121));have a0:=Zk a2;have a8:=fQ a2;have q3:D.cell? ⟨w.heap.size,3,N⟩=aa (.int .i64 cf):=XX a2 rfl;have q6:D.cell? ⟨w.heap.size,2,N⟩=aa (.slice p n cap):=XX a2 rfl
 replace q0:=(a0.cell (p:=⟨h,0,N⟩) a5).trans q0
 replace q1:=(a0.cell (p:=⟨h,1,N⟩) a5).trans q1
 replace q2:=(a0.cell (p:=⟨h,2,N⟩) a5).trans q2
 replace a7:=a7.below a0
 have b8:zD D fn a4 n B:=fun i hi W K=>hg i hi W (a0.trans (K.mono a0.size))
 have g4:Hid _:=a2;have a9:Hid _:=a0;obtain⟨pb,b0⟩:=Xb w.heap.size;rw[<-b0]at q3 q6 a8;have g5:Hid _:=b0;have b1:h<D.heap.size:=YC q0;have g6:Hid (Strs D p L):=a7;have b2:Hid (L.length=n):=hL;have g7:Hid (∀x∈L,x.size<=1000000):=f9;have g8:Hid (∀i,i<n->(B i).from_=nm/\(B i).aP=Yc L i/\(B i).kind=kind/\(B i).key=U/\(B i).op=op/\(B i).config=cf/\(B i).shut=aj):=g0;have HG:Hid (zD D fn a4 n B):=b8;have HS:Hid (∀W,ac D.heap.size D W->(W.cell? ⟨h,0,N⟩=aa (.string nm)/\W.cell? ⟨h,1,N⟩=aa (.string U)/\W.cell? ⟨h,2,N⟩=aa (.int .i64 op)/\W.cell? ⟨pb,3,N⟩=aa (.int .i64 cf)/\ac D.heap.size D W)):=fun W K =>
  ⟨(K.cell (p:=⟨h,0,N⟩) b1).trans q0,(K.cell (p:=⟨h,1,N⟩) b1).trans q1,(K.cell (p:=⟨h,2,N⟩) b1).trans q2,(K.cell (p:=⟨pb,3,N⟩) a8).trans q3,K⟩
 clear a7 hL f9 g0 hg b8 q0 q1 q2 q3 a2 a0 a5 b0 a8;go_enter func92,ntmps92;go_wp2_with (rw[<-g4.out,<-g5.out])
 go_loopw [9,16] (fun v x wr=>∃i:Nat,i<=n/\x=.int .i64 i/\(∃I,I.map ze=(au i).map B/\J1 90 D.heap.size wr v I)/\ac D.heap.size D wr) (fun _ x _=>n-(intOf x).toNat)
 case atStart=>exact⟨0,zk _,rfl,⟨[],rfl,J1.nil _ _ _⟩,aq _ _⟩
 case round =>
  obtain⟨i,hi,rfl,⟨I,b3,hO⟩,hB⟩:=hrel;obtain⟨H,rfl⟩:=Xb wr;obtain⟨pv,cv,rfl,_,_,_,_⟩:=hO.1.form;have c8:I.length=i:=by have:=congrArg List.length b3;simpa using this
  have i4:I.length<=1000:=by omega
  have d0:Hid (I.map ze=(au i).map B):=b3;have g9:Hid (I.length=i):=c8;have HO:Hid (J1 90 D.heap.size H (.slice pv I.length cv) I):=hO;have Z:Hid (ac D.heap.size D H):=hB;have b4:D.heap.size<=H.heap.size:=hB.size;clear hO b3 c8;by_cases a6:i<n
  ·rcases g6.out.below hB with h0|⟨b,o,h6,i5,d1⟩
   ·have:L.length=0:=by rw[h0];rfl
    have:=b2.out;omega
   have q7:=d1 i (by rw[b2.out];exact a6);have i8:(Yc L i).size<=1000000:=by
    rw[Xk L i (by rw[b2.out];exact a6)];exact g7.out _ (aW _)
   obtain⟨f1,f2,f3,f4,f5,f6,f7⟩:=g8.out i a6;have HM:Hid ((B i).from_=nm/\(B i).aP=Yc L i/\(B i).kind=kind/\(B i).key=U/\(B i).op=op/\(B i).config=cf/\(B i).shut=aj):=⟨f1,f2,f3,f4,f5,f6,f7⟩;have HT:Hid ((au (i+1)).map B=(au i).map B++ [B i]):=LH B i;subst h6;generalize Yc L i=t at *;have d2:Hid (∀s W,s.size<=1000000->Hid (ac H.heap.size H W)->an prog 19 #[.string s] W fun e w'=>e=.returned (.string s)/\Hid (ac H.heap.size H w')/\(w'.cell? ⟨h,0,N⟩=aa (.string nm)/\w'.cell? ⟨h,1,N⟩=aa (.string U)/\w'.cell? ⟨h,2,N⟩=aa (.int .i64 op)/\w'.cell? ⟨pb,3,N⟩=aa (.int .i64 cf)/\ac D.heap.size D w')):=fun s W hs K=>(Xs s W (by omega)).mono fun e w' hp=>by
    have h1:ac H.heap.size H w':=K.out.trans (hp.2.mono K.out.size);exact⟨hp.1,h1,HS.out w' (Z.out.trans (h1.mono Z.out.size))⟩
   have HV:Hid (∀W,Hid (ac H.heap.size H W)->an prog fn (#[.int .i64 (i:Int)]++a4) W fun e w'=>∃lv:Lv,e=.returned (.slice lv.1 lv.2.1 lv.2.2)/\Hid (Jn w' (B i,lv)/\∀b o,lv.1=aa ⟨b,o,N⟩->H.heap.size<=b/\b<w'.heap.size)/\Hid (ac H.heap.size H w')/\(w'.cell? ⟨h,0,N⟩=aa (.string nm)/\w'.cell? ⟨h,1,N⟩=aa (.string U)/\w'.cell? ⟨h,2,N⟩=aa (.int .i64 op)/\w'.cell? ⟨pb,3,N⟩=aa (.int .i64 cf)/\ac D.heap.size D w')):=fun W K=>(HG.out i a6 W (Z.out.trans (K.out.mono Z.out.size))).mono fun e w' hp=>by
    obtain⟨⟨lv,h1,h2,h3⟩,h4⟩:=hp;have h5:ac H.heap.size H w':=K.out.trans (h4.mono K.out.size);exact⟨lv,h1,⟨h2,fun b o e=>⟨am K.out.size (h3 b o e).1,(h3 b o e).2⟩⟩,h5,HS.out w' (Z.out.trans (h5.mono Z.out.size))⟩
   have h7:Hid (ac H.heap.size H H.drew):=bR.drew;have d3:=HS.out H.drew hB.drew;have d4:Hid (∀J (lv:Lv),Hid (ac H.heap.size H J)->Hid (Jn J (B i,lv)/\∀b o,lv.1=aa ⟨b,o,N⟩->H.heap.size<=b/\b<J.heap.size)->∀o5,o5=Obj.cells #[.string nm,.string t,.string kind,.string U,.int .i64 op,.int .i64 cf,.bool aj,.slice lv.1 lv.2.1 lv.2.2] 90->Zc mE 90 (J.alloc o5) D.heap.size (.slice pv I.length cv) I/\(∀j u,(mE.enc (B i,lv))[j]?=aa u->(J.alloc o5).cell? ⟨J.heap.size,j,N⟩=aa u)/\D.heap.size<=(J.alloc o5).heap.size/\∀v6 O,Zc mE 90 O D.heap.size v6 (I++ [(B i,lv)])->(J.alloc o5).grownBy O (Value.slice pv I.length cv).ownBlock->(v6.ownBlock=(Value.slice pv I.length cv).ownBlock∨v6.ownBlock=aa (J.alloc o5).heap.size)->J1 90 D.heap.size O v6 (I++ [(B i,lv)])/\(O.cell? ⟨h,0,N⟩=aa (.string nm)/\O.cell? ⟨h,1,N⟩=aa (.string U)/\O.cell? ⟨h,2,N⟩=aa (.int .i64 op)/\O.cell? ⟨pb,3,N⟩=aa (.int .i64 cf)/\ac D.heap.size D O)):=fun J lv d5 b5 o5 h8=>by
    have b6:ac J.heap.size J (J.alloc o5):=bR.alloc nR _;have a3:ac H.heap.size H (J.alloc o5):=d5.out.trans (b6.mono d5.out.size);have d6:=HO.out.kept a3;refine⟨d6.1,fun j u hj=>?_,am b4 a3.size,fun v6 O g1 g2 g3=>⟨HO.out.snoc b4 a3 (b5.out.1.below b6) (fun b o e=>⟨(b5.out.2 b o e).1,ab (b5.out.2 b o e).2 b6.size⟩) g1 g2 g3,HS.out O ?_⟩⟩
    ·subst h8;rw[zg _ _ _ _ rfl];obtain⟨f1,f2,f3,f4,f5,f6,f7⟩:=HM.out;simpa[mE,Jw,f1,f2,f3,f4,f5,f6,f7]using hj
    ·exact(Z.out.trans (a3.mono Z.out.size)).grown g2 (am b4 a3.size) (fun k hk=>(d6.1.block hk).1)
   clear d1 f1 f2 f3 f4 f5 f6 f7 hB;go_wp2;go_region_held3 (fun W=>(W.cell? ⟨h,0,N⟩=aa (.string nm)/\W.cell? ⟨h,1,N⟩=aa (.string U)/\W.cell? ⟨h,2,N⟩=aa (.int .i64 op)/\W.cell? ⟨pb,3,N⟩=aa (.int .i64 cf)/\ac D.heap.size D W)) (first|assumption|exact d3|exact HS.out _ (b7.2.2.2.2.alloc b7.2.2.2.2.size _)) (first|(go_at_call 19;refine(d2.out _ _ (by assumption) (by assumption)).mono ?_;rintro e wn ⟨rfl,i9,j1⟩)|(refine(HV.out _ (by assumption)).mono ?_;rintro e J ⟨lv,rfl,d7,d8,b7⟩)|(obtain⟨d9,e0,e1,e2⟩:=d4.out J lv d8 d7 _ rfl;refine NJ (E:=mE) rfl (.tmp 21) (.tmp 45) 46 90 rfl (.agg #[.string ⟨#[]⟩,.string ⟨#[]⟩,.string ⟨#[]⟩,.string ⟨#[]⟩,.int .i64 0,.int .i64 0,.bool aj,.slice N 0 0]) 112 underlying46 NW rfl D.heap.size (.slice pv I.length cv) I (by simp[Act.eval]) d9 J.heap.size 1 (B i,lv) (by simp[Act.eval]) e0 (by unfold aB;omega) (by omega) e1 ?_;intro v6 O e3 e4 e5;obtain⟨e6,e7⟩:=e2 v6 O e3 e4 e5;clear d9 e0 e1 e2 e3 e4 e5))
   have h9:Hid (J1 90 D.heap.size O v6 (I++ [(B i,lv)])):=e6;have i0:Hid (ac D.heap.size D O):=e7.2.2.2.2;have i1:Hid ((I++ [(B i,lv)]).map ze=(au (i+1)).map B):=by show _=_;rw[bb,d0.out,HT.out];rfl
   clear e6 e7 b7 d8 d7 d2 HV d4 d3 h7 HO;go_wp2;go_roundw
   case rel=>exact⟨i+1,by omega,by go_num,⟨_,i1.out,h9.out⟩,i0.out⟩
   case measure=>simp[intOf];omega
  ·have e8:i=n:=by omega
   obtain⟨p6,c6,e9,f8⟩:=HO.out.SO;have i2:Hid (QE c6 D.heap.size H p6 (I.map ze)):=f8;have i3:Hid (Value.slice pv I.length cv=.slice p6 I.length c6):=e9;clear e9 f8;go_wp2;go_ret;refine⟨⟨p6,c6,?_,?_⟩,a9.out.trans (Z.out.mono a9.out.size)⟩
   ·rw[i3.out,g9.out,e8];rfl
   ·have:=i2.out;rw[d0.out,e8]at this;exact this.mono a9.out.size
theorem TC (i:Int)(W:World):an prog 93 (#[.int .i64 i]++#[]) W fun e w'=>e=.returned (.slice N 0 0)/\w'=W:=by
 show an prog 93 #[.int .i64 i] W _;go_enter func93,ntmps93;go_wp2;go_ret;exact⟨rfl,rfl⟩
theorem GQ {c:Xg}(h:¬0<(Jg c).1):∃n k:Nat,c.n=(n:Int)/\c.k=(k:Int)/\1<=k/\k<=n/\n<=12/\c.L.length=n/\∀x∈c.L,x.size<=100:=by
 obtain⟨⟨H,I,J⟩,K,_,B,_⟩:=Xm h;exact⟨c.n.toNat,c.k.toNat,by omega,by omega,by omega,by omega,by omega,by omega,fun x D=>by have:=QF (B x D);omega⟩
def gZ (a:Za)(F:J0)(asks:BA):List Zb:=(au F.c.L.length).map fun i=>⟨a.name,Yc F.c.L i,asks,a.key,a.op,F.num,aj,[]⟩
theorem KA {B:Nat}{a:Za}{P F T:J0}{asks:BA}{aw:BA}{m:Option Nat}(H:JF X w B h S S0 a P F T asks cv aw m D row):an prog 67 #[.pointer (aa ⟨h,0,N⟩)] w fun e w'=>(∃p c,e=.returned (.slice p (gZ a F asks).length c)/\QE c w.heap.size w' p (gZ a F asks))/\ac w.heap.size w w':=by
 obtain⟨n,k,hn,hk,a3,a4,a5,J,Z⟩:=GQ H.stat.fr.aN;obtain⟨p,K,O,a0,_,_,_⟩:=H.stat.fr.mem;rw[J]at O;have a2:(gZ a F asks).length=n:=by unfold gZ;simp[J]
 have a6:w.cell? ⟨h,10,N⟩=aa (.int .i64 F.c.n):=H.cell 10;have a7:w.cell? ⟨h,11,N⟩=aa (.int .i64 F.c.k):=H.cell 11;have a8:w.cell? ⟨h,12,N⟩=aa (.slice p n K):=by rw[<-O];exact H.cell 12
 have a9:w.cell? ⟨h,13,N⟩=aa (.int .i64 F.num):=H.cell 13;have b0:w.cell? ⟨h,18,N⟩=aa (.string asks):=H.cell 18;have HC:Hid (an prog 92 #[.pointer (aa ⟨h,0,N⟩),.agg #[.int .i64 F.c.n,.int .i64 F.c.k,.slice p n K,.int .i64 F.num],.string asks,.func (.func 93) #[] #[]] w.drew fun e w'=>(∃p c,e=.returned (.slice p n c)/\Hid (QE c w.heap.size w' p (gZ a F asks)))/\Hid (ac w.heap.size w w')):=by
  have I:=H.below (aq _ w).drew;refine(A4 h n a.name a.key asks a.op F.c.n F.c.k F.num F.c.L p K 93 #[] (fun i=>(⟨a.name,Yc F.c.L i,asks,a.key,a.op,F.num,aj,[]⟩:Zb)) w.drew (I.cell 0) (I.cell 1) (I.cell 2) J (a0.below (aq _ w).drew) (by omega) (by have:=H.aN.name;omega) (by have:=H.aN.key;omega) (fun x hx=>by have:=Z x hx;omega) (fun i _=>⟨rfl,rfl,rfl,rfl,rfl,rfl,rfl⟩) (fun args W=>by kernel_rfl) (fun i _ W _=>(TC i W).mono fun e w' I=>⟨⟨(N,0,0),I.1,⟨rfl,Ql.nil _ _,aC _,fun _=>⟨rfl,rfl⟩⟩,fun b o e=>by cases e⟩,by rw[I.2];exact aq _ _⟩)).mono fun e w' I=>?_
  obtain⟨⟨U,c1,e1,e2⟩,e3⟩:=I;refine⟨⟨U,c1,e1,?_⟩,(aq _ w).drew.trans e3⟩;unfold gZ;rw[J];exact e2
 rw[a2];clear a0 Z O a2 H hn hk;go_enter func67,ntmps67;go_wp2;refine wp_region_still_tail 11 (by kernel_rfl) (by kernel_rfl) ?_;simp only[List.take_succ_cons,List.take_zero,List.drop_succ_cons,List.drop_zero]
 still_step
 still_step
 still_step
 still_step
 still_step
 still_step
 still_step
 still_step
 still_step
 still_step
 still_step
 refine wpStill_nil ?_;go_wp2_with fail
 refine HC.out.mono ?_;rintro e w1 ⟨⟨U,c1,rfl,hm⟩,hb⟩;clear HC;go_wp2;go_ret;exact⟨⟨U,c1,rfl,hm.out⟩,hb.out⟩
end Go.Proofs.YtgapmoniajcliaaGreatDoor
